/-
  AggrCut.
-/
import Derived.Test.YtifbbikhjolnjaaDoorAg10
namespace Go.Proofs.YtifbbikhjolnjaaDoor
open Go.RowKit
set_option linter.unusedVariables false

set_option maxRecDepth 100000 in
set_option maxHeartbeats 4000000 in
theorem cut_walk (size cut : Int) (ao : Option Addr) (n cap : Nat) (rs : List Rec) (w : World) (hT : Tab w) (hl : rs.length = n) (hnc : n ≤ cap) (hcm : cap ≤ maxLen) (h : Rs w ao rs) :
    Calls Tryd.prog 4 #[.int .i64 size, .slice ao n cap, .int .i64 cut] w fun e w' => e = .returned (.bool true) ∧ Below w.heap.size w w' := by
  have hm : n ≤ maxLen := Nat.le_trans hnc hcm
  have hHA := heavy_any ao n cap rs w hl hm h
  have hPA := pack_any size ao n cap rs w hl hm hT h
  have HHA := Lib.hid hHA; have HPA := Lib.hid hPA
  have HT := Lib.hid hT; have HL := Lib.hid hl; have HR := Lib.hid h; have HCM := Lib.hid hcm
  clear hHA hPA hT h hl
  go_enter Tryd.func4, Tryd.ntmps4
  go_wp2_with (go_at_call 8; fail)
  refine HHA.out.mono ?_
  rintro e w' ⟨hh, rfl⟩
  rcases hh with rfl | ⟨rfl, hn80, _⟩
  · clear HPA
    go_wp2
    go_ret
    exact ⟨rfl, Below.refl _ _⟩
  clear HHA
  go_wp2_with (go_at_call 11; fail)
  refine HPA.out.mono ?_
  rintro e w1 ⟨hB1, hc⟩
  have HB1 := Lib.hid hB1
  clear hB1 HPA
  rcases hc with ⟨hjA, b1, c1, oo, oc, ps, rfl, hops, hon, hpz, hlen, hbts, _, _, hn1, hn2⟩ | ⟨hjA, rfl⟩
  rotate_left
  · obtain ⟨er, her⟩ : ∃ er, er = jE size rs := ⟨_, rfl⟩
    rw [← her] at hjA ⊢
    have d2 : (er != 0) = true := by simp [hjA]
    have HWK := Lib.hid (wakes15 w1 (HT.out.below HB1.out))
    clear her hjA
    go_wp2_with (go_at_call 16; refine HWK.out.mono ?_; rintro e w9 ⟨rfl, hB9⟩; have HB9 := Lib.hid hB9; clear hB9)
    go_ret
    exact ⟨rfl, HB1.out.trans (HB9.out.mono HB1.out.size)⟩
  rw [HL.out] at hon hn1 hn2 ⊢
  obtain ⟨s, rfl⟩ : ∃ s : Nat, size = (s : Int) := ⟨size.toNat, by omega⟩
  have hs1 : 32 ≤ s := by omega
  have hs2 : s ≤ 256 := by omega
  rw [Int.toNat_natCast] at hops hpz ⊢
  have HFA := Lib.hid (flat_blocks hops hpz hs1 hs2 hlen (by rw [ag_len]; omega) w1 (Below.refl _ _))
  have HOK := Lib.hid (jE_all _ rs w ao hjA HR.out)
  have HBL := Lib.hid (block_len hops hpz (by omega))
  have HON := Lib.hid hon; have HBT := Lib.hid hbts; have HOPS := Lib.hid hops
  have hN26 : (ag rs).length = 26 + (frs rs).length := ag_len rs
  have hq2 : nb (ag rs).length s ≤ 20000 := nb_small _ _ hs1 hlen
  obtain ⟨N, hN⟩ : ∃ N, N = (ag rs).length := ⟨_, rfl⟩
  rw [← hN] at HFA HBL HOPS hlen hN26 hq2 ⊢
  obtain ⟨q, hq⟩ : ∃ q, q = nb N s := ⟨_, rfl⟩
  rw [← hq] at HFA HBL HOPS hq2 ⊢
  have HN := Lib.hid hN
  have HNN := Lib.hid (show N ≤ 600000 ∧ 26 ≤ N ∧ q ≤ 20000 from ⟨hlen, by omega, hq2⟩)
  have dN : ((N : Int) == 0) = false := beq_eq_false_iff_ne.2 (by omega)
  have dN' : (N == 0) = false := beq_eq_false_iff_ne.2 (by omega)
  have dn : ((n : Int) != n) = false := by simp
  clear hops hon hpz hbts hjA hq hN hlen hN26 hq2
  go_wp2_with (go_at_call 18; fail)
  refine HFA.out.mono ?_
  rintro e w2 ⟨k2, c2, rfl, ho2, hB2⟩
  have HO2 := Lib.hid ho2; have HB2 := Lib.hid hB2
  have HW2 := Lib.hid (HB1.out.trans (hB2.mono HB1.out.size))
  clear ho2 hB2 HFA
  go_wp2
  go_loopw [11] (fun i wr => ∃ k : Nat, k ≤ q ∧ i = .int .i64 k ∧ Below w2.heap.size w2 wr) (fun i _ => q - (intOf i).toNat)
  case atStart => exact ⟨0, Nat.zero_le _, rfl, Below.refl _ _⟩
  case round =>
    obtain ⟨k, hkq, rfl, hB⟩ := hrel
    have hq20 : q ≤ 20000 := HNN.out.2.2
    by_cases hlt : k < q
    · have hops' := (HOPS.out.below HB2.out).below hB
      have hkp : k < ps.length := by rw [hops'.len]; exact hlt
      obtain ⟨g, rfl, _, hcell, hown⟩ := hops'.at hkp
      obtain ⟨l1, l2, l3⟩ := HBL.out k hkp
      obtain ⟨p, hp⟩ : ∃ p, p = ps[k] := ⟨_, rfl⟩
      rw [← hp] at hcell l1 l2 l3
      obtain ⟨pa, pl, pc, pz⟩ := p
      simp only at hcell l1 l2 l3
      have HB := Lib.hid hB
      have e0 : decide ((k : Int) < (q : Int)) = true := decide_eq_true (by omega)
      have e1 : decide ((pl : Int) < 1) = false := decide_eq_false (by omega)
      have e1' : decide (pl < 1) = false := decide_eq_false (by omega)
      have e2 : decide ((s : Int) < (pl : Int)) = false := decide_eq_false (by omega)
      have e2' : decide (s < pl) = false := decide_eq_false (by omega)
      clear hops' hB hp hown hkp
      by_cases hk1 : k + 1 < q
      · have e3 : decide ((k : Int) < (q : Int) - 1) = true := decide_eq_true (by omega)
        obtain rfl : pl = s := l3 hk1
        have e4 : ((pl : Int) != pl) = false := by simp
        clear l1 l2 l3
        go_wp2
        go_roundw
        case rel => exact ⟨k + 1, by omega, by go_num, HB.out⟩
        case measure => simp [intOf]; omega
      · have e3 : decide ((k : Int) < (q : Int) - 1) = false := decide_eq_false (by omega)
        clear l1 l2 l3
        go_wp2
        go_roundw
        case rel => exact ⟨k + 1, by omega, by go_num, HB.out⟩
        case measure => simp [intOf]; omega
    · obtain rfl : k = q := by omega
      have e0 : decide ((k : Int) < (k : Int)) = false := decide_eq_false (by omega)
      have HB := Lib.hid (HW2.out.trans (hB.mono HW2.out.size)); have HB2W := Lib.hid hB
      clear hB HBL HOPS
      go_wp2
      go_loopw [12] (fun i wz => ∃ j : Nat, j ≤ n ∧ i = .int .i64 j ∧ Below w2.heap.size w2 wz) (fun i _ => n - (intOf i).toNat)
      case atStart => exact ⟨0, Nat.zero_le _, rfl, HB2W.out⟩
      case round =>
        obtain ⟨j, hjn, rfl, hB⟩ := hrel
        by_cases hlt : j < n
        · have hBw := HW2.out.trans (hB.mono HW2.out.size)
          have hjr : j < rs.length := by rw [HL.out]; exact hlt
          obtain ⟨hnok, h8, _, _, hbt⟩ := HOK.out j hjr
          obtain ⟨b, o, rfl, hc⟩ : ∃ b o, ao = some ⟨b, o, none⟩ ∧ _ := by
            rcases HR.out.below hBw with h | h
            · rw [h] at hjr; exact absurd hjr (Nat.not_lt_zero _)
            · exact h
          obtain ⟨x0, x1, x2, hd⟩ := hc j hjr
          obtain ⟨go, rfl, _, hoc⟩ := ((HON.out.below HB2.out).below hB).at hlt
          rw [offP_get rs n j hlt] at hoc
          have hsplit : ag rs = (fr 4 rs.length [] ++ frs (rs.take j)) ++ (fr rs[j].k rs[j].s rs[j].d.z ++ (frs (rs.drop (j + 1)) ++ fr 5 rs.length [])) := by
            unfold ag
            rw [frs_split rs j hjr]
            simp only [List.append_assoc]
          have hfr := fread_at k2 N c2 _ _ _ _ _ _ wr (HT.out.below hBw) hnok h8 hsplit HBT.out HN.out.symm HO2.out.2.1 (by have := HNN.out; omega) HO2.out.2.2.1 (HO2.out.below hB).rd (13 + (frs (rs.take j)).length) (by rw [List.length_append, fr_len]; rfl)
          have hN1 := HNN.out.1
          have hPN : 13 + (frs (rs.take j)).length ≤ N := by
            have := congrArg List.length hsplit
            rw [← HN.out, List.length_append, List.length_append, fr_len] at this
            simp only [List.length_nil] at this
            omega
          obtain ⟨r, hr⟩ : ∃ r, r = rs[j] := ⟨_, rfl⟩
          rw [← hr] at hfr x0 x1 x2 hd h8 hbt
          obtain ⟨P, hP⟩ : ∃ P : Nat, P = 13 + (frs (rs.take j)).length := ⟨_, rfl⟩
          rw [← hP] at hfr hoc hPN
          obtain ⟨kk, ss, ⟨ra, m, rc, z⟩⟩ := r
          simp only at hfr x0 x1 x2 hd h8 hbt
          have hzm : z.length = m := hd.len
          rw [hzm, show ((P + 13 + m : Nat) : Int) = (P : Int) + 13 + (m : Int) by omega] at hfr
          have hm8 : m ≤ 8000 := by rw [← hzm]; exact h8
          have hkr := fun (V : World) (hV : Below wr.heap.size wr V) (k3 : Option Addr) (c3 : Nat) (hok : Part.ok V ⟨k3, m, c3, z⟩) => keep_rec ⟨kk, ss, ⟨k3, m, c3, z⟩⟩ ⟨kk, ss, ⟨ra, m, rc, z⟩⟩ V hok (hd.below hV)
          have hlo : ∀ V, Below wr.heap.size wr V → V.cell? ⟨b, o + j * 3, none⟩ = some (.int .i64 kk) ∧ V.cell? ⟨b, o + j * 3 + 1, none⟩ = some (.int .i64 ss) ∧ V.cell? ⟨b, o + j * 3 + 2, none⟩ = some (.slice ra m rc) := fun V hV => ⟨(hV.cell (cell_lt x0)).trans x0, (hV.cell (cell_lt x1)).trans x1, (hV.cell (cell_lt x2)).trans x2⟩
          have hlo2 : ∀ V, Below wr.heap.size wr V → V.cell? ⟨go, j, none⟩ = some (.int .i64 (P : Int)) := fun V hV => (hV.cell (cell_lt hoc)).trans hoc
          have HFR := Lib.hid hfr; have HKR := Lib.hid hkr; have HLO := Lib.hid hlo; have HLO2 := Lib.hid hlo2; have HBZ := Lib.hid hbt
          have HB := Lib.hid hB
          have e0 : decide ((j : Int) < (n : Int)) = true := decide_eq_true (by omega)
          have dne : (((P : Int) + 13 + (m : Int)) != ((P : Int) + 13 + (m : Int))) = false := by simp
          clear hfr hkr hlo hlo2 hbt hB hBw hnok h8 hc x0 x1 x2 hd hsplit hzm hP hr
          go_wp2_with (go_at_call 19; fail)
          refine HFR.out.mono ?_
          rintro e w3 ⟨k3, c3, rfl, ho3, hB3⟩
          obtain ⟨W3, hW3⟩ : ∃ W3, W3 = w3.alloc (.cells #[.int .i64 kk, .int .i64 ss, .slice k3 m c3] 43) := ⟨_, rfl⟩
          have h33 : Below w3.heap.size w3 W3 := by rw [hW3]; exact (Below.refl _ _).alloc (Nat.le_refl _) _
          have hrW : Below wr.heap.size wr W3 := hB3.trans (h33.mono hB3.size)
          have hbx : W3.heap[w3.heap.size]? = some (.cells #[.int .i64 kk, .int .i64 ss, .slice k3 m c3] 43) := by rw [hW3]; exact heap_alloc_new _ _
          have hbl := (Array.getElem?_eq_some_iff.1 hbx).1
          have hcell : ∀ V, Below W3.heap.size W3 V → V.cell? ⟨w3.heap.size, 0, none⟩ = some (.int .i64 kk) ∧ V.cell? ⟨w3.heap.size, 1, none⟩ = some (.int .i64 ss) ∧ V.cell? ⟨w3.heap.size, 2, none⟩ = some (.slice k3 m c3) ∧ V.cell? ⟨b, o + j * 3, none⟩ = some (.int .i64 kk) ∧ V.cell? ⟨b, o + j * 3 + 1, none⟩ = some (.int .i64 ss) ∧ V.cell? ⟨b, o + j * 3 + 2, none⟩ = some (.slice ra m rc) ∧ V.cell? ⟨go, j, none⟩ = some (.int .i64 (P : Int)) := fun V hV => by
            have hx : V.heap[w3.heap.size]? = some (.cells #[.int .i64 kk, .int .i64 ss, .slice k3 m c3] 43) := by rw [hV.block _ hbl]; exact hbx
            have hrV : Below wr.heap.size wr V := hrW.trans (hV.mono hrW.size)
            obtain ⟨y0, y1, y2⟩ := HLO.out V hrV
            exact ⟨by simp [World.cell?, hx], by simp [World.cell?, hx], by simp [World.cell?, hx], y0, y1, y2, HLO2.out V hrV⟩
          have ho3' := ho3.below h33
          have hkr : ∀ V, Below W3.heap.size W3 V → Calls Tryd.prog 20 #[.agg #[.int .i64 kk, .int .i64 ss, .slice k3 m c3], .agg #[.int .i64 kk, .int .i64 ss, .slice ra m rc]] V fun e w' => e = .returned (.bool true) ∧ Below V.heap.size V w' := fun V hV => by
            have := HKR.out V (hrW.trans (hV.mono hrW.size)) k3 c3 ((ho3'.below hV).part HBZ.out)
            simp only [and_self, decide_true] at this
            exact this
          have HRW := Lib.hid hrW; have HCELL := Lib.hid hcell; have HK := Lib.hid hkr; have HW3 := Lib.hid hW3
          have hwa : IntKind.i64.wrap ((P : Int) + 13) = (P : Int) + 13 := by rw [IntKind.wrap_i64]; omega
          have hwb : IntKind.i64.wrap ((P : Int) + 13 + (m : Int)) = (P : Int) + 13 + (m : Int) := by rw [IntKind.wrap_i64]; omega
          have i1 : (0 : Int) ≤ (j : Int) := by omega
          have i2 : (j : Int) < (n : Int) := by omega
          clear hW3 h33 hrW hbx hbl hcell ho3 ho3' hkr hB3 HKR HLO HLO2
          go_wp2
          rw [← HW3.out]
          go_region_held3 (fun V => V.cell? ⟨w3.heap.size, 0, none⟩ = some (.int .i64 kk) ∧ V.cell? ⟨w3.heap.size, 1, none⟩ = some (.int .i64 ss) ∧ V.cell? ⟨w3.heap.size, 2, none⟩ = some (.slice k3 m c3) ∧ V.cell? ⟨b, o + j * 3, none⟩ = some (.int .i64 kk) ∧ V.cell? ⟨b, o + j * 3 + 1, none⟩ = some (.int .i64 ss) ∧ V.cell? ⟨b, o + j * 3 + 2, none⟩ = some (.slice ra m rc) ∧ V.cell? ⟨go, j, none⟩ = some (.int .i64 (P : Int))) (first | exact HCELL.out _ (Below.refl _ _).drew | exact HCELL.out _ HB5.out) ((go_at_call 20; (with_reducible refine (HK.out _ (Below.refl _ _).drew).mono ?_); rintro e w5 ⟨rfl, hB5⟩; have HB5 : Hid (Below W3.heap.size W3 w5) := (Below.refl _ _).drew.trans hB5; clear hB5))
          go_wp2
          go_roundw
          case rel => exact ⟨j + 1, by omega, by go_num, HB.out.trans ((HRW.out.trans (HB5.out.mono HRW.out.size)).mono HB.out.size)⟩
          case measure => simp [intOf]; omega
        · obtain rfl : j = n := by omega
          have hBw := HW2.out.trans (hB.mono HW2.out.size)
          have hNN := HNN.out
          obtain ⟨K, hK1, hK2⟩ := uwrap_at cut (N : Int) (by omega) (by omega)
          have hKN : K < N := by omega
          have hN6 : N ≤ 600000 := hNN.1
          have hN26 : 26 ≤ N := hNN.2.1
          have hu1 : IntKind.u64.wrap (N : Int) = (N : Int) := by rw [IntKind.wrap_u64]; omega
          have hz2 : (N : Int) ≠ 0 := by omega
          have hz3 : N ≠ 0 := by omega
          have hz4 : ((N : Int) == 0) = false := beq_eq_false_iff_ne.2 (by omega)
          have hnc2 : N ≤ c2 := HO2.out.2.1
          have hrd := read_cut k2 K c2 wr (HT.out.below hBw) rs j HL.out (by rw [← HN.out]; exact hKN) (by omega) (by omega) HO2.out.2.2.1 ((HO2.out.below hB).rd.take K) HBT.out hn1 hn2 HOK.out
          obtain ⟨hc1, _, _⟩ := cnt_all rs K j (by rw [HL.out]; exact Nat.le_refl _)
          obtain ⟨C, hC⟩ : ∃ C, C = cnt rs K j := ⟨_, rfl⟩
          rw [← hC] at hrd hc1
          have HRD := Lib.hid hrd; have HC := Lib.hid hC; have HB := Lib.hid hB; have HBW := Lib.hid hBw
          have e0 : decide ((j : Int) < (j : Int)) = false := decide_eq_false (by omega)
          have i1 : (0 : Int) ≤ (K : Int) := by omega
          have i2 : (K : Int) ≤ (c2 : Int) := by omega
          have f1 : decide ((j : Int) < (C : Int)) = false := decide_eq_false (by omega)
          have f1' : decide (j < C) = false := decide_eq_false (by omega)
          have f2 : ((C : Int) != C) = false := by simp
          have i3 : (0 : Int) ≤ (C : Int) := by omega
          have i4 : (C : Int) ≤ (cap : Int) := by omega
          have hoc9 : j ≤ oc := HON.out.2.1
          have i5 : (C : Int) ≤ (oc : Int) := by omega
          clear hrd hC hB hBw hNN hK1
          go_wp2_with (go_at_call 17; fail)
          refine HRD.out.mono ?_
          rintro e w7 ⟨lo, lc, o7, oc7, ls, rfl, hors, hkey, hon7, hB7⟩
          have HB7 := Lib.hid (HBW.out.trans (hB7.mono HBW.out.size))
          have HB27 := Lib.hid (HB.out.trans (hB7.mono HB.out.size))
          have hkr := keep_recs lo ao C C lc cap ls (rs.take C) w7 hors.1 (by rw [List.length_take, HL.out]; omega) (by unfold maxLen; omega) hors.rs ((HR.out.below HB7.out).take C)
          rw [decide_eq_true hkey] at hkr
          have HKR := Lib.hid hkr; have HON7 := Lib.hid hon7
          clear hors hkey hon7 hB7 hkr HRD
          go_wp2_with (go_at_call 15; fail)
          refine HKR.out.mono ?_
          rintro e w8 ⟨rfl, hB8⟩
          have HB8 := Lib.hid (HB7.out.trans (hB8.mono HB7.out.size)); have HB28 := Lib.hid (HB27.out.trans (hB8.mono HB27.out.size))
          have hic := ints_cmp2 o7 oo C C oc7 oc (offP rs C) ((offP rs j).take C) w8 (by omega) (offP_len _ _) (by rw [List.length_take, offP_len]; omega) (HON7.out.below hB8).nr (((HON.out.below HB2.out).below HB28.out).nr.take C)
          rw [offP_take rs j C hc1, decide_eq_true rfl] at hic
          have HIC := Lib.hid hic
          clear hB8 hic HKR
          go_wp2_with (go_at_call 14; fail)
          refine HIC.out.mono ?_
          rintro e w9 ⟨rfl, qq, hw9⟩
          have hB9 : Below w8.heap.size w8 w9 := by rw [hw9]; exact below_drewN (Below.refl _ _) _
          have HB9 := Lib.hid (HB8.out.trans (hB9.mono HB8.out.size)); have HB29 := Lib.hid (HB28.out.trans (hB9.mono HB28.out.size))
          clear hw9 hB9 HIC
          have HNSZ := Lib.hid (HC.out)
          have f3 : ((C : Int) == C) = true := by simp
          go_wp2
          go_loopw [20, 21] (fun c i wz => ∃ t : Nat, t ≤ j ∧ i = .int .i64 t ∧ c = .int .i64 (cnt rs K t : Nat) ∧ Below w9.heap.size w9 wz) (fun _ i _ => j - (intOf i).toNat)
          case atStart => exact ⟨0, Nat.zero_le _, rfl, rfl, Below.refl _ _⟩
          case round =>
            obtain ⟨t, htj, rfl, rfl, hB⟩ := hrel
            by_cases hlt : t < j
            · have hb2 := HB29.out.trans (hB.mono HB29.out.size)
              have hbw := HW2.out.trans (hb2.mono HW2.out.size)
              have htr : t < rs.length := by rw [HL.out]; exact hlt
              have h8 := (HOK.out t htr).2.1
              obtain ⟨b, o, rfl, hc⟩ : ∃ b o, ao = some ⟨b, o, none⟩ ∧ _ := by
                rcases HR.out.below hbw with h | h
                · rw [h] at htr; exact absurd htr (Nat.not_lt_zero _)
                · exact h
              have x2 := (hc t htr).2.2.1
              have hd := (hc t htr).2.2.2
              obtain ⟨go, rfl, _, hoc⟩ := ((HON.out.below HB2.out).below hb2).at hlt
              rw [offP_get rs j t hlt] at hoc
              have hst := frs_step rs t htr
              have hcs := cnt_succ rs K t
              have hfb := frs_mono rs (t + 1) (by omega)
              have hN2 : N = 26 + (frs rs).length := by rw [HN.out, ag_len]
              have hct : cnt rs K t ≤ t := (cnt_all rs K t (by omega)).1
              obtain ⟨r, hr⟩ : ∃ r, r = rs[t] := ⟨_, rfl⟩
              rw [← hr] at x2 hd h8 hst
              obtain ⟨P, hP⟩ : ∃ P : Nat, P = 13 + (frs (rs.take t)).length := ⟨_, rfl⟩
              rw [← hP] at hoc
              obtain ⟨kk, ss, ⟨ra, m, rc, z⟩⟩ := r
              simp only at x2 hd h8 hst
              have hzm : z.length = m := hd.len
              have hE : 13 + (frs (rs.take (t + 1))).length = P + 13 + m := by rw [hst, hzm, hP]; omega
              rw [hE] at hcs
              obtain ⟨c, hcc⟩ : ∃ c, c = cnt rs K t := ⟨_, rfl⟩
              rw [← hcc] at hcs hct ⊢
              have hPm : P + 13 + m ≤ 600000 := by omega
              have hwa : IntKind.i64.wrap ((P : Int) + 13) = (P : Int) + 13 := by rw [IntKind.wrap_i64]; omega
              have hwb : IntKind.i64.wrap ((P : Int) + 13 + (m : Int)) = (P : Int) + 13 + (m : Int) := by rw [IntKind.wrap_i64]; omega
              have g0 : decide ((t : Int) < (j : Int)) = true := decide_eq_true (by omega)
              have g1 : (0 : Int) ≤ (t : Int) := by omega
              have g2 : (t : Int) < (j : Int) := by omega
              have HBT9 := Lib.hid hB
              by_cases hle : P + 13 + m ≤ K
              · rw [if_pos hle] at hcs
                have g3 : decide ((P : Int) + 13 + (m : Int) ≤ (K : Int)) = true := decide_eq_true (by omega)
                have HCS := Lib.hid hcs
                clear hB hb2 hbw htr h8 hc hd hst hcs hfb hN2 hr hP hzm hE hcc
                go_wp2
                go_quiet (fail)
                go_wp2
                go_roundw
                case rel => exact ⟨t + 1, by omega, by go_num, by rw [HCS.out]; go_num, below_drewN HBT9.out _⟩
                case measure => simp [intOf]; omega
              · rw [if_neg hle, Nat.add_zero] at hcs
                have g3 : decide ((P : Int) + 13 + (m : Int) ≤ (K : Int)) = false := decide_eq_false (by omega)
                have HCS := Lib.hid hcs
                clear hB hb2 hbw htr h8 hc hd hst hcs hfb hN2 hr hP hzm hE hcc
                go_wp2
                go_quiet (fail)
                go_wp2
                go_roundw
                case rel => exact ⟨t + 1, by omega, by go_num, by (rw [HCS.out]; rfl), below_drewN HBT9.out _⟩
                case measure => simp [intOf]; omega
            · obtain rfl : t = j := by omega
              have g0 : decide ((t : Int) < (t : Int)) = false := decide_eq_false (by omega)
              have hBz := HB9.out.trans (hB.mono HB9.out.size)
              have HBZ := Lib.hid hBz
              have HWK := Lib.hid (wakes15 wr (HT.out.below hBz))
              rw [← HC.out]
              clear hB hBz
              go_wp2_with (go_at_call 16; refine HWK.out.mono ?_; rintro e w15 ⟨rfl, hB15⟩; have HB15 := Lib.hid hB15; clear hB15)
              go_ret
              exact ⟨rfl, HBZ.out.trans (HB15.out.mono HBZ.out.size)⟩

end Go.Proofs.YtifbbikhjolnjaaDoor
