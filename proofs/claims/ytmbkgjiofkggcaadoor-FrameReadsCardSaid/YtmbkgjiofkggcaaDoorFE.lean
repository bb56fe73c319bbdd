/-
  FrameExact: the walk.
-/
import Derived.Test.YtmbkgjiofkggcaaDoorFrame18
import Derived.Test.YtmbkgjiofkggcaaDoorFrame15
import Derived.Test.YtmbkgjiofkggcaaDoorFP1
namespace Go.Proofs.YtmbkgjiofkggcaaDoor
open Go.RowKit
set_option linter.unusedVariables false

theorem frs_keys : ∀ (rs rs' : List Rec), rs.map Rec.key = rs'.map Rec.key → frs rs = frs rs'
  | [], [], _ => rfl
  | [], _ :: _, h => by cases h
  | _ :: _, [], h => by cases h
  | r :: rs, r' :: rs', h => by
    simp only [List.map_cons, List.cons.injEq] at h
    have := frs_keys rs rs' h.2
    unfold frs at this ⊢
    rw [List.flatMap_cons, List.flatMap_cons, this]
    have hk := h.1
    simp only [Rec.key, Prod.mk.injEq] at hk
    rw [hk.1, hk.2.1, hk.2.2]
theorem je_keys : ∀ (rs rs' : List Rec), rs.map Rec.key = rs'.map Rec.key → (∀ r ∈ rs, r.d.z.length = r.d.l) → (∀ r ∈ rs', r.d.z.length = r.d.l) → je rs = je rs'
  | [], [], _, _, _ => rfl
  | [], _ :: _, h, _, _ => by cases h
  | _ :: _, [], h, _, _ => by cases h
  | r :: rs, r' :: rs', h, h1, h2 => by
    simp only [List.map_cons, List.cons.injEq] at h
    have := je_keys rs rs' h.2 (fun x hx => h1 x (List.mem_cons_of_mem _ hx)) (fun x hx => h2 x (List.mem_cons_of_mem _ hx))
    have hk := h.1
    simp only [Rec.key, Prod.mk.injEq] at hk
    have hl : r.d.l = r'.d.l := by rw [← h1 r (List.mem_cons_self ..), ← h2 r' (List.mem_cons_self ..), hk.2.2]
    unfold je
    rw [this, hk.1, hk.2.1, hl]
theorem rs_lens {w : World} {ao : Option Addr} {rs : List Rec} (h : Rs w ao rs) : ∀ r ∈ rs, r.d.z.length = r.d.l := fun r hr => by
  obtain ⟨i, hi, rfl⟩ := List.getElem_of_mem hr
  rcases h with h | ⟨b, o, _, hc⟩
  · subst h; cases hi
  · exact (hc i hi).2.2.2.len
/-- What either Join tells, in one word. -/
theorem join_word {w w' : World} {E : Int} {z : List Int} {e : Ending} (h : (E = 0 ∧ RB w z.length z e w') ∨ (E ≠ 0 ∧ e = .returned (.tuple #[.slice none 0 0, .int .i64 E]) ∧ Below w.heap.size w w')) :
    ∃ a l c, e = .returned (.tuple #[.slice a l c, .int .i64 E]) ∧ Rd w' a (if E = 0 then z else []) ∧ (if E = 0 then z else []).length = l ∧ l ≤ maxLen ∧ Below w.heap.size w w' := by
  rcases h with ⟨h0, ko, kc, rfl, how, hB⟩ | ⟨h0, rfl, hB⟩
  · exact ⟨ko, _, kc, by rw [h0], by rw [if_pos h0]; exact how.rd, by rw [if_pos h0], Nat.le_trans how.2.1 how.2.2.1, hB⟩
  · exact ⟨none, 0, 0, rfl, by rw [if_neg h0]; exact Rd.nil _ _, by rw [if_neg h0]; rfl, Nat.zero_le _, hB⟩

set_option maxRecDepth 100000 in
set_option maxHeartbeats 20000000 in
theorem fexact_any (ao : Option Addr) (n cap : Nat) (rs : List Rec) (w : World) (hT : Tab w) (hl : rs.length = n) (hm : n ≤ maxLen) (h : Rs w ao rs) :
    Calls Tryd.prog 3 #[.slice ao n cap] w fun e w' => e = .returned (.bool true) ∧ Below w.heap.size w w' := by
  have HHV := Lib.hid (heavy_any ao n cap rs w hl hm h)
  have HL := Lib.hid hl; have HR := Lib.hid h; have HT := Lib.hid hT
  clear hl h hT hm
  go_enter Tryd.func3, Tryd.ntmps3
  go_wp2_with (go_at_call 14; fail)
  refine HHV.out.mono ?_
  rintro e w' ⟨rfl | ⟨rfl, h80, h400⟩, rfl⟩
  · go_wp2
    go_ret
    exact ⟨rfl, Below.refl _ _⟩
  have HTW := Lib.hid (twin_recs ao n cap rs w HL.out (by omega) HR.out (fun i hi => Nat.le_trans (h400 i hi) (by decide)))
  clear HHV h400
  go_wp2_with (go_at_call 15; fail)
  refine HTW.out.mono ?_
  rintro e w3 ⟨rs', ko, kc, rfl, hors, hkeys, hB3⟩
  have HO3 := Lib.hid hors.rs
  have HKL := Lib.hid hors.1
  have HKEY := Lib.hid hkeys; have HB3 := Lib.hid hB3
  have HJ := Lib.hid (je_keys rs' rs hkeys (rs_lens hors.rs) (rs_lens HR.out))
  have HF := Lib.hid (frs_keys rs' rs hkeys)
  have HR3 := Lib.hid (HR.out.below hB3)
  clear hors hkeys hB3 HTW
  go_wp2
  go_loopw [4] (fun i wr => ∃ k : Nat, k ≤ n ∧ i = .int .i64 k ∧ Below w3.heap.size w3 wr) (fun i _ => n - (intOf i).toNat)
  case atStart => exact ⟨0, Nat.zero_le _, rfl, Below.refl _ _⟩
  case round =>
    obtain ⟨k, hk, rfl, hB⟩ := hrel
    have HB := Lib.hid hB
    have HBW : Hid (Below w.heap.size w wr) := HB3.out.trans (hB.mono HB3.out.size)
    by_cases hlt : k < n
    · have d1 : decide ((k : Int) < (n : Int)) = true := decide_eq_true (by omega)
      have i1 : (0 : Int) ≤ (k : Int) := by omega
      have i2 : (k : Int) < (n : Int) := by omega
      have hlt1 : k < rs.length := by rw [HL.out]; exact hlt
      have hlt2 : k < rs'.length := by rw [HKL.out]; exact hlt
      obtain ⟨b, o, rfl, hc⟩ : ∃ b o, ao = some ⟨b, o, none⟩ ∧ _ := by
        rcases HR3.out.below hB with h | h
        · rw [h] at hlt1; exact absurd hlt1 (Nat.not_lt_zero _)
        · exact h
      obtain ⟨b2, o2, rfl, hc2⟩ : ∃ b o, ko = some ⟨b, o, none⟩ ∧ _ := by
        rcases HO3.out.below hB with h | h
        · rw [h] at hlt2; exact absurd hlt2 (Nat.not_lt_zero _)
        · exact h
      obtain ⟨c0, c1, c2, hd⟩ := hc k hlt1
      obtain ⟨f0, f1, f2, hd2⟩ := hc2 k hlt2
      have hkey : rs'[k].key = rs[k].key := by
        have := congrArg (fun l => l[k]?) HKEY.out
        simpa [hlt1, hlt2] using this
      obtain ⟨r, hr⟩ : ∃ r, r = rs[k] := ⟨_, rfl⟩
      obtain ⟨r2, hr2⟩ : ∃ r2, r2 = rs'[k] := ⟨_, rfl⟩
      rw [← hr] at c0 c1 c2 hd hkey
      rw [← hr2] at f0 f1 f2 hd2 hkey
      obtain ⟨rk0, rs0, ⟨ra, rl, rc, rz0⟩⟩ := r
      obtain ⟨tk0, ts0, ⟨ta, tl, tc, tz0⟩⟩ := r2
      simp only [Rec.key, Prod.mk.injEq] at hkey
      obtain ⟨rfl, rfl, rfl⟩ := hkey
      obtain rfl : tl = rl := hd2.len.symm.trans hd.len
      simp only at c0 c1 c2 f0 f1 f2
      obtain ⟨q, hq⟩ : ∃ q, q = chk tk0 ts0 tl := ⟨_, rfl⟩
      have hck := rrec_any ⟨tk0, ts0, ⟨ra, tl, rc, tz0⟩⟩ wr
      have hfb := fun V (hV : Below wr.heap.size wr V) => fbytes_any ⟨tk0, ts0, ⟨ta, tl, tc, tz0⟩⟩ V (HT.out.below (HBW.out.trans (hV.mono HBW.out.size))) (hd2.below hV)
      have hfc := fun V => fcheck_any ⟨tk0, ts0, ⟨ta, tl, tc, tz0⟩⟩ V
      have hfr := fun V (hV : Below wr.heap.size wr V) (h0 : q = 0) => rframe_ok ⟨tk0, ts0, ⟨ra, tl, rc, tz0⟩⟩ V (chk_ok (hq.symm.trans h0)).1 (chk_ok (hq.symm.trans h0)).2 (hd.below hV)
      simp only [← hq] at hck hfb hfc hfr
      obtain ⟨X, hX⟩ : ∃ X, X = fr tk0 ts0 tz0 := ⟨_, rfl⟩
      rw [← hX] at hfb hfr
      change Calls Tryd.prog 16 #[.agg #[.int .i64 tk0, .int .i64 ts0, .slice ra tl rc]] wr _ at hck
      change ∀ V, Below wr.heap.size wr V → Calls Tryd.prog 17 #[.agg #[.int .i64 tk0, .int .i64 ts0, .slice ta tl tc]] V _ at hfb
      change ∀ V, Calls Tryd.prog 18 #[.agg #[.int .i64 tk0, .int .i64 ts0, .slice ta tl tc]] V _ at hfc
      change ∀ V, Below wr.heap.size wr V → q = 0 → Calls Tryd.prog 20 #[.agg #[.int .i64 tk0, .int .i64 ts0, .slice ra tl rc]] V _ at hfr
      have HA := Lib.hid (fun V (hV : Below wr.heap.size wr V) => (⟨by rw [hV.cell (cell_lt c0)]; exact c0, by rw [hV.cell (cell_lt c1)]; exact c1, by rw [hV.cell (cell_lt c2)]; exact c2⟩ : V.cell? ⟨b, o + k * 3, none⟩ = some (.int .i64 tk0) ∧ V.cell? ⟨b, o + k * 3 + 1, none⟩ = some (.int .i64 ts0) ∧ V.cell? ⟨b, o + k * 3 + 2, none⟩ = some (.slice ra tl rc)))
      have HA2 := Lib.hid (fun V (hV : Below wr.heap.size wr V) => (⟨by rw [hV.cell (cell_lt f0)]; exact f0, by rw [hV.cell (cell_lt f1)]; exact f1, by rw [hV.cell (cell_lt f2)]; exact f2⟩ : V.cell? ⟨b2, o2 + k * 3, none⟩ = some (.int .i64 tk0) ∧ V.cell? ⟨b2, o2 + k * 3 + 1, none⟩ = some (.int .i64 ts0) ∧ V.cell? ⟨b2, o2 + k * 3 + 2, none⟩ = some (.slice ta tl tc)))
      have HCK := Lib.hid hck; have HFB := Lib.hid hfb; have HFC := Lib.hid hfc; have HFR := Lib.hid hfr
      clear hck hfb hfc hfr hc hc2 hd hd2 hr hr2 hq hX hB f0 f1 f2
      go_wp2_with (go_at_call 16; fail)
      refine HCK.out.mono ?_
      rintro e w4 ⟨rfl, hB4⟩
      have HB4 := Lib.hid hB4
      obtain ⟨f0, f1, f2⟩ := HA2.out w4 hB4
      clear hB4 c0 c1 c2
      go_wp2_with (go_at_call 17; fail)
      refine (HFB.out w4 HB4.out).mono ?_
      rintro e w5 (⟨hq0, kx, cx, rfl, hox, hB5⟩ | ⟨hq0, rfl, hB5⟩)
      · have HB5 : Hid (Below wr.heap.size wr w5) := HB4.out.trans (hB5.mono HB4.out.size)
        obtain ⟨f0, f1, f2⟩ := HA2.out w5 HB5.out
        have HOX := Lib.hid hox
        subst hq0
        clear hB5 hox
        go_wp2_with (go_at_call 18; fail)
        refine (HFC.out w5).mono ?_
        rintro e w6 ⟨rfl, hB6⟩
        have HB6 : Hid (Below wr.heap.size wr w6) := HB5.out.trans (hB6.mono HB5.out.size)
        obtain ⟨c0, c1, c2⟩ := HA.out w6 HB6.out
        have HOX6 := Lib.hid (HOX.out.below hB6)
        clear hB6 f0 f1 f2
        go_wp2_with (go_at_call 20; fail)
        refine (HFR.out w6 HB6.out (by first | trivial | rfl)).mono ?_
        rintro e w7 ⟨k7, c7, rfl, ho7, hB7⟩
        have HB7 : Hid (Below wr.heap.size wr w7) := HB6.out.trans (hB7.mono HB6.out.size)
        have HCM := Lib.hid (bytes_cmp kx k7 (13 + tl) (13 + tl) cx c7 X X w7 (ow_len HOX6.out) (ow_len ho7) (Nat.le_trans HOX6.out.2.1 HOX6.out.2.2.1) (HOX6.out.below hB7).rd ho7.rd)
        rw [decide_eq_true rfl] at HCM
        clear hB7 ho7 c0 c1 c2
        go_wp2_with (go_at_call 19; fail)
        refine HCM.out.mono ?_
        rintro e w8 ⟨rfl, q8, rfl⟩
        have HB8 : Hid (Below wr.heap.size wr (w7.drewN q8)) := HB7.out.trans (below_drewN' _ _ q8)
        obtain ⟨w8, hw8⟩ : ∃ w8, w8 = w7.drewN q8 := ⟨_, rfl⟩
        rw [← hw8] at HB8 ⊢
        clear hw8
        go_wp2
        go_roundw
        case rel => exact ⟨k + 1, by omega, by go_num, HB.out.trans (HB8.out.mono HB.out.size)⟩
        case measure => simp [intOf]; omega
      · have HB5 : Hid (Below wr.heap.size wr w5) := HB4.out.trans (hB5.mono HB4.out.size)
        obtain ⟨f0, f1, f2⟩ := HA2.out w5 HB5.out
        have d2 : (q != 0) = true := by simpa using hq0
        have d3 : (q == 0) = false := by simpa using hq0
        have d4 : (q != q) = false := by simp
        clear hB5
        go_wp2_with (go_at_call 18; fail)
        refine (HFC.out w5).mono ?_
        rintro e w6 ⟨rfl, hB6⟩
        have HB6 : Hid (Below wr.heap.size wr w6) := HB5.out.trans (hB6.mono HB5.out.size)
        clear hB6 f0 f1 f2
        go_wp2
        go_roundw
        case rel => exact ⟨k + 1, by omega, by go_num, HB.out.trans (HB6.out.mono HB.out.size)⟩
        case measure => simp [intOf]; omega
    · have d1 : decide ((k : Int) < (n : Int)) = false := decide_eq_false (by omega)
      have hRr := HR3.out.below hB
      have hOr := HO3.out.below hB
      have hj1 := (join_any ko n kc rs' wr HKL.out (by omega) (HT.out.below HBW.out) hOr)
      have hj2 := fun V (hV : Below wr.heap.size wr V) => rjoin_any ao n cap rs V HL.out (by omega) (hRr.below hV)
      rw [HJ.out, HF.out] at hj1
      have HJ1 := Lib.hid hj1; have HJ2 := Lib.hid hj2
      have HKR := Lib.hid (fun V (hV : Below wr.heap.size wr V) => keep_recs ko ao n n kc cap rs' rs V HKL.out HL.out (by unfold maxLen; omega) (hOr.below hV) (hRr.below hV))
      have HWK := Lib.hid (fun V (hV : Below wr.heap.size wr V) => wakes06 V (HT.out.below (HBW.out.trans (hV.mono HBW.out.size))))
      rw [HKEY.out, decide_eq_true rfl] at HKR
      obtain ⟨E, hE⟩ : ∃ E, E = je rs := ⟨_, rfl⟩
      obtain ⟨Z, hZ⟩ : ∃ Z, Z = frs rs := ⟨_, rfl⟩
      rw [← hE, ← hZ] at HJ1 HJ2
      clear hRr hOr hj1 hj2 hB hE hZ
      go_wp2_with (go_at_call 21; fail)
      refine HJ1.out.mono ?_
      intro e w4 hw4
      obtain ⟨a1, l1, ca1, rfl, hr1, hl1, hm1, hB4⟩ := join_word hw4
      have HR1 := Lib.hid hr1; have HL1 := Lib.hid hl1; have HM1 := Lib.hid hm1; have HB4 := Lib.hid hB4
      clear hw4 hr1 hl1 hm1 hB4
      go_wp2_with (go_at_call 22; fail)
      refine (HJ2.out w4 HB4.out).mono ?_
      intro e w5 hw5
      obtain ⟨a2, l2, ca2, rfl, hr2, hl2, hm2, hB5⟩ := join_word hw5
      have HB5 : Hid (Below wr.heap.size wr w5) := HB4.out.trans (hB5.mono HB4.out.size)
      have HCM := Lib.hid (bytes_cmp a1 a2 l1 l2 ca1 ca2 _ _ w5 HL1.out hl2 HM1.out (HR1.out.below hB5) hr2)
      rw [decide_eq_true rfl] at HCM
      clear hw5 hr2 hl2 hm2 hB5
      go_wp2_with (go_at_call 19; fail)
      refine HCM.out.mono ?_
      rintro e w8 ⟨rfl, q8, rfl⟩
      have HB8 : Hid (Below wr.heap.size wr (w5.drewN q8)) := HB5.out.trans (below_drewN' _ _ q8)
      obtain ⟨w8, hw8⟩ : ∃ w8, w8 = w5.drewN q8 := ⟨_, rfl⟩
      rw [← hw8] at HB8 ⊢
      clear hw8
      go_wp2_with (go_at_call 23; fail)
      refine (HKR.out w8 HB8.out).mono ?_
      rintro e w9 ⟨rfl, hB9⟩
      have HB9 : Hid (Below wr.heap.size wr w9) := HB8.out.trans (hB9.mono HB8.out.size)
      clear hB9
      go_wp2_with (go_at_call 24; fail)
      refine (HWK.out w9 HB9.out).mono ?_
      rintro e w10 ⟨rfl, hB10⟩
      have HB10 : Hid (Below w.heap.size w w10) := HBW.out.trans ((HB9.out.trans (hB10.mono HB9.out.size)).mono HBW.out.size)
      clear hB10
      go_wp2
      go_ret
      exact ⟨rfl, HB10.out⟩
end Go.Proofs.YtmbkgjiofkggcaaDoor
