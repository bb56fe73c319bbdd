/-
  FrameBack.
-/
import Derived.Test.YtmbkgjiofkggcaaDoorBack1
import Derived.Test.YtmbkgjiofkggcaaDoorSpoilt
namespace Go.Proofs.YtmbkgjiofkggcaaDoor
open Go.RowKit
set_option linter.unusedVariables false

theorem part_none (w : World) : Part.ok w ⟨none, 0, 0, []⟩ := ⟨Rd.nil _ _, rfl, Bts.nil, Nat.zero_le _, fun _ => rfl⟩
theorem keep_rec0 (w : World) : Calls Tryd.prog 28 #[.agg #[.int .i64 0, .int .i64 0, .slice none 0 0], .agg #[.int .i64 0, .int .i64 0, .slice none 0 0]] w fun e w' => e = .returned (.bool true) ∧ Below w.heap.size w w' := by
  have := keep_rec ⟨0, 0, ⟨none, 0, 0, []⟩⟩ ⟨0, 0, ⟨none, 0, 0, []⟩⟩ w (part_none w) (part_none w)
  simp only [and_self, decide_true] at this
  exact this

set_option maxRecDepth 100000 in
set_option maxHeartbeats 2000000 in
theorem back_any (ao : Option Addr) (n cap : Nat) (rs : List Rec) (a1 a2 : Int) (V : Nat) (w : World) (hT : Tab w) (hl : rs.length = n) (hnc : n ≤ cap) (hcm : cap ≤ maxLen) (h : Rs w ao rs) (hV : V < 2 ^ 32) :
    Calls Tryd.prog 5 #[.slice ao n cap, .int .i64 a1, .int .i64 a2, .int .u32 (V : Int)] w fun e w' => e = .returned (.bool true) ∧ Below w.heap.size w w' := by
  have hm : n ≤ maxLen := Nat.le_trans hnc hcm
  have HHV := Lib.hid (heavy_any ao n cap rs w hl hm h)
  have HL := Lib.hid hl; have HR := Lib.hid h; have HT := Lib.hid hT
  unfold maxLen at hm hcm
  clear hl h hT
  go_enter Tryd.func5, Tryd.ntmps5
  go_wp2_with (go_at_call 14; fail)
  refine HHV.out.mono ?_
  rintro r w1 ⟨(rfl | ⟨rfl, hn80, hall⟩), rfl⟩
  · go_wp2
    go_ret
    exact ⟨rfl, Below.refl _ _⟩
  have HALL := Lib.hid hall
  clear hall
  have HJ := Lib.hid (join_any ao n cap rs w HL.out (by omega) HT.out HR.out)
  go_wp2_with (go_at_call 21; fail)
  refine HJ.out.mono ?_
  rintro r w2 (⟨hje, ko, kc, rfl, ho2, hB2⟩ | ⟨hje, rfl, hB2⟩)
  rotate_left
  · have d1 : (je rs != 0) = true := by simp [hje]
    have HB2 := Lib.hid hB2
    have HWK := Lib.hid (wakes06 w2 (HT.out.below hB2))
    clear hje hB2
    go_wp2_with (go_at_call 24; refine HWK.out.mono ?_; rintro r w8 ⟨rfl, hB8⟩; have HB8 : Hid (Below w.heap.size w w8) := HB2.out.trans (hB8.mono HB2.out.size); clear hB8)
    go_ret
    exact ⟨rfl, HB8.out⟩
  have HB2 := Lib.hid hB2; have HO2 := Lib.hid ho2
  have hchk := je_all rs hje
  have hnk : ∀ i, (hi : i < rs.length) → nok rs[i].k rs[i].s ∧ rs[i].d.z.length ≤ 8000 := fun i hi => by
    have hd : rs[i].d.z.length = rs[i].d.l := by
      rcases HR.out with h | ⟨_, _, _, h⟩
      · rw [h] at hi; exact absurd hi (Nat.not_lt_zero _)
      · exact (h i hi).2.2.2.len
    rw [hd]; exact chk_ok (hchk i hi)
  have hbz : Bts (frs rs) := bts_frs rs fun i hi => by
    rcases HR.out with h | ⟨_, _, _, h⟩
    · rw [h] at hi; exact absurd hi (Nat.not_lt_zero _)
    · exact (h i hi).2.2.2.bts
  have hkey : ∀ k, k ≤ rs.length → (frs (rs.take k)).length ≤ 413 * k := by
    intro k
    induction k with
    | zero => intro _; exact Nat.zero_le _
    | succ k ih =>
      intro hk
      have hd : rs[k].d.z.length = rs[k].d.l := by
        rcases HR.out with h | ⟨_, _, _, h⟩
        · rw [h] at hk; simp at hk
        · exact (h k (by omega)).2.2.2.len
      have := ih (by omega)
      have h4 := HALL.out k (by omega)
      rw [frs_take rs k (by omega), List.length_append, fr_len]
      omega
  have hNb := hkey rs.length (Nat.le_refl _)
  rw [List.take_length, HL.out] at hNb
  obtain ⟨zs, hzs⟩ : ∃ zs, zs = frs rs := ⟨_, rfl⟩
  have hs0 : Spl zs (rs.map Rec.key) 0 := by
    have := spl_frs rs [] [] 0 hnk Spl.nil
    rw [List.append_nil, List.append_nil] at this
    rw [hzs]; exact this
  rw [← hzs] at HO2 hbz hNb ⊢
  obtain ⟨N, hN⟩ : ∃ N, N = zs.length := ⟨_, rfl⟩
  rw [← hN] at HO2 hNb ⊢
  have hN2 : N ≤ 33040 := by omega
  have HSP := Lib.hid (split_any ko N kc zs w2 (HT.out.below HB2.out) hN.symm HO2.out.2.1 (by omega) HO2.out.2.2.1 HO2.out.rd hbz)
  have HZS := Lib.hid hzs; have HN := Lib.hid hN; have HNK := Lib.hid hnk; have HS0 := Lib.hid hs0; have HCH := Lib.hid hchk
  clear hje hB2 ho2 hchk hbz hzs hN hkey hNb hnk hs0
  go_wp2_with (go_at_call 30; fail)
  refine HSP.out.mono ?_
  rintro e w3 ⟨ks, er, hspl, hres⟩
  have her : er = 0 := hspl.err HS0.out
  have hks : ks = rs.map Rec.key := (hspl.same HS0.out her).1
  rcases hres with ⟨_, rs2, k3, c3, rfl, ho3, hkeys, hB3⟩ | ⟨h0, _⟩
  rotate_left
  · exact absurd her h0
  have HB3 := Lib.hid (HB2.out.trans (hB3.mono HB2.out.size))
  have hkr := keep_recs k3 ao rs2.length n c3 cap rs2 rs w3 rfl HL.out (Nat.le_trans ho3.2.1 ho3.2.2.1) ho3.rs (HR.out.below HB3.out)
  rw [decide_eq_true (hkeys.trans hks)] at hkr
  have HKR := Lib.hid hkr
  clear hspl her hks ho3 hkeys hB3 hkr
  go_wp2_with (go_at_call 23; fail)
  refine HKR.out.mono ?_
  rintro e w4 ⟨rfl, hB4⟩
  have HB4 := Lib.hid (HB3.out.trans (hB4.mono HB3.out.size))
  clear hB4
  by_cases hn0 : n = 0
  · subst hn0
    have hr0 : rs = [] := List.eq_nil_of_length_eq_zero HL.out
    have hz0 : N = 0 := by rw [HN.out, HZS.out, hr0]; rfl
    subst hz0
    have HWK := Lib.hid (wakes06 w4 (HT.out.below HB4.out))
    clear hr0
    go_wp2_with (go_at_call 24; refine HWK.out.mono ?_; rintro r w8 ⟨rfl, hB8⟩; have HB8 : Hid (Below w.heap.size w w8) := HB4.out.trans (hB8.mono HB4.out.size); clear hB8)
    go_ret
    exact ⟨rfl, HB8.out⟩
  have d0 : ((n : Int) == 0) = false := beq_eq_false_iff_ne.2 (by omega)
  have d0' : (n == 0) = false := beq_eq_false_iff_ne.2 hn0
  have hlt' : 0 < rs.length := by rw [HL.out]; omega
  obtain ⟨b, o, rfl, hc⟩ : ∃ b o, ao = some ⟨b, o, none⟩ ∧ _ := by
    rcases HR.out.below HB4.out with h | h
    · rw [h] at hlt'; exact absurd hlt' (Nat.not_lt_zero _)
    · exact h
  obtain ⟨c0, c1, c2, hd⟩ := hc 0 hlt'
  have hq0 := HCH.out 0 hlt'
  have h4 := HALL.out 0 hlt'
  obtain ⟨r, hr⟩ : ∃ r, r = rs[0] := ⟨_, rfl⟩
  rw [← hr] at c0 c1 c2 hd hq0 h4
  rw [Nat.zero_mul, Nat.add_zero] at c0 c1 c2
  obtain ⟨hnok, hl8⟩ := chk_ok hq0
  have hdl : r.d.z.length = r.d.l := hd.len
  have hfb := fbytes_any r w4 (HT.out.below HB4.out) hd
  have hfl : (fr r.k r.s r.d.z).length = 13 + r.d.l := by rw [fr_len, hdl]
  have hbz : Bts r.d.z := hd.bts
  obtain ⟨rk0, rs0, ⟨ra, rl, rc, rz0⟩⟩ := r
  simp only at c0 c1 c2 hfb hfl hbz hq0 h4 hnok hl8 hdl
  change Calls Tryd.prog 17 #[.agg #[.int .i64 rk0, .int .i64 rs0, .slice ra rl rc]] w4 _ at hfb
  obtain ⟨M, hM⟩ : ∃ M, M = 13 + rl := ⟨_, rfl⟩
  rw [← hM] at hfb hfl
  obtain ⟨ys, hys⟩ : ∃ ys, ys = fr rk0 rs0 rz0 := ⟨_, rfl⟩
  rw [← hys] at hfb hfl
  have hyb : Bts ys := by rw [hys]; exact fr_bts _ _ _ hbz
  have HC0 := Lib.hid (show w4.cell? ⟨b, o, none⟩ = some (.int .i64 rk0) ∧ w4.cell? ⟨b, o + 1, none⟩ = some (.int .i64 rs0) ∧ w4.cell? ⟨b, o + 2, none⟩ = some (.slice ra rl rc) from ⟨c0, c1, c2⟩)
  have HFB := Lib.hid hfb; have HQ0 := Lib.hid hq0; have HNOK := Lib.hid hnok; have HYS := Lib.hid hys; have HFL := Lib.hid hfl; have HBZ := Lib.hid hbz; have HYB := Lib.hid hyb; have HDL := Lib.hid hdl
  have hrl : rl ≤ 400 := h4
  clear hc hq0 h4 hr hnok hd hfb hfl hys hbz hyb hdl
  go_wp2_with (go_at_call 17; fail)
  refine HFB.out.mono ?_
  rintro e w5 (⟨_, kx, cx, rfl, hox, hB5⟩ | ⟨hbad, _⟩)
  rotate_left
  · exact absurd HQ0.out hbad
  obtain ⟨g, rfl, hgg⟩ := hox.at (by omega)
  have c2' : w5.cell? ⟨b, o + 2, none⟩ = some (.slice ra rl rc) := by rw [hB5.cell (cell_lt HC0.out.2.2)]; exact HC0.out.2.2
  have dM : ((M : Int) != 13 + (rl : Int)) = false := by simp; omega
  obtain ⟨C, hC2, hC1⟩ := uwrap_at a1 (M : Int) (by omega) (by omega)
  have hMx : M ≤ cx := hox.2.1
  have hcx : cx ≤ 2 ^ 63 - 1 := by have := hox.2.2.1; unfold maxLen at this; exact this
  have kC1 : (0 : Int) ≤ C := by omega
  have kC2 : (C : Int) ≤ cx := by omega
  have HB5 := Lib.hid (HB4.out.trans (hB5.mono HB4.out.size))
  have HRD := Lib.hid (fread_wrong (some ⟨g, 0, none⟩) C cx (ys.take C) 3 w5 (HT.out.below HB5.out) (by rw [HYS.out]; exact rer_part _ _ _ _ HNOK.out (by rw [HDL.out]; exact hl8) (by rw [HDL.out]; omega)) (by omega) (HYB.out.take C) (by rw [List.length_take, HFL.out]; omega) (by omega) (by omega) hox.2.2.1 (hox.rd.take C))
  have HOX := Lib.hid hox; have HC5 := Lib.hid c2'; have HM := Lib.hid hM
  clear c0 c1 c2 hB5 hox hM
  go_wp2_with (go_at_call 26; fail)
  refine HRD.out.mono ?_
  rintro e w6 ⟨rfl, hB6⟩
  have hb6 : Below w5.heap.size w5 (w6.alloc (.cells #[.int .i64 0, .int .i64 0, .slice none 0 0] 29)) := hB6.alloc hB6.size _
  have HB6 := Lib.hid hb6
  clear hB6 hb6 hC1 c2' kC1 kC2
  go_wp2_with (go_at_call 28; fail)
  refine (keep_rec0 _).mono ?_
  rintro e w7 ⟨rfl, hB7⟩
  have hb7 : Below w5.heap.size w5 w7 := HB6.out.trans (hB7.mono HB6.out.size)
  have c7 : w7.cell? ⟨b, o + 2, none⟩ = some (.slice ra rl rc) := by rw [hb7.cell (cell_lt HC5.out)]; exact HC5.out
  have HO7 := Lib.hid (HOX.out.below hb7)
  have HB7 := Lib.hid (HB5.out.trans (hb7.mono HB5.out.size))
  clear hB7 hb7
  by_cases hl0 : rl = 0
  · subst hl0
    have HWK := Lib.hid (wakes06 w7 (HT.out.below HB7.out))
    go_wp2_with (go_at_call 24; refine HWK.out.mono ?_; rintro r w8 ⟨rfl, hB8⟩; have HB8 : Hid (Below w.heap.size w w8) := HB7.out.trans (hB8.mono HB7.out.size); clear hB8)
    go_ret
    exact ⟨rfl, HB8.out⟩
  have dl : ((rl : Int) == 0) = false := beq_eq_false_iff_ne.2 (by omega)
  have dl' : (rl == 0) = false := beq_eq_false_iff_ne.2 hl0
  obtain ⟨T, hT2, hT1⟩ := uwrap_at a2 (8 * (rl : Int)) (by omega) (by omega)
  have HT1 := Lib.hid hT1
  clear hT1
  go_wp2
  try rw [HT1.out]
  obtain ⟨base, hbase⟩ : ∃ base, base = w4.heap.size := ⟨_, rfl⟩
  rw [← hbase] at HO7 hgg
  have hb47 : w.heap.size ≤ base := by rw [hbase]; exact HB4.out.size
  clear c7 hbase
  go_loopw [16, 17] (fun t i wr => ∃ k : Nat, k ≤ 32 ∧ T + k ≤ 8 * rl ∧ i = .int .i64 k ∧ t = .bool (decide (V % 2 ^ k ≠ 0)) ∧ Ow wr base (some ⟨g, 0, none⟩) M cx (burst ys (104 + T) V k) ∧ Below base w7 wr) (fun _ i _ => 32 - (intOf i).toNat)
  case atStart => exact ⟨0, Nat.zero_le _, by omega, rfl, by simp [Nat.mod_one], HO7.out, Below.refl _ _⟩
  case round =>
    obtain ⟨k, hk, hTk, rfl, rfl, how, hB⟩ := hrel
    have HOK := Lib.hid how; have HB := Lib.hid hB
    have hbl := burst_len ys (104 + T) V k
    rw [HFL.out] at hbl
    clear how hB
    have hTK : 104 + T + k ≤ 8 * ys.length := by rw [HFL.out, HM.out]; omega
    have HTK := Lib.hid hTK
    clear hTK
    by_cases hlt : k < 32 ∧ T + k < 8 * rl
    · obtain ⟨hk1, hk2⟩ := hlt
      have d3 : decide ((k : Int) < 32) = true := decide_eq_true (by omega)
      have d4 : decide ((T : Int) + k < 8 * (rl : Int)) = true := decide_eq_true (by omega)
      have hidx : (104 + T + k) / 8 = 13 + (T + k) / 8 := by omega
      have hmod : (104 + T + k) % 8 = (T + k) % 8 := by omega
      have hq : 13 + (T + k) / 8 < M := by have := HM.out; omega
      obtain ⟨c, hc⟩ : ∃ c, c = (burst ys (104 + T) V k).getD (13 + (T + k) / 8) 0 := ⟨_, rfl⟩
      have hcell : wr.cell? ⟨g, 13 + (T + k) / 8, none⟩ = some (.int .u8 c) := by
        obtain ⟨b, o, e, hcc⟩ := HOK.out.rd.at (by rw [hbl]; omega)
        cases e
        have := hcc (13 + (T + k) / 8) (by rw [hbl]; omega)
        rwa [Nat.zero_add, ← hc] at this
      have hfr := HOK.out.2.2.2.frozenAt (13 + (T + k) / 8)
      have hcb : 0 ≤ c ∧ c ≤ 255 := by rw [hc]; exact burst_bts HYB.out k HTK.out _ (by rw [hbl]; exact hq)
      have hx : Go.bits .xor .u8 c (2 ^ ((T + k) % 8) % 256) = bx c ((2 ^ ((T + k) % 8) : Nat) : Int) := by
        rw [pow_byte _ (Nat.mod_lt _ (by decide))]
        have h3 : 2 ^ ((T + k) % 8) ≤ 2 ^ 7 := Nat.pow_le_pow_right (by decide) (by omega)
        exact xor_u8 _ _ hcb.1 hcb.2 (Int.natCast_nonneg _) (by have : ((2 ^ ((T + k) % 8) : Nat) : Int) ≤ ((2 ^ 7 : Nat) : Int) := Int.ofNat_le.2 h3; omega)
      have HX := Lib.hid hx; have HC := Lib.hid hc; have HI := Lib.hid hidx; have HMD := Lib.hid hmod
      have HBIT := Lib.hid (bit_u32 V k hV)
      obtain ⟨tf, htf⟩ : ∃ tf, tf = decide (V % 2 ^ k ≠ 0) := ⟨_, rfl⟩
      rw [← htf]
      have HTF := Lib.hid htf
      clear hx hcb hc hbl htf hidx hmod
      by_cases hbit : V.testBit k = true
      · have hb : (Go.bits .and .u32 ((V : Int) / 2 ^ k) 1 == 1) = true := by rw [HBIT.out]; exact hbit
        have HBT := Lib.hid hbit
        clear hbit
        go_wp2
        go_roundw
        case rel => exact ⟨k + 1, by omega, by omega, by go_num, by rw [decide_eq_true (turned_pos HBT.out)], by rw [HX.out, HC.out, burst_pos HBT.out, HI.out, HMD.out]; exact ow_store HOK.out, HB.out.setCell hgg _⟩
        case measure => simp [intOf]; omega
      · have hb : (Go.bits .and .u32 ((V : Int) / 2 ^ k) 1 == 1) = false := by rw [HBIT.out]; simpa using hbit
        have HBT := Lib.hid hbit
        clear hbit
        go_wp2
        go_roundw
        case rel => exact ⟨k + 1, by omega, by omega, by go_num, by rw [HTF.out, turned_neg HBT.out], by rw [burst_neg HBT.out]; exact HOK.out, HB.out⟩
        case measure => simp [intOf]; omega
    · obtain ⟨wo, rfl⟩ : ∃ wo : World, wo = wr := ⟨_, rfl⟩
      have hBo : Below w.heap.size w wo := HB7.out.trans (HB.out.mono hb47)
      have HBO := Lib.hid hBo
      have d34 : decide ((k : Int) < 32) = false ∨ (decide ((k : Int) < 32) = true ∧ decide ((T : Int) + k < 8 * (rl : Int)) = false) := by
        by_cases h : k < 32
        · exact .inr ⟨decide_eq_true (by omega), decide_eq_false (by omega)⟩
        · exact .inl (decide_eq_false (by omega))
      by_cases hv : V % 2 ^ k = 0
      · have hyy : burst ys (104 + T) V k = ys := by rw [HYS.out]; exact fr_burst_same _ _ _ _ _ _ HBZ.out (by rw [HDL.out]; exact hTk) hv
        have hrd := fread_fr (some ⟨g, 0, none⟩) M cx rk0 rs0 rz0 wo (HT.out.below hBo) HNOK.out (by rw [HDL.out]; exact hl8) HBZ.out (by rw [← HYS.out]; exact HFL.out) hMx HOK.out.2.2.1 (by rw [← HYS.out, ← hyy]; exact HOK.out.rd)
        rw [show 13 + rz0.length = M by rw [HDL.out, HM.out]] at hrd
        have HRD := Lib.hid hrd
        have ht : decide (V % 2 ^ k ≠ 0) = false := decide_eq_false (by simpa using hv)
        rw [ht]
        clear hyy hrd hbl hBo hlt ht hv
        rcases d34 with d3 | ⟨d3, d4⟩
        all_goals
          go_wp2_with (go_at_call 26; fail)
          refine HRD.out.mono ?_
          rintro r w9 ⟨k9, c9, rfl, ho9, hB9⟩
          have HB9 := Lib.hid (HBO.out.trans (hB9.mono HBO.out.size))
          have HWK := Lib.hid (wakes06 w9 (HT.out.below HB9.out))
          clear ho9 hB9
          go_wp2_with (go_at_call 24; refine HWK.out.mono ?_; rintro r w8 ⟨rfl, hB8⟩; have HB8 : Hid (Below w.heap.size w w8) := HB9.out.trans (hB8.mono HB9.out.size); clear hB8)
          go_ret
          exact ⟨rfl, HB8.out⟩
      · have hre : rer (burst ys (104 + T) V k) = 4 := by rw [HYS.out]; exact fr_burst_bad _ _ _ _ _ _ HNOK.out (by rw [HDL.out]; exact hl8) HBZ.out (by rw [HDL.out]; exact hTk) hk hv
        have HRD := Lib.hid (fread_wrong (some ⟨g, 0, none⟩) M cx (burst ys (104 + T) V k) 4 wo (HT.out.below hBo) hre (by omega) (burst_bts HYB.out k HTK.out) hbl hMx (by have := HM.out; omega) HOK.out.2.2.1 HOK.out.rd)
        have ht : decide (V % 2 ^ k ≠ 0) = true := decide_eq_true hv
        rw [ht]
        clear hre hbl hBo hlt ht hv
        rcases d34 with d3 | ⟨d3, d4⟩
        all_goals
          go_wp2_with (go_at_call 26; fail)
          refine HRD.out.mono ?_
          rintro r w9 ⟨rfl, hB9⟩
          have HB9 := Lib.hid (HBO.out.trans (hB9.mono HBO.out.size))
          have HWK := Lib.hid (wakes06 w9 (HT.out.below HB9.out))
          clear hB9
          go_wp2_with (go_at_call 24; refine HWK.out.mono ?_; rintro r w8 ⟨rfl, hB8⟩; have HB8 : Hid (Below w.heap.size w w8) := HB9.out.trans (hB8.mono HB9.out.size); clear hB8)
          go_ret
          exact ⟨rfl, HB8.out⟩

end Go.Proofs.YtmbkgjiofkggcaaDoor
