/-
  The walk of LabelSpoilt.
-/
import Derived.Test.YtmbkgjiofkggcaaDoorUnlike
namespace Go.Proofs.YtmbkgjiofkggcaaDoor
open Go.RowKit
set_option linter.unusedVariables false

theorem residue_lab (v p e : Int) : (sumOf (lab v p e)).toNat = 0x2144df1c := sum_res _
/-- A label's bytes with some of up to 32 bits side by side turned about are no label's. -/
theorem spoilt_not (v p e : Int) (T V k : Nat) (hT : T + k ≤ 112) (hk : k ≤ 32) (h : isLab (burst (lab v p e) T V k)) : V % 2 ^ k = 0 := by
  have hl := lab_len v p e
  have h2 : (sumOf (burst (lab v p e) T V k)).toNat = 0x2144df1c := by rw [h.2]; exact residue_lab _ _ _
  exact sum_unlike (lab v p e) T V k (lab_bts v p e) (by rw [hl]; exact hT) hk (by rw [h2]; exact residue_lab _ _ _)
theorem turned_pos {V k : Nat} (h : V.testBit k = true) : V % 2 ^ (k + 1) ≠ 0 := by
  intro e
  have := Nat.testBit_mod_two_pow V (k + 1) k
  rw [e] at this
  simp [h] at this
theorem turned_neg {V k : Nat} (h : ¬ V.testBit k = true) : V % 2 ^ (k + 1) = V % 2 ^ k := by
  rw [mod_succ, if_neg h]
theorem short_not (v p e : Int) (c : Nat) (h : c < 14) : ¬ isLab ((lab v p e).take c) := fun hl => by
  have := congrArg List.length hl.2
  rw [lab_len, List.length_take, lab_len] at this
  omega

set_option maxRecDepth 100000 in
set_option maxHeartbeats 1000000 in
theorem spoilt_bad (v p e a1 a3 : Int) (V : Nat) (w : World) (hT : Tab w) (h : ¬ lok v p e ∨ V = 0) :
    Calls Tryd.prog 12 #[.agg #[.int .i64 v, .int .i64 p, .int .i64 e], .int .i64 a1, .int .u32 (V : Int), .int .i64 a3] w fun r w' => r = .returned (.bool true) ∧ Below w.heap.size w w' := by
  obtain ⟨W, hW⟩ : ∃ W, W = w.alloc (.cells #[.int .i64 v, .int .i64 p, .int .i64 e] 54) := ⟨_, rfl⟩
  have hBW : Below w.heap.size w W := by rw [hW]; exact (Below.refl _ _).alloc (Nat.le_refl _) _
  have HW := Lib.hid hW; have HBW := Lib.hid hBW; have HT := Lib.hid hT; have HH := Lib.hid h
  clear hW hBW hT h
  go_enter Tryd.func12, Tryd.ntmps12
  go_wp2_with (go_at_call 33; fail)
  rw [← HW.out]
  refine (bytes_both v p e W (HT.out.below HBW.out)).mono ?_
  rintro r w1 (⟨hl, ko, kc, rfl, how, hB1⟩ | ⟨hl, rfl, hB1⟩)
  · obtain rfl : V = 0 := by
      rcases HH.out with h | h
      · exact absurd hl h
      · exact h
    have HB1 := Lib.hid (HBW.out.trans (hB1.mono HBW.out.size))
    have HWK := Lib.hid (wakes14 w1 (HT.out.below HB1.out))
    clear hB1 how hl
    go_wp2_with (go_at_call 36; refine HWK.out.mono ?_; rintro r w3 ⟨rfl, hB3⟩; have HB3 := Lib.hid hB3; clear hB3)
    go_ret
    exact ⟨rfl, HB1.out.trans (HB3.out.mono HB1.out.size)⟩
  · have HB1 := Lib.hid (HBW.out.trans (hB1.mono HBW.out.size))
    have HWK := Lib.hid (wakes14 w1 (HT.out.below HB1.out))
    clear hB1 hl
    go_wp2_with (go_at_call 36; refine HWK.out.mono ?_; rintro r w3 ⟨rfl, hB3⟩; have HB3 := Lib.hid hB3; clear hB3)
    go_ret
    exact ⟨rfl, HB1.out.trans (HB3.out.mono HB1.out.size)⟩

set_option maxRecDepth 100000 in
set_option maxHeartbeats 1000000 in
theorem spoilt_walk (v p e a1 a3 : Int) (V T C : Nat) (w : World) (hT : Tab w) (hl : lok v p e) (hV0 : V ≠ 0) (hV : V < 2 ^ 32)
    (hT1 : wrap64 ((IntKind.u64.wrap a1).tmod 112) = T) (hT2 : T < 112) (hC1 : wrap64 ((IntKind.u64.wrap a3).tmod 14) = C) (hC2 : C < 14) :
    Calls Tryd.prog 12 #[.agg #[.int .i64 v, .int .i64 p, .int .i64 e], .int .i64 a1, .int .u32 (V : Int), .int .i64 a3] w fun r w' => r = .returned (.bool true) ∧ Below w.heap.size w w' := by
  have dV : ((V : Int) == 0) = false := beq_eq_false_iff_ne.2 (by omega)
  obtain ⟨W, hW⟩ : ∃ W, W = w.alloc (.cells #[.int .i64 v, .int .i64 p, .int .i64 e] 54) := ⟨_, rfl⟩
  have hBW : Below w.heap.size w W := by rw [hW]; exact (Below.refl _ _).alloc (Nat.le_refl _) _
  have hsz : W.heap.size = w.heap.size + 1 := by rw [hW, World.size_alloc]
  have hb0 : W.heap[w.heap.size]? = some (.cells #[.int .i64 v, .int .i64 p, .int .i64 e] 54) := by rw [hW]; exact heap_alloc_new _ _
  have HW := Lib.hid hW; have HBW := Lib.hid hBW; have HT := Lib.hid hT; have HL := Lib.hid hl; have HSZ := Lib.hid hsz; have HB0 := Lib.hid hb0; have HT1 := Lib.hid hT1
  clear hW hBW hT hl hsz hb0 hT1
  go_enter Tryd.func12, Tryd.ntmps12
  go_wp2_with (go_at_call 33; fail)
  rw [← HW.out]
  refine (bytes_ok v p e W (HT.out.below HBW.out) HL.out).mono ?_
  rintro r w1 ⟨ko, kc, rfl, how, hB1⟩
  have HB1 := Lib.hid (HBW.out.trans (hB1.mono HBW.out.size))
  have G1 := Lib.hid (show w1.heap[w.heap.size]? = some (.cells #[.int .i64 v, .int .i64 p, .int .i64 e] 54) by rw [hB1.block _ (by rw [HSZ.out]; omega)]; exact HB0.out)
  have hg : w.heap.size + 1 ≤ W.heap.size := by rw [HSZ.out]; exact Nat.le_refl _
  obtain ⟨g, rfl, hgg⟩ := how.at (by omega)
  have hkc : 14 ≤ kc := how.2.1
  have hkm : kc ≤ 2 ^ 63 - 1 := by have := how.2.2.1; unfold maxLen at this; exact this
  have hC14 : C ≤ kc := by omega
  have hOW := how.base hg
  have HOW := Lib.hid hOW
  have hgg' : w.heap.size + 1 ≤ g := by omega
  have HRD := Lib.hid (read_any (some ⟨g, 0, none⟩) C kc ((lab v p e).take C) w1 (HT.out.below HB1.out) (by rw [List.length_take, lab_len]; omega) hC14 how.2.2.1 (how.rd.take C) ((lab_bts v p e).take C))
  clear hB1 how hg hgg hOW
  have kC1 : (0 : Int) ≤ C := by omega
  have kC2 : (C : Int) ≤ kc := by omega
  go_wp2_with (go_at_call 37; fail)
  refine HRD.out.mono ?_
  rintro r w2 (⟨hbad, _⟩ | ⟨_, rfl, hB2⟩)
  · exact absurd hbad (short_not v p e C hC2)
  have HB2 := Lib.hid (HB1.out.trans (hB2.mono HB1.out.size))
  have G2 := Lib.hid (show w2.heap[w.heap.size]? = some (.cells #[.int .i64 v, .int .i64 p, .int .i64 e] 54) by rw [hB2.block _ (Array.getElem?_eq_some_iff.1 G1.out).1]; exact G1.out)
  have HO2 := Lib.hid (HOW.out.below hB2)
  clear hB2 hC1 kC1 kC2 HRD HOW hC14
  go_wp2
  try rw [HT1.out]
  go_loopw [11, 12] (fun t i wr => ∃ k : Nat, k ≤ 32 ∧ T + k ≤ 112 ∧ i = .int .i64 k ∧ t = .bool (decide (V % 2 ^ k ≠ 0)) ∧ Ow wr (w.heap.size + 1) (some ⟨g, 0, none⟩) 14 kc (burst (lab v p e) T V k) ∧ Below (w.heap.size + 1) w2 wr) (fun _ i _ => 32 - (intOf i).toNat)
  case atStart => exact ⟨0, Nat.zero_le _, by omega, rfl, by simp [Nat.mod_one], HO2.out, Below.refl _ _⟩
  case round =>
    obtain ⟨k, hk, hTk, rfl, rfl, how, hB⟩ := hrel
    have HOK := Lib.hid how; have HB := Lib.hid hB
    have hbl := burst_len (lab v p e) T V k
    rw [lab_len] at hbl
    clear how hB
    by_cases hlt : k < 32 ∧ T + k < 112
    · obtain ⟨hk1, hk2⟩ := hlt
      have d3 : decide ((k : Int) < 32) = true := decide_eq_true (by omega)
      have d4 : decide ((T : Int) + k < 112) = true := decide_eq_true (by omega)
      have hq : (T + k) / 8 < 14 := by omega
      obtain ⟨c, hc⟩ : ∃ c, c = (burst (lab v p e) T V k).getD ((T + k) / 8) 0 := ⟨_, rfl⟩
      have hcell : wr.cell? ⟨g, (T + k) / 8, none⟩ = some (.int .u8 c) := by
        obtain ⟨b, o, e, hcc⟩ := HOK.out.rd.at (by rw [hbl]; omega)
        cases e
        have := hcc ((T + k) / 8) (by rw [hbl]; omega)
        rwa [Nat.zero_add, ← hc] at this
      have hfr := HOK.out.2.2.2.frozenAt ((T + k) / 8)
      have hcb : 0 ≤ c ∧ c ≤ 255 := by rw [hc]; exact burst_bts (lab_bts v p e) k (by rw [lab_len]; omega) _ (by rw [hbl]; exact hq)
      have hx : Go.bits .xor .u8 c (2 ^ ((T + k) % 8) % 256) = bx c ((2 ^ ((T + k) % 8) : Nat) : Int) := by
        rw [pow_byte _ (Nat.mod_lt _ (by decide))]
        have h3 : 2 ^ ((T + k) % 8) ≤ 2 ^ 7 := Nat.pow_le_pow_right (by decide) (by omega)
        exact xor_u8 _ _ hcb.1 hcb.2 (Int.natCast_nonneg _) (by have : ((2 ^ ((T + k) % 8) : Nat) : Int) ≤ ((2 ^ 7 : Nat) : Int) := Int.ofNat_le.2 h3; omega)
      have HX := Lib.hid hx; have HC := Lib.hid hc
      have HBIT := Lib.hid (bit_u32 V k hV)
      obtain ⟨tf, htf⟩ : ∃ tf, tf = decide (V % 2 ^ k ≠ 0) := ⟨_, rfl⟩
      rw [← htf]
      have HTF := Lib.hid htf
      clear hx hcb hc hbl htf
      by_cases hbit : V.testBit k = true
      · have hb : (Go.bits .and .u32 ((V : Int) / 2 ^ k) 1 == 1) = true := by rw [HBIT.out]; exact hbit
        have HBT := Lib.hid hbit
        clear hbit
        go_wp2
        go_roundw
        case rel => exact ⟨k + 1, by omega, by omega, by go_num, by rw [decide_eq_true (turned_pos HBT.out)], by rw [HX.out, HC.out, burst_pos HBT.out]; exact ow_store HOK.out, HB.out.setCell hgg' _⟩
        case measure => simp [intOf]; omega
      · have hb : (Go.bits .and .u32 ((V : Int) / 2 ^ k) 1 == 1) = false := by rw [HBIT.out]; simpa using hbit
        have HBT := Lib.hid hbit
        clear hbit
        go_wp2
        go_roundw
        case rel => exact ⟨k + 1, by omega, by omega, by go_num, by rw [HTF.out, turned_neg HBT.out], by rw [burst_neg HBT.out]; exact HOK.out, HB.out⟩
        case measure => simp [intOf]; omega
    · obtain ⟨wo, rfl⟩ : ∃ wo : World, wo = wr := ⟨_, rfl⟩
      have hsame := burst_same (lab v p e) T V k (lab_bts v p e) (by rw [lab_len]; exact hTk)
      have hbz := burst_bts (t := T) (V := V) (lab_bts v p e) k (by rw [lab_len]; exact hTk)
      have hnot := fun h => spoilt_not v p e T V k hTk hk h
      obtain ⟨ys, hys⟩ : ∃ ys, ys = burst (lab v p e) T V k := ⟨_, rfl⟩
      rw [← hys] at hsame hbz hnot HOK hbl
      have hBo : Below w.heap.size w wo := HB2.out.trans (HB.out.mono (by omega))
      have HBO := Lib.hid hBo
      have G3 := Lib.hid (show wo.heap[w.heap.size]? = some (.cells #[.int .i64 v, .int .i64 p, .int .i64 e] 54) by rw [HB.out.block _ (by omega)]; exact G2.out)
      have HRD := Lib.hid (read_any (some ⟨g, 0, none⟩) 14 kc ys wo (HT.out.below hBo) hbl hkc HOK.out.2.2.1 HOK.out.rd hbz)
      have HSAME := Lib.hid hsame; have HNOT := Lib.hid hnot
      have d34 : decide ((k : Int) < 32) = false ∨ (decide ((k : Int) < 32) = true ∧ decide ((T : Int) + k < 112) = false) := by
        by_cases h : k < 32
        · exact .inr ⟨decide_eq_true (by omega), decide_eq_false (by omega)⟩
        · exact .inl (decide_eq_false (by omega))
      obtain ⟨tf, htf⟩ : ∃ tf, tf = decide (V % 2 ^ k ≠ 0) := ⟨_, rfl⟩
      rw [← htf]
      have HTF := Lib.hid htf
      clear hsame hnot hys hbz hbl hBo hlt htf
      rcases d34 with d3 | ⟨d3, d4⟩
      all_goals
        go_wp2_with (go_at_call 37; fail)
        refine HRD.out.mono ?_
        rintro r w4 (⟨hlab, rfl, hB4⟩ | ⟨hlab, rfl, hB4⟩)
        · have h0 : V % 2 ^ k = 0 := HNOT.out hlab
          obtain rfl : tf = false := by rw [HTF.out, h0]; rfl
          have hy : lab v p e = ys := HSAME.out.2 h0
          obtain ⟨f1, f2, f3⟩ := lab_fields v p e HL.out
          rw [← hy, f1, f2, f3]
          have HB4 := Lib.hid (HBO.out.trans (hB4.mono HBO.out.size))
          have g4 : w4.heap[w.heap.size]? = some (.cells #[.int .i64 v, .int .i64 p, .int .i64 e] 54) := by rw [hB4.block _ (Array.getElem?_eq_some_iff.1 G3.out).1]; exact G3.out
          have sz4 : w.heap.size < w4.heap.size := (Array.getElem?_eq_some_iff.1 g4).1
          have a0 : w4.cell? ⟨w.heap.size, 0, none⟩ = some (.int .i64 v) := by simp [World.cell?, g4]
          have a1 : w4.cell? ⟨w.heap.size, 1, none⟩ = some (.int .i64 p) := by simp [World.cell?, g4]
          have a2 : w4.cell? ⟨w.heap.size, 2, none⟩ = some (.int .i64 e) := by simp [World.cell?, g4]
          have hsl := fun V => same_label v p e v p e V
          simp only [and_self, decide_true] at hsl
          have HSL := Lib.hid hsl
          clear hB4 g4 h0 hy f1 f2 f3 hsl
          go_wp2_with (go_at_call 39; fail)
          have hb5 : Below w.heap.size w (w4.alloc (.cells #[.int .i64 v, .int .i64 p, .int .i64 e] 54)) := HB4.out.alloc HB4.out.size _
          refine (HSL.out _).mono ?_
          rintro r w6 ⟨rfl, hB6⟩
          have HB6 := Lib.hid (hb5.trans (hB6.mono hb5.size))
          have HWK := Lib.hid (wakes14 w6 (HT.out.below HB6.out))
          clear hb5 hB6
          go_wp2_with (go_at_call 36; refine HWK.out.mono ?_; rintro r w7 ⟨rfl, hB7⟩; have HB7 := Lib.hid (HB6.out.trans (hB7.mono HB6.out.size)); clear hB7)
          go_ret
          exact ⟨rfl, HB7.out⟩
        · have hne : V % 2 ^ k ≠ 0 := fun h0 => hlab (by rw [← HSAME.out.2 h0]; exact lab_is v p e HL.out)
          obtain rfl : tf = true := by rw [HTF.out]; exact decide_eq_true hne
          have hb4 := HBO.out.trans (hB4.mono HBO.out.size)
          have hb5 : Below w.heap.size w (w4.alloc (.cells #[.int .i64 0, .int .i64 0, .int .i64 0] 54)) := hb4.alloc hb4.size _
          have HB5 := Lib.hid hb5
          have HWK := Lib.hid (wakes14 _ (HT.out.below hb5))
          clear hB4 hne hb4 hb5
          go_wp2_with (go_at_call 36; refine HWK.out.mono ?_; rintro r w7 ⟨rfl, hB7⟩; have HB7 := Lib.hid (HB5.out.trans (hB7.mono HB5.out.size)); clear hB7)
          go_ret
          exact ⟨rfl, HB7.out⟩

theorem spoilt_any (v p e a1 a3 : Int) (V : Nat) (w : World) (hT : Tab w) (hV : V < 2 ^ 32) :
    Calls Tryd.prog 12 #[.agg #[.int .i64 v, .int .i64 p, .int .i64 e], .int .i64 a1, .int .u32 (V : Int), .int .i64 a3] w fun r w' => r = .returned (.bool true) ∧ Below w.heap.size w w' := by
  by_cases h : lok v p e
  · by_cases h0 : V = 0
    · exact spoilt_bad v p e a1 a3 V w hT (.inr h0)
    · obtain ⟨T, hT2, hT1⟩ := uwrap_at a1 112 (by omega) (by omega)
      obtain ⟨C, hC2, hC1⟩ := uwrap_at a3 14 (by omega) (by omega)
      exact spoilt_walk v p e a1 a3 V T C w hT h h0 hV hT1 (by omega) hC1 (by omega)
  · exact spoilt_bad v p e a1 a3 V w hT (.inl h)

end Go.Proofs.YtmbkgjiofkggcaaDoor
