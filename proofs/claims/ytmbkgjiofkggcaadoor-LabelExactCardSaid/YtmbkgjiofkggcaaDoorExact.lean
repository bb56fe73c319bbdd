/-
  LabelExact: the walk.
-/
import Derived.Test.YtmbkgjiofkggcaaDoorRRead
namespace Go.Proofs.YtmbkgjiofkggcaaDoor
open Go.RowKit
set_option linter.unusedVariables false

set_option maxHeartbeats 1000000 in
theorem exact_walk (v p e : Int) (w : World) (hT : Tab w) : Calls Tryd.prog 10 #[.agg #[.int .i64 v, .int .i64 p, .int .i64 e]] w fun r w' => r = .returned (.bool true) ∧ Below w.heap.size w w' := by
  obtain ⟨W0, hW0⟩ : ∃ W0, W0 = w.alloc (.cells #[.int .i64 v, .int .i64 p, .int .i64 e] 54) := ⟨_, rfl⟩
  have hb0 : Below w.heap.size w W0 := by rw [hW0]; exact (Below.refl _ _).alloc (Nat.le_refl _) _
  have hk0 : W0.heap[w.heap.size]? = some (.cells #[.int .i64 v, .int .i64 p, .int .i64 e] 54) := by rw [hW0]; exact heap_alloc_new _ _
  -- the cells of the label's box, in every later world
  have hlb : w.heap.size < W0.heap.size := (Array.getElem?_eq_some_iff.1 hk0).1
  have hS : ∀ V, Below W0.heap.size W0 V → V.cell? ⟨w.heap.size, 0, none⟩ = some (.int .i64 v) ∧ V.cell? ⟨w.heap.size, 1, none⟩ = some (.int .i64 p) ∧ V.cell? ⟨w.heap.size, 2, none⟩ = some (.int .i64 e) := fun V hV => by
    have k : V.heap[w.heap.size]? = some (.cells #[.int .i64 v, .int .i64 p, .int .i64 e] 54) := by rw [hV.block _ hlb]; exact hk0
    simp [World.cell?, k]
  have HS := Lib.hid hS; have HB0 := Lib.hid hb0; have HW0 := Lib.hid hW0
  obtain ⟨a0, a1, a2⟩ := hS W0 (Below.refl _ _)
  have HT0 : Hid (Tab W0) := hT.below hb0
  have HRL := Lib.hid (fun V => rlabel_any v p e V)
  clear hW0 hb0 hk0 hlb hS hT
  by_cases hlok : lok v p e
  · have HLOK := Lib.hid hlok
    have HBY := Lib.hid (bytes_ok v p e W0 HT0.out hlok)
    have HCK := Lib.hid (fun V => check_ok v p e V hlok)
    have HRB := Lib.hid (fun V => rlb_ok v p e V hlok)
    have hf := lab_fields v p e hlok
    have hil := lab_is v p e hlok
    have HF := Lib.hid hf; have HIL := Lib.hid hil
    clear hf hil hlok
    have hrl : ∀ V, Calls Tryd.prog 34 #[.agg #[.int .i64 v, .int .i64 p, .int .i64 e]] V fun r w' => r = .returned (.bool true) ∧ Below V.heap.size V w' := fun V =>
      (HRL.out V).mono fun r w' h => ⟨by rcases h.1 with h | h; exact h.2; exact absurd HLOK.out h.1, h.2⟩
    have HR1 := Lib.hid hrl
    clear hrl
    go_enter Tryd.func10, Tryd.ntmps10
    go_wp2_with (go_at_call 33; fail)
    rw [← HW0.out]
    refine HBY.out.mono ?_
    rintro r w1 ⟨k1, c1, rfl, ho1, hB1⟩
    have HB1 := Lib.hid hB1; have HO1 := Lib.hid ho1
    clear a0 a1 a2
    obtain ⟨a0, a1, a2⟩ := HS.out w1 hB1
    clear hB1 ho1
    go_wp2_with (go_at_call 34; fail)
    refine (HR1.out w1).mono ?_
    rintro r w2 ⟨rfl, hB2⟩
    have HB2 : Hid (Below W0.heap.size W0 w2) := HB1.out.trans (hB2.mono HB1.out.size)
    have HO2 := Lib.hid (HO1.out.below hB2)
    have HRD := Lib.hid (read_any k1 14 c1 (lab v p e) w2 (HT0.out.below HB2.out) HO1.out.1 HO1.out.2.1 HO1.out.2.2.1 HO2.out.rd (lab_bts v p e))
    clear a0 a1 a2 hB2
    go_wp2_with (go_at_call 37; fail)
    refine HRD.out.mono ?_
    rintro r w3 (⟨_, hr3, hB3⟩ | ⟨hno, _⟩)
    case inr => exact absurd HIL.out hno
    rw [HF.out.1, HF.out.2.1, HF.out.2.2] at hr3
    subst hr3
    obtain ⟨W3, hW3⟩ : ∃ W3, W3 = w3.alloc (.cells #[.int .i64 v, .int .i64 p, .int .i64 e] 54) := ⟨_, rfl⟩
    have hBW3 : Below w3.heap.size w3 W3 := by rw [hW3]; exact (Below.refl _ _).alloc (Nat.le_refl _) _
    have hk3 : W3.heap[w3.heap.size]? = some (.cells #[.int .i64 v, .int .i64 p, .int .i64 e] 54) := by rw [hW3]; exact heap_alloc_new _ _
    have hlt3 : w3.heap.size < W3.heap.size := (Array.getElem?_eq_some_iff.1 hk3).1
    have HB3 : Hid (Below W0.heap.size W0 W3) := (HB2.out.trans (hB3.mono HB2.out.size)).trans (hBW3.mono (Nat.le_trans HB2.out.size hB3.size))
    have HO3 := Lib.hid ((HO2.out.below hB3).below hBW3)
    have hS3 : ∀ V, Below W3.heap.size W3 V → V.cell? ⟨w3.heap.size, 0, none⟩ = some (.int .i64 v) ∧ V.cell? ⟨w3.heap.size, 1, none⟩ = some (.int .i64 p) ∧ V.cell? ⟨w3.heap.size, 2, none⟩ = some (.int .i64 e) := fun V hV => by
      have k : V.heap[w3.heap.size]? = some (.cells #[.int .i64 v, .int .i64 p, .int .i64 e] 54) := by rw [hV.block _ hlt3]; exact hk3
      simp [World.cell?, k]
    have HS3 := Lib.hid hS3
    obtain ⟨a0, a1, a2⟩ := HS.out W3 HB3.out
    have HW3 := Lib.hid hW3
    clear hB3 hBW3 hk3 hlt3 hS3 hW3
    have hw3e := HW3.out
    subst hw3e
    go_wp2_with (go_at_call 35; fail)
    obtain ⟨W3, hW3⟩ : ∃ W3, W3 = w3.alloc (.cells #[.int .i64 v, .int .i64 p, .int .i64 e] 54) := ⟨_, rfl⟩
    rw [← hW3] at HS3 HB3 HO3 ⊢
    clear a0 a1 a2 HW3 hW3
    refine (HCK.out W3).mono ?_
    rintro r w4 ⟨rfl, hB4⟩
    have HB4 : Hid (Below W0.heap.size W0 w4) := HB3.out.trans (hB4.mono HB3.out.size)
    have HD4 := Lib.hid hB4
    have HO4 := Lib.hid (HO3.out.below hB4)
    obtain ⟨a0, a1, a2⟩ := HS.out w4 HB4.out
    clear hB4
    go_wp2_with (go_at_call 38; fail)
    refine (HRB.out w4).mono ?_
    rintro r w5 ⟨k5, c5, rfl, ho5, hB5⟩
    have HB5 : Hid (Below W0.heap.size W0 w5) := HB4.out.trans (hB5.mono HB4.out.size)
    have HD5 : Hid (Below W3.heap.size W3 w5) := HD4.out.trans (hB5.mono HD4.out.size)
    have HO5 := Lib.hid (HO4.out.below hB5)
    have hbc := bytes_cmp k1 k5 14 14 c1 c5 (lab v p e) (lab v p e) w5 HO5.out.1 ho5.1 (by unfold maxLen; omega) HO5.out.rd ho5.rd
    rw [show decide (lab v p e = lab v p e) = true by simp] at hbc
    have HBC := Lib.hid hbc
    clear a0 a1 a2 hbc ho5 hB5
    go_wp2_with (go_at_call 19; fail)
    refine HBC.out.mono ?_
    rintro r w6 ⟨rfl, q, hq⟩
    have HB6 : Hid (Below W0.heap.size W0 w6) := by rw [hq]; exact below_drewN HB5.out q
    have HD6 : Hid (Below W3.heap.size W3 w6) := by rw [hq]; exact below_drewN HD5.out q
    obtain ⟨a0, a1, a2⟩ := HS.out w6 HB6.out
    obtain ⟨b0, b1, b2⟩ := HS3.out w6 HD6.out
    have hsl := same_label v p e v p e w6
    rw [show decide (v = v ∧ p = p ∧ e = e) = true by simp] at hsl
    have HSL := Lib.hid hsl
    clear hq hsl
    go_wp2_with (go_at_call 39; fail)
    refine HSL.out.mono ?_
    rintro r w7 ⟨rfl, hB7⟩
    have HB7 : Hid (Below W0.heap.size W0 w7) := HB6.out.trans (hB7.mono HB6.out.size)
    have HWK := Lib.hid (wakes14 w7 (HT0.out.below HB7.out))
    clear hB7 a0 a1 a2 b0 b1 b2
    go_wp2_with (go_at_call 36; refine HWK.out.mono ?_; rintro r w8 ⟨rfl, hB8⟩; have HB8 : Hid (Below W0.heap.size W0 w8) := HB7.out.trans (hB8.mono HB7.out.size); clear hB8)
    go_ret
    exact ⟨rfl, HB0.out.trans (HB8.out.mono HB0.out.size)⟩
  · have HBY := Lib.hid (bytes_bad v p e W0 hlok)
    have HCK := Lib.hid (fun V => check_bad v p e V hlok)
    have HNL := Lib.hid hlok
    have hrl : ∀ V, Calls Tryd.prog 34 #[.agg #[.int .i64 v, .int .i64 p, .int .i64 e]] V fun r w' => r = .returned (.bool false) ∧ Below V.heap.size V w' := fun V =>
      (HRL.out V).mono fun r w' h => ⟨by rcases h.1 with h | h; exact absurd h.1 HNL.out; exact h.2, h.2⟩
    have HR1 := Lib.hid hrl
    clear hrl hlok
    go_enter Tryd.func10, Tryd.ntmps10
    go_wp2_with (go_at_call 33; fail)
    rw [← HW0.out]
    refine HBY.out.mono ?_
    rintro r w1 ⟨rfl, hB1⟩
    have HB1 := Lib.hid hB1
    clear a0 a1 a2
    obtain ⟨a0, a1, a2⟩ := HS.out w1 hB1
    clear hB1
    go_wp2_with (go_at_call 34; fail)
    refine (HR1.out w1).mono ?_
    rintro r w2 ⟨rfl, hB2⟩
    have HB2 : Hid (Below W0.heap.size W0 w2) := HB1.out.trans (hB2.mono HB1.out.size)
    clear a0 a1 a2 hB2
    obtain ⟨a0, a1, a2⟩ := HS.out w2 HB2.out
    go_wp2_with (go_at_call 35; fail)
    refine (HCK.out w2).mono ?_
    rintro r w3 ⟨rfl, hB3⟩
    have HB3 : Hid (Below W0.heap.size W0 w3) := HB2.out.trans (hB3.mono HB2.out.size)
    have HWK := Lib.hid (wakes14 w3 (HT0.out.below HB3.out))
    clear a0 a1 a2 hB3
    go_wp2_with (go_at_call 36; refine HWK.out.mono ?_; rintro r w8 ⟨rfl, hB8⟩; have HB8 : Hid (Below W0.heap.size W0 w8) := HB3.out.trans (hB8.mono HB3.out.size); clear hB8)
    go_ret
    exact ⟨rfl, HB0.out.trans (HB8.out.mono HB0.out.size)⟩

end Go.Proofs.YtmbkgjiofkggcaaDoor
