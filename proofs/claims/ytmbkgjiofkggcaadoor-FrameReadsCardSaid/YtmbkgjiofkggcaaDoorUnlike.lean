/-
  The walk of LabelUnlike.
-/
import Derived.Test.YtmbkgjiofkggcaaDoorRead
namespace Go.Proofs.YtmbkgjiofkggcaaDoor
open Go.RowKit
set_option linter.unusedVariables false

/-- What Bytes leaves: its bytes and no error, or none and an error. -/
theorem bytes_both (v p e : Int) (w : World) (hT : Tab w) : Calls Tryd.prog 33 #[.agg #[.int .i64 v, .int .i64 p, .int .i64 e]] w fun r w' =>
    (lok v p e ∧ RB w 14 (lab v p e) r w') ∨ (¬ lok v p e ∧ r = .returned (.tuple #[.slice none 0 0, .int .i64 1]) ∧ Below w.heap.size w w') := by
  by_cases h : lok v p e
  · exact (bytes_ok v p e w hT h).mono fun r w' h' => .inl ⟨h, h'⟩
  · exact (bytes_bad v p e w h).mono fun r w' h' => .inr ⟨h, h'⟩

set_option maxRecDepth 100000 in
set_option maxHeartbeats 1000000 in
theorem unlike_walk (v p e v' p' e' : Int) (w : World) (hT : Tab w) :
    Calls Tryd.prog 13 #[.agg #[.int .i64 v, .int .i64 p, .int .i64 e], .agg #[.int .i64 v', .int .i64 p', .int .i64 e']] w fun r w' => r = .returned (.bool true) ∧ Below w.heap.size w w' := by
  have HT := Lib.hid hT
  obtain ⟨W, hW⟩ : ∃ W, W = (w.alloc (.cells #[.int .i64 v, .int .i64 p, .int .i64 e] 54)).alloc (.cells #[.int .i64 v', .int .i64 p', .int .i64 e'] 54) := ⟨_, rfl⟩
  have hBW : Below w.heap.size w W := by rw [hW]; exact ((Below.refl _ _).alloc (Nat.le_refl _) _).alloc (by simp) _
  have hsz : W.heap.size = w.heap.size + 1 + 1 := by rw [hW, World.size_alloc, World.size_alloc]
  have hb0 : W.heap[w.heap.size]? = some (.cells #[.int .i64 v, .int .i64 p, .int .i64 e] 54) := by
    rw [hW, ((Below.refl (w.alloc _).heap.size (w.alloc (.cells #[.int .i64 v, .int .i64 p, .int .i64 e] 54))).alloc (Nat.le_refl _) _).block _ (by rw [World.size_alloc]; omega)]
    exact heap_alloc_new _ _
  have hb1 : W.heap[w.heap.size + 1]? = some (.cells #[.int .i64 v', .int .i64 p', .int .i64 e'] 54) := by
    have := heap_alloc_new (w.alloc (.cells #[.int .i64 v, .int .i64 p, .int .i64 e] 54)) (.cells #[.int .i64 v', .int .i64 p', .int .i64 e'] 54)
    rw [World.size_alloc] at this
    rw [hW]; exact this
  have HW := Lib.hid hW; have HBW := Lib.hid hBW; have HSZ := Lib.hid hsz; have HB0 := Lib.hid hb0; have HB1 := Lib.hid hb1
  clear hW hBW hsz hb0 hb1 hT
  go_enter Tryd.func13, Tryd.ntmps13
  go_wp2_with (go_at_call 33; fail)
  rw [← HW.out]
  refine (bytes_both v p e W (HT.out.below HBW.out)).mono ?_
  intro r w1 h1
  have hB1 : Below W.heap.size W w1 := by
    rcases h1 with ⟨_, _, _, _, _, h⟩ | ⟨_, _, h⟩ <;> exact h
  have G0 := Lib.hid (show w1.heap[w.heap.size]? = some (.cells #[.int .i64 v, .int .i64 p, .int .i64 e] 54) by rw [hB1.block _ (by rw [HSZ.out]; omega)]; exact HB0.out)
  have G1 := Lib.hid (show w1.heap[w.heap.size + 1]? = some (.cells #[.int .i64 v', .int .i64 p', .int .i64 e'] 54) by rw [hB1.block _ (by rw [HSZ.out]; omega)]; exact HB1.out)
  have BW1 := Lib.hid (HBW.out.trans (hB1.mono HBW.out.size))
  have b0 : w1.cell? ⟨w.heap.size + 1, 0, none⟩ = some (.int .i64 v') := by simp [World.cell?, G1.out]
  have b1 : w1.cell? ⟨w.heap.size + 1, 1, none⟩ = some (.int .i64 p') := by simp [World.cell?, G1.out]
  have b2 : w1.cell? ⟨w.heap.size + 1, 2, none⟩ = some (.int .i64 e') := by simp [World.cell?, G1.out]
  clear hB1
  rcases h1 with ⟨hl1, ko, kc, rfl, how, hB1⟩ | ⟨hl1, rfl, hB1⟩
  all_goals
    have HL1 := Lib.hid hl1
    clear hl1
    go_wp2_with (go_at_call 33; fail)
    refine (bytes_both v' p' e' w1 (HT.out.below BW1.out)).mono ?_
    intro r w2 h2
    have hB2 : Below w1.heap.size w1 w2 := by
      rcases h2 with ⟨_, _, _, _, _, h⟩ | ⟨_, _, h⟩ <;> exact h
    have BW2 := Lib.hid (BW1.out.trans (hB2.mono BW1.out.size))
    have sz1 : w.heap.size + 1 < w1.heap.size := by have := hB1.size; rw [HSZ.out] at this; omega
    have K0 := Lib.hid (show w2.heap[w.heap.size]? = some (.cells #[.int .i64 v, .int .i64 p, .int .i64 e] 54) by rw [hB2.block _ (by omega)]; exact G0.out)
    have K1 := Lib.hid (show w2.heap[w.heap.size + 1]? = some (.cells #[.int .i64 v', .int .i64 p', .int .i64 e'] 54) by rw [hB2.block _ (by omega)]; exact G1.out)
    have HWK := Lib.hid (wakes14 w2 (HT.out.below BW2.out))
    rcases h2 with ⟨hl2, ko2, kc2, rfl, how2, hB2'⟩ | ⟨hl2, rfl, hB2'⟩
  · have HO := Lib.hid (how.below hB2); have HO2 := Lib.hid how2; have HL2 := Lib.hid hl2
    clear how how2 hB1 hB2 hB2' hl2 b0 b1 b2
    have h6 : ∀ V, Below w2.heap.size w2 V → V.cell? ⟨w.heap.size, 0, none⟩ = some (.int .i64 v) ∧ V.cell? ⟨w.heap.size, 1, none⟩ = some (.int .i64 p) ∧ V.cell? ⟨w.heap.size, 2, none⟩ = some (.int .i64 e) ∧ V.cell? ⟨w.heap.size + 1, 0, none⟩ = some (.int .i64 v') ∧ V.cell? ⟨w.heap.size + 1, 1, none⟩ = some (.int .i64 p') ∧ V.cell? ⟨w.heap.size + 1, 2, none⟩ = some (.int .i64 e') := fun V hV => by
      have k0 : V.heap[w.heap.size]? = some (.cells #[.int .i64 v, .int .i64 p, .int .i64 e] 54) := by rw [hV.block _ (Array.getElem?_eq_some_iff.1 K0.out).1]; exact K0.out
      have k1 : V.heap[w.heap.size + 1]? = some (.cells #[.int .i64 v', .int .i64 p', .int .i64 e'] 54) := by rw [hV.block _ (Array.getElem?_eq_some_iff.1 K1.out).1]; exact K1.out
      simp [World.cell?, k0, k1]
    have H6 := Lib.hid h6
    have HR : Hid (Below w2.heap.size w2 w2) := Below.refl _ _
    obtain ⟨r, hr⟩ : ∃ r, r = decide (v = v' ∧ p = p' ∧ e = e') := ⟨_, rfl⟩
    have hr' : decide (lab v p e = lab v' p' e') = r := by
      rw [hr, Bool.eq_iff_iff, decide_eq_true_eq, decide_eq_true_eq]; exact lab_inj v p e v' p' e' HL1.out HL2.out
    have hbc : ∀ V, Below w2.heap.size w2 V → Calls Tryd.prog 19 #[.slice ko 14 kc, .slice ko2 14 kc2] V fun e w' => e = .returned (.bool r) ∧ ∃ q, w' = V.drewN q := fun V hV => by
      have := bytes_cmp ko ko2 14 14 kc kc2 _ _ V (lab_len v p e) (lab_len v' p' e') (by unfold maxLen; omega) (HO.out.rd.below hV) (HO2.out.rd.below hV)
      rwa [hr'] at this
    have hsl : ∀ V, Calls Tryd.prog 39 #[.agg #[.int .i64 v, .int .i64 p, .int .i64 e], .agg #[.int .i64 v', .int .i64 p', .int .i64 e']] V fun q w' => q = .returned (.bool r) ∧ Below V.heap.size V w' := fun V => by
      have := same_label v p e v' p' e' V
      rwa [← hr] at this
    have hwk : ∀ V, Below w2.heap.size w2 V → Calls Tryd.prog 36 #[] V fun e w' => e = .returned (.bool true) ∧ Below V.heap.size V w' := fun V hV => wakes14 V ((HT.out.below BW2.out).below hV)
    have hrr : (r == r) = true := by simp
    have HBC := Lib.hid hbc; have HSL := Lib.hid hsl; have HWV := Lib.hid hwk
    clear h6 hr hr' hbc hsl hwk HWK
    go_wp2
    go_region_held3 (fun V => V.cell? ⟨w.heap.size, 0, none⟩ = some (.int .i64 v) ∧ V.cell? ⟨w.heap.size, 1, none⟩ = some (.int .i64 p) ∧ V.cell? ⟨w.heap.size, 2, none⟩ = some (.int .i64 e) ∧ V.cell? ⟨w.heap.size + 1, 0, none⟩ = some (.int .i64 v') ∧ V.cell? ⟨w.heap.size + 1, 1, none⟩ = some (.int .i64 p') ∧ V.cell? ⟨w.heap.size + 1, 2, none⟩ = some (.int .i64 e')) (first | exact H6.out _ (Below.refl _ _).drew | exact H6.out _ HB9.out | exact H6.out _ HB8.out | exact H6.out _ HB7.out) (first | (go_at_call 19; (with_reducible refine (HBC.out _ (Below.refl _ _).drew).mono ?_); rintro r3 w7 ⟨rfl, hq7⟩; have HB7 : Hid (Below w2.heap.size w2 w7) := (by obtain ⟨q7, rfl⟩ := hq7; exact below_drewN (Below.refl _ _).drew q7); clear hq7) | (go_at_call 39; (with_reducible refine (HSL.out _).mono ?_); rintro r3 w8 ⟨rfl, hB8⟩; have HB8 : Hid (Below w2.heap.size w2 w8) := HB7.out.trans (hB8.mono HB7.out.size); clear hB8) | (go_at_call 36; (with_reducible refine (HWV.out _ HB8.out).mono ?_); rintro r3 w9 ⟨rfl, hB9⟩; have HB9 : Hid (Below w2.heap.size w2 w9) := HB8.out.trans (hB9.mono HB8.out.size); clear hB9))
    go_wp2
    go_ret
    exact ⟨rfl, BW2.out.trans (HB9.out.mono BW2.out.size)⟩
  all_goals
    clear hB1 hB2 hB2' hl2 b0 b1 b2
    go_wp2_with (go_at_call 36; refine HWK.out.mono ?_; rintro r w3 ⟨rfl, hB3⟩; have HB3 := Lib.hid hB3; clear hB3)
    go_ret
    exact ⟨rfl, BW2.out.trans (HB3.out.mono BW2.out.size)⟩

end Go.Proofs.YtmbkgjiofkggcaaDoor
