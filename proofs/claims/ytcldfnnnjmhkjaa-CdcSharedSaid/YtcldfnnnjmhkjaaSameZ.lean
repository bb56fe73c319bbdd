/-
  The walk of CdcSame at no byte.
-/
import Derived.Test.YtcldfnnnjmhkjaaFill
import Derived.Test.YtcldfnnnjmhkjaaSameEnd
namespace Go.Proofs.Ytcldfnnnjmhkjaa
open Go.RowKit
set_option linter.unusedVariables false

theorem cut_zero (g : Nat) (w : World) : Calls Try.prog 14 #[.slice (some ⟨g, 0, none⟩) 0 0] w fun e w' => ∃ ao cap, e = .returned (.tuple #[.slice ao 0 cap, .int .i64 0]) ∧ Below w.heap.size w w' := by
  refine (cut_end (some ⟨g, 0, none⟩) 0 0 [] w rfl (Nat.le_refl _) (Nat.zero_le _) (by omega) (Rd.nil _ _) Bts.nil).mono ?_
  rintro e w' ⟨ao, cap, h1, _, _, _, h2⟩
  exact ⟨ao, cap, h1, h2⟩
def CutZero (w : World) (e : Ending) (w' : World) : Prop := ∃ ao n cap, e = .returned (.tuple #[.slice ao n cap, .int .i64 0]) ∧ n = 0 ∧ Below w.heap.size w w'

set_option maxRecDepth 100000 in
set_option maxHeartbeats 1000000 in
theorem same_zero (a1 : Int) (x : Int) (w : World) (hN : wrap64 ((IntKind.u64.wrap a1).tmod 1500) = 0) :
    Calls Try.prog 9 #[.int .u8 x, .int .i64 a1] w fun e w' => e = .returned (.bool true) ∧ Below w.heap.size w w' := by
  obtain ⟨i0, hi, hz0, hz1, hz2⟩ := info_parts Try.info5
  have hcut : ∀ (g : Nat) (w : World), Calls Try.prog 14 #[.slice (some ⟨g, 0, none⟩) 0 0] w (CutZero w) := fun g w => (cut_zero g w).mono (fun e w' h => by obtain ⟨ao, cap, h1, h2⟩ := h; exact ⟨ao, 0, cap, h1, rfl, h2⟩)
  have HCZ := Lib.hid hcut
  clear hcut
  go_enter Try.func9, Try.ntmps9
  go_wp2_with (at_make; refine wpList_make_full _ rfl (.tmp 14) (.tmp 14) 22 rfl w.heap.size 5 i0 (.int .u8 0) 1 Try.underlying22 hi hz0 hz1 .i64 .i64 _ _ 0 rfl rfl (by first | rfl | exact hN | omega) (by first | rfl | exact hN | omega) (by omega) (by unfold maxLen; omega) (Nat.le_refl _) ?_; intro w1 hown1 hgrow1; have HB1 := Lib.hid (Below.grown (Below.refl _ _) hgrow1 (Nat.le_refl _) (fun k h => by cases h)); clear hown1 hgrow1)
  try rw [hN]
  clear hN
  refine wp_loop_rounds 1 ?_
  rw [rounds_succ]
  go_wp2_with (go_at_call 14; fail)
  refine (HCZ.out _ _).mono ?_
  rintro e w2 ⟨lo, n, lc, rfl, hn, hB2⟩
  obtain rfl := hn
  have HB2 := Lib.hid (HB1.out.trans (hB2.mono HB1.out.size))
  clear hB2
  go_wp2_with (go_at_call 17; fail)
  refine wp_loop_rounds 1 ?_
  rw [rounds_succ]
  go_wp2_with (go_at_call 17; fail)
  refine se_at rfl rfl ?_
  intro v w5 hB5 h15
  have HB5 := Lib.hid (HB2.out.trans (hB5.mono HB2.out.size))
  have H15 := Lib.hid h15
  clear hB5 h15
  unfold seF
  rw [H15.out]
  go_wp2
  go_ret
  exact ⟨rfl, HB5.out⟩

end Go.Proofs.Ytcldfnnnjmhkjaa
