/-
  The contract of Bytes.
-/
import Derived.Test.YtilpehbbjhignaaDoorWakes
import Derived.Laws.Rows
namespace Go.Proofs.YtilpehbbjhignaaDoor
open Go.RowKit
set_option linter.unusedVariables false

/-- A number's bytes, the lowest first. -/
def le4 (s : Int) : List Int := [s % 256, s / 256 % 256, s / 65536 % 256, s / 16777216]

theorem info29 : (Tryd.prog.info? 29).map (·.size) = some 4 := by kernel_rfl
theorem bytes_any (ao : Option Addr) (n cap : Nat) (ps : List Part) (w : World) (s : Int) (hs : s = ((sumOf (flat ps)).toNat : Int)) (hl : ps.length = n) (hm : n ≤ maxLen) (hT : Tab w) (h : Ps w ao ps) :
    Calls Tryd.prog 12 #[.slice ao n cap] w fun e w' => e = .returned (.agg #[.int .u8 (s % 256), .int .u8 (s / 256 % 256), .int .u8 (s / 65536 % 256), .int .u8 (s / 16777216)]) ∧ Below w.heap.size w w' := by
  have HS := Lib.hid (fun w1 (hB : Below w.heap.size w w1) => sum_any ao n cap ps w1 hl hm (hT.below hB) (h.below hB))
  have hlt : 0 ≤ s ∧ s < 4294967296 := by rw [hs]; have := (sumOf (flat ps)).isLt; omega
  rw [← hs] at HS
  obtain ⟨h0, h1⟩ := hlt
  clear hl hm hT h hs
  go_enter Tryd.func12, Tryd.ntmps12
  go_wp2_with (go_at_call 11; refine (HS.out _ ?_).mono ?_; exact (Below.refl _ _).alloc (Nat.le_refl _) _; rintro e w1 ⟨rfl, rfl⟩)
  refine bodyPost_ret (results_cell_row rfl _ _ w.heap.size 29 _ (0, 0) _ rfl (heap_alloc_new _ _) Tryd.underlying29 rfl info29) rfl ?_
  exact ⟨rfl, (Below.refl _ _).alloc (Nat.le_refl _) _⟩
end Go.Proofs.YtilpehbbjhignaaDoor
