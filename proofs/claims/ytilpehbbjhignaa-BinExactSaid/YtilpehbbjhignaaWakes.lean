/-
  What is tried at each statement's end.
-/
import Derived.Test.YtilpehbbjhignaaPlain
import Derived.Test.YtilpehbbjhignaaParts
import Derived.WalkKit
import Derived.WalkSpells
import Derived.WalkSmall
import Derived.Outline
import Derived.Lib.Hide
import Derived.Deep.QuietTactic
import Derived.BigQuiet
namespace Go.Proofs.Ytilpehbbjhignaa
open Go.RowKit
set_option linter.unusedVariables false



theorem be258 : be 258 2 = [1, 2] := by decide
theorem num258 : num [1, 2] = 258 := by decide

theorem put258 (w : World) : Calls Try.prog 10 #[.slice none 0 0, .int .i64 258, .int .i64 2] w fun e w' => e = .returned (.tuple #[.slice (some ⟨w.heap.size, 0, none⟩) 2 2, .int .i64 0]) ∧
      w'.heap[w.heap.size]? = some (.cells (([1, 2] : List Int).map (Value.int .u8)).toArray 5 (0, 0)) ∧ Below w.heap.size w w' := by
  have h := put_rd none 0 0 [] 258 2 w rfl (by omega) (Rd.nil _ _) (by omega) (by omega) (by decide)
  rw [be258] at h
  simpa using h

theorem get258 (w : World) (g : Nat) (h : w.heap[g]? = some (.cells (([1, 2] : List Int).map (Value.int .u8)).toArray 5 (0, 0))) : Calls Try.prog 14 #[.slice (some ⟨g, 0, none⟩) 2 2, .int .i64 0, .int .i64 2] w fun e w' => e = .returned (.tuple #[.int .i64 258, .int .i64 2, .int .i64 0]) ∧ w = w' := by
  have c := get_rd (some ⟨g, 0, none⟩) 2 2 [1, 2] 0 2 w rfl (by omega) (by decide) (Rd.block h) (by intro j hj; match j, hj with | 0, _ => decide | 1, _ => decide) (by omega) (by omega) (by omega)
  exact c

theorem wakes_any (w : World) : Calls Try.prog 20 #[] w fun e w' => e = .returned (.bool true) ∧ Below w.heap.size w w' := by
  go_enter Try.func20, Try.ntmps20
  go_wp2_with (first
    | (go_at_call 10; refine (put258 _).mono ?_; rintro e w1 ⟨rfl, hb1, hB1⟩; have HB1 := Lib.hid hb1; have c0 : w1.cell? ⟨w.heap.size, 0, none⟩ = some (.int .u8 1) := cell_of_block hb1 (by decide); have c1 : w1.cell? ⟨w.heap.size, 1, none⟩ = some (.int .u8 2) := cell_of_block hb1 (by decide); clear hb1)
    | (go_at_call 14; refine (get258 _ _ HB1.out).mono ?_; rintro e w2 ⟨rfl, rfl⟩))
  go_ret
  exact ⟨rfl, hB1⟩

end Go.Proofs.Ytilpehbbjhignaa
