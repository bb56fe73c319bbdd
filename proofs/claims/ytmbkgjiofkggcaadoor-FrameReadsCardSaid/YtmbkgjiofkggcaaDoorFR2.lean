/-
  The document's ReadFrame, where it ends early.
-/
import Derived.Test.YtmbkgjiofkggcaaDoorFrame18
import Derived.Test.YtmbkgjiofkggcaaDoorFrame6
namespace Go.Proofs.YtmbkgjiofkggcaaDoor
open Go.RowKit
set_option linter.unusedVariables false

theorem rread_neg (ao : Option Addr) (len cap : Nat) (at' : Int) (w : World) (h : at' < 0) : Calls Tryd.prog 27 #[.slice ao len cap, .int .i64 at'] w (RF0 w 1) := by
  have d1 : decide (at' < 0) = true := decide_eq_true h
  go_enter Tryd.func27, Tryd.ntmps27
  go_wp2
  refine bodyPost_ret (v := .tuple #[.agg #[.int .i64 0, .int .i64 0, .slice none 0 0], .int .i64 0, .int .i64 1]) (by simp [results, Tryd.results27, go_sem]) rfl ⟨rfl, ?_⟩
  first | exact (Below.refl _ _).alloc (Nat.le_refl _) _ | exact ((((Below.refl _ _).alloc (Nat.le_refl _) _).setCell (Nat.le_refl _) _).setCell (Nat.le_refl _) _).setCell (Nat.le_refl _) _
theorem rread_past (ao : Option Addr) (len cap : Nat) (at' : Int) (w : World) (h0 : ¬ at' < 0) (h : (len : Int) < at') : Calls Tryd.prog 27 #[.slice ao len cap, .int .i64 at'] w (RF0 w 1) := by
  have d1 : decide (at' < 0) = false := decide_eq_false h0
  have d2 : decide ((len : Int) < at') = true := decide_eq_true h
  go_enter Tryd.func27, Tryd.ntmps27
  go_wp2
  refine bodyPost_ret (v := .tuple #[.agg #[.int .i64 0, .int .i64 0, .slice none 0 0], .int .i64 0, .int .i64 1]) (by simp [results, Tryd.results27, go_sem]) rfl ⟨rfl, ?_⟩
  first | exact (Below.refl _ _).alloc (Nat.le_refl _) _ | exact ((((Below.refl _ _).alloc (Nat.le_refl _) _).setCell (Nat.le_refl _) _).setCell (Nat.le_refl _) _).setCell (Nat.le_refl _) _
theorem rread_short (ao : Option Addr) (len cap a : Nat) (w : World) (hm : len ≤ 1000000000) (h : a ≤ len) (h2 : len < a + 13) : Calls Tryd.prog 27 #[.slice ao len cap, .int .i64 (a : Int)] w (RF0 w 3) := by
  have d1 : decide ((a : Int) < 0) = false := decide_eq_false (by omega)
  have d2 : decide ((len : Int) < (a : Int)) = false := decide_eq_false (by omega)
  have d2' : decide (len < a) = false := decide_eq_false (by omega)
  have d3 : decide ((len : Int) - (a : Int) < 13) = true := decide_eq_true (by omega)
  go_enter Tryd.func27, Tryd.ntmps27
  go_wp2
  refine bodyPost_ret (v := .tuple #[.agg #[.int .i64 0, .int .i64 0, .slice none 0 0], .int .i64 0, .int .i64 3]) (by simp [results, Tryd.results27, go_sem]) rfl ⟨rfl, ?_⟩
  first | exact (Below.refl _ _).alloc (Nat.le_refl _) _ | exact ((((Below.refl _ _).alloc (Nat.le_refl _) _).setCell (Nat.le_refl _) _).setCell (Nat.le_refl _) _).setCell (Nat.le_refl _) _
end Go.Proofs.YtmbkgjiofkggcaaDoor
