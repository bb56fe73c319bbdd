/-
  FrameCuts.
-/
import Derived.Test.YtifbbikhjolnjaaDoorFrame13
namespace Go.Proofs.YtifbbikhjolnjaaDoor
open Go.RowKit
set_option linter.unusedVariables false

theorem Rs.take {w : World} {ao : Option Addr} {rs : List Rec} (h : Rs w ao rs) (j : Nat) : Rs w ao (rs.take j) := by
  rcases h with h | ⟨b, o, ha, hc⟩
  · exact .inl (by simp [h])
  · refine .inr ⟨b, o, ha, fun i hi => ?_⟩
    rw [List.length_take] at hi
    rw [List.getElem_take]
    exact hc i (by omega)

end Go.Proofs.YtifbbikhjolnjaaDoor
