/-
  Tapes: wakes.
-/
import Derived.Test.YtmcbmemgeegodaaMed7
namespace Go.Proofs.Ytmcbmemgeegodaa
open Go.RowKit
set_option linter.unusedVariables false

theorem MPost.elim {w : World} {er p : Int} {ks : List Key} {e : Ending} {w' : World} (h : MPost w (er, p, ks) e w') : ∃ ko n kc cs, e = .returned (.tuple #[.agg #[.int .i64 p, .slice ko n kc], .int .i64 er]) ∧ OCs w' w.heap.size ko n kc cs ∧ keys cs = ks ∧ Below w.heap.size w w' := h
theorem heap2 {w : World} {g T : Nat} {v0 v1 : Value} (h : w.heap[g]? = some (.cells #[v0, v1] T (0, 0))) (u0 u1 : Value) : ((w.setCell ⟨g, 0, none⟩ u0).setCell ⟨g, 1, none⟩ u1).heap[g]? = some (.cells #[u0, u1] T (0, 0)) := by
  have b2 := Go.Joins.block_setCell (i := 1) (Go.Joins.block_setCell (i := 0) h u0) u1
  simpa using b2
theorem new_cell {w : World} (v0 v1 : Value) (T : Nat) : (w.alloc (.cells #[v0, v1] T)).heap[w.heap.size]? = some (.cells #[v0, v1] T (0, 0)) := heap_alloc_new _ _



end Go.Proofs.Ytmcbmemgeegodaa
