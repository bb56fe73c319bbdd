/-
  An operation whose guard says no; a whole array loaded.
-/
import Derived.Test.YtdpnkdliibccjaaDoorPartsEnd
namespace Go.Proofs.YtdpnkdliibccjaaDoor
open Go.RowKit
set_option linter.unusedVariables false

/-- An operation whose guard says no. -/
theorem each_skip {P : Program} {ops : Array Oper} {Q : Exit → Act → World → Prop} {i : Nat} {o : Oper} {a : Act} {w : World} {K : Act → World → Prop} (hi : ops[i]? = some o) (hw : Region.wanted o (yielded ops a.tmps) = false) (h : K (a.put o.dst undef) w) : wpOp P ops Q i K a w := by
  unfold wpOp
  simp only [hi, hw]
  exact h
theorem load_run (w : World) {g : Nat} {L : List Value} (h : Blk w g 25 L) (hl : L.length = 32) : (Instr.loadAt 25 (.pointer (some ⟨g, 0, none⟩)) >>= fun y => pure (Next.value y)).run Tryd.prog w = .ok (.value (.agg L.toArray)) w := by
  refine run_bind_of ?_
  simp only [Instr.loadAt, Instr.sureAddr, Sem.run_bind, Sem.run_pure, Result.andThen_ok]
  exact run_loadVar_row w g 25 25 L.toArray (0, 0) _ h Tryd.underlying25 rfl (by rw [List.size_toArray, hl]; exact info25)
end Go.Proofs.YtdpnkdliibccjaaDoor
