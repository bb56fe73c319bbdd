/-
  What a walk is told of bytes that came in.
-/
import Derived.Test.YtcldfnnnjmhkjaaBytes
namespace Go.Proofs.Ytcldfnnnjmhkjaa
open Go.RowKit
set_option linter.unusedVariables false

/-- A slice of numbers: nil, or a row of cap numbers. -/
def IsRow (k : IntKind) (w : World) (a : Option Addr) (len cap : Nat) (zs : List Int) : Prop :=
  (a = none ∧ len = 0 ∧ cap = 0 ∧ zs = []) ∨
  ∃ x, a = some x ∧ len ≤ cap ∧ cap ≤ maxLen ∧ zs.length = cap ∧ (∀ i, i < zs.length → w.cell? (x.add i) = some (.int k (zs.getD i 0))) ∧ ∀ n ∈ zs, (Lit.int k n).wf = true
theorem IsRow.bytes {w : World} {a : Option Addr} {len cap : Nat} {zs : List Int} (h : IsRow .u8 w a len cap zs) :
    (zs.take len).length = len ∧ len ≤ cap ∧ cap ≤ maxLen ∧ Rd w a (zs.take len) ∧ Bts (zs.take len) ∧ (a = none → cap = 0) := by
  rcases h with ⟨rfl, rfl, rfl, rfl⟩ | ⟨x, rfl, h1, h2, h3, h4, h5⟩
  · exact ⟨rfl, Nat.le_refl _, Nat.zero_le _, Rd.nil _ _, Bts.nil, fun _ => rfl⟩
  · exact ⟨by simp; omega, h1, h2, rd_of_ints h3 h1 h4, (bts_of_wf h5).take _, fun h => by cases h⟩

end Go.Proofs.Ytcldfnnnjmhkjaa
