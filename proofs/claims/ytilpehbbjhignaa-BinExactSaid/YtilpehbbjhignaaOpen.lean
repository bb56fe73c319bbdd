/-
  What a walk is told of slices that came in.
-/
import Derived.Test.YtilpehbbjhignaaCat
namespace Go.Proofs.Ytilpehbbjhignaa
open Go.RowKit
set_option linter.unusedVariables false

/-- A slice of numbers: nil, or a row of cap numbers. -/
def IsRow (k : IntKind) (w : World) (a : Option Addr) (len cap : Nat) (zs : List Int) : Prop :=
  (a = none ∧ len = 0 ∧ cap = 0 ∧ zs = []) ∨
  ∃ x, a = some x ∧ len ≤ cap ∧ cap ≤ maxLen ∧ zs.length = cap ∧ (∀ i, i < zs.length → w.cell? (x.add i) = some (.int k (zs.getD i 0))) ∧ ∀ n ∈ zs, (Lit.int k n).wf = true
/-- A slice of slices of numbers. -/
def IsRows (k : IntKind) (w : World) (a : Option Addr) (len cap : Nat) (A : Nat → Option Addr) (L C : Nat → Nat) (Z : Nat → List Int) : Prop :=
  (a = none ∧ len = 0 ∧ cap = 0) ∨
  ∃ x, a = some x ∧ len ≤ cap ∧ cap ≤ maxLen ∧ ∀ r, r < cap → w.cell? (x.add r) = some (.slice (A r) (L r) (C r)) ∧ L r ≤ C r ∧ C r ≤ maxLen ∧ (Z r).length = C r ∧ (∀ n ∈ Z r, (Lit.int k n).wf = true) ∧
    (A r = none → C r = 0) ∧ ∀ a', A r = some a' → ∀ c, c < C r → w.cell? (a'.add c) = some (.int k ((Z r).getD c 0))

theorem IsRow.bytes {w : World} {a : Option Addr} {len cap : Nat} {zs : List Int} (h : IsRow .u8 w a len cap zs) :
    (zs.take len).length = len ∧ len ≤ cap ∧ cap ≤ maxLen ∧ Rd w a (zs.take len) ∧ Bts (zs.take len) ∧ (a = none → cap = 0) := by
  rcases h with ⟨rfl, rfl, rfl, rfl⟩ | ⟨x, rfl, h1, h2, h3, h4, h5⟩
  · exact ⟨rfl, Nat.le_refl _, Nat.zero_le _, Rd.nil _ _, Bts.nil, fun _ => rfl⟩
  · exact ⟨by simp; omega, h1, h2, rd_of_ints h3 h1 h4, (bts_of_wf h5).take _, fun h => by cases h⟩

theorem IsRows.bytes {w : World} {a : Option Addr} {len cap : Nat} {A : Nat → Option Addr} {L C : Nat → Nat} {Z : Nat → List Int} (h : IsRows .u8 w a len cap A L C Z) :
    Pts w len A L C (fun r => (Z r).take (L r)) := by
  rcases h with ⟨rfl, rfl, rfl⟩ | ⟨x, rfl, h1, h2, h3⟩
  · exact ⟨fun r hr => by omega, fun r hr => by omega, fun r hr => by omega, fun r hr => by omega⟩
  · refine ⟨fun r hr => ?_, fun r hr => ?_, fun r hr => ?_, fun r hr => (h3 r (by omega)).2.2.2.2.2.1⟩
    · obtain ⟨_, q1, q2, q3, q4, q5, q6⟩ := h3 r (by omega)
      rcases ha : A r with _ | a'
      · have := q5 ha
        exact .inl (List.eq_nil_of_length_eq_zero (by simp; omega))
      · exact rd_of_ints q3 q1 (fun i hi => q6 a' ha i (by omega))
    · obtain ⟨_, q1, q2, q3, q4, q5, q6⟩ := h3 r (by omega)
      simp; omega
    · obtain ⟨_, q1, q2, q3, q4, q5, q6⟩ := h3 r (by omega)
      exact (bts_of_wf q4).take _
theorem IsRows.cells {w : World} {a : Option Addr} {len cap : Nat} {A : Nat → Option Addr} {L C : Nat → Nat} {Z : Nat → List Int} {k : IntKind} (h : IsRows k w a len cap A L C Z) (h0 : 0 < len) :
    ∃ b o, a = some ⟨b, o, none⟩ ∧ ∀ r, r < len → w.cell? ⟨b, o + r, none⟩ = some (.slice (A r) (L r) (C r)) := by
  rcases h with ⟨rfl, rfl, rfl⟩ | ⟨x, rfl, h1, h2, h3⟩
  · omega
  · obtain ⟨b, o, spot⟩ := x
    have hspot : spot = none := by simpa [Addr.add] using World.cell?_spot (h3 0 (by omega)).1
    subst hspot
    exact ⟨b, o, rfl, fun r hr => by rw [← Addr.add_lit]; exact (h3 r (by omega)).1⟩

theorem IsRow.cells {w : World} {a : Option Addr} {len cap : Nat} {zs : List Int} {k : IntKind} (h : IsRow k w a len cap zs) (h0 : 0 < len) :
    ∃ b o, a = some ⟨b, o, none⟩ ∧ ∀ r, r < len → w.cell? ⟨b, o + r, none⟩ = some (.int k (zs.getD r 0)) := by
  rcases h with ⟨rfl, rfl, rfl, rfl⟩ | ⟨x, rfl, h1, h2, h3, h4, h5⟩
  · omega
  · obtain ⟨b, o, spot⟩ := x
    have hspot : spot = none := by simpa [Addr.add] using World.cell?_spot (h4 0 (by omega))
    subst hspot
    exact ⟨b, o, rfl, fun r hr => by rw [← Addr.add_lit]; exact h4 r (by omega)⟩

end Go.Proofs.Ytilpehbbjhignaa
