/-
  What a walk is told of slices that came in; the inputs at which PowerLives plays nothing.
-/
import Derived.Test.YtcldfnnnjmhkjaaLives0
namespace Go.Proofs.Ytcldfnnnjmhkjaa
open Go.RowKit
set_option linter.unusedVariables false

/-- A slice of numbers: nil, or a row of cap numbers. -/
def IsRow (k : IntKind) (w : World) (a : Option Addr) (len cap : Nat) (zs : List Int) : Prop :=
  (a = none ∧ len = 0 ∧ cap = 0 ∧ zs = []) ∨
  ∃ x, a = some x ∧ len ≤ cap ∧ cap ≤ maxLen ∧ zs.length = cap ∧ (∀ i, i < zs.length → w.cell? (x.add i) = some (.int k (zs.getD i 0))) ∧ ∀ n ∈ zs, (Lit.int k n).wf = true
/-- A slice of slices of bools. -/
def IsBRows (w : World) (a : Option Addr) (len cap : Nat) (A : Nat → Option Addr) (L C : Nat → Nat) (B : Nat → Nat → Bool) : Prop :=
  (a = none ∧ len = 0 ∧ cap = 0) ∨
  ∃ x, a = some x ∧ len ≤ cap ∧ cap ≤ maxLen ∧ ∀ r, r < cap → w.cell? (x.add r) = some (.slice (A r) (L r) (C r)) ∧ L r ≤ C r ∧ C r ≤ maxLen ∧ (A r = none → C r = 0) ∧ ∀ a', A r = some a' → ∀ c, c < C r → w.cell? (a'.add c) = some (.bool (B r c))

theorem IsRow.cells {w : World} {a : Option Addr} {len cap : Nat} {zs : List Int} {k : IntKind} (h : IsRow k w a len cap zs) (h0 : 0 < len) :
    ∃ b o, a = some ⟨b, o, none⟩ ∧ ∀ r, r < len → w.cell? ⟨b, o + r, none⟩ = some (.int k (zs.getD r 0)) := by
  rcases h with ⟨rfl, rfl, rfl, rfl⟩ | ⟨x, rfl, h1, h2, h3, h4, h5⟩
  · omega
  · obtain ⟨b, o, spot⟩ := x
    have hspot : spot = none := by simpa [Addr.add] using World.cell?_spot (h4 0 (by omega))
    subst hspot
    exact ⟨b, o, rfl, fun r hr => by rw [← Addr.add_lit]; exact h4 r (by omega)⟩
theorem IsBRows.cells {w : World} {a : Option Addr} {len cap : Nat} {A : Nat → Option Addr} {L C : Nat → Nat} {B : Nat → Nat → Bool} (h : IsBRows w a len cap A L C B) (h0 : 0 < len) :
    ∃ b o, a = some ⟨b, o, none⟩ ∧ ∀ r, r < len → w.cell? ⟨b, o + r, none⟩ = some (.slice (A r) (L r) (C r)) := by
  rcases h with ⟨rfl, rfl, rfl⟩ | ⟨x, rfl, h1, h2, h3⟩
  · omega
  · obtain ⟨b, o, spot⟩ := x
    have hspot : spot = none := by simpa [Addr.add] using World.cell?_spot (h3 0 (by omega)).1
    subst hspot
    exact ⟨b, o, rfl, fun r hr => by rw [← Addr.add_lit]; exact (h3 r (by omega)).1⟩
theorem IsBRows.nil {w : World} {a : Option Addr} {len cap : Nat} {A : Nat → Option Addr} {L C : Nat → Nat} {B : Nat → Nat → Bool} (h : IsBRows w a len cap A L C B) (r : Nat) (hr : r < len) (hA : A r = none) : L r = 0 ∧ C r = 0 := by
  rcases h with ⟨rfl, rfl, rfl⟩ | ⟨x, rfl, h1, h2, h3⟩
  · omega
  · obtain ⟨_, q1, _, q2, _⟩ := h3 r (by omega)
    have := q2 hA
    omega
theorem IsBRows.row {w : World} {a : Option Addr} {len cap : Nat} {A : Nat → Option Addr} {L C : Nat → Nat} {B : Nat → Nat → Bool} (h : IsBRows w a len cap A L C B) (r : Nat) (hr : r < len) (c : Nat) (hc : c < L r) :
    ∃ b o, A r = some ⟨b, o, none⟩ ∧ w.cell? ⟨b, o + c, none⟩ = some (.bool (B r c)) := by
  rcases h with ⟨rfl, rfl, rfl⟩ | ⟨x, rfl, h1, h2, h3⟩
  · omega
  · obtain ⟨_, q1, _, q2, q3⟩ := h3 r (by omega)
    rcases ha : A r with _ | a'
    · have := q2 ha; omega
    · obtain ⟨b, o, spot⟩ := a'
      have hcc := q3 _ ha c (by omega)
      have hspot : spot = none := by simpa [Addr.add] using World.cell?_spot (q3 _ ha 0 (by omega))
      subst hspot
      exact ⟨b, o, rfl, by rw [← Addr.add_lit]; exact hcc⟩

set_option maxRecDepth 100000 in
theorem lives_more (a0 a1 : Option Addr) (n c0 n1 c1 : Nat) (tw : Bool) (w : World) (h : 20 < n ∨ 100 < n1) :
    Calls Try.prog 11 #[.slice a0 n c0, .slice a1 n1 c1, .bool tw] w fun e w' => e = .returned (.bool true) ∧ Below w.heap.size w w' := by
  by_cases h1 : 20 < n
  · have d1 : decide (20 < (n : Int)) = true := decide_eq_true (by omega)
    go_enter Try.func11, Try.ntmps11
    go_wp2_with fail
    go_ret
    exact ⟨rfl, Below.refl _ _⟩
  · have d1 : decide (20 < (n : Int)) = false := decide_eq_false (by omega)
    have d2 : decide (100 < (n1 : Int)) = true := decide_eq_true (by omega)
    go_enter Try.func11, Try.ntmps11
    go_wp2_with fail
    go_ret
    exact ⟨rfl, Below.refl _ _⟩

end Go.Proofs.Ytcldfnnnjmhkjaa
