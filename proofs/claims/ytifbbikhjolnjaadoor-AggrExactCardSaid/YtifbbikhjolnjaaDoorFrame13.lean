/-
  Frames: Split.
-/
import Derived.Test.YtifbbikhjolnjaaDoorFrame12
namespace Go.Proofs.YtifbbikhjolnjaaDoor
open Go.RowKit
set_option linter.unusedVariables false

/-- What Split tells of the bytes zs: which records, and the error's number. -/
inductive Spl : List Int → List (Int × Int × List Int) → Int → Prop
  | nil : Spl [] [] 0
  | bad {zs : List Int} : zs ≠ [] → rer zs ≠ 0 → Spl zs [] (rer zs)
  | step {zs : List Int} {ks : List (Int × Int × List Int)} {e : Int} : zs ≠ [] → rer zs = 0 → Spl (zs.drop (13 + rn zs)) ks e → Spl zs ((rk zs, rs' zs, rz zs) :: ks) e
theorem rer_len {ys : List Int} (h : rer ys = 0) : 13 + rn ys ≤ ys.length ∧ rn ys ≤ 8000 := by
  unfold rer at h
  by_cases h1 : ys.length < 9
  · rw [if_pos h1] at h; omega
  · rw [if_neg h1] at h
    by_cases h2 : ¬ nok (rk ys) (rs' ys) ∨ 8000 < rn ys ∨ ys.length < 13 + rn ys
    · rw [if_pos h2] at h; omega
    · constructor
      · exact Nat.le_of_not_lt fun h3 => h2 (.inr (.inr h3))
      · exact Nat.le_of_not_lt fun h3 => h2 (.inr (.inl h3))

end Go.Proofs.YtifbbikhjolnjaaDoor
