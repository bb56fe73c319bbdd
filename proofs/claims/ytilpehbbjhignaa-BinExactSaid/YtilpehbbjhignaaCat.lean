/-
  Parts that are put one behind the other: the bytes.
-/
import Derived.Test.YtilpehbbjhignaaPlain2
import Derived.Test.YtilpehbbjhignaaEnds
namespace Go.Proofs.Ytilpehbbjhignaa
open Go.RowKit
set_option linter.unusedVariables false

/-- The first k parts' bytes, each behind its length. -/
def cat (L : Nat → Nat) (Z : Nat → List Int) : Nat → List Int
  | 0 => []
  | k + 1 => cat L Z k ++ (be (L k) 4 ++ Z k)
/-- How many they are. -/
def tot (L : Nat → Nat) : Nat → Nat
  | 0 => 0
  | k + 1 => tot L k + 4 + L k
theorem cat_length {L : Nat → Nat} {Z : Nat → List Int} : ∀ k, (∀ r, r < k → (Z r).length = L r) → (cat L Z k).length = tot L k
  | 0, _ => rfl
  | k + 1, h => by
    rw [cat, tot, List.length_append, cat_length k (fun r hr => h r (by omega)), List.length_append, be_length, h k (by omega)]; omega
theorem cat_bts {L : Nat → Nat} {Z : Nat → List Int} : ∀ k, (∀ r, r < k → Bts (Z r)) → Bts (cat L Z k)
  | 0, _ => Bts.nil
  | k + 1, h => (cat_bts k (fun r hr => h r (by omega))).append ((Bts.be _ 4).append (h k (by omega)))
theorem tot_le {L : Nat → Nat} (m : Nat) : ∀ k, (∀ r, r < k → L r ≤ m) → tot L k ≤ k * (4 + m)
  | 0, _ => by simp [tot]
  | k + 1, h => by
    have h1 := tot_le m k (fun r hr => h r (by omega))
    have h2 := h k (by omega)
    rw [tot, Nat.add_mul, Nat.one_mul]; omega
theorem tot_mono {L : Nat → Nat} {r : Nat} : ∀ n, r ≤ n → tot L r ≤ tot L n
  | 0, h => by rw [show r = 0 by omega]; exact Nat.le_refl _
  | n + 1, h => by
    by_cases e : r = n + 1
    · rw [e]; exact Nat.le_refl _
    · have := tot_mono (L := L) (r := r) n (by omega); rw [tot]; omega
theorem cat_drop {L : Nat → Nat} {Z : Nat → List Int} {r : Nat} : ∀ n, r < n → (∀ r, r < n → (Z r).length = L r) → ∃ t, (cat L Z n).drop (tot L r) = be (L r) 4 ++ (Z r ++ t)
  | 0, h, _ => by omega
  | n + 1, h, hz => by
    have hl := cat_length (L := L) (Z := Z) n (fun r hr => hz r (by omega))
    by_cases e : r = n
    · subst e
      exact ⟨[], by rw [cat, List.drop_append_of_le_length (by omega), List.drop_of_length_le (by omega)]; simp⟩
    · obtain ⟨t, ht⟩ := cat_drop (L := L) (Z := Z) (r := r) n (by omega) (fun r hr => hz r (by omega))
      have hm := tot_mono (L := L) (r := r) n (by omega)
      exact ⟨t ++ (be (L n) 4 ++ Z n), by rw [cat, List.drop_append_of_le_length (by omega), ht]; simp⟩
theorem cut_num {L : Nat → Nat} {Z : Nat → List Int} {r n K : Nat} (hr : r < n) (hz : ∀ r, r < n → (Z r).length = L r) (hL : L r ≤ 30000) (hK : tot L r + 4 ≤ K) : L r = num ((((cat L Z n).take K).drop (tot L r)).take 4) := by
  obtain ⟨t, ht⟩ := cat_drop (L := L) (Z := Z) n hr hz
  rw [List.drop_take, ht, List.take_take, Nat.min_eq_left (by omega), List.take_append_of_le_length (by rw [be_length]; exact Nat.le_refl _), List.take_of_length_le (by rw [be_length]; exact Nat.le_refl _)]
  exact (num_be (L r) 4 (by omega)).symm
theorem cut_part {L : Nat → Nat} {Z : Nat → List Int} {r n K : Nat} (hr : r < n) (hz : ∀ r, r < n → (Z r).length = L r) (hK : tot L r + 4 + L r ≤ K) : ((((cat L Z n).take K).drop (tot L r + 4)).take (L r)) = Z r := by
  obtain ⟨t, ht⟩ := cat_drop (L := L) (Z := Z) n hr hz
  have hzr := hz r hr
  rw [List.drop_take, ← List.drop_drop, ht, List.take_take, Nat.min_eq_left (by omega), List.drop_append_of_le_length (by rw [be_length]; exact Nat.le_refl _), List.drop_of_length_le (by rw [be_length]; exact Nat.le_refl _), List.nil_append,
    List.take_append_of_le_length (by omega), List.take_of_length_le (by omega)]
theorem get_cut {w : World} {ao : Option Addr} {L : Nat → Nat} {Z : Nat → List Int} {r n K : Nat} (h : Rd w ao (cat L Z n)) : Rd w ao ((cat L Z n).take K) := h.take K

/-- THE PARTS THAT WERE HANDED IN, one by one. -/
structure Pts (w : World) (n : Nat) (A : Nat → Option Addr) (L C : Nat → Nat) (Z : Nat → List Int) : Prop where
  rd : ∀ r, r < n → Rd w (A r) (Z r)
  len : ∀ r, r < n → (Z r).length = L r
  bts : ∀ r, r < n → Bts (Z r)
  nil : ∀ r, r < n → A r = none → C r = 0

end Go.Proofs.Ytilpehbbjhignaa
