/-
  More plain facts: the bounds of each size; what is got is put.
-/
import Derived.Test.YtilpehbbjhignaaPlain
namespace Go.Proofs.Ytilpehbbjhignaa
open Go.RowKit
set_option linter.unusedVariables false

theorem wrap_size (size : Nat) (h : size ≤ 6) : wrap64 (2 ^ (8 * size)) = ((256 ^ size : Nat) : Int) := by
  have e : (2 : Int) ^ (8 * size) = ((256 ^ size : Nat) : Int) := by rw [Int.natCast_pow, Int.pow_mul]; rfl
  rw [e]
  have hp : 256 ^ size ≤ 256 ^ 6 := Nat.pow_le_pow_right (by decide) h
  generalize 256 ^ size = m at hp ⊢
  exact IntWalk.wrap64_in _ ⟨by omega, by omega⟩

theorem be_num (l : List Int) (h : Bts l) : be (num l) l.length = l := by
  have key : ∀ k, k ≤ l.length → num (l.take k) = num l / 256 ^ (l.length - k) := by
    intro k hk
    obtain ⟨d, hd⟩ : ∃ d, d = l.length - k := ⟨_, rfl⟩
    induction d generalizing k with
    | zero =>
      have : k = l.length := by omega
      subst this
      simp
    | succ d ih =>
      have h1 := ih (k + 1) (by omega) (by omega)
      rw [num_take _ _ (by omega)] at h1
      have e : l.length - k = (l.length - (k + 1)) + 1 := by omega
      rw [e, Nat.pow_succ, ← Nat.div_div_eq_div_mul, ← h1]
      have := h k (by omega)
      omega
  apply List.ext_getElem
  · rw [be_length]
  · intro i h1 h2
    have hi : (be (num l) l.length).getD i 0 = l.getD i 0 := by
      rw [be_get _ _ _ h2]
      unfold digit
      have e3 : (2 : Nat) ^ (8 * (l.length - 1 - i)) = 256 ^ (l.length - 1 - i) := by rw [Nat.pow_mul]
      rw [e3, show l.length - 1 - i = l.length - (i + 1) by omega, ← key (i + 1) (by omega), num_take _ _ h2]
      have := h i h2
      omega
    simpa [List.getD, h1, h2] using hi

theorem num_lt (l : List Int) (h : Bts l) : num l < 256 ^ l.length := by
  have := num_take_lt l h l.length (Nat.le_refl _)
  rwa [List.take_length] at this

theorem Rd.take {w : World} {ao : Option Addr} {zs : List Int} (h : Rd w ao zs) (k : Nat) : Rd w ao (zs.take k) := by
  rcases h with h | ⟨b, o, ha, hc⟩
  · exact .inl (by simp [h])
  · refine .inr ⟨b, o, ha, fun j hj => ?_⟩
    simp at hj
    rw [hc j (by omega)]
    simp [List.getD, show j < k by omega]
theorem Rd.prefix {w : World} {ao : Option Addr} {a b : List Int} (h : Rd w ao (a ++ b)) : Rd w ao a := by
  have := h.take a.length
  simpa using this
theorem Rd.drop {w : World} {b o : Nat} {zs : List Int} (h : Rd w (some ⟨b, o, none⟩) zs) (k : Nat) : Rd w (some ⟨b, o + k, none⟩) (zs.drop k) := by
  rcases h with h | ⟨b', o', ha, hc⟩
  · exact .inl (by simp [h])
  · cases ha
    refine .inr ⟨b, o + k, rfl, fun j hj => ?_⟩
    simp at hj
    rw [Nat.add_assoc, hc (k + j) (by omega)]
    simp [List.getD]
theorem rd_of_ints {w : World} {x : Addr} {len cap : Nat} {zs : List Int} (hz : zs.length = cap) (hl : len ≤ cap) (hc : ∀ i, i < zs.length → w.cell? (x.add i) = some (.int .u8 (zs.getD i 0))) : Rd w (some x) (zs.take len) := by
  obtain ⟨b, off, spot⟩ := x
  by_cases h0 : 0 < zs.length
  · have hspot : spot = none := by simpa [Addr.add] using World.cell?_spot (hc 0 h0)
    subst hspot
    exact Rd.take (.inr ⟨b, off, rfl, fun j hj => by rw [← Addr.add_lit]; exact hc j hj⟩) len
  · exact .inl (by rw [List.eq_nil_of_length_eq_zero (by omega : zs.length = 0)]; simp)
theorem bts_of_wf {zs : List Int} (h : ∀ n ∈ zs, (Lit.int .u8 n).wf = true) : Bts zs := by
  intro j hj
  have := h (zs.getD j 0) (by simp [List.getD, hj])
  simpa [Lit.wf, IntKind.min, IntKind.max, IntKind.signed, IntKind.bits] using this

end Go.Proofs.Ytilpehbbjhignaa
