/-
  Where a text is cut: plain facts.
-/
import Derived.Test.YtcldfnnnjmhkjaaBytes
namespace Go.Proofs.Ytcldfnnnjmhkjaa
open Go.RowKit
set_option linter.unusedVariables false

/-- The register behind these bytes. -/
def rg (l : List Int) : Int := l.foldl (fun x c => (x * 2 + (c + 1) * 2654435761) % 4294967296) 0
theorem rg_take (l : List Int) (k : Nat) (h : k < l.length) : rg (l.take (k + 1)) = (rg (l.take k) * 2 + (l.getD k 0 + 1) * 2654435761) % 4294967296 := by
  have e : l.take (k + 1) = l.take k ++ [l.getD k 0] := by rw [List.take_succ_eq_append_getElem h]; simp [List.getD, h]
  rw [e]
  simp only [rg, List.foldl_append, List.foldl_cons, List.foldl_nil]
theorem rg_bd (l : List Int) (k : Nat) : 0 ≤ rg (l.take k) ∧ rg (l.take k) ≤ 4294967295 := by
  induction k with
  | zero => simp [rg]
  | succ k ih =>
    by_cases h : k < l.length
    · rw [rg_take l k h]; omega
    · have e : l.take (k + 1) = l.take k := by rw [List.take_of_length_le (by omega), List.take_of_length_le (by omega)]
      rw [e]; exact ih
/-- Does a chunk end behind n bytes? -/
def stops (l : List Int) (n : Nat) : Bool := n == 64 || (decide (8 ≤ n) && rg (l.take n) / 268435456 == 0)
def nxGo (l : List Int) : Nat → Nat → Nat
  | 0, k => k
  | f + 1, k => if stops l (k + 1) = true then k + 1 else nxGo l f (k + 1)
/-- The first chunk's length. -/
def nx (l : List Int) : Nat := nxGo l l.length 0

theorem nxGo_stop (l : List Int) (n : Nat) (hs : stops l n = true) : ∀ f k, k < n → n ≤ k + f → (∀ j, k ≤ j → j + 1 < n → stops l (j + 1) = false) → nxGo l f k = n
  | 0, k, h1, h2, _ => by omega
  | f + 1, k, h1, h2, h3 => by
    unfold nxGo
    by_cases e : k + 1 = n
    · rw [e, if_pos hs]
    · rw [h3 k (Nat.le_refl _) (by omega), if_neg (by decide)]
      exact nxGo_stop l n hs f (k + 1) (by omega) (by omega) (fun j hj hn => h3 j (by omega) hn)
theorem nxGo_none (l : List Int) : ∀ f k, (∀ j, k ≤ j → j < k + f → stops l (j + 1) = false) → nxGo l f k = k + f
  | 0, k, _ => rfl
  | f + 1, k, h => by
    unfold nxGo
    rw [h k (Nat.le_refl _) (by omega), if_neg (by decide), nxGo_none l f (k + 1) (fun j hj hn => h j (by omega) (by omega))]
    omega
theorem nx_stop (l : List Int) (n : Nat) (h0 : 0 < n) (hn : n ≤ l.length) (hs : stops l n = true) (h : ∀ j, j + 1 < n → stops l (j + 1) = false) : nx l = n :=
  nxGo_stop l n hs l.length 0 h0 (by omega) (fun j _ hj => h j hj)
theorem nx_none (l : List Int) (h : ∀ j, j < l.length → stops l (j + 1) = false) : nx l = l.length := by
  have := nxGo_none l l.length 0 (fun j _ hj => h j (by omega))
  unfold nx; omega
/-- One of both holds. -/
theorem nx_cases (l : List Int) : (0 < nx l ∧ nx l ≤ l.length ∧ stops l (nx l) = true ∧ ∀ j, j + 1 < nx l → stops l (j + 1) = false) ∨ (nx l = l.length ∧ ∀ j, j < l.length → stops l (j + 1) = false) := by
  by_cases h : ∃ n, 0 < n ∧ n ≤ l.length ∧ stops l n = true
  · have key : ∀ m, (∃ n, 0 < n ∧ n ≤ l.length ∧ n ≤ m ∧ stops l n = true) → ∃ n, 0 < n ∧ n ≤ l.length ∧ stops l n = true ∧ ∀ j, j + 1 < n → stops l (j + 1) = false := by
      intro m
      induction m with
      | zero => rintro ⟨n, h1, _, h2, _⟩; omega
      | succ m ih =>
        rintro ⟨n, h1, h2, h3, h4⟩
        by_cases hm : ∃ n, 0 < n ∧ n ≤ l.length ∧ n ≤ m ∧ stops l n = true
        · exact ih hm
        · refine ⟨n, h1, h2, h4, fun j hj => ?_⟩
          cases hsj : stops l (j + 1) with
          | false => rfl
          | true => exact absurd ⟨j + 1, by omega, by omega, by omega, hsj⟩ hm
    obtain ⟨n, h1, h2, h3⟩ := h
    obtain ⟨n, h1, h2, h3, h4⟩ := key n ⟨n, h1, h2, Nat.le_refl _, h3⟩
    rw [nx_stop l n h1 h2 h3 h4]
    exact .inl ⟨h1, h2, h3, h4⟩
  · have hno : ∀ j, j < l.length → stops l (j + 1) = false := by
      intro j hj
      cases hsj : stops l (j + 1) with
      | false => rfl
      | true => exact absurd ⟨j + 1, by omega, by omega, hsj⟩ h
    exact .inr ⟨nx_none l hno, hno⟩
theorem nx_le (l : List Int) : nx l ≤ l.length := by rcases nx_cases l with h | h <;> omega
theorem nx_pos (l : List Int) (h : 0 < l.length) : 0 < nx l := by rcases nx_cases l with h | h <;> omega
theorem stops_64 (l : List Int) : stops l 64 = true := by simp [stops]
theorem stops_min (l : List Int) (n : Nat) (h : stops l n = true) : 8 ≤ n := by
  unfold stops at h; simp at h; omega
theorem nx_max (l : List Int) : nx l ≤ 64 := by
  rcases nx_cases l with h | h
  · by_cases g : nx l ≤ 64
    · exact g
    · have := h.2.2.2 63 (by omega); rw [stops_64] at this; cases this
  · by_cases g : nx l ≤ 64
    · exact g
    · have := h.2 63 (by omega); rw [stops_64] at this; cases this
theorem nx_min (l : List Int) (h : nx l < l.length) : 8 ≤ nx l := by
  rcases nx_cases l with g | g
  · exact stops_min l _ g.2.2.1
  · omega
theorem stops_take {l m : List Int} {n : Nat} (h : l.take n = m.take n) : stops l n = stops m n := by unfold stops; rw [h]
/-- What stands behind the first chunk does not turn it. -/
theorem nx_same {l m : List Int} (h1 : nx l < l.length) (h2 : l.take (nx l) = m.take (nx l)) (h3 : nx l ≤ m.length) : nx m = nx l := by
  rcases nx_cases l with g | g
  · refine nx_stop m (nx l) g.1 h3 (by rw [← stops_take h2]; exact g.2.2.1) (fun j hj => ?_)
    have e : l.take (j + 1) = m.take (j + 1) := by
      have := congrArg (List.take (j + 1)) h2
      rwa [List.take_take, List.take_take, Nat.min_eq_left (by omega)] at this
    rw [← stops_take e]; exact g.2.2.2 j hj
  · omega

/-- A text's chunks. -/
def cutF : Nat → List Int → List (List Int)
  | 0, _ => []
  | f + 1, l => if l = [] then [] else l.take (nx l) :: cutF f (l.drop (nx l))
def cutL (l : List Int) : List (List Int) := cutF l.length l
theorem cutF_nil (f : Nat) : cutF f [] = [] := by cases f <;> simp [cutF]
theorem cutF_eq : ∀ n, ∀ (l : List Int) (f f' : Nat), l.length ≤ n → l.length ≤ f → l.length ≤ f' → cutF f l = cutF f' l
  | 0, l, f, f', h, _, _ => by rw [List.eq_nil_of_length_eq_zero (by omega : l.length = 0), cutF_nil, cutF_nil]
  | n + 1, l, f, f', h, hf, hf' => by
    by_cases e : l = []
    · subst e; rw [cutF_nil, cutF_nil]
    · have hp : 0 < l.length := List.length_pos_iff.2 e
      have hn := nx_pos l hp
      obtain ⟨g, rfl⟩ : ∃ g, f = g + 1 := ⟨f - 1, by omega⟩
      obtain ⟨g', rfl⟩ : ∃ g, f' = g + 1 := ⟨f' - 1, by omega⟩
      rw [cutF, cutF, if_neg e, if_neg e, cutF_eq n (l.drop (nx l)) g g' (by simp; omega) (by simp; omega) (by simp; omega)]
theorem cutL_nil : cutL [] = [] := rfl
theorem cutL_cons (l : List Int) (h : 0 < l.length) : cutL l = l.take (nx l) :: cutL (l.drop (nx l)) := by
  have e : l ≠ [] := List.length_pos_iff.1 h
  have hn := nx_pos l h
  obtain ⟨g, hg⟩ : ∃ g, l.length = g + 1 := ⟨l.length - 1, by omega⟩
  unfold cutL
  rw [hg, cutF, if_neg e, cutF_eq (l.drop (nx l)).length (l.drop (nx l)) g (l.drop (nx l)).length (Nat.le_refl _) (by simp; omega) (Nat.le_refl _)]

end Go.Proofs.Ytcldfnnnjmhkjaa
