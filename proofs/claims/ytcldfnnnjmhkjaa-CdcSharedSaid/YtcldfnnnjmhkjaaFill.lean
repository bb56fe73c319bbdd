/-
  A row that is filled with one byte; how many chunks there are.
-/
import Derived.Test.YtcldfnnnjmhkjaaChunked
namespace Go.Proofs.Ytcldfnnnjmhkjaa
open Go.RowKit
set_option linter.unusedVariables false

theorem free_of_block {w : World} {g t j : Nat} {l : List Value} (h : w.heap[g]? = some (.cells l.toArray t (0, 0))) : w.frozen? ⟨g, j, none⟩ = false := by
  simp [World.frozen?, h]
/-- The first k of N bytes are x, the others 0. -/
def Filled (w : World) (g N k : Nat) (x : Int) : Prop := w.heap[g]? = some (.cells (List.replicate k (Value.int .u8 x) ++ List.replicate (N - k) (Value.int .u8 0)).toArray 5 (0, 0))
theorem made_zeros (n : Nat) : (madeCells (Value.int .u8 0).cells (n * 1)).toList = List.replicate n (Value.int .u8 0) := by
  simp [madeCells, Value.cells]
  have h : (fun x => (#[Value.int IntKind.u8 0] : Array Value)[x % 1]?.getD default) = fun _ => Value.int .u8 0 := by
    funext x; simp [Nat.mod_one]
  have h' : (fun x => ([Value.int IntKind.u8 0] : List Value)[x % 1]?.getD default) = fun _ => Value.int .u8 0 := by
    funext x; simp [Nat.mod_one]
  first | rw [h] | rw [h']
  exact List.eq_replicate_iff.2 ⟨by simp, by simp⟩
theorem filled_start {w : World} {base g n : Nat} {x : Int} (h : w.ownsRow base 5 1 (.slice (some ⟨g, 0, none⟩) n n) n (madeCells (Value.int .u8 0).cells (n * 1)).toList) : Filled w g n 0 x := by
  rw [made_zeros] at h
  have := block_of_owns h
  unfold Filled
  rw [this]; simp
theorem filled_cell {w : World} {g N k : Nat} {x : Int} (h : Filled w g N k x) (hk : k < N) : w.cell? ⟨g, k, none⟩ = some (.int .u8 0) := by
  unfold Filled at h
  rw [cell_of_block h (by simp; omega)]
  simp only [List.getD]
  rw [List.getElem?_append_right (by simp), List.length_replicate, List.getElem?_replicate, if_pos (by omega)]; rfl
theorem filled_free {w : World} {g N k j : Nat} {x : Int} (h : Filled w g N k x) : w.frozen? ⟨g, j, none⟩ = false := free_of_block h
theorem filled_step {w : World} {g N k : Nat} {x : Int} (h : Filled w g N k x) (hk : k < N) : Filled (w.setCell ⟨g, k, none⟩ (.int .u8 x)) g N (k + 1) x := by
  unfold Filled at h ⊢
  have hb := Joins.block_setCell (i := k) h (.int .u8 x)
  rw [hb]
  simp only [List.setIfInBounds_toArray, Option.some.injEq, Obj.cells.injEq, and_true]
  rw [List.set_append_right _ _ (by simp), List.length_replicate, Nat.sub_self, show N - k = (N - (k + 1)) + 1 by omega, List.replicate_succ, List.set_cons_zero, List.replicate_succ' (n := k), List.append_assoc]
  rfl
theorem filled_end {w : World} {g N : Nat} {x : Int} (h : Filled w g N N x) : Rd w (some ⟨g, 0, none⟩) (List.replicate N x) := by
  unfold Filled at h
  refine Rd.block (t := 5) ?_
  rw [h]; simp
theorem bts_replicate (n : Nat) (x : Int) (h0 : 0 ≤ x) (h1 : x ≤ 255) : Bts (List.replicate n x) := fun j hj => by
  simp at hj
  simp [List.getD, hj, h0, h1]

/-- No chunk has more than 64 bytes: so many there are. -/
theorem cut_many : ∀ n, ∀ l : List Int, l.length ≤ n → l.length ≤ 64 * (cutL l).length
  | 0, l, h => by omega
  | n + 1, l, h => by
    by_cases e : 0 < l.length
    · have h1 := nx_pos l e
      have h2 := nx_le l
      have h3 := nx_max l
      have ih := cut_many n (l.drop (nx l)) (by simp; omega)
      rw [cutL_cons l e, List.length_cons]
      simp at ih
      omega
    · omega

end Go.Proofs.Ytcldfnnnjmhkjaa
