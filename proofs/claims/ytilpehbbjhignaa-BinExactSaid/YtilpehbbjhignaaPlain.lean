/-
  Plain facts on bytes and numbers for the layer of fixed-size integers. Nothing of the program stands here.
-/
import Derived.WalkKit
import Derived.Lib.SmallJoins
import Derived.Laws.CopyOwn
namespace Go.Proofs.Ytilpehbbjhignaa
open Go.RowKit

/-- The byte of n at place i of size bytes, the most significant one first. -/
def digit (n size i : Nat) : Int := ((n / 2 ^ (8 * (size - 1 - i)) % 256 : Nat) : Int)
/-- n in size bytes, the most significant one first. -/
def be (n size : Nat) : List Int := (List.range size).map (digit n size)
/-- What the bytes say. -/
def num (l : List Int) : Nat := l.foldl (fun a c => a * 256 + c.toNat) 0

theorem be_length (n size : Nat) : (be n size).length = size := by simp [be]
theorem digit_bd (n size i : Nat) : 0 ≤ digit n size i ∧ digit n size i ≤ 255 := by unfold digit; omega

theorem num_snoc (l : List Int) (c : Int) : num (l ++ [c]) = num l * 256 + c.toNat := by simp [num]
theorem num_nil : num [] = 0 := rfl
theorem num_take (l : List Int) (k : Nat) (h : k < l.length) : num (l.take (k + 1)) = num (l.take k) * 256 + (l.getD k 0).toNat := by
  rw [List.take_succ_eq_append_getElem h, num_snoc]; simp [List.getD, h]

theorem num_take_lt (l : List Int) (h : ∀ j, j < l.length → 0 ≤ l.getD j 0 ∧ l.getD j 0 ≤ 255) : ∀ k, k ≤ l.length → num (l.take k) < 256 ^ k := by
  intro k
  induction k with
  | zero => intro _; simp [num]
  | succ k ih =>
    intro hk
    have h1 := ih (by omega)
    have h2 := h k (by omega)
    rw [num_take _ _ (by omega), Nat.pow_succ]
    omega

theorem be_get (n size i : Nat) (h : i < size) : (be n size).getD i 0 = digit n size i := by
  simp [be, List.getD, h]

theorem num_be_take (n size : Nat) (hn : n < 256 ^ size) : ∀ k, k ≤ size → num ((be n size).take k) = n / 256 ^ (size - k) := by
  intro k
  induction k with
  | zero => intro _; simp [num]; exact (Nat.div_eq_of_lt hn).symm
  | succ k ih =>
    intro hk
    rw [num_take _ _ (by rw [be_length]; omega), ih (by omega), be_get _ _ _ (by omega)]
    have e : size - k = (size - (k + 1)) + 1 := by omega
    have e2 : size - 1 - k = size - (k + 1) := by omega
    have e3 : (2 : Nat) ^ (8 * (size - (k + 1))) = 256 ^ (size - (k + 1)) := by rw [Nat.pow_mul]
    unfold digit
    rw [e2, e3, e, Nat.pow_succ, ← Nat.div_div_eq_div_mul]
    generalize n / 256 ^ (size - (k + 1)) = m
    omega

theorem num_be (n size : Nat) (hn : n < 256 ^ size) : num (be n size) = n := by
  have h := num_be_take n size hn size (Nat.le_refl _)
  rw [List.take_of_length_le (by rw [be_length]; exact Nat.le_refl _)] at h
  simpa using h

theorem or_shift (n : Nat) (c : Int) (hn : n < 281474976710656) (h0 : 0 ≤ c) (h1 : c ≤ 255) : Go.bits .or .i64 ((n : Int) * 256) c = (n : Int) * 256 + c :=
  bits_join .i64 63 (by decide) (fun m h0 h1 => by rw [IntKind.wrap_i64]; simp only [show (2 : Int) ^ 63 = 9223372036854775808 from rfl] at h1; omega) 8 _ c (by omega) (by simp only [show (2 : Int) ^ 8 = 256 from rfl]; omega) (by simp only [show (2 : Int) ^ 63 = 9223372036854775808 from rfl]; omega) h0 (by simp only [show (2 : Int) ^ 8 = 256 from rfl]; omega) (by simp only [show (2 : Int) ^ 63 = 9223372036854775808 from rfl]; omega)

/-- A row that is owned to its end is its block. -/
theorem block_of_owns {w : World} {base e g n : Nat} {xs : List Value} (h : w.ownsRow base e 1 (.slice (some ⟨g, 0, none⟩) n n) n xs) : w.heap[g]? = some (.cells xs.toArray e (0, 0)) := by
  rcases h.2 with ⟨h', _⟩ | ⟨g', cap', cur, h', _, hg, _, _, hcs, htake⟩
  · simp at h'
  · simp only [Value.slice.injEq, Option.some.injEq, Addr.mk.injEq, and_true, true_and] at h'
    obtain ⟨rfl, rfl⟩ := h'
    rw [List.take_of_length_le (by simp; omega)] at htake
    rw [hg, ← htake]

theorem cell_of_block {w : World} {g t j : Nat} {l : List Value} (h : w.heap[g]? = some (.cells l.toArray t (0, 0))) (hj : j < l.length) : w.cell? ⟨g, j, none⟩ = some (l.getD j undef) := by
  simp [World.cell?, h, List.getD, hj]

theorem free_of_block {w : World} {g t j : Nat} {l : List Value} (h : w.heap[g]? = some (.cells l.toArray t (0, 0))) : w.frozen? ⟨g, j, none⟩ = false := by
  simp [World.frozen?, h]

theorem block_setCell {w : World} {g t j : Nat} {l : List Value} (h : w.heap[g]? = some (.cells l.toArray t (0, 0))) (u : Value) : (w.setCell ⟨g, j, none⟩ u).heap[g]? = some (.cells (l.set j u).toArray t (0, 0)) := by
  simpa using Go.Joins.block_setCell (i := j) h u

theorem cell_lt {w : World} {a : Addr} {v : Value} (h : w.cell? a = some v) : a.block < w.heap.size := by
  by_cases hb : a.block < w.heap.size
  · exact hb
  · simp [World.cell?, Array.getElem?_eq_none (Nat.le_of_not_lt hb)] at h

/-- New bytes. -/
def zeros (n : Nat) : List Value := List.replicate n (.int .u8 0)
theorem made_zeros (n : Nat) : (madeCells (Value.int .u8 0).cells (n * 1)).toList = zeros n := by
  simp [madeCells, Value.cells, zeros]
  have h : (fun x => (#[Value.int IntKind.u8 0] : Array Value)[x % 1]?.getD default) = fun _ => Value.int .u8 0 := by
    funext x; simp [Nat.mod_one]
  have h' : (fun x => ([Value.int IntKind.u8 0] : List Value)[x % 1]?.getD default) = fun _ => Value.int .u8 0 := by
    funext x; simp [Nat.mod_one]
  first | rw [h] | rw [h']
  exact List.eq_replicate_iff.2 ⟨by simp, by simp⟩
theorem made_block {w : World} {base e g n : Nat} (h : w.ownsRow base e 1 (.slice (some ⟨g, 0, none⟩) n n) n (madeCells (Value.int .u8 0).cells (n * 1)).toList) : w.heap[g]? = some (.cells (zeros n).toArray e (0, 0)) := by
  rw [made_zeros] at h
  exact block_of_owns h

theorem digit_int (n size k : Nat) : (n : Int) / 2 ^ (8 * (size - 1 - k)) % 256 = digit n size k := by
  unfold digit
  have h : (2 : Int) ^ (8 * (size - 1 - k)) = ((2 ^ (8 * (size - 1 - k)) : Nat) : Int) := by rw [Int.natCast_pow]; rfl
  rw [h, ← Int.natCast_ediv]; rfl

/-- The row while the bytes of a number are put behind zs: k of them stand. -/
def PutRow (w : World) (t g : Nat) (zs : List Int) (n size k : Nat) : Prop :=
  w.heap[g]? = some (.cells (zs.map (Value.int .u8) ++ (((be n size).take k).map (Value.int .u8) ++ zeros (size - k))).toArray t (0, 0))
theorem putRow_start {w : World} {t g len size : Nat} {zs : List Int} {n : Nat} (hl : zs.length = len) (h : w.heap[g]? = some (.cells (splice (zeros (len + size)) 0 (zs.map (Value.int .u8))).toArray t (0, 0))) : PutRow w t g zs n size 0 := by
  unfold PutRow
  rw [h]
  simp [splice, zeros, hl]
theorem putRow_cell {w : World} {t g len size k : Nat} {zs : List Int} {n : Nat} (hl : zs.length = len) (hk : k < size) (h : PutRow w t g zs n size k) : w.cell? ⟨g, len + k, none⟩ = some (.int .u8 0) := by
  unfold PutRow at h
  have hb := be_length n size
  rw [cell_of_block h (by simp [zeros, hb, hl]; omega)]
  simp only [List.getD]
  rw [List.getElem?_append_right (by simp [hl])]
  rw [List.getElem?_append_right (by simp [hl, hb]; omega)]
  simp only [List.length_map, hl, List.length_take, hb, zeros, show len + k - len - min k size = 0 by omega]
  rw [List.getElem?_replicate, if_pos (by omega)]; rfl
theorem putRow_step {w : World} {t g len size k : Nat} {zs : List Int} {n : Nat} {v : Int} (hl : zs.length = len) (hk : k < size) (hv : v = digit n size k) (h : PutRow w t g zs n size k) : PutRow (w.setCell ⟨g, len + k, none⟩ (.int .u8 v)) t g zs n size (k + 1) := by
  unfold PutRow at h ⊢
  have hb := be_length n size
  rw [block_setCell h, hv]
  congr 3
  rw [List.set_append_right _ _ (by simp [hl]), List.set_append_right _ _ (by simp [hl, hb]; omega)]
  simp only [List.length_map, hl, List.length_take, hb, show len + k - len - min k size = 0 by omega]
  rw [List.take_succ_eq_append_getElem (by rw [hb]; exact hk)]
  have hg : (be n size)[k]'(by rw [hb]; exact hk) = digit n size k := by
    have := be_get n size k hk
    simpa [List.getD, hb, hk] using this
  rw [hg, show size - k = (size - (k + 1)) + 1 by omega]
  simp [zeros, List.replicate_succ]
theorem putRow_end {w : World} {t g size : Nat} {zs : List Int} {n : Nat} (h : PutRow w t g zs n size size) : w.heap[g]? = some (.cells ((zs ++ be n size).map (Value.int .u8)).toArray t (0, 0)) := by
  unfold PutRow at h
  rw [h, List.take_of_length_le (by rw [be_length]; exact Nat.le_refl _)]
  simp [zeros]
theorem shr_zero (n size : Nat) (hn : n < 256 ^ size) : ((n : Int) / 2 ^ (8 * size) != 0) = false := by
  have h : (2 : Int) ^ (8 * size) = ((256 ^ size : Nat) : Int) := by rw [Int.natCast_pow, Int.pow_mul]; rfl
  rw [h, ← Int.natCast_ediv, Nat.div_eq_of_lt hn]; rfl
theorem shr_more (n size : Nat) (hn : 256 ^ size ≤ n) : ((n : Int) / 2 ^ (8 * size) != 0) = true := by
  have h : (2 : Int) ^ (8 * size) = ((256 ^ size : Nat) : Int) := by rw [Int.natCast_pow, Int.pow_mul]; rfl
  have h2 : 0 < n / 256 ^ size := Nat.div_pos hn (Nat.pow_pos (by decide))
  rw [h, ← Int.natCast_ediv, bne_iff_ne]; omega

/-- THE BYTES zs LIE AT ao. -/
def Rd (w : World) (ao : Option Addr) (zs : List Int) : Prop :=
  zs = [] ∨ ∃ b o, ao = some ⟨b, o, none⟩ ∧ ∀ j, j < zs.length → w.cell? ⟨b, o + j, none⟩ = some (.int .u8 (zs.getD j 0))
/-- Each is a byte. -/
def Bts (zs : List Int) : Prop := ∀ j, j < zs.length → 0 ≤ zs.getD j 0 ∧ zs.getD j 0 ≤ 255

theorem Rd.nil (w : World) (ao : Option Addr) : Rd w ao [] := .inl rfl
theorem Rd.below {w w' : World} {ao : Option Addr} {zs : List Int} (h : Rd w ao zs) (hB : Below w.heap.size w w') : Rd w' ao zs := by
  rcases h with h | ⟨b, o, ha, hc⟩
  · exact .inl h
  · exact .inr ⟨b, o, ha, fun j hj => by have := hc j hj; rw [hB.cell (cell_lt this), this]⟩
theorem Rd.block {w : World} {g t : Nat} {zs : List Int} (h : w.heap[g]? = some (.cells (zs.map (Value.int .u8)).toArray t (0, 0))) : Rd w (some ⟨g, 0, none⟩) zs := by
  refine .inr ⟨g, 0, rfl, fun j hj => ?_⟩
  rw [Nat.zero_add, cell_of_block h (by simpa using hj)]
  simp [List.getD, hj]
theorem Rd.at {w : World} {ao : Option Addr} {zs : List Int} (h : Rd w ao zs) (h0 : 0 < zs.length) : ∃ b o, ao = some ⟨b, o, none⟩ ∧ ∀ j, j < zs.length → w.cell? ⟨b, o + j, none⟩ = some (.int .u8 (zs.getD j 0)) := by
  rcases h with h | h
  · subst h; simp at h0
  · exact h
theorem Bts.nil : Bts [] := fun j hj => by simp at hj
theorem Bts.be (n size : Nat) : Bts (be n size) := fun j hj => by
  rw [be_length] at hj; rw [be_get _ _ _ hj]; exact digit_bd _ _ _
theorem Bts.append {a b : List Int} (ha : Bts a) (hb : Bts b) : Bts (a ++ b) := fun j hj => by
  simp only [List.getD] at *
  by_cases h : j < a.length
  · rw [List.getElem?_append_left h]; exact ha j h
  · rw [List.getElem?_append_right (by omega)]
    exact hb (j - a.length) (by simp at hj; omega)
theorem Bts.take {a : List Int} (ha : Bts a) (k : Nat) : Bts (a.take k) := fun j hj => by
  simp at hj
  have := ha j (by omega)
  simpa [List.getD, List.getElem?_take, show j < k by omega] using this
theorem Bts.drop {a : List Int} (ha : Bts a) (k : Nat) : Bts (a.drop k) := fun j hj => by
  simp at hj
  have := ha (k + j) (by omega)
  simpa [List.getD] using this

/-- The cells of bytes, as the laws on append ask for them. -/
theorem Rd.cells {w : World} {ao : Option Addr} {zs : List Int} (h : Rd w ao zs) : ∀ ad, ao = some ad → ∀ j u, (zs.map (Value.int .u8))[j]? = some u → w.cell? (ad.add j) = some u := by
  intro ad had j u hu
  obtain ⟨hj, hu⟩ := List.getElem?_eq_some_iff.1 hu
  simp at hj
  obtain ⟨b, o, ha, hc⟩ := h.at (by omega)
  rw [had] at ha
  obtain rfl := Option.some.inj ha
  rw [Addr.add_lit, hc j hj, ← hu]
  simp [List.getD, hj]
theorem Rd.of_append {w : World} {g t : Nat} {a b : List Int} (h : w.heap[g]? = some (.cells ((a ++ b).map (Value.int .u8)).toArray t (0, 0))) : Rd w (some ⟨g, 0, none⟩) (a ++ b) := Rd.block h
theorem lt_of_block {w : World} {g : Nat} {o : Obj} (h : w.heap[g]? = some o) : g < w.heap.size := by
  exact (Array.getElem?_eq_some_iff.1 h).1

theorem splice_all {w : World} {g t n : Nat} {l : List Value} (hl : l.length = n) (h : w.heap[g]? = some (.cells (splice (zeros n) 0 l).toArray t (0, 0))) : w.heap[g]? = some (.cells l.toArray t (0, 0)) := by
  rw [h]
  simp [splice, zeros, hl]

end Go.Proofs.Ytilpehbbjhignaa
