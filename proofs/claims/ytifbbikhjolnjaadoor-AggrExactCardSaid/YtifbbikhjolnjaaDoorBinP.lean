/-
  Fixed-size integers: the contracts of Put and Get.
-/
import Derived.Test.YtifbbikhjolnjaaDoorBase
import Derived.Lib.SmallJoins
import Derived.Laws.ResultCell
namespace Go.Proofs.YtifbbikhjolnjaaDoor
open Go.RowKit
set_option linter.unusedVariables false

/-- The byte of n at place i of size bytes, the most significant one first. -/
def digit (n size i : Nat) : Int := ((n / 2 ^ (8 * (size - 1 - i)) % 256 : Nat) : Int)
/-- n in size bytes, the most significant one first. -/
def be (n size : Nat) : List Int := (List.range size).map (digit n size)
/-- What the bytes say. -/
def num (l : List Int) : Nat := l.foldl (fun a c => a * 256 + c.toNat) 0
theorem be_length (n size : Nat) : (be n size).length = size := by simp [be]
theorem num_snoc (l : List Int) (c : Int) : num (l ++ [c]) = num l * 256 + c.toNat := by simp [num]
theorem num_take (l : List Int) (k : Nat) (h : k < l.length) : num (l.take (k + 1)) = num (l.take k) * 256 + (l.getD k 0).toNat := by
  rw [List.take_succ_eq_append_getElem h, num_snoc]; simp [List.getD, h]
theorem num_take_lt (l : List Int) (h : ∀ j, j < l.length → 0 ≤ l.getD j 0 ∧ l.getD j 0 ≤ 255) : ∀ k, k ≤ l.length → num (l.take k) < 256 ^ k := by
  intro k
  induction k with
  | zero => intro _; simp [num]
  | succ k ih =>
    intro hk
    have h1 := ih (by omega)
    have h2 := h k (by omega)
    rw [num_take _ _ (by omega), Nat.pow_succ]
    omega
theorem be_get (n size i : Nat) (h : i < size) : (be n size).getD i 0 = digit n size i := by
  simp [be, List.getD, h]
theorem num_be_take (n size : Nat) (hn : n < 256 ^ size) : ∀ k, k ≤ size → num ((be n size).take k) = n / 256 ^ (size - k) := by
  intro k
  induction k with
  | zero => intro _; simp [num]; exact (Nat.div_eq_of_lt hn).symm
  | succ k ih =>
    intro hk
    rw [num_take _ _ (by rw [be_length]; omega), ih (by omega), be_get _ _ _ (by omega)]
    have e : size - k = (size - (k + 1)) + 1 := by omega
    have e2 : size - 1 - k = size - (k + 1) := by omega
    have e3 : (2 : Nat) ^ (8 * (size - (k + 1))) = 256 ^ (size - (k + 1)) := by rw [Nat.pow_mul]
    unfold digit
    rw [e2, e3, e, Nat.pow_succ, ← Nat.div_div_eq_div_mul]
    generalize n / 256 ^ (size - (k + 1)) = m
    omega
theorem num_be (n size : Nat) (hn : n < 256 ^ size) : num (be n size) = n := by
  have h := num_be_take n size hn size (Nat.le_refl _)
  rw [List.take_of_length_le (by rw [be_length]; exact Nat.le_refl _)] at h
  simpa using h
theorem or_shift (n : Nat) (c : Int) (hn : n < 281474976710656) (h0 : 0 ≤ c) (h1 : c ≤ 255) : Go.bits .or .i64 ((n : Int) * 256) c = (n : Int) * 256 + c :=
  bits_join .i64 63 (by decide) (fun m h0 h1 => by rw [IntKind.wrap_i64]; simp only [show (2 : Int) ^ 63 = 9223372036854775808 from rfl] at h1; omega) 8 _ c (by omega) (by simp only [show (2 : Int) ^ 8 = 256 from rfl]; omega) (by simp only [show (2 : Int) ^ 63 = 9223372036854775808 from rfl]; omega) h0 (by simp only [show (2 : Int) ^ 8 = 256 from rfl]; omega) (by simp only [show (2 : Int) ^ 63 = 9223372036854775808 from rfl]; omega)
/-- A row that is owned to its end is its block. -/
theorem block_of_owns {w : World} {base e g n : Nat} {xs : List Value} (h : w.ownsRow base e 1 (.slice (some ⟨g, 0, none⟩) n n) n xs) : w.heap[g]? = some (.cells xs.toArray e (0, 0)) := by
  rcases h.2 with ⟨h', _⟩ | ⟨g', cap', cur, h', _, hg, _, _, hcs, htake⟩
  · simp at h'
  · simp only [Value.slice.injEq, Option.some.injEq, Addr.mk.injEq, and_true, true_and] at h'
    obtain ⟨rfl, rfl⟩ := h'
    rw [List.take_of_length_le (by simp; omega)] at htake
    rw [hg, ← htake]
theorem free_of_block {w : World} {g t j : Nat} {l : List Value} (h : w.heap[g]? = some (.cells l.toArray t (0, 0))) : w.frozen? ⟨g, j, none⟩ = false := by
  simp [World.frozen?, h]
theorem block_setCell {w : World} {g t j : Nat} {l : List Value} (h : w.heap[g]? = some (.cells l.toArray t (0, 0))) (u : Value) : (w.setCell ⟨g, j, none⟩ u).heap[g]? = some (.cells (l.set j u).toArray t (0, 0)) := by
  simpa using Go.Joins.block_setCell (i := j) h u
/-- New bytes. -/
def zeros (n : Nat) : List Value := List.replicate n (.int .u8 0)
theorem made_zeros (n : Nat) : (madeCells (Value.int .u8 0).cells (n * 1)).toList = zeros n := by
  simp [madeCells, Value.cells, zeros]
  have h : (fun x => (#[Value.int IntKind.u8 0] : Array Value)[x % 1]?.getD default) = fun _ => Value.int .u8 0 := by
    funext x; simp [Nat.mod_one]
  have h' : (fun x => ([Value.int IntKind.u8 0] : List Value)[x % 1]?.getD default) = fun _ => Value.int .u8 0 := by
    funext x; simp [Nat.mod_one]
  first | rw [h] | rw [h']
  exact List.eq_replicate_iff.2 ⟨by simp, by simp⟩
theorem made_block {w : World} {base e g n : Nat} (h : w.ownsRow base e 1 (.slice (some ⟨g, 0, none⟩) n n) n (madeCells (Value.int .u8 0).cells (n * 1)).toList) : w.heap[g]? = some (.cells (zeros n).toArray e (0, 0)) := by
  rw [made_zeros] at h
  exact block_of_owns h
theorem digit_int (n size k : Nat) : (n : Int) / 2 ^ (8 * (size - 1 - k)) % 256 = digit n size k := by
  unfold digit
  have h : (2 : Int) ^ (8 * (size - 1 - k)) = ((2 ^ (8 * (size - 1 - k)) : Nat) : Int) := by rw [Int.natCast_pow]; rfl
  rw [h, ← Int.natCast_ediv]; rfl
/-- The row while the bytes of a number are put behind zs: k of them stand. -/
def PutRow (w : World) (t g : Nat) (zs : List Int) (n size k : Nat) : Prop :=
  w.heap[g]? = some (.cells (zs.map (Value.int .u8) ++ (((be n size).take k).map (Value.int .u8) ++ zeros (size - k))).toArray t (0, 0))
theorem putRow_start {w : World} {t g len size : Nat} {zs : List Int} {n : Nat} (hl : zs.length = len) (h : w.heap[g]? = some (.cells (splice (zeros (len + size)) 0 (zs.map (Value.int .u8))).toArray t (0, 0))) : PutRow w t g zs n size 0 := by
  unfold PutRow
  rw [h]
  simp [splice, zeros, hl]
theorem putRow_cell {w : World} {t g len size k : Nat} {zs : List Int} {n : Nat} (hl : zs.length = len) (hk : k < size) (h : PutRow w t g zs n size k) : w.cell? ⟨g, len + k, none⟩ = some (.int .u8 0) := by
  unfold PutRow at h
  have hb := be_length n size
  rw [cell_of_block h (by simp [zeros, hb, hl]; omega)]
  simp only [List.getD]
  rw [List.getElem?_append_right (by simp [hl])]
  rw [List.getElem?_append_right (by simp [hl, hb]; omega)]
  simp only [List.length_map, hl, List.length_take, hb, zeros, show len + k - len - min k size = 0 by omega]
  rw [List.getElem?_replicate, if_pos (by omega)]; rfl
theorem putRow_step {w : World} {t g len size k : Nat} {zs : List Int} {n : Nat} {v : Int} (hl : zs.length = len) (hk : k < size) (hv : v = digit n size k) (h : PutRow w t g zs n size k) : PutRow (w.setCell ⟨g, len + k, none⟩ (.int .u8 v)) t g zs n size (k + 1) := by
  unfold PutRow at h ⊢
  have hb := be_length n size
  rw [block_setCell h, hv]
  congr 3
  rw [List.set_append_right _ _ (by simp [hl]), List.set_append_right _ _ (by simp [hl, hb]; omega)]
  simp only [List.length_map, hl, List.length_take, hb, show len + k - len - min k size = 0 by omega]
  rw [List.take_succ_eq_append_getElem (by rw [hb]; exact hk)]
  have hg : (be n size)[k]'(by rw [hb]; exact hk) = digit n size k := by
    have := be_get n size k hk
    simpa [List.getD, hb, hk] using this
  rw [hg, show size - k = (size - (k + 1)) + 1 by omega]
  simp [zeros, List.replicate_succ]
theorem putRow_end {w : World} {t g size : Nat} {zs : List Int} {n : Nat} (h : PutRow w t g zs n size size) : w.heap[g]? = some (.cells ((zs ++ be n size).map (Value.int .u8)).toArray t (0, 0)) := by
  unfold PutRow at h
  rw [h, List.take_of_length_le (by rw [be_length]; exact Nat.le_refl _)]
  simp [zeros]
theorem shr_zero (n size : Nat) (hn : n < 256 ^ size) : ((n : Int) / 2 ^ (8 * size) != 0) = false := by
  have h : (2 : Int) ^ (8 * size) = ((256 ^ size : Nat) : Int) := by rw [Int.natCast_pow, Int.pow_mul]; rfl
  rw [h, ← Int.natCast_ediv, Nat.div_eq_of_lt hn]; rfl
theorem shr_more (n size : Nat) (hn : 256 ^ size ≤ n) : ((n : Int) / 2 ^ (8 * size) != 0) = true := by
  have h : (2 : Int) ^ (8 * size) = ((256 ^ size : Nat) : Int) := by rw [Int.natCast_pow, Int.pow_mul]; rfl
  have h2 : 0 < n / 256 ^ size := Nat.div_pos hn (Nat.pow_pos (by decide))
  rw [h, ← Int.natCast_ediv, bne_iff_ne]; omega
theorem get_arg (ao : Option Addr) (len cap : Nat) (at' size : Int) (w : World) (hl : len ≤ maxLen) (h : size < 1 ∨ 7 < size ∨ at' < 0 ∨ (len : Int) < at') :
    Calls Tryd.prog 27 #[.slice ao len cap, .int .i64 at', .int .i64 size] w fun e w' => e = .returned (.tuple #[.int .i64 0, .int .i64 0, .int .i64 1]) ∧ w = w' := by
  unfold maxLen at hl
  go_enter Tryd.func27, Tryd.ntmps27
  go_wp2
  all_goals first | omega | (go_ret3; exact ⟨rfl, rfl⟩)
theorem get_short (ao : Option Addr) (len cap : Nat) (at' size : Int) (w : World) (hl : len ≤ maxLen) (h1 : 1 ≤ size) (h2 : size ≤ 7) (h3 : 0 ≤ at') (h4 : at' ≤ len) (h5 : (len : Int) - at' < size) :
    Calls Tryd.prog 27 #[.slice ao len cap, .int .i64 at', .int .i64 size] w fun e w' => e = .returned (.tuple #[.int .i64 0, .int .i64 0, .int .i64 3]) ∧ w = w' := by
  unfold maxLen at hl
  go_enter Tryd.func27, Tryd.ntmps27
  go_wp2
  all_goals first | omega | (go_ret3; exact ⟨rfl, rfl⟩)
theorem get_ok (b o len cap : Nat) (zs : List Int) (at' size : Nat) (w : World) (hl : zs.length = len) (hlc : len ≤ cap) (hm : cap ≤ maxLen) (hc : ∀ j, j < len → w.cell? ⟨b, o + j, none⟩ = some (.int .u8 (zs.getD j 0)))
    (hz : ∀ j, j < zs.length → 0 ≤ zs.getD j 0 ∧ zs.getD j 0 ≤ 255) (h1 : 1 ≤ size) (h2 : size ≤ 7) (h5 : at' + size ≤ len) :
    Calls Tryd.prog 27 #[.slice (some ⟨b, o, none⟩) len cap, .int .i64 at', .int .i64 size] w fun e w' => e = .returned (.tuple #[.int .i64 (num ((zs.drop at').take size)), .int .i64 (at' + size : Nat), .int .i64 0]) ∧ w = w' := by
  unfold maxLen at hm
  have hcap : ¬ cap = at' := by omega
  go_enter Tryd.func27, Tryd.ntmps27
  go_wp2
  obtain ⟨ys, hys⟩ : ∃ ys, ys = (zs.drop at').take size := ⟨_, rfl⟩
  have hyl : ys.length = size := by rw [hys]; simp; omega
  have hyg : ∀ k, k < size → ys.getD k 0 = zs.getD (at' + k) 0 := by intro k hk; rw [hys]; simp [List.getD, hk]
  have hyz : ∀ k, k < ys.length → 0 ≤ ys.getD k 0 ∧ ys.getD k 0 ≤ 255 := by intro k hk; rw [hyg k (by omega)]; exact hz _ (by omega)
  have hyc : ∀ k, k < size → w.cell? ⟨b, o + at' + k, none⟩ = some (.int .u8 (ys.getD k 0)) := by intro k hk; rw [hyg k hk, Nat.add_assoc]; exact hc _ (by omega)
  have HL := Lib.hid hyl; have HG := Lib.hid hyg; have HZ := Lib.hid hyz; have HC := Lib.hid hyc; have HY := Lib.hid hys; have HC0 := Lib.hid hc; have HZ0 := Lib.hid hz
  clear hyl hyg hyz hyc hys hc hz hl
  go_loop [6, 40] (fun n i => ∃ k : Nat, k ≤ size ∧ i = .int .i64 k ∧ n = .int .i64 (num (ys.take k))) (fun _ i => size - (intOf i).toNat)
  case atStart => exact ⟨0, Nat.zero_le _, rfl, rfl⟩
  case round =>
    obtain ⟨k, hk, rfl, rfl⟩ := hrel
    by_cases hlt : k < size
    · have hcell := HC.out k hlt
      have hbd := HZ.out k (by rw [HL.out]; exact hlt)
      obtain ⟨c, hcc⟩ : ∃ c, c = ys.getD k 0 := ⟨_, rfl⟩
      rw [← hcc] at hcell hbd
      have hnl := num_take_lt ys HZ.out k (by rw [HL.out]; exact hk)
      have hp : 256 ^ k ≤ 256 ^ 6 := Nat.pow_le_pow_right (by decide) (by omega)
      have hnl2 : num (ys.take k) < 281474976710656 := by omega
      have HN := Lib.hid (num_take ys k (by rw [HL.out]; exact hlt))
      rw [← hcc] at HN
      have HCC := Lib.hid hcc
      clear hcc hnl hp
      obtain ⟨n, hn⟩ : ∃ n, n = num (ys.take k) := ⟨_, rfl⟩
      rw [← hn] at hnl2 HN ⊢
      have HNN := Lib.hid hn
      clear hn
      go_wp2
      go_round
      case rel => exact ⟨k + 1, by omega, by go_num, by rw [HN.out, or_shift n c hnl2 hbd.1 hbd.2]; go_num⟩
      case measure => simp [intOf]; omega
    · go_wp2
      go_ret3
      have : k = size := by omega
      subst this
      exact ⟨by rw [← HY.out, List.take_of_length_le (by rw [HL.out]; exact Nat.le_refl _)]; rfl, rfl⟩
theorem put_arg (ao : Option Addr) (len cap : Nat) (n size : Int) (w : World) (h : size < 1 ∨ 7 < size ∨ n < 0) :
    Calls Tryd.prog 42 #[.slice ao len cap, .int .i64 n, .int .i64 size] w fun e w' => e = .returned (.tuple #[.slice none 0 0, .int .i64 1]) ∧ w = w' := by
  go_enter Tryd.func42, Tryd.ntmps42
  go_wp2
  all_goals first | omega | (go_ret2; exact ⟨rfl, rfl⟩)
theorem put_more (ao : Option Addr) (len cap : Nat) (n size : Nat) (w : World) (h1 : 1 ≤ size) (h2 : size ≤ 7) (hn : 256 ^ size ≤ n) :
    Calls Tryd.prog 42 #[.slice ao len cap, .int .i64 n, .int .i64 size] w fun e w' => e = .returned (.tuple #[.slice none 0 0, .int .i64 1]) ∧ w = w' := by
  have hs := shr_more n size hn
  clear hn
  go_enter Tryd.func42, Tryd.ntmps42
  go_wp2
  go_ret2
  exact ⟨rfl, rfl⟩
theorem put_ok (ao : Option Addr) (len cap : Nat) (zs : List Int) (n size : Nat) (w : World) (hl : zs.length = len) (hm : len ≤ 140737488351232)
    (hc : ∀ j, j < len → ∃ a, ao = some a ∧ w.cell? (a.add j) = some (.int .u8 (zs.getD j 0))) (h1 : 1 ≤ size) (h2 : size ≤ 7) (hn : n < 256 ^ size) :
    Calls Tryd.prog 42 #[.slice ao len cap, .int .i64 n, .int .i64 size] w fun e w' => e = .returned (.tuple #[.slice (some ⟨w.heap.size, 0, none⟩) (len + size) (len + size), .int .i64 0]) ∧
      w'.heap[w.heap.size]? = some (.cells ((zs ++ be n size).map (Value.int .u8)).toArray 5 (0, 0)) ∧ Below w.heap.size w w' := by
  obtain ⟨i0, hi, hz0, hz1, hz2⟩ := info_parts Tryd.info5
  have hs := shr_zero n size hn
  have HC := Lib.hid hc; have HL := Lib.hid hl; have HN := Lib.hid hn
  clear hc hl hn
  go_enter Tryd.func42, Tryd.ntmps42
  go_wp2_with (first
    | (at_make; refine wpList_make_full _ rfl (.tmp 30) (.tmp 30) 39 rfl w.heap.size 5 i0 (.int .u8 0) 1 Tryd.underlying39 hi hz0 hz1 .i64 .i64 _ _ (len + size) rfl rfl (by omega) (by omega) (by rw [hz2]; omega) (by unfold maxLen; omega) (Nat.le_refl _) ?_; intro w1 hown1 hgrow1; have hb1 := Lib.hid (made_block hown1); have hB1 := Below.grown (Below.refl _ _) hgrow1 (Nat.le_refl _) (fun k h => by cases h); clear hown1 hgrow1)
    | (with_reducible refine wpList_copy_splice rfl (.tmp 32) (.tmp 33) 39 39 rfl 5 Tryd.underlying39 (by kernel_rfl) _ _ _ _ _ _ rfl rfl w.heap.size 0 (zeros (len + size)) 5 hb1.out (zs.map (Value.int .u8)) ?h1 ?h2 ?h3 ?h4 w.heap.size w hB1 (Nat.le_refl _) ?_))
  case h1 => simp only [List.length_map, HL.out]; exact (Nat.min_eq_left (by omega)).symm
  case h2 =>
    intro hpos
    have h0 : 0 < len := by have := HL.out; omega
    obtain ⟨a, ha, _⟩ := HC.out 0 h0
    refine ⟨a, ha, fun j v hv => ?_⟩
    obtain ⟨hj, hv⟩ := List.getElem?_eq_some_iff.1 hv
    obtain ⟨a', ha', hca⟩ := HC.out j (by have := HL.out; omega)
    rw [ha] at ha'
    obtain rfl := Option.some.inj ha'
    rw [hB1.cell (cell_lt hca), hca, ← hv]
    simp [List.getD, hj]
  case h3 => simp only [List.length_map, HL.out, zeros, List.length_replicate]; omega
  case h4 => exact ints_oneCell _ _
  intro w2 HG2 hB2
  have HR := Lib.hid (putRow_start (n := n) HL.out HG2.out)
  clear HG2 hb1 hB1 hi hz0 hz1 hz2
  go_wp2_with fail
  go_loopw [36] (fun i wr => ∃ k : Nat, k ≤ size ∧ i = .int .i64 k ∧ PutRow wr 5 w.heap.size zs n size k ∧ Below w.heap.size w wr) (fun i _ => size - (intOf i).toNat)
  case atStart => exact ⟨0, Nat.zero_le _, rfl, HR.out, hB2⟩
  case round =>
    clear HR hB2
    obtain ⟨k, hk, rfl, hrow, hB⟩ := hrel
    by_cases hlt : k < size
    · have hcell := putRow_cell HL.out hlt hrow
      have hfree := free_of_block (j := len + k) hrow
      have HROW := Lib.hid hrow
      clear hrow
      go_wp2
      go_roundw
      case rel => exact ⟨k + 1, by omega, by go_num, putRow_step HL.out hlt (digit_int n size k) HROW.out, hB.setCell (Nat.le_refl _) _⟩
      case measure => simp [intOf]; omega
    · go_wp2
      go_ret2
      have : k = size := by omega
      subst this
      exact ⟨rfl, putRow_end hrow, hB⟩
theorem put_rd (ao : Option Addr) (len cap : Nat) (zs : List Int) (n size : Nat) (w : World) (hl : zs.length = len) (hm : len ≤ 140737488351232) (hr : Rd w ao zs) (h1 : 1 ≤ size) (h2 : size ≤ 7) (hn : n < 256 ^ size) :
    Calls Tryd.prog 42 #[.slice ao len cap, .int .i64 n, .int .i64 size] w fun e w' => e = .returned (.tuple #[.slice (some ⟨w.heap.size, 0, none⟩) (len + size) (len + size), .int .i64 0]) ∧
      w'.heap[w.heap.size]? = some (.cells ((zs ++ be n size).map (Value.int .u8)).toArray 5 (0, 0)) ∧ Below w.heap.size w w' := by
  refine put_ok ao len cap zs n size w hl hm (fun j hj => ?_) h1 h2 hn
  obtain ⟨b, o, rfl, hc⟩ := hr.at (by omega)
  exact ⟨_, rfl, by rw [Addr.add_lit]; exact hc j (by omega)⟩
theorem get_rd (ao : Option Addr) (len cap : Nat) (zs : List Int) (at' size : Nat) (w : World) (hl : zs.length = len) (hlc : len ≤ cap) (hm : cap ≤ maxLen) (hr : Rd w ao zs) (hz : Bts zs) (h1 : 1 ≤ size) (h2 : size ≤ 7) (h5 : at' + size ≤ len) :
    Calls Tryd.prog 27 #[.slice ao len cap, .int .i64 at', .int .i64 size] w fun e w' => e = .returned (.tuple #[.int .i64 (num ((zs.drop at').take size)), .int .i64 (at' + size : Nat), .int .i64 0]) ∧ w = w' := by
  obtain ⟨b, o, rfl, hc⟩ := hr.at (by omega)
  exact get_ok b o len cap zs at' size w hl hlc hm (fun j hj => hc j (by omega)) hz h1 h2 h5
theorem owns_of_block {w : World} {base e g n : Nat} {xs : List Value} (h : w.heap[g]? = some (.cells xs.toArray e (0, 0))) (hb : base ≤ g) (hm : n ≤ maxLen) (hn : xs.length = n) : w.ownsRow base e 1 (.slice (some ⟨g, 0, none⟩) n n) n xs :=
  ⟨by omega, .inr ⟨g, n, xs.toArray, rfl, hb, h, Nat.le_refl _, hm, by simp [hn], by simp [← hn]⟩⟩
/-- The digits of n lie in a block. -/
def Digs (w : World) (g n s : Nat) : Prop := w.heap[g]? = some (.cells ((be n s).map (Value.int .u8)).toArray 5 (0, 0))
theorem Digs.cell {w : World} {g n s i : Nat} (h : Digs w g n s) (hi : i < s) : w.cell? ⟨g, i, none⟩ = some (.int .u8 (digit n s i)) := by
  unfold Digs at h
  rw [cell_of_block h (by simpa [be_length] using hi)]
  simp [List.getD, be, hi]
/-- What Put gives. -/
def putS (zs : List Int) (n size : Int) : List Int × Int :=
  if size < 1 ∨ 7 < size ∨ n < 0 ∨ 256 ^ size.toNat ≤ n.toNat then ([], 1) else (zs ++ be n.toNat size.toNat, 0)
/-- What Get gives. -/
def getS (zs : List Int) (at' size : Int) : Int × Int × Int :=
  if size < 1 ∨ 7 < size ∨ at' < 0 ∨ (zs.length : Int) < at' then (0, 0, 1)
  else if (zs.length : Int) - at' < size then (0, 0, 3) else (((num ((zs.drop at'.toNat).take size.toNat) : Nat) : Int), at' + size, 0)
/-- Two results: bytes of the call's own, and an error's number. -/
def R2 (w : World) (r : List Int × Int) (e : Ending) (w' : World) : Prop :=
  ∃ n ko kc, e = .returned (.tuple #[.slice ko n kc, .int .i64 r.2]) ∧ Ow w' w.heap.size ko n kc r.1 ∧ Below w.heap.size w w'
theorem R2.nil (w : World) (er : Int) : R2 w ([], er) (.returned (.tuple #[.slice none 0 0, .int .i64 er])) w :=
  ⟨0, none, 0, rfl, ⟨rfl, Nat.le_refl _, Nat.zero_le _, World.ownsRow_nil _ _ _ _⟩, Below.refl _ _⟩
theorem put_r (ao : Option Addr) (len cap : Nat) (zs : List Int) (n size : Int) (w : World) (hl : zs.length = len) (hm : len ≤ 1000000) (hr : Rd w ao zs) :
    Calls Tryd.prog 42 #[.slice ao len cap, .int .i64 n, .int .i64 size] w (R2 w (putS zs n size)) := by
  by_cases h1 : size < 1 ∨ 7 < size ∨ n < 0
  · have e : putS zs n size = ([], 1) := by unfold putS; rw [if_pos (by omega)]
    rw [e]
    refine (put_arg ao len cap n size w h1).mono ?_
    rintro e w' ⟨rfl, rfl⟩
    exact R2.nil _ _
  · obtain ⟨s, rfl⟩ := Int.eq_ofNat_of_zero_le (by omega : 0 ≤ size)
    obtain ⟨m, rfl⟩ := Int.eq_ofNat_of_zero_le (by omega : 0 ≤ n)
    by_cases h2 : 256 ^ s ≤ m
    · have e : putS zs m s = ([], 1) := by unfold putS; rw [if_pos (.inr (.inr (.inr (by simpa using h2))))]
      rw [e]
      refine (put_more ao len cap m s w (by omega) (by omega) h2).mono ?_
      rintro e w' ⟨rfl, rfl⟩
      exact R2.nil _ _
    · have e : putS zs m s = (zs ++ be m s, 0) := by
        unfold putS
        rw [if_neg (by simp only [Int.toNat_natCast]; omega)]
        simp
      rw [e]
      refine (put_rd ao len cap zs m s w hl (by omega) hr (by omega) (by omega) (by omega)).mono ?_
      rintro e w' ⟨rfl, hb, hB⟩
      have hll : (zs ++ be m s).length = len + s := by rw [List.length_append, be_length, hl]
      exact ⟨len + s, _, _, rfl, ⟨hll, Nat.le_refl _, by unfold maxLen; omega, owns_of_block hb (Nat.le_refl _) (by unfold maxLen; omega) (by rw [List.length_map, hll])⟩, hB⟩
theorem get_r (ao : Option Addr) (len cap : Nat) (zs : List Int) (at' size : Int) (w : World) (hl : zs.length = len) (hlc : len ≤ cap) (hm : cap ≤ maxLen) (hr : Rd w ao zs) (hz : Bts zs) :
    Calls Tryd.prog 27 #[.slice ao len cap, .int .i64 at', .int .i64 size] w fun e w' => e = .returned (.tuple #[.int .i64 (getS zs at' size).1, .int .i64 (getS zs at' size).2.1, .int .i64 (getS zs at' size).2.2]) ∧ w = w' := by
  by_cases h1 : size < 1 ∨ 7 < size ∨ at' < 0 ∨ (len : Int) < at'
  · have e : getS zs at' size = (0, 0, 1) := by unfold getS; rw [if_pos (by omega)]
    rw [e]
    exact get_arg ao len cap at' size w (by omega) h1
  · by_cases h2 : (len : Int) - at' < size
    · have e : getS zs at' size = (0, 0, 3) := by unfold getS; rw [if_neg (by omega), if_pos (by omega)]
      rw [e]
      exact get_short ao len cap at' size w (by omega) (by omega) (by omega) (by omega) (by omega) h2
    · have e : getS zs at' size = (((num ((zs.drop at'.toNat).take size.toNat) : Nat) : Int), at' + size, 0) := by unfold getS; rw [if_neg (by omega), if_neg (by omega)]
      rw [e]
      obtain ⟨s, rfl⟩ := Int.eq_ofNat_of_zero_le (by omega : 0 ≤ size)
      obtain ⟨a, rfl⟩ := Int.eq_ofNat_of_zero_le (by omega : 0 ≤ at')
      exact get_rd ao len cap zs a s w hl hlc hm hr hz (by omega) (by omega) (by omega)

end Go.Proofs.YtifbbikhjolnjaaDoor
