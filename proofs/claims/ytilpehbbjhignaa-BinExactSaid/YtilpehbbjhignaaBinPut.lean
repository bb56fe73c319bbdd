/-
  The contract of Put.
-/
import Derived.Test.YtilpehbbjhignaaPlain
import Derived.Test.YtilpehbbjhignaaProg
import Derived.WalkKit
import Derived.WalkSpells
import Derived.Outline
import Derived.Lib.Hide
import Derived.Laws.CopyOwn
import Derived.Laws.ResultCell
namespace Go.Proofs.Ytilpehbbjhignaa
open Go.RowKit
set_option linter.unusedVariables false

theorem Try.info5 : (Try.prog.info? 5).map (fun i => (i.zero, i.size, i.bytes)) = some (some (.int .u8 0), 1, 1) := by kernel_rfl

theorem put_arg (ao : Option Addr) (len cap : Nat) (n size : Int) (w : World) (h : size < 1 ∨ 7 < size ∨ n < 0) :
    Calls Try.prog 10 #[.slice ao len cap, .int .i64 n, .int .i64 size] w fun e w' => e = .returned (.tuple #[.slice none 0 0, .int .i64 1]) ∧ w = w' := by
  go_enter Try.func10, Try.ntmps10
  go_wp2
  all_goals first | omega | (go_ret2; exact ⟨rfl, rfl⟩)

theorem put_more (ao : Option Addr) (len cap : Nat) (n size : Nat) (w : World) (h1 : 1 ≤ size) (h2 : size ≤ 7) (hn : 256 ^ size ≤ n) :
    Calls Try.prog 10 #[.slice ao len cap, .int .i64 n, .int .i64 size] w fun e w' => e = .returned (.tuple #[.slice none 0 0, .int .i64 1]) ∧ w = w' := by
  have hs := shr_more n size hn
  clear hn
  go_enter Try.func10, Try.ntmps10
  go_wp2
  go_ret2
  exact ⟨rfl, rfl⟩

theorem put_ok (ao : Option Addr) (len cap : Nat) (zs : List Int) (n size : Nat) (w : World) (hl : zs.length = len) (hm : len ≤ 140737488351232)
    (hc : ∀ j, j < len → ∃ a, ao = some a ∧ w.cell? (a.add j) = some (.int .u8 (zs.getD j 0))) (h1 : 1 ≤ size) (h2 : size ≤ 7) (hn : n < 256 ^ size) :
    Calls Try.prog 10 #[.slice ao len cap, .int .i64 n, .int .i64 size] w fun e w' => e = .returned (.tuple #[.slice (some ⟨w.heap.size, 0, none⟩) (len + size) (len + size), .int .i64 0]) ∧
      w'.heap[w.heap.size]? = some (.cells ((zs ++ be n size).map (Value.int .u8)).toArray 5 (0, 0)) ∧ Below w.heap.size w w' := by
  obtain ⟨i0, hi, hz0, hz1, hz2⟩ := info_parts Try.info5
  have hs := shr_zero n size hn
  have HC := Lib.hid hc; have HL := Lib.hid hl; have HN := Lib.hid hn
  clear hc hl hn
  go_enter Try.func10, Try.ntmps10
  go_wp2_with (first
    | (at_make; refine wpList_make_full _ rfl (.tmp 30) (.tmp 30) 22 rfl w.heap.size 5 i0 (.int .u8 0) 1 Try.underlying22 hi hz0 hz1 .i64 .i64 _ _ (len + size) rfl rfl (by omega) (by omega) (by rw [hz2]; omega) (by unfold maxLen; omega) (Nat.le_refl _) ?_; intro w1 hown1 hgrow1; have hb1 := Lib.hid (made_block hown1); have hB1 := Below.grown (Below.refl _ _) hgrow1 (Nat.le_refl _) (fun k h => by cases h); clear hown1 hgrow1)
    | (with_reducible refine wpList_copy_splice rfl (.tmp 32) (.tmp 33) 22 22 rfl 5 Try.underlying22 (by kernel_rfl) _ _ _ _ _ _ rfl rfl w.heap.size 0 (zeros (len + size)) 5 hb1.out (zs.map (Value.int .u8)) ?h1 ?h2 ?h3 ?h4 w.heap.size w hB1 (Nat.le_refl _) ?_))
  case h1 => simp only [List.length_map, HL.out]; exact (Nat.min_eq_left (by omega)).symm
  case h2 =>
    intro hpos
    have h0 : 0 < len := by have := HL.out; omega
    obtain ⟨a, ha, _⟩ := HC.out 0 h0
    refine ⟨a, ha, fun j v hv => ?_⟩
    obtain ⟨hj, hv⟩ := List.getElem?_eq_some_iff.1 hv
    obtain ⟨a', ha', hca⟩ := HC.out j (by have := HL.out; omega)
    rw [ha] at ha'
    obtain rfl := Option.some.inj ha'
    rw [hB1.cell (cell_lt hca), hca, ← hv]
    simp [List.getD, hj]
  case h3 => simp only [List.length_map, HL.out, zeros, List.length_replicate]; omega
  case h4 => exact ints_oneCell _ _
  intro w2 HG2 hB2
  have HR := Lib.hid (putRow_start (n := n) HL.out HG2.out)
  clear HG2 hb1 hB1 hi hz0 hz1 hz2
  go_wp2_with fail
  go_loopw [36] (fun i wr => ∃ k : Nat, k ≤ size ∧ i = .int .i64 k ∧ PutRow wr 5 w.heap.size zs n size k ∧ Below w.heap.size w wr) (fun i _ => size - (intOf i).toNat)
  case atStart => exact ⟨0, Nat.zero_le _, rfl, HR.out, hB2⟩
  case round =>
    clear HR hB2
    obtain ⟨k, hk, rfl, hrow, hB⟩ := hrel
    by_cases hlt : k < size
    · have hcell := putRow_cell HL.out hlt hrow
      have hfree := free_of_block (j := len + k) hrow
      have HROW := Lib.hid hrow
      clear hrow
      go_wp2
      go_roundw
      case rel => exact ⟨k + 1, by omega, by go_num, putRow_step HL.out hlt (digit_int n size k) HROW.out, hB.setCell (Nat.le_refl _) _⟩
      case measure => simp [intOf]; omega
    · go_wp2
      go_ret2
      have : k = size := by omega
      subst this
      exact ⟨rfl, putRow_end hrow, hB⟩

end Go.Proofs.Ytilpehbbjhignaa
