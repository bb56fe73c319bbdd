/-
  Two sums held against one another.
-/
import Derived.Test.YtdpnkdliibccjaaDoorWakes
import Derived.Test.YtdpnkdliibccjaaDoorId
import Derived.ChangeKeysEq
import Derived.Laws.StructEq
namespace Go.Proofs.YtdpnkdliibccjaaDoor
open Go.RowKit
set_option linter.unusedVariables false

theorem plain5 : Tryd.prog.plainKey 5 = true := by kernel_rfl
theorem cells5 : Tryd.prog.cellsOf 5 = 1 := by kernel_rfl
theorem items_eq (d : Nat) (xs ys : List Int) (hx : xs.length = 32) (hy : ys.length = 32) (w : World) : ∀ is : List Nat, (∀ i ∈ is, i < 32) →
    (Op.eqItems (d + 1) 5 1 (xs.map (Value.int .u8)).toArray (ys.map (Value.int .u8)).toArray is).run Tryd.prog w = .ok (is.all fun i => xs.getD i 0 == ys.getD i 0) w
  | [], _ => by simp [Op.eqItems]
  | i :: is, h => by
    have hi := h i (by simp)
    have ih := items_eq d xs ys hx hy w is (fun j hj => h j (by simp [hj]))
    have p1 : (part 5 (xs.map (Value.int .u8)).toArray (i * 1)).run Tryd.prog w = .ok (.int .u8 (xs.getD i 0)) w := run_part_plain w plain5 (by simp [List.getD, hi, hx])
    have p2 : (part 5 (ys.map (Value.int .u8)).toArray (i * 1)).run Tryd.prog w = .ok (.int .u8 (ys.getD i 0)) w := run_part_plain w plain5 (by simp [List.getD, hi, hy])
    have p3 : (Op.equalIn (d + 1) 5 (.int .u8 (xs.getD i 0)) (.int .u8 (ys.getD i 0))).run Tryd.prog w = .ok (xs.getD i 0 == ys.getD i 0) w := run_equalIn_int w d 5 .u8 .u8 _ _ Tryd.underlying5
    simp only [Op.eqItems, Sem.run_bind, p1, p2, p3, Result.andThen_ok, List.all_cons]
    cases hb : (xs.getD i 0 == ys.getD i 0)
    · simp
    · simpa using ih
theorem all_eq (xs ys : List Int) (hx : xs.length = 32) (hy : ys.length = 32) : ((List.range 32).all fun i => xs.getD i 0 == ys.getD i 0) = decide (xs = ys) := by
  rw [Bool.eq_iff_iff, List.all_eq_true, decide_eq_true_iff]
  constructor
  · intro h
    apply List.ext_getElem (by omega)
    intro i h1 h2
    have := h i (by simp; omega)
    simpa [List.getD, h1, h2] using this
  · rintro rfl i _
    simp
theorem equalIn_sum (xs ys : List Int) (hx : xs.length = 32) (hy : ys.length = 32) (w : World) :
    (Op.equalIn 10000 25 (.agg (xs.map (Value.int .u8)).toArray) (.agg (ys.map (Value.int .u8)).toArray)).run Tryd.prog w = .ok (decide (xs = ys)) w := by
  obtain ⟨i0, hi, hz0, hz1, hz2⟩ := info_parts Tryd.info5
  have hu : Tryd.prog.underlying 25 = some (.array 32 5) := by kernel_rfl
  rw [show (10000 : Nat) = 9999 + 1 from rfl, run_equalIn_array w 9999 _ _ hu hi, cells5, ← all_eq xs ys hx hy]
  exact items_eq 9998 xs ys hx hy w (List.range 32) (fun i h => by simpa using h)
theorem sha_blen (m : List Int) : (shaOf m).length = 32 := by have := sha_len m; simpa [shaV] using this
/-- Sums of texts. -/
theorem eql_sum (m m' : List Int) (w : World) : (binOp .eql 25 (.agg (shaV m).toArray) (.agg (shaV m').toArray)).run Tryd.prog w = .ok (.bool (decide (shaOf m = shaOf m'))) w := by
  rw [run_eql_struct, shaV, shaV, equalIn_sum _ _ (sha_blen m) (sha_blen m')]; rfl
theorem neq_sum (m m' : List Int) (w : World) : (binOp .neq 25 (.agg (shaV m).toArray) (.agg (shaV m').toArray)).run Tryd.prog w = .ok (.bool (!decide (shaOf m = shaOf m'))) w := by
  rw [run_neq_struct, shaV, shaV, equalIn_sum _ _ (sha_blen m) (sha_blen m')]; rfl
theorem eqIn_sum (m m' : List Int) (w : World) : (Op.equalIn 10000 25 (.agg (shaV m).toArray) (.agg (shaV m').toArray)).run Tryd.prog w = .ok (decide (shaOf m = shaOf m')) w :=
  equalIn_sum _ _ (sha_blen m) (sha_blen m') w
end Go.Proofs.YtdpnkdliibccjaaDoor
