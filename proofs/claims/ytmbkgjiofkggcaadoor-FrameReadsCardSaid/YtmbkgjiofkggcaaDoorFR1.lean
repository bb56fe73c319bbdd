/-
  The document's reading of a frame: when its bytes are the frame.
-/
import Derived.Test.YtmbkgjiofkggcaaDoorFrame18
import Derived.Test.YtmbkgjiofkggcaaDoorFrame6
namespace Go.Proofs.YtmbkgjiofkggcaaDoor
open Go.RowKit
set_option linter.unusedVariables false

theorem be_back (l : List Int) (n : Nat) (hn : l.length = n) (h : Bts l) : be (num l) n = l := by
  rw [← hn]; exact be_num l h
/-- The bytes ahead of the sum are those of what they say. -/
theorem head_back (ys : List Int) (h : Bts ys) (hl : 13 + rn ys ≤ ys.length) : fhead (rk ys) (rs' ys) (rz ys).length = ys.take 9 := by
  have hz : (rz ys).length = rn ys := by unfold rz; rw [List.length_take, List.length_drop]; omega
  have e1 : be (rk ys).toNat 1 = ys.take 1 := by
    unfold rk; rw [Int.toNat_natCast]; exact be_back _ 1 (by rw [List.length_take]; omega) (h.take 1)
  have e2 : be (rs' ys).toNat 4 = (ys.drop 1).take 4 := by
    unfold rs'; rw [Int.toNat_natCast]; exact be_back _ 4 (by rw [List.length_take, List.length_drop]; omega) ((h.drop 1).take 4)
  have e3 : be (rn ys) 4 = (ys.drop 5).take 4 := be_back _ 4 (by rw [List.length_take, List.length_drop]; omega) ((h.drop 5).take 4)
  unfold fhead
  rw [hz, e1, e2, e3]
  have a1 : ys.take 9 = ys.take 1 ++ (ys.drop 1).take 8 := by rw [show 9 = 1 + 8 from rfl, List.take_add]
  have a2 : (ys.drop 1).take 8 = (ys.drop 1).take 4 ++ (ys.drop 5).take 4 := by
    rw [show 8 = 4 + 4 from rfl, List.take_add, List.drop_drop]
  rw [a1, a2, List.append_assoc]
/-- The bytes are the record's frame, just where its sum agrees. -/
theorem frame_back (ys : List Int) (h : Bts ys) (hl : 13 + rn ys ≤ ys.length) :
    fr (rk ys) (rs' ys) (rz ys) = ys.take (13 + rn ys) ↔ (ys.drop 9).take 4 = l4 ((sumOf (ys.take 9 ++ rz ys)).toNat : Int) := by
  have hh := head_back ys h hl
  have hy : ys.take (13 + rn ys) = ys.take 9 ++ (ys.drop 9).take 4 ++ rz ys := by
    rw [show 13 + rn ys = 9 + (4 + rn ys) by omega, List.take_add, List.take_add, List.drop_drop, List.append_assoc]; rfl
  unfold fr
  rw [hh, hy]
  constructor
  · intro e
    have e1 := List.append_inj_left e (by simp [l4, List.length_take, List.length_drop]; omega)
    exact (List.append_cancel_left e1).symm
  · intro e; rw [e]
end Go.Proofs.YtmbkgjiofkggcaaDoor
