/-
  The walk of ShaLengths.
-/
import Derived.Test.YtdpnkdliibccjaaDoorLensEnd
import Derived.Test.YtdpnkdliibccjaaDoorParts
namespace Go.Proofs.YtdpnkdliibccjaaDoor
open Go.RowKit
set_option linter.unusedVariables false

set_option maxRecDepth 100000 in
set_option maxHeartbeats 2000000 in
theorem lens_walk (w : World) (hT : Tab w) : Calls Tryd.prog 4 #[] w fun e w' => e = .returned (.bool true) ∧ Below w.heap.size w w' := by
  obtain ⟨i0, hi, hz0, hz1, hz2⟩ := info_parts Tryd.info5
  have HI := Lib.hid (And.intro hi (And.intro hz0 (And.intro hz1 hz2)))
  have HT := Lib.hid hT
  clear hi hz0 hz1 hz2 hT
  go_enter Tryd.func4, Tryd.ntmps4
  go_wp2_with (at_make; refine wpList_make_full _ rfl (.const (.int .i64 200)) (.const (.int .i64 200)) 28 rfl w.heap.size 5 i0 (.int .u8 0) 1 Tryd.underlying28 HI.out.1 HI.out.2.1 HI.out.2.2.1 .i64 .i64 _ _ 200 rfl rfl rfl rfl (by rw [HI.out.2.2.2]; omega) (by unfold maxLen; omega) (Nat.le_refl _) ?_; intro w1 hown hgrow; have HB1 := Lib.hid (made_block hown); have HG1 := Lib.hid (Below.grown (Below.refl _ _) hgrow (Nat.le_refl _) (fun k h => by cases h)); clear hown hgrow)
  have hpz : Part.ok w1 ⟨some ⟨w.heap.size, 0, none⟩, 200, 200, List.replicate 200 0⟩ := by
    have := HB1.out
    rw [zeros_ints] at this
    exact ⟨Rd.block this, by simp, bts_zeros 200, by show 200 ≤ maxLen; unfold maxLen; omega, (fun h => by cases h), Nat.le_refl _, by show 200 ≤ maxLen; unfold maxLen; omega⟩
  have HPZ := Lib.hid hpz
  clear hpz
  obtain ⟨Z, hZ⟩ : ∃ Z : List Int, Z = List.replicate 200 0 := ⟨_, rfl⟩
  rw [← hZ] at HPZ
  have hZl : Z.length = 200 := by rw [hZ]; simp
  have HZL := Lib.hid hZl
  clear hZ hZl
  go_loopw [2] (fun iv wr => ∃ n : Nat, n ≤ 201 ∧ iv = .int .i64 n ∧ Below w.heap.size w wr ∧ Below w1.heap.size w1 wr) (fun iv _ => 201 - (intOf iv).toNat)
  case atStart => exact ⟨0, by omega, rfl, HG1.out, Below.refl _ _⟩
  case round =>
    obtain ⟨n, hn, rfl, hB, hB1⟩ := hrel
    have HB := Lib.hid hB; have HBW := Lib.hid hB1
    by_cases hlt : n ≤ 200
    · obtain ⟨wo, rfl⟩ : ∃ wo : World, wo = wr := ⟨_, rfl⟩
      have hpo := HPZ.out.below hB1
      obtain ⟨nh, hnh⟩ : ∃ nh, nh = n / 2 := ⟨_, rfl⟩
      have hn2 : nh ≤ n := by omega
      have q1 : ∀ m V, (binOp .neq 25 (.agg (shaV m).toArray) (.agg (shaV m).toArray)).run Tryd.prog V = .ok (.bool false) V := fun m V => by
        have := neq_sum m m V
        simpa using this
      have q3 : ∀ m V, (Op.equalIn 10000 25 (.agg (shaV m).toArray) (.agg (shaV m).toArray)).run Tryd.prog V = .ok true V := fun m V => by
        have := eqIn_sum m m V
        simpa using this
      have hlz : Z.length = 200 := HZL.out
      have hcat : (Z.take nh).drop 0 ++ (Z.take n).drop nh = Z.take n := by
        rw [List.drop_zero]
        have e : Z.take nh = (Z.take n).take nh := by rw [List.take_take, Nat.min_eq_left hn2]
        rw [e, List.take_append_drop]
      have hK : ∀ f : Nat → Value, f 1 = Part.v ⟨some ⟨w.heap.size, 0, none⟩, 200, 200, Z⟩ → f 2 = .int .i64 (n : Int) →
          lnK f wo (shaV (Z.take n)) ⟨some ⟨w.heap.size, 0, none⟩, 200, 200, Z⟩ ⟨cutA (some ⟨w.heap.size, 0, none⟩) 200 0, n - 0, 200 - 0, (Z.take n).drop 0⟩ ⟨cutA (some ⟨w.heap.size, 0, none⟩) 200 0, nh - 0, 200 - 0, (Z.take nh).drop 0⟩
            ⟨cutA (some ⟨w.heap.size, 0, none⟩) 200 nh, n - nh, 200 - nh, (Z.take n).drop nh⟩ n nh := fun f h1 h2 =>
        ⟨HT.out.below hB, h1, h2, cut_ok hpo 0 n (by omega) hlt, cut_ok hpo 0 nh (by omega) (by omega), cut_ok hpo nh n hn2 hlt,
          by show shaV ((Z.take n).drop 0) = _; rw [List.drop_zero], by rw [flat1]; show shaV ((Z.take n).drop 0) = _; rw [List.drop_zero],
          by rw [flat2]; show shaV ((Z.take nh).drop 0 ++ (Z.take n).drop nh) = _; rw [hcat],
          by show n - 0 ≤ _; omega, by rw [flat1]; show ((Z.take n).drop 0).length ≤ _; simp; omega,
          by rw [flat2]; show ((Z.take nh).drop 0 ++ (Z.take n).drop nh).length ≤ _; rw [hcat]; simp; omega,
          q1 _, q3 _, fun V => cut_h _ 200 200 n (by omega) V, fun V => cut_h _ 200 200 nh (by omega) V, fun V => cut_lh _ 200 200 nh n hn2 (by omega) V, fun V => quo2 n nh hnh hlt V⟩
      have HK := Lib.hid hK
      clear hK q1 q3 hcat hpo hlz hB hB1 hnh
      go_wp2
      refine lnbegin rfl (HK.out _ rfl rfl) ?_
      intro v w5 hB5 h28
      have HB5 := Lib.hid hB5
      have H28 := Lib.hid h28
      clear HK hB5 h28
      unfold lnF
      rw [H28.out]
      go_wp2
      go_roundw
      case rel =>
        repeat apply Exists.intro
        exact ⟨⟨n + 1, by omega, by go_num, HB.out.trans (HB5.out.mono HB.out.size), HBW.out.trans (HB5.out.mono HBW.out.size)⟩, rfl⟩
      case measure => simp [intOf]; omega
    · have HWK := Lib.hid (wakes_any wr (HT.out.below hB))
      clear hB hB1
      go_wp2_with (go_at_call 14; refine HWK.out.mono ?_; rintro e w7 ⟨rfl, hB7⟩; have HB7 := Lib.hid (HB.out.trans (hB7.mono HB.out.size)); clear hB7)
      go_ret
      exact ⟨rfl, HB7.out⟩
end Go.Proofs.YtdpnkdliibccjaaDoor
