/-
  The walk of ShaParts.
-/
import Derived.Test.YtdpnkdliibccjaaDoorPartsEnd
import Derived.Test.YtdpnkdliibccjaaDoorExact
namespace Go.Proofs.YtdpnkdliibccjaaDoor
open Go.RowKit
set_option linter.unusedVariables false

theorem flat1 (p : Part) : flat [p] = p.z := by simp [flat]
theorem flat2 (p q : Part) : flat [p, q] = p.z ++ q.z := by simp [flat]
set_option maxRecDepth 100000 in
set_option maxHeartbeats 2000000 in
theorem parts_walk (ao : Option Addr) (n cap : Nat) (ps : List Part) (a1 : Int) (w : World) (hl : ps.length = n) (hm : n ≤ maxLen) (hT : Tab w) (h : Ps w ao ps) :
    Calls Tryd.prog 5 #[.slice ao n cap, .int .i64 a1] w fun e w' => e = .returned (.bool true) ∧ Below w.heap.size w w' := by
  have H8 := Lib.hid (heavy_any ao n cap ps w hl h)
  have HT := Lib.hid hT; have HP := Lib.hid h; have HL := Lib.hid hl; have HM := Lib.hid hm
  clear hl hm hT h
  go_enter Tryd.func5, Tryd.ntmps5
  go_wp2_with (go_at_call 8; refine H8.out.mono ?_; rintro e w1 ⟨b, rfl, rfl, hb⟩; have HBB := Lib.hid hb; clear hb)
  · go_ret
    exact ⟨rfl, Below.refl _ _⟩
  · obtain ⟨hn20, h300⟩ := HBB.out (by assumption)
    have hZb : Bts (flat ps) := flat_bts ps (fun p hp => (ps_mem HP.out hp).bts)
    have hN : (flat ps).length ≤ 6000 := by
      have := flat_len ps 300 (fun r hr => by rw [(ps_mem HP.out (List.getElem_mem hr)).len]; exact h300 r hr) ps.length (Nat.le_refl _)
      rw [List.take_of_length_le (Nat.le_refl _)] at this
      have := HL.out
      omega
    have HFL := Lib.hid (flat_any ao n cap ps w HL.out hn20 HP.out h300)
    have hS0 := fun V (hB : Below w.heap.size w V) => sum_any ao n cap ps V HL.out (by omega) (HT.out.below hB) (HP.out.below hB) (by omega)
    obtain ⟨Z, hZ⟩ : ∃ Z, Z = flat ps := ⟨_, rfl⟩
    rw [← hZ] at HFL hZb hN hS0
    obtain ⟨N, hNN⟩ : ∃ N, N = Z.length := ⟨_, rfl⟩
    rw [← hNN] at HFL hN
    obtain ⟨T, hT2, hT1⟩ := uwrap_at a1 ((N : Int) + 1) (by omega) (by omega)
    have hTN : T ≤ N := by omega
    have HT1 := Lib.hid hT1; have HNN := Lib.hid hNN; have HZB := Lib.hid hZb; have HS0 := Lib.hid hS0
    clear h300 hZ hNN hT1 hT2 hZb HBB H8 hS0
    go_wp2_with (go_at_call 12; refine HFL.out.mono ?_; rintro e w2 ⟨ko, kc, rfl, how, hB2⟩; have HOW := Lib.hid how; have HB2 := Lib.hid hB2; clear how hB2)
    try rw [HT1.out]
    have hpz := HOW.out.part HZB.out
    have hkc : N ≤ kc := HOW.out.2.1
    have q2 : ∀ m V, (binOp .eql 25 (.agg (shaV m).toArray) (.agg (shaV m).toArray)).run Tryd.prog V = .ok (.bool true) V := fun m V => by
      have := eql_sum m m V
      simpa using this
    have q3 : ∀ m V, (Op.equalIn 10000 25 (.agg (shaV m).toArray) (.agg (shaV m).toArray)).run Tryd.prog V = .ok true V := fun m V => by
      have := eqIn_sum m m V
      simpa using this
    have hcat : (Z.take T).drop 0 ++ (Z.take N).drop T = Z := by
      have e : Z.take N = Z := List.take_of_length_le (by rw [← HNN.out]; exact Nat.le_refl _)
      rw [List.drop_zero, e, List.take_append_drop]
    have hK : ∀ f : Nat → Value, f 0 = .slice ao n cap → f 5 = Part.v ⟨ko, N, kc, Z⟩ → f 6 = .int .i64 (T : Int) →
        prK f w2 (shaV Z) (shaV []) (.slice ao n cap) ⟨ko, N, kc, Z⟩ ⟨cutA ko kc 0, T - 0, kc - 0, (Z.take T).drop 0⟩ ⟨cutA ko kc T, N - T, kc - T, (Z.take N).drop T⟩ T := fun f h0 h5 h6 =>
      ⟨HT.out.below HB2.out, h0, h5, h6, fun V hV => HS0.out V (HB2.out.trans (hV.mono HB2.out.size)), hpz, cut_ok hpz 0 T (by omega) hTN, cut_ok hpz T N hTN (by omega),
        by rw [flat1], by rw [flat2]; show shaV ((Z.take T).drop 0 ++ (Z.take N).drop T) = _; rw [hcat],
        by rw [flat1]; show Z.length ≤ _; rw [← HNN.out]; omega,
        by rw [flat2]; show ((Z.take T).drop 0 ++ (Z.take N).drop T).length ≤ _; rw [hcat, ← HNN.out]; omega,
        rfl, q2 Z, q3 Z, q2 [], q3 [], fun V => cut_h ko N kc T (by omega) V, fun V => cut_l ko N kc T hTN V⟩
    have HK := Lib.hid hK
    clear hK q2 q3 hpz hcat
    refine prbegin rfl (HK.out _ rfl rfl rfl) ?_
    intro v w5 hB5 h29
    have HB5 := Lib.hid (HB2.out.trans (hB5.mono HB2.out.size))
    have H29 := Lib.hid h29
    clear HK hB5 h29
    unfold prF
    rw [H29.out]
    go_wp2
    go_ret
    exact ⟨rfl, HB5.out⟩
end Go.Proofs.YtdpnkdliibccjaaDoor
