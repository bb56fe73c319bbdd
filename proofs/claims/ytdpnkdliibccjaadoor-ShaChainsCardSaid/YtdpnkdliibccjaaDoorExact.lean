/-
  The walk of ShaExact.
-/
import Derived.Test.YtdpnkdliibccjaaDoorEql
namespace Go.Proofs.YtdpnkdliibccjaaDoor
open Go.RowKit
set_option linter.unusedVariables false

theorem ps_mem {w : World} {ao : Option Addr} {ps : List Part} (h : Ps w ao ps) {p : Part} (hp : p ∈ ps) : p.ok w := by
  rcases h with h | ⟨b, o, ha, hc⟩
  · rw [h] at hp; cases hp
  · obtain ⟨r, hr, rfl⟩ := List.mem_iff_getElem.1 hp
    exact (hc r hr).2
set_option maxRecDepth 100000 in
set_option maxHeartbeats 2000000 in
theorem exact_walk (ao : Option Addr) (n cap : Nat) (ps : List Part) (w : World) (hl : ps.length = n) (hm : n ≤ maxLen) (hT : Tab w) (h : Ps w ao ps) :
    Calls Tryd.prog 3 #[.slice ao n cap] w fun e w' => e = .returned (.bool true) ∧ Below w.heap.size w w' := by
  have H8 := Lib.hid (heavy_any ao n cap ps w hl h)
  have HT := Lib.hid hT; have HP := Lib.hid h; have HL := Lib.hid hl; have HM := Lib.hid hm
  clear hl hm hT h
  go_enter Tryd.func3, Tryd.ntmps3
  go_wp2_with (go_at_call 8; refine H8.out.mono ?_; rintro e w1 ⟨b, rfl, rfl, hb⟩; have HBB := Lib.hid hb; clear hb)
  · go_ret
    exact ⟨rfl, Below.refl _ _⟩
  · obtain ⟨hn20, h300⟩ := HBB.out (by assumption)
    have HTW := Lib.hid (twins_any ao n cap ps w HL.out (by omega) HP.out (fun r hr => Nat.le_trans (h300 r hr) (by decide)))
    have hZb : Bts (flat ps) := flat_bts ps (fun p hp => (ps_mem HP.out hp).bts)
    have hN : (flat ps).length ≤ 6000 := by
      have := flat_len ps 300 (fun r hr => by rw [(ps_mem HP.out (List.getElem_mem hr)).len]; exact h300 r hr) ps.length (Nat.le_refl _)
      rw [List.take_of_length_le (Nat.le_refl _)] at this
      have := HL.out
      omega
    have HFL := Lib.hid (fun w1 (hB : Below w.heap.size w w1) => flat_any ao n cap ps w1 HL.out hn20 (HP.out.below hB) h300)
    obtain ⟨Z, hZ⟩ : ∃ Z, Z = flat ps := ⟨_, rfl⟩
    rw [← hZ] at HFL hZb hN
    obtain ⟨N, hNN⟩ : ∃ N, N = Z.length := ⟨_, rfl⟩
    rw [← hNN] at HFL hN
    obtain ⟨SV, hSV⟩ : ∃ SV, SV = shaV Z := ⟨_, rfl⟩
    have hq1 : ∀ V, (binOp .eql 25 (.agg SV.toArray) (.agg SV.toArray)).run Tryd.prog V = .ok (.bool true) V := fun V => by
      have := eql_sum Z Z V
      rw [← hSV] at this
      simpa using this
    have hq2 : ∀ V, (Op.equalIn 10000 25 (.agg SV.toArray) (.agg SV.toArray)).run Tryd.prog V = .ok true V := fun V => by
      have := eqIn_sum Z Z V
      rw [← hSV] at this
      simpa using this
    have HSV := Lib.hid hSV; have HNN := Lib.hid hNN; have HZB := Lib.hid hZb; have HZ := Lib.hid hZ
    clear h300 hZ hNN hSV hZb HBB H8
    go_wp2_with (go_at_call 9; fail)
    refine HTW.out.mono ?_
    rintro e w2 ⟨ko, kc, qs, rfl, hql, hqz, hps, hk1, hk2, hk3, hB2⟩
    have HQL := Lib.hid hql; have HQZ := Lib.hid hqz; have HPS := Lib.hid hps; have HB2 := Lib.hid hB2
    have hfq : flat qs = Z := by rw [flat_of hqz, HZ.out]
    have HSUM := Lib.hid (sum_any ko n kc qs w2 hql (by omega) (HT.out.below hB2) hps (by rw [hfq, ← HNN.out]; omega))
    rw [hfq, ← HSV.out] at HSUM
    clear hql hqz hps hk1 hk2 hk3 hB2 hfq
    go_wp2_with (go_at_call 10; fail)
    refine HSUM.out.mono ?_
    rintro e w3 ⟨rfl, hB3⟩
    have HB3 := Lib.hid (HB2.out.trans (hB3.mono HB2.out.size))
    have HPS3 := Lib.hid (HPS.out.below hB3)
    clear hB3
    go_wp2_with (go_at_call 12; fail)
    refine (HFL.out _ HB3.out).mono ?_
    rintro e w4 ⟨lo, lc, rfl, how, hB4⟩
    have hpz := how.part HZB.out
    have HID := Lib.hid (id_any lo N lc Z w4 hpz.len (by omega) hpz.rd hpz.bts hpz.nil)
    rw [← HSV.out] at HID
    have HB4 := Lib.hid (HB3.out.trans (hB4.mono HB3.out.size))
    have HPS4 := Lib.hid (HPS3.out.below hB4)
    clear how hpz hB4
    go_wp2_with (go_at_call 11; fail)
    refine HID.out.mono ?_
    rintro e w5 ⟨rfl, hB5⟩
    have HB5 := Lib.hid (HB4.out.trans (hB5.mono HB4.out.size))
    have HPS5 := Lib.hid (HPS4.out.below hB5)
    have HRW := Lib.hid (rows_eq ko ao n kc cap qs ps w5 HQL.out HL.out HM.out HPS5.out (HP.out.below HB5.out) HQZ.out)
    clear hB5
    go_wp2_with (go_at_call 13; fail)
    refine HRW.out.mono ?_
    rintro e w6 ⟨rfl, hq6⟩
    have HB6 : Hid (Below w.heap.size w w6) := by obtain ⟨q6, rfl⟩ := hq6; exact HB5.out.trans (below_drewN' _ _ q6)
    have HWK := Lib.hid (wakes_any w6 (HT.out.below HB6.out))
    clear hq6
    go_wp2_with (go_at_call 14; refine HWK.out.mono ?_; rintro e w7 ⟨rfl, hB7⟩; have HB7 := Lib.hid (HB6.out.trans (hB7.mono HB6.out.size)); clear hB7)
    go_ret
    exact ⟨rfl, HB7.out⟩
end Go.Proofs.YtdpnkdliibccjaaDoor
