/-
  The walk of CdcStays.
-/
import Derived.Test.YtcldfnnnjmhkjaaGlue
import Derived.Deep.RegionHeld3
namespace Go.Proofs.Ytcldfnnnjmhkjaa
open Go.RowKit
set_option linter.unusedVariables false

set_option maxRecDepth 100000 in
set_option maxHeartbeats 1000000 in
theorem stays_walk (a b : Option Addr) (la lb ca cb : Nat) (za zb : List Int) (w : World) (h1 : la ≤ 1500) (h2 : lb ≤ 1500) (pa : Part.ok w ⟨a, la, ca, za⟩) (pb : Part.ok w ⟨b, lb, cb, zb⟩) (ka : la ≤ ca) (ma : ca ≤ maxLen) :
    Calls Try.prog 5 #[.slice a la ca, .slice b lb cb] w fun e w' => e = .returned (.bool true) ∧ Below w.heap.size w w' := by
  have d1 : decide ((1500 : Int) < (la : Int)) = false := decide_eq_false (by omega)
  have d2 : decide ((1500 : Int) < (lb : Int)) = false := decide_eq_false (by omega)
  have HPA := Lib.hid pa; have HPB := Lib.hid pb
  have HC1 := Lib.hid (cut_ps a la ca za w pa.len ka ma (by omega) pa.rd pa.bts)
  clear pa pb
  go_enter Try.func5, Try.ntmps5
  go_wp2_with (go_at_call 14; fail)
  refine HC1.out.mono ?_
  rintro e w1 ⟨xo, xc, ps, rfl, hpz, hps, hpl, hpm, hB1⟩
  have HTW := Lib.hid (twin_any a la ca za w1 (HPA.out.len) (by omega) (HPA.out.rd.below hB1) HPA.out.nil)
  have HPZ := Lib.hid hpz; have HPS := Lib.hid hps; have HB1 := Lib.hid hB1
  obtain ⟨n, hn⟩ : ∃ n, n = ps.length := ⟨_, rfl⟩
  rw [← hn] at hpl ⊢
  have HN := Lib.hid hn
  clear hpz hps hB1 hn HC1
  have HPB1 := Lib.hid (HPB.out.below HB1.out)
  go_wp2_with (first
    | (go_at_call 13; refine HTW.out.mono ?_; rintro e w2 ⟨ko, kc, rfl, how, hB2⟩; have HOW := Lib.hid how; have HB2 := Lib.hid hB2; have HPB2 := Lib.hid (HPB1.out.below hB2); clear how hB2)
    | (at_builtin; refine append_bytes rfl (.tmp 29) (.tmp 30) rfl w1.heap.size la kc lb cb ko b za zb rfl HOW.out rfl HPB2.out.rd HPB2.out.len HPB2.out.nil (by omega) HB2.out.size ?_; intro so sc w3 hso hB3; have HSO := Lib.hid hso; have HB3 := Lib.hid (HB2.out.trans (hB3.mono (Nat.le_refl _))); clear hso hB3))
  have hzab : Bts (za ++ zb) := HPA.out.bts.append HPB.out.bts
  refine (cut_ps so (la + lb) sc (za ++ zb) w3 HSO.out.1 HSO.out.2.1 HSO.out.2.2.1 (by omega) HSO.out.rd hzab).mono ?_
  rintro e w4 ⟨yo, yc, qs, rfl, hqz, hqs, hql, hqm, hB4⟩
  have hmore := cut_more za.length za zb (Nat.le_refl _)
  have hcnt := cut_count (za ++ zb).length (za ++ zb) (Nat.le_refl _)
  obtain ⟨m, hm⟩ : ∃ m, m = qs.length := ⟨_, rfl⟩
  rw [← hm] at hql ⊢
  have hnl : n = (cutL za).length := by rw [HN.out, ← HPZ.out]; simp
  have hml : m = (cutL (za ++ zb)).length := by rw [hm, ← hqz]; simp
  have hnm : n ≤ m := by rw [hnl, hml]; exact hmore.1
  have hm3 : m ≤ 3000 := by
    have e1 : za.length = la := HPA.out.len
    have e2 : zb.length = lb := HPB.out.len
    rw [← hml] at hcnt
    simp at hcnt
    omega
  have HMORE : Hid (∀ i, (h1 : i + 1 < n) → (h2 : i < ps.length) → (h3 : i < qs.length) → ps[i].z = qs[i].z) := fun i h1 h2 h3 => by
    have := hmore.2 i (by omega)
    rw [← HPZ.out, ← hqz] at this
    simpa [List.getD, h2, h3] using this
  have HQZ := Lib.hid hqz; have HQS := Lib.hid hqs; have HM := Lib.hid hm
  have hB14 : Below w1.heap.size w1 w4 := HB3.out.trans (hB4.mono HB3.out.size)
  have HPS4 := Lib.hid (HPS.out.below hB14)
  have HB4 := Lib.hid (HB1.out.trans (hB14.mono HB1.out.size))
  have dnm : decide ((m : Int) < n) = false := decide_eq_false (by omega)
  have dnm' : decide (m < n) = false := decide_eq_false (by omega)
  clear hmore hcnt hnl hml hqz hqs hm hB4 hB14 hzab HSO HB3 HTW HPB2 HOW HB2 HPB1
  go_wp2
  go_loopw [9] (fun i wr => ∃ k q : Nat, k ≤ n ∧ i = .int .i64 k ∧ wr = w4.drewN q) (fun i _ => n - (intOf i).toNat)
  case atStart => exact ⟨0, 0, Nat.zero_le _, rfl, rfl⟩
  case round =>
    obtain ⟨k, q, hk, rfl, hw⟩ := hrel
    have HW := Lib.hid hw
    by_cases hlt : k + 1 < n
    · have dk : decide ((k : Int) + 1 < n) = true := decide_eq_true (by omega)
      have lp : k < ps.length := by rw [← HN.out]; omega
      have lq : k < qs.length := by rw [← HM.out]; omega
      have hzk := HMORE.out k hlt lp lq
      rcases HPS4.out with h | ⟨b1, o1, rfl, c1⟩
      · rw [h] at lp; simp at lp
      rcases HQS.out with h | ⟨b2, o2, rfl, c2⟩
      · rw [h] at lq; simp at lq
      obtain ⟨g1, k1⟩ := c1 k lp
      obtain ⟨g2, k2⟩ := c2 k lq
      generalize ps[k] = p at g1 k1 hzk
      generalize qs[k] = p' at g2 k2 hzk
      obtain ⟨pa, pl, pc, pz⟩ := p
      obtain ⟨qa, ql, qc, qz⟩ := p'
      simp only at g1 g2 hzk
      subst hzk
      have g1' : wr.cell? ⟨b1, o1 + k, none⟩ = some (.slice pa pl pc) := by rw [hw]; exact g1
      have g2' : wr.cell? ⟨b2, o2 + k, none⟩ = some (.slice qa ql qc) := by rw [hw]; exact g2
      have HBC : Hid (∀ V : World, (∀ a, V.cell? a = w4.cell? a) → Calls Try.prog 20 #[.slice pa pl pc, .slice qa ql qc] V fun e w' => e = .returned (.bool true) ∧ ∃ q, w' = V.drewN q) := fun V hV => by
        have := bytes_cmp pa qa pl ql pc qc pz pz V k1.len k2.len k1.small (k1.rd.congr hV) (k2.rd.congr hV)
        rwa [decide_eq_true rfl] at this
      have hcw : Hid (∀ a, wr.cell? a = w4.cell? a) := fun a => by rw [hw]; rfl
      have j1 : (0 : Int) ≤ k := by omega
      have j2 : (k : Int) < n := by omega
      have j3 : (k : Int) < m := by omega
      clear c1 c2 g1 g2 k1 k2 hw lp lq
      go_wp2
      go_quiet ((go_at_call 20; exact Calls.quiet_of (HBC.out _ (fun a => hcw.out a))))
      go_wp2
      go_roundw
      case rel => exact ⟨k + 1, q + nq, by omega, by go_num, by rw [HW.out, World.drewN_drewN]⟩
      case measure => simp [intOf]; omega
    · have dk : decide ((k : Int) + 1 < n) = false := decide_eq_false (by omega)
      have hB5 : Below w4.heap.size w4 wr := by rw [hw]; exact below_drewN (Below.refl _ _) q
      obtain ⟨wo, rfl⟩ : ∃ wo : World, wo = wr := ⟨_, rfl⟩
      have HB5 := Lib.hid (HB4.out.trans (hB5.mono HB4.out.size))
      have HQ5 := Lib.hid (HQS.out.below hB5)
      clear hw hB5 HPS4 HQS
      by_cases hm2 : m < 2
      · have dm : decide ((m : Int) < 2) = true := decide_eq_true (by omega)
        go_wp2_with (go_at_call 21; refine (wakes4 _).mono ?_; rintro e w5 ⟨rfl, hB⟩; have HB := Lib.hid hB; clear hB)
        go_ret
        exact ⟨rfl, HB5.out.trans (HB.out.mono HB5.out.size)⟩
      · have dm : decide ((m : Int) < 2) = false := decide_eq_false (by omega)
        go_wp2_with (go_at_call 21; fail)
        have hfl : (flat (qs.drop 1)).length ≤ la + lb := by
          have e : flat (qs.drop 1) = ((cutL (za ++ zb)).drop 1).flatten := by rw [flat_eq, List.map_drop, HQZ.out]
          have e1 : za.length = la := HPA.out.len
          have e2 : zb.length = lb := HPB.out.len
          have := cutL_flat _ (za ++ zb) (Nat.le_refl _)
          have h3 := congrArg List.length this
          rw [e]
          have h4 : ((cutL (za ++ zb)).drop 1).flatten.length ≤ (cutL (za ++ zb)).flatten.length := by
            cases cutL (za ++ zb) with
            | nil => simp
            | cons c l => simp
          rw [List.length_append] at h3
          omega
        have HFL := Lib.hid hfl
        have hsub : ∀ j, (flat ((qs.take j).drop 1)).length ≤ (flat (qs.drop 1)).length := fun j => by
          rw [List.drop_take]
          have : flat (qs.drop 1) = flat ((qs.drop 1).take (j - 1)) ++ flat ((qs.drop 1).drop (j - 1)) := by
            simp only [flat, ← List.flatMap_append, List.take_append_drop]
          rw [this]; simp
        have HSUB := Lib.hid hsub
        clear hfl hsub
        rcases HQ5.out with h | ⟨b2, o2, rfl, c2⟩
        · have := HM.out; rw [h] at this; simp at this; omega
        have HC2 := Lib.hid c2
        clear c2
        go_loopw [10, 11] (fun v j wr => ∃ (j' rc r : Nat) (ro : Option Addr), 1 ≤ j' ∧ j' ≤ m ∧ j = .int .i64 j' ∧ v = .slice ro r rc ∧ Ow wr wo.heap.size ro r rc (flat ((qs.take j').drop 1)) ∧ Below wo.heap.size wo wr) (fun _ j _ => m - (intOf j).toNat)
        case atStart => exact ⟨1, 0, 0, none, Nat.le_refl _, by omega, rfl, rfl, by
          have e : flat ((qs.take 1).drop 1) = [] := by rw [List.drop_take]; simp [flat]
          rw [e]; exact ⟨rfl, Nat.le_refl _, Nat.zero_le _, World.ownsRow_nil _ _ _ _⟩, Below.refl _ _⟩
        case round =>
          obtain ⟨j, rc, r, ro, hj1, hjm, rfl, rfl, how, hB⟩ := hrel
          have HOW := Lib.hid how; have HB := Lib.hid hB
          by_cases hlt : j < m
          · have lq : j < qs.length := by rw [← HM.out]; exact hlt
            obtain ⟨g2, k2⟩ := HC2.out j lq
            have hT : flat ((qs.take (j + 1)).drop 1) = flat ((qs.take j).drop 1) ++ qs[j].z := by
              rw [List.take_succ_eq_append_getElem lq, List.drop_append_of_le_length (by simp; omega)]
              simp [flat]
            have hs := HSUB.out (j + 1)
            have hr := HOW.out.1
            generalize qs[j] = q' at g2 k2 hT
            obtain ⟨qa, ql, qc, qz⟩ := q'
            simp only at g2 hT
            have g2' : wr.cell? ⟨b2, o2 + j, none⟩ = some (.slice qa ql qc) := by rw [hB.cell (cell_lt g2)]; exact g2
            have HK2 := Lib.hid (k2.below hB)
            have hlen : r + ql ≤ 3000 := by
              have e1 := k2.len
              simp only at e1
              rw [hT, List.length_append, hr, e1] at hs
              have := HFL.out
              omega
            have HT := Lib.hid hT
            have j1 : (0 : Int) ≤ j := by omega
            have j3 : (j : Int) < m := by omega
            clear how hB lq g2 k2 hT hs hr
            go_wp2_with (at_builtin; refine append_bytes rfl (.tmp 75) (.tmp 79) rfl wo.heap.size r rc ql qc ro qa _ qz rfl HOW.out rfl HK2.out.rd HK2.out.len HK2.out.nil (by omega) HB.out.size ?_; intro ro' rc' w6 hso hB6; have HSO := Lib.hid hso; have HB6 := Lib.hid (HB.out.trans hB6); clear hso hB6)
            go_roundw
            case rel => exact ⟨j + 1, rc', r + ql, ro', by omega, by omega, by go_num, rfl, by rw [HT.out]; exact HSO.out, HB6.out⟩
            case measure => simp [intOf]; omega
          · obtain rfl : j = m := by omega
            obtain ⟨wx, rfl⟩ : ∃ wx : World, wx = wr := ⟨_, rfl⟩
            have hzb : Bts (flat (qs.drop 1)) := flat_bts _ (fun p hp => by
              obtain ⟨i, hi, rfl⟩ := List.mem_iff_getElem.1 (List.mem_of_mem_drop hp)
              exact (HC2.out i hi).2.bts)
            have hrest : cutL (flat (qs.drop 1)) = (qs.drop 1).map (·.z) := by
              rw [flat_eq, List.map_drop, HQZ.out]; exact cut_rest _
            rw [List.take_of_length_le (by rw [← HM.out]; exact Nat.le_refl _)] at how
            have hr : r ≤ 3000 := by have := how.1; have := HFL.out; omega
            have HC3 := Lib.hid (cut_ps ro r rc _ wx how.1 how.2.1 how.2.2.1 (by omega) how.rd hzb)
            have HREST := Lib.hid hrest
            clear how hB hzb hrest
            go_wp2_with (go_at_call 14; fail)
            refine HC3.out.mono ?_
            rintro e w7 ⟨to', tc, rs, rfl, hrz, hrs, hrl, hrm, hB7⟩
            have hlen : rs.length = j - 1 := by
              have h1 : rs.length = (rs.map (·.z)).length := by simp
              have h2 := HM.out
              rw [h1, hrz, HREST.out]; simp; omega
            rw [hlen] at hrl ⊢
            have hB57 : Below wo.heap.size wo w7 := HB.out.trans (hB7.mono HB.out.size)
            have HB7 := Lib.hid (HB5.out.trans (hB57.mono HB5.out.size))
            have hq7 : Ps w7 (some ⟨b2, o2 + 1, none⟩) (qs.drop 1) := .inr ⟨b2, o2 + 1, rfl, fun i hi => by
              have hi' : 1 + i < qs.length := by simp at hi; omega
              obtain ⟨k1, k2⟩ := HC2.out (1 + i) hi'
              rw [List.getElem_drop, Nat.add_assoc]
              exact ⟨by rw [hB57.cell (cell_lt k1)]; exact k1, k2.below hB57⟩⟩
            have HR := Lib.hid (fun ca cb => rows_eq to' (some ⟨b2, o2 + 1, none⟩) (j - 1) ca cb rs (qs.drop 1) w7 hlen (by have := HM.out; simp; omega) (by unfold maxLen; omega) hrs hq7 (by rw [hrz, HREST.out]))
            have y1 : (1 : Int) ≤ j := by omega
            have y2 : (j : Int) ≤ yc := by omega
            have y3 : 1 ≤ j := by omega
            have y4 : j ≤ yc := hql
            have y5 : ¬ yc = 1 := by omega
            have y6 : yc ≤ 2 ^ 63 - 1 := by have := hqm; unfold maxLen at this; exact this
            clear hlen hB57 hq7 hrz hrs hB7
            go_wp2_with (first
              | (go_at_call 15; refine (HR.out _ _).mono ?_; rintro e w8 ⟨rfl, hq8⟩; have HB8 : Hid (Below w.heap.size w w8) := (by obtain ⟨q8, rfl⟩ := hq8; exact below_drewN HB7.out q8); clear hq8)
              | (go_at_call 21; refine (wakes4 _).mono ?_; rintro e w9 ⟨rfl, hB⟩; have HB9 := Lib.hid (HB8.out.trans (hB.mono HB8.out.size)); clear hB))
            go_ret
            exact ⟨rfl, HB9.out⟩

theorem stays_out (a b : Option Addr) (la lb ca cb : Nat) (w : World) (h : 1500 < la ∨ 1500 < lb) :
    Calls Try.prog 5 #[.slice a la ca, .slice b lb cb] w fun e w' => e = .returned (.bool true) ∧ Below w.heap.size w w' := by
  by_cases h1 : 1500 < la
  · have d1 : decide ((1500 : Int) < (la : Int)) = true := decide_eq_true (by omega)
    go_enter Try.func5, Try.ntmps5
    go_wp2_with fail
    go_ret
    exact ⟨rfl, Below.refl _ _⟩
  · have d1 : decide ((1500 : Int) < (la : Int)) = false := decide_eq_false (by omega)
    have d2 : decide ((1500 : Int) < (lb : Int)) = true := decide_eq_true (by omega)
    go_enter Try.func5, Try.ntmps5
    go_wp2_with fail
    go_ret
    exact ⟨rfl, Below.refl _ _⟩

end Go.Proofs.Ytcldfnnnjmhkjaa
