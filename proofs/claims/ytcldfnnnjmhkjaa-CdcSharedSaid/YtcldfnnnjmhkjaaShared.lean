/-
  The walk of CdcShared.
-/
import Derived.Test.YtcldfnnnjmhkjaaGlue
import Derived.Test.YtcldfnnnjmhkjaaSame
namespace Go.Proofs.Ytcldfnnnjmhkjaa
open Go.RowKit
set_option linter.unusedVariables false

theorem tail_of {ps : List Part} {a r : List Int} {i p : Nat} (h : ps.map (·.z) = cutL (a ++ r)) (hi : i ≤ ps.length) (hp : (flat (ps.drop i)).length = p) (hr : p ≤ r.length) : (ps.drop i).map (·.z) = cutL (r.drop (r.length - p)) := by
  have hlen : ps.length = (cutL (a ++ r)).length := by rw [← h]; simp
  obtain ⟨at', h1, h2⟩ := rest_at (a ++ r) i (by omega)
  have e : (ps.drop i).map (·.z) = cutL ((a ++ r).drop at') := by rw [h2, List.map_drop, h]
  have hf : flat (ps.drop i) = (a ++ r).drop at' := by
    rw [flat_eq, e]; exact cutL_flat _ _ (Nat.le_refl _)
  rw [hf] at hp
  rw [e]
  congr 1
  simp at hp h1
  rw [show at' = a.length + (r.length - p) by omega, ← List.drop_drop, List.drop_left]
theorem shared_tail {ps qs : List Part} {a b r : List Int} {i j p : Nat} (h1 : ps.map (·.z) = cutL (a ++ r)) (h2 : qs.map (·.z) = cutL (b ++ r)) (hi : i ≤ ps.length) (hj : j ≤ qs.length) (hp : (flat (ps.drop i)).length = p) (hq : (flat (qs.drop j)).length = p) (hr : p ≤ r.length) :
    (ps.drop i).map (·.z) = (qs.drop j).map (·.z) := by rw [tail_of h1 hi hp hr, tail_of h2 hj hq hr]
theorem flat_back {ps : List Part} {i : Nat} (hi : i < ps.length) : (flat (ps.drop i)).length = ps[i].z.length + (flat (ps.drop (i + 1))).length := by
  rw [List.drop_eq_getElem_cons hi]
  show (ps[i].z ++ flat (ps.drop (i + 1))).length = _
  rw [List.length_append]
theorem flat_tail_le {ps : List Part} (i : Nat) : (flat (ps.drop i)).length ≤ (flat ps).length := by
  have : flat ps = flat (ps.take i) ++ flat (ps.drop i) := by simp only [flat, ← List.flatMap_append, List.take_append_drop]
  rw [this]; simp

set_option maxRecDepth 100000 in
set_option maxHeartbeats 2000000 in
theorem shared_walk (a b c : Option Addr) (la lb lc ca cb cc : Nat) (za zb zc : List Int) (w : World) (h1 : la ≤ 1500) (h2 : lb ≤ 1500) (h3 : lc ≤ 1500) (pa : Part.ok w ⟨a, la, ca, za⟩) (pb : Part.ok w ⟨b, lb, cb, zb⟩) (pc : Part.ok w ⟨c, lc, cc, zc⟩) :
    Calls Try.prog 7 #[.slice a la ca, .slice b lb cb, .slice c lc cc] w fun e w' => e = .returned (.bool true) ∧ Below w.heap.size w w' := by
  have d1 : decide ((1500 : Int) < (la : Int)) = false := decide_eq_false (by omega)
  have d2 : decide ((1500 : Int) < (lb : Int)) = false := decide_eq_false (by omega)
  have d3 : decide ((1500 : Int) < (lc : Int)) = false := decide_eq_false (by omega)
  have HPA := Lib.hid pa; have HPB := Lib.hid pb; have HPC := Lib.hid pc
  have HTW := Lib.hid (twin_any a la ca za w pa.len (by omega) pa.rd pa.nil)
  clear pa pb pc
  go_enter Try.func7, Try.ntmps7
  go_wp2_with (first
    | (go_at_call 13; refine HTW.out.mono ?_; rintro e w1 ⟨ko, kc, rfl, how, hB1⟩; have HOW := Lib.hid how; have HB1 := Lib.hid hB1; have HPC1 := Lib.hid (HPC.out.below hB1); clear how hB1)
    | (at_builtin; refine append_bytes rfl (.tmp 31) (.tmp 32) rfl w.heap.size la kc lc cc ko c za zc rfl HOW.out rfl HPC1.out.rd HPC1.out.len HPC1.out.nil (by omega) HB1.out.size ?_; intro so sc w2 hso hB2; have HSO := Lib.hid hso; have HB2 := Lib.hid (HB1.out.trans hB2); clear hso hB2))
  have hzac : Bts (za ++ zc) := HPA.out.bts.append HPC.out.bts
  refine (cut_ps so (la + lc) sc (za ++ zc) w2 HSO.out.1 HSO.out.2.1 HSO.out.2.2.1 (by omega) HSO.out.rd hzac).mono ?_
  rintro e w3 ⟨xo, xc, ps, rfl, hpz, hps, hpl, hpm, hB3⟩
  have HB3 := Lib.hid (HB2.out.trans (hB3.mono HB2.out.size))
  have HPZ := Lib.hid hpz; have HPS := Lib.hid hps
  obtain ⟨n, hn⟩ : ∃ n, n = ps.length := ⟨_, rfl⟩
  rw [← hn] at hpl ⊢
  have HN := Lib.hid hn
  have HTW2 := Lib.hid (twin_any b lb cb zb w3 HPB.out.len (by omega) (HPB.out.rd.below HB3.out) HPB.out.nil)
  have HPC3 := Lib.hid (HPC.out.below HB3.out)
  clear hzac hpz hps hn hB3 HB2 HSO HPC1 HB1 HOW HTW
  go_wp2_with (first
    | (go_at_call 13; refine HTW2.out.mono ?_; rintro e w4 ⟨ko2, kc2, rfl, how, hB4⟩; have HOW2 := Lib.hid how; have HB4 := Lib.hid hB4; have HPC4 := Lib.hid (HPC3.out.below hB4); clear how hB4)
    | (at_builtin; refine append_bytes rfl (.tmp 39) (.tmp 40) rfl w3.heap.size lb kc2 lc cc ko2 c zb zc rfl HOW2.out rfl HPC4.out.rd HPC4.out.len HPC4.out.nil (by omega) HB4.out.size ?_; intro so2 sc2 w5 hso hB5; have HSO2 := Lib.hid hso; have HB5 := Lib.hid (HB4.out.trans hB5); clear hso hB5))
  have hzbc : Bts (zb ++ zc) := HPB.out.bts.append HPC.out.bts
  refine (cut_ps so2 (lb + lc) sc2 (zb ++ zc) w5 HSO2.out.1 HSO2.out.2.1 HSO2.out.2.2.1 (by omega) HSO2.out.rd hzbc).mono ?_
  rintro e w6 ⟨yo, yc, qs, rfl, hqz, hqs, hql, hqm, hB6⟩
  have hB36 : Below w3.heap.size w3 w6 := HB5.out.trans (hB6.mono HB5.out.size)
  have HB6 := Lib.hid (HB3.out.trans (hB36.mono HB3.out.size))
  have HQZ := Lib.hid hqz; have HQS := Lib.hid hqs
  have HPS6 := Lib.hid (HPS.out.below hB36)
  obtain ⟨m, hm⟩ : ∃ m, m = qs.length := ⟨_, rfl⟩
  rw [← hm] at hql ⊢
  have HM := Lib.hid hm
  have hLc : zc.length = lc := HPC.out.len
  have hn3 : n ≤ 3000 := by
    have h := cut_count _ (za ++ zc) (Nat.le_refl _)
    have e0 : n = (cutL (za ++ zc)).length := by rw [HN.out, ← HPZ.out]; simp
    have e1 : za.length = la := HPA.out.len
    rw [← e0] at h; simp at h; omega
  have hm3 : m ≤ 3000 := by
    have h := cut_count _ (zb ++ zc) (Nat.le_refl _)
    have e0 : m = (cutL (zb ++ zc)).length := by rw [hm, ← hqz]; simp
    have e1 : zb.length = lb := HPB.out.len
    rw [← e0] at h; simp at h; omega
  have hfp : (flat ps).length ≤ 3000 := by
    rw [flat_eq, HPZ.out, cutL_flat _ _ (Nat.le_refl _)]
    have e1 : za.length = la := HPA.out.len
    simp; omega
  have hfq : (flat qs).length ≤ 3000 := by
    rw [flat_eq, hqz, cutL_flat _ _ (Nat.le_refl _)]
    have e1 : zb.length = lb := HPB.out.len
    simp; omega
  have HFP := Lib.hid hfp; have HFQ := Lib.hid hfq; have HLC := Lib.hid hLc
  clear hzbc hqz hqs hm hB6 hB36 HB5 HSO2 HPC4 HB4 HOW2 HTW2 HPC3 HPS hfp hfq hLc
  go_wp2
  go_loopw [11, 12, 13, 14] (fun i j p q wr => ∃ i' j' p' q' t : Nat, i' ≤ n ∧ j' ≤ m ∧ i = .int .i64 i' ∧ j = .int .i64 j' ∧ p = .int .i64 p' ∧ q = .int .i64 q' ∧ (flat (ps.drop i')).length = p' ∧ (flat (qs.drop j')).length = q' ∧ wr = w6.drewN t) (fun i j _ _ _ => (intOf i).toNat + (intOf j).toNat)
  case atStart => exact ⟨n, m, 0, 0, 0, Nat.le_refl _, Nat.le_refl _, rfl, rfl, rfl, rfl, by rw [List.drop_of_length_le (by rw [HN.out]; exact Nat.le_refl _)]; rfl, by rw [List.drop_of_length_le (by rw [HM.out]; exact Nat.le_refl _)]; rfl, rfl⟩
  case round =>
    obtain ⟨i, j, p, q, t, hi, hj, rfl, rfl, rfl, rfl, hp, hq, hw⟩ := hrel
    have HW := Lib.hid hw; have HP := Lib.hid hp; have HQ := Lib.hid hq
    have HBW : Hid (Below w.heap.size w wr) := by rw [hw]; exact below_drewN HB6.out t
    have hp3 : p ≤ 3000 := by rw [← hp]; exact Nat.le_trans (flat_tail_le i) HFP.out
    have hq3 : q ≤ 3000 := by rw [← hq]; exact Nat.le_trans (flat_tail_le j) HFQ.out
    clear hw hp hq
    by_cases hgo : 0 < i ∧ 0 < j
    · obtain ⟨hi0, hj0⟩ := hgo
      obtain ⟨i, rfl⟩ : ∃ i0, i = i0 + 1 := ⟨i - 1, by omega⟩
      obtain ⟨j, rfl⟩ : ∃ j0, j = j0 + 1 := ⟨j - 1, by omega⟩
      have g1' : decide ((0 : Int) < (i : Int) + 1) = true := decide_eq_true (by omega)
      have g2' : decide ((0 : Int) < (j : Int) + 1) = true := decide_eq_true (by omega)
      have lp : i < ps.length := by rw [← HN.out]; omega
      have lq : j < qs.length := by rw [← HM.out]; omega
      have hfi := flat_back lp
      have hfj := flat_back lq
      rcases HPS6.out with h | ⟨b1, o1, rfl, c1⟩
      · rw [h] at lp; simp at lp
      rcases HQS.out with h | ⟨b2, o2, rfl, c2⟩
      · rw [h] at lq; simp at lq
      obtain ⟨e1, k1⟩ := c1 i lp
      obtain ⟨e2, k2⟩ := c2 j lq
      have HC1 := Lib.hid c1; have HC2 := Lib.hid c2
      rw [k1.len] at hfi; rw [k2.len] at hfj
      clear k1 k2 c1 c2
      generalize hP : ps[i] = P at e1 hfi
      generalize hQ : qs[j] = Q at e2 hfj
      obtain ⟨pa, pl, pc, pz⟩ := P
      obtain ⟨qa, ql, qc, qz⟩ := Q
      simp only at e1 e2 hfi hfj
      have f1 : wr.cell? ⟨b1, o1 + i, none⟩ = some (.slice pa pl pc) := by rw [HW.out]; exact e1
      have f2 : wr.cell? ⟨b2, o2 + j, none⟩ = some (.slice qa ql qc) := by rw [HW.out]; exact e2
      have hpl3 : pl ≤ 3000 := by have := flat_tail_le (ps := ps) i; have := HFP.out; omega
      have hql3 : ql ≤ 3000 := by have := flat_tail_le (ps := qs) j; have := HFQ.out; omega
      have HFI := Lib.hid hfi; have HFJ := Lib.hid hfj
      clear hP hQ lp lq e1 e2 hfi hfj hi0 hj0
      by_cases hB1 : p = q ∧ p ≤ lc ∧ 0 < p
      · obtain ⟨rfl, hplc, hp0⟩ := hB1
        have t1 : ((p : Int) == p) = true := by simp
        have t2 : decide ((p : Int) ≤ lc) = true := decide_eq_true (by omega)
        have t3 : decide ((0 : Int) < p) = true := decide_eq_true (by omega)
        have hsame := shared_tail HPZ.out HQZ.out (by rw [← HN.out]; exact hi) (by rw [← HM.out]; exact hj) HP.out HQ.out (by rw [HLC.out]; exact hplc)
        have hnum : n - (i + 1) = m - (j + 1) := by
          have := congrArg List.length hsame
          simp at this
          have := HN.out; have := HM.out
          omega
        have HSAME := Lib.hid hsame
        clear hsame
        have hC6 : ∀ (b o : Nat) (v : Value), w6.cell? ⟨b, o, none⟩ = some v → ∀ T, (w6.drewN T).cell? ⟨b, o, none⟩ = some v := fun b o v h T => h
        have F1 := Lib.hid (show w6.cell? ⟨b1, o1 + i, none⟩ = some (.slice pa pl pc) by rw [← f1, HW.out]; rfl)
        have F2 := Lib.hid (show w6.cell? ⟨b2, o2 + j, none⟩ = some (.slice qa ql qc) by rw [← f2, HW.out]; rfl)
        have HC6 := Lib.hid hC6
        obtain ⟨wo, rfl⟩ : ∃ wo : World, wo = wr := ⟨_, rfl⟩
        clear f1 f2 hC6
        go_wp2
        go_loopw [15] (fun k wr => ∃ k' t' : Nat, i + 1 + k' ≤ n ∧ k = .int .i64 k' ∧ wr = w6.drewN t') (fun k _ => n - (intOf k).toNat)
        case atStart => exact ⟨0, t, by omega, rfl, HW.out⟩
        case round =>
          obtain ⟨k, t', hk, rfl, hw⟩ := hrel
          have HW2 := Lib.hid hw
          by_cases hlt : i + 1 + k < n
          · have r1 : decide ((i : Int) + 1 + k < n) = true := decide_eq_true (by omega)
            have r2 : decide ((j : Int) + 1 + k < m) = true := decide_eq_true (by omega)
            have lp : i + 1 + k < ps.length := by rw [← HN.out]; omega
            have lq : j + 1 + k < qs.length := by rw [← HM.out]; omega
            have hzk : ps[i + 1 + k].z = qs[j + 1 + k].z := by
              have := congrArg (fun l => l[k]?) HSAME.out
              simpa [lp, lq, List.getElem?_drop] using this
            obtain ⟨e1, k1⟩ := HC1.out (i + 1 + k) lp
            obtain ⟨e2, k2⟩ := HC2.out (j + 1 + k) lq
            generalize ps[i + 1 + k] = P at e1 k1 hzk
            generalize qs[j + 1 + k] = Q at e2 k2 hzk
            obtain ⟨ua, ul, uc, uz⟩ := P
            obtain ⟨va, vl, vc, vz⟩ := Q
            simp only at e1 e2 hzk
            subst hzk
            have g1'' : wr.cell? ⟨b1, o1 + (i + 1 + k), none⟩ = some (.slice ua ul uc) := by rw [hw]; exact e1
            have g2'' : wr.cell? ⟨b2, o2 + (j + 1 + k), none⟩ = some (.slice va vl vc) := by rw [hw]; exact e2
            have HBC : Hid (∀ V : World, (∀ a, V.cell? a = w6.cell? a) → Calls Try.prog 20 #[.slice ua ul uc, .slice va vl vc] V fun e w' => e = .returned (.bool true) ∧ ∃ q, w' = V.drewN q) := fun V hV => by
              have := bytes_cmp ua va ul vl uc vc uz uz V k1.len k2.len k1.small (k1.rd.congr hV) (k2.rd.congr hV)
              rwa [decide_eq_true rfl] at this
            have hcw : Hid (∀ a, wr.cell? a = w6.cell? a) := fun a => by rw [hw]; rfl
            have y1 : (0 : Int) ≤ (i : Int) + 1 + k := by omega
            have y2 : (i : Int) + 1 + k < n := by omega
            have y3 : (0 : Int) ≤ (j : Int) + 1 + k := by omega
            have y4 : (j : Int) + 1 + k < m := by omega
            have y5 : IntKind.i64.wrap ((i : Int) + 1 + k) = (i : Int) + 1 + k := IntWalk.i64_in _ (by omega)
            have y6 : IntKind.i64.wrap ((j : Int) + 1 + k) = (j : Int) + 1 + k := IntWalk.i64_in _ (by omega)
            have y7 : ((i : Int) + 1 + k).toNat = i + 1 + k := by omega
            have y8 : ((j : Int) + 1 + k).toNat = j + 1 + k := by omega
            clear e1 e2 k1 k2 hw lp lq
            go_wp2
            go_quiet ((go_at_call 20; exact Calls.quiet_of (HBC.out _ (fun a => hcw.out a))))
            clear y5 y6 y7 y8
            go_wp2
            go_roundw
            case rel => exact ⟨k + 1, t' + nq, by omega, by go_num, by rw [HW2.out, World.drewN_drewN]⟩
            case measure => simp [intOf]; omega
          · have r1 : decide ((i : Int) + 1 + k < n) = false := decide_eq_false (by omega)
            have r3 : ((n : Int) - ((i : Int) + 1) != (m : Int) - ((j : Int) + 1)) = false := by simp; omega
            have f1 : wr.cell? ⟨b1, o1 + i, none⟩ = some (.slice pa pl pc) := by rw [hw]; exact HC6.out _ _ _ F1.out t'
            have HBW2 : Hid (Below w.heap.size w wr) := by rw [hw]; exact below_drewN HB6.out t'
            clear hw
            go_wp2_with (go_at_call 21; refine (wakes4 _).mono ?_; rintro e w9 ⟨rfl, hB⟩; have HB9 := Lib.hid (HBW2.out.trans (hB.mono HBW2.out.size)); clear hB)
            all_goals first
              | (go_ret; exact ⟨rfl, HB9.out⟩)
              | (go_roundw
                 case rel => exact ⟨i, j + 1, p + pl, p, t', by omega, by omega, by go_num, by go_num, by go_num, by go_num, by rw [HFI.out, HP.out]; omega, HQ.out, HW2.out⟩
                 case measure => first | (simp [intOf]; done) | (simp [intOf]; omega))
      · go_wp2_with (go_at_call 21; refine (wakes4 _).mono ?_; rintro e w9 ⟨rfl, hB⟩; have HB9 := Lib.hid (HBW.out.trans (hB.mono HBW.out.size)); clear hB)
        all_goals first
          | (go_ret; exact ⟨rfl, HB9.out⟩)
          | (go_roundw
             case rel => first
               | exact ⟨i, j + 1, p + pl, q, t, by omega, by omega, by go_num, by go_num, by go_num, by go_num, by rw [HFI.out, HP.out]; omega, HQ.out, HW.out⟩
               | exact ⟨i + 1, j, p, q + ql, t, by omega, by omega, by go_num, by go_num, by go_num, by go_num, HP.out, by rw [HFJ.out, HQ.out]; omega, HW.out⟩
             case measure => first | (simp [intOf]; done) | (simp [intOf]; omega))
    · by_cases hi0 : 0 < i
      · have g1 : decide (0 < i) = true := decide_eq_true hi0
        have g2 : decide (0 < j) = false := decide_eq_false (by omega)
        have g1' : decide ((0 : Int) < i) = true := decide_eq_true (by omega)
        have g2' : decide ((0 : Int) < j) = false := decide_eq_false (by omega)
        clear hgo
        go_wp2_with (go_at_call 21; refine (wakes4 _).mono ?_; rintro e w9 ⟨rfl, hB⟩; have HB9 := Lib.hid (HBW.out.trans (hB.mono HBW.out.size)); clear hB)
        go_ret
        exact ⟨rfl, HB9.out⟩
      · have g1 : decide (0 < i) = false := decide_eq_false (by omega)
        have g1' : decide ((0 : Int) < i) = false := decide_eq_false (by omega)
        clear hgo
        go_wp2_with (go_at_call 21; refine (wakes4 _).mono ?_; rintro e w9 ⟨rfl, hB⟩; have HB9 := Lib.hid (HBW.out.trans (hB.mono HBW.out.size)); clear hB)
        go_ret
        exact ⟨rfl, HB9.out⟩

theorem shared_out (a b c : Option Addr) (la lb lc ca cb cc : Nat) (w : World) (h : 1500 < la ∨ 1500 < lb ∨ 1500 < lc) :
    Calls Try.prog 7 #[.slice a la ca, .slice b lb cb, .slice c lc cc] w fun e w' => e = .returned (.bool true) ∧ Below w.heap.size w w' := by
  by_cases h1 : 1500 < la
  · have d1 : decide ((1500 : Int) < (la : Int)) = true := decide_eq_true (by omega)
    go_enter Try.func7, Try.ntmps7
    go_wp2_with fail
    go_ret
    exact ⟨rfl, Below.refl _ _⟩
  · have d1 : decide ((1500 : Int) < (la : Int)) = false := decide_eq_false (by omega)
    by_cases h2 : 1500 < lb
    · have d2 : decide ((1500 : Int) < (lb : Int)) = true := decide_eq_true (by omega)
      go_enter Try.func7, Try.ntmps7
      go_wp2_with fail
      go_ret
      exact ⟨rfl, Below.refl _ _⟩
    · have d2 : decide ((1500 : Int) < (lb : Int)) = false := decide_eq_false (by omega)
      have d3 : decide ((1500 : Int) < (lc : Int)) = true := decide_eq_true (by omega)
      go_enter Try.func7, Try.ntmps7
      go_wp2_with fail
      go_ret
      exact ⟨rfl, Below.refl _ _⟩

end Go.Proofs.Ytcldfnnnjmhkjaa
