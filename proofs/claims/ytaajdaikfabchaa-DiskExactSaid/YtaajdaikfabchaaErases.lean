/-
  DiskErases: the walk.
-/
import Derived.Test.YtaajdaikfabchaaReads
namespace Go.Proofs.Ytaajdaikfabchaa
open Go.RowKit
set_option linter.unusedVariables false

theorem wake_new (l : Int) (n : Nat) (P : PP) : (DS.new l n).wake P = DS.new (if P.off then l else P.life) n := by
  unfold DS.wake
  cases P.off with
  | true => rfl
  | false =>
    simp only [Bool.false_eq_true, if_false]
    by_cases h : P.life = (DS.new l n).life
    · rw [if_pos h]; unfold DS.new at h ⊢; simp only at h; rw [h]
    · rw [if_neg h]; rfl
theorem get_new (l : Int) (n j : Nat) (hj : j < n) : (DS.new l n).get false n (j : Int) = (0, full []) := by
  have h : (DS.new l n).ns.getD j Sec.none = Sec.none := by
    show (List.replicate n Sec.none).getD j Sec.none = _
    rw [List.getD, List.getElem?_replicate]; split <;> rfl
  unfold DS.get
  rw [if_neg (by decide), if_pos ⟨by omega, by omega⟩, Int.toNat_natCast, h]; rfl

set_option maxRecDepth 100000 in
set_option maxHeartbeats 8000000 in
theorem erases_walk (bo : Option Addr) (n1 c1 : Nat) (ps : List Part) (sy : Bool) (ko : Option Addr) (n2 c2 : Nat) (bs : List Bool) (tn : Int) (w : World)
    (hp : ps.length = n1) (hps : Ps w bo ps) (hb : bs.length = n2) (hnn : ko = none → n2 = 0 ∧ c2 = 0) (hbl : Bl w ko bs) :
    Calls Try.prog 5 #[.slice bo n1 c1, .bool sy, .slice ko n2 c2, .int .i64 tn] w fun e w' => e = .returned (.bool true) ∧ Below w.heap.size w w' := by
  by_cases h1 : 10 < n1
  · have d1 : decide ((10 : Int) < (n1 : Int)) = true := decide_eq_true (by omega)
    have d1' : decide (10 < n1) = true := decide_eq_true h1
    clear hps hbl hnn
    go_enter Try.func5, Try.ntmps5
    go_wp2
    go_ret
    exact ⟨rfl, Below.refl _ _⟩
  have d1 : decide ((10 : Int) < (n1 : Int)) = false := decide_eq_false (by omega)
  have d1' : decide (10 < n1) = false := decide_eq_false h1
  by_cases h2 : 100 < n2
  · have d2 : decide ((100 : Int) < (n2 : Int)) = true := decide_eq_true (by omega)
    have d2' : decide (100 < n2) = true := decide_eq_true h2
    clear hps hbl hnn
    go_enter Try.func5, Try.ntmps5
    go_wp2
    go_ret
    exact ⟨rfl, Below.refl _ _⟩
  have d2 : decide ((100 : Int) < (n2 : Int)) = false := decide_eq_false (by omega)
  have d2' : decide (100 < n2) = false := decide_eq_false h2
  have HN := Lib.hid (pnew w)
  have HF := Lib.hid (fun V => fill_any 0 V (by omega) (by omega))
  obtain ⟨R, hR⟩ : ∃ R, R = List.replicate 256 (0 : Int) := ⟨_, rfl⟩
  rw [← hR] at HF
  have hRl : R.length = 256 := by rw [hR, List.length_replicate]
  have HRL := Lib.hid hRl
  have HRF : Hid (R = full []) := hR.trans full_nil.symm
  have HPL := Lib.hid hp; have HPS := Lib.hid hps; have HBLN := Lib.hid hb; have HBL := Lib.hid hbl; have HNN := Lib.hid hnn
  clear hR hRl hp hps hb hbl hnn
  go_enter Try.func5, Try.ntmps5
  go_wp2_with (go_at_call 8; fail)
  refine HN.out.mono ?_
  rintro e w1 ⟨rfl, hp1, hB1⟩
  have hd := dnew_any w1 w.heap.size w1.heap.size w.heap.size 10 PP.new hp1 (Nat.le_refl _) (by omega) (by omega)
  rw [show ((10 : Nat) : Int) = 10 from rfl] at hd
  have HD := Lib.hid hd; have HB1 := Lib.hid hB1
  clear hd hp1 hB1 HN
  go_wp2_with (go_at_call 10; fail)
  refine HD.out.mono ?_
  rintro e w2 ⟨g, rfl, hg, hs2, hB2⟩
  have HS2 := Lib.hid hs2.refl; have HB2 := Lib.hid (HB1.out.trans (hB2.mono HB1.out.size)); have HSZ := Lib.hid hB2.size
  clear hs2 hB2 HD HB1 hg
  go_wp2
  go_loopw [12] (fun i wr => ∃ (q : Nat) (D : DS), q ≤ n1 ∧ i = .int .i64 q ∧ Sys wr wr w.heap.size w1.heap.size g w.heap.size 10 D PP.new ∧ D.life = 0 ∧ D.xs.length ≤ q ∧ Below w.heap.size w wr ∧ w1.heap.size ≤ wr.heap.size) (fun i _ => n1 - (intOf i).toNat)
  case atStart => exact ⟨0, _, Nat.zero_le _, rfl, HS2.out, rfl, Nat.le_refl _, HB2.out, HSZ.out⟩
  case round =>
    obtain ⟨q, D, hq, rfl, hsy, hlf, hxq, hB, hsz⟩ := hrel
    clear HS2 HB2
    by_cases hq1 : q < n1
    · have e2 : decide ((q : Int) < (n1 : Int)) = true := decide_eq_true (by omega)
      have e2' : decide (q < n1) = true := decide_eq_true hq1
      obtain ⟨rb, ro, rfl, hrc, hok⟩ := (HPS.out.below hB).at (r := q) (by rw [HPL.out]; exact hq1)
      obtain ⟨p, hpp⟩ : ∃ p, p = ps[q]'(by rw [HPL.out]; exact hq1) := ⟨_, rfl⟩
      rw [← hpp] at hrc hok
      have i1 : (0 : Int) ≤ (q : Int) := by omega
      have i2 : (q : Int) < (n1 : Int) := by omega
      have HOK := Lib.hid hok; have HSY := Lib.hid hsy; have HLF := Lib.hid hlf; have HXQ := Lib.hid hxq; have HB := Lib.hid hB; have HSW := Lib.hid hsz
      clear hok hpp hsy hlf hxq hB hsz HSZ
      by_cases h3 : 300 < p.l
      · have e3 : decide ((300 : Int) < (p.l : Int)) = true := decide_eq_true (by omega)
        have e3' : decide (300 < p.l) = true := decide_eq_true h3
        go_wp2
        go_ret
        exact ⟨rfl, HB.out⟩
      have e3 : decide ((300 : Int) < (p.l : Int)) = false := decide_eq_false (by omega)
      have e3' : decide (300 < p.l) = false := decide_eq_false h3
      have hsec := sector_any 0 0 0 p.a p.l p.c (.slice none 0 0) 0 p.z wr HOK.out
      have HSEC := Lib.hid hsec
      clear hsec
      go_wp2_with (go_at_call 28; fail)
      refine HSEC.out.mono ?_
      rintro e wa ⟨kb, cb, rfl, hob, hBa⟩
      have hsa := (HSY.out.below hBa).refl
      have hobn : Own1 wa ⟨kb, 256, cb, secB p.z⟩ := Own1.of_ow hob (secB_bts HOK.out.bts)
      have hwk : D.wake PP.new = D := DS.wake_same HLF.out.symm
      have hwr := write_any (q : Int) kb 256 cb (secB p.z) hsa (by have := HXQ.out; omega) (by rw [hwk]; have := HXQ.out; omega) hobn
      have hE : putE PP.new 10 q 256 = 0 := by unfold putE; rw [if_neg (by decide), if_pos ⟨by omega, by omega⟩]; rfl
      have hPB : putsB PP.new 10 q 256 = true := by unfold putsB; rw [decide_eq_true (⟨by omega, by omega⟩ : (0 : Int) ≤ (q : Int) ∧ (q : Int) < ((10 : Nat) : Int))]; rfl
      rw [hE, hwk] at hwr
      have hW2 : Calls Try.prog 30 #[.pointer (some ⟨g, 0, none⟩), .int .i64 q, .slice kb 256 cb] wa fun e w' => e = .returned (.int .i64 0) ∧ ∃ d, Sys wa w' w.heap.size w1.heap.size g w.heap.size 10 (D.put q d) PP.new := by
        refine hwr.mono ?_
        rintro e w' ⟨h1, h2⟩
        refine ⟨h1, ?_⟩
        rcases h2 with ⟨h, _⟩ | ⟨_, d, h3, h4, h5⟩
        · rw [hPB] at h; cases h
        · exact ⟨d, h5⟩
      have HW2 := Lib.hid hW2; have HBA := Lib.hid (HB.out.trans (hBa.mono HB.out.size)); have HSZA := Lib.hid (Nat.le_trans HSW.out hBa.size)
      clear hob hsa hobn hwk hwr hE hPB hW2 hBa HSEC hrc
      go_wp2_with (go_at_call 30; fail)
      refine HW2.out.mono ?_
      rintro e wb ⟨rfl, d, hsb⟩
      have HSB := Lib.hid hsb
      clear hsb HW2
      go_wp2
      go_roundw
      case rel => exact ⟨q + 1, D.put q d, by omega, by go_num, HSB.out.refl, HLF.out, by show (D.xs ++ _).length ≤ _; have := HXQ.out; simp; omega, HBA.out.trans HSB.out.low, Nat.le_trans HSZA.out HSB.out.kt.size⟩
      case measure => simp [intOf]; omega
    · have e2 : decide ((q : Int) < (n1 : Int)) = false := decide_eq_false (by omega)
      have e2' : decide (q < n1) = false := decide_eq_false hq1
      obtain rfl : q = n1 := by omega
      have HSY := Lib.hid hsy; have HLF := Lib.hid hlf; have HXQ := Lib.hid hxq; have HB := Lib.hid hB; have HSW := Lib.hid hsz
      clear hsy hlf hxq hB hsz HSZ
      have hwk : D.wake PP.new = D := DS.wake_same HLF.out.symm
      have hsyn := sync_any HSY.out (by have := HXQ.out; omega) (by rw [hwk]; have := HXQ.out; omega)
      have hdd : D.syn PP.new = D.sync := by show (D.wake PP.new).sync = _; rw [hwk]
      rw [hdd, show syncE PP.new = 0 from rfl, show PP.new.syn = PP.new from rfl] at hsyn
      have HSYN := Lib.hid hsyn
      -- Erase, from a disk that is awake
      have herase : ∀ (D' : DS) (V : World), D'.life = 0 → D'.xs.length ≤ q → Sys V V w.heap.size w1.heap.size g w.heap.size 10 D' PP.new → Calls Try.prog 26 #[.pointer (some ⟨g, 0, none⟩)] V fun e w' => e = .returned (.int .i64 0) ∧ Sys V w' w.heap.size w1.heap.size g w.heap.size 10 (DS.new 0 10) PP.new := fun D' V hl hx hs => by
        have h := erase_any hs (by omega)
        have hd : D'.era PP.new 10 = DS.new 0 10 := by
          show (D'.wake PP.new).erase 10 = _
          rw [DS.wake_same hl.symm]; unfold DS.erase DS.new; rw [hl]
        rw [hd, show (if PP.new.off = true then (5 : Int) else 0) = 0 from rfl] at h
        exact h
      have HER := Lib.hid herase
      clear hwk hsyn hdd herase
      cases sy
      case' false =>
        have her := HER.out D wr HLF.out HXQ.out HSY.out
        have HE1 := Lib.hid her
        clear her
        go_wp2_with (go_at_call 26; fail)
        refine HE1.out.mono ?_
        rintro e we ⟨rfl, hse⟩
        have hbe := HB.out.trans hse.low
        have hsze := Nat.le_trans HSW.out hse.kt.size
        have HSE := Lib.hid hse.refl; have HBE := Lib.hid hbe; have HSZE := Lib.hid hsze
        clear hse hbe hsze HE1
      case' true =>
        go_wp2_with (go_at_call 18; fail)
        refine HSYN.out.mono ?_
        rintro e wd ⟨rfl, hsd⟩
        have her := HER.out D.sync wd HLF.out (Nat.zero_le _) hsd.refl
        have HE1 := Lib.hid her; have HSD := Lib.hid hsd
        clear her hsd
        go_wp2_with (go_at_call 26; fail)
        refine HE1.out.mono ?_
        rintro e we ⟨rfl, hse⟩
        have hbe := HB.out.trans (HSD.out.low.trans hse.low)
        have hsze := Nat.le_trans HSW.out (Nat.le_trans HSD.out.kt.size hse.kt.size)
        have HSE := Lib.hid hse.refl; have HBE := Lib.hid hbe; have HSZE := Lib.hid hsze
        clear hse hbe hsze HE1
      all_goals
        clear HSY HLF HXQ HB HSW HSYN HER
        go_wp2
        go_loopw [13] (fun i wr => ∃ (k : Nat) (l : Int) (P : PP), k ≤ 2 ∧ i = .int .i64 k ∧ Sys wr wr w.heap.size w1.heap.size g w.heap.size 10 (DS.new l 10) P ∧ P.off = false ∧ P.life = k ∧ Below w.heap.size w wr ∧ w1.heap.size ≤ wr.heap.size) (fun i _ => 2 - (intOf i).toNat)
        case atStart => exact ⟨0, 0, PP.new, Nat.zero_le _, rfl, HSE.out, rfl, rfl, HBE.out, HSZE.out⟩
        case round =>
          obtain ⟨k, l, P, hk, rfl, hsy, hof, hli, hB, hsz⟩ := hrel
          have HSY := Lib.hid hsy; have HOF := Lib.hid hof; have HLI := Lib.hid hli; have HB := Lib.hid hB; have HSW := Lib.hid hsz
          clear hsy hof hli hB hsz HSE HBE HSZE
          by_cases hk2 : k < 2
          · have f1 : decide ((k : Int) < 2) = true := decide_eq_true (by omega)
            obtain ⟨wo, rfl⟩ : ∃ wo : World, wo = wr := ⟨_, rfl⟩
            go_wp2
            go_loopw [14] (fun i wr => ∃ (j : Nat) (l : Int), j ≤ 10 ∧ i = .int .i64 j ∧ Sys wr wr w.heap.size w1.heap.size g w.heap.size 10 (DS.new l 10) P ∧ Below w.heap.size w wr ∧ w1.heap.size ≤ wr.heap.size) (fun i _ => 10 - (intOf i).toNat)
            case atStart => exact ⟨0, l, Nat.zero_le _, rfl, HSY.out, HB.out, HSW.out⟩
            case round =>
              obtain ⟨j, l2, hj, rfl, hsy, hB, hsz⟩ := hrel
              have HSY2 := Lib.hid hsy; have HB2 := Lib.hid hB; have HSW2 := Lib.hid hsz
              clear hsy hB hsz HSY HB HSW
              by_cases hj10 : j < 10
              · have f2 : decide ((j : Int) < 10) = true := decide_eq_true (by omega)
                have hrd := read_any (j : Int) HSY2.out (Nat.zero_le _)
                rw [wake_new, HOF.out, get_new _ _ _ hj10, ← HRF.out] at hrd
                have HRD := Lib.hid hrd
                clear hrd
                go_wp2_with (go_at_call 14; fail)
                refine HRD.out.mono ?_
                rintro e wf ⟨⟨kx, lx, cx, rfl, hox⟩, hsf⟩
                simp only at hox
                have hlx : lx = 256 := by rw [← hox.1, HRL.out]
                subst hlx
                have HSF := Lib.hid hsf; have HOX := Lib.hid hox
                have HFX := Lib.hid (HF.out wf)
                clear hsf hox HRD
                go_wp2_with (go_at_call 32; fail)
                refine HFX.out.mono ?_
                rintro e wg ⟨kf, cf, rfl, hof, hBf⟩
                have hcmp := bytes_cmp kx kf 256 256 cx cf R R wg HRL.out HRL.out (by unfold maxLen; omega) (HOX.out.rd.below hBf) hof.rd
                rw [decide_eq_true rfl] at hcmp
                have HCMP := Lib.hid hcmp
                have hsg := (HSF.out.below hBf)
                have HSG := Lib.hid hsg
                clear hof hBf hcmp hsg HFX HOX HSF
                go_wp2_with (go_at_call 16; fail)
                refine HCMP.out.mono ?_
                rintro e wh ⟨rfl, qn, hqn⟩
                have hsh := HSG.out.below (show Below wg.heap.size wg wh by rw [hqn]; exact below_drewN (Below.refl _ _) qn)
                have HSH := Lib.hid hsh
                clear hqn hsh HCMP HSG
                go_wp2
                go_roundw
                case rel => exact ⟨j + 1, _, by omega, by go_num, HSH.out.refl, HB2.out.trans HSH.out.low, Nat.le_trans HSW2.out HSH.out.kt.size⟩
                case measure => simp [intOf]; omega
              · have f2 : decide ((j : Int) < 10) = false := decide_eq_false (by omega)
                obtain rfl : j = 10 := by omega
                rw [show ((10 : Nat) : Int) = 10 from rfl]
                rw [show ((10 : Nat) : Int) = 10 from rfl] at f2
                have hbl2 := HBL.out.below HB2.out
                have hc := pcut wr w1.heap.size w.heap.size P ko n2 c2 bs tn HSY2.out.pw HSW2.out HBLN.out (by omega) hbl2 HNN.out
                have HC := Lib.hid hc
                clear hc hbl2
                go_wp2_with (go_at_call 20; fail)
                refine HC.out.mono ?_
                rintro e wc ⟨rfl, hpc, hBc, hoc⟩
                have hsc := HSY2.out.spend hpc hBc hoc
                have hcut : P.cut bs tn = P.lose bs tn := by unfold PP.cut; rw [HOF.out]; rfl
                rw [hcut] at hsc hpc
                have her := erase_any hsc.refl (Nat.zero_le _)
                have hde : (DS.new l2 10).era (P.lose bs tn) 10 = DS.new l2 10 := by
                  show (DS.new l2 10).wake (P.lose bs tn) = _
                  rw [wake_new]; rfl
                rw [hde, show (if (P.lose bs tn).off = true then (5 : Int) else 0) = 5 from rfl] at her
                have HER := Lib.hid her; have HSC := Lib.hid hsc
                clear hpc hBc hoc hsc hcut her hde HC
                go_wp2_with (go_at_call 26; fail)
                refine HER.out.mono ?_
                rintro e wd ⟨rfl, hsd⟩
                have hst := pstart wd w1.heap.size w.heap.size (P.lose bs tn) hsd.pw (by show 0 ≤ P.life; rw [HLI.out]; omega) (by show P.life ≤ 1000000; rw [HLI.out]; omega)
                have HST := Lib.hid hst; have HSD := Lib.hid hsd
                clear hst hsd HER
                go_wp2_with (go_at_call 22; fail)
                refine HST.out.mono ?_
                rintro e we2 ⟨rfl, hpe, hBe, hoe⟩
                have hse := HSD.out.spend hpe hBe hoe
                have HSE2 := Lib.hid hse
                have HLL : Hid ((P.lose bs tn).start.life = k + 1) := by
                  show P.life + 1 = _
                  rw [HLI.out]
                clear hpe hBe hoe hse HST
                go_wp2
                go_roundw
                case rel => exact ⟨k + 1, _, _, by omega, by go_num, HSE2.out.refl, rfl, HLL.out.trans (by omega), (HB2.out.trans HSC.out.low).trans HSE2.out.low, Nat.le_trans HSW2.out (Nat.le_trans HSC.out.kt.size HSE2.out.kt.size)⟩
                case measure => simp [intOf]; omega
          · have f1 : decide ((k : Int) < 2) = false := decide_eq_false (by omega)
            have HWK := Lib.hid (wakes9 wr)
            go_wp2_with (go_at_call 11; refine HWK.out.mono ?_; rintro e w9 ⟨rfl, hB9⟩; have HB9 := Lib.hid hB9; clear hB9)
            go_ret
            exact ⟨rfl, HB.out.trans (HB9.out.mono HB.out.size)⟩

end Go.Proofs.Ytaajdaikfabchaa
