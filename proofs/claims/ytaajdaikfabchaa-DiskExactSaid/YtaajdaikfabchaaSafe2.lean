/-
  DiskSafe: the walk.
-/
import Derived.Test.YtaajdaikfabchaaSafe
import Derived.Deep.RegionHeld3
import Derived.Deep.Cut
namespace Go.Proofs.Ytaajdaikfabchaa
open Go.RowKit
set_option linter.unusedVariables false

theorem urem_at (a M : Int) (h : 0 < M) (hM : M ≤ 1000000000) : ∃ k : Nat, (k : Int) < M ∧ (IntKind.u64.wrap a).tmod M = k := by
  have h0 : 0 ≤ IntKind.u64.wrap a := by rw [IntKind.wrap_u64]; omega
  refine ⟨((IntKind.u64.wrap a) % M).toNat, ?_, ?_⟩
  · have := Int.emod_lt_of_pos (IntKind.u64.wrap a) h; have := Int.emod_nonneg (IntKind.u64.wrap a) (by omega : M ≠ 0); omega
  · rw [Int.tmod_eq_emod_of_nonneg h0]
    have h1 := Int.emod_lt_of_pos (IntKind.u64.wrap a) h; have h2 := Int.emod_nonneg (IntKind.u64.wrap a) (by omega : M ≠ 0)
    omega

/-- Write, of what is one's own: where it is let in. -/
theorem write_safe {w0 w : World} {B Bp g gp n : Nat} {D : DS} {P : PP} (i : Nat) (ko : Option Addr) (c : Nat) (z : List Int) (h : Sys w0 w B Bp g gp n D P) (hx6 : D.xs.length ≤ 900000) (hz : Own1 w ⟨ko, 256, c, z⟩) :
    Calls Try.prog 30 #[.pointer (some ⟨g, 0, none⟩), .int .i64 i, .slice ko 256 c] w fun e w' => ∃ er D' P', e = .returned (.int .i64 er) ∧ Sys w0 w' B Bp g gp n D' P' ∧ ((D' = D.wake P ∧ P' = P) ∨ (∃ d, D' = (D.wake P).put i d ∧ P' = P.spend)) := by
  refine (write_any (i : Int) ko 256 c z h (by omega) (by have := xs_wake D P; omega) hz).mono ?_
  rintro e w' ⟨rfl, ⟨_, hs⟩ | ⟨_, d, _, _, hs⟩⟩
  · exact ⟨_, _, _, rfl, hs, .inl ⟨rfl, rfl⟩⟩
  · rw [Int.toNat_natCast] at hs
    exact ⟨_, _, _, rfl, hs, .inr ⟨d, rfl, rfl⟩⟩

/-- What is kept of a script: the disk is good. -/
structure SI (w0 w : World) (Bp g : Nat) (Z : Nat → List Int) (m q : Nat) (D : DS) (P : PP) : Prop where
  sys : Sys w w w0.heap.size Bp g w0.heap.size 20 D P
  good : Good Z m D
  xs : D.xs.length ≤ q
  l0 : 0 ≤ P.life
  l1 : P.life ≤ q
  low : Below w0.heap.size w0 w
  bp : Bp ≤ w.heap.size
section
variable {w0 w w' : World} {Bp g : Nat} {Z : Nat → List Int} {m q q' : Nat} {D D' : DS} {P P' : PP}
theorem SI.turn (h : SI w0 w Bp g Z m q D P) (hs : Sys w w' w0.heap.size Bp g w0.heap.size 20 D' P') (hg : Good Z m D') (hx : D'.xs.length ≤ q') (hl : 0 ≤ P'.life) (hl1 : P'.life ≤ q') : SI w0 w' Bp g Z m q' D' P' :=
  ⟨hs.refl, hg, hx, hl, hl1, h.low.trans hs.low, Nat.le_trans h.bp hs.kt.size⟩
theorem SI.below (h : SI w0 w Bp g Z m q D P) (hB : Below w.heap.size w w') : SI w0 w' Bp g Z m q D P := h.turn (h.sys.below hB) h.good h.xs h.l0 h.l1
theorem SI.more (h : SI w0 w Bp g Z m q D P) : SI w0 w Bp g Z m (q + 1) D P := ⟨h.sys, h.good, Nat.le_succ_of_le h.xs, h.l0, by have := h.l1; omega, h.low, h.bp⟩
theorem SI.power (h : SI w0 w Bp g Z m q D P) (hp : PwM w' Bp w0.heap.size P') (hB : Below w0.heap.size w w') (ho : POn w0.heap.size w w') (hl : P.life ≤ P'.life ∧ P'.life ≤ P.life + 1) : SI w0 w' Bp g Z m (q + 1) D P' :=
  h.turn (h.sys.spend hp hB ho) h.good (Nat.le_succ_of_le h.xs) (by have := h.l0; omega) (by have := h.l1; omega)
theorem SI.read (h : SI w0 w Bp g Z m q D P) (hq : q ≤ 1000) (i : Int) : Calls Try.prog 14 #[.pointer (some ⟨g, 0, none⟩), .int .i64 i] w fun e w' => RdR w ((D.wake P).get P.off 20 i) e w' ∧ SI w0 w' Bp g Z m q (D.wake P) P := by
  refine (read_any i h.sys (by have := h.xs; omega)).mono fun e w' ⟨h1, h2⟩ => ⟨h1, h.turn h2 (h.good.wake P) (Nat.le_trans (xs_wake D P) h.xs) h.l0 h.l1⟩
theorem SI.sync (h : SI w0 w Bp g Z m q D P) (hq : q ≤ 1000) : Calls Try.prog 18 #[.pointer (some ⟨g, 0, none⟩)] w fun e w' => e = .returned (.int .i64 (syncE P)) ∧ SI w0 w' Bp g Z m q (D.syn P) P.syn := by
  refine (sync_any h.sys (by have := h.xs; omega) (by have := h.xs; have := xs_wake D P; omega)).mono fun e w' ⟨h1, h2⟩ => ⟨h1, h.turn h2 (h.good.syn P) (Nat.le_trans (xs_syn D P) h.xs) (by rw [syn_life]; exact h.l0) (by rw [syn_life]; exact h.l1)⟩
theorem SI.write (h : SI w0 w Bp g Z m q D P) (hq : q ≤ 1000) {i : Nat} (hi : 10 ≤ i) (ko : Option Addr) (c : Nat) (z : List Int) (hz : Own1 w ⟨ko, 256, c, z⟩) : Calls Try.prog 30 #[.pointer (some ⟨g, 0, none⟩), .int .i64 i, .slice ko 256 c] w fun e w' => ∃ er D' P', e = .returned (.int .i64 er) ∧ SI w0 w' Bp g Z m (q + 1) D' P' ∧ KT KD none w w' := by
  refine (write_safe i ko c z h.sys (by have := h.xs; omega) hz).mono ?_
  rintro e w' ⟨er, D', P', rfl, hs, ⟨rfl, rfl⟩ | ⟨d, rfl, rfl⟩⟩
  · exact ⟨er, _, _, rfl, h.turn hs (h.good.wake _) (by have := xs_wake D P'; have := h.xs; omega) h.l0 (by have := h.l1; omega), hs.kt⟩
  · exact ⟨er, _, _, rfl, h.turn hs ((h.good.wake P).put hi d) (by have := xs_wake D P; have := h.xs; show (_ ++ [_]).length ≤ _; simp; omega) (by rw [spend_life]; exact h.l0) (by rw [spend_life]; have := h.l1; omega), hs.kt⟩
end

set_option maxRecDepth 100000 in
set_option maxHeartbeats 16000000 in
theorem safe_walk (bo : Option Addr) (n1 c1 : Nat) (ps : List Part) (ao : Option Addr) (n2 c2 : Nat) (l : List Done) (w : World)
    (hp : ps.length = n1) (hps : Ps w bo ps) (hl : l.length = n2) (hm : n2 ≤ maxLen) (hds : Ds w ao l) :
    Calls Try.prog 4 #[.slice bo n1 c1, .slice ao n2 c2] w fun e w' => e = .returned (.bool true) ∧ Below w.heap.size w w' := by
  have hhv := heavy_any ao n2 c2 l w hl hm hds
  have HHV := Lib.hid hhv
  have HN := Lib.hid (pnew w)
  have HPL := Lib.hid hp; have HPS := Lib.hid hps; have HL := Lib.hid hl; have HDS := Lib.hid hds
  clear hhv hp hps hl hds
  go_enter Try.func4, Try.ntmps4
  go_wp2_with (go_at_call 7; fail)
  refine HHV.out.mono ?_
  rintro e w' ⟨rfl | ⟨rfl, h240, hall⟩, rfl⟩
  · go_wp2
    go_ret
    exact ⟨rfl, Below.refl _ _⟩
  have HALL := Lib.hid hall
  clear hall HHV
  by_cases h0 : n1 < 1
  · have d1 : decide ((n1 : Int) < 1) = true := decide_eq_true (by omega)
    have d1' : decide (n1 < 1) = true := decide_eq_true h0
    go_wp2
    go_ret
    exact ⟨rfl, Below.refl _ _⟩
  have d0 : decide ((n1 : Int) < 1) = false := decide_eq_false (by omega)
  have d0' : decide (n1 < 1) = false := decide_eq_false h0
  by_cases h1 : 10 < n1
  · have d1 : decide ((10 : Int) < (n1 : Int)) = true := decide_eq_true (by omega)
    have d1' : decide (10 < n1) = true := decide_eq_true h1
    go_wp2
    go_ret
    exact ⟨rfl, Below.refl _ _⟩
  have d1 : decide ((10 : Int) < (n1 : Int)) = false := decide_eq_false (by omega)
  have d1' : decide (10 < n1) = false := decide_eq_false h1
  go_wp2_with (go_at_call 8; fail)
  refine HN.out.mono ?_
  rintro e w1 ⟨rfl, hp1, hB1⟩
  have hd := dnew_any w1 w.heap.size w1.heap.size w.heap.size 20 PP.new hp1 (Nat.le_refl _) (by omega) (by omega)
  rw [show ((20 : Nat) : Int) = 20 from rfl] at hd
  have HD := Lib.hid hd; have HB1 := Lib.hid hB1
  clear hd hp1 hB1 HN
  go_wp2_with (go_at_call 10; fail)
  refine HD.out.mono ?_
  rintro e w2 ⟨g, rfl, hg, hs2, hB2⟩
  have HS2 := Lib.hid hs2.refl; have HB2 := Lib.hid (HB1.out.trans (hB2.mono HB1.out.size)); have HSZ := Lib.hid hB2.size
  obtain ⟨Z, hZ⟩ : ∃ Z : Nat → List Int, Z = fun j => secB (ps.getD j Part.none).z := ⟨_, rfl⟩
  have HZ := Lib.hid hZ
  clear hs2 hB2 HD HB1 hg hZ
  go_wp2
  go_loopw [8] (fun i wr => ∃ (q : Nat) (D : DS), q ≤ n1 ∧ i = .int .i64 q ∧ Sys wr wr w.heap.size w1.heap.size g w.heap.size 20 D PP.new ∧ D.life = 0 ∧ D.xs.length ≤ q ∧ Pre Z q D ∧ Below w.heap.size w wr ∧ w1.heap.size ≤ wr.heap.size) (fun i _ => n1 - (intOf i).toNat)
  case atStart => exact ⟨0, _, Nat.zero_le _, rfl, HS2.out, rfl, Nat.le_refl _, ⟨fun j hj => absurd hj (Nat.not_lt_zero _), fun j hj => absurd hj (Nat.not_lt_zero _)⟩, HB2.out, HSZ.out⟩
  case round =>
    obtain ⟨q, D, hq, rfl, hsy, hlf, hxq, hpre, hB, hsz⟩ := hrel
    clear HS2 HB2
    by_cases hq1 : q < n1
    · have e2 : decide ((q : Int) < (n1 : Int)) = true := decide_eq_true (by omega)
      have e2' : decide (q < n1) = true := decide_eq_true hq1
      obtain ⟨rb, ro, rfl, hrc, hok⟩ := (HPS.out.below hB).at (r := q) (by rw [HPL.out]; exact hq1)
      obtain ⟨p, hpp⟩ : ∃ p, p = ps[q]'(by rw [HPL.out]; exact hq1) := ⟨_, rfl⟩
      have hZq : Z q = secB p.z := by
        rw [HZ.out]; simp only
        rw [List.getD, List.getElem?_eq_getElem (by rw [HPL.out]; exact hq1), Option.getD_some, ← hpp]
      rw [← hpp] at hrc hok
      have i1 : (0 : Int) ≤ (q : Int) := by omega
      have i2 : (q : Int) < (n1 : Int) := by omega
      have HOK := Lib.hid hok; have HSY := Lib.hid hsy; have HLF := Lib.hid hlf; have HXQ := Lib.hid hxq; have HPRE := Lib.hid hpre; have HB := Lib.hid hB; have HSW := Lib.hid hsz; have HZQ := Lib.hid hZq
      clear hok hpp hsy hlf hxq hpre hB hsz HSZ hZq
      by_cases h3 : 300 < p.l
      · have e3 : decide ((300 : Int) < (p.l : Int)) = true := decide_eq_true (by omega)
        have e3' : decide (300 < p.l) = true := decide_eq_true h3
        go_wp2
        go_ret
        exact ⟨rfl, HB.out⟩
      have e3 : decide ((300 : Int) < (p.l : Int)) = false := decide_eq_false (by omega)
      have e3' : decide (300 < p.l) = false := decide_eq_false h3
      have hsec := sector_any 0 0 0 p.a p.l p.c (.slice none 0 0) 0 p.z wr HOK.out
      have HSEC := Lib.hid hsec
      clear hsec
      go_wp2_with (go_at_call 28; fail)
      refine HSEC.out.mono ?_
      rintro e wa ⟨kb, cb, rfl, hob, hBa⟩
      have hsa := (HSY.out.below hBa).refl
      have hobn : Own1 wa ⟨kb, 256, cb, secB p.z⟩ := Own1.of_ow hob (secB_bts HOK.out.bts)
      have hwk : D.wake PP.new = D := DS.wake_same HLF.out.symm
      have hwr := write_any (q : Int) kb 256 cb (secB p.z) hsa (by have := HXQ.out; omega) (by rw [hwk]; have := HXQ.out; omega) hobn
      have hE : putE PP.new 20 q 256 = 0 := by unfold putE; rw [if_neg (by decide), if_pos ⟨by omega, by omega⟩]; rfl
      have hPB : putsB PP.new 20 q 256 = true := by unfold putsB; rw [decide_eq_true (⟨by omega, by omega⟩ : (0 : Int) ≤ (q : Int) ∧ (q : Int) < ((20 : Nat) : Int))]; rfl
      rw [hE, hwk] at hwr
      have hW2 : Calls Try.prog 30 #[.pointer (some ⟨g, 0, none⟩), .int .i64 q, .slice kb 256 cb] wa fun e w' => e = .returned (.int .i64 0) ∧ ∃ d, d.z = secB p.z ∧ Sys wa w' w.heap.size w1.heap.size g w.heap.size 20 (D.put q d) PP.new := by
        refine hwr.mono ?_
        rintro e w' ⟨h1, h2⟩
        refine ⟨h1, ?_⟩
        rcases h2 with ⟨h, _⟩ | ⟨_, d, h3, h4, h5⟩
        · rw [hPB] at h; cases h
        · exact ⟨d, h3, h5⟩
      have HW2 := Lib.hid hW2; have HBA := Lib.hid (HB.out.trans (hBa.mono HB.out.size)); have HSZA := Lib.hid (Nat.le_trans HSW.out hBa.size)
      clear hob hsa hobn hwk hwr hE hPB hW2 hBa HSEC hrc
      go_wp2_with (go_at_call 30; fail)
      refine HW2.out.mono ?_
      rintro e wb ⟨rfl, d, hdz, hsb⟩
      have hpre2 : Pre Z (q + 1) (D.put q d) := HPRE.out.put (by rw [HSY.out.lens.1]; omega) (by rw [hdz, full_full (secB_len _), HZQ.out])
      have HSB := Lib.hid hsb; have HP2 := Lib.hid hpre2
      clear hsb hpre2 hdz HW2
      go_wp2
      go_roundw
      case rel => exact ⟨q + 1, D.put q d, by omega, by go_num, HSB.out.refl, HLF.out, by show (D.xs ++ _).length ≤ _; have := HXQ.out; simp; omega, HP2.out, HBA.out.trans HSB.out.low, Nat.le_trans HSZA.out HSB.out.kt.size⟩
      case measure => simp [intOf]; omega
    · have e2 : decide ((q : Int) < (n1 : Int)) = false := decide_eq_false (by omega)
      have e2' : decide (q < n1) = false := decide_eq_false hq1
      obtain rfl : q = n1 := by omega
      have hwk : D.wake PP.new = D := DS.wake_same hlf.symm
      have hsyn := sync_any hsy (by omega) (by rw [hwk]; omega)
      have hdd : D.syn PP.new = D.sync := by show (D.wake PP.new).sync = _; rw [hwk]
      rw [hdd, show syncE PP.new = 0 from rfl, show PP.new.syn = PP.new from rfl] at hsyn
      have hgood : Good Z q D.sync := hpre.sync (by omega) (by rw [hsy.lens.2]; omega)
      have HSYN := Lib.hid hsyn; have HG := Lib.hid hgood; have HB := Lib.hid hB; have HSW := Lib.hid hsz
      clear hsy hlf hxq hpre hB hsz HSZ hwk hsyn hdd hgood
      go_wp2_with (go_at_call 18; fail)
      refine HSYN.out.mono ?_
      rintro e wd ⟨rfl, hsd⟩
      have hsi : SI w wd w1.heap.size g Z q 0 D.sync PP.new := ⟨hsd.refl, HG.out, Nat.le_refl _, by decide, by decide, HB.out.trans hsd.low, Nat.le_trans HSW.out hsd.kt.size⟩
      have HSI := Lib.hid hsi
      clear hsd hsi HSYN HG HB HSW
      go_wp2
      go_loopw [9] (fun i wr => ∃ (k : Nat) (D : DS) (P : PP), k ≤ n2 ∧ k ≤ 60 ∧ i = .int .i64 k ∧ SI w wr w1.heap.size g Z q k D P) (fun i _ => n2 - (intOf i).toNat)
      case atStart => exact ⟨0, _, _, Nat.zero_le _, by omega, rfl, HSI.out⟩
      case round =>
        obtain ⟨k, D, P, hk, hk6, rfl, hsi⟩ := hrel
        have HSI2 := Lib.hid hsi
        clear hsi HSI
        by_cases hgo : k < n2 ∧ k < 60
        · obtain ⟨hkn, hk60⟩ := hgo
          have f1 : decide ((k : Int) < (n2 : Int)) = true := decide_eq_true (by omega)
          have f1' : decide (k < n2) = true := decide_eq_true hkn
          have f2 : decide ((k : Int) < 60) = true := decide_eq_true (by omega)
          have i3 : (0 : Int) ≤ (k : Int) := by omega
          have i4 : (k : Int) < (n2 : Int) := by omega
          have hkl : k < l.length := by rw [HL.out]; exact hkn
          obtain ⟨ab, ao', rfl, ⟨c0, c1, c2, c3, c4, c5, c6⟩, hok⟩ := (HDS.out.below HSI2.out.low).at hkl
          have hok0 : l[k].ok w := by
            rcases HDS.out with h | ⟨_, _, _, h⟩
            · rw [h] at hkl; simp at hkl
            · exact (h k hkl).2
          have h300 := HALL.out k hkl hk60
          obtain ⟨r, hr⟩ : ∃ r, r = l[k] := ⟨_, rfl⟩
          rw [← hr] at c0 c1 c2 c3 c4 c5 c6 hok hok0 h300
          obtain ⟨W1, hW1⟩ : ∃ W1, W1 = wr.alloc (.cells #[.int .i64 r.o, .int .i64 r.i, .int .i64 r.n, .slice r.b.a r.b.l r.b.c, .bool r.raw, .slice r.ko r.kl r.kc, .int .i64 r.t] 39) := ⟨_, rfl⟩
          have hB1 : Below wr.heap.size wr W1 := by rw [hW1]; exact (Below.refl _ _).alloc (Nat.le_refl _) _
          have hx1 : W1.heap[wr.heap.size]? = some (.cells #[.int .i64 r.o, .int .i64 r.i, .int .i64 r.n, .slice r.b.a r.b.l r.b.c, .bool r.raw, .slice r.ko r.kl r.kc, .int .i64 r.t] 39) := by rw [hW1]; exact heap_alloc_new _ _
          obtain ⟨ga, hga⟩ : ∃ ga, ga = wr.heap.size := ⟨_, rfl⟩
          rw [← hga] at hx1
          have hsi1 := HSI2.out.below hB1
          obtain ⟨kk, hkk9, hkk⟩ := urem_at r.o 9 (by omega) (by omega)
          have HW1 := Lib.hid hW1; have HX1 := Lib.hid hx1; have HGA := Lib.hid hga; have HSI3 := Lib.hid hsi1; have HOK := Lib.hid (hok.below hB1); have HOK0 := Lib.hid hok0; have H300 := Lib.hid h300; have HKK := Lib.hid hkk
          have hcase : kk = 3 ∨ kk = 8 ∨ kk = 4 ∨ kk = 5 ∨ kk = 6 ∨ kk = 7 ∨ kk ≤ 2 := by omega
          clear hW1 hB1 hx1 hga hsi1 hok hok0 h300 hkk hr hkl hkk9 HSI2
          go_upto_region 20 with (fail)
          rw [← HW1.out, ← HGA.out]
          clear c0 c1 c2 c3 c4 c5 c6
          have y0 : W1.cell? ⟨ga, 0, none⟩ = some (.int .i64 r.o) := by simp only [World.cell?, HX1.out]; rfl
          have y1 : W1.cell? ⟨ga, 1, none⟩ = some (.int .i64 r.i) := by simp only [World.cell?, HX1.out]; rfl
          have y2 : W1.cell? ⟨ga, 2, none⟩ = some (.int .i64 r.n) := by simp only [World.cell?, HX1.out]; rfl
          have y3 : W1.cell? ⟨ga, 3, none⟩ = some (.slice r.b.a r.b.l r.b.c) := by simp only [World.cell?, HX1.out]; rfl
          have y5 : W1.cell? ⟨ga, 5, none⟩ = some (.slice r.ko r.kl r.kc) := by simp only [World.cell?, HX1.out]; rfl
          have y6 : W1.cell? ⟨ga, 6, none⟩ = some (.int .i64 r.t) := by simp only [World.cell?, HX1.out]; rfl
          have hkk := HKK.out
          rcases hcase with h | h | h | h | h | h | h
          · subst h
            have hrd := HSI3.out.read (by omega) r.i
            have HRD := Lib.hid hrd
            clear hrd
            go_wp2_with (go_at_call 14; fail)
            refine HRD.out.mono ?_
            rintro e w5 ⟨⟨kx, lx, cx, rfl, _⟩, hs5⟩
            have HS5 := Lib.hid hs5
            clear hs5
            go_wp2
            go_roundw
            case rel => exact ⟨k + 1, _, _, by omega, by omega, by go_num, HS5.out.more⟩
            case measure => simp [intOf]; omega
          · subst h
            have hrd := HSI3.out.read (by omega) r.i
            have HRD := Lib.hid hrd
            clear hrd
            go_wp2_with (go_at_call 14; fail)
            refine HRD.out.mono ?_
            rintro e w5 ⟨⟨kx, lx, cx, rfl, _⟩, hs5⟩
            have HS5 := Lib.hid hs5
            clear hs5
            go_wp2
            go_roundw
            case rel => exact ⟨k + 1, _, _, by omega, by omega, by go_num, HS5.out.more⟩
            case measure => simp [intOf]; omega
          · subst h
            have hrd := HSI3.out.sync (by omega)
            have HRD := Lib.hid hrd
            clear hrd
            go_wp2_with (go_at_call 18; fail)
            refine HRD.out.mono ?_
            rintro e w5 ⟨rfl, hs5⟩
            have HS5 := Lib.hid hs5
            clear hs5
            go_wp2
            go_roundw
            case rel => exact ⟨k + 1, _, _, by omega, by omega, by go_num, HS5.out.more⟩
            case measure => simp [intOf]; omega
          · subst h
            have hc := pcut W1 w1.heap.size w.heap.size P r.ko r.kl r.kc r.ks r.t HSI3.out.sys.pw HSI3.out.bp HOK.out.k.1 (by have := H300.out; omega) HOK.out.k.2.2.2.2 HOK.out.k.2.2.2.1
            have HC := Lib.hid hc
            clear hc
            go_wp2_with (go_at_call 20; fail)
            refine HC.out.mono ?_
            rintro e w5 ⟨rfl, hp5, hB5, ho5⟩
            have HS5 := Lib.hid (HSI3.out.power hp5 hB5 ho5 (by rw [cut_life]; omega))
            clear hp5 hB5 ho5
            go_wp2
            go_roundw
            case rel => exact ⟨k + 1, _, _, by omega, by omega, by go_num, HS5.out⟩
            case measure => simp [intOf]; omega
          · subst h
            have hc := pstart W1 w1.heap.size w.heap.size P HSI3.out.sys.pw HSI3.out.l0 (by have := HSI3.out.l1; omega)
            have HC := Lib.hid hc
            clear hc
            go_wp2_with (go_at_call 22; fail)
            refine HC.out.mono ?_
            rintro e w5 ⟨rfl, hp5, hB5, ho5⟩
            have HS5 := Lib.hid (HSI3.out.power hp5 hB5 ho5 (start_life P))
            clear hp5 hB5 ho5
            go_wp2
            go_roundw
            case rel => exact ⟨k + 1, _, _, by omega, by omega, by go_num, HS5.out⟩
            case measure => simp [intOf]; omega
          · subst h
            have hag : r.ks = [] ∨ ∀ b o s, r.ko = some ⟨b, o, s⟩ → b ≠ w.heap.size := by
              rcases HOK0.out.k.2.2.2.2 with h | ⟨b, o, hb, hc⟩
              · exact .inl h
              · by_cases he : r.ks = []
                · exact .inl he
                · refine .inr fun b' o' s' e' => ?_
                  rw [hb] at e'
                  cases e'
                  have := cell_lt (hc 0 (List.length_pos_iff.2 he))
                  simp only at this
                  omega
            have hc := ptrip W1 w1.heap.size w.heap.size P r.n r.ko r.kl r.kc r.ks r.t HSI3.out.sys.pw HOK.out.n HSI3.out.bp HOK.out.k.1 (by have := H300.out; omega) HOK.out.k.2.2.2.2 hag HOK.out.k.2.2.2.1
            have HC := Lib.hid hc
            clear hc hag
            go_wp2_with (go_at_call 24; fail)
            refine HC.out.mono ?_
            rintro e w5 ⟨rfl, hp5, hB5, ho5⟩
            have HS5 := Lib.hid (HSI3.out.power hp5 hB5 ho5 (by rw [trip_life]; omega))
            clear hp5 hB5 ho5
            go_wp2
            go_roundw
            case rel => exact ⟨k + 1, _, _, by omega, by omega, by go_num, HS5.out⟩
            case measure => simp [intOf]; omega
          · have t3 : ((kk : Int) == 3) = false := beq_eq_false_iff_ne.2 (by omega)
            have t8 : ((kk : Int) == 8) = false := beq_eq_false_iff_ne.2 (by omega)
            have t4 : ((kk : Int) == 4) = false := beq_eq_false_iff_ne.2 (by omega)
            have t5 : ((kk : Int) == 5) = false := beq_eq_false_iff_ne.2 (by omega)
            have t6 : ((kk : Int) == 6) = false := beq_eq_false_iff_ne.2 (by omega)
            have t7 : ((kk : Int) == 7) = false := beq_eq_false_iff_ne.2 (by omega)
            obtain ⟨i10, hi10, hi⟩ := uwrap_at r.i 10 (by omega) (by omega)
            obtain ⟨m, hm10⟩ : ∃ m : Nat, m = 10 + i10 := ⟨_, rfl⟩
            have hw10 : wrap64 (10 + (i10 : Int)) = (m : Int) := by
              rw [IntWalk.wrap64_in _ ⟨by omega, by omega⟩]; omega
            have hII : IntKind.i64.wrap (10 + IntKind.i64.wrap ((IntKind.u64.wrap r.i).tmod 10)) = (m : Int) := by
              have e1 : IntKind.i64.wrap ((IntKind.u64.wrap r.i).tmod 10) = (i10 : Int) := (IntWalk.i64_left _).trans hi
              rw [e1]; exact (IntWalk.i64_left _).trans hw10
            have HII := Lib.hid hII
            have hsec : ∀ V, Below W1.heap.size W1 V → Calls Try.prog 28 #[.agg #[.int .i64 0, .int .i64 0, .int .i64 0, .slice r.b.a r.b.l r.b.c, .bool false, .slice none 0 0, .int .i64 0]] V (R1 V 256 (secB r.b.z)) := fun V hV => sector_any 0 0 0 r.b.a r.b.l r.b.c (.slice none 0 0) 0 r.b.z V (HOK.out.b.below hV)
            have hcl : ∀ V : World, V.heap[ga]? = some (.cells #[.int .i64 r.o, .int .i64 r.i, .int .i64 r.n, .slice r.b.a r.b.l r.b.c, .bool r.raw, .slice r.ko r.kl r.kc, .int .i64 r.t] 39) → V.cell? ⟨ga, 1, none⟩ = some (.int .i64 r.i) ∧ V.cell? ⟨ga, 3, none⟩ = some (.slice r.b.a r.b.l r.b.c) := fun V hV => ⟨by simp only [World.cell?, hV]; rfl, by simp only [World.cell?, hV]; rfl⟩
            have hxd : W1.drew.heap[ga]? = some (.cells #[.int .i64 r.o, .int .i64 r.i, .int .i64 r.n, .slice r.b.a r.b.l r.b.c, .bool r.raw, .slice r.ko r.kl r.kc, .int .i64 r.t] 39) := HX1.out
            have HSEC := Lib.hid hsec; have HCL := Lib.hid hcl; have HKB := Lib.hid h; have HM10 := Lib.hid hm10; have HXD := Lib.hid hxd
            have HBTS : Hid (Bts (secB r.b.z)) := secB_bts HOK.out.b.bts
            clear hsec hcl hi10 h hm10 hxd hII hi hw10
            go_wp2
            go_region_held3 (fun V => V.cell? ⟨ga, 1, none⟩ = some (.int .i64 r.i) ∧ V.cell? ⟨ga, 3, none⟩ = some (.slice r.b.a r.b.l r.b.c)) (first | exact HCL.out _ HXD.out | exact HCL.out _ HX5.out | exact HCL.out _ HX6.out) ((first | (go_at_call 28; (with_reducible refine (HSEC.out _ (Below.refl _ _).drew).mono ?_); rintro e w5 ⟨kb, cb, rfl, hob, hBb⟩; have hBB : Below W1.heap.size W1 w5 := (Below.refl _ _).drew.trans hBb; have hwr := (HSI3.out.below hBB).write (by omega) (i := m) (by have := HM10.out; omega) kb cb _ (Own1.of_ow hob HBTS.out); rw [← HII.out] at hwr; have hx5 : w5.heap[ga]? = _ := ((KT.below (fun _ => false) none hBB).keep _ _ _ _ nofun rfl HX1.out); have HWR := Lib.hid hwr; have HX5 := Lib.hid hx5; clear hob hBb hBB hwr hx5) | (go_at_call 30; (with_reducible refine HWR.out.mono ?_); rintro e w6 ⟨er, D', P', rfl, hs6, hk6⟩; have hx6 : w6.heap[ga]? = _ := (hk6.keep _ _ _ _ nofun rfl HX5.out); have HS6 := Lib.hid hs6; have HX6 := Lib.hid hx6; clear hs6 hk6 hx6)))
            go_wp2
            go_roundw
            case rel => exact ⟨k + 1, _, _, by omega, by omega, by go_num, HS6.out⟩
            case measure => simp [intOf]; omega
        · have HSY := Lib.hid HSI2.out
          have hc := pcut wr w1.heap.size w.heap.size P none 0 0 [] (-1) HSI2.out.sys.pw HSI2.out.bp rfl (by omega) (.inl rfl) (fun _ => ⟨rfl, rfl⟩)
          have HC := Lib.hid hc
          clear hc
          obtain ⟨wo, rfl⟩ : ∃ wo : World, wo = wr := ⟨_, rfl⟩
          have hf : (decide ((k : Int) < (n2 : Int)) = false ∧ decide (k < n2) = false) ∨ (decide ((k : Int) < (n2 : Int)) = true ∧ decide (k < n2) = true ∧ decide ((k : Int) < 60) = false) := by
            by_cases h : k < n2
            · exact .inr ⟨decide_eq_true (by omega), decide_eq_true h, decide_eq_false (by omega)⟩
            · exact .inl ⟨decide_eq_false (by omega), decide_eq_false h⟩
          rcases hf with ⟨f1, f2⟩ | ⟨f1, f2, f3⟩
          all_goals
            go_wp2_with (go_at_call 20; fail)
            refine HC.out.mono ?_
            rintro e w5 ⟨rfl, hp5, hB5, ho5⟩
            have hs5 := HSI2.out.power hp5 hB5 ho5 (by rw [cut_life]; omega)
            have hst := pstart w5 w1.heap.size w.heap.size _ hp5 hs5.l0 (by have := hs5.l1; omega)
            have HST := Lib.hid hst; have HS5 := Lib.hid hs5
            clear hp5 hB5 ho5 hs5 hst HC HSY HSI2
            go_wp2_with (go_at_call 22; fail)
            refine HST.out.mono ?_
            rintro e w6 ⟨rfl, hp6, hB6, ho6⟩
            have hs6 := HS5.out.power hp6 hB6 ho6 (start_life _)
            have hoff : (P.cut [] (-1)).start.off = false := start_off_ _
            obtain ⟨P2, hP2⟩ : ∃ P2, P2 = (P.cut [] (-1)).start := ⟨_, rfl⟩
            rw [← hP2] at hs6 hoff
            have HS6 := Lib.hid hs6; have HOFF := Lib.hid hoff
            clear hp6 hB6 ho6 hs6 HST HS5 hP2 hoff
            go_wp2
            go_loopw [11] (fun i wr => ∃ (j : Nat) (D : DS), j ≤ q ∧ i = .int .i64 j ∧ SI w wr w1.heap.size g Z q (k + 1 + 1) D P2) (fun i _ => q - (intOf i).toNat)
            case atStart => exact ⟨0, _, Nat.zero_le _, rfl, HS6.out⟩
            case round =>
              obtain ⟨j, D2, hj, rfl, hsj⟩ := hrel
              have HSJ := Lib.hid hsj
              clear hsj HS6
              by_cases hjq : j < q
              · have e5 : decide ((j : Int) < (q : Int)) = true := decide_eq_true (by omega)
                have e5' : decide (j < q) = true := decide_eq_true hjq
                have hrd := HSJ.out.read (by omega) (j : Int)
                rw [HOFF.out, (HSJ.out.good.wake P2).get hjq (by omega)] at hrd
                obtain ⟨rb, ro, rfl, hrc, hok⟩ := (HPS.out.below HSJ.out.low).at (r := j) (by rw [HPL.out]; exact hjq)
                obtain ⟨p, hpp⟩ : ∃ p, p = ps[j]'(by rw [HPL.out]; exact hjq) := ⟨_, rfl⟩
                have hZq : Z j = secB p.z := by
                  rw [HZ.out]; simp only
                  rw [List.getD, List.getElem?_eq_getElem (by rw [HPL.out]; exact hjq), Option.getD_some, ← hpp]
                rw [← hpp] at hrc hok
                rw [hZq] at hrd
                obtain ⟨zz, hzz⟩ : ∃ zz, zz = secB p.z := ⟨_, rfl⟩
                have hsec := fun V (hV : Below w.heap.size w V) (hok : Part.ok V ⟨p.a, p.l, p.c, p.z⟩) => sector_any 0 0 0 p.a p.l p.c (.slice none 0 0) 0 p.z V hok
                rw [← hzz] at hrd hsec
                have hzl : zz.length = 256 := by rw [hzz]; exact secB_len _
                have hok0 : Part.ok w p := by
                  rcases HPS.out with h | ⟨_, _, _, h⟩
                  · have := HPL.out; rw [h] at this; simp at this; omega
                  · rw [hpp]; exact (h j (by rw [HPL.out]; exact hjq)).2
                have hrc0 : w.cell? ⟨rb, ro + j, none⟩ = some (.slice p.a p.l p.c) := by
                  rcases HPS.out with h | ⟨b', o', hb', h⟩
                  · have := HPL.out; rw [h] at this; simp at this; omega
                  · cases hb'; rw [hpp]; exact (h j (by rw [HPL.out]; exact hjq)).1
                have i1 : (0 : Int) ≤ (j : Int) := by omega
                have i2 : (j : Int) < (q : Int) := by omega
                have HRD := Lib.hid hrd; have HSEC := Lib.hid hsec; have HZL := Lib.hid hzl; have HOK0 := Lib.hid hok0; have HRC0 := Lib.hid hrc0
                clear hrd hok hpp hZq hzz hsec hzl hok0 hrc hrc0
                go_wp2_with (go_at_call 14; fail)
                refine HRD.out.mono ?_
                rintro e w7 ⟨⟨kx, lx, cx, rfl, hox⟩, hs7⟩
                simp only at hox
                have hlx : lx = 256 := by rw [← hox.1, HZL.out]
                subst hlx
                have hrc7 : w7.cell? ⟨rb, ro + j, none⟩ = some (.slice p.a p.l p.c) := (hs7.low.cell (cell_lt HRC0.out)).trans HRC0.out
                have hsec7 := HSEC.out w7 hs7.low (HOK0.out.below hs7.low)
                have HS7 := Lib.hid hs7; have HOX := Lib.hid hox; have HSEC7 := Lib.hid hsec7
                clear hs7 hox hsec7 HRD HSEC
                go_wp2_with (go_at_call 28; fail)
                refine HSEC7.out.mono ?_
                rintro e w8 ⟨kf, cf, rfl, hof, hBf⟩
                have hcmp := bytes_cmp kx kf 256 256 cx cf zz zz w8 HZL.out HZL.out (by unfold maxLen; omega) (HOX.out.rd.below hBf) hof.rd
                rw [decide_eq_true rfl] at hcmp
                have HCMP := Lib.hid hcmp; have HS8 := Lib.hid (HS7.out.below hBf)
                clear hof hBf hcmp HSEC7 HOX HS7 hrc7
                go_wp2_with (go_at_call 16; fail)
                refine HCMP.out.mono ?_
                rintro e w9 ⟨rfl, qn, hqn⟩
                have hs9 := HS8.out.below (show Below w8.heap.size w8 w9 by rw [hqn]; exact below_drewN (Below.refl _ _) qn)
                have HS9 := Lib.hid hs9
                clear hqn hs9 HCMP HS8
                go_wp2
                go_roundw
                case rel => exact ⟨j + 1, _, by omega, by go_num, HS9.out⟩
                case measure => simp [intOf]; omega
              · have e5 : decide ((j : Int) < (q : Int)) = false := decide_eq_false (by omega)
                have e5' : decide (j < q) = false := decide_eq_false hjq
                have HWK := Lib.hid (wakes9 wr)
                go_wp2_with (go_at_call 11; refine HWK.out.mono ?_; rintro e w9 ⟨rfl, hB9⟩; have HB9 := Lib.hid hB9; clear hB9)
                go_ret
                exact ⟨rfl, HSJ.out.low.trans (HB9.out.mono HSJ.out.low.size)⟩

end Go.Proofs.Ytaajdaikfabchaa
