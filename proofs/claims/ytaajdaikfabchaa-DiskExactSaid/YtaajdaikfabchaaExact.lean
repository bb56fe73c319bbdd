/-
  DiskExact: the walk.
-/
import Derived.Test.YtaajdaikfabchaaRq8
import Derived.Test.YtaajdaikfabchaaSafe2
import Derived.Deep.RegionHeld3
import Derived.Deep.Cut
namespace Go.Proofs.Ytaajdaikfabchaa
open Go.RowKit
set_option linter.unusedVariables false

/-- What holds ahead of act q. -/
structure EQ (w0 w : World) (Bp g g2 gp2 gt n q : Nat) (D : DS) (R : RS) (P : PP) : Prop where
  em : EM w0 w Bp g g2 gp2 gt none n D R P P
  ke : KE n D R
  xs : D.xs.length ≤ q
  l0 : 0 ≤ P.life
  l1 : P.life ≤ q
theorem EQ.to {w0 w w' : World} {Bp g g2 gp2 gt n q q' : Nat} {X : Option Addr} {D D' : DS} {R R' : RS} {P P' : PP} (h : EQ w0 w Bp g g2 gp2 gt n q D R P) (hm : EM w0 w' Bp g g2 gp2 gt X n D' R' P' P') (hk : KE n D' R') (hx : D'.xs.length ≤ q') (h0 : 0 ≤ P'.life) (h1 : P'.life ≤ q') : EQ w0 w' Bp g g2 gp2 gt n q' D' R' P' :=
  ⟨hm.fresh (fun b e => by cases e), hk, hx, h0, h1⟩

set_option maxRecDepth 100000 in
set_option maxHeartbeats 16000000 in
theorem exact_walk (a0 : Int) (ao : Option Addr) (n2 c2 : Nat) (l : List Done) (w : World) (hl : l.length = n2) (hm : n2 ≤ maxLen) (hds : Ds w ao l) :
    Calls Try.prog 3 #[.int .i64 a0, .slice ao n2 c2] w fun e w' => e = .returned (.bool true) ∧ Below w.heap.size w w' := by
  have hhv := heavy_any ao n2 c2 l w hl hm hds
  have HHV := Lib.hid hhv
  have HN := Lib.hid (pnew w)
  have HL := Lib.hid hl; have HDS := Lib.hid hds
  clear hhv hl hds
  go_enter Try.func3, Try.ntmps3
  go_wp2_with (go_at_call 7; fail)
  refine HHV.out.mono ?_
  rintro e w' ⟨rfl | ⟨rfl, h240, hall⟩, rfl⟩
  · go_wp2
    go_ret
    exact ⟨rfl, Below.refl _ _⟩
  have HALL := Lib.hid hall
  clear hall HHV
  go_wp2_with (go_at_call 8; fail)
  refine HN.out.mono ?_
  rintro e w1 ⟨rfl, hp1, hB1⟩
  have hqn := qnew w1 (w1.heap.size + 1) (by omega)
  have HQN := Lib.hid hqn; have HP1 := Lib.hid hp1; have HB1 := Lib.hid hB1
  have HLT := Lib.hid hp1.lt.1
  clear hqn hp1 hB1 HN
  go_wp2_with (go_at_call 9; fail)
  refine HQN.out.mono ?_
  rintro e w2 ⟨rfl, hq2, hB2⟩
  have HP2 := Lib.hid (HP1.out.below hB2); have HQ2 := Lib.hid hq2; have HB2 := Lib.hid (HB1.out.trans (hB2.mono HB1.out.size)); have HS12 := Lib.hid hB2.size
  clear hq2 hB2 HQN HP1
  by_cases hbad : a0 < 1 ∨ 600 < a0
  · have hd := dnew_bad w2 w.heap.size a0 hbad
    have HD := Lib.hid hd; have HWK := Lib.hid (wakes9 w2)
    clear hd
    by_cases hb1 : a0 < 1
    · have d1 : decide (a0 < 1) = true := decide_eq_true hb1
      clear hbad
      go_wp2_with (first
        | (go_at_call 10; refine HD.out.mono ?_; rintro e w3 ⟨rfl, rfl⟩)
        | (go_at_call 11; refine HWK.out.mono ?_; rintro e w9 ⟨rfl, hB9⟩; have HB9 := Lib.hid hB9; clear hB9))
      go_ret
      exact ⟨rfl, HB2.out.trans (HB9.out.mono HB2.out.size)⟩
    · have d1 : decide (a0 < 1) = false := decide_eq_false hb1
      have d2 : decide (600 < a0) = true := decide_eq_true (by omega)
      clear hbad
      go_wp2_with (first
        | (go_at_call 10; refine HD.out.mono ?_; rintro e w3 ⟨rfl, rfl⟩)
        | (go_at_call 11; refine HWK.out.mono ?_; rintro e w9 ⟨rfl, hB9⟩; have HB9 := Lib.hid hB9; clear hB9))
      go_ret
      exact ⟨rfl, HB2.out.trans (HB9.out.mono HB2.out.size)⟩
  have d1 : decide (a0 < 1) = false := decide_eq_false (by omega)
  have d2 : decide (600 < a0) = false := decide_eq_false (by omega)
  obtain ⟨n, rfl⟩ := Int.eq_ofNat_of_zero_le (by omega : 0 ≤ a0)
  have hn1 : 1 ≤ n := by omega
  have hn6 : n ≤ 600 := by omega
  have d2' : decide (600 < n) = false := decide_eq_false (by omega)
  have d1' : decide (n < 1) = false := decide_eq_false (by omega)
  clear hbad
  have hd := dnew_any w2 w.heap.size w1.heap.size w.heap.size n PP.new HP2.out (Nat.le_refl _) hn1 hn6
  have HD := Lib.hid hd
  clear hd
  go_wp2_with (go_at_call 10; fail)
  refine HD.out.mono ?_
  rintro e w3 ⟨g, rfl, hg, hs3, hB3⟩
  have hq3 : PqM w3 (w1.heap.size + 1) w1.heap.size PP.new := HQ2.out.below hB3
  have hsec := sectors_any hs3.refl (by simp)
  have hwk : (DS.mk PP.new.life (secs0 n) (secs0 n) []).wake PP.new = ⟨PP.new.life, secs0 n, secs0 n, []⟩ := DS.wake_same rfl
  rw [hwk] at hsec
  have HSEC := Lib.hid hsec; have HQ3 := Lib.hid hq3; have HB3 := Lib.hid (HB2.out.trans (hB3.mono HB2.out.size))
  have dn : ((n : Int) != (n : Int)) = false := by simp
  clear hs3 hB3 hq3 hsec hwk HD HQ2 HP2 hg
  go_wp2_with (go_at_call 12; fail)
  refine HSEC.out.mono ?_
  rintro e w4 ⟨rfl, hs4⟩
  have hq4 : PqM w4 (w1.heap.size + 1) w1.heap.size PP.new := HQ3.out.kt hs4.kt rfl rfl (fun _ e => by cases e)
  have hrn := rnew w4 w.heap.size (w1.heap.size + 1) w1.heap.size n hq4 HB1.out.size hn1 hn6
  have HRN := Lib.hid hrn; have HS4 := Lib.hid hs4; have HB4 := Lib.hid (HB3.out.trans hs4.low)
  clear hs4 hq4 hrn HSEC HQ3
  go_wp2_with (go_at_call 13; fail)
  refine HRN.out.mono ?_
  rintro e w5 ⟨g2, gt, ss, rfl, hkey, hr5, hB5⟩
  have hs5 := (HS4.out.below hB5).refl
  have hs5' := hs5.raise (C := w5.heap.size) (by have := HLT.out; have := hB5.size; have := HS12.out; have := HB4.out.size; have := HB2.out.size; have := hs5.pw.lt.1; omega)
  obtain ⟨Bp, hBp⟩ : ∃ Bp, Bp = w5.heap.size := ⟨_, rfl⟩
  rw [← hBp] at hs5' hr5
  have heq : EQ w w5 Bp g g2 w1.heap.size gt n 0 ⟨0, secs0 n, secs0 n, []⟩ ⟨0, ss, []⟩ PP.new := ⟨⟨hs5', hr5, HB4.out.trans (hB5.mono HB4.out.size)⟩, KE.clean hkey 0, Nat.le_refl _, Int.le_refl _, Int.le_refl _⟩
  obtain ⟨gp2, hgp2⟩ : ∃ gp2, gp2 = w1.heap.size := ⟨_, rfl⟩
  rw [← hgp2] at heq
  rw [← hgp2]
  have HEQ := Lib.hid heq
  clear hs5 hs5' hr5 hB5 hkey hBp heq hgp2 HRN HS4 HB4 HB3 HB2 HB1 HLT HS12
  go_wp2
  go_loopw [10] (fun i wr => ∃ (k : Nat) (D : DS) (R : RS) (P : PP), k ≤ n2 ∧ k ≤ 60 ∧ i = .int .i64 k ∧ EQ w wr Bp g g2 gp2 gt n k D R P) (fun i _ => n2 - (intOf i).toNat)
  case atStart => exact ⟨0, _, _, _, Nat.zero_le _, by omega, rfl, HEQ.out⟩
  case round =>
    obtain ⟨k, D, R, P, hk, hk6, rfl, heq⟩ := hrel
    have HE := Lib.hid heq
    clear heq HEQ
    by_cases hgo : k < n2 ∧ k < 60
    · obtain ⟨hkn, hk60⟩ := hgo
      have f1 : decide ((k : Int) < (n2 : Int)) = true := decide_eq_true (by omega)
      have f1' : decide (k < n2) = true := decide_eq_true hkn
      have f2 : decide ((k : Int) < 60) = true := decide_eq_true (by omega)
      have i3 : (0 : Int) ≤ (k : Int) := by omega
      have i4 : (k : Int) < (n2 : Int) := by omega
      have hkl : k < l.length := by rw [HL.out]; exact hkn
      obtain ⟨ab, ao', rfl, ⟨c0, c1, c2, c3, c4, c5, c6⟩, hok⟩ := (HDS.out.below HE.out.em.low).at hkl
      have hok0 : l[k].ok w := by
        rcases HDS.out with h | ⟨_, _, _, h⟩
        · rw [h] at hkl; simp at hkl
        · exact (h k hkl).2
      have h300 := HALL.out k hkl hk60
      obtain ⟨r, hr⟩ : ∃ r, r = l[k] := ⟨_, rfl⟩
      rw [← hr] at c0 c1 c2 c3 c4 c5 c6 hok hok0 h300
      obtain ⟨W1, hW1⟩ : ∃ W1, W1 = wr.alloc (.cells #[.int .i64 r.o, .int .i64 r.i, .int .i64 r.n, .slice r.b.a r.b.l r.b.c, .bool r.raw, .slice r.ko r.kl r.kc, .int .i64 r.t] 39) := ⟨_, rfl⟩
      have hB1 : Below wr.heap.size wr W1 := by rw [hW1]; exact (Below.refl _ _).alloc (Nat.le_refl _) _
      have hx1 : W1.heap[wr.heap.size]? = some (.cells #[.int .i64 r.o, .int .i64 r.i, .int .i64 r.n, .slice r.b.a r.b.l r.b.c, .bool r.raw, .slice r.ko r.kl r.kc, .int .i64 r.t] 39) := by rw [hW1]; exact heap_alloc_new _ _
      obtain ⟨ga, hga⟩ : ∃ ga, ga = wr.heap.size := ⟨_, rfl⟩
      rw [← hga] at hx1
      have hem := HE.out.em.below hB1
      obtain ⟨kk, hkk9, hkk⟩ := urem_at r.o 9 (by omega) (by omega)
      have HW1 := Lib.hid hW1; have HX1 := Lib.hid hx1; have HGA := Lib.hid hga; have HM := Lib.hid hem; have HOK := Lib.hid (hok.below hB1); have HOK0 := Lib.hid hok0; have H300 := Lib.hid h300; have HKK := Lib.hid hkk
      have HRX : Hid (R.xs.length ≤ k) := by show _ ≤ _; rw [← HE.out.ke.xl]; exact HE.out.xs
      have hcase : kk = 3 ∨ kk = 4 ∨ kk = 5 ∨ kk = 6 ∨ kk = 7 ∨ kk = 8 ∨ kk ≤ 2 := by omega
      clear hW1 hB1 hx1 hga hem hok hok0 h300 hkk hr hkl hkk9
      go_upto_region 22 with (fail)
      rw [← HW1.out, ← HGA.out]
      clear c0 c1 c2 c3 c4 c5 c6
      have hcl : ∀ V : World, V.heap[ga]? = some (.cells #[.int .i64 r.o, .int .i64 r.i, .int .i64 r.n, .slice r.b.a r.b.l r.b.c, .bool r.raw, .slice r.ko r.kl r.kc, .int .i64 r.t] 39) → V.cell? ⟨ga, 0, none⟩ = some (.int .i64 r.o) ∧ V.cell? ⟨ga, 1, none⟩ = some (.int .i64 r.i) ∧ V.cell? ⟨ga, 2, none⟩ = some (.int .i64 r.n) ∧ V.cell? ⟨ga, 3, none⟩ = some (.slice r.b.a r.b.l r.b.c) ∧ V.cell? ⟨ga, 4, none⟩ = some (.bool r.raw) ∧ V.cell? ⟨ga, 5, none⟩ = some (.slice r.ko r.kl r.kc) ∧ V.cell? ⟨ga, 6, none⟩ = some (.int .i64 r.t) := fun V hV =>
        ⟨by simp only [World.cell?, hV]; rfl, by simp only [World.cell?, hV]; rfl, by simp only [World.cell?, hV]; rfl, by simp only [World.cell?, hV]; rfl, by simp only [World.cell?, hV]; rfl, by simp only [World.cell?, hV]; rfl, by simp only [World.cell?, hV]; rfl⟩
      have HCL := Lib.hid hcl
      clear hcl
      obtain ⟨y0, y1, y2, y3, y4, y5, y6⟩ := HCL.out W1 HX1.out
      have hkk := HKK.out
      rcases hcase with h | h | h | h | h | h | h
      · -- Read
        subst h
        have hrd := read_any r.i HM.out.sys (by have := HE.out.xs; omega)
        have HRD := Lib.hid hrd
        obtain ⟨G, hG⟩ : ∃ G, G = (D.wake P).get P.off n r.i := ⟨_, rfl⟩
        rw [← hG] at HRD
        have HG := Lib.hid hG
        clear hrd hG
        go_wp2_with (go_at_call 14; fail)
        refine HRD.out.mono ?_
        rintro e w6 ⟨⟨kx, lx, cx, rfl, hox⟩, hs6⟩
        have hkx : ∀ b, kx = some ⟨b, 0, none⟩ → W1.heap.size ≤ b := ow_ge hox
        have haw : (D.wake P).away kx := DS.All.wake (HM.out.sys.fresh hkx) (.inl rfl) P
        have hem6 := (HM.out.fresh hkx).stepA hs6
        have hx6 := hs6.kt.keep _ _ _ _ nofun rfl HX1.out
        have hrr := rread r.i hem6.rys (by have := HRX.out; omega) (by have := HRX.out; have := xs_wakeR R P; omega)
        have HOX := Lib.hid hox; have HAW := Lib.hid haw; have HM6 := Lib.hid hem6; have HRR := Lib.hid hrr; have HX6 := Lib.hid hx6
        clear hox hs6 hkx haw hem6 hx6 hrr HRD y0 y1 y2 y3 y4 y5 y6
        obtain ⟨y0, y1, y2, y3, y4, y5, y6⟩ := HCL.out w6 HX6.out
        go_wp2_with (go_at_call 15; fail)
        refine HRR.out.mono ?_
        rintro e w7 ⟨⟨ky, ly, cy, rfl, hoy⟩, hr7⟩
        have hz := hr7.z
        have hget : (R.wake P).get P.off n r.i = G := (((HE.out.ke.wake P).get hz P.off r.i).symm).trans HG.out.symm
        have hlen := get_len hz P.off r.i
        rw [hget] at hoy hlen ⊢
        obtain ⟨⟨cs, hcs⟩, hlt, hbp⟩ := HM6.out.rys.gt
        have hox7 : Ow w7 W1.heap.size kx lx cx G.2 := HOX.out.kt hr7.kt rfl hcs
        have hem7 := HM6.out.stepR hr7
        have hcmp := bytes_cmp kx ky lx ly cx cy G.2 G.2 w7 hox7.1 hoy.1 (by have := hox7.1; unfold maxLen; omega) hox7.rd hoy.rd
        rw [decide_eq_true rfl] at hcmp
        obtain ⟨er, her⟩ : ∃ er, er = G.1 := ⟨_, rfl⟩
        rw [← her]
        have de : (er != er) = false := by simp
        have HCMP := Lib.hid hcmp; have HOX7 := Lib.hid hox7; have HM7 := Lib.hid hem7; have HLEN := Lib.hid hlen
        clear hz hget hlen hoy hr7 hcs hlt hbp hox7 hem7 hcmp her HRR HOX HX6 HM6 y0 y1 y2 y3 y4 y5 y6
        go_wp2_with (go_at_call 16; fail)
        refine HCMP.out.mono ?_
        rintro e w8 ⟨rfl, qn, hqn⟩
        have hB8 : Below w7.heap.size w7 w8 := by rw [hqn]; exact below_drewN (Below.refl _ _) qn
        have hem8 := HM7.out.below hB8
        have hox8 := HOX7.out.below hB8
        have hsp := spoil_ow hox8 (by have := HLEN.out; have := hox8.1; omega)
        have HSP := Lib.hid hsp; have HM8 := Lib.hid hem8; have HOX8 := Lib.hid hox8
        clear hqn hB8 hem8 hox8 hsp HCMP HOX7 HM7 HLEN
        go_wp2_with (go_at_call 17; fail)
        refine HSP.out.mono ?_
        rintro e w9 ⟨rfl, hspo⟩
        have hem9 := HM8.out.spo HOX8.out hspo HAW.out HM.out.low.size
        have heq9 : EQ w w9 Bp g g2 gp2 gt n (k + 1) (D.wake P) (R.wake P) P := HE.out.to hem9 (HE.out.ke.wake P) (by have := xs_wake D P; have := HE.out.xs; omega) HE.out.l0 (by have := HE.out.l1; omega)
        have HEQ9 := Lib.hid heq9
        clear hspo hem9 heq9 HSP HM8 HOX8 HAW
        go_wp2
        go_roundw
        case rel => exact ⟨k + 1, _, _, _, by omega, by omega, by go_num, HEQ9.out⟩
        case measure => simp [intOf]; omega
      · -- Sync
        subst h
        have hA := sync_any HM.out.sys (by have := HE.out.xs; omega) (by have := HE.out.xs; have := xs_wake D P; omega)
        have HA := Lib.hid hA
        obtain ⟨E, hE⟩ : ∃ E, E = syncE P := ⟨_, rfl⟩
        rw [← hE] at HA
        have HEE := Lib.hid hE
        clear hA hE
        go_wp2_with (go_at_call 18; fail)
        refine HA.out.mono ?_
        rintro e w6 ⟨rfl, hs6⟩
        have hem6 := HM.out.stepA hs6
        have hR := rsync hem6.rys (by have := HRX.out; omega) (by have := HRX.out; have := xs_wakeR R P; omega)
        rw [← HEE.out] at hR
        have HR := Lib.hid hR; have HM6 := Lib.hid hem6
        have de : (E != E) = false := by simp
        clear hs6 hem6 hR HA y0 y1 y2 y3 y4 y5 y6
        go_wp2_with (go_at_call 19; fail)
        refine HR.out.mono ?_
        rintro e w7 ⟨rfl, hr7⟩
        have hem7 := HM6.out.stepR hr7
        have heq9 : EQ w w7 Bp g g2 gp2 gt n (k + 1) (D.syn P) (R.syn P) P.syn := HE.out.to hem7 (HE.out.ke.syn P) (by have := xs_syn D P; have := HE.out.xs; omega) (by rw [syn_life]; exact HE.out.l0) (by rw [syn_life]; have := HE.out.l1; omega)
        have HEQ9 := Lib.hid heq9
        clear hr7 hem7 heq9 HR HM6
        go_wp2
        go_roundw
        case rel => exact ⟨k + 1, _, _, _, by omega, by omega, by go_num, HEQ9.out⟩
        case measure => simp [intOf]; omega
      · -- Cut
        subst h
        have hA := pcut W1 Bp w.heap.size P r.ko r.kl r.kc r.ks r.t HM.out.sys.pw HM.out.bp HOK.out.k.1 (by have := H300.out; omega) HOK.out.k.2.2.2.2 HOK.out.k.2.2.2.1
        have HA := Lib.hid hA
        clear hA
        go_wp2_with (go_at_call 20; fail)
        refine HA.out.mono ?_
        rintro e w6 ⟨rfl, hp6, hB6, ho6⟩
        have hem6 := HM.out.powA hp6 hB6 ho6
        have hx6 : w6.heap[ga]? = _ := (HM.out.sys.spend hp6 hB6 ho6).kt.keep _ _ _ _ nofun rfl HX1.out
        have hok6 := HOK0.out.below hem6.low
        have hR := qcut w6 Bp gp2 P r.ko r.kl r.kc r.ks r.t hem6.rys.pw hem6.bp hok6.k.1 (by have := H300.out; omega) hok6.k.2.2.2.2 hok6.k.2.2.2.1
        have HR := Lib.hid hR; have HM6 := Lib.hid hem6; have HX6 := Lib.hid hx6
        clear hp6 hB6 ho6 hem6 hx6 hok6 hR HA y0 y1 y2 y3 y4 y5 y6
        obtain ⟨y0, y1, y2, y3, y4, y5, y6⟩ := HCL.out w6 HX6.out
        go_wp2_with (go_at_call 21; fail)
        refine HR.out.mono ?_
        rintro e w7 ⟨rfl, hp7, hB7, ho7⟩
        have hem7 := HM6.out.powR hp7 hB7 ho7
        have heq9 : EQ w w7 Bp g g2 gp2 gt n (k + 1) D R (P.cut r.ks r.t) := HE.out.to hem7 HE.out.ke (by have := HE.out.xs; omega) (by rw [cut_life]; exact HE.out.l0) (by rw [cut_life]; have := HE.out.l1; omega)
        have HEQ9 := Lib.hid heq9
        clear hp7 hB7 ho7 hem7 heq9 HR HM6 y0 y1 y2 y3 y4 y5 y6
        go_wp2
        go_roundw
        case rel => exact ⟨k + 1, _, _, _, by omega, by omega, by go_num, HEQ9.out⟩
        case measure => simp [intOf]; omega
      · -- Start
        subst h
        have hA := pstart W1 Bp w.heap.size P HM.out.sys.pw HE.out.l0 (by have := HE.out.l1; omega)
        have HA := Lib.hid hA
        clear hA
        go_wp2_with (go_at_call 22; fail)
        refine HA.out.mono ?_
        rintro e w6 ⟨rfl, hp6, hB6, ho6⟩
        have hem6 := HM.out.powA hp6 hB6 ho6
        have hR := qstart w6 Bp gp2 P hem6.rys.pw HE.out.l0 (by have := HE.out.l1; omega)
        have HR := Lib.hid hR; have HM6 := Lib.hid hem6
        clear hp6 hB6 ho6 hem6 hR HA y0 y1 y2 y3 y4 y5 y6
        go_wp2_with (go_at_call 23; fail)
        refine HR.out.mono ?_
        rintro e w7 ⟨rfl, hp7, hB7, ho7⟩
        have hem7 := HM6.out.powR hp7 hB7 ho7
        have heq9 : EQ w w7 Bp g g2 gp2 gt n (k + 1) D R P.start := HE.out.to hem7 HE.out.ke (by have := HE.out.xs; omega) (by have := start_life P; have := HE.out.l0; omega) (by have := start_life P; have := HE.out.l1; omega)
        have HEQ9 := Lib.hid heq9
        clear hp7 hB7 ho7 hem7 heq9 HR HM6
        go_wp2
        go_roundw
        case rel => exact ⟨k + 1, _, _, _, by omega, by omega, by go_num, HEQ9.out⟩
        case measure => simp [intOf]; omega
      · -- Trip
        subst h
        have hag : r.ks = [] ∨ ∀ b o s, r.ko = some ⟨b, o, s⟩ → b ≠ w.heap.size := by
          rcases HOK0.out.k.2.2.2.2 with h | ⟨b, o, hb, hc⟩
          · exact .inl h
          · by_cases he : r.ks = []
            · exact .inl he
            · refine .inr fun b' o' s' e' => ?_
              rw [hb] at e'
              cases e'
              have := cell_lt (hc 0 (List.length_pos_iff.2 he))
              simp only at this
              omega
        have hA := ptrip W1 Bp w.heap.size P r.n r.ko r.kl r.kc r.ks r.t HM.out.sys.pw HOK.out.n HM.out.bp HOK.out.k.1 (by have := H300.out; omega) HOK.out.k.2.2.2.2 hag HOK.out.k.2.2.2.1
        have HA := Lib.hid hA
        clear hA hag
        go_wp2_with (go_at_call 24; fail)
        refine HA.out.mono ?_
        rintro e w6 ⟨rfl, hp6, hB6, ho6⟩
        have hem6 := HM.out.powA hp6 hB6 ho6
        have hx6 : w6.heap[ga]? = _ := (HM.out.sys.spend hp6 hB6 ho6).kt.keep _ _ _ _ nofun rfl HX1.out
        have hok6 := HOK0.out.below hem6.low
        have hR := qtrip w6 Bp gp2 P r.n r.ko r.kl r.kc r.ks r.t hem6.rys.pw hok6.n hem6.bp hok6.k.1 (by have := H300.out; omega) hok6.k.2.2.2.2 hok6.k.2.2.2.1
        have HR := Lib.hid hR; have HM6 := Lib.hid hem6; have HX6 := Lib.hid hx6
        clear hp6 hB6 ho6 hem6 hx6 hok6 hR HA y0 y1 y2 y3 y4 y5 y6
        obtain ⟨y0, y1, y2, y3, y4, y5, y6⟩ := HCL.out w6 HX6.out
        go_wp2_with (go_at_call 25; fail)
        refine HR.out.mono ?_
        rintro e w7 ⟨rfl, hp7, hB7, ho7⟩
        have hem7 := HM6.out.powR hp7 hB7 ho7
        have heq9 : EQ w w7 Bp g g2 gp2 gt n (k + 1) D R (P.trip r.n r.ks r.t) := HE.out.to hem7 HE.out.ke (by have := HE.out.xs; omega) (by rw [trip_life]; exact HE.out.l0) (by rw [trip_life]; have := HE.out.l1; omega)
        have HEQ9 := Lib.hid heq9
        clear hp7 hB7 ho7 hem7 heq9 HR HM6 y0 y1 y2 y3 y4 y5 y6
        go_wp2
        go_roundw
        case rel => exact ⟨k + 1, _, _, _, by omega, by omega, by go_num, HEQ9.out⟩
        case measure => simp [intOf]; omega
      · -- Erase
        subst h
        have hA := erase_any HM.out.sys (by have := HE.out.xs; omega)
        have HA := Lib.hid hA
        obtain ⟨E, hE⟩ : ∃ E : Int, E = if P.off then 5 else 0 := ⟨_, rfl⟩
        rw [← hE] at HA
        have HEE := Lib.hid hE
        clear hA hE
        go_wp2_with (go_at_call 26; fail)
        refine HA.out.mono ?_
        rintro e w6 ⟨rfl, hs6⟩
        have hem6 := HM.out.stepA hs6
        have hR := rerase hem6.rys (by have := HRX.out; omega) (fun b e => by cases e)
        rw [← HEE.out] at hR
        have HR := Lib.hid hR; have HM6 := Lib.hid hem6
        have de : (E != E) = false := by simp
        clear hs6 hem6 hR HA y0 y1 y2 y3 y4 y5 y6
        go_wp2_with (go_at_call 27; fail)
        refine HR.out.mono ?_
        rintro e w7 ⟨rfl, hr7⟩
        have heq9 : ∃ R', EQ w w7 Bp g g2 gp2 gt n (k + 1) (D.era P n) R' P := by
          rcases hr7 with ⟨ho, hr7⟩ | ⟨ho, ss', hk', hr7⟩
          · have e : D.era P n = D.wake P := by unfold DS.era; rw [ho]; rfl
            rw [e]
            exact ⟨_, HE.out.to (by have := HM6.out.stepR hr7; rw [e] at this; exact this) (HE.out.ke.wake P) (by have := xs_wake D P; have := HE.out.xs; omega) HE.out.l0 (by have := HE.out.l1; omega)⟩
          · exact ⟨_, HE.out.to (HM6.out.stepR hr7) (HE.out.ke.era ho hk') (by
              have e : D.era P n = (D.wake P).erase n := by unfold DS.era; rw [ho]; rfl
              rw [e]; exact Nat.zero_le _) HE.out.l0 (by have := HE.out.l1; omega)⟩
        obtain ⟨R', heq9⟩ := heq9
        have HEQ9 := Lib.hid heq9
        clear hr7 heq9 HR HM6
        go_wp2
        go_roundw
        case rel => exact ⟨k + 1, _, _, _, by omega, by omega, by go_num, HEQ9.out⟩
        case measure => simp [intOf]; omega
      · -- Write
        have t3 : ((kk : Int) == 3) = false := beq_eq_false_iff_ne.2 (by omega)
        have t4 : ((kk : Int) == 4) = false := beq_eq_false_iff_ne.2 (by omega)
        have t5 : ((kk : Int) == 5) = false := beq_eq_false_iff_ne.2 (by omega)
        have t6 : ((kk : Int) == 6) = false := beq_eq_false_iff_ne.2 (by omega)
        have t7 : ((kk : Int) == 7) = false := beq_eq_false_iff_ne.2 (by omega)
        have t8 : ((kk : Int) == 8) = false := beq_eq_false_iff_ne.2 (by omega)
        obtain ⟨⟨cs, hcs⟩, hlt, hbp⟩ := HM.out.rys.gt
        have hsec := sec_any w gt r.o r.i r.n r.b.a r.b.l r.b.c r.raw (.slice r.ko r.kl r.kc) r.t r.b.z W1 HOK0.out.b HM.out.low hcs
        obtain ⟨xl, hxl⟩ : ∃ xl, xl = (if r.raw = true then r.b.l else 256) := ⟨_, rfl⟩
        obtain ⟨z, hz⟩ : ∃ z, z = (if r.raw = true then r.b.z else secB r.b.z) := ⟨_, rfl⟩
        rw [← hxl, ← hz] at hsec
        have hxl3 : xl ≤ 300 := by rw [hxl]; have := H300.out; split <;> omega
        have HSEC := Lib.hid hsec; have HKB := Lib.hid h
        clear hsec hcs hlt hbp hxl hz h
        go_wp2_with (go_at_call 28; fail)
        refine HSEC.out.mono ?_
        rintro e w5 ⟨xo, xc, rfl, hB5, hXP⟩
        have hem5 := HM.out.below hB5
        have hp5 := hXP w5 (Below.refl _ _) (KT.refl _ _ _)
        have htw := twin_any xo xl xc z w5 hp5.len (by omega) hp5.rd hp5.nil
        have hx5 : w5.heap[ga]? = _ := (KT.below (fun _ => false) none hB5).keep _ _ _ _ nofun rfl HX1.out
        have HTW := Lib.hid htw; have HXP := Lib.hid hXP; have HM5 := Lib.hid hem5; have HBT := Lib.hid hp5.bts; have HX5 := Lib.hid hx5
        clear hB5 hXP hem5 hp5 htw hx5 HSEC y0 y1 y2 y3 y4 y5 y6
        go_wp2_with (go_at_call 29; fail)
        refine HTW.out.mono ?_
        rintro e w6 ⟨ko, kc, rfl, hoi, hB6⟩
        have hkx : ∀ b, ko = some ⟨b, 0, none⟩ → w5.heap.size ≤ b := ow_ge hoi
        have hklt : ∀ b, ko = some ⟨b, 0, none⟩ → b < w6.heap.size := fun b e => hoi.lt e
        have haw := HM5.out.sys.fresh hkx
        have hem6 := (HM5.out.fresh hkx).below hB6
        have hx6 : w6.heap[ga]? = _ := (KT.below (fun _ => false) none hB6).keep _ _ _ _ nofun rfl HX5.out
        have hwA : ∀ V, Below w6.heap.size w6 V → Calls Try.prog 30 #[.pointer (some ⟨g, 0, none⟩), .int .i64 r.i, .slice ko xl kc] V fun e w' => ∃ D' P', e = .returned (.int .i64 (putE P n r.i xl)) ∧ Sys V w' w.heap.size Bp g w.heap.size n D' P' ∧
            ((putsB P n r.i xl = false ∧ D' = D.wake P ∧ P' = P) ∨ (putsB P n r.i xl = true ∧ P' = P.spend ∧ ∃ d, d.z = z ∧ (∀ b, d.a = some ⟨b, 0, none⟩ → V.heap.size ≤ b) ∧ D' = (D.wake P).put r.i.toNat d)) := fun V hV =>
          write_one r.i ko xl kc z (hem6.sys.below hV).refl (by have := HE.out.xs; omega) ((Own1.of_ow hoi HBT.out).below hV)
        obtain ⟨E, hE⟩ : ∃ E, E = putE P n r.i xl := ⟨_, rfl⟩
        rw [← hE] at hwA
        have HEE := Lib.hid hE
        have HWA := Lib.hid hwA; have HM6 := Lib.hid hem6; have HAW := Lib.hid haw; have HOI := Lib.hid hoi; have HKL := Lib.hid hklt; have HX6 := Lib.hid hx6; have HB6 := Lib.hid hB6; have HKX := Lib.hid hkx
        have HKO : Hid (∀ a, ko = some a → ∃ k, a = ⟨k, 0, none⟩) := fun a e => by
          rcases hoi.2.2.2.2 with ⟨q, _⟩ | ⟨g', cap, cur, q, _⟩
          · simp only [Value.slice.injEq] at q; rw [q.1] at e; cases e
          · simp only [Value.slice.injEq] at q; rw [q.1] at e; cases e; exact ⟨_, rfl⟩
        have de : (E != E) = false := by simp
        have HS0 : Hid (w.heap.size ≤ w5.heap.size) := HM5.out.low.size
        clear hoi hB6 hkx hklt haw hem6 hx6 hwA hE HTW HM5 HX5
        go_wp2
        go_region_held3 (fun V => V.cell? ⟨ga, 1, none⟩ = some (.int .i64 r.i)) (first | exact (HCL.out _ HX8.out).2.1 | exact (HCL.out _ HX7.out).2.1 | exact (HCL.out _ HX6.out).2.1 | exact (HCL.out _ HX9.out).2.1)
          ((first
            | (go_at_call 30; (with_reducible refine (HWA.out _ (Below.refl _ _).drew).mono ?_); rintro e w7 ⟨D', P', rfl, hs7, hA7⟩;
               have HA7 := Lib.hid hA7;
               have hs7' : Sys w6 w7 w.heap.size Bp g w.heap.size n D' P' := ((HM6.out.sys.below (Below.refl _ _).drew).trans hs7);
               have hx7 : w7.heap[ga]? = _ := hs7'.kt.keep _ _ _ _ nofun rfl HX6.out;
               have hem7 := HM6.out.stepA hs7';
               have HX7 := Lib.hid hx7; have HM7 := Lib.hid hem7; have HKT7 := Lib.hid hs7'.kt; have HLW7 := Lib.hid hs7'.low;
               have hwr := rwrite_one r.i xo xl xc z hem7.rys (by have := HRX.out; omega) (fun b e => Nat.lt_of_lt_of_le (HKL.out b e) hs7'.kt.size) (fun V hV hk => HXP.out V (((HB6.out.mono HS0.out).trans hs7'.low).trans hV) (((KT.below KA (some gt) HB6.out).trans hs7'.kt.ofD).trans hk.ofR));
               rw [← HEE.out] at hwr;
               have HWR := Lib.hid hwr;
               clear hA7 hs7 hs7' hx7 hem7 hwr)
            | (go_at_call 31; (with_reducible refine HWR.out.mono ?_); rintro e w8 ⟨R', Q', rfl, hr8, hR8⟩;
               have HR8 := Lib.hid hR8;
               have hx8 : w8.heap[ga]? = _ := (hr8.kt.keep _ _ _ _ (fun e => tag_ne HX7.out HM7.out.rys.gt.1.choose_spec (by decide) (Option.some.inj e).symm) rfl HX7.out);
               have hem8 := HM7.out.stepR hr8;
               have hoi8 : Ow w8 w5.heap.size ko xl kc z := ((HOI.out.kt (HKT7.out.to_) rfl HM6.out.rys.gt.1.choose_spec).kt hr8.kt rfl HM7.out.rys.gt.1.choose_spec);
               have hp8 := HXP.out w8 (((HB6.out.mono HS0.out).trans HLW7.out).trans hr8.bel) (((KT.below KA (some gt) HB6.out).trans HKT7.out.ofD).trans hr8.kt.ofR);
               have hcmp := bytes_cmp ko xo xl xl kc xc z z w8 hoi8.1 hp8.len (by unfold maxLen; omega) hoi8.rd hp8.rd;
               rw [decide_eq_true rfl] at hcmp;
               have HCMP := Lib.hid hcmp; have HX8 := Lib.hid hx8; have HM8 := Lib.hid hem8; have HOI8 := Lib.hid hoi8;
               clear hR8 hr8 hx8 hem8 hoi8 hp8 hcmp)
            | (go_at_call 16; (with_reducible refine HCMP.out.mono ?_); rintro e w9 ⟨rfl, qn, hqn⟩;
               have hB9 : Below w8.heap.size w8 w9 := (by rw [hqn]; exact below_drewN (Below.refl _ _) qn);
               have HX9 : Hid (w9.heap[ga]? = _) := (KT.below (fun _ => false) none hB9).keep _ _ _ _ nofun rfl HX8.out;
               have HB9 := Lib.hid hB9;
               clear hqn hB9)))
        have hke := HE.out.ke.write HA7.out HR8.out
        obtain ⟨hke1, rfl, hlf, hxs⟩ := hke
        have haw2 : D'.away ko := away_write HAW.out HKL.out HA7.out HKO.out
        have hem9 := HM8.out.below HB9.out
        have hoi9 := HOI8.out.below HB9.out
        have hsp := spoil_ow hoi9 (by omega)
        have HSP := Lib.hid hsp; have HM9 := Lib.hid hem9; have HOI9 := Lib.hid hoi9; have HAW2 := Lib.hid haw2; have HKE := Lib.hid hke1; have HLF := Lib.hid hlf; have HXS := Lib.hid hxs
        clear hke1 hlf hxs haw2 hem9 hoi9 hsp HCMP HWR HWA
        go_wp2_with (go_at_call 17; fail)
        refine HSP.out.mono ?_
        rintro e w10 ⟨rfl, hspo⟩
        have hem10 := HM9.out.spo HOI9.out hspo HAW2.out HS0.out
        have heq9 := HE.out.to hem10 HKE.out (q' := k + 1) (by have := HXS.out; have := HE.out.xs; omega) (by rw [HLF.out]; exact HE.out.l0) (by rw [HLF.out]; have := HE.out.l1; omega)
        have HEQ9 := Lib.hid heq9
        clear hspo hem10 heq9 HSP HM9 HOI9
        go_wp2
        go_roundw
        case rel => exact ⟨k + 1, _, _, _, by omega, by omega, by go_num, HEQ9.out⟩
        case measure => simp [intOf]; omega
    · have hf : (decide ((k : Int) < (n2 : Int)) = false ∧ decide (k < n2) = false) ∨ (decide ((k : Int) < (n2 : Int)) = true ∧ decide (k < n2) = true ∧ decide ((k : Int) < 60) = false) := by
        by_cases h : k < n2
        · exact .inr ⟨decide_eq_true (by omega), decide_eq_true h, decide_eq_false (by omega)⟩
        · exact .inl ⟨decide_eq_false (by omega), decide_eq_false h⟩
      obtain ⟨wo, rfl⟩ : ∃ wo : World, wo = wr := ⟨_, rfl⟩
      rcases hf with ⟨f1, f2⟩ | ⟨f1, f2, f3⟩
      all_goals
        go_wp2
        go_loopw [18] (fun i wr => ∃ (j : Nat) (D : DS) (R : RS), j ≤ n ∧ j ≤ 12 ∧ i = .int .i64 j ∧ EQ w wr Bp g g2 gp2 gt n k D R P) (fun i _ => n - (intOf i).toNat)
        case atStart => exact ⟨0, _, _, Nat.zero_le _, by omega, rfl, HE.out⟩
        case round =>
          obtain ⟨j, D, R, hj, hj12, rfl, heq⟩ := hrel
          have HF := Lib.hid heq
          clear heq HE
          by_cases hgo : j < n ∧ j < 12
          · obtain ⟨hjn, hj1⟩ := hgo
            have f5 : decide ((j : Int) < (n : Int)) = true := decide_eq_true (by omega)
            have f5' : decide (j < n) = true := decide_eq_true hjn
            have f6 : decide ((j : Int) < 12) = true := decide_eq_true (by omega)
            have hrd := read_any (j : Int) HF.out.em.sys (by have := HF.out.xs; omega)
            have HRD := Lib.hid hrd
            obtain ⟨G, hG⟩ : ∃ G, G = (D.wake P).get P.off n (j : Int) := ⟨_, rfl⟩
            rw [← hG] at HRD
            have HG := Lib.hid hG
            have HRX : Hid (R.xs.length ≤ k) := by show _ ≤ _; rw [← HF.out.ke.xl]; exact HF.out.xs
            clear hrd hG
            go_wp2_with (go_at_call 14; fail)
            refine HRD.out.mono ?_
            rintro e w6 ⟨⟨kx, lx, cx, rfl, hox⟩, hs6⟩
            have hem6 := HF.out.em.stepA hs6
            have hrr := rread (j : Int) hem6.rys (by have := HRX.out; omega) (by have := HRX.out; have := xs_wakeR R P; omega)
            have HOX := Lib.hid hox; have HM6 := Lib.hid hem6; have HRR := Lib.hid hrr
            clear hox hs6 hem6 hrr HRD
            go_wp2_with (go_at_call 15; fail)
            refine HRR.out.mono ?_
            rintro e w7 ⟨⟨ky, ly, cy, rfl, hoy⟩, hr7⟩
            have hz := hr7.z
            have hget : (R.wake P).get P.off n (j : Int) = G := (((HF.out.ke.wake P).get hz P.off (j : Int)).symm).trans HG.out.symm
            have hlen := get_len hz P.off (j : Int)
            rw [hget] at hoy hlen ⊢
            obtain ⟨⟨cs, hcs⟩, hlt, hbp⟩ := HM6.out.rys.gt
            have hox7 : Ow w7 wr.heap.size kx lx cx G.2 := HOX.out.kt hr7.kt rfl hcs
            have hem7 := HM6.out.stepR hr7
            have hcmp := bytes_cmp kx ky lx ly cx cy G.2 G.2 w7 hox7.1 hoy.1 (by have := hox7.1; unfold maxLen; omega) hox7.rd hoy.rd
            rw [decide_eq_true rfl] at hcmp
            obtain ⟨er, her⟩ : ∃ er, er = G.1 := ⟨_, rfl⟩
            rw [← her]
            have de : (er != er) = false := by simp
            have HCMP := Lib.hid hcmp; have HM7 := Lib.hid hem7
            clear hz hget hlen hoy hr7 hcs hlt hbp hox7 hem7 hcmp her HRR HOX HM6
            go_wp2_with (go_at_call 16; fail)
            refine HCMP.out.mono ?_
            rintro e w8 ⟨rfl, qn, hqn⟩
            have hB8 : Below w7.heap.size w7 w8 := by rw [hqn]; exact below_drewN (Below.refl _ _) qn
            have hem8 := HM7.out.below hB8
            have heq9 : EQ w w8 Bp g g2 gp2 gt n k (D.wake P) (R.wake P) P := HF.out.to hem8 (HF.out.ke.wake P) (by have := xs_wake D P; have := HF.out.xs; omega) HF.out.l0 HF.out.l1
            have HEQ9 := Lib.hid heq9
            clear hqn hB8 hem8 heq9 HCMP HM7
            go_wp2
            go_roundw
            case rel => exact ⟨j + 1, _, _, by omega, by omega, by go_num, HEQ9.out⟩
            case measure => simp [intOf]; omega
          · have hf : (decide ((j : Int) < (n : Int)) = false ∧ decide (j < n) = false) ∨ (decide ((j : Int) < (n : Int)) = true ∧ decide (j < n) = true ∧ decide ((j : Int) < 12) = false) := by
              by_cases h : j < n
              · exact .inr ⟨decide_eq_true (by omega), decide_eq_true h, decide_eq_false (by omega)⟩
              · exact .inl ⟨decide_eq_false (by omega), decide_eq_false h⟩
            have HWK := Lib.hid (wakes9 wr)
            have HLOW := Lib.hid HF.out.em.low
            rcases hf with ⟨f5, f6⟩ | ⟨f5, f6, f7⟩
            · go_wp2_with (go_at_call 11; refine HWK.out.mono ?_; rintro e w9 ⟨rfl, hB9⟩; have HB9 := Lib.hid hB9; clear hB9)
              go_ret
              exact ⟨rfl, HLOW.out.trans (HB9.out.mono HLOW.out.size)⟩
            · go_wp2_with (go_at_call 11; refine HWK.out.mono ?_; rintro e w9 ⟨rfl, hB9⟩; have HB9 := Lib.hid hB9; clear hB9)
              go_ret
              exact ⟨rfl, HLOW.out.trans (HB9.out.mono HLOW.out.size)⟩

end Go.Proofs.Ytaajdaikfabchaa
