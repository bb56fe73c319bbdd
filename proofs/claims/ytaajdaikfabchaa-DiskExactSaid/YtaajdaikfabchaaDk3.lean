/-
  The disk: wake, has, Sectors, Sync.
-/
import Derived.Test.YtaajdaikfabchaaDk2
namespace Go.Proofs.Ytaajdaikfabchaa
open Go.RowKit
set_option linter.unusedVariables false

/-- A disk, plainly. -/
structure DS where
  life : Int
  ns : List Sec
  ss : List Sec
  xs : List Wr
def DS.settle (D : DS) (P : PP) : DS := ⟨P.life, laidAt D.xs (safeAt P D.xs D.ss D.xs.length) D.ns D.xs.length, safeAt P D.xs D.ss D.xs.length, []⟩
def DS.wake (D : DS) (P : PP) : DS := if P.off then D else if P.life = D.life then D else D.settle P
/-- The disk g and its power gp, in memory. -/
def Sys (w0 w : World) (B Bp g gp n : Nat) (D : DS) (P : PP) : Prop := ∃ gn gs oo k oc, Sy w0 w B Bp g gp gn gs D.life n oo k oc D.ns D.ss D.xs P
theorem Sys.below {w0 w w' : World} {B Bp g gp n : Nat} {D : DS} {P : PP} (h : Sys w0 w B Bp g gp n D P) (hB : Below w.heap.size w w') : Sys w0 w' B Bp g gp n D P := by
  obtain ⟨gn, gs, oo, k, oc, h⟩ := h
  exact ⟨gn, gs, oo, k, oc, h.below hB⟩
theorem Sys.low {w0 w : World} {B Bp g gp n : Nat} {D : DS} {P : PP} (h : Sys w0 w B Bp g gp n D P) : Below B w0 w := by
  obtain ⟨gn, gs, oo, k, oc, h⟩ := h
  exact h.low
theorem Sys.kt {w0 w : World} {B Bp g gp n : Nat} {D : DS} {P : PP} (h : Sys w0 w B Bp g gp n D P) : KT KD none w0 w := by
  obtain ⟨gn, gs, oo, k, oc, h⟩ := h
  exact h.kt
theorem Sys.pw {w0 w : World} {B Bp g gp n : Nat} {D : DS} {P : PP} (h : Sys w0 w B Bp g gp n D P) : PwM w Bp gp P := by
  obtain ⟨gn, gs, oo, k, oc, h⟩ := h
  exact h.p
theorem Sys.refl {w0 w : World} {B Bp g gp n : Nat} {D : DS} {P : PP} (h : Sys w0 w B Bp g gp n D P) : Sys w w B Bp g gp n D P := by
  obtain ⟨gn, gs, oo, k, oc, h⟩ := h
  exact ⟨gn, gs, oo, k, oc, h.d, h.p, Below.refl _ _, KT.refl _ _ _⟩
theorem Sys.trans {w0 w w' : World} {B Bp g gp n : Nat} {D D' : DS} {P P' : PP} (h : Sys w0 w B Bp g gp n D P) (h' : Sys w w' B Bp g gp n D' P') : Sys w0 w' B Bp g gp n D' P' := by
  obtain ⟨gn, gs, oo, k, oc, h'⟩ := h'
  exact ⟨gn, gs, oo, k, oc, h'.d, h'.p, h.low.trans h'.low, h.kt.trans h'.kt⟩

theorem wake_any {w0 w : World} {B Bp g gp n : Nat} {D : DS} {P : PP} (h : Sys w0 w B Bp g gp n D P) (hx6 : D.xs.length ≤ 1000000) :
    Calls Try.prog 34 #[.pointer (some ⟨g, 0, none⟩)] w fun e w' => e = .returned (.bool (!P.off)) ∧ Sys w0 w' B Bp g gp n (D.wake P) P := by
  obtain ⟨gn, gs, oo, k, oc, h⟩ := h
  have hoff := poff w Bp gp P h.p
  have hlife := plife w Bp gp P h.p
  obtain ⟨c0, c1, c2, c3, c4, fg, fn, fs⟩ := h.d.c
  obtain ⟨off, hof⟩ : ∃ off, off = P.off := ⟨_, rfl⟩
  rw [← hof] at hoff ⊢
  have HO := Lib.hid hoff; have HL := Lib.hid hlife; have HS := Lib.hid h; have HOF := Lib.hid hof
  have HW : Hid (D.wake P = if off then D else if P.life = D.life then D else D.settle P) := by
    show _ = _
    rw [hof]; rfl
  clear hoff hlife h hof
  cases off with
  | true =>
    go_enter Try.func34, Try.ntmps34
    go_wp2_with (go_at_call 42; refine HO.out.mono ?_; rintro e w1 ⟨rfl, rfl⟩)
    go_ret
    exact ⟨rfl, by rw [HW.out, if_pos (by trivial)]; exact ⟨_, _, _, _, _, HS.out⟩⟩
  | false =>
    by_cases hl : P.life = D.life
    · have d1 : (P.life != D.life) = false := by simp [hl]
      have HWW : Hid (D.wake P = D) := by
        show _ = _
        rw [HW.out, if_neg (by decide), if_pos hl]
      clear hl HW
      go_enter Try.func34, Try.ntmps34
      go_wp2_with (first
        | (go_at_call 42; refine HO.out.mono ?_; rintro e w1 ⟨rfl, rfl⟩)
        | (go_at_call 33; refine HL.out.mono ?_; rintro e w1 ⟨rfl, rfl⟩))
      go_ret
      exact ⟨rfl, by rw [HWW.out]; exact ⟨_, _, _, _, _, HS.out⟩⟩
    · have d1 : (P.life != D.life) = true := by simp [hl]
      have HWW : Hid (D.wake P = D.settle P) := by
        show _ = _
        rw [HW.out, if_neg (by decide), if_neg hl]
      have hk : D.xs.length = k := HS.out.d.lx
      have hset := settle_any (HS.out.live P.life) (by omega)
      obtain ⟨lf, hlf⟩ : ∃ lf, lf = P.life := ⟨_, rfl⟩
      rw [← hlf] at hset d1 HL
      have HST := Lib.hid hset; have HLF := Lib.hid hlf; have HK := Lib.hid hk
      clear hl HW hset hlf hk
      go_enter Try.func34, Try.ntmps34
      go_wp2_with (first
        | (go_at_call 42; refine HO.out.mono ?_; rintro e w1 ⟨rfl, rfl⟩)
        | (go_at_call 33; refine HL.out.mono ?_; rintro e w1 ⟨rfl, rfl⟩)
        | (go_at_call 43; refine HST.out.mono ?_; rintro e w1 ⟨rfl, hs1⟩; have HS1 := Lib.hid hs1; clear hs1))
      go_ret
      refine ⟨rfl, ?_⟩
      rw [HWW.out]
      unfold DS.settle
      rw [HK.out, ← HLF.out]
      exact ⟨_, _, _, _, _, HS1.out⟩

theorem has_any {w0 w : World} {B Bp g gp n : Nat} {D : DS} {P : PP} (i : Int) (h : Sys w0 w B Bp g gp n D P) :
    Calls Try.prog 35 #[.pointer (some ⟨g, 0, none⟩), .int .i64 i] w fun e w' => e = .returned (.bool (decide (0 ≤ i ∧ i < n))) ∧ w = w' := by
  obtain ⟨gn, gs, oo, k, oc, h⟩ := h
  obtain ⟨c0, c1, c2, c3, c4, fg, fn, fs⟩ := h.d.c
  clear h
  obtain ⟨r, hr⟩ : ∃ r, r = decide (0 ≤ i ∧ i < n) := ⟨_, rfl⟩
  rw [← hr]
  by_cases h0 : 0 ≤ i
  · have d1 : decide (0 ≤ i) = true := decide_eq_true h0
    by_cases h1 : i < n
    · have d2 : decide (i < n) = true := decide_eq_true h1
      obtain rfl : r = true := by rw [hr]; exact decide_eq_true ⟨h0, h1⟩
      clear hr
      go_enter Try.func35, Try.ntmps35
      go_wp2
      go_ret
      exact ⟨rfl, rfl⟩
    · have d2 : decide (i < n) = false := decide_eq_false h1
      obtain rfl : r = false := by rw [hr]; exact decide_eq_false fun h => h1 h.2
      clear hr
      go_enter Try.func35, Try.ntmps35
      go_wp2
      go_ret
      exact ⟨rfl, rfl⟩
  · have d1 : decide (0 ≤ i) = false := decide_eq_false h0
    obtain rfl : r = false := by rw [hr]; exact decide_eq_false fun h => h0 h.1
    clear hr
    go_enter Try.func35, Try.ntmps35
    go_wp2
    go_ret
    exact ⟨rfl, rfl⟩

theorem sectors_any {w0 w : World} {B Bp g gp n : Nat} {D : DS} {P : PP} (h : Sys w0 w B Bp g gp n D P) (hx6 : D.xs.length ≤ 1000000) :
    Calls Try.prog 12 #[.pointer (some ⟨g, 0, none⟩)] w fun e w' => e = .returned (.int .i64 n) ∧ Sys w0 w' B Bp g gp n (D.wake P) P := by
  have HW := Lib.hid (wake_any h hx6)
  clear h
  go_enter Try.func12, Try.ntmps12
  go_wp2_with (go_at_call 34; fail)
  refine HW.out.mono ?_
  rintro e w1 ⟨rfl, gn, gs, oo, k, oc, hs⟩
  obtain ⟨c0, c1, c2, c3, c4, fg, fn, fs⟩ := hs.d.c
  have HS := Lib.hid hs
  clear hs
  go_wp2
  go_ret
  exact ⟨rfl, _, _, _, _, _, HS.out⟩

/-- The power of it turns. -/
theorem Sy.spend {w0 w w' : World} {B Bp g gp gn gs : Nat} {life : Int} {n : Nat} {oo : Option Addr} {k oc : Nat} {ns ss : List Sec} {xs : List Wr} {P P' : PP} (h : Sy w0 w B Bp g gp gn gs life n oo k oc ns ss xs P)
    (hp : PwM w' Bp gp P') (hB : Below gp w w') (ho : POn gp w w') : Sy w0 w' B Bp g gp gn gs life n oo k oc ns ss xs P' := by
  obtain ⟨cs, hc⟩ := h.p.blk
  have hk : ∀ S : Nat → Bool, S 61 = true → KT S Option.none w w' := fun S hS => KT.pon hc hS hB.size ho
  exact ⟨h.d.kt (hk (fun t => t == 61) rfl) rfl rfl rfl rfl (fun _ _ _ _ => nofun), hp, h.low.trans (hB.mono h.d.low.2.2.2.1), h.kt.trans (hk KD rfl)⟩
theorem Sys.spend {w0 w w' : World} {B Bp g gp n : Nat} {D : DS} {P P' : PP} (h : Sys w0 w B Bp g gp n D P) (hp : PwM w' Bp gp P') (hB : Below gp w w') (ho : POn gp w w') : Sys w0 w' B Bp g gp n D P' := by
  obtain ⟨gn, gs, oo, k, oc, h⟩ := h
  exact ⟨gn, gs, oo, k, oc, h.spend hp hB ho⟩
theorem PwM.due {w : World} {B g : Nat} {P : PP} (h : PwM w B g P) : P.due ≤ 9223372036854775807 := by
  obtain ⟨_, _, _, _, _, _, _, _, _, _, _, _, _, h, _⟩ := h
  exact h

/-- All writes are safe now. -/
def DS.sync (D : DS) : DS := ⟨D.life, D.ns, laidAt D.xs D.ns D.ss D.xs.length, []⟩
/-- Sync: what it tells, and what it leaves. -/
def syncE (P : PP) : Int := if P.off then 5 else if P.spent then 0 else 5
def DS.syn (D : DS) (P : PP) : DS := if P.off then D.wake P else if P.spent then (D.wake P).sync else D.wake P
def PP.syn (P : PP) : PP := if P.off then P else P.spend

set_option maxHeartbeats 2000000 in
theorem sync_any {w0 w : World} {B Bp g gp n : Nat} {D : DS} {P : PP} (h : Sys w0 w B Bp g gp n D P) (hx6 : D.xs.length ≤ 1000000) (hy6 : (D.wake P).xs.length ≤ 1000000) :
    Calls Try.prog 18 #[.pointer (some ⟨g, 0, none⟩)] w fun e w' => e = .returned (.int .i64 (syncE P)) ∧ Sys w0 w' B Bp g gp n (D.syn P) P.syn := by
  have HW := Lib.hid (wake_any h hx6)
  have HE : Hid (syncE P = if P.off then 5 else if P.spent then 0 else 5) := rfl
  have HD : Hid (D.syn P = if P.off then D.wake P else if P.spent then (D.wake P).sync else D.wake P) := rfl
  have HP : Hid (P.syn = if P.off then P else P.spend) := rfl
  obtain ⟨off, hof⟩ : ∃ off, off = P.off := ⟨_, rfl⟩
  rw [← hof] at HW HE HD HP
  obtain ⟨E, hE⟩ : ∃ E, E = syncE P := ⟨_, rfl⟩
  obtain ⟨D2, hD2⟩ : ∃ D2, D2 = D.syn P := ⟨_, rfl⟩
  obtain ⟨P2, hP2⟩ : ∃ P2, P2 = P.syn := ⟨_, rfl⟩
  obtain ⟨D1, hD1⟩ : ∃ D1, D1 = D.wake P := ⟨_, rfl⟩
  rw [← hE] at HE ⊢
  rw [← hD2] at HD ⊢
  rw [← hP2] at HP ⊢
  rw [← hD1] at HD HW hy6
  clear h hE hD2 hP2 hD1 hx6 hof
  cases off with
  | true =>
    obtain rfl : E = 5 := HE.out
    obtain rfl : D2 = D1 := HD.out
    obtain rfl : P2 = P := HP.out
    clear HE HD HP
    go_enter Try.func18, Try.ntmps18
    go_wp2_with (go_at_call 34; refine HW.out.mono ?_; rintro e w1 ⟨rfl, hs⟩; have HS := Lib.hid hs; clear hs)
    go_ret
    exact ⟨rfl, HS.out⟩
  | false =>
    go_enter Try.func18, Try.ntmps18
    go_wp2_with (go_at_call 34; fail)
    refine HW.out.mono ?_
    rintro e w1 ⟨rfl, gn, gs, oo, k, oc, hs⟩
    obtain ⟨c0, c1, c2, c3, c4, fg, fn, fs⟩ := hs.d.c
    have HSP := Lib.hid (pspend w1 Bp gp P hs.p (.inr hs.p.due))
    have HX := Lib.hid hs.d.lx
    obtain ⟨hn1, hn6⟩ := hs.d.hn
    have HS := Lib.hid hs
    obtain ⟨sp, hsp⟩ : ∃ sp, sp = P.spent := ⟨_, rfl⟩
    rw [← hsp] at HE HD HSP
    clear hs hsp
    go_wp2_with (go_at_call 37; fail)
    refine HSP.out.mono ?_
    rintro e w2 ⟨rfl, hp2, hB2, ho2⟩
    have hs2 := HS.out.spend hp2 hB2 ho2
    have HS2 := Lib.hid hs2
    obtain rfl : P2 = P.spend := HP.out
    clear c0 c1 c2 c3 c4 fg fn fs hp2 hB2 ho2 hs2 HS HSP HP
    cases sp with
    | false =>
      obtain rfl : E = 5 := HE.out
      obtain rfl : D2 = D1 := HD.out
      clear HE HD
      go_wp2
      go_ret
      exact ⟨rfl, _, _, _, _, _, HS2.out⟩
    | true =>
      obtain rfl : E = 0 := HE.out
      have HDD : Hid (D2 = D1.sync) := HD.out
      clear HE HD
      obtain ⟨c0, c1, c2, c3, c4, fg, fn, fs⟩ := HS2.out.d.c
      obtain ⟨life, ns, ss, xs⟩ := D1
      simp only at HS2 hy6 HX
      have hk6 : k ≤ 1000000 := by rw [← HX.out]; exact hy6
      go_wp2
      clear c0 c1 c2 c3 c4 fg fn fs
      obtain ⟨wo, rfl⟩ : ∃ wo : World, wo = w2 := ⟨_, rfl⟩
      go_loopw [21] (fun i wr => ∃ q : Nat, q ≤ k ∧ i = .int .i64 q ∧ Sy w0 wr B Bp g gp gn gs life n oo k oc ns (laidAt xs ns ss q) xs P.spend) (fun i _ => k - (intOf i).toNat)
      case atStart => exact ⟨0, Nat.zero_le _, rfl, HS2.out⟩
      case round =>
        obtain ⟨q, hq, rfl, hS⟩ := hrel
        by_cases hlt : q < k
        · have d1 : decide ((q : Int) < (k : Int)) = true := decide_eq_true (by omega)
          have hlt' : q < xs.length := by rw [HX.out]; exact hlt
          obtain ⟨gx, rfl, x0, x1⟩ := hS.d.wr hlt'
          obtain ⟨x, hx⟩ : ∃ x, x = xs[q] := ⟨_, rfl⟩
          rw [← hx] at x0 x1
          obtain ⟨hdat, hxi, hxa⟩ := hS.d.dx x (by rw [hx]; exact List.getElem_mem _)
          have hsu := laidAt_succ (src := ns) (ns := ss) hlt'
          rw [← hx] at hsu
          obtain ⟨M, hMM⟩ : ∃ M, M = laidAt xs ns ss q := ⟨_, rfl⟩
          rw [← hMM] at hsu hS
          obtain ⟨W1, hW1⟩ : ∃ W1, W1 = wr.alloc (.cells #[.int .i64 x.i, .slice x.d.a x.d.l x.d.c] 77) := ⟨_, rfl⟩
          have hS1 : Sy w0 W1 B Bp g gp gn gs life n (some ⟨gx, 0, none⟩) k oc ns M xs P.spend := by rw [hW1]; exact hS.alloc _
          have hbx : W1.heap[wr.heap.size]? = some (.cells #[.int .i64 x.i, .slice x.d.a x.d.l x.d.c] 77) := by rw [hW1]; exact heap_alloc_new _ _
          have y0 : W1.cell? ⟨wr.heap.size, 0, none⟩ = some (.int .i64 x.i) := by simp [World.cell?, hbx]
          have y1 : W1.cell? ⟨wr.heap.size, 1, none⟩ = some (.slice x.d.a x.d.l x.d.c) := by simp [World.cell?, hbx]
          have hxs : x.i < ns.length := by rw [hS1.d.ln]; exact hxi
          obtain ⟨z0, z1⟩ := hS1.d.now.sec hxs
          obtain ⟨s, hs⟩ : ∃ s, s = ns[x.i] := ⟨_, rfl⟩
          have hsd : ns.getD x.i Sec.none = s := by rw [hs]; simp [List.getD, hxs]
          rw [← hs] at z0 z1
          rw [hsd] at hsu
          have hds : Dat W1 B s.d := hS1.d.dn s (by rw [hs]; exact List.getElem_mem _)
          have hxm : x.i < M.length := by rw [hS1.d.ls]; exact hxi
          obtain ⟨u0, u1⟩ := hS1.d.safe.sec hxm
          generalize M[x.i] = s2 at u0 u1
          obtain ⟨c0, c1, c2, c3, c4, fg, fn, fs⟩ := hS1.d.c
          have HW1 := Lib.hid hW1; have HS1 := Lib.hid hS1; have HSU := Lib.hid hsu; have HDS := Lib.hid hds
          have i1 : (0 : Int) ≤ (x.i : Int) := by omega
          have i2 : (x.i : Int) < (n : Int) := by omega
          clear hS hS1 hdat hxa hsu hMM hbx hx hlt' hsd hs hds hxs hW1 hxm
          go_wp2
          rw [← HW1.out]
          go_region
          go_wp2
          go_roundw
          case rel => exact ⟨q + 1, by omega, by go_num, by rw [HSU.out]; first | exact (HS1.out.lay hxi s HDS.out).drew | exact HS1.out.drew.lay hxi s HDS.out⟩
          case measure => simp [intOf]; omega
        · have d1 : decide ((q : Int) < (k : Int)) = false := decide_eq_false (by omega)
          obtain rfl : q = k := by omega
          obtain ⟨c0, c1, c2, c3, c4, fg, fn, fs⟩ := hS.d.c
          have HS3 := Lib.hid hS
          clear hS
          go_wp2
          go_ret
          refine ⟨rfl, ?_⟩
          rw [HDD.out]
          unfold DS.sync
          have := HS3.out.shut
          simp only [HX.out]
          exact ⟨_, _, _, _, _, this⟩

end Go.Proofs.Ytaajdaikfabchaa
