/-
  The document's disk: wake, Read.
-/
import Derived.Test.YtaajdaikfabchaaRq2
namespace Go.Proofs.Ytaajdaikfabchaa
open Go.RowKit
set_option linter.unusedVariables false

/-- The document's disk, plainly. -/
structure RS where
  life : Int
  ss : List Sec
  xs : List Wr
def RS.settle (R : RS) (P : PP) : RS := ⟨P.life, safeAt P R.xs R.ss R.xs.length, []⟩
def RS.wake (R : RS) (P : PP) : RS := if P.off then R else if P.life = R.life then R else R.settle P
/-- It and its power, in memory. -/
def Rys (w0 w : World) (B Bp g gp gt : Nat) (X : Option Addr) (n : Nat) (R : RS) (P : PP) : Prop := ∃ gs sc rest lo k lc, Ry w0 w B Bp g gp gt gs X R.life n sc rest lo k lc R.ss R.xs P
section
variable {w0 w w' : World} {B Bp g gp gt : Nat} {X : Option Addr} {n : Nat} {R R' : RS} {P P' : PP}
theorem Rys.below (h : Rys w0 w B Bp g gp gt X n R P) (hB : Below w.heap.size w w') : Rys w0 w' B Bp g gp gt X n R P := by
  obtain ⟨gs, sc, rest, lo, k, lc, h⟩ := h
  exact ⟨gs, sc, rest, lo, k, lc, h.below hB⟩
theorem Rys.refl (h : Rys w0 w B Bp g gp gt X n R P) : Rys w w B Bp g gp gt X n R P := by
  obtain ⟨gs, sc, rest, lo, k, lc, h⟩ := h
  exact ⟨gs, sc, rest, lo, k, lc, h.refl⟩
theorem Rys.bel (h : Rys w0 w B Bp g gp gt X n R P) : Below B w0 w := by
  obtain ⟨gs, sc, rest, lo, k, lc, h⟩ := h
  exact h.bel
theorem Rys.kt (h : Rys w0 w B Bp g gp gt X n R P) : KT KR (some gt) w0 w := by
  obtain ⟨gs, sc, rest, lo, k, lc, h⟩ := h
  exact h.kt
theorem Rys.pw (h : Rys w0 w B Bp g gp gt X n R P) : PqM w Bp gp P := by
  obtain ⟨gs, sc, rest, lo, k, lc, h⟩ := h
  exact h.pw
theorem Rys.trans (h : Rys w0 w B Bp g gp gt X n R P) (h' : Rys w w' B Bp g gp gt X n R' P') : Rys w0 w' B Bp g gp gt X n R' P' := by
  obtain ⟨gs, sc, rest, lo, k, lc, h'⟩ := h'
  exact ⟨gs, sc, rest, lo, k, lc, h'.blk, h'.safe, h'.torn, h'.loose, h'.ls, h'.lx, h'.hn, h'.hsc, h'.low, h'.gtB, h'.ds, h'.dx, h'.pw, h.bel.trans h'.bel, h.kt.trans h'.kt⟩
theorem Rys.other {S : Nat → Bool} (h : Rys w0 w B Bp g gp gt X n R P) (hk : KT S Option.none w w') (h4 : S 4 = false) (h5 : S 5 = false) (h36 : S 36 = false) (h63 : S 63 = false) (h70 : S 70 = false) (h75 : S 75 = false) : Rys w' w' B Bp g gp gt X n R P := by
  obtain ⟨gs, sc, rest, lo, k, lc, h⟩ := h
  exact ⟨gs, sc, rest, lo, k, lc, h.other hk h4 h5 h36 h63 h70 h75⟩
theorem Rys.fresh (h : Rys w0 w B Bp g gp gt X n R P) {Y : Option Addr} (hY : ∀ b, Y = some ⟨b, 0, none⟩ → w.heap.size ≤ b) : Rys w0 w B Bp g gp gt Y n R P := by
  obtain ⟨gs, sc, rest, lo, k, lc, h⟩ := h
  exact ⟨gs, sc, rest, lo, k, lc, h.fresh hY⟩
theorem Rys.spo {base m kc : Nat} {zs : List Int} (h : Rys w0 w B Bp g gp gt X n R P) (ho : Ow w base X m kc zs) (hs : Spo X w w') : Rys w' w' B Bp g gp gt X n R P := by
  obtain ⟨gs, sc, rest, lo, k, lc, h⟩ := h
  exact ⟨gs, sc, rest, lo, k, lc, h.spo ho hs⟩
theorem Rys.turn (h : Rys w0 w B Bp g gp gt X n R P) (hp : PqM w' Bp gp P') (hB : Below gp w w') (ho : POn gp w w') : Rys w0 w' B Bp g gp gt X n R P' := by
  obtain ⟨gs, sc, rest, lo, k, lc, h⟩ := h
  exact ⟨gs, sc, rest, lo, k, lc, h.turn hp hB ho⟩
end

set_option maxHeartbeats 2000000 in
theorem rwake {w0 w : World} {B Bp g gp gt : Nat} {X : Option Addr} {n : Nat} {R : RS} {P : PP} (h : Rys w0 w B Bp g gp gt X n R P) (hx6 : R.xs.length ≤ 1000000) :
    Calls Try.prog 36 #[.pointer (some ⟨g, 0, none⟩)] w fun e w' => e = .returned (.tuple #[]) ∧ Rys w0 w' B Bp g gp gt X n (R.wake P) P := by
  obtain ⟨gs, sc, rest, lo, k, lc, h⟩ := h
  obtain ⟨c0, c1, c2, c3, c4, fg, fs, ft⟩ := h.c
  obtain ⟨q0, q1, q6⟩ := h.pw.c
  obtain ⟨off, hof⟩ : ∃ off, off = P.off := ⟨_, rfl⟩
  rw [← hof] at q0
  have HS := Lib.hid h; have HOF := Lib.hid hof
  have HW : Hid (R.wake P = if off then R else if P.life = R.life then R else R.settle P) := by
    show _ = _
    rw [hof]; rfl
  obtain ⟨hn1, hn6⟩ := h.hn
  clear h hof
  cases off with
  | true =>
    go_enter Try.func36, Try.ntmps36
    go_wp2
    go_quiet (fail)
    go_wp2
    (try simp only [Exit.inBlock, Exit.then])
    refine bodyPost_ret (results_none rfl _ _ _) rfl ?_
    exact ⟨rfl, by rw [HW.out, if_pos (by trivial)]; exact ⟨_, _, _, _, _, _, HS.out.below (below_drewN (Below.refl _ _) _)⟩⟩
  | false =>
    by_cases hl : P.life = R.life
    · have d1 : (P.life == R.life) = true := by simp [hl]
      have HWW : Hid (R.wake P = R) := by
        show _ = _
        rw [HW.out, if_neg (by decide), if_pos hl]
      clear hl HW
      go_enter Try.func36, Try.ntmps36
      go_wp2
      go_quiet (fail)
      go_wp2
      (try simp only [Exit.inBlock, Exit.then])
      refine bodyPost_ret (results_none rfl _ _ _) rfl ?_
      exact ⟨rfl, by rw [HWW.out]; exact ⟨_, _, _, _, _, _, HS.out.below (below_drewN (Below.refl _ _) _)⟩⟩
    · have d1 : (P.life == R.life) = false := by simp [hl]
      have HWW : Hid (R.wake P = R.settle P) := by
        show _ = _
        rw [HW.out, if_neg (by decide), if_neg hl]
      have HX := Lib.hid HS.out.lx
      obtain ⟨life, ss, xs⟩ := R
      simp only at d1 hx6 HX HS c1
      obtain ⟨lf, hlf⟩ : ∃ lf, lf = P.life := ⟨_, rfl⟩
      rw [← hlf] at q1 d1
      have hk6 : k ≤ 1000000 := by rw [← HX.out]; exact hx6
      have HLF := Lib.hid hlf
      clear hl HW hlf hx6
      go_enter Try.func36, Try.ntmps36
      go_wp2
      go_quiet (fail)
      go_wp2
      obtain ⟨wq, hwq⟩ : ∃ wq, wq = w.drewN nq := ⟨_, rfl⟩
      have hsq : Ry w0 wq B Bp g gp gt gs X life n sc rest lo k lc ss xs P := by rw [hwq]; exact HS.out.below (below_drewN (Below.refl _ _) _)
      have hsl := hsq.live lf
      rw [← hwq]
      have HSL := Lib.hid hsl
      clear c0 c1 c2 c3 c4 fg fs ft q0 q1 q6 hsq hsl hwq HS
      obtain ⟨ws, hws⟩ : ∃ ws, ws = wq.setCell ⟨g, 1, none⟩ (.int .i64 lf) := ⟨_, rfl⟩
      rw [← hws] at HSL ⊢
      clear hws
      go_loopw [2] (fun i wr => ∃ j : Nat, j ≤ k ∧ i = .int .i64 j ∧ Ry w0 wr B Bp g gp gt gs X lf n sc rest lo k lc (safeAt P xs ss j) xs P) (fun i _ => k - (intOf i).toNat)
      case atStart => exact ⟨0, Nat.zero_le _, rfl, HSL.out⟩
      case round =>
        obtain ⟨j, hj, rfl, hS⟩ := hrel
        obtain ⟨c0, c1, c2, c3, c4, fg, fs, ft⟩ := hS.c
        by_cases hlt : j < k
        · have d1 : decide ((j : Int) < (k : Int)) = true := decide_eq_true (by omega)
          have hlt' : j < xs.length := by rw [HX.out]; exact hlt
          obtain ⟨gx, rfl, x0, x1⟩ := hS.wr hlt'
          obtain ⟨x, hx⟩ : ∃ x, x = xs[j] := ⟨_, rfl⟩
          rw [← hx] at x0 x1
          obtain ⟨hdat, hxi⟩ := hS.dx x (by rw [hx]; exact List.getElem_mem _)
          have hsu := safeAt_succ (P := P) (ss := ss) hlt'
          rw [← hx] at hsu
          obtain ⟨S, hSS⟩ : ∃ S, S = safeAt P xs ss j := ⟨_, rfl⟩
          rw [← hSS] at hsu hS
          obtain ⟨W1, hW1⟩ : ∃ W1, W1 = wr.alloc (.cells #[.int .i64 x.i, .slice x.d.a x.d.l x.d.c] 75) := ⟨_, rfl⟩
          have hS1 : Ry w0 W1 B Bp g gp gt gs X lf n sc rest (some ⟨gx, 0, none⟩) k lc S xs P := by rw [hW1]; exact hS.alloc _
          have hd1 : Da W1 B X x.d := (hS1.dx x (by rw [hx]; exact List.getElem_mem _)).1
          have hbx : W1.heap[wr.heap.size]? = some (.cells #[.int .i64 x.i, .slice x.d.a x.d.l x.d.c] 75) := by rw [hW1]; exact heap_alloc_new _ _
          have y0 : W1.cell? ⟨wr.heap.size, 0, none⟩ = some (.int .i64 x.i) := by simp [World.cell?, hbx]
          have y1 : W1.cell? ⟨wr.heap.size, 1, none⟩ = some (.slice x.d.a x.d.l x.d.c) := by simp [World.cell?, hbx]
          have hxs : x.i < S.length := by rw [hS1.ls]; exact hxi
          obtain ⟨z0, z1⟩ := hS1.sec hxs
          generalize S[x.i] = s1 at z0 z1
          obtain ⟨e0, e1, e2, e3, e4, eg, es, et⟩ := hS1.c
          have ng1 : gt ≠ gs := tag_ne hS1.torn hS1.safe (by decide)
          have ng2 : gs ≠ gt := ng1.symm
          have ng3 : wr.heap.size ≠ gs := tag_ne hbx hS1.safe (by decide)
          have ng4 : wr.heap.size ≠ gt := tag_ne hbx hS1.torn (by decide)
          have ng5 : g ≠ gs := tag_ne hS1.blk hS1.safe (by decide)
          have ng6 : g ≠ gt := tag_ne hS1.blk hS1.torn (by decide)
          obtain ⟨p0, p1, p6⟩ := hS1.pw.c
          have HK := Lib.hid (qkept W1 Bp gp P j hS1.pw)
          have HS1 := Lib.hid hS1; have HD1 := Lib.hid hd1; have HSU := Lib.hid hsu
          have i1 : (0 : Int) ≤ (x.i : Int) := by omega
          have i2 : (x.i : Int) < (n : Int) := by omega
          have hns : n ≤ sc ∧ sc ≤ maxLen := hS1.hsc
          have i0 : (0 : Int) ≤ (j : Int) := by omega
          have i00 : (j : Int) < (k : Int) := by omega
          clear hS hS1 hd1 hdat hsu hSS hbx hx hlt' hxs
          subst hW1
          by_cases ht : (j : Int) = P.torn
          · have d2 : ((j : Int) == P.torn) = true := beq_iff_eq.2 ht
            have HR : Hid (safeAt P xs ss (j + 1) = S.set x.i ⟨(S.getD x.i Sec.none).d, true⟩) := HSU.out.trans (if_pos ht)
            clear ht
            go_wp2
            go_region
            go_wp2
            go_roundw
            case rel => exact ⟨j + 1, by omega, by go_num, by rw [HR.out]; first | exact (HS1.out.tear hxi).drew | exact HS1.out.drew.tear hxi⟩
            case measure => simp [intOf]; omega
          · have d2 : ((j : Int) == P.torn) = false := beq_eq_false_iff_ne.2 ht
            have hsu2 := HSU.out.trans (if_neg ht)
            obtain ⟨b, hb⟩ : ∃ b, b = P.keep.getD j false := ⟨_, rfl⟩
            rw [← hb] at HK hsu2
            have HSU2 := Lib.hid hsu2
            clear ht hsu2 hb
            go_wp2_with (go_at_call 44; fail)
            refine HK.out.mono ?_
            rintro e w2 ⟨rfl, rfl⟩
            cases b with
            | true =>
              go_wp2
              go_region
              go_wp2
              go_roundw
              case rel => exact ⟨j + 1, by omega, by go_num, by rw [HSU2.out, if_pos (by trivial)]; first | exact (HS1.out.lay hxi x.d HD1.out).drew | exact HS1.out.drew.lay hxi x.d HD1.out⟩
              case measure => simp [intOf]; omega
            | false =>
              go_wp2
              go_roundw
              case rel => exact ⟨j + 1, by omega, by go_num, by rw [HSU2.out]; exact HS1.out⟩
              case measure => simp [intOf]; omega
        · have d1 : decide ((j : Int) < (k : Int)) = false := decide_eq_false (by omega)
          obtain rfl : j = k := by omega
          have HS3 := Lib.hid hS
          clear hS
          go_wp2
          go_end0
          refine ⟨rfl, ?_⟩
          rw [HWW.out]
          unfold RS.settle
          rw [HX.out, ← HLF.out]
          exact ⟨_, _, _, _, _, _, HS3.out.shut⟩

/-- The sectors with the first j writes laid on them. -/
def laidR (xs : List Wr) (ss : List Sec) : Nat → List Sec
  | 0 => ss
  | j + 1 =>
    match xs[j]? with
    | .none => laidR xs ss j
    | some x => (laidR xs ss j).set x.i ⟨x.d, false⟩
theorem laidR_succ {xs : List Wr} {ss : List Sec} {j : Nat} (h : j < xs.length) : laidR xs ss (j + 1) = (laidR xs ss j).set xs[j].i ⟨xs[j].d, false⟩ := by
  rw [laidR, List.getElem?_eq_getElem h]
theorem laidR_len (xs : List Wr) (ss : List Sec) : ∀ j, (laidR xs ss j).length = ss.length
  | 0 => rfl
  | j + 1 => by
    rw [laidR]
    split
    · exact laidR_len xs ss j
    · rw [List.length_set]; exact laidR_len xs ss j
/-- What Read tells. -/
def RS.get (R : RS) (off : Bool) (n : Nat) (i : Int) : Int × List Int := if off then (5, []) else if 0 ≤ i ∧ i < n then (if ((laidR R.xs R.ss R.xs.length).getD i.toNat Sec.none).t then (6, []) else (0, ((laidR R.xs R.ss R.xs.length).getD i.toNat Sec.none).d.z)) else (1, [])

theorem Ow.lo {w : World} {base b n cap : Nat} {ao : Option Addr} {zs : List Int} (h : Ow w base ao n cap zs) (hb : b ≤ base) : Ow w b ao n cap zs := by
  refine ⟨h.1, h.2.1, h.2.2.1, h.2.2.2.1, ?_⟩
  rcases h.2.2.2.2 with h2 | ⟨g, c, cur, q1, q2, q3⟩
  · exact .inl h2
  · exact .inr ⟨g, c, cur, q1, Nat.le_trans hb q2, q3⟩
set_option maxHeartbeats 2000000 in
theorem rread {w0 w : World} {B Bp g gp gt : Nat} {X : Option Addr} {n : Nat} {R : RS} {P : PP} (i : Int) (h : Rys w0 w B Bp g gp gt X n R P) (hx6 : R.xs.length ≤ 1000000) (hy6 : (R.wake P).xs.length ≤ 1000000) :
    Calls Try.prog 15 #[.pointer (some ⟨g, 0, none⟩), .int .i64 i] w fun e w' => RdR w ((R.wake P).get P.off n i) e w' ∧ Rys w0 w' B Bp g gp gt X n (R.wake P) P := by
  have HH := Lib.hid h
  have hwk := rwake h.refl hx6
  obtain ⟨D1, hD1⟩ : ∃ D1, D1 = R.wake P := ⟨_, rfl⟩
  rw [← hD1] at hwk hy6 ⊢
  have HW := Lib.hid hwk
  have HG : Hid (D1.get P.off n i = if P.off then (5, []) else if 0 ≤ i ∧ i < n then (if ((laidR D1.xs D1.ss D1.xs.length).getD i.toNat Sec.none).t then (6, []) else (0, ((laidR D1.xs D1.ss D1.xs.length).getD i.toNat Sec.none).d.z)) else (1, [])) := rfl
  obtain ⟨G, hG⟩ : ∃ G, G = D1.get P.off n i := ⟨_, rfl⟩
  rw [← hG] at HG ⊢
  clear h hwk hD1 hG
  go_enter Try.func15, Try.ntmps15
  go_wp2_with (go_at_call 36; fail)
  refine HW.out.mono ?_
  rintro e w1 ⟨rfl, hs0⟩
  have HS0 := Lib.hid hs0
  obtain ⟨gs, sc, rest, lo, k, lc, hs⟩ := hs0
  obtain ⟨c0, c1, c2, c3, c4, fg, fs, ft⟩ := hs.c
  obtain ⟨q0, q1, q6⟩ := hs.pw.c
  obtain ⟨off, hof⟩ : ∃ off, off = P.off := ⟨_, rfl⟩
  rw [← hof] at q0 HG
  have HS := Lib.hid hs
  clear hof hs HW
  cases off with
  | true =>
    obtain rfl : G = (5, []) := HG.out
    go_wp2
    go_ret2
    exact ⟨⟨none, 0, 0, rfl, Ow.none _ _⟩, HH.out.trans HS0.out⟩
  | false =>
    by_cases hi0 : i < 0
    · have d1 : decide (i < 0) = true := decide_eq_true hi0
      obtain rfl : G = (1, []) := by
        have := HG.out
        rw [if_neg (by decide), if_neg (by omega)] at this
        exact this
      clear hi0 HG
      go_wp2
      go_ret2
      exact ⟨⟨none, 0, 0, rfl, Ow.none _ _⟩, HH.out.trans HS0.out⟩
    have d1 : decide (i < 0) = false := decide_eq_false hi0
    by_cases hi1 : (n : Int) ≤ i
    · have d2 : decide ((n : Int) ≤ i) = true := decide_eq_true hi1
      obtain rfl : G = (1, []) := by
        have := HG.out
        rw [if_neg (by decide), if_neg (by omega)] at this
        exact this
      clear hi1 HG
      go_wp2
      go_ret2
      exact ⟨⟨none, 0, 0, rfl, Ow.none _ _⟩, HH.out.trans HS0.out⟩
    have d2 : decide ((n : Int) ≤ i) = false := decide_eq_false hi1
    obtain ⟨j, rfl⟩ := Int.eq_ofNat_of_zero_le (by omega : 0 ≤ i)
    have hjn : j < n := by omega
    have hG2 : G = if ((laidR D1.xs D1.ss D1.xs.length).getD j Sec.none).t then (6, []) else (0, ((laidR D1.xs D1.ss D1.xs.length).getD j Sec.none).d.z) := by
      have := HG.out
      rw [if_neg (by decide), if_pos (by omega), Int.toNat_natCast] at this
      exact this
    have HX := Lib.hid HS.out.lx
    obtain ⟨life, ss, xs⟩ := D1
    simp only at hG2 HX HS hy6
    have hk6 : k ≤ 1000000 := by rw [← HX.out]; exact hy6
    rw [HX.out] at hG2
    have HG2 := Lib.hid hG2
    clear HG hG2 hy6
    have i1 : (0 : Int) ≤ (j : Int) := by omega
    have i2 : (j : Int) < (n : Int) := by omega
    have d2' : decide (n ≤ j) = false := decide_eq_false (by omega)
    obtain ⟨wo, rfl⟩ : ∃ wo : World, wo = w1 := ⟨_, rfl⟩
    go_wp2
    go_loopw [6] (fun v wr => ∃ m : Nat, m ≤ k ∧ v = .int .i64 ((m : Int) - 1) ∧ (laidR xs ss m).getD j Sec.none = (laidR xs ss k).getD j Sec.none ∧ wr = wo) (fun v _ => (intOf v + 1).toNat)
    case atStart => exact ⟨k, Nat.le_refl _, rfl, rfl, rfl⟩
    case round =>
      obtain ⟨m, hm, rfl, hld, rfl⟩ := hrel
      have HLD := Lib.hid hld
      clear hld
      rcases m with _ | m
      · rw [show (((0 : Nat) : Int) - 1) = -1 by rfl]
        have hjs : j < ss.length := by rw [HS.out.ls]; exact hjn
        obtain ⟨z0, z1⟩ := HS.out.sec hjs
        obtain ⟨s, hss⟩ : ∃ s, s = ss[j] := ⟨_, rfl⟩
        have hsd : ss.getD j Sec.none = s := by rw [hss]; simp [List.getD, hjs]
        rw [← hss] at z0 z1
        have hds := HS.out.ds s (by rw [hss]; exact List.getElem_mem _)
        have hG3 := HG2.out
        have hld := HLD.out
        rw [laidR, hsd] at hld
        rw [← hld] at hG3
        obtain ⟨⟨sa, sl, sca, sz⟩, st⟩ := s
        simp only at z0 z1 hG3 hds
        have HG3 := Lib.hid hG3; have HDS := Lib.hid hds
        have HTW := Lib.hid (twin_any sa sl sca sz wr hds.2.1.1.len (by have := hds.1; simp only at this; omega) hds.2.1.1.rd hds.2.1.1.nil)
        clear hjs hss hsd hds hG3 hld
        cases st with
        | true =>
          obtain rfl : G = (6, []) := HG3.out
          go_wp2
          go_ret2
          exact ⟨⟨none, 0, 0, rfl, Ow.none _ _⟩, HH.out.trans HS0.out⟩
        | false =>
          obtain rfl : G = (0, sz) := HG3.out
          go_wp2_with (go_at_call 29; refine HTW.out.mono ?_; rintro e w5 ⟨k5, c5, rfl, ho5, hB5⟩; have HO5 := Lib.hid ho5; have HB5 := Lib.hid hB5; clear ho5 hB5)
          go_ret2
          exact ⟨⟨k5, sl, c5, rfl, HO5.out.lo HS0.out.kt.size⟩, HH.out.trans (HS0.out.below HB5.out)⟩
      · rw [show (((m + 1 : Nat) : Int) - 1) = (m : Int) by omega]
        have e0 : decide ((0 : Int) ≤ (m : Int)) = true := decide_eq_true (by omega)
        have hlt' : m < xs.length := by rw [HX.out]; omega
        obtain ⟨gx, rfl, x0, x1⟩ := HS.out.wr hlt'
        obtain ⟨x, hx⟩ : ∃ x, x = xs[m] := ⟨_, rfl⟩
        rw [← hx] at x0 x1
        obtain ⟨hdx, hxi⟩ := HS.out.dx x (by rw [hx]; exact List.getElem_mem _)
        have hsu := laidR_succ (ss := ss) hlt'
        rw [← hx] at hsu
        have hxl : x.i < (laidR xs ss m).length := by rw [laidR_len, HS.out.ls]; exact hxi
        have hjl : j < (laidR xs ss m).length := by rw [laidR_len, HS.out.ls]; exact hjn
        have j1 : (0 : Int) ≤ (m : Int) := by omega
        have j2 : (m : Int) < (k : Int) := by omega
        by_cases hij : x.i = j
        · have d3 : ((x.i : Int) == (j : Int)) = true := by simp [hij]
          have d3' : (x.i == j) = true := by simp [hij]
          have hv : (laidR xs ss (m + 1)).getD j Sec.none = ⟨x.d, false⟩ := by
            rw [hsu, List.getD, ← hij, List.getElem?_set_self hxl]; rfl
          have hG3 := HG2.out
          rw [← HLD.out, hv] at hG3
          obtain rfl : G = (0, x.d.z) := hG3
          have HTW := Lib.hid (twin_any x.d.a x.d.l x.d.c x.d.z wr hdx.2.1.1.len (by have := hdx.1; omega) hdx.2.1.1.rd hdx.2.1.1.nil)
          clear hdx hsu hxl hjl hv hx HG2
          go_wp2_with (go_at_call 29; refine HTW.out.mono ?_; rintro e w5 ⟨k5, c5, rfl, ho5, hB5⟩; have HO5 := Lib.hid ho5; have HB5 := Lib.hid hB5; clear ho5 hB5)
          go_ret2
          exact ⟨⟨k5, _, c5, rfl, HO5.out.lo HS0.out.kt.size⟩, HH.out.trans (HS0.out.below HB5.out)⟩
        · have d3 : ((x.i : Int) == (j : Int)) = false := beq_eq_false_iff_ne.2 (by omega)
          have d3' : (x.i == j) = false := beq_eq_false_iff_ne.2 hij
          have hv : (laidR xs ss m).getD j Sec.none = (laidR xs ss k).getD j Sec.none := by
            rw [← HLD.out, hsu, List.getD, List.getD, List.getElem?_set_ne hij]
          have HV := Lib.hid hv
          clear hdx hsu hxl hjl hv hx
          go_wp2
          go_roundw
          case rel => exact ⟨m, by omega, rfl, HV.out, by first | trivial | rfl⟩
          case measure => first | (simp [intOf]; done) | (simp [intOf]; omega)

end Go.Proofs.Ytaajdaikfabchaa
