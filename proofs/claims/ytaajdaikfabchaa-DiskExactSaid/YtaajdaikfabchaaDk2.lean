/-
  The disk: settle, wake, has, Sectors.
-/
import Derived.Test.YtaajdaikfabchaaDk1
namespace Go.Proofs.Ytaajdaikfabchaa
open Go.RowKit
set_option linter.unusedVariables false

theorem PwM.kt {S : Nat → Bool} {x : Option Nat} {w w' : World} {B g : Nat} {P : PP} (h : PwM w B g P) (hk : KT S x w w') (h61 : S 61 = false) (h4 : S 4 = false) (hx : ∀ b, x = some b → b < B ∧ b ≠ g) : PwM w' B g P := by
  obtain ⟨cs, hc⟩ := h.blk
  refine h.of ((hk.keep g _ _ _ (fun e => (hx g e).2 rfl) h61 hc).trans hc.symm) fun b cs fr hb hh => hk.keep b _ _ _ (fun e => ?_) h4 hh
  have := (hx b e).1; omega

/-- THE DISK AND ITS POWER, and what has stayed since w0. -/
structure Sy (w0 w : World) (B Bp g gp gn gs : Nat) (life : Int) (n : Nat) (oo : Option Addr) (k oc : Nat) (ns ss : List Sec) (xs : List Wr) (P : PP) : Prop where
  d : DkB w B g gp gn gs life n oo k oc ns ss xs
  p : PwM w Bp gp P
  low : Below B w0 w
  kt : KT KD Option.none w0 w
section
variable {w0 w w' : World} {B Bp g gp gn gs : Nat} {life : Int} {n : Nat} {oo : Option Addr} {k oc : Nat} {ns ss : List Sec} {xs : List Wr} {P : PP}
theorem Sy.below (h : Sy w0 w B Bp g gp gn gs life n oo k oc ns ss xs P) (hB : Below w.heap.size w w') : Sy w0 w' B Bp g gp gn gs life n oo k oc ns ss xs P :=
  ⟨h.d.below hB, h.p.below hB, h.low.trans (hB.mono h.d.low.2.2.2.2), h.kt.trans (KT.below _ _ hB)⟩
theorem Sy.drew (h : Sy w0 w B Bp g gp gn gs life n oo k oc ns ss xs P) : Sy w0 w.drew B Bp g gp gn gs life n oo k oc ns ss xs P := h.below (Below.refl _ _).drew
theorem Sy.alloc (h : Sy w0 w B Bp g gp gn gs life n oo k oc ns ss xs P) (o : Obj) : Sy w0 (w.alloc o) B Bp g gp gn gs life n oo k oc ns ss xs P := h.below ((Below.refl _ _).alloc (Nat.le_refl _) _)
theorem PwM.set {w : World} {B g : Nat} {P : PP} (h : PwM w B g P) {b t : Nat} {cs : Array Value} {fr : Nat × Nat} (hb : w.heap[b]? = some (.cells cs t fr)) (h61 : t ≠ 61) (h4 : t ≠ 4) (i : Nat) (u : Value) : PwM (w.setCell ⟨b, i, Option.none⟩ u) B g P :=
  h.kt (KT.set (S := fun s => s == t) (x := Option.none) hb (by simp) i u) (by simp; omega) (by simp; omega) (fun _ => nofun)
theorem Sy.tear (h : Sy w0 w B Bp g gp gn gs life n oo k oc ns ss xs P) {i : Nat} (hi : i < n) : Sy w0 (w.setCell ⟨gs, i * 2 + 1, Option.none⟩ (.bool true)) B Bp g gp gn gs life n oo k oc ns (ss.set i ⟨(ss.getD i Sec.none).d, true⟩) xs P :=
  ⟨h.d.tear hi, h.p.set h.d.safe (by decide) (by decide) _ _, h.low.setCell h.d.low.2.2.1 _, h.kt.trans (KT.set h.d.safe rfl _ _)⟩
theorem Sy.lay (h : Sy w0 w B Bp g gp gn gs life n oo k oc ns ss xs P) {i : Nat} (hi : i < n) (s : Sec) (hd : Dat w B s.d) : Sy w0 ((w.setCell ⟨gs, i * 2, Option.none⟩ (.slice s.d.a s.d.l s.d.c)).setCell ⟨gs, i * 2 + 1, Option.none⟩ (.bool s.t)) B Bp g gp gn gs life n oo k oc ns (ss.set i s) xs P :=
  have h1 := h.d.safe.set (j := i * 2) (.slice s.d.a s.d.l s.d.c)
  ⟨h.d.lay hi s hd, (h.p.set h.d.safe (by decide) (by decide) _ _).set h1 (by decide) (by decide) _ _, (h.low.setCell h.d.low.2.2.1 _).setCell h.d.low.2.2.1 _, (h.kt.trans (KT.set h.d.safe rfl _ _)).trans (KT.set h1 rfl _ _)⟩
theorem Sy.put (h : Sy w0 w B Bp g gp gn gs life n oo k oc ns ss xs P) {i : Nat} (hi : i < n) (s : Sec) (hd : Dat w B s.d) : Sy w0 ((w.setCell ⟨gn, i * 2, Option.none⟩ (.slice s.d.a s.d.l s.d.c)).setCell ⟨gn, i * 2 + 1, Option.none⟩ (.bool s.t)) B Bp g gp gn gs life n oo k oc (ns.set i s) ss xs P :=
  have h1 := h.d.now.set (j := i * 2) (.slice s.d.a s.d.l s.d.c)
  ⟨h.d.put hi s hd, (h.p.set h.d.now (by decide) (by decide) _ _).set h1 (by decide) (by decide) _ _, (h.low.setCell h.d.low.2.1 _).setCell h.d.low.2.1 _, (h.kt.trans (KT.set h.d.now rfl _ _)).trans (KT.set h1 rfl _ _)⟩
theorem Sy.live (h : Sy w0 w B Bp g gp gn gs life n oo k oc ns ss xs P) (l : Int) : Sy w0 (w.setCell ⟨g, 1, Option.none⟩ (.int .i64 l)) B Bp g gp gn gs l n oo k oc ns ss xs P :=
  ⟨h.d.live l, h.p.set h.d.blk (by decide) (by decide) _ _, h.low.setCell h.d.low.1 _, h.kt.trans (KT.set h.d.blk rfl _ _)⟩
theorem Sy.shut (h : Sy w0 w B Bp g gp gn gs life n oo k oc ns ss xs P) : Sy w0 (w.setCell ⟨g, 4, Option.none⟩ (.slice Option.none 0 0)) B Bp g gp gn gs life n Option.none 0 0 ns ss [] P :=
  ⟨h.d.shut, h.p.set h.d.blk (by decide) (by decide) _ _, h.low.setCell h.d.low.1 _, h.kt.trans (KT.set h.d.blk rfl _ _)⟩
end

/-- The safe sectors behind the first j writes. -/
def safeAt (P : PP) (xs : List Wr) (ss : List Sec) : Nat → List Sec
  | 0 => ss
  | j + 1 =>
    match xs[j]? with
    | .none => safeAt P xs ss j
    | some x => if (j : Int) = P.torn then (safeAt P xs ss j).set x.i ⟨((safeAt P xs ss j).getD x.i Sec.none).d, true⟩ else if P.keep.getD j false then (safeAt P xs ss j).set x.i ⟨x.d, false⟩ else safeAt P xs ss j
/-- What is laid from src behind the first j writes. -/
def laidAt (xs : List Wr) (src ns : List Sec) : Nat → List Sec
  | 0 => ns
  | j + 1 =>
    match xs[j]? with
    | .none => laidAt xs src ns j
    | some x => (laidAt xs src ns j).set x.i (src.getD x.i Sec.none)
theorem safeAt_succ {P : PP} {xs : List Wr} {ss : List Sec} {j : Nat} (h : j < xs.length) : safeAt P xs ss (j + 1) = if (j : Int) = P.torn then (safeAt P xs ss j).set xs[j].i ⟨((safeAt P xs ss j).getD xs[j].i Sec.none).d, true⟩ else if P.keep.getD j false then (safeAt P xs ss j).set xs[j].i ⟨xs[j].d, false⟩ else safeAt P xs ss j := by
  rw [safeAt, List.getElem?_eq_getElem h]
theorem laidAt_succ {xs : List Wr} {src ns : List Sec} {j : Nat} (h : j < xs.length) : laidAt xs src ns (j + 1) = (laidAt xs src ns j).set xs[j].i (src.getD xs[j].i Sec.none) := by
  rw [laidAt, List.getElem?_eq_getElem h]

set_option maxHeartbeats 2000000 in
theorem settle_any {w : World} {B Bp g gp gn gs : Nat} {life : Int} {n : Nat} {oo : Option Addr} {k oc : Nat} {ns ss : List Sec} {xs : List Wr} {P : PP} {w0 : World} (h : Sy w0 w B Bp g gp gn gs life n oo k oc ns ss xs P) (hk6 : k ≤ 1000000) :
    Calls Try.prog 43 #[.pointer (some ⟨g, 0, none⟩)] w fun e w' => e = .returned (.tuple #[]) ∧ Sy w0 w' B Bp g gp gn gs life n none 0 0 (laidAt xs (safeAt P xs ss k) ns k) (safeAt P xs ss k) [] P := by
  obtain ⟨c0, c1, c2, c3, c4, fg, fn, fs⟩ := h.d.c
  have HX := Lib.hid h.d.lx; have HS := Lib.hid h
  obtain ⟨hn1, hn6⟩ := h.d.hn
  clear h
  go_enter Try.func43, Try.ntmps43
  go_wp2
  clear c0 c1 c2 c3 c4 fg fn fs
  go_loopw [11] (fun i wr => ∃ j : Nat, j ≤ k ∧ i = .int .i64 j ∧ Sy w0 wr B Bp g gp gn gs life n oo k oc ns (safeAt P xs ss j) xs P) (fun i _ => k - (intOf i).toNat)
  case atStart => exact ⟨0, Nat.zero_le _, rfl, HS.out⟩
  case round =>
    obtain ⟨j, hj, rfl, hS⟩ := hrel
    by_cases hlt : j < k
    · have d1 : decide ((j : Int) < (k : Int)) = true := decide_eq_true (by omega)
      have hlt' : j < xs.length := by rw [HX.out]; exact hlt
      obtain ⟨gx, rfl, x0, x1⟩ := hS.d.wr hlt'
      obtain ⟨x, hx⟩ : ∃ x, x = xs[j] := ⟨_, rfl⟩
      rw [← hx] at x0 x1
      obtain ⟨hdat, hxi, hxa⟩ := hS.d.dx x (by rw [hx]; exact List.getElem_mem _)
      have hsu := safeAt_succ (P := P) (ss := ss) hlt'
      rw [← hx] at hsu
      obtain ⟨S, hSS⟩ : ∃ S, S = safeAt P xs ss j := ⟨_, rfl⟩
      rw [← hSS] at hsu hS
      obtain ⟨W1, hW1⟩ : ∃ W1, W1 = wr.alloc (.cells #[.int .i64 x.i, .slice x.d.a x.d.l x.d.c] 77) := ⟨_, rfl⟩
      have hS1 : Sy w0 W1 B Bp g gp gn gs life n (some ⟨gx, 0, none⟩) k oc ns S xs P := by rw [hW1]; exact hS.alloc _
      have hd1 : Dat W1 B x.d := (hS1.d.dx x (by rw [hx]; exact List.getElem_mem _)).1
      have hbx : W1.heap[wr.heap.size]? = some (.cells #[.int .i64 x.i, .slice x.d.a x.d.l x.d.c] 77) := by rw [hW1]; exact heap_alloc_new _ _
      have y0 : W1.cell? ⟨wr.heap.size, 0, none⟩ = some (.int .i64 x.i) := by simp [World.cell?, hbx]
      have y1 : W1.cell? ⟨wr.heap.size, 1, none⟩ = some (.slice x.d.a x.d.l x.d.c) := by simp [World.cell?, hbx]
      have hxs : x.i < S.length := by rw [hS1.d.ls]; exact hxi
      obtain ⟨z0, z1⟩ := hS1.d.safe.sec hxs
      generalize S[x.i] = s1 at z0 z1
      have Z0 := Lib.hid z0; have Z1 := Lib.hid z1
      have cc := hS1.d.c
      rw [hW1] at cc
      obtain ⟨c0, c1, c2, c3, c4, fg, fn, fs⟩ := cc
      have HW1 := Lib.hid hW1; have HS1 := Lib.hid hS1; have HD1 := Lib.hid hd1; have HSU := Lib.hid hsu
      have HT := Lib.hid (ptorn W1 Bp gp P hS1.p); have HK := Lib.hid (pkept W1 Bp gp P j hS1.p)
      have i1 : (0 : Int) ≤ (x.i : Int) := by omega
      have i2 : (x.i : Int) < (n : Int) := by omega
      clear hS hS1 hd1 hdat hxa hsu hSS hW1 hbx hx hlt' z0 z1 hxs
      clear fg fn fs
      go_wp2_with (go_at_call 45; fail)
      rw [← HW1.out]
      clear c0 c1 c2 c3 c4 x0 x1
      obtain ⟨c0, c1, c2, c3, c4, fg, fn, fs⟩ := HS1.out.d.c
      have z0 := Z0.out; have z1 := Z1.out
      refine HT.out.mono ?_
      rintro e w2 ⟨rfl, rfl⟩
      by_cases ht : (j : Int) = P.torn
      · have d2 : ((j : Int) == P.torn) = true := beq_iff_eq.2 ht
        have HR : Hid (safeAt P xs ss (j + 1) = S.set x.i ⟨(S.getD x.i Sec.none).d, true⟩) := HSU.out.trans (if_pos ht)
        clear ht
        go_wp2
        go_region
        go_wp2
        go_roundw
        case rel => exact ⟨j + 1, by omega, by go_num, by rw [HR.out]; first | exact (HS1.out.tear hxi).drew | exact HS1.out.drew.tear hxi⟩
        case measure => simp [intOf]; omega
      · have d2 : ((j : Int) == P.torn) = false := beq_eq_false_iff_ne.2 ht
        have hsu2 := HSU.out.trans (if_neg ht)
        obtain ⟨b, hb⟩ : ∃ b, b = P.keep.getD j false := ⟨_, rfl⟩
        rw [← hb] at HK hsu2
        have HSU2 := Lib.hid hsu2
        clear ht hsu2 hb
        go_wp2_with (go_at_call 46; fail)
        refine HK.out.mono ?_
        rintro e w2 ⟨rfl, rfl⟩
        cases b with
        | true =>
          go_wp2
          go_region
          go_wp2
          go_roundw
          case rel => exact ⟨j + 1, by omega, by go_num, by rw [HSU2.out, if_pos (by trivial)]; first | exact (HS1.out.lay hxi ⟨x.d, false⟩ HD1.out).drew | exact HS1.out.drew.lay hxi ⟨x.d, false⟩ (HD1.out)⟩
          case measure => simp [intOf]; omega
        | false =>
          go_wp2
          go_roundw
          case rel => exact ⟨j + 1, by omega, by go_num, by rw [HSU2.out]; exact HS1.out⟩
          case measure => simp [intOf]; omega
    · have d1 : decide ((j : Int) < (k : Int)) = false := decide_eq_false (by omega)
      obtain rfl : j = k := by omega
      obtain ⟨S, hSS⟩ : ∃ S, S = safeAt P xs ss j := ⟨_, rfl⟩
      rw [← hSS] at hS
      have HSS := Lib.hid hSS
      obtain ⟨wo, rfl⟩ : ∃ wo : World, wo = wr := ⟨_, rfl⟩
      obtain ⟨c0, c1, c2, c3, c4, fg, fn, fs⟩ := hS.d.c
      have HS2 := Lib.hid hS
      clear hS hSS
      go_wp2
      clear c0 c1 c2 c3 c4 fg fn fs
      go_loopw [53] (fun i wr => ∃ q : Nat, q ≤ j ∧ i = .int .i64 q ∧ Sy w0 wr B Bp g gp gn gs life n oo j oc (laidAt xs S ns q) S xs P) (fun i _ => j - (intOf i).toNat)
      case atStart => exact ⟨0, Nat.zero_le _, rfl, HS2.out⟩
      case round =>
        obtain ⟨q, hq, rfl, hS⟩ := hrel
        by_cases hlt : q < j
        · have d1 : decide ((q : Int) < (j : Int)) = true := decide_eq_true (by omega)
          have hlt' : q < xs.length := by rw [HX.out]; exact hlt
          obtain ⟨gx, rfl, x0, x1⟩ := hS.d.wr hlt'
          obtain ⟨x, hx⟩ : ∃ x, x = xs[q] := ⟨_, rfl⟩
          rw [← hx] at x0 x1
          obtain ⟨hdat, hxi, hxa⟩ := hS.d.dx x (by rw [hx]; exact List.getElem_mem _)
          have hsu := laidAt_succ (src := S) (ns := ns) hlt'
          rw [← hx] at hsu
          obtain ⟨M, hMM⟩ : ∃ M, M = laidAt xs S ns q := ⟨_, rfl⟩
          rw [← hMM] at hsu hS
          obtain ⟨W1, hW1⟩ : ∃ W1, W1 = wr.alloc (.cells #[.int .i64 x.i, .slice x.d.a x.d.l x.d.c] 77) := ⟨_, rfl⟩
          have hS1 : Sy w0 W1 B Bp g gp gn gs life n (some ⟨gx, 0, none⟩) j oc M S xs P := by rw [hW1]; exact hS.alloc _
          have hbx : W1.heap[wr.heap.size]? = some (.cells #[.int .i64 x.i, .slice x.d.a x.d.l x.d.c] 77) := by rw [hW1]; exact heap_alloc_new _ _
          have y0 : W1.cell? ⟨wr.heap.size, 0, none⟩ = some (.int .i64 x.i) := by simp [World.cell?, hbx]
          have y1 : W1.cell? ⟨wr.heap.size, 1, none⟩ = some (.slice x.d.a x.d.l x.d.c) := by simp [World.cell?, hbx]
          have hxs : x.i < S.length := by rw [hS1.d.ls]; exact hxi
          obtain ⟨z0, z1⟩ := hS1.d.safe.sec hxs
          obtain ⟨s, hs⟩ : ∃ s, s = S[x.i] := ⟨_, rfl⟩
          have hsd : S.getD x.i Sec.none = s := by rw [hs]; simp [List.getD, hxs]
          rw [← hs] at z0 z1
          rw [hsd] at hsu
          have hds : Dat W1 B s.d := hS1.d.ds s (by rw [hs]; exact List.getElem_mem _)
          have hxm : x.i < M.length := by rw [hS1.d.ln]; exact hxi
          obtain ⟨u0, u1⟩ := hS1.d.now.sec hxm
          generalize M[x.i] = s2 at u0 u1
          obtain ⟨c0, c1, c2, c3, c4, fg, fn, fs⟩ := hS1.d.c
          have HW1 := Lib.hid hW1; have HS1 := Lib.hid hS1; have HSU := Lib.hid hsu; have HDS := Lib.hid hds
          have i1 : (0 : Int) ≤ (x.i : Int) := by omega
          have i2 : (x.i : Int) < (n : Int) := by omega
          clear hS hS1 hdat hxa hsu hMM hbx hx hlt' hsd hs hds hxs hW1 hxm
          go_wp2
          rw [← HW1.out]
          go_region
          go_wp2
          go_roundw
          case rel => exact ⟨q + 1, by omega, by go_num, by rw [HSU.out]; first | exact (HS1.out.put hxi s HDS.out).drew | exact HS1.out.drew.put hxi s HDS.out⟩
          case measure => simp [intOf]; omega
        · have d1 : decide ((q : Int) < (j : Int)) = false := decide_eq_false (by omega)
          obtain rfl : q = j := by omega
          obtain ⟨c0, c1, c2, c3, c4, fg, fn, fs⟩ := hS.d.c
          have HS3 := Lib.hid hS
          clear hS
          go_wp2
          go_end0
          exact ⟨rfl, by rw [← HSS.out]; exact HS3.out.shut⟩

end Go.Proofs.Ytaajdaikfabchaa
