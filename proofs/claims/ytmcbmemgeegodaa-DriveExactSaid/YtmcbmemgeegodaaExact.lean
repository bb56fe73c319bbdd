/-
  DriveExact: the walk.
-/
import Derived.Test.YtmcbmemgeegodaaRq12
import Derived.Test.YtmcbmemgeegodaaRq13
import Derived.Test.YtmcbmemgeegodaaRq14
import Derived.Deep.RegionHeld3
import Derived.Deep.CutRange
import Derived.Deep.CutBlock
import Derived.IntWalk
namespace Go.Proofs.Ytmcbmemgeegodaa
open Go.RowKit
set_option linter.unusedVariables false

set_option maxRecDepth 100000 in
set_option maxHeartbeats 16000000 in
theorem exact_walk (t : Tap) (ao : Option Addr) (n2 c2 : Nat) (l : List Done) (w : World) (h : t.ok w) (hl : l.length = n2) (hm : n2 ≤ maxLen) (hds : Ds w ao l) :
    Calls Try.prog 3 #[.agg #[.int .i64 t.p, .slice t.a t.n t.c], .slice ao n2 c2] w fun e w' => e = .returned (.bool true) ∧ Below w.heap.size w w' := by
  obtain ⟨W0, hW0⟩ : ∃ W0, W0 = w.alloc (.cells #[.int .i64 t.p, .slice t.a t.n t.c] 24) := ⟨_, rfl⟩
  have hB0 : Below w.heap.size w W0 := by rw [hW0]; exact (Below.refl _ _).alloc (Nat.le_refl _) _
  have hx : W0.heap[w.heap.size]? = some (.cells #[.int .i64 t.p, .slice t.a t.n t.c] 24 (0, 0)) := by rw [hW0]; exact new_cell _ _ _
  have hV : ∀ V, Below W0.heap.size W0 V → t.ok V := fun V hV => (h.below hB0).below hV
  have hhe := fun V (hb : Below W0.heap.size W0 V) => heavy_any t V (hV V hb)
  have hrm := fun V (hb : Below W0.heap.size W0 V) => refmed_any t V (hV V hb)
  have hhs := fun V (hb : Below W0.heap.size W0 V) => heavys_any ao n2 c2 l V hl hm ((hds.below hB0).below hb)
  have HHE := Lib.hid hhe; have HRM := Lib.hid hrm; have HB0 := Lib.hid hB0; have HX := Lib.hid hx; have HW0 := Lib.hid hW0; have HV := Lib.hid hV; have HHS := Lib.hid hhs
  have HDS := Lib.hid (hds.below hB0); have HL := Lib.hid hl
  have HWK := Lib.hid wakes12
  clear hhe hrm hB0 hx hV h hhs hds hl
  obtain ⟨x0, x1, _⟩ := cells2 HX.out
  rw [hW0] at x0 x1
  clear hW0
  go_enter Try.func3, Try.ntmps3
  go_wp2_with (go_at_call 8; fail)
  rw [← HW0.out]
  refine (HHE.out W0 (Below.refl _ _)).mono ?_
  rintro e w1 ⟨he, hB1⟩
  clear x0 x1
  have HB1 := Lib.hid hB1
  clear hB1
  rcases he with rfl | ⟨rfl, h80, h300⟩
  · go_wp2
    go_ret
    exact ⟨rfl, HB0.out.trans (HB1.out.mono HB0.out.size)⟩
  have H300 := Lib.hid h300; have H80 := Lib.hid h80
  clear h300 h80
  go_wp2_with (go_at_call 9; fail)
  refine (HHS.out w1 HB1.out).mono ?_
  rintro e w1' ⟨rfl | ⟨rfl, h200, hall⟩, rfl⟩
  · go_wp2
    go_ret
    exact ⟨rfl, HB0.out.trans (HB1.out.mono HB0.out.size)⟩
  have HALL := Lib.hid hall; have H200 := Lib.hid h200
  have HN := Lib.hid (pnew w1)
  clear hall h200 HHS HHE
  go_wp2_with (go_at_call 10; fail)
  refine HN.out.mono ?_
  rintro e w2 ⟨rfl, hp2, hB2⟩
  have hqn := qnew w2 (w2.heap.size + 1) (by omega)
  obtain ⟨gp, hgp⟩ : ∃ gp, gp = w1.heap.size := ⟨_, rfl⟩
  rw [← hgp] at hp2 ⊢
  have HQN := Lib.hid hqn; have HP2 := Lib.hid hp2; have HB2 := Lib.hid (HB1.out.trans (hB2.mono HB1.out.size)); have HGP := Lib.hid hgp
  clear hqn hp2 hB2 HN hgp
  go_wp2_with (go_at_call 11; fail)
  refine HQN.out.mono ?_
  rintro e w3 ⟨rfl, hq3, hB3⟩
  obtain ⟨gp2, hgp2⟩ : ∃ gp2, gp2 = w2.heap.size := ⟨_, rfl⟩
  rw [← hgp2] at hq3 ⊢
  have HP3 := Lib.hid (HP2.out.below hB3); have HQ3 := Lib.hid hq3; have HB3 := Lib.hid (HB2.out.trans (hB3.mono HB2.out.size)); have HGP2 := Lib.hid hgp2
  clear hq3 hB3 HQN HP2 hgp2
  have htw := fun V (hb : Below W0.heap.size W0 V) => twinmed_any t V (HV.out V hb) (fun k hk => Nat.le_trans (H300.out k hk) (by decide)) (by have := H80.out; omega)
  have HTW := Lib.hid htw
  clear htw
  obtain ⟨x0, x1, _⟩ := cells2 (cells2at HX.out HB3.out)
  go_wp2_with (go_at_call 12; fail)
  refine (HTW.out w3 HB3.out).mono ?_
  rintro e w4 ⟨k4, c4, cs4, rfl, hO4, hk4, hB4⟩
  obtain ⟨V4, hV4⟩ : ∃ V4, V4 = w4.alloc (.cells #[.int .i64 t.p, .slice k4 t.n c4] 24) := ⟨_, rfl⟩
  have hal : Below w4.heap.size w4 V4 := by rw [hV4]; exact (Below.refl _ _).alloc (Nat.le_refl _) _
  have hy : V4.heap[w4.heap.size]? = some (.cells #[.int .i64 t.p, .slice k4 t.n c4] 24 (0, 0)) := by rw [hV4]; exact new_cell _ _ _
  obtain ⟨g4, hg4⟩ : ∃ g4, g4 = w4.heap.size := ⟨_, rfl⟩
  have hb34 : Below w3.heap.size w3 V4 := hB4.trans (hal.mono hB4.size)
  have HOP := Lib.hid (hO4.tap t.p |>.below hal)
  have hcr := hO4.crowU
  have hcr' : t.n = 0 ∨ ∃ g, k4 = some ⟨g, 0, none⟩ ∧ w3.heap.size ≤ g ∧ g < w4.heap.size ∧ CRowU V4 w3.heap.size w4.heap.size g t.n := by
    rcases hcr with h0 | ⟨g, e, h1, h2, h3⟩
    · exact .inl h0
    · exact .inr ⟨g, e, h1, h2, h3.below hal⟩
  have HCR := Lib.hid hcr'
  have HB4 := Lib.hid (HB3.out.trans (hb34.mono HB3.out.size)); have HP4 := Lib.hid (HP3.out.below hb34); have HQ4 := Lib.hid (HQ3.out.below hb34)
  have HS34 : Hid (w3.heap.size ≤ w4.heap.size ∧ w4.heap.size ≤ V4.heap.size) := ⟨hB4.size, hal.size⟩
  obtain ⟨y0, y1, _⟩ := cells2 hy
  rw [← hg4] at hy
  have HY := Lib.hid hy; have HK4 := Lib.hid hk4; have HV4 := Lib.hid hV4; have HG4 := Lib.hid hg4
  rw [hV4] at y0 y1
  clear hB4 hal hy hg4 hb34 hcr hcr' hk4 hV4 hO4 x0 x1 HP3 HQ3
  cases hgd : goodK t.p t.ks with
  | false =>
    have hnb := dnew_bad gp ⟨t.p, k4, t.n, c4, cs4⟩ V4 HOP.out (by show goodK t.p (keys cs4) = false; rw [HK4.out]; exact hgd)
    have HNB := Lib.hid hnb; have HGD := Lib.hid hgd
    clear hnb hgd
    go_wp2_with (go_at_call 13; fail)
    rw [← HV4.out]
    refine HNB.out.mono ?_
    rintro e w5 ⟨rfl, hB5⟩
    have HB5 := Lib.hid (HB4.out.trans (hB5.mono HB4.out.size))
    clear hB5 y0 y1
    have hrm := HRM.out w5 HB5.out
    rw [HGD.out] at hrm
    have HR5 := Lib.hid hrm
    clear hrm
    obtain ⟨x0, x1, _⟩ := cells2 (cells2at HX.out HB5.out)
    go_wp2_with (first
      | (go_at_call 14; refine HR5.out.mono ?_; rintro e w6 ⟨rfl, hB6⟩; have HB6 := Lib.hid (HB5.out.trans (hB6.mono HB5.out.size)); clear hB6)
      | (go_at_call 15; refine (HWK.out _).mono ?_; rintro e w7 ⟨rfl, hB7⟩; have HB7 := Lib.hid (HB6.out.trans (hB7.mono HB6.out.size)); clear hB7))
    go_ret
    exact ⟨rfl, HB0.out.trans (HB7.out.mono HB0.out.size)⟩
  | true =>
    have hnb := dnew_fresh gp ⟨t.p, k4, t.n, c4, cs4⟩ V4 HOP.out (by show goodK t.p (keys cs4) = true; rw [HK4.out]; exact hgd)
    have HNB := Lib.hid hnb; have HGD := Lib.hid hgd
    clear hnb hgd
    go_wp2_with (go_at_call 13; fail)
    rw [← HV4.out]
    refine HNB.out.mono ?_
    rintro e w5 ⟨g, k5, n5, c5, cs5, rfl, hg, hb5, hO5, hk5, hB5⟩
    have HB5 := Lib.hid (HB4.out.trans (hB5.mono HB4.out.size)); have HBV5 := Lib.hid hB5; have HG := Lib.hid hg; have HBL5 := Lib.hid hb5; have HO5 := Lib.hid hO5; have HK5 := Lib.hid (hk5.trans HK4.out)
    have HP5 := Lib.hid (HP4.out.below hB5); have HQ5 := Lib.hid (HQ4.out.below hB5)
    clear hB5 y0 y1 hg hb5 hO5 hk5 HNB HP4 HQ4
    have hrm := HRM.out w5 HB5.out
    rw [HGD.out] at hrm
    have HR5 := Lib.hid hrm
    clear hrm
    obtain ⟨x0, x1, _⟩ := cells2 (cells2at HX.out HB5.out)
    go_wp2_with (go_at_call 14; fail)
    refine HR5.out.mono ?_
    rintro e w6 ⟨rfl, hB6⟩
    have HB6 := Lib.hid (HB5.out.trans (hB6.mono HB5.out.size)); have HBV6 := Lib.hid (HBV5.out.trans (hB6.mono HBV5.out.size))
    have HBL6 := Lib.hid (below_at hB6 (Array.getElem?_eq_some_iff.1 HBL5.out).1 HBL5.out)
    have HO6 := Lib.hid (HO5.out.below hB6); have HP6 := Lib.hid (HP5.out.below hB6); have HQ6 := Lib.hid (HQ5.out.below hB6)
    clear hB6 x0 x1 HR5 HBL5 HO5 HP5 HQ5 HBV5
    obtain ⟨y0, y1, _⟩ := cells2 (cells2at HY.out HBV6.out)
    rw [HG4.out] at y0 y1
    have hcr : t.n = 0 ∨ ∃ g, k4 = some ⟨g, 0, none⟩ ∧ w3.heap.size ≤ g ∧ g < w4.heap.size ∧ CRowU w6 w3.heap.size w4.heap.size g t.n := by
      rcases HCR.out with h0 | ⟨g, e, h1, h2, h3⟩
      · exact .inl h0
      · exact .inr ⟨g, e, h1, h2, h3.below HBV6.out⟩
    have hs6 : w4.heap.size ≤ w6.heap.size := Nat.le_trans HS34.out.2 HBV6.out.size
    have hspm := spoilm_up w3.heap.size w4.heap.size t.p k4 t.n c4 w6 (by have := H80.out; unfold maxLen; omega) hcr (Nat.le_trans HS34.out.1 hs6) hs6
    have HSPM := Lib.hid hspm
    clear hcr hs6 hspm
    go_wp2_with (go_at_call 16; fail)
    refine HSPM.out.mono ?_
    rintro e w7 ⟨rfl, hB7, hK7, hU7⟩
    have HB7 := Lib.hid (HB6.out.trans (hB7.mono HB3.out.size))
    have hkt7 : KT (fun t => t == 5 || t == 62) none w6 w7 := ⟨hB7.size, fun b c tt fr _ ht hh => by
      simp only [Bool.or_eq_false_iff, beq_eq_false_iff_ne] at ht
      exact hK7 b c tt fr ht.1 ht.2 hh⟩
    have HP7 := Lib.hid (HP6.out.kt hkt7 rfl rfl (fun _ e => by cases e)); have HQ7 := Lib.hid (HQ6.out.kt hkt7 rfl rfl (fun _ e => by cases e))
    have HBL7 := Lib.hid (hkt7.keep _ _ _ _ (fun e => by cases e) rfl HBL6.out)
    have HO7 := Lib.hid ((HO6.out.up (w' := w7) (fun b h1 h2 => hU7 b (Nat.le_trans HS34.out.2 h1) h2)))
    clear hB7 hK7 hU7 hkt7 y0 y1 HSPM HP6 HQ6 HO6 HBL6 HBV6
    obtain ⟨x0, x1, _⟩ := cells2 (cells2at HX.out HB7.out)
    go_wp2_with (go_at_call 12; fail)
    refine (HTW.out w7 HB7.out).mono ?_
    rintro e w8 ⟨k8, c8, cs8, rfl, hO8, hk8, hB8⟩
    obtain ⟨W9, hW9⟩ : ∃ W9, W9 = w8.alloc (.cells #[.pointer (some ⟨gp2, 0, none⟩), .int .i64 t.p, .slice k8 t.n c8, .int .i64 0] 41) := ⟨_, rfl⟩
    have hal : Below w8.heap.size w8 W9 := by rw [hW9]; exact (Below.refl _ _).alloc (Nat.le_refl _) _
    have hb79 : Below w7.heap.size w7 W9 := hB8.trans (hal.mono hB8.size)
    have hbl9 : W9.heap[w8.heap.size]? = some (.cells #[.pointer (some ⟨gp2, 0, none⟩), .int .i64 t.p, .slice k8 t.n c8, .int .i64 0] 41 (0, 0)) := by rw [hW9]; exact heap_alloc_new _ _
    obtain ⟨g2, hg2⟩ : ∃ g2, g2 = w8.heap.size := ⟨_, rfl⟩
    rw [← hg2] at hbl9
    have hb9 := HB7.out.trans (hb79.mono HB7.out.size)
    have hp9 : PwM W9 W9.heap.size gp PP.new := (HP7.out.below hb79).raise ((HP7.out.below hb79).lt.1)
    have hq9 : PqM W9 W9.heap.size gp2 PP.new := (HQ7.out.below hb79).raise ((HQ7.out.below hb79).lt.1)
    have hge : W0.heap.size ≤ gp := by rw [HGP.out]; exact HB1.out.size
    have hge2 : W0.heap.size ≤ gp2 := by rw [HGP2.out]; exact HB2.out.size
    have hgg : W0.heap.size ≤ g := Nat.le_trans HB4.out.size HG.out
    have hgg2 : W0.heap.size ≤ g2 := by rw [hg2]; exact Nat.le_trans HB7.out.size hB8.size
    have hgdk := HGD.out
    have ha : Dsy W9 W9 W0.heap.size W9.heap.size g gp ⟨t.p, t.ks, 0⟩ PP.new :=
      ⟨k5, n5, c5, cs5, ⟨(below_at hb79 (Array.getElem?_eq_some_iff.1 HBL7.out).1 HBL7.out), (HO7.out.below hb79).low HB4.out.size, ⟨hgg, hge, hb9.size⟩⟩, HK5.out, hgdk, Nat.zero_le _, hp9, Below.refl _ _, KT.refl _ _ _⟩
    have hb : Esy W9 W9 W0.heap.size W9.heap.size g2 gp2 ⟨t.p, t.ks, 0⟩ PP.new :=
      ⟨k8, t.n, c8, cs8, ⟨hbl9, (hO8.below hal).low HB7.out.size, ⟨hgg2, hge2, hb9.size⟩⟩, hk8, hgdk, Nat.zero_le _, hq9, Below.refl _ _, KT.refl _ _ _⟩
    obtain ⟨Bp, hBp⟩ : ∃ Bp, Bp = W9.heap.size := ⟨_, rfl⟩
    rw [← hBp] at ha hb
    have hxr : XR W0 W9 Bp g gp g2 gp2 t.p 0 ⟨t.p, t.ks, 0⟩ PP.new := ⟨⟨ha, hb, hb9, by rw [hBp]; exact Nat.le_refl _⟩, rfl, Int.le_refl _, Int.le_refl _⟩
    have HXR := Lib.hid hxr; have HW9 := Lib.hid hW9; have HG2 := Lib.hid hg2
    have hcm : ∀ V, Below W0.heap.size W0 V → V.cell? ⟨w.heap.size, 0, none⟩ = some (.int .i64 t.p) := fun V hb => (cells2 (cells2at HX.out hb)).1
    have HCM := Lib.hid hcm
    clear hcm hxr hW9 hg2 ha hb hBp hgdk hgg hgg2 hge hge2 hp9 hq9 hb9 hbl9 hb79 hal hB8 hk8 hO8 x0 x1 HO7 HBL7 HP7 HQ7 HB7 HK5 HTW HCR HB6 HB5 HG HB4 HOP HY HK4 HV4 HG4 HS34 HB3 HB2 HB1 HGP HGP2 HRM H300 H80 HGD
    go_wp2
    rw [← HW9.out, ← HG2.out]
    go_loopw [11] (fun i wr => ∃ (k : Nat) (T : TD) (P : PP), k ≤ n2 ∧ k ≤ 50 ∧ i = .int .i64 k ∧ XR W0 wr Bp g gp g2 gp2 t.p k T P) (fun i _ => n2 - (intOf i).toNat)
    case atStart => exact ⟨0, _, _, Nat.zero_le _, by omega, rfl, HXR.out⟩
    case round =>
      obtain ⟨k, T, P, hk, hk5, rfl, hxr⟩ := hrel
      have HE := Lib.hid hxr
      clear hxr HXR
      by_cases hgo : k < n2 ∧ k < 50
      · obtain ⟨hkn, hk50⟩ := hgo
        have f1 : decide ((k : Int) < (n2 : Int)) = true := decide_eq_true (by omega)
        have f1' : decide (k < n2) = true := decide_eq_true hkn
        have f2 : decide ((k : Int) < 50) = true := decide_eq_true (by omega)
        have i3 : (0 : Int) ≤ (k : Int) := by omega
        have i4 : (k : Int) < (n2 : Int) := by omega
        have hkl : k < l.length := by rw [HL.out]; exact hkn
        obtain ⟨ab, ao', rfl, ⟨c0, c1, c2', c3, c4'⟩, hok⟩ := (HDS.out.below HE.out.em.bel).at hkl
        have hok0 : l[k].ok W0 := by
          rcases HDS.out with h | ⟨_, _, _, h⟩
          · rw [h] at hkl; simp at hkl
          · exact (h k hkl).2
        have h300 := HALL.out k hkl hk50
        obtain ⟨r, hr⟩ : ∃ r, r = l[k] := ⟨_, rfl⟩
        rw [← hr] at c0 c1 c2' c3 c4' hok hok0 h300
        obtain ⟨W1, hW1⟩ : ∃ W1, W1 = wr.alloc (.cells #[.int .i64 r.o, .int .i64 r.i, .int .i64 r.n, .slice r.b.a r.b.l r.b.c, .int .i64 r.t] 44) := ⟨_, rfl⟩
        have hB1 : Below wr.heap.size wr W1 := by rw [hW1]; exact (Below.refl _ _).alloc (Nat.le_refl _) _
        have hx1 : W1.heap[wr.heap.size]? = some (.cells #[.int .i64 r.o, .int .i64 r.i, .int .i64 r.n, .slice r.b.a r.b.l r.b.c, .int .i64 r.t] 44) := by rw [hW1]; exact heap_alloc_new _ _
        obtain ⟨ga, hga⟩ : ∃ ga, ga = wr.heap.size := ⟨_, rfl⟩
        rw [← hga] at hx1
        have hem := HE.out.em.below hB1 HE.out.em.bel.size
        obtain ⟨kk, hkk9, hkk⟩ := urem_at r.o 12 (by omega) (by omega)
        have HW1 := Lib.hid hW1; have HX1 := Lib.hid hx1; have HGA := Lib.hid hga; have HM := Lib.hid hem; have HOK0 := Lib.hid hok0; have H300 := Lib.hid h300; have HKK := Lib.hid hkk
        have hcase : kk = 3 ∨ kk = 4 ∨ kk = 5 ∨ kk = 6 ∨ kk = 7 ∨ kk = 8 ∨ kk = 9 ∨ kk = 10 ∨ kk = 11 ∨ kk ≤ 2 := by omega
        clear hW1 hB1 hx1 hga hem hok hok0 h300 hkk hr hkl hkk9
        go_upto_block 2 with (fail)
        rw [← HW1.out, ← HGA.out]
        clear c0 c1 c2' c3 c4'
        go_cut [] from 64 to 217 (fun wc => ∃ T' P', XR W0 wc Bp g gp g2 gp2 t.p (k + 1) T' P')
        case first =>
          have hcl : ∀ V : World, V.heap[ga]? = some (.cells #[.int .i64 r.o, .int .i64 r.i, .int .i64 r.n, .slice r.b.a r.b.l r.b.c, .int .i64 r.t] 44) → V.cell? ⟨ga, 0, none⟩ = some (.int .i64 r.o) ∧ V.cell? ⟨ga, 1, none⟩ = some (.int .i64 r.i) ∧ V.cell? ⟨ga, 2, none⟩ = some (.int .i64 r.n) ∧ V.cell? ⟨ga, 3, none⟩ = some (.slice r.b.a r.b.l r.b.c) ∧ V.cell? ⟨ga, 4, none⟩ = some (.int .i64 r.t) := fun V hV =>
            ⟨by simp only [World.cell?, hV]; rfl, by simp only [World.cell?, hV]; rfl, by simp only [World.cell?, hV]; rfl, by simp only [World.cell?, hV]; rfl, by simp only [World.cell?, hV]; rfl⟩
          have HCL := Lib.hid hcl
          clear hcl
          obtain ⟨y0, y1, y2, y3, y4⟩ := HCL.out W1 HX1.out
          have hkk := HKK.out
          rcases hcase with h | h | h | h | h | h | h | h | h | h
          · -- Read
            as_aux_lemma =>
              subst h
              have hrd := dread_z HM.out.a
              have HRD := Lib.hid hrd
              obtain ⟨G, hG⟩ : ∃ G, G = T.got P.off := ⟨_, rfl⟩
              rw [← hG] at HRD
              have HGG := Lib.hid hG
              clear hrd hG y0 y1 y2 y3 y4
              go_wp2_with (go_at_call 17; fail)
              refine HRD.out.mono ?_
              rintro e w6 ⟨kx, cx, rfl, hox, hz6⟩
              have hez := (HM.out.b.z (ow_ge hox)).turn hz6.sy.kt rfl rfl rfl rfl rfl
              have hre := eread_z hez
              rw [← HGG.out] at hre
              have HOX := Lib.hid hox; have HZ6 := Lib.hid hz6; have HRE := Lib.hid hre
              clear hox hz6 hez hre HRD
              go_wp2_with (go_at_call 18; fail)
              refine HRE.out.mono ?_
              rintro e w7 ⟨ky, cy, rfl, hoy, hz7⟩
              have hox7 := HOX.out.kt hz7.sy.kt rfl
              have hcmp := bytes_cmp kx ky G.2.length G.2.length cx cy G.2 G.2 w7 rfl rfl (Nat.le_trans hox7.2.1 hox7.2.2.1) hox7.rd hoy.rd
              rw [decide_eq_true rfl] at hcmp
              obtain ⟨er, her⟩ : ∃ er, er = G.1 := ⟨_, rfl⟩
              obtain ⟨gl, hgl⟩ : ∃ gl, gl = G.2.length := ⟨_, rfl⟩
              rw [← hgl] at hcmp hox7
              rw [← her, ← hgl]
              have de : (er != er) = false := by simp
              have HCMP := Lib.hid hcmp; have HOX7 := Lib.hid hox7; have HZ7 := Lib.hid hz7.refl; have HS67 := Lib.hid hz7.sy.kt.size
              have HA7 := Lib.hid (HZ6.out.refl.turn hz7.sy.kt rfl rfl rfl rfl rfl)
              have HB7 := Lib.hid ((HM.out.bel.trans HZ6.out.sy.bel).trans hz7.sy.bel)
              clear hoy hz7 hox7 hcmp her hgl HRE HOX
              go_wp2_with (go_at_call 19; fail)
              refine HCMP.out.mono ?_
              rintro e w8 ⟨rfl, qn, hqn⟩
              have hB8 : Below w7.heap.size w7 w8 := by rw [hqn]; exact below_drewN (Below.refl _ _) qn
              have hkt8 : KT (fun _ => false) none w7 w8 := KT.below _ _ hB8
              have hox8 := HOX7.out.below hB8
              have HA8 := Lib.hid (HA7.out.turn hkt8 rfl rfl rfl rfl rfl); have HE8 := Lib.hid (HZ7.out.turn hkt8 rfl rfl rfl rfl rfl)
              have hb8 := HB7.out.trans (hB8.mono HB7.out.size)
              have hsz : W1.heap.size ≤ w8.heap.size := Nat.le_trans (Nat.le_trans HZ6.out.sy.kt.size HS67.out) hB8.size
              have HSZ := Lib.hid hsz
              have hsp := spoil_own W1.heap.size kx gl cx G.2 w8 hox8 hsz
              have HSP := Lib.hid hsp; have HB8 := Lib.hid hb8
              clear hqn hB8 hkt8 hox8 hb8 hsp hsz HCMP HOX7 HA7 HZ7
              go_wp2_with (go_at_call 20; fail)
              refine HSP.out.mono ?_
              rintro e w9 ⟨rfl, hB9, hspo⟩
              have hem9 : EM W0 w9 W0.heap.size Bp g gp g2 gp2 (T.gone P.off) (T.gone P.off) P P := ⟨HA8.out.spo hspo, HE8.out.spo hspo, HB8.out.trans (hB9.mono HM.out.bel.size), Nat.le_trans HM.out.bp (Nat.le_trans HSZ.out hB9.size)⟩
              have hxr9 := HE.out.to hem9 (gone_p _ _) (Int.le_refl _) (by omega)
              have HX9 := Lib.hid hxr9
              clear hB9 hspo hem9 hxr9 HSP HA8 HE8 HB8
              go_wp2
              go_meet
              case rel => exact ⟨_, _, HX9.out⟩
          · -- Mark
            as_aux_lemma =>
              subst h
              obtain ⟨L, hL⟩ : ∃ L, L = T.mark P := ⟨_, rfl⟩
              have hA := dmark HM.out.a
              rw [← hL] at hA
              obtain ⟨hp, hl⟩ := mark_p T P
              rw [← hL] at hp hl
              obtain ⟨er, T', P'⟩ := L
              simp only at hA hp hl
              have HA := Lib.hid hA; have HLL := Lib.hid hL; have HPP := Lib.hid hp; have HLF := Lib.hid hl
              have de : (er != er) = false := by simp
              clear hA hL hp hl y0 y1 y2 y3 y4
              go_wp2_with (go_at_call 21; fail)
              refine HA.out.mono ?_
              rintro e w6 ⟨rfl, hs6⟩
              have hem6 := HM.out.stepA hs6
              have hB := emark hem6.b hem6.bp
              rw [← HLL.out] at hB
              simp only at hB
              have HB := Lib.hid hB; have HM6 := Lib.hid hem6
              clear hs6 hem6 hB HA
              go_wp2_with (go_at_call 22; fail)
              refine HB.out.mono ?_
              rintro e w7 ⟨rfl, hs7⟩
              have hxr9 := HE.out.to (HM6.out.stepB hs7) HPP.out (by rw [HLF.out]; exact Int.le_refl _) (by rw [HLF.out]; omega)
              have HX9 := Lib.hid hxr9
              clear hs7 hxr9 HB HM6 HLL
              go_wp2
              go_meet
              case rel => exact ⟨_, _, HX9.out⟩
          · -- Mark
            as_aux_lemma =>
              subst h
              obtain ⟨L, hL⟩ : ∃ L, L = T.mark P := ⟨_, rfl⟩
              have hA := dmark HM.out.a
              rw [← hL] at hA
              obtain ⟨hp, hl⟩ := mark_p T P
              rw [← hL] at hp hl
              obtain ⟨er, T', P'⟩ := L
              simp only at hA hp hl
              have HA := Lib.hid hA; have HLL := Lib.hid hL; have HPP := Lib.hid hp; have HLF := Lib.hid hl
              have de : (er != er) = false := by simp
              clear hA hL hp hl y0 y1 y2 y3 y4
              go_wp2_with (go_at_call 21; fail)
              refine HA.out.mono ?_
              rintro e w6 ⟨rfl, hs6⟩
              have hem6 := HM.out.stepA hs6
              have hB := emark hem6.b hem6.bp
              rw [← HLL.out] at hB
              simp only at hB
              have HB := Lib.hid hB; have HM6 := Lib.hid hem6
              clear hs6 hem6 hB HA
              go_wp2_with (go_at_call 22; fail)
              refine HB.out.mono ?_
              rintro e w7 ⟨rfl, hs7⟩
              have hxr9 := HE.out.to (HM6.out.stepB hs7) HPP.out (by rw [HLF.out]; exact Int.le_refl _) (by rw [HLF.out]; omega)
              have HX9 := Lib.hid hxr9
              clear hs7 hxr9 HB HM6 HLL
              go_wp2
              go_meet
              case rel => exact ⟨_, _, HX9.out⟩
          · -- End
            as_aux_lemma =>
              subst h
              obtain ⟨L, hL⟩ : ∃ L, L = T.fin P := ⟨_, rfl⟩
              have hA := dfin HM.out.a
              rw [← hL] at hA
              obtain ⟨hp, hl⟩ := fin_p T P
              rw [← hL] at hp hl
              obtain ⟨er, T', P'⟩ := L
              simp only at hA hp hl
              have HA := Lib.hid hA; have HLL := Lib.hid hL; have HPP := Lib.hid hp; have HLF := Lib.hid hl
              have de : (er != er) = false := by simp
              clear hA hL hp hl y0 y1 y2 y3 y4
              go_wp2_with (go_at_call 23; fail)
              refine HA.out.mono ?_
              rintro e w6 ⟨rfl, hs6⟩
              have hem6 := HM.out.stepA hs6
              have hB := eend hem6.b hem6.bp
              rw [← HLL.out] at hB
              simp only at hB
              have HB := Lib.hid hB; have HM6 := Lib.hid hem6
              clear hs6 hem6 hB HA
              go_wp2_with (go_at_call 24; fail)
              refine HB.out.mono ?_
              rintro e w7 ⟨rfl, hs7⟩
              have hxr9 := HE.out.to (HM6.out.stepB hs7) HPP.out (by rw [HLF.out]; exact Int.le_refl _) (by rw [HLF.out]; omega)
              have HX9 := Lib.hid hxr9
              clear hs7 hxr9 HB HM6 HLL
              go_wp2
              go_meet
              case rel => exact ⟨_, _, HX9.out⟩
          · -- Locate
            as_aux_lemma =>
              subst h
              obtain ⟨L, hL⟩ : ∃ L, L = T.loc P.off r.i r.n := ⟨_, rfl⟩
              have hA := fun V (hv : Below W1.heap.size W1 V) => dlocate (HM.out.below hv HM.out.bel.size).a r.i r.n HOK0.out.i HOK0.out.n
              rw [← hL] at hA
              obtain ⟨er, at'⟩ := L
              simp only at hA
              have HA := Lib.hid hA; have HLL := Lib.hid hL
              have de : (er != er) = false := by simp
              clear hA hL y0 y3 y4
              go_wp2
              go_region_held3 (fun V => V.cell? ⟨ga, 1, none⟩ = some (.int .i64 r.i) ∧ V.cell? ⟨ga, 2, none⟩ = some (.int .i64 r.n)) (first | exact ⟨(HCL.out _ HX7.out).2.1, (HCL.out _ HX7.out).2.2.1⟩ | exact ⟨(HCL.out _ HX6.out).2.1, (HCL.out _ HX6.out).2.2.1⟩ | exact ⟨(HCL.out W1.drew HX1.out).2.1, (HCL.out W1.drew HX1.out).2.2.1⟩)
                ((first
                  | (go_at_call 25; (with_reducible refine (HA.out _ (Below.refl _ _).drew).mono ?_); rintro e w6 ⟨rfl, hs6⟩;
                     have hs6' := (Dsy.below (HM.out.a) (Below.refl _ _).drew).trans hs6;
                     have hx6 : w6.heap[ga]? = _ := hs6'.kt.keep _ _ _ _ nofun rfl HX1.out;
                     have hem6 := HM.out.stepA hs6';
                     have hB := elocate hem6.b r.i r.n HOK0.out.i HOK0.out.n;
                     rw [← HLL.out] at hB;
                     have HX6 := Lib.hid hx6; have HM6 := Lib.hid hem6; have HB := Lib.hid hB;
                     clear hs6 hs6' hx6 hem6 hB)
                  | (go_at_call 26; (with_reducible refine HB.out.mono ?_); rintro e w7 ⟨rfl, hs7⟩;
                     have hx7 : w7.heap[ga]? = _ := hs7.kt.keep _ _ _ _ nofun rfl HX6.out;
                     have HX7 := Lib.hid hx7;
                     have HM7 := Lib.hid (HM6.out.stepB hs7);
                     clear hs7 hx7)))
              rename_i hheld
              clear hheld
              have hxr9 := HE.out.to HM7.out rfl (Int.le_refl _) (by omega)
              have HX9 := Lib.hid hxr9
              clear hxr9 HA HB HLL HM6
              go_wp2
              go_meet
              case rel => exact ⟨_, _, HX9.out⟩
          · -- Locate
            as_aux_lemma =>
              subst h
              obtain ⟨L, hL⟩ : ∃ L, L = T.loc P.off r.i r.n := ⟨_, rfl⟩
              have hA := fun V (hv : Below W1.heap.size W1 V) => dlocate (HM.out.below hv HM.out.bel.size).a r.i r.n HOK0.out.i HOK0.out.n
              rw [← hL] at hA
              obtain ⟨er, at'⟩ := L
              simp only at hA
              have HA := Lib.hid hA; have HLL := Lib.hid hL
              have de : (er != er) = false := by simp
              clear hA hL y0 y3 y4
              go_wp2
              go_region_held3 (fun V => V.cell? ⟨ga, 1, none⟩ = some (.int .i64 r.i) ∧ V.cell? ⟨ga, 2, none⟩ = some (.int .i64 r.n)) (first | exact ⟨(HCL.out _ HX7.out).2.1, (HCL.out _ HX7.out).2.2.1⟩ | exact ⟨(HCL.out _ HX6.out).2.1, (HCL.out _ HX6.out).2.2.1⟩ | exact ⟨(HCL.out W1.drew HX1.out).2.1, (HCL.out W1.drew HX1.out).2.2.1⟩)
                ((first
                  | (go_at_call 25; (with_reducible refine (HA.out _ (Below.refl _ _).drew).mono ?_); rintro e w6 ⟨rfl, hs6⟩;
                     have hs6' := (Dsy.below (HM.out.a) (Below.refl _ _).drew).trans hs6;
                     have hx6 : w6.heap[ga]? = _ := hs6'.kt.keep _ _ _ _ nofun rfl HX1.out;
                     have hem6 := HM.out.stepA hs6';
                     have hB := elocate hem6.b r.i r.n HOK0.out.i HOK0.out.n;
                     rw [← HLL.out] at hB;
                     have HX6 := Lib.hid hx6; have HM6 := Lib.hid hem6; have HB := Lib.hid hB;
                     clear hs6 hs6' hx6 hem6 hB)
                  | (go_at_call 26; (with_reducible refine HB.out.mono ?_); rintro e w7 ⟨rfl, hs7⟩;
                     have hx7 : w7.heap[ga]? = _ := hs7.kt.keep _ _ _ _ nofun rfl HX6.out;
                     have HX7 := Lib.hid hx7;
                     have HM7 := Lib.hid (HM6.out.stepB hs7);
                     clear hs7 hx7)))
              rename_i hheld
              clear hheld
              have hxr9 := HE.out.to HM7.out rfl (Int.le_refl _) (by omega)
              have HX9 := Lib.hid hxr9
              clear hxr9 HA HB HLL HM6
              go_wp2
              go_meet
              case rel => exact ⟨_, _, HX9.out⟩
          · -- Trip
            as_aux_lemma =>
              subst h
              have hA := ptrip W1 Bp gp P r.i none 0 0 [] r.t HM.out.a.pw HOK0.out.i HM.out.bp rfl (Nat.zero_le _) (.inl rfl) (.inl rfl) (fun _ => ⟨rfl, rfl⟩)
              have HA := Lib.hid hA
              clear hA
              go_wp2_with (go_at_call 27; fail)
              refine HA.out.mono ?_
              rintro e w6 ⟨rfl, hp6, hB6, ho6⟩
              have hem6 := HM.out.powA hp6 hB6 ho6
              have hx6 : w6.heap[ga]? = _ := (HM.out.a.spend hp6 hB6 ho6).kt.keep _ _ _ _ nofun rfl HX1.out
              have hR := qtrip w6 Bp gp2 P r.i none 0 0 [] r.t hem6.b.pw HOK0.out.i hem6.bp rfl (Nat.zero_le _) (.inl rfl) (fun _ => ⟨rfl, rfl⟩)
              have HR := Lib.hid hR; have HM6 := Lib.hid hem6; have HX6 := Lib.hid hx6
              clear hp6 hB6 ho6 hem6 hx6 hR HA y0 y1 y2 y3 y4
              obtain ⟨y0, y1, y2, y3, y4⟩ := HCL.out w6 HX6.out
              go_wp2_with (go_at_call 28; fail)
              refine HR.out.mono ?_
              rintro e w7 ⟨rfl, hp7, hB7, ho7⟩
              have hxr9 := HE.out.to (HM6.out.powB hp7 hB7 ho7) rfl (by rw [trip_life]; exact Int.le_refl _) (by rw [trip_life]; omega)
              have HX9 := Lib.hid hxr9
              clear hp7 hB7 ho7 hxr9 HR HM6 y0 y1 y2 y3 y4
              go_wp2
              go_meet
              case rel => exact ⟨_, _, HX9.out⟩
          · -- Start
            as_aux_lemma =>
              subst h
              have hA := pstart W1 Bp gp P HM.out.a.pw HE.out.l0 (by have := HE.out.l1; omega)
              have HA := Lib.hid hA
              clear hA
              go_wp2_with (go_at_call 29; fail)
              refine HA.out.mono ?_
              rintro e w6 ⟨rfl, hp6, hB6, ho6⟩
              have hem6 := HM.out.powA hp6 hB6 ho6
              have hx6 : w6.heap[ga]? = _ := (HM.out.a.spend hp6 hB6 ho6).kt.keep _ _ _ _ nofun rfl HX1.out
              have hR := qstart w6 Bp gp2 P hem6.b.pw HE.out.l0 (by have := HE.out.l1; omega)
              have HR := Lib.hid hR; have HM6 := Lib.hid hem6; have HX6 := Lib.hid hx6
              clear hp6 hB6 ho6 hem6 hx6 hR HA y0 y1 y2 y3 y4
              obtain ⟨y0, y1, y2, y3, y4⟩ := HCL.out w6 HX6.out
              go_wp2_with (go_at_call 30; fail)
              refine HR.out.mono ?_
              rintro e w7 ⟨rfl, hp7, hB7, ho7⟩
              have hxr9 := HE.out.to (HM6.out.powB hp7 hB7 ho7) rfl (start_life P).1 (start_life P).2
              have HX9 := Lib.hid hxr9
              clear hp7 hB7 ho7 hxr9 HR HM6 y0 y1 y2 y3 y4
              go_wp2
              go_meet
              case rel => exact ⟨_, _, HX9.out⟩
          · -- Cut
            as_aux_lemma =>
              subst h
              have hA := pcut W1 Bp gp P none 0 0 [] r.t HM.out.a.pw HM.out.bp rfl (Nat.zero_le _) (.inl rfl) (fun _ => ⟨rfl, rfl⟩)
              have HA := Lib.hid hA
              clear hA
              go_wp2_with (go_at_call 31; fail)
              refine HA.out.mono ?_
              rintro e w6 ⟨rfl, hp6, hB6, ho6⟩
              have hem6 := HM.out.powA hp6 hB6 ho6
              have hx6 : w6.heap[ga]? = _ := (HM.out.a.spend hp6 hB6 ho6).kt.keep _ _ _ _ nofun rfl HX1.out
              have hR := qcut w6 Bp gp2 P none 0 0 [] r.t hem6.b.pw hem6.bp rfl (Nat.zero_le _) (.inl rfl) (fun _ => ⟨rfl, rfl⟩)
              have HR := Lib.hid hR; have HM6 := Lib.hid hem6; have HX6 := Lib.hid hx6
              clear hp6 hB6 ho6 hem6 hx6 hR HA y0 y1 y2 y3 y4
              obtain ⟨y0, y1, y2, y3, y4⟩ := HCL.out w6 HX6.out
              go_wp2_with (go_at_call 32; fail)
              refine HR.out.mono ?_
              rintro e w7 ⟨rfl, hp7, hB7, ho7⟩
              have hxr9 := HE.out.to (HM6.out.powB hp7 hB7 ho7) rfl (by rw [cut_life]; exact Int.le_refl _) (by rw [cut_life]; omega)
              have HX9 := Lib.hid hxr9
              clear hp7 hB7 ho7 hxr9 HR HM6 y0 y1 y2 y3 y4
              go_wp2
              go_meet
              case rel => exact ⟨_, _, HX9.out⟩
          · -- Write
            as_aux_lemma =>
              have t3 : ((kk : Int) == 3) = false := beq_eq_false_iff_ne.2 (by omega)
              have t4 : ((kk : Int) == 4) = false := beq_eq_false_iff_ne.2 (by omega)
              have t5 : ((kk : Int) == 5) = false := beq_eq_false_iff_ne.2 (by omega)
              have t6 : ((kk : Int) == 6) = false := beq_eq_false_iff_ne.2 (by omega)
              have t7 : ((kk : Int) == 7) = false := beq_eq_false_iff_ne.2 (by omega)
              have t8 : ((kk : Int) == 8) = false := beq_eq_false_iff_ne.2 (by omega)
              have t9 : ((kk : Int) == 9) = false := beq_eq_false_iff_ne.2 (by omega)
              have t10 : ((kk : Int) == 10) = false := beq_eq_false_iff_ne.2 (by omega)
              have t11 : ((kk : Int) == 11) = false := beq_eq_false_iff_ne.2 (by omega)
              have hpt : ∀ V, Below W0.heap.size W0 V → r.b.ok V := fun V hv => HOK0.out.b.below hv
              have hp1 := hpt W1 HM.out.bel
              have htw := twin_any r.b.a r.b.l r.b.c r.b.z W1 hp1.len (by have := H300.out; omega) hp1.rd hp1.nil
              have HTW := Lib.hid htw; have HPT := Lib.hid hpt; have HKB := Lib.hid h; have HBT := Lib.hid hp1.bts
              clear htw hpt hp1 h
              go_wp2_with (go_at_call 33; fail)
              refine HTW.out.mono ?_
              rintro e w5 ⟨ko, kc, rfl, hoi, hB5⟩
              have hem5 := HM.out.below hB5 HM.out.bel.size
              have hx5 : w5.heap[ga]? = _ := (KT.below (fun _ => false) none hB5).keep _ _ _ _ nofun rfl HX1.out
              have hnew := ow_ge hoi
              obtain ⟨L, hL⟩ : ∃ L, L = T.wri P r.b.z := ⟨_, rfl⟩
              have haz : DsyZ ko w5 w5 W0.heap.size Bp g gp T P := (HM.out.a.z hnew).turn (KT.below (fun _ => false) none hB5) rfl rfl rfl rfl rfl
              have hbz : EsyZ ko w5 w5 W0.heap.size Bp g2 gp2 T P := (HM.out.b.z hnew).turn (KT.below (fun _ => false) none hB5) rfl rfl rfl rfl rfl
              have hkl : ∀ ad, ko = some ad → ad.block < w5.heap.size := fun ad e => by
                rcases hoi.2.2.2.2 with ⟨q, _⟩ | ⟨g', cap, cur, q, _, hh, _⟩
                · simp only [Value.slice.injEq] at q; rw [q.1] at e; cases e
                · simp only [Value.slice.injEq] at q; rw [q.1] at e; cases e; exact (Array.getElem?_eq_some_iff.1 hh).1
              have hA := fun V (hv : Below w5.heap.size w5 V) => dwrite_z ko ⟨ko, r.b.l, kc, r.b.z⟩ (haz.turn (KT.below (fun _ => false) none hv) rfl rfl rfl rfl rfl) (fun ad e => Nat.lt_of_lt_of_le (hkl ad e) hv.size) (fun U _ hu => ((hoi.below hv).kt hu rfl).part HBT.out)
              rw [← hL] at hA
              obtain ⟨hp, hl⟩ := wri_p T P r.b.z
              rw [← hL] at hp hl
              obtain ⟨er, T', P'⟩ := L
              simp only at hA hp hl
              have HA := Lib.hid hA; have HLL := Lib.hid hL; have HPP := Lib.hid hp; have HLF := Lib.hid hl; have HX5 := Lib.hid hx5; have HOI := Lib.hid hoi; have HKL := Lib.hid hkl; have HM5 := Lib.hid hem5; have HBZ := Lib.hid hbz; have HS5 := Lib.hid hB5.size
              have de : (er != er) = false := by simp
              clear hA hL hp hl hx5 hoi hkl hem5 haz hbz hnew hB5 HTW y0 y1 y2 y3 y4
              obtain ⟨y0, y1, y2, y3, y4⟩ := HCL.out w5 HX5.out
              clear y0 y1 y2 y4
              go_wp2
              go_region_held3 (fun V => V.cell? ⟨ga, 3, none⟩ = some (.slice r.b.a r.b.l r.b.c)) (first | exact (HCL.out _ HX8.out).2.2.2.1 | exact (HCL.out _ HX7.out).2.2.2.1 | exact (HCL.out _ HX6.out).2.2.2.1 | exact (HCL.out w5.drew HX5.out).2.2.2.1)
                ((first
                  | (go_at_call 34; (with_reducible refine (HA.out _ (Below.refl _ _).drew).mono ?_); rintro e w6 ⟨rfl, hz6⟩;
                     have hs5 : KT KV none w5 w6 := (KT.below KV none (Below.refl _ _).drew).trans hz6.sy.kt;
                     have hb5 : Below W0.heap.size W0 w6 := (HM5.out.bel.trans ((Below.refl w5.heap.size w5).drew.mono HM5.out.bel.size)).trans hz6.sy.bel;
                     have hx6 : w6.heap[ga]? = _ := hs5.keep _ _ _ _ nofun rfl HX5.out;
                     have hb6 := HBZ.out.turn hs5 rfl rfl rfl rfl rfl;
                     have hB := ewrite_z ko r.b hb6 (fun ad e => Nat.lt_of_lt_of_le (HKL.out ad e) hs5.size) (Nat.le_trans HM5.out.bp hs5.size) (fun U hu _ => HPT.out U (hb5.trans hu));
                     rw [← HLL.out] at hB;
                     have HX6 := Lib.hid hx6; have HB := Lib.hid hB; have HZ6 := Lib.hid hz6.refl; have HB06 := Lib.hid hb5; have HOI6 := Lib.hid (HOI.out.kt hs5 rfl); have HS56 := Lib.hid hs5.size;
                     clear hz6 hs5 hb5 hx6 hb6 hB)
                  | (go_at_call 35; (with_reducible refine HB.out.mono ?_); rintro e w7 ⟨rfl, hz7⟩;
                     have hx7 : w7.heap[ga]? = _ := hz7.sy.kt.keep _ _ _ _ nofun rfl HX6.out;
                     have hb7 := HB06.out.trans hz7.sy.bel;
                     have hoi7 := HOI6.out.kt hz7.sy.kt rfl;
                     have hp7 := HPT.out w7 hb7;
                     have hcmp := bytes_cmp ko r.b.a r.b.l r.b.l kc r.b.c r.b.z r.b.z w7 hoi7.1 hp7.len (by have := H300.out; unfold maxLen; omega) hoi7.rd hp7.rd;
                     rw [decide_eq_true rfl] at hcmp;
                     have HX7 := Lib.hid hx7; have HB07 := Lib.hid hb7; have HOI7 := Lib.hid hoi7; have HCMP := Lib.hid hcmp; have HZ7 := Lib.hid hz7.refl; have HA7 := Lib.hid (HZ6.out.turn hz7.sy.kt rfl rfl rfl rfl rfl); have HS67 := Lib.hid hz7.sy.kt.size;
                     clear hz7 hx7 hb7 hoi7 hp7 hcmp)
                  | (go_at_call 19; (with_reducible refine HCMP.out.mono ?_); rintro e w8 ⟨rfl, qn, hqn⟩;
                     have hB8 : Below w7.heap.size w7 w8 := (by rw [hqn]; exact below_drewN (Below.refl _ _) qn);
                     have HX8 : Hid (w8.heap[ga]? = _) := (KT.below (fun _ => false) none hB8).keep _ _ _ _ nofun rfl HX7.out;
                     have HB8 := Lib.hid hB8;
                     clear hqn hB8)))
              rename_i hheld
              clear hheld
              have hkt8 : KT (fun _ => false) none w7 w8 := KT.below _ _ HB8.out
              have hoi8 := HOI7.out.below HB8.out
              have HA8 := Lib.hid (HA7.out.turn hkt8 rfl rfl rfl rfl rfl); have HE8 := Lib.hid (HZ7.out.turn hkt8 rfl rfl rfl rfl rfl)
              have hb8 := HB07.out.trans (HB8.out.mono HB07.out.size)
              have hsz : W1.heap.size ≤ w8.heap.size := Nat.le_trans HS5.out (Nat.le_trans HS56.out (Nat.le_trans HS67.out HB8.out.size))
              have hsp := spoil_own W1.heap.size ko r.b.l kc r.b.z w8 hoi8 hsz
              have HSP := Lib.hid hsp; have HB08 := Lib.hid hb8; have HSZ := Lib.hid hsz
              clear hkt8 hoi8 hb8 hsp hsz HCMP HOI7 HA7 HZ7 HB HA
              go_wp2_with (go_at_call 20; fail)
              refine HSP.out.mono ?_
              rintro e w9 ⟨rfl, hB9, hspo⟩
              have hem9 : EM W0 w9 W0.heap.size Bp g gp g2 gp2 T' T' P' P' := ⟨HA8.out.spo hspo, HE8.out.spo hspo, HB08.out.trans (hB9.mono HM.out.bel.size), Nat.le_trans HM.out.bp (Nat.le_trans HSZ.out hB9.size)⟩
              have hxr9 := HE.out.to hem9 HPP.out (by rw [HLF.out]; exact Int.le_refl _) (by rw [HLF.out]; omega)
              have HX9 := Lib.hid hxr9
              clear hB9 hspo hem9 hxr9 HSP HA8 HE8 HB08
              go_wp2
              go_meet
              case rel => exact ⟨_, _, HX9.out⟩
        case rest =>
          as_aux_lemma =>
            obtain ⟨T', P', hxr⟩ := hcut
            have HF := Lib.hid hxr
            have HDM := Lib.hid (dmed hxr.em.a)
            clear hxr
            go_wp2_with (go_at_call 36; fail)
            refine HDM.out.mono ?_
            rintro e w2 ⟨k3, n3, c3, cs3, rfl, hO3, hk3, hB3⟩
            have htp := HF.out.p
            obtain ⟨at', hat'⟩ : ∃ at', at' = T'.at_ := ⟨_, rfl⟩
            obtain ⟨ks', hks'⟩ : ∃ ks', ks' = T'.ks := ⟨_, rfl⟩
            have hTT : T' = ⟨t.p, ks', at'⟩ := by rw [hat', hks', ← htp]
            subst hTT
            clear hat' hks' htp
            simp only at hk3 ⊢
            obtain ⟨V3, hV3⟩ : ∃ V3, V3 = w2.alloc (.cells #[.int .i64 t.p, .slice k3 n3 c3] 24) := ⟨_, rfl⟩
            have hal : Below w2.heap.size w2 V3 := by rw [hV3]; exact (Below.refl _ _).alloc (Nat.le_refl _) _
            have hy : V3.heap[w2.heap.size]? = some (.cells #[.int .i64 t.p, .slice k3 n3 c3] 24 (0, 0)) := by rw [hV3]; exact new_cell _ _ _
            obtain ⟨gx, hgx⟩ : ∃ gx, gx = w2.heap.size := ⟨_, rfl⟩
            rw [← hgx] at hy
            have hbw : Below wc.heap.size wc V3 := hB3.trans (hal.mono hB3.size)
            have hem3 := HF.out.em.below hbw HF.out.em.bel.size
            obtain ⟨k4', n4', c4', cs4', hE3⟩ := hem3.b
            have hat := hE3.at_
            have hgk := good_keysK hE3.good
            have hlen := hE3.len
            simp only at hat hgk hlen
            have hst : ∀ V, Below V3.heap.size V3 V → V.cell? ⟨g2, 1, none⟩ = some (.int .i64 t.p) ∧ V.cell? ⟨g2, 2, none⟩ = some (.slice k4' n4' c4') ∧ V.cell? ⟨g2, 3, none⟩ = some (.int .i64 at') ∧ V.cell? ⟨w.heap.size, 0, none⟩ = some (.int .i64 t.p) ∧ V.cell? ⟨gx, 0, none⟩ = some (.int .i64 t.p) ∧ V.cell? ⟨gx, 1, none⟩ = some (.slice k3 n3 c3) := fun V hb => by
              obtain ⟨_, a1, a2, a3, _⟩ := (hE3.below hb).d.c
              obtain ⟨b0, b1, _⟩ := cells2 (cells2at hy hb)
              exact ⟨a1, a2, a3, HCM.out V (hem3.bel.trans (hb.mono hem3.bel.size)), b0, b1⟩
            have hpl := fun V (hb : Below V3.heap.size V3 V) => dplace (hem3.below hb hem3.bel.size).a
            have hlf := fun V (hb : Below V3.heap.size V3 V) => dleft (hem3.below hb hem3.bel.size).a
            have hkm := fun V (hb : Below V3.heap.size V3 V) => keep_med ⟨t.p, k3, n3, c3, cs3⟩ ⟨t.p, k4', n4', c4', cs4'⟩ V (((hO3.below hal).tap t.p).below hb) (hE3.tap.below hb)
            rw [decide_eq_true (show (Tap.mk t.p k3 n3 c3 cs3).p = (Tap.mk t.p k4' n4' c4' cs4').p ∧ Tap.ks ⟨t.p, k3, n3, c3, cs3⟩ = Tap.ks ⟨t.p, k4', n4', c4', cs4'⟩ from ⟨rfl, hk3.trans hE3.ks.symm⟩)] at hkm
            obtain ⟨x0, x1, x2, x3, x4, x5⟩ := hst V3 (Below.refl _ _)
            simp only at hlf hpl hkm
            have hcr := OCs.crow (hO3.below hal)
            have HST := Lib.hid hst; have HPL := Lib.hid hpl; have HLFT := Lib.hid hlf; have HKM := Lib.hid hkm; have HV3 := Lib.hid hV3; have HGX := Lib.hid hgx; have HCR := Lib.hid hcr
            have hn3 : n3 ≤ maxLen := Nat.le_trans hO3.room hO3.cm
            have HN3 := Lib.hid hn3; have HB3 := Lib.hid hbw
            have b1 : (at' : Int) ≤ t.p := by omega
            have b2 : t.p ≤ 400 := hgk.2.1
            have b3 : IntKind.i64.wrap (t.p - (at' : Int)) = t.p - (at' : Int) := IntWalk.i64_in _ (by omega)
            have b4 : ((at' : Int) != (at' : Int)) = false := by simp
            have b5 : ((t.p - (at' : Int)) != (t.p - (at' : Int))) = false := by simp
            clear hst hpl hlf hkm hem3 hE3 hgx hcr hat hgk hlen hbw hO3 hk3 hB3 hal hy HDM hn3
            have HBQ := Lib.hid (Below.refl V3.heap.size V3).drew
            rw [hV3] at x0 x1 x2 x3 x4 x5
            clear hV3
            rw [HGX.out] at x4 x5
            go_upto_region 48 with (fail)
            rw [← HV3.out, ← HGX.out]
            rw [← HV3.out] at x0 x1 x2 x3 x4 x5
            rw [← HGX.out] at x4 x5
            go_region_held3 (fun V => V.cell? ⟨g2, 1, none⟩ = some (.int .i64 t.p) ∧ V.cell? ⟨g2, 2, none⟩ = some (.slice k4' n4' c4') ∧ V.cell? ⟨g2, 3, none⟩ = some (.int .i64 at') ∧ V.cell? ⟨w.heap.size, 0, none⟩ = some (.int .i64 t.p) ∧ V.cell? ⟨gx, 0, none⟩ = some (.int .i64 t.p) ∧ V.cell? ⟨gx, 1, none⟩ = some (.slice k3 n3 c3)) (exact HST.out _ HBQ.out)
              ((first
                | (go_at_call 37; (with_reducible refine (HPL.out _ HBQ.out).mono ?_); rintro e wn ⟨rfl, rfl⟩)
                | (go_at_call 38; (with_reducible refine (HLFT.out _ HBQ.out).mono ?_); rintro e wn ⟨rfl, hq⟩; have HBN : Hid (Below V3.heap.size V3 wn) := (by obtain ⟨qn, hqn⟩ := hq; rw [hqn]; exact below_drewN HBQ.out qn); clear HBQ hq; have HBQ := Lib.hid HBN.out; clear HBN)
                | (go_at_call 39; (with_reducible refine (HKM.out _ HBQ.out).mono ?_); rintro e wn ⟨rfl, hBn⟩; have HBN := Lib.hid (HBQ.out.trans (hBn.mono HBQ.out.size)); clear HBQ hBn; have HBQ := Lib.hid HBN.out; clear HBN)))
            rename_i hheld
            clear hheld x0 x1 x2 x3 x4 x5
            obtain ⟨x0, x1, x2, x3, x4, x5⟩ := HST.out _ HBQ.out
            have hspm := fun V (hb : Below V3.heap.size V3 V) => spoilm_any wc.heap.size t.p k3 n3 c3 V HN3.out (by
              rcases HCR.out with h0 | ⟨gg, e, h1, h2⟩
              · exact .inl h0
              · exact .inr ⟨gg, e, h1, h2.below hb⟩) (Nat.le_trans HB3.out.size hb.size)
            have HSPM := Lib.hid hspm
            clear hspm x0 x1 x2 x3
            go_wp2_with (go_at_call 16; fail)
            refine (HSPM.out _ HBQ.out).mono ?_
            rintro e w9 ⟨rfl, hB9, _⟩
            have hb9 : Below wc.heap.size wc w9 := (HB3.out.trans (HBQ.out.mono HB3.out.size)).trans hB9
            have hxr9 := HF.out.same (HF.out.em.below hb9 HF.out.em.bel.size)
            have HX9 := Lib.hid hxr9
            clear hB9 hb9 hxr9 HSPM x4 x5
            go_wp2
            go_roundw
            case rel => exact ⟨k + 1, _, _, by omega, by omega, by go_num, HX9.out⟩
            case measure => simp [intOf]; omega
      · as_aux_lemma =>
          have hf : (decide ((k : Int) < (n2 : Int)) = false ∧ decide (k < n2) = false) ∨ (decide ((k : Int) < (n2 : Int)) = true ∧ decide (k < n2) = true ∧ decide ((k : Int) < 50) = false) := by
            by_cases h : k < n2
            · exact .inr ⟨decide_eq_true (by omega), decide_eq_true h, decide_eq_false (by omega)⟩
            · exact .inl ⟨decide_eq_false (by omega), decide_eq_false h⟩
          obtain ⟨wo, hwo⟩ : ∃ wo : World, wo = wr := ⟨_, rfl⟩
          have htp := HE.out.p
          obtain ⟨at', hat'⟩ : ∃ at', at' = T.at_ := ⟨_, rfl⟩
          obtain ⟨ks', hks'⟩ : ∃ ks', ks' = T.ks := ⟨_, rfl⟩
          have hTT : T = ⟨t.p, ks', at'⟩ := by rw [hat', hks', ← htp]
          subst hTT
          clear hat' hks' htp
          obtain ⟨k4', n4', c4', cs4', hE3⟩ := HE.out.em.b
          have hst : ∀ V, Below wr.heap.size wr V → V.cell? ⟨g2, 1, none⟩ = some (.int .i64 t.p) ∧ V.cell? ⟨g2, 2, none⟩ = some (.slice k4' n4' c4') := fun V hb => by
            obtain ⟨_, a1, a2, a3, _⟩ := (hE3.below hb).d.c
            exact ⟨a1, a2⟩
          have hdm := fun V (hb : Below wr.heap.size wr V) => dmed (HE.out.em.below hb HE.out.em.bel.size).a
          have HST := Lib.hid hst; have HDM := Lib.hid hdm; have HE3 := Lib.hid hE3
          clear hgo hst hdm hE3 hwo
          rcases hf with ⟨f1, f2⟩ | ⟨f1, f2, f3⟩
          all_goals
            have HBQ := Lib.hid (Below.refl wr.heap.size wr).drew
            obtain ⟨x0, x1⟩ := HST.out wr (Below.refl _ _)
            go_wp2
            go_region_held3 (fun V => V.cell? ⟨g2, 1, none⟩ = some (.int .i64 t.p) ∧ V.cell? ⟨g2, 2, none⟩ = some (.slice k4' n4' c4')) (exact HST.out _ HBQ.out)
              ((first
                | (go_at_call 36; (with_reducible refine (HDM.out _ HBQ.out).mono ?_); rintro e wn ⟨k3, n3, c3, cs3, rfl, hO3, hk3, hBn⟩;
                   have HBN := Lib.hid (HBQ.out.trans (hBn.mono HBQ.out.size));
                   have hkm := fun V (hb : Below wn.heap.size wn V) => keep_med ⟨t.p, k3, n3, c3, cs3⟩ ⟨t.p, k4', n4', c4', cs4'⟩ V ((hO3.tap t.p).below hb) (HE3.out.tap.below (HBN.out.trans (hb.mono HBN.out.size)));
                   rw [decide_eq_true (show (Tap.mk t.p k3 n3 c3 cs3).p = (Tap.mk t.p k4' n4' c4' cs4').p ∧ Tap.ks ⟨t.p, k3, n3, c3, cs3⟩ = Tap.ks ⟨t.p, k4', n4', c4', cs4'⟩ from ⟨rfl, hk3.trans HE3.out.ks.symm⟩)] at hkm;
                   simp only at hkm;
                   have HKM := Lib.hid hkm;
                   clear HBQ hBn hkm hO3 hk3; have HBQ := Lib.hid HBN.out; clear HBN)
                | (go_at_call 39; (with_reducible refine (HKM.out _ (Below.refl _ _)).mono ?_); rintro e wn2 ⟨rfl, hBn⟩; have HBN := Lib.hid (HBQ.out.trans (hBn.mono HBQ.out.size)); clear HBQ hBn; have HBQ := Lib.hid HBN.out; clear HBN)
                | (go_at_call 15; (with_reducible refine (HWK.out _).mono ?_); rintro e wn3 ⟨rfl, hBn⟩; have HBN := Lib.hid (HBQ.out.trans (hBn.mono HBQ.out.size)); clear HBQ hBn; have HBQ := Lib.hid HBN.out; clear HBN)))
            go_wp2
            go_ret
            exact ⟨rfl, HB0.out.trans ((HE.out.em.bel.trans (HBQ.out.mono HE.out.em.bel.size)).mono HB0.out.size)⟩
end Go.Proofs.Ytmcbmemgeegodaa
