/-
  The walk of MediumExact.
-/
import Derived.Test.YtojcinkchdhjpaaMedL
import Derived.Test.YtojcinkchdhjpaaOpen
namespace Go.Proofs.Ytojcinkchdhjpaa
open Go.RowKit
set_option linter.unusedVariables false

set_option maxRecDepth 100000 in
set_option maxHeartbeats 16000000 in
theorem exact_good (t : Tap) (q : Int) (d : Part) (keep nn bit : Int) (w : World) (h : t.ok w) (hg : goodK t.p t.ks = true) (hd : d.ok w) (hn1 : -9223372036854775808 ≤ nn) (hn2 : nn ≤ 9223372036854775807) (hbit : bit ≤ 9223372036854775807) :
    Calls Try.prog 3 #[.agg #[.int .i64 t.p, .slice t.a t.n t.c], .int .i64 q, .slice d.a d.l d.c, .int .i64 keep, .int .i64 nn, .int .i64 bit] w fun e w' => e = .returned (.bool true) ∧ Below w.heap.size w w' := by
  have HBIT := Lib.hid hbit
  clear hbit
  obtain ⟨p, a, n, c, cs⟩ := t
  obtain ⟨da, dl, dc, dz⟩ := d
  have hm := hd.small
  have hdn := hd.nil
  have hdl := hd.len
  unfold maxLen at hm
  obtain ⟨ks, hks⟩ : ∃ ks, ks = Tap.ks ⟨p, a, n, c, cs⟩ := ⟨_, rfl⟩
  simp only at hm hdl hdn h hd hg ⊢
  have HKS := Lib.hid hks.symm; have HDN := Lib.hid hdn; have HDL := Lib.hid hdl
  have HG := Lib.hid hg
  obtain ⟨W0, hW0⟩ : ∃ W0, W0 = w.alloc (.cells #[.int .i64 p, .slice a n c] 24) := ⟨_, rfl⟩
  obtain ⟨g6, hg6⟩ : ∃ g6, g6 = w.heap.size := ⟨_, rfl⟩
  have hb0 : Below w.heap.size w W0 := by rw [hW0]; exact (Below.refl _ _).alloc (Nat.le_refl _) _
  have V6 : Hid (Var W0 g6 p a n c cs) := ⟨by rw [hW0, hg6]; exact new_cell _ _ _, h.below hb0⟩
  have DD : Hid (Part.ok W0 ⟨da, dl, dc, dz⟩) := hd.below hb0
  have HB := Lib.hid hb0
  have HW := Lib.hid hW0; have HGG := Lib.hid hg6
  clear hks hdn hdl hg hb0 h hd hW0 hg6
  go_enter Try.func3, Try.ntmps3
  obtain ⟨y00, y01, _⟩ := cells2 V6.out.1
  rw [HW.out] at y00 y01
  go_wp2_with (go_at_call 9; fail)
  rw [← HW.out, ← HGG.out]
  clear HW HGG
  clear y00 y01
  refine (heavy_any ⟨p, a, n, c, cs⟩ W0 V6.out.2).mono ?_
  rintro e w1 ⟨rfl | ⟨rfl, h80, h300⟩, hb⟩
  · have HB1 := Lib.hid (HB.out.trans (hb.mono HB.out.size))
    clear hb
    go_wp2
    go_ret
    exact ⟨rfl, HB1.out⟩
  simp only at h80 h300
  replace V6 := Lib.hid (V6.out.below hb)
  replace DD := Lib.hid (DD.out.below hb)
  replace HB := Lib.hid (HB.out.trans (hb.mono HB.out.size))
  clear hb
  by_cases hl : 300 < dl
  · have d1 : decide ((300 : Int) < (dl : Int)) = true := decide_eq_true (by omega)
    have d1' : decide (300 < dl) = true := decide_eq_true hl
    go_wp2
    go_ret
    exact ⟨rfl, HB.out⟩
  have d1 : decide ((300 : Int) < (dl : Int)) = false := decide_eq_false (by omega)
  have d1' : decide (300 < dl) = false := decide_eq_false hl
  have H300 := Lib.hid h300
  clear h300
  obtain ⟨y00, y01, _⟩ := cells2 V6.out.1
  go_wp2_with (go_at_call 10; fail)
  clear y00 y01
  refine (twinmed_any ⟨p, a, n, c, cs⟩ w1 V6.out.2 (fun k hk => Nat.le_trans (H300.out k hk) (by decide)) (by show n ≤ _; omega)).mono ?_
  rintro e w2 ⟨ko, kc, csi, rfl, hO, hk, hb⟩
  rw [HKS.out] at hk
  have O13 := Lib.hid hO; have KT : Hid (Tap.ks ⟨p, ko, n, kc, csi⟩ = ks) := hk
  replace V6 := Lib.hid (V6.out.below hb)
  replace DD := Lib.hid (DD.out.below hb)
  replace HB := Lib.hid (HB.out.trans (hb.mono HB.out.size))
  clear hO hk hb
  go_wp2_with (go_at_call 11; fail)
  refine (twin_any da dl dc dz w2 HDL.out (by omega) DD.out.rd HDN.out).mono ?_
  rintro e w3 ⟨xo, xc, rfl, hx, hb⟩
  replace V6 := Lib.hid (V6.out.below hb)
  replace DD := Lib.hid (DD.out.below hb)
  replace O13 := Lib.hid (O13.out.below hb)
  replace HB := Lib.hid (HB.out.trans (hb.mono HB.out.size))
  have XX : Hid (Part.ok w3 ⟨xo, dl, xc, dz⟩) := hx.part DD.out.bts
  obtain ⟨C1, hC1⟩ : ∃ C1, C1 = w3.alloc (.cells #[.int .i64 p, .slice ko n kc] 24) := ⟨_, rfl⟩
  obtain ⟨g13, hg13⟩ : ∃ g13, g13 = w3.heap.size := ⟨_, rfl⟩
  have hb1 : Below w3.heap.size w3 C1 := by rw [hC1]; exact (Below.refl _ _).alloc (Nat.le_refl _) _
  replace V6 := Lib.hid (V6.out.below hb1)
  replace DD := Lib.hid (DD.out.below hb1)
  replace O13 := Lib.hid (O13.out.below hb1)
  replace XX := Lib.hid (XX.out.below hb1)
  replace HB := Lib.hid (HB.out.trans (hb1.mono HB.out.size))
  have V13 : Hid (Var C1 g13 p ko n kc csi) := ⟨by rw [hC1, hg13]; exact new_cell _ _ _, O13.out.tap p⟩
  have HW := Lib.hid hC1; have HGG := Lib.hid hg13
  have HC1 : Hid (Below C1.heap.size C1 C1) := Below.refl _ _
  have HBC1 := Lib.hid HB.out.size
  clear hx hb hb1 hC1 hg13 O13
  obtain ⟨y00, y01, _⟩ := cells2 V6.out.1
  rw [HW.out] at y00 y01
  go_wp2_with (go_at_call 12; fail)
  rw [← HW.out, ← HGG.out]
  clear HW HGG
  clear y00 y01
  have hrm := refmed_any ⟨p, a, n, c, cs⟩ C1 V6.out.2
  rw [HG.out] at hrm
  refine hrm.mono ?_
  clear hrm
  rintro e w4 ⟨rfl, hb⟩
  have V13a := V13; have V6a := V6
  have GT : Hid (goodK p (Tap.ks ⟨p, ko, n, kc, csi⟩) = true) := by
    have h1 := HG.out
    rw [HKS.out] at h1
    show goodK p (Tap.ks ⟨p, ko, n, kc, csi⟩) = true
    rw [KT.out]; exact h1
  replace V6 := Lib.hid (V6.out.below hb)
  replace DD := Lib.hid (DD.out.below hb)
  replace XX := Lib.hid (XX.out.below hb)
  replace V13 := Lib.hid (V13.out.below hb)
  replace HB := Lib.hid (HB.out.trans (hb.mono HB.out.size))
  replace HC1 := Lib.hid (HC1.out.trans (hb.mono HC1.out.size))
  clear hb
  obtain ⟨⟨ew, pw, kw⟩, hrw⟩ : ∃ r, r = writeK p ks q dz := ⟨_, rfl⟩
  obtain ⟨⟨et, pt, kt⟩, hrt⟩ : ∃ r, r = tearK p ks q dz keep := ⟨_, rfl⟩
  obtain ⟨⟨ek, pk, kk⟩, hrk⟩ : ∃ r, r = markK p ks q := ⟨_, rfl⟩
  obtain ⟨⟨ed, pd, kd⟩, hrd⟩ : ∃ r, r = endK p ks q := ⟨_, rfl⟩
  obtain ⟨⟨es, ps, kss⟩, hrs⟩ : ∃ r, r = spoilK p ks q := ⟨_, rfl⟩
  obtain ⟨⟨ei, pi, ki⟩, hri⟩ : ∃ r, r = flipK p ks q bit := ⟨_, rfl⟩
  obtain ⟨⟨er, rz⟩, hrr⟩ : ∃ r, r = rd ks q := ⟨_, rfl⟩
  obtain ⟨mk, hmk⟩ : ∃ mk, mk = marks ks := ⟨_, rfl⟩
  have RW := Lib.hid hrw; have RT := Lib.hid hrt; have RK := Lib.hid hrk; have RD := Lib.hid hrd; have RS := Lib.hid hrs; have RI := Lib.hid hri; have RR := Lib.hid hrr; have RM := Lib.hid hmk
  clear hrw hrt hrk hrd hrs hri hrr hmk
  obtain ⟨fa, fc, hneg, hf18, hf32⟩ := files_two ⟨p, a, n, c, cs⟩ ⟨p, ko, n, kc, csi⟩ nn C1 (by rw [KT.out, HKS.out]) hn1 hn2
  have HF18 := Lib.hid hf18; have HF32 := Lib.hid hf32
  clear hf18 hf32 hn1 hn2
  have GM : Hid (goodK p (Tap.ks ⟨p, a, n, c, cs⟩) = true) := HG.out
  rcases hneg with ⟨d9, rfl, rfl⟩ | d9
  all_goals
    obtain ⟨y00, y01, _⟩ := cells2 V13.out.1
    go_wp2_with (go_at_call 13; fail)
    clear y00 y01
    have hc : Calls Try.prog 13 #[.agg #[.int .i64 p, .slice ko n kc], .int .i64 q, .slice xo dl xc] w4 (MPost w4 (ew, pw, kw)) := by
      have h1 := write_any ⟨p, ko, n, kc, csi⟩ q ⟨xo, dl, xc, dz⟩ w4 V13.out.2 GT.out XX.out
      rw [KT.out] at h1
      rw [RW.out]; exact h1
    refine hc.mono ?_
    clear hc
    intro e w16 h
    obtain ⟨a16, n16, c16, cs16, rfl, hk, hall⟩ := h.var
    obtain ⟨W16, hW⟩ : ∃ W, W = w16.alloc (.cells #[.int .i64 pw, .slice a16 n16 c16] 24) := ⟨_, rfl⟩
    obtain ⟨hb, hv, ho⟩ := hall _ hW
    obtain ⟨g16, hg⟩ : ∃ g, g = w16.heap.size := ⟨_, rfl⟩
    rw [← hg] at hv
    have O16 := Lib.hid (ho.low HC1.out.size)
    replace V6 := Lib.hid (V6.out.below hb)
    replace DD := Lib.hid (DD.out.below hb)
    replace XX := Lib.hid (XX.out.below hb)
    replace V13 := Lib.hid (V13.out.below hb)
    replace HB := Lib.hid (HB.out.trans (hb.mono HB.out.size))
    replace HC1 := Lib.hid (HC1.out.trans (hb.mono HC1.out.size))
    have V16 := Lib.hid hv; have K16 := Lib.hid hk; have HW := Lib.hid hW; have HGG := Lib.hid hg
    clear h hall hb hv ho hk hW hg
    obtain ⟨y00, y01, _⟩ := cells2 V13.out.1
    rw [HW.out] at y00 y01
    go_wp2_with (go_at_call 14; fail)
    rw [← HW.out, ← HGG.out]
    clear HW HGG
    clear y00 y01
    have hc : Calls Try.prog 14 #[.agg #[.int .i64 p, .slice ko n kc], .int .i64 q, .slice xo dl xc, .int .i64 keep] W16 (MPost W16 (et, pt, kt)) := by
      have h1 := tear_any ⟨p, ko, n, kc, csi⟩ q ⟨xo, dl, xc, dz⟩ keep W16 V13.out.2 GT.out XX.out
      rw [KT.out] at h1
      rw [RT.out]; exact h1
    refine hc.mono ?_
    clear hc
    intro e w18 h
    obtain ⟨a18, n18, c18, cs18, rfl, hk, hall⟩ := h.var
    obtain ⟨W18, hW⟩ : ∃ W, W = w18.alloc (.cells #[.int .i64 pt, .slice a18 n18 c18] 24) := ⟨_, rfl⟩
    obtain ⟨hb, hv, ho⟩ := hall _ hW
    obtain ⟨g18, hg⟩ : ∃ g, g = w18.heap.size := ⟨_, rfl⟩
    rw [← hg] at hv
    replace V6 := Lib.hid (V6.out.below hb)
    replace DD := Lib.hid (DD.out.below hb)
    replace XX := Lib.hid (XX.out.below hb)
    replace V13 := Lib.hid (V13.out.below hb)
    replace V16 := Lib.hid (V16.out.below hb)
    replace O16 := Lib.hid (O16.out.below hb)
    replace HB := Lib.hid (HB.out.trans (hb.mono HB.out.size))
    replace HC1 := Lib.hid (HC1.out.trans (hb.mono HC1.out.size))
    have V18 := Lib.hid hv; have K18 := Lib.hid hk; have HW := Lib.hid hW; have HGG := Lib.hid hg
    clear h hall hb hv ho hk hW hg
    obtain ⟨y00, y01, _⟩ := cells2 V13.out.1
    rw [HW.out] at y00 y01
    go_wp2_with (go_at_call 15; fail)
    rw [← HW.out, ← HGG.out]
    clear HW HGG
    clear y00 y01
    have hc : Calls Try.prog 15 #[.agg #[.int .i64 p, .slice ko n kc], .int .i64 q] W18 (MPost W18 (ek, pk, kk)) := by
      have h1 := mark_any ⟨p, ko, n, kc, csi⟩ q W18 V13.out.2 GT.out
      rw [KT.out] at h1
      rw [RK.out]; exact h1
    refine hc.mono ?_
    clear hc
    intro e w20 h
    obtain ⟨a20, n20, c20, cs20, rfl, hk, hall⟩ := h.var
    obtain ⟨W20, hW⟩ : ∃ W, W = w20.alloc (.cells #[.int .i64 pk, .slice a20 n20 c20] 24) := ⟨_, rfl⟩
    obtain ⟨hb, hv, ho⟩ := hall _ hW
    obtain ⟨g20, hg⟩ : ∃ g, g = w20.heap.size := ⟨_, rfl⟩
    rw [← hg] at hv
    replace V6 := Lib.hid (V6.out.below hb)
    replace DD := Lib.hid (DD.out.below hb)
    replace XX := Lib.hid (XX.out.below hb)
    replace V13 := Lib.hid (V13.out.below hb)
    replace V16 := Lib.hid (V16.out.below hb)
    replace O16 := Lib.hid (O16.out.below hb)
    replace V18 := Lib.hid (V18.out.below hb)
    replace HB := Lib.hid (HB.out.trans (hb.mono HB.out.size))
    replace HC1 := Lib.hid (HC1.out.trans (hb.mono HC1.out.size))
    have V20 := Lib.hid hv; have K20 := Lib.hid hk; have HW := Lib.hid hW; have HGG := Lib.hid hg
    clear h hall hb hv ho hk hW hg
    obtain ⟨y00, y01, _⟩ := cells2 V13.out.1
    rw [HW.out] at y00 y01
    go_wp2_with (go_at_call 16; fail)
    rw [← HW.out, ← HGG.out]
    clear HW HGG
    clear y00 y01
    have hc : Calls Try.prog 16 #[.agg #[.int .i64 p, .slice ko n kc], .int .i64 q] W20 (MPost W20 (ed, pd, kd)) := by
      have h1 := end_any ⟨p, ko, n, kc, csi⟩ q W20 V13.out.2 GT.out
      rw [KT.out] at h1
      rw [RD.out]; exact h1
    refine hc.mono ?_
    clear hc
    intro e w22 h
    obtain ⟨a22, n22, c22, cs22, rfl, hk, hall⟩ := h.var
    obtain ⟨W22, hW⟩ : ∃ W, W = w22.alloc (.cells #[.int .i64 pd, .slice a22 n22 c22] 24) := ⟨_, rfl⟩
    obtain ⟨hb, hv, ho⟩ := hall _ hW
    obtain ⟨g22, hg⟩ : ∃ g, g = w22.heap.size := ⟨_, rfl⟩
    rw [← hg] at hv
    replace V6 := Lib.hid (V6.out.below hb)
    replace DD := Lib.hid (DD.out.below hb)
    replace XX := Lib.hid (XX.out.below hb)
    replace V13 := Lib.hid (V13.out.below hb)
    replace V16 := Lib.hid (V16.out.below hb)
    replace O16 := Lib.hid (O16.out.below hb)
    replace V18 := Lib.hid (V18.out.below hb)
    replace V20 := Lib.hid (V20.out.below hb)
    replace HB := Lib.hid (HB.out.trans (hb.mono HB.out.size))
    replace HC1 := Lib.hid (HC1.out.trans (hb.mono HC1.out.size))
    have V22 := Lib.hid hv; have K22 := Lib.hid hk; have HW := Lib.hid hW; have HGG := Lib.hid hg
    clear h hall hb hv ho hk hW hg
    obtain ⟨y00, y01, _⟩ := cells2 V13.out.1
    rw [HW.out] at y00 y01
    go_wp2_with (go_at_call 17; fail)
    rw [← HW.out, ← HGG.out]
    clear HW HGG
    clear y00 y01
    have hc := read_any ⟨p, ko, n, kc, csi⟩ q W22 V13.out.2 GT.out
    rw [KT.out, ← RR.out] at hc
    refine hc.mono ?_
    clear hc
    intro e w17 h
    obtain ⟨ro, rcc, rfl, how, hb⟩ := h.out
    have OR := Lib.hid (own_low how HC1.out.size)
    replace V6 := Lib.hid (V6.out.below hb)
    replace DD := Lib.hid (DD.out.below hb)
    replace XX := Lib.hid (XX.out.below hb)
    replace V13 := Lib.hid (V13.out.below hb)
    replace V16 := Lib.hid (V16.out.below hb)
    replace O16 := Lib.hid (O16.out.below hb)
    replace V18 := Lib.hid (V18.out.below hb)
    replace V20 := Lib.hid (V20.out.below hb)
    replace V22 := Lib.hid (V22.out.below hb)
    replace HB := Lib.hid (HB.out.trans (hb.mono HB.out.size))
    replace HC1 := Lib.hid (HC1.out.trans (hb.mono HC1.out.size))
    clear h how hb
    obtain ⟨y00, y01, _⟩ := cells2 V13.out.1
    go_wp2_with (go_at_call 18; fail)
    clear y00 y01
    refine (HF18.out w17 V13.out.2 GT.out).mono ?_
    rintro e w18 ⟨rfl, hb⟩
    replace V6 := Lib.hid (V6.out.below hb)
    replace DD := Lib.hid (DD.out.below hb)
    replace XX := Lib.hid (XX.out.below hb)
    replace V13 := Lib.hid (V13.out.below hb)
    replace V16 := Lib.hid (V16.out.below hb)
    replace O16 := Lib.hid (O16.out.below hb)
    replace V18 := Lib.hid (V18.out.below hb)
    replace V20 := Lib.hid (V20.out.below hb)
    replace V22 := Lib.hid (V22.out.below hb)
    replace OR := Lib.hid (OR.out.below hb)
    replace HB := Lib.hid (HB.out.trans (hb.mono HB.out.size))
    replace HC1 := Lib.hid (HC1.out.trans (hb.mono HC1.out.size))
    clear hb
    obtain ⟨y00, y01, _⟩ := cells2 V13.out.1
    go_wp2_with (go_at_call 19; fail)
    clear y00 y01
    have hc : Calls Try.prog 19 #[.agg #[.int .i64 p, .slice ko n kc], .int .i64 q] w18 (MPost w18 (es, ps, kss)) := by
      have h1 := spoil_any ⟨p, ko, n, kc, csi⟩ q w18 V13.out.2 GT.out
      rw [KT.out] at h1
      rw [RS.out]; exact h1
    refine hc.mono ?_
    clear hc
    intro e w28 h
    obtain ⟨a28, n28, c28, cs28, rfl, hk, hall⟩ := h.var
    obtain ⟨W28, hW⟩ : ∃ W, W = w28.alloc (.cells #[.int .i64 ps, .slice a28 n28 c28] 24) := ⟨_, rfl⟩
    obtain ⟨hb, hv, ho⟩ := hall _ hW
    obtain ⟨g28, hg⟩ : ∃ g, g = w28.heap.size := ⟨_, rfl⟩
    rw [← hg] at hv
    have O28 := Lib.hid (ho.low HC1.out.size)
    replace V6 := Lib.hid (V6.out.below hb)
    replace DD := Lib.hid (DD.out.below hb)
    replace XX := Lib.hid (XX.out.below hb)
    replace V13 := Lib.hid (V13.out.below hb)
    replace V16 := Lib.hid (V16.out.below hb)
    replace O16 := Lib.hid (O16.out.below hb)
    replace V18 := Lib.hid (V18.out.below hb)
    replace V20 := Lib.hid (V20.out.below hb)
    replace V22 := Lib.hid (V22.out.below hb)
    replace OR := Lib.hid (OR.out.below hb)
    replace HB := Lib.hid (HB.out.trans (hb.mono HB.out.size))
    replace HC1 := Lib.hid (HC1.out.trans (hb.mono HC1.out.size))
    have V28 := Lib.hid hv; have K28 := Lib.hid hk; have HW := Lib.hid hW; have HGG := Lib.hid hg
    clear h hall hb hv ho hk hW hg
    obtain ⟨y00, y01, _⟩ := cells2 V13.out.1
    rw [HW.out] at y00 y01
    go_wp2_with (go_at_call 20; fail)
    rw [← HW.out, ← HGG.out]
    clear HW HGG
    clear y00 y01
    have hc : Calls Try.prog 20 #[.agg #[.int .i64 p, .slice ko n kc], .int .i64 q, .int .i64 bit] W28 (MPost W28 (ei, pi, ki)) := by
      have h1 := flip_any ⟨p, ko, n, kc, csi⟩ q bit W28 V13.out.2 GT.out HBIT.out
      rw [KT.out] at h1
      rw [RI.out]; exact h1
    refine hc.mono ?_
    clear hc
    intro e w30 h
    obtain ⟨a30, n30, c30, cs30, rfl, hk, hall⟩ := h.var
    obtain ⟨W30, hW⟩ : ∃ W, W = w30.alloc (.cells #[.int .i64 pi, .slice a30 n30 c30] 24) := ⟨_, rfl⟩
    obtain ⟨hb, hv, ho⟩ := hall _ hW
    obtain ⟨g30, hg⟩ : ∃ g, g = w30.heap.size := ⟨_, rfl⟩
    rw [← hg] at hv
    replace V6 := Lib.hid (V6.out.below hb)
    replace DD := Lib.hid (DD.out.below hb)
    replace XX := Lib.hid (XX.out.below hb)
    replace V13 := Lib.hid (V13.out.below hb)
    replace V16 := Lib.hid (V16.out.below hb)
    replace O16 := Lib.hid (O16.out.below hb)
    replace V18 := Lib.hid (V18.out.below hb)
    replace V20 := Lib.hid (V20.out.below hb)
    replace V22 := Lib.hid (V22.out.below hb)
    replace OR := Lib.hid (OR.out.below hb)
    replace V28 := Lib.hid (V28.out.below hb)
    replace O28 := Lib.hid (O28.out.below hb)
    replace HB := Lib.hid (HB.out.trans (hb.mono HB.out.size))
    replace HC1 := Lib.hid (HC1.out.trans (hb.mono HC1.out.size))
    have V30 := Lib.hid hv; have K30 := Lib.hid hk; have HW := Lib.hid hW; have HGG := Lib.hid hg
    clear h hall hb hv ho hk hW hg
    obtain ⟨y00, y01, _⟩ := cells2 V13.out.1
    rw [HW.out] at y00 y01
    go_wp2_with (go_at_call 21; fail)
    rw [← HW.out, ← HGG.out]
    clear HW HGG
    clear y00 y01
    have HCE : Hid (∀ V, Below W30.heap.size W30 V → V.cell? ⟨g13, 0, none⟩ = some (.int .i64 p) ∧ V.cell? ⟨g13, 1, none⟩ = some (.slice ko n kc) ∧ V.cell? ⟨g6, 0, none⟩ = some (.int .i64 p) ∧ V.cell? ⟨g6, 1, none⟩ = some (.slice a n c)) := fun V hb => by
      obtain ⟨u0, v0, _⟩ := cells2 (V13.out.below hb).1
      obtain ⟨u1, v1, _⟩ := cells2 (V6.out.below hb).1
      exact ⟨u0, v0, u1, v1⟩
    have HCK : Hid (∀ V, Below W30.heap.size W30 V → Calls Try.prog 21 #[.agg #[.int .i64 p, .slice ko n kc]] V fun e w' => e = .returned (.int .i64 0) ∧ Below V.heap.size V w') := fun V hb => check_ok ⟨p, ko, n, kc, csi⟩ V (V13.out.below hb).2 GT.out
    have HKM : Hid (∀ V, Below W30.heap.size W30 V → Calls Try.prog 22 #[.agg #[.int .i64 p, .slice ko n kc], .agg #[.int .i64 p, .slice a n c]] V fun e w' => e = .returned (.bool true) ∧ Below V.heap.size V w') := fun V hb => by
      have h1 := keep_med ⟨p, ko, n, kc, csi⟩ ⟨p, a, n, c, cs⟩ V (V13.out.below hb).2 (V6.out.below hb).2
      rw [decide_eq_true (show (Tap.mk p ko n kc csi).p = (Tap.mk p a n c cs).p ∧ Tap.ks ⟨p, ko, n, kc, csi⟩ = Tap.ks ⟨p, a, n, c, cs⟩ from ⟨rfl, by rw [KT.out, HKS.out]⟩)] at h1
      exact h1
    have HBC : Hid (∀ V, Below W30.heap.size W30 V → Calls Try.prog 23 #[.slice xo dl xc, .slice da dl dc] V fun e w' => e = .returned (.bool true) ∧ Below V.heap.size V w') := fun V hb => by
      have h1 := bytes_cmp xo da dl dl xc dc dz dz V HDL.out HDL.out (by unfold maxLen; omega) (XX.out.below hb).rd (DD.out.below hb).rd
      rw [decide_eq_true rfl] at h1
      exact h1.mono fun e w' ⟨he, q, hq⟩ => ⟨he, by rw [hq]; exact below_drewN (Below.refl _ _) q⟩
    have HBR : Hid (Below W30.heap.size W30 W30) := Below.refl _ _
    refine (HCK.out _ HBR.out).mono ?_
    rintro e wn ⟨rfl, hBn⟩
    have HBN := Lib.hid (HBR.out.trans (hBn.mono HBR.out.size))
    clear HBR hBn
    have HBR := Lib.hid HBN.out
    clear HBN
    obtain ⟨y0, y1, z0, z1⟩ := HCE.out _ HBR.out
    go_wp2_with (first
      | (go_at_call 22; ((with_reducible refine (HKM.out _ HBR.out).mono ?_); rintro e wn ⟨rfl, hBn⟩; have HBN := Lib.hid (HBR.out.trans (hBn.mono HBR.out.size)); clear HBR hBn y0 y1 z0 z1; have HBR := Lib.hid HBN.out; clear HBN; obtain ⟨y0, y1, z0, z1⟩ := HCE.out _ HBR.out))
      | (go_at_call 23; ((with_reducible refine (HBC.out _ HBR.out).mono ?_); rintro e wn ⟨rfl, hBn⟩; have HBN := Lib.hid (HBR.out.trans (hBn.mono HBR.out.size)); clear HBR hBn y0 y1 z0 z1; have HBR := Lib.hid HBN.out; clear HBN; obtain ⟨y0, y1, z0, z1⟩ := HCE.out _ HBR.out))
      | (go_at_call 27; fail))
    obtain ⟨D1, hD1⟩ : ∃ D, D = wn := ⟨_, rfl⟩
    rw [← hD1] at HBR y0 y1 z0 z1 ⊢
    have hb := HBR.out
    replace V6 := Lib.hid (V6.out.below hb)
    replace DD := Lib.hid (DD.out.below hb)
    replace XX := Lib.hid (XX.out.below hb)
    replace V13 := Lib.hid (V13.out.below hb)
    replace V16 := Lib.hid (V16.out.below hb)
    replace O16 := Lib.hid (O16.out.below hb)
    replace V18 := Lib.hid (V18.out.below hb)
    replace V20 := Lib.hid (V20.out.below hb)
    replace V22 := Lib.hid (V22.out.below hb)
    replace OR := Lib.hid (OR.out.below hb)
    replace V28 := Lib.hid (V28.out.below hb)
    replace O28 := Lib.hid (O28.out.below hb)
    replace V30 := Lib.hid (V30.out.below hb)
    replace HB := Lib.hid (HB.out.trans (hb.mono HB.out.size))
    replace HC1 := Lib.hid (HC1.out.trans (hb.mono HC1.out.size))
    clear HBR hb HCE HCK HKM HBC y0 y1 z0 z1 hD1
    have hc : Calls Try.prog 27 #[.agg #[.int .i64 p, .slice a n c], .int .i64 q, .slice da dl dc] D1 (MPost D1 (ew, pw, kw)) := by
      have h1 := rwrite_any ⟨p, a, n, c, cs⟩ q ⟨da, dl, dc, dz⟩ D1 V6.out.2 GM.out DD.out
      rw [HKS.out] at h1
      rw [RW.out]; exact h1
    refine hc.mono ?_
    clear hc
    intro e w32 h
    obtain ⟨a32, n32, c32, cs32, rfl, hk, hall⟩ := h.var
    obtain ⟨W32, hW⟩ : ∃ W, W = w32.alloc (.cells #[.int .i64 pw, .slice a32 n32 c32] 24) := ⟨_, rfl⟩
    obtain ⟨hb, hv, ho⟩ := hall _ hW
    obtain ⟨g32, hg⟩ : ∃ g, g = w32.heap.size := ⟨_, rfl⟩
    rw [← hg] at hv
    replace V6 := Lib.hid (V6.out.below hb)
    replace DD := Lib.hid (DD.out.below hb)
    replace XX := Lib.hid (XX.out.below hb)
    replace V13 := Lib.hid (V13.out.below hb)
    replace V16 := Lib.hid (V16.out.below hb)
    replace O16 := Lib.hid (O16.out.below hb)
    replace V18 := Lib.hid (V18.out.below hb)
    replace V20 := Lib.hid (V20.out.below hb)
    replace V22 := Lib.hid (V22.out.below hb)
    replace OR := Lib.hid (OR.out.below hb)
    replace V28 := Lib.hid (V28.out.below hb)
    replace O28 := Lib.hid (O28.out.below hb)
    replace V30 := Lib.hid (V30.out.below hb)
    replace HB := Lib.hid (HB.out.trans (hb.mono HB.out.size))
    replace HC1 := Lib.hid (HC1.out.trans (hb.mono HC1.out.size))
    have V32 := Lib.hid hv; have K32 := Lib.hid hk; have HW := Lib.hid hW; have HGG := Lib.hid hg
    clear h hall hb hv ho hk hW hg
    obtain ⟨y00, y01, _⟩ := cells2 V6.out.1
    rw [HW.out] at y00 y01
    go_wp2_with (go_at_call 28; fail)
    rw [← HW.out, ← HGG.out]
    clear HW HGG
    clear y00 y01
    have hc : Calls Try.prog 28 #[.agg #[.int .i64 p, .slice a n c], .int .i64 q, .slice da dl dc, .int .i64 keep] W32 (MPost W32 (et, pt, kt)) := by
      have h1 := rtear_any ⟨p, a, n, c, cs⟩ q ⟨da, dl, dc, dz⟩ keep W32 V6.out.2 GM.out DD.out
      rw [HKS.out] at h1
      rw [RT.out]; exact h1
    refine hc.mono ?_
    clear hc
    intro e w34 h
    obtain ⟨a34, n34, c34, cs34, rfl, hk, hall⟩ := h.var
    obtain ⟨W34, hW⟩ : ∃ W, W = w34.alloc (.cells #[.int .i64 pt, .slice a34 n34 c34] 24) := ⟨_, rfl⟩
    obtain ⟨hb, hv, ho⟩ := hall _ hW
    obtain ⟨g34, hg⟩ : ∃ g, g = w34.heap.size := ⟨_, rfl⟩
    rw [← hg] at hv
    replace V6 := Lib.hid (V6.out.below hb)
    replace DD := Lib.hid (DD.out.below hb)
    replace XX := Lib.hid (XX.out.below hb)
    replace V13 := Lib.hid (V13.out.below hb)
    replace V16 := Lib.hid (V16.out.below hb)
    replace O16 := Lib.hid (O16.out.below hb)
    replace V18 := Lib.hid (V18.out.below hb)
    replace V20 := Lib.hid (V20.out.below hb)
    replace V22 := Lib.hid (V22.out.below hb)
    replace OR := Lib.hid (OR.out.below hb)
    replace V28 := Lib.hid (V28.out.below hb)
    replace O28 := Lib.hid (O28.out.below hb)
    replace V30 := Lib.hid (V30.out.below hb)
    replace V32 := Lib.hid (V32.out.below hb)
    replace HB := Lib.hid (HB.out.trans (hb.mono HB.out.size))
    replace HC1 := Lib.hid (HC1.out.trans (hb.mono HC1.out.size))
    have V34 := Lib.hid hv; have K34 := Lib.hid hk; have HW := Lib.hid hW; have HGG := Lib.hid hg
    clear h hall hb hv ho hk hW hg
    obtain ⟨y00, y01, _⟩ := cells2 V6.out.1
    rw [HW.out] at y00 y01
    go_wp2_with (go_at_call 29; fail)
    rw [← HW.out, ← HGG.out]
    clear HW HGG
    clear y00 y01
    have hc : Calls Try.prog 29 #[.agg #[.int .i64 p, .slice a n c], .int .i64 q] W34 (MPost W34 (ek, pk, kk)) := by
      have h1 := rmark_any ⟨p, a, n, c, cs⟩ q W34 V6.out.2 GM.out
      rw [HKS.out] at h1
      rw [RK.out]; exact h1
    refine hc.mono ?_
    clear hc
    intro e w36 h
    obtain ⟨a36, n36, c36, cs36, rfl, hk, hall⟩ := h.var
    obtain ⟨W36, hW⟩ : ∃ W, W = w36.alloc (.cells #[.int .i64 pk, .slice a36 n36 c36] 24) := ⟨_, rfl⟩
    obtain ⟨hb, hv, ho⟩ := hall _ hW
    obtain ⟨g36, hg⟩ : ∃ g, g = w36.heap.size := ⟨_, rfl⟩
    rw [← hg] at hv
    replace V6 := Lib.hid (V6.out.below hb)
    replace DD := Lib.hid (DD.out.below hb)
    replace XX := Lib.hid (XX.out.below hb)
    replace V13 := Lib.hid (V13.out.below hb)
    replace V16 := Lib.hid (V16.out.below hb)
    replace O16 := Lib.hid (O16.out.below hb)
    replace V18 := Lib.hid (V18.out.below hb)
    replace V20 := Lib.hid (V20.out.below hb)
    replace V22 := Lib.hid (V22.out.below hb)
    replace OR := Lib.hid (OR.out.below hb)
    replace V28 := Lib.hid (V28.out.below hb)
    replace O28 := Lib.hid (O28.out.below hb)
    replace V30 := Lib.hid (V30.out.below hb)
    replace V32 := Lib.hid (V32.out.below hb)
    replace V34 := Lib.hid (V34.out.below hb)
    replace HB := Lib.hid (HB.out.trans (hb.mono HB.out.size))
    replace HC1 := Lib.hid (HC1.out.trans (hb.mono HC1.out.size))
    have V36 := Lib.hid hv; have K36 := Lib.hid hk; have HW := Lib.hid hW; have HGG := Lib.hid hg
    clear h hall hb hv ho hk hW hg
    obtain ⟨y00, y01, _⟩ := cells2 V6.out.1
    rw [HW.out] at y00 y01
    go_wp2_with (go_at_call 30; fail)
    rw [← HW.out, ← HGG.out]
    clear HW HGG
    clear y00 y01
    have hc : Calls Try.prog 30 #[.agg #[.int .i64 p, .slice a n c], .int .i64 q] W36 (MPost W36 (ed, pd, kd)) := by
      have h1 := rend_any ⟨p, a, n, c, cs⟩ q W36 V6.out.2 GM.out
      rw [HKS.out] at h1
      rw [RD.out]; exact h1
    refine hc.mono ?_
    clear hc
    intro e w38 h
    obtain ⟨a38, n38, c38, cs38, rfl, hk, hall⟩ := h.var
    obtain ⟨W38, hW⟩ : ∃ W, W = w38.alloc (.cells #[.int .i64 pd, .slice a38 n38 c38] 24) := ⟨_, rfl⟩
    obtain ⟨hb, hv, ho⟩ := hall _ hW
    obtain ⟨g38, hg⟩ : ∃ g, g = w38.heap.size := ⟨_, rfl⟩
    rw [← hg] at hv
    replace V6 := Lib.hid (V6.out.below hb)
    replace DD := Lib.hid (DD.out.below hb)
    replace XX := Lib.hid (XX.out.below hb)
    replace V13 := Lib.hid (V13.out.below hb)
    replace V16 := Lib.hid (V16.out.below hb)
    replace O16 := Lib.hid (O16.out.below hb)
    replace V18 := Lib.hid (V18.out.below hb)
    replace V20 := Lib.hid (V20.out.below hb)
    replace V22 := Lib.hid (V22.out.below hb)
    replace OR := Lib.hid (OR.out.below hb)
    replace V28 := Lib.hid (V28.out.below hb)
    replace O28 := Lib.hid (O28.out.below hb)
    replace V30 := Lib.hid (V30.out.below hb)
    replace V32 := Lib.hid (V32.out.below hb)
    replace V34 := Lib.hid (V34.out.below hb)
    replace V36 := Lib.hid (V36.out.below hb)
    replace HB := Lib.hid (HB.out.trans (hb.mono HB.out.size))
    replace HC1 := Lib.hid (HC1.out.trans (hb.mono HC1.out.size))
    have V38 := Lib.hid hv; have K38 := Lib.hid hk; have HW := Lib.hid hW; have HGG := Lib.hid hg
    clear h hall hb hv ho hk hW hg
    obtain ⟨y00, y01, _⟩ := cells2 V6.out.1
    rw [HW.out] at y00 y01
    go_wp2_with (go_at_call 31; fail)
    rw [← HW.out, ← HGG.out]
    clear HW HGG
    clear y00 y01
    have hc := rread_any ⟨p, a, n, c, cs⟩ q W38 V6.out.2 (fun k hk => Nat.le_trans (H300.out k hk) (by decide))
    rw [HKS.out, ← RR.out] at hc
    refine hc.mono ?_
    clear hc
    intro e w31 h
    obtain ⟨so, sc, rfl, how, hb⟩ := h.out
    have OS := Lib.hid how
    replace V6 := Lib.hid (V6.out.below hb)
    replace DD := Lib.hid (DD.out.below hb)
    replace XX := Lib.hid (XX.out.below hb)
    replace V13 := Lib.hid (V13.out.below hb)
    replace V16 := Lib.hid (V16.out.below hb)
    replace O16 := Lib.hid (O16.out.below hb)
    replace V18 := Lib.hid (V18.out.below hb)
    replace V20 := Lib.hid (V20.out.below hb)
    replace V22 := Lib.hid (V22.out.below hb)
    replace OR := Lib.hid (OR.out.below hb)
    replace V28 := Lib.hid (V28.out.below hb)
    replace O28 := Lib.hid (O28.out.below hb)
    replace V30 := Lib.hid (V30.out.below hb)
    replace V32 := Lib.hid (V32.out.below hb)
    replace V34 := Lib.hid (V34.out.below hb)
    replace V36 := Lib.hid (V36.out.below hb)
    replace V38 := Lib.hid (V38.out.below hb)
    replace HB := Lib.hid (HB.out.trans (hb.mono HB.out.size))
    replace HC1 := Lib.hid (HC1.out.trans (hb.mono HC1.out.size))
    clear h how hb
    obtain ⟨y00, y01, _⟩ := cells2 V6.out.1
    go_wp2_with (go_at_call 32; fail)
    clear y00 y01
    refine (HF32.out w31 V6.out.2).mono ?_
    rintro e w32 ⟨rfl, hb⟩
    replace V6 := Lib.hid (V6.out.below hb)
    replace DD := Lib.hid (DD.out.below hb)
    replace XX := Lib.hid (XX.out.below hb)
    replace V13 := Lib.hid (V13.out.below hb)
    replace V16 := Lib.hid (V16.out.below hb)
    replace O16 := Lib.hid (O16.out.below hb)
    replace V18 := Lib.hid (V18.out.below hb)
    replace V20 := Lib.hid (V20.out.below hb)
    replace V22 := Lib.hid (V22.out.below hb)
    replace OR := Lib.hid (OR.out.below hb)
    replace V28 := Lib.hid (V28.out.below hb)
    replace O28 := Lib.hid (O28.out.below hb)
    replace V30 := Lib.hid (V30.out.below hb)
    replace V32 := Lib.hid (V32.out.below hb)
    replace V34 := Lib.hid (V34.out.below hb)
    replace V36 := Lib.hid (V36.out.below hb)
    replace V38 := Lib.hid (V38.out.below hb)
    replace OS := Lib.hid (OS.out.below hb)
    replace HB := Lib.hid (HB.out.trans (hb.mono HB.out.size))
    replace HC1 := Lib.hid (HC1.out.trans (hb.mono HC1.out.size))
    clear hb
    obtain ⟨y00, y01, _⟩ := cells2 V6.out.1
    go_wp2_with (go_at_call 33; fail)
    clear y00 y01
    have hc : Calls Try.prog 33 #[.agg #[.int .i64 p, .slice a n c], .int .i64 q] w32 (MPost w32 (es, ps, kss)) := by
      have h1 := rspoil_any ⟨p, a, n, c, cs⟩ q w32 V6.out.2 GM.out
      rw [HKS.out] at h1
      rw [RS.out]; exact h1
    refine hc.mono ?_
    clear hc
    intro e w44 h
    obtain ⟨a44, n44, c44, cs44, rfl, hk, hall⟩ := h.var
    obtain ⟨W44, hW⟩ : ∃ W, W = w44.alloc (.cells #[.int .i64 ps, .slice a44 n44 c44] 24) := ⟨_, rfl⟩
    obtain ⟨hb, hv, ho⟩ := hall _ hW
    obtain ⟨g44, hg⟩ : ∃ g, g = w44.heap.size := ⟨_, rfl⟩
    rw [← hg] at hv
    replace V6 := Lib.hid (V6.out.below hb)
    replace DD := Lib.hid (DD.out.below hb)
    replace XX := Lib.hid (XX.out.below hb)
    replace V13 := Lib.hid (V13.out.below hb)
    replace V16 := Lib.hid (V16.out.below hb)
    replace O16 := Lib.hid (O16.out.below hb)
    replace V18 := Lib.hid (V18.out.below hb)
    replace V20 := Lib.hid (V20.out.below hb)
    replace V22 := Lib.hid (V22.out.below hb)
    replace OR := Lib.hid (OR.out.below hb)
    replace V28 := Lib.hid (V28.out.below hb)
    replace O28 := Lib.hid (O28.out.below hb)
    replace V30 := Lib.hid (V30.out.below hb)
    replace V32 := Lib.hid (V32.out.below hb)
    replace V34 := Lib.hid (V34.out.below hb)
    replace V36 := Lib.hid (V36.out.below hb)
    replace V38 := Lib.hid (V38.out.below hb)
    replace OS := Lib.hid (OS.out.below hb)
    replace HB := Lib.hid (HB.out.trans (hb.mono HB.out.size))
    replace HC1 := Lib.hid (HC1.out.trans (hb.mono HC1.out.size))
    have V44 := Lib.hid hv; have K44 := Lib.hid hk; have HW := Lib.hid hW; have HGG := Lib.hid hg
    clear h hall hb hv ho hk hW hg
    obtain ⟨y00, y01, _⟩ := cells2 V6.out.1
    rw [HW.out] at y00 y01
    go_wp2_with (go_at_call 34; fail)
    rw [← HW.out, ← HGG.out]
    clear HW HGG
    clear y00 y01
    have hc : Calls Try.prog 34 #[.agg #[.int .i64 p, .slice a n c], .int .i64 q, .int .i64 bit] W44 (MPost W44 (ei, pi, ki)) := by
      have h1 := rflip_any ⟨p, a, n, c, cs⟩ q bit W44 V6.out.2 GM.out
      rw [HKS.out] at h1
      rw [RI.out]; exact h1
    refine hc.mono ?_
    clear hc
    intro e w46 h
    obtain ⟨a46, n46, c46, cs46, rfl, hk, hall⟩ := h.var
    obtain ⟨W46, hW⟩ : ∃ W, W = w46.alloc (.cells #[.int .i64 pi, .slice a46 n46 c46] 24) := ⟨_, rfl⟩
    obtain ⟨hb, hv, ho⟩ := hall _ hW
    obtain ⟨g46, hg⟩ : ∃ g, g = w46.heap.size := ⟨_, rfl⟩
    rw [← hg] at hv
    replace V6 := Lib.hid (V6.out.below hb)
    replace DD := Lib.hid (DD.out.below hb)
    replace XX := Lib.hid (XX.out.below hb)
    replace V13 := Lib.hid (V13.out.below hb)
    replace V16 := Lib.hid (V16.out.below hb)
    replace O16 := Lib.hid (O16.out.below hb)
    replace V18 := Lib.hid (V18.out.below hb)
    replace V20 := Lib.hid (V20.out.below hb)
    replace V22 := Lib.hid (V22.out.below hb)
    replace OR := Lib.hid (OR.out.below hb)
    replace V28 := Lib.hid (V28.out.below hb)
    replace O28 := Lib.hid (O28.out.below hb)
    replace V30 := Lib.hid (V30.out.below hb)
    replace V32 := Lib.hid (V32.out.below hb)
    replace V34 := Lib.hid (V34.out.below hb)
    replace V36 := Lib.hid (V36.out.below hb)
    replace V38 := Lib.hid (V38.out.below hb)
    replace OS := Lib.hid (OS.out.below hb)
    replace V44 := Lib.hid (V44.out.below hb)
    replace HB := Lib.hid (HB.out.trans (hb.mono HB.out.size))
    replace HC1 := Lib.hid (HC1.out.trans (hb.mono HC1.out.size))
    have V46 := Lib.hid hv; have K46 := Lib.hid hk; have HW := Lib.hid hW; have HGG := Lib.hid hg
    clear h hall hb hv ho hk hW hg
    have q0 : (ew != ew) = false := by simp
    have q1 : (et != et) = false := by simp
    have q2 : (ek != ek) = false := by simp
    have q3 : (ed != ed) = false := by simp
    have q4 : (er != er) = false := by simp
    have q5 : (es != es) = false := by simp
    have q6 : (ei != ei) = false := by simp
    have q8 : ((mk : Int) != (mk : Int)) = false := by simp
    go_wp2
    rw [← HW.out, ← HGG.out]
    clear HW HGG
    have HCE : Hid (∀ V, Below W46.heap.size W46 V → V.cell? ⟨g13, 0, none⟩ = some (.int .i64 p) ∧ V.cell? ⟨g13, 1, none⟩ = some (.slice ko n kc) ∧ V.cell? ⟨g6, 0, none⟩ = some (.int .i64 p) ∧ V.cell? ⟨g6, 1, none⟩ = some (.slice a n c)) := fun V hb => by
      obtain ⟨u0, v0, _⟩ := cells2 (V13.out.below hb).1
      obtain ⟨u1, v1, _⟩ := cells2 (V6.out.below hb).1
      exact ⟨u0, v0, u1, v1⟩
    have HF1 : Hid (∀ V, Below W46.heap.size W46 V → Calls Try.prog 24 #[.agg #[.int .i64 p, .slice ko n kc]] V fun e w' => e = .returned (.int .i64 mk) ∧ Below V.heap.size V w') := fun V hb => by
      have h1 := files_any ⟨p, ko, n, kc, csi⟩ V (V13.out.below hb).2 GT.out
      rw [KT.out, ← RM.out] at h1
      exact h1
    have HF2 : Hid (∀ V, Below W46.heap.size W46 V → Calls Try.prog 35 #[.agg #[.int .i64 p, .slice a n c]] V fun e w' => e = .returned (.int .i64 mk) ∧ Below V.heap.size V w') := fun V hb => by
      have h1 := rfiles_any ⟨p, a, n, c, cs⟩ V (V6.out.below hb).2
      rw [HKS.out, ← RM.out] at h1
      exact h1
    have HBC : Hid (∀ V, Below W46.heap.size W46 V → Calls Try.prog 23 #[.slice ro rz.length rcc, .slice so rz.length sc] V fun e w' => e = .returned (.bool true) ∧ Below V.heap.size V w') := fun V hb => by
      have h1 := bytes_cmp ro so rz.length rz.length rcc sc rz rz V rfl rfl (Nat.le_trans OR.out.2.1 OR.out.2.2.1) (OR.out.rd.below hb) (OS.out.rd.below hb)
      rw [decide_eq_true rfl] at h1
      exact h1.mono fun e w' ⟨he, q, hq⟩ => ⟨he, by rw [hq]; exact below_drewN (Below.refl _ _) q⟩
    have HBR : Hid (Below W46.heap.size W46 W46.drew) := (Below.refl _ _).drew
    go_region_held3 (fun V => V.cell? ⟨g13, 0, none⟩ = some (.int .i64 p) ∧ V.cell? ⟨g13, 1, none⟩ = some (.slice ko n kc) ∧ V.cell? ⟨g6, 0, none⟩ = some (.int .i64 p) ∧ V.cell? ⟨g6, 1, none⟩ = some (.slice a n c)) (exact HCE.out _ HBR.out)
      ((first
        | (go_at_call 24; (with_reducible refine (HF1.out _ HBR.out).mono ?_); rintro e wn ⟨rfl, hBn⟩; have HBN := Lib.hid (HBR.out.trans (hBn.mono HBR.out.size)); clear HBR hBn; have HBR := Lib.hid HBN.out; clear HBN)
        | (go_at_call 35; (with_reducible refine (HF2.out _ HBR.out).mono ?_); rintro e wn ⟨rfl, hBn⟩; have HBN := Lib.hid (HBR.out.trans (hBn.mono HBR.out.size)); clear HBR hBn; have HBR := Lib.hid HBN.out; clear HBN)
        | (go_at_call 23; (with_reducible refine (HBC.out _ HBR.out).mono ?_); rintro e wn ⟨rfl, hBn⟩; have HBN := Lib.hid (HBR.out.trans (hBn.mono HBR.out.size)); clear HBR hBn; have HBR := Lib.hid HBN.out; clear HBN)))
    rename_i hheld
    clear hheld
    obtain ⟨D2, hD2⟩ : ∃ D, D = wn := ⟨_, rfl⟩
    rw [← hD2] at HBR ⊢
    have hb := HBR.out
    replace V6 := Lib.hid (V6.out.below hb)
    replace DD := Lib.hid (DD.out.below hb)
    replace XX := Lib.hid (XX.out.below hb)
    replace V13 := Lib.hid (V13.out.below hb)
    replace V16 := Lib.hid (V16.out.below hb)
    replace O16 := Lib.hid (O16.out.below hb)
    replace V18 := Lib.hid (V18.out.below hb)
    replace V20 := Lib.hid (V20.out.below hb)
    replace V22 := Lib.hid (V22.out.below hb)
    replace OR := Lib.hid (OR.out.below hb)
    replace V28 := Lib.hid (V28.out.below hb)
    replace O28 := Lib.hid (O28.out.below hb)
    replace V30 := Lib.hid (V30.out.below hb)
    replace V32 := Lib.hid (V32.out.below hb)
    replace V34 := Lib.hid (V34.out.below hb)
    replace V36 := Lib.hid (V36.out.below hb)
    replace V38 := Lib.hid (V38.out.below hb)
    replace OS := Lib.hid (OS.out.below hb)
    replace V44 := Lib.hid (V44.out.below hb)
    replace V46 := Lib.hid (V46.out.below hb)
    replace HB := Lib.hid (HB.out.trans (hb.mono HB.out.size))
    replace HC1 := Lib.hid (HC1.out.trans (hb.mono HC1.out.size))
    clear HBR hb HCE HF1 HF2 HBC hD2 q0 q1 q2 q3 q4 q5 q6 q8
    have HCE : Hid (∀ V, Below D2.heap.size D2 V → V.cell? ⟨g16, 0, none⟩ = some (.int .i64 pw) ∧ V.cell? ⟨g16, 1, none⟩ = some (.slice a16 n16 c16) ∧ V.cell? ⟨g32, 0, none⟩ = some (.int .i64 pw) ∧ V.cell? ⟨g32, 1, none⟩ = some (.slice a32 n32 c32) ∧ V.cell? ⟨g18, 0, none⟩ = some (.int .i64 pt) ∧ V.cell? ⟨g18, 1, none⟩ = some (.slice a18 n18 c18) ∧ V.cell? ⟨g34, 0, none⟩ = some (.int .i64 pt) ∧ V.cell? ⟨g34, 1, none⟩ = some (.slice a34 n34 c34) ∧ V.cell? ⟨g20, 0, none⟩ = some (.int .i64 pk) ∧ V.cell? ⟨g20, 1, none⟩ = some (.slice a20 n20 c20) ∧ V.cell? ⟨g36, 0, none⟩ = some (.int .i64 pk) ∧ V.cell? ⟨g36, 1, none⟩ = some (.slice a36 n36 c36) ∧ V.cell? ⟨g22, 0, none⟩ = some (.int .i64 pd) ∧ V.cell? ⟨g22, 1, none⟩ = some (.slice a22 n22 c22) ∧ V.cell? ⟨g38, 0, none⟩ = some (.int .i64 pd) ∧ V.cell? ⟨g38, 1, none⟩ = some (.slice a38 n38 c38) ∧ V.cell? ⟨g28, 0, none⟩ = some (.int .i64 ps) ∧ V.cell? ⟨g28, 1, none⟩ = some (.slice a28 n28 c28) ∧ V.cell? ⟨g44, 0, none⟩ = some (.int .i64 ps) ∧ V.cell? ⟨g44, 1, none⟩ = some (.slice a44 n44 c44) ∧ V.cell? ⟨g30, 0, none⟩ = some (.int .i64 pi) ∧ V.cell? ⟨g30, 1, none⟩ = some (.slice a30 n30 c30) ∧ V.cell? ⟨g46, 0, none⟩ = some (.int .i64 pi) ∧ V.cell? ⟨g46, 1, none⟩ = some (.slice a46 n46 c46)) := fun V hb => by
      obtain ⟨u0, v0, _⟩ := cells2 (V16.out.below hb).1
      obtain ⟨u1, v1, _⟩ := cells2 (V32.out.below hb).1
      obtain ⟨u2, v2, _⟩ := cells2 (V18.out.below hb).1
      obtain ⟨u3, v3, _⟩ := cells2 (V34.out.below hb).1
      obtain ⟨u4, v4, _⟩ := cells2 (V20.out.below hb).1
      obtain ⟨u5, v5, _⟩ := cells2 (V36.out.below hb).1
      obtain ⟨u6, v6, _⟩ := cells2 (V22.out.below hb).1
      obtain ⟨u7, v7, _⟩ := cells2 (V38.out.below hb).1
      obtain ⟨u8, v8, _⟩ := cells2 (V28.out.below hb).1
      obtain ⟨u9, v9, _⟩ := cells2 (V44.out.below hb).1
      obtain ⟨u10, v10, _⟩ := cells2 (V30.out.below hb).1
      obtain ⟨u11, v11, _⟩ := cells2 (V46.out.below hb).1
      exact ⟨u0, v0, u1, v1, u2, v2, u3, v3, u4, v4, u5, v5, u6, v6, u7, v7, u8, v8, u9, v9, u10, v10, u11, v11⟩
    have HK0 : Hid (∀ V, Below D2.heap.size D2 V → Calls Try.prog 22 #[.agg #[.int .i64 pw, .slice a16 n16 c16], .agg #[.int .i64 pw, .slice a32 n32 c32]] V fun e w' => e = .returned (.bool true) ∧ Below V.heap.size V w') := fun V hb => by
      have h1 := keep_med ⟨pw, a16, n16, c16, cs16⟩ ⟨pw, a32, n32, c32, cs32⟩ V (V16.out.below hb).2 (V32.out.below hb).2
      rw [decide_eq_true (show (Tap.mk pw a16 n16 c16 cs16).p = (Tap.mk pw a32 n32 c32 cs32).p ∧ Tap.ks ⟨pw, a16, n16, c16, cs16⟩ = Tap.ks ⟨pw, a32, n32, c32, cs32⟩ from ⟨rfl, K16.out.trans K32.out.symm⟩)] at h1
      exact h1
    have HK1 : Hid (∀ V, Below D2.heap.size D2 V → Calls Try.prog 22 #[.agg #[.int .i64 pt, .slice a18 n18 c18], .agg #[.int .i64 pt, .slice a34 n34 c34]] V fun e w' => e = .returned (.bool true) ∧ Below V.heap.size V w') := fun V hb => by
      have h1 := keep_med ⟨pt, a18, n18, c18, cs18⟩ ⟨pt, a34, n34, c34, cs34⟩ V (V18.out.below hb).2 (V34.out.below hb).2
      rw [decide_eq_true (show (Tap.mk pt a18 n18 c18 cs18).p = (Tap.mk pt a34 n34 c34 cs34).p ∧ Tap.ks ⟨pt, a18, n18, c18, cs18⟩ = Tap.ks ⟨pt, a34, n34, c34, cs34⟩ from ⟨rfl, K18.out.trans K34.out.symm⟩)] at h1
      exact h1
    have HK2 : Hid (∀ V, Below D2.heap.size D2 V → Calls Try.prog 22 #[.agg #[.int .i64 pk, .slice a20 n20 c20], .agg #[.int .i64 pk, .slice a36 n36 c36]] V fun e w' => e = .returned (.bool true) ∧ Below V.heap.size V w') := fun V hb => by
      have h1 := keep_med ⟨pk, a20, n20, c20, cs20⟩ ⟨pk, a36, n36, c36, cs36⟩ V (V20.out.below hb).2 (V36.out.below hb).2
      rw [decide_eq_true (show (Tap.mk pk a20 n20 c20 cs20).p = (Tap.mk pk a36 n36 c36 cs36).p ∧ Tap.ks ⟨pk, a20, n20, c20, cs20⟩ = Tap.ks ⟨pk, a36, n36, c36, cs36⟩ from ⟨rfl, K20.out.trans K36.out.symm⟩)] at h1
      exact h1
    have HK3 : Hid (∀ V, Below D2.heap.size D2 V → Calls Try.prog 22 #[.agg #[.int .i64 pd, .slice a22 n22 c22], .agg #[.int .i64 pd, .slice a38 n38 c38]] V fun e w' => e = .returned (.bool true) ∧ Below V.heap.size V w') := fun V hb => by
      have h1 := keep_med ⟨pd, a22, n22, c22, cs22⟩ ⟨pd, a38, n38, c38, cs38⟩ V (V22.out.below hb).2 (V38.out.below hb).2
      rw [decide_eq_true (show (Tap.mk pd a22 n22 c22 cs22).p = (Tap.mk pd a38 n38 c38 cs38).p ∧ Tap.ks ⟨pd, a22, n22, c22, cs22⟩ = Tap.ks ⟨pd, a38, n38, c38, cs38⟩ from ⟨rfl, K22.out.trans K38.out.symm⟩)] at h1
      exact h1
    have HK4 : Hid (∀ V, Below D2.heap.size D2 V → Calls Try.prog 22 #[.agg #[.int .i64 ps, .slice a28 n28 c28], .agg #[.int .i64 ps, .slice a44 n44 c44]] V fun e w' => e = .returned (.bool true) ∧ Below V.heap.size V w') := fun V hb => by
      have h1 := keep_med ⟨ps, a28, n28, c28, cs28⟩ ⟨ps, a44, n44, c44, cs44⟩ V (V28.out.below hb).2 (V44.out.below hb).2
      rw [decide_eq_true (show (Tap.mk ps a28 n28 c28 cs28).p = (Tap.mk ps a44 n44 c44 cs44).p ∧ Tap.ks ⟨ps, a28, n28, c28, cs28⟩ = Tap.ks ⟨ps, a44, n44, c44, cs44⟩ from ⟨rfl, K28.out.trans K44.out.symm⟩)] at h1
      exact h1
    have HK5 : Hid (∀ V, Below D2.heap.size D2 V → Calls Try.prog 22 #[.agg #[.int .i64 pi, .slice a30 n30 c30], .agg #[.int .i64 pi, .slice a46 n46 c46]] V fun e w' => e = .returned (.bool true) ∧ Below V.heap.size V w') := fun V hb => by
      have h1 := keep_med ⟨pi, a30, n30, c30, cs30⟩ ⟨pi, a46, n46, c46, cs46⟩ V (V30.out.below hb).2 (V46.out.below hb).2
      rw [decide_eq_true (show (Tap.mk pi a30 n30 c30 cs30).p = (Tap.mk pi a46 n46 c46 cs46).p ∧ Tap.ks ⟨pi, a30, n30, c30, cs30⟩ = Tap.ks ⟨pi, a46, n46, c46, cs46⟩ from ⟨rfl, K30.out.trans K46.out.symm⟩)] at h1
      exact h1
    have HBR : Hid (Below D2.heap.size D2 D2) := Below.refl _ _
    obtain ⟨y0, z0, y1, z1, y2, z2, y3, z3, y4, z4, y5, z5, y6, z6, y7, z7, y8, z8, y9, z9, y10, z10, y11, z11⟩ := HCE.out _ HBR.out
    go_wp2_with (first
      | (go_at_call 22; first | ((with_reducible refine (HK0.out _ HBR.out).mono ?_); rintro e wn ⟨rfl, hBn⟩; have HBN := Lib.hid (HBR.out.trans (hBn.mono HBR.out.size)); clear HBR hBn y0 z0 y1 z1 y2 z2 y3 z3 y4 z4 y5 z5 y6 z6 y7 z7 y8 z8 y9 z9 y10 z10 y11 z11; have HBR := Lib.hid HBN.out; clear HBN; obtain ⟨y0, z0, y1, z1, y2, z2, y3, z3, y4, z4, y5, z5, y6, z6, y7, z7, y8, z8, y9, z9, y10, z10, y11, z11⟩ := HCE.out _ HBR.out) | ((with_reducible refine (HK1.out _ HBR.out).mono ?_); rintro e wn ⟨rfl, hBn⟩; have HBN := Lib.hid (HBR.out.trans (hBn.mono HBR.out.size)); clear HBR hBn y0 z0 y1 z1 y2 z2 y3 z3 y4 z4 y5 z5 y6 z6 y7 z7 y8 z8 y9 z9 y10 z10 y11 z11; have HBR := Lib.hid HBN.out; clear HBN; obtain ⟨y0, z0, y1, z1, y2, z2, y3, z3, y4, z4, y5, z5, y6, z6, y7, z7, y8, z8, y9, z9, y10, z10, y11, z11⟩ := HCE.out _ HBR.out) | ((with_reducible refine (HK2.out _ HBR.out).mono ?_); rintro e wn ⟨rfl, hBn⟩; have HBN := Lib.hid (HBR.out.trans (hBn.mono HBR.out.size)); clear HBR hBn y0 z0 y1 z1 y2 z2 y3 z3 y4 z4 y5 z5 y6 z6 y7 z7 y8 z8 y9 z9 y10 z10 y11 z11; have HBR := Lib.hid HBN.out; clear HBN; obtain ⟨y0, z0, y1, z1, y2, z2, y3, z3, y4, z4, y5, z5, y6, z6, y7, z7, y8, z8, y9, z9, y10, z10, y11, z11⟩ := HCE.out _ HBR.out) | ((with_reducible refine (HK3.out _ HBR.out).mono ?_); rintro e wn ⟨rfl, hBn⟩; have HBN := Lib.hid (HBR.out.trans (hBn.mono HBR.out.size)); clear HBR hBn y0 z0 y1 z1 y2 z2 y3 z3 y4 z4 y5 z5 y6 z6 y7 z7 y8 z8 y9 z9 y10 z10 y11 z11; have HBR := Lib.hid HBN.out; clear HBN; obtain ⟨y0, z0, y1, z1, y2, z2, y3, z3, y4, z4, y5, z5, y6, z6, y7, z7, y8, z8, y9, z9, y10, z10, y11, z11⟩ := HCE.out _ HBR.out) | ((with_reducible refine (HK4.out _ HBR.out).mono ?_); rintro e wn ⟨rfl, hBn⟩; have HBN := Lib.hid (HBR.out.trans (hBn.mono HBR.out.size)); clear HBR hBn y0 z0 y1 z1 y2 z2 y3 z3 y4 z4 y5 z5 y6 z6 y7 z7 y8 z8 y9 z9 y10 z10 y11 z11; have HBR := Lib.hid HBN.out; clear HBN; obtain ⟨y0, z0, y1, z1, y2, z2, y3, z3, y4, z4, y5, z5, y6, z6, y7, z7, y8, z8, y9, z9, y10, z10, y11, z11⟩ := HCE.out _ HBR.out) | ((with_reducible refine (HK5.out _ HBR.out).mono ?_); rintro e wn ⟨rfl, hBn⟩; have HBN := Lib.hid (HBR.out.trans (hBn.mono HBR.out.size)); clear HBR hBn y0 z0 y1 z1 y2 z2 y3 z3 y4 z4 y5 z5 y6 z6 y7 z7 y8 z8 y9 z9 y10 z10 y11 z11; have HBR := Lib.hid HBN.out; clear HBN; obtain ⟨y0, z0, y1, z1, y2, z2, y3, z3, y4, z4, y5, z5, y6, z6, y7, z7, y8, z8, y9, z9, y10, z10, y11, z11⟩ := HCE.out _ HBR.out))
      | (go_at_call 36; fail))
    obtain ⟨D3, hD3⟩ : ∃ D, D = wn := ⟨_, rfl⟩
    rw [← hD3] at HBR ⊢
    clear y0 z0 y1 z1 y2 z2 y3 z3 y4 z4 y5 z5 y6 z6 y7 z7 y8 z8 y9 z9 y10 z10 y11 z11
    have hb := HBR.out
    replace V6 := Lib.hid (V6.out.below hb)
    replace DD := Lib.hid (DD.out.below hb)
    replace XX := Lib.hid (XX.out.below hb)
    replace V13 := Lib.hid (V13.out.below hb)
    replace V16 := Lib.hid (V16.out.below hb)
    replace O16 := Lib.hid (O16.out.below hb)
    replace V18 := Lib.hid (V18.out.below hb)
    replace V20 := Lib.hid (V20.out.below hb)
    replace V22 := Lib.hid (V22.out.below hb)
    replace OR := Lib.hid (OR.out.below hb)
    replace V28 := Lib.hid (V28.out.below hb)
    replace O28 := Lib.hid (O28.out.below hb)
    replace V30 := Lib.hid (V30.out.below hb)
    replace V32 := Lib.hid (V32.out.below hb)
    replace V34 := Lib.hid (V34.out.below hb)
    replace V36 := Lib.hid (V36.out.below hb)
    replace V38 := Lib.hid (V38.out.below hb)
    replace OS := Lib.hid (OS.out.below hb)
    replace V44 := Lib.hid (V44.out.below hb)
    replace V46 := Lib.hid (V46.out.below hb)
    replace HB := Lib.hid (HB.out.trans (hb.mono HB.out.size))
    replace HC1 := Lib.hid (HC1.out.trans (hb.mono HC1.out.size))
    clear HBR hb HCE HK0 HK1 HK2 HK3 HK4 HK5 hD3
    have hb1 : C1.heap.size ≤ D3.heap.size := HC1.out.size
    refine (spoilm_any C1.heap.size pw a16 n16 c16 D3 (Nat.le_trans O16.out.room O16.out.cm) O16.out.crow hb1).mono ?_
    rintro e E1 ⟨rfl, hbb, hs⟩
    have hv28 := hs.2.2 _ _ _ _ (by decide) (by decide) V28.out.1
    have hc28 : n28 = 0 ∨ ∃ g, a28 = some ⟨g, 0, none⟩ ∧ C1.heap.size ≤ g ∧ CRow E1 C1.heap.size g n28 := by
      rcases O28.out.crow with h | ⟨g, e, hg, hc⟩
      · exact .inl h
      · exact .inr ⟨g, e, hg, hs.1 _ _ _ hc⟩
    have hu : rz.length = 0 ∨ ∃ g, ro = some ⟨g, 0, none⟩ ∧ U8 E1 g rz.length ∧ C1.heap.size ≤ g := by
      rcases OR.out.u8 with h | ⟨g, e, hg, hc⟩
      · exact .inl h
      · exact .inr ⟨g, e, hs.2.1 _ _ hg, hc⟩
    have HCC := Lib.hid (HC1.out.trans hbb); have HBB := Lib.hid (HB.out.trans (hbb.mono (HBC1.out)))
    have HC28 := Lib.hid hc28; have HU := Lib.hid hu
    clear hs hbb hc28 hu hb1
    obtain ⟨y0, y1, _⟩ := cells2 hv28
    go_wp2_with (go_at_call 36; fail)
    refine (spoilm_any C1.heap.size ps a28 n28 c28 E1 (Nat.le_trans O28.out.room O28.out.cm) HC28.out HCC.out.size).mono ?_
    rintro e E2 ⟨rfl, hbb, hs⟩
    have hu : rz.length = 0 ∨ ∃ g, ro = some ⟨g, 0, none⟩ ∧ U8 E2 g rz.length ∧ C1.heap.size ≤ g := by
      rcases HU.out with h | ⟨g, e, hg, hc⟩
      · exact .inl h
      · exact .inr ⟨g, e, hs.2.1 _ _ hg, hc⟩
    replace HCC := Lib.hid (HCC.out.trans hbb); replace HBB := Lib.hid (HBB.out.trans (hbb.mono (HBC1.out)))
    have HU2 := Lib.hid hu
    clear hs hbb hu y0 y1 hv28
    go_wp2_with (go_at_call 37; fail)
    refine (spoilb_any C1.heap.size ro rz.length rcc E2 (Nat.le_trans OR.out.2.1 OR.out.2.2.1) HU2.out).mono ?_
    rintro e E3 ⟨rfl, hs⟩
    replace HCC := Lib.hid (HCC.out.trans hs.1); replace HBB := Lib.hid (HBB.out.trans (hs.1.mono (HBC1.out)))
    clear hs
    have X13 := Lib.hid (V13a.out.below HCC.out); have X6 := Lib.hid (V6a.out.below HCC.out)
    obtain ⟨y0, y1, _⟩ := cells2 X13.out.1
    obtain ⟨z0, z1, _⟩ := cells2 X6.out.1
    go_wp2_with (go_at_call 22; fail)
    have hkm := keep_med ⟨p, ko, n, kc, csi⟩ ⟨p, a, n, c, cs⟩ E3 X13.out.2 X6.out.2
    rw [decide_eq_true (show (Tap.mk p ko n kc csi).p = (Tap.mk p a n c cs).p ∧ Tap.ks ⟨p, ko, n, kc, csi⟩ = Tap.ks ⟨p, a, n, c, cs⟩ from ⟨rfl, by rw [KT.out, HKS.out]⟩)] at hkm
    refine hkm.mono ?_
    clear hkm y0 y1 z0 z1
    rintro e E4 ⟨rfl, hb⟩
    replace HBB := Lib.hid (HBB.out.trans (hb.mono HBB.out.size))
    clear hb
    go_wp2_with (go_at_call 26; fail)
    refine (wakes_any E4).mono ?_
    rintro e E5 ⟨rfl, hb⟩
    replace HBB := Lib.hid (HBB.out.trans (hb.mono HBB.out.size))
    clear hb
    go_wp2
    go_ret
    exact ⟨rfl, HBB.out⟩
end Go.Proofs.Ytojcinkchdhjpaa
