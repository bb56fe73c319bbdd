/-
  The walk of MediumExact, of a tape that may not be.
-/
import Derived.Test.YtojcinkchdhjpaaMedL
import Derived.Test.YtojcinkchdhjpaaOpen
namespace Go.Proofs.Ytojcinkchdhjpaa
open Go.RowKit
set_option linter.unusedVariables false

set_option maxRecDepth 100000 in
set_option maxHeartbeats 16000000 in
theorem exact_bad (t : Tap) (q : Int) (d : Part) (keep nn bit : Int) (w : World) (h : t.ok w) (hg : goodK t.p t.ks = false) (hd : d.ok w) :
    Calls Try.prog 3 #[.agg #[.int .i64 t.p, .slice t.a t.n t.c], .int .i64 q, .slice d.a d.l d.c, .int .i64 keep, .int .i64 nn, .int .i64 bit] w fun e w' => e = .returned (.bool true) ∧ Below w.heap.size w w' := by
  obtain ⟨p, a, n, c, cs⟩ := t
  obtain ⟨da, dl, dc, dz⟩ := d
  have hm := hd.small
  have hdn := hd.nil
  have hdl := hd.len
  unfold maxLen at hm
  obtain ⟨ks, hks⟩ : ∃ ks, ks = Tap.ks ⟨p, a, n, c, cs⟩ := ⟨_, rfl⟩
  simp only at hm hdl hdn h hd hg ⊢
  have HKS := Lib.hid hks.symm; have HDN := Lib.hid hdn; have HDL := Lib.hid hdl
  have HG := Lib.hid hg
  obtain ⟨W0, hW0⟩ : ∃ W0, W0 = w.alloc (.cells #[.int .i64 p, .slice a n c] 24) := ⟨_, rfl⟩
  obtain ⟨g6, hg6⟩ : ∃ g6, g6 = w.heap.size := ⟨_, rfl⟩
  have hb0 : Below w.heap.size w W0 := by rw [hW0]; exact (Below.refl _ _).alloc (Nat.le_refl _) _
  have V6 : Hid (Var W0 g6 p a n c cs) := ⟨by rw [hW0, hg6]; exact new_cell _ _ _, h.below hb0⟩
  have DD : Hid (Part.ok W0 ⟨da, dl, dc, dz⟩) := hd.below hb0
  have HB := Lib.hid hb0
  have HW := Lib.hid hW0; have HGG := Lib.hid hg6
  clear hks hdn hdl hg hb0 h hd hW0 hg6
  go_enter Try.func3, Try.ntmps3
  obtain ⟨y00, y01, _⟩ := cells2 V6.out.1
  rw [HW.out] at y00 y01
  go_wp2_with (go_at_call 9; fail)
  rw [← HW.out, ← HGG.out]
  clear HW HGG
  clear y00 y01
  refine (heavy_any ⟨p, a, n, c, cs⟩ W0 V6.out.2).mono ?_
  rintro e w1 ⟨rfl | ⟨rfl, h80, h300⟩, hb⟩
  · have HB1 := Lib.hid (HB.out.trans (hb.mono HB.out.size))
    clear hb
    go_wp2
    go_ret
    exact ⟨rfl, HB1.out⟩
  simp only at h80 h300
  replace V6 := Lib.hid (V6.out.below hb)
  replace DD := Lib.hid (DD.out.below hb)
  replace HB := Lib.hid (HB.out.trans (hb.mono HB.out.size))
  clear hb
  by_cases hl : 300 < dl
  · have d1 : decide ((300 : Int) < (dl : Int)) = true := decide_eq_true (by omega)
    have d1' : decide (300 < dl) = true := decide_eq_true hl
    go_wp2
    go_ret
    exact ⟨rfl, HB.out⟩
  have d1 : decide ((300 : Int) < (dl : Int)) = false := decide_eq_false (by omega)
  have d1' : decide (300 < dl) = false := decide_eq_false hl
  have H300 := Lib.hid h300
  clear h300
  obtain ⟨y00, y01, _⟩ := cells2 V6.out.1
  go_wp2_with (go_at_call 10; fail)
  clear y00 y01
  refine (twinmed_any ⟨p, a, n, c, cs⟩ w1 V6.out.2 (fun k hk => Nat.le_trans (H300.out k hk) (by decide)) (by show n ≤ _; omega)).mono ?_
  rintro e w2 ⟨ko, kc, csi, rfl, hO, hk, hb⟩
  rw [HKS.out] at hk
  have O13 := Lib.hid hO; have KT : Hid (Tap.ks ⟨p, ko, n, kc, csi⟩ = ks) := hk
  replace V6 := Lib.hid (V6.out.below hb)
  replace DD := Lib.hid (DD.out.below hb)
  replace HB := Lib.hid (HB.out.trans (hb.mono HB.out.size))
  clear hO hk hb
  go_wp2_with (go_at_call 11; fail)
  refine (twin_any da dl dc dz w2 HDL.out (by omega) DD.out.rd HDN.out).mono ?_
  rintro e w3 ⟨xo, xc, rfl, hx, hb⟩
  replace V6 := Lib.hid (V6.out.below hb)
  replace DD := Lib.hid (DD.out.below hb)
  replace O13 := Lib.hid (O13.out.below hb)
  replace HB := Lib.hid (HB.out.trans (hb.mono HB.out.size))
  have XX : Hid (Part.ok w3 ⟨xo, dl, xc, dz⟩) := hx.part DD.out.bts
  obtain ⟨C1, hC1⟩ : ∃ C1, C1 = w3.alloc (.cells #[.int .i64 p, .slice ko n kc] 24) := ⟨_, rfl⟩
  obtain ⟨g13, hg13⟩ : ∃ g13, g13 = w3.heap.size := ⟨_, rfl⟩
  have hb1 : Below w3.heap.size w3 C1 := by rw [hC1]; exact (Below.refl _ _).alloc (Nat.le_refl _) _
  replace V6 := Lib.hid (V6.out.below hb1)
  replace DD := Lib.hid (DD.out.below hb1)
  replace O13 := Lib.hid (O13.out.below hb1)
  replace XX := Lib.hid (XX.out.below hb1)
  replace HB := Lib.hid (HB.out.trans (hb1.mono HB.out.size))
  have V13 : Hid (Var C1 g13 p ko n kc csi) := ⟨by rw [hC1, hg13]; exact new_cell _ _ _, O13.out.tap p⟩
  have HW := Lib.hid hC1; have HGG := Lib.hid hg13
  have HC1 : Hid (Below C1.heap.size C1 C1) := Below.refl _ _
  clear hx hb hb1 hC1 hg13 O13
  obtain ⟨y00, y01, _⟩ := cells2 V6.out.1
  rw [HW.out] at y00 y01
  go_wp2_with (go_at_call 12; fail)
  rw [← HW.out, ← HGG.out]
  clear HW HGG
  clear y00 y01
  have hrm := refmed_any ⟨p, a, n, c, cs⟩ C1 V6.out.2
  rw [HG.out] at hrm
  refine hrm.mono ?_
  clear hrm
  rintro e w4 ⟨rfl, hb⟩
  have V13a := V13; have V6a := V6
  have GT : Hid (goodK p (Tap.ks ⟨p, ko, n, kc, csi⟩) = false) := by
    have h1 := HG.out
    rw [HKS.out] at h1
    show goodK p (Tap.ks ⟨p, ko, n, kc, csi⟩) = false
    rw [KT.out]; exact h1
  replace V6 := Lib.hid (V6.out.below hb)
  replace DD := Lib.hid (DD.out.below hb)
  replace XX := Lib.hid (XX.out.below hb)
  replace V13 := Lib.hid (V13.out.below hb)
  replace HB := Lib.hid (HB.out.trans (hb.mono HB.out.size))
  replace HC1 := Lib.hid (HC1.out.trans (hb.mono HC1.out.size))
  clear hb
  obtain ⟨y00, y01, _⟩ := cells2 V13.out.1
  go_wp2_with (go_at_call 13; fail)
  clear y00 y01
  have hc : Calls Try.prog 13 #[.agg #[.int .i64 p, .slice ko n kc], .int .i64 q, .slice xo dl xc] w4 (MPost w4 (1, 0, [])) := by
    exact write_bad ⟨p, ko, n, kc, csi⟩ q xo dl xc w4 V13.out.2 GT.out
  refine hc.mono ?_
  clear hc
  intro e w16 h
  obtain ⟨a16, n16, c16, cs16, rfl, hk, hall⟩ := h.var
  obtain ⟨W16, hW⟩ : ∃ W, W = w16.alloc (.cells #[.int .i64 0, .slice a16 n16 c16] 24) := ⟨_, rfl⟩
  obtain ⟨hb, hv, ho⟩ := hall _ hW
  obtain ⟨g16, hg⟩ : ∃ g, g = w16.heap.size := ⟨_, rfl⟩
  rw [← hg] at hv
  replace V6 := Lib.hid (V6.out.below hb)
  replace DD := Lib.hid (DD.out.below hb)
  replace XX := Lib.hid (XX.out.below hb)
  replace V13 := Lib.hid (V13.out.below hb)
  replace HB := Lib.hid (HB.out.trans (hb.mono HB.out.size))
  replace HC1 := Lib.hid (HC1.out.trans (hb.mono HC1.out.size))
  have V16 := Lib.hid hv; have K16 := Lib.hid hk; have HW := Lib.hid hW; have HGG := Lib.hid hg
  clear h hall hb hv ho hk hW hg
  obtain ⟨y00, y01, _⟩ := cells2 V13.out.1
  rw [HW.out] at y00 y01
  go_wp2_with (go_at_call 14; fail)
  rw [← HW.out, ← HGG.out]
  clear HW HGG
  clear y00 y01
  have hc : Calls Try.prog 14 #[.agg #[.int .i64 p, .slice ko n kc], .int .i64 q, .slice xo dl xc, .int .i64 keep] W16 (MPost W16 (1, 0, [])) := by
    exact tear_bad ⟨p, ko, n, kc, csi⟩ q xo dl xc keep W16 V13.out.2 GT.out
  refine hc.mono ?_
  clear hc
  intro e w18 h
  obtain ⟨a18, n18, c18, cs18, rfl, hk, hall⟩ := h.var
  obtain ⟨W18, hW⟩ : ∃ W, W = w18.alloc (.cells #[.int .i64 0, .slice a18 n18 c18] 24) := ⟨_, rfl⟩
  obtain ⟨hb, hv, ho⟩ := hall _ hW
  obtain ⟨g18, hg⟩ : ∃ g, g = w18.heap.size := ⟨_, rfl⟩
  rw [← hg] at hv
  replace V6 := Lib.hid (V6.out.below hb)
  replace DD := Lib.hid (DD.out.below hb)
  replace XX := Lib.hid (XX.out.below hb)
  replace V13 := Lib.hid (V13.out.below hb)
  replace V16 := Lib.hid (V16.out.below hb)
  replace HB := Lib.hid (HB.out.trans (hb.mono HB.out.size))
  replace HC1 := Lib.hid (HC1.out.trans (hb.mono HC1.out.size))
  have V18 := Lib.hid hv; have K18 := Lib.hid hk; have HW := Lib.hid hW; have HGG := Lib.hid hg
  clear h hall hb hv ho hk hW hg
  obtain ⟨y00, y01, _⟩ := cells2 V13.out.1
  rw [HW.out] at y00 y01
  go_wp2_with (go_at_call 15; fail)
  rw [← HW.out, ← HGG.out]
  clear HW HGG
  clear y00 y01
  have hc : Calls Try.prog 15 #[.agg #[.int .i64 p, .slice ko n kc], .int .i64 q] W18 (MPost W18 (1, 0, [])) := by
    exact mark_bad ⟨p, ko, n, kc, csi⟩ q W18 V13.out.2 GT.out
  refine hc.mono ?_
  clear hc
  intro e w20 h
  obtain ⟨a20, n20, c20, cs20, rfl, hk, hall⟩ := h.var
  obtain ⟨W20, hW⟩ : ∃ W, W = w20.alloc (.cells #[.int .i64 0, .slice a20 n20 c20] 24) := ⟨_, rfl⟩
  obtain ⟨hb, hv, ho⟩ := hall _ hW
  obtain ⟨g20, hg⟩ : ∃ g, g = w20.heap.size := ⟨_, rfl⟩
  rw [← hg] at hv
  replace V6 := Lib.hid (V6.out.below hb)
  replace DD := Lib.hid (DD.out.below hb)
  replace XX := Lib.hid (XX.out.below hb)
  replace V13 := Lib.hid (V13.out.below hb)
  replace V16 := Lib.hid (V16.out.below hb)
  replace V18 := Lib.hid (V18.out.below hb)
  replace HB := Lib.hid (HB.out.trans (hb.mono HB.out.size))
  replace HC1 := Lib.hid (HC1.out.trans (hb.mono HC1.out.size))
  have V20 := Lib.hid hv; have K20 := Lib.hid hk; have HW := Lib.hid hW; have HGG := Lib.hid hg
  clear h hall hb hv ho hk hW hg
  obtain ⟨y00, y01, _⟩ := cells2 V13.out.1
  rw [HW.out] at y00 y01
  go_wp2_with (go_at_call 16; fail)
  rw [← HW.out, ← HGG.out]
  clear HW HGG
  clear y00 y01
  have hc : Calls Try.prog 16 #[.agg #[.int .i64 p, .slice ko n kc], .int .i64 q] W20 (MPost W20 (1, 0, [])) := by
    exact end_bad ⟨p, ko, n, kc, csi⟩ q W20 V13.out.2 GT.out
  refine hc.mono ?_
  clear hc
  intro e w22 h
  obtain ⟨a22, n22, c22, cs22, rfl, hk, hall⟩ := h.var
  obtain ⟨W22, hW⟩ : ∃ W, W = w22.alloc (.cells #[.int .i64 0, .slice a22 n22 c22] 24) := ⟨_, rfl⟩
  obtain ⟨hb, hv, ho⟩ := hall _ hW
  obtain ⟨g22, hg⟩ : ∃ g, g = w22.heap.size := ⟨_, rfl⟩
  rw [← hg] at hv
  replace V6 := Lib.hid (V6.out.below hb)
  replace DD := Lib.hid (DD.out.below hb)
  replace XX := Lib.hid (XX.out.below hb)
  replace V13 := Lib.hid (V13.out.below hb)
  replace V16 := Lib.hid (V16.out.below hb)
  replace V18 := Lib.hid (V18.out.below hb)
  replace V20 := Lib.hid (V20.out.below hb)
  replace HB := Lib.hid (HB.out.trans (hb.mono HB.out.size))
  replace HC1 := Lib.hid (HC1.out.trans (hb.mono HC1.out.size))
  have V22 := Lib.hid hv; have K22 := Lib.hid hk; have HW := Lib.hid hW; have HGG := Lib.hid hg
  clear h hall hb hv ho hk hW hg
  obtain ⟨y00, y01, _⟩ := cells2 V13.out.1
  rw [HW.out] at y00 y01
  go_wp2_with (go_at_call 17; fail)
  rw [← HW.out, ← HGG.out]
  clear HW HGG
  clear y00 y01
  refine (read_bad ⟨p, ko, n, kc, csi⟩ q W22 V13.out.2 GT.out).mono ?_
  rintro e w17 ⟨rfl, hb⟩
  replace V6 := Lib.hid (V6.out.below hb)
  replace DD := Lib.hid (DD.out.below hb)
  replace XX := Lib.hid (XX.out.below hb)
  replace V13 := Lib.hid (V13.out.below hb)
  replace V16 := Lib.hid (V16.out.below hb)
  replace V18 := Lib.hid (V18.out.below hb)
  replace V20 := Lib.hid (V20.out.below hb)
  replace V22 := Lib.hid (V22.out.below hb)
  replace HB := Lib.hid (HB.out.trans (hb.mono HB.out.size))
  replace HC1 := Lib.hid (HC1.out.trans (hb.mono HC1.out.size))
  clear hb
  obtain ⟨y00, y01, _⟩ := cells2 V13.out.1
  go_wp2_with (go_at_call 18; fail)
  clear y00 y01
  refine (file_bad ⟨p, ko, n, kc, csi⟩ nn w17 V13.out.2 GT.out).mono ?_
  rintro e w18 ⟨rfl, hb⟩
  replace V6 := Lib.hid (V6.out.below hb)
  replace DD := Lib.hid (DD.out.below hb)
  replace XX := Lib.hid (XX.out.below hb)
  replace V13 := Lib.hid (V13.out.below hb)
  replace V16 := Lib.hid (V16.out.below hb)
  replace V18 := Lib.hid (V18.out.below hb)
  replace V20 := Lib.hid (V20.out.below hb)
  replace V22 := Lib.hid (V22.out.below hb)
  replace HB := Lib.hid (HB.out.trans (hb.mono HB.out.size))
  replace HC1 := Lib.hid (HC1.out.trans (hb.mono HC1.out.size))
  clear hb
  obtain ⟨y00, y01, _⟩ := cells2 V13.out.1
  go_wp2_with (go_at_call 19; fail)
  clear y00 y01
  have hc : Calls Try.prog 19 #[.agg #[.int .i64 p, .slice ko n kc], .int .i64 q] w18 (MPost w18 (1, 0, [])) := by
    exact spoil_bad ⟨p, ko, n, kc, csi⟩ q w18 V13.out.2 GT.out
  refine hc.mono ?_
  clear hc
  intro e w28 h
  obtain ⟨a28, n28, c28, cs28, rfl, hk, hall⟩ := h.var
  obtain ⟨W28, hW⟩ : ∃ W, W = w28.alloc (.cells #[.int .i64 0, .slice a28 n28 c28] 24) := ⟨_, rfl⟩
  obtain ⟨hb, hv, ho⟩ := hall _ hW
  obtain ⟨g28, hg⟩ : ∃ g, g = w28.heap.size := ⟨_, rfl⟩
  rw [← hg] at hv
  replace V6 := Lib.hid (V6.out.below hb)
  replace DD := Lib.hid (DD.out.below hb)
  replace XX := Lib.hid (XX.out.below hb)
  replace V13 := Lib.hid (V13.out.below hb)
  replace V16 := Lib.hid (V16.out.below hb)
  replace V18 := Lib.hid (V18.out.below hb)
  replace V20 := Lib.hid (V20.out.below hb)
  replace V22 := Lib.hid (V22.out.below hb)
  replace HB := Lib.hid (HB.out.trans (hb.mono HB.out.size))
  replace HC1 := Lib.hid (HC1.out.trans (hb.mono HC1.out.size))
  have V28 := Lib.hid hv; have K28 := Lib.hid hk; have HW := Lib.hid hW; have HGG := Lib.hid hg
  clear h hall hb hv ho hk hW hg
  obtain ⟨y00, y01, _⟩ := cells2 V13.out.1
  rw [HW.out] at y00 y01
  go_wp2_with (go_at_call 20; fail)
  rw [← HW.out, ← HGG.out]
  clear HW HGG
  clear y00 y01
  have hc : Calls Try.prog 20 #[.agg #[.int .i64 p, .slice ko n kc], .int .i64 q, .int .i64 bit] W28 (MPost W28 (1, 0, [])) := by
    exact flip_bad ⟨p, ko, n, kc, csi⟩ q bit W28 V13.out.2 GT.out
  refine hc.mono ?_
  clear hc
  intro e w30 h
  obtain ⟨a30, n30, c30, cs30, rfl, hk, hall⟩ := h.var
  obtain ⟨W30, hW⟩ : ∃ W, W = w30.alloc (.cells #[.int .i64 0, .slice a30 n30 c30] 24) := ⟨_, rfl⟩
  obtain ⟨hb, hv, ho⟩ := hall _ hW
  obtain ⟨g30, hg⟩ : ∃ g, g = w30.heap.size := ⟨_, rfl⟩
  rw [← hg] at hv
  replace V6 := Lib.hid (V6.out.below hb)
  replace DD := Lib.hid (DD.out.below hb)
  replace XX := Lib.hid (XX.out.below hb)
  replace V13 := Lib.hid (V13.out.below hb)
  replace V16 := Lib.hid (V16.out.below hb)
  replace V18 := Lib.hid (V18.out.below hb)
  replace V20 := Lib.hid (V20.out.below hb)
  replace V22 := Lib.hid (V22.out.below hb)
  replace V28 := Lib.hid (V28.out.below hb)
  replace HB := Lib.hid (HB.out.trans (hb.mono HB.out.size))
  replace HC1 := Lib.hid (HC1.out.trans (hb.mono HC1.out.size))
  have V30 := Lib.hid hv; have K30 := Lib.hid hk; have HW := Lib.hid hW; have HGG := Lib.hid hg
  clear h hall hb hv ho hk hW hg
  obtain ⟨y00, y01, _⟩ := cells2 V13.out.1
  rw [HW.out] at y00 y01
  go_wp2_with (go_at_call 21; fail)
  rw [← HW.out, ← HGG.out]
  clear HW HGG
  clear y00 y01
  have HCE : Hid (∀ V, Below W30.heap.size W30 V → V.cell? ⟨g13, 0, none⟩ = some (.int .i64 p) ∧ V.cell? ⟨g13, 1, none⟩ = some (.slice ko n kc) ∧ V.cell? ⟨g6, 0, none⟩ = some (.int .i64 p) ∧ V.cell? ⟨g6, 1, none⟩ = some (.slice a n c) ∧ V.cell? ⟨g16, 0, none⟩ = some (.int .i64 0) ∧ V.cell? ⟨g16, 1, none⟩ = some (.slice a16 n16 c16) ∧ V.cell? ⟨g18, 0, none⟩ = some (.int .i64 0) ∧ V.cell? ⟨g18, 1, none⟩ = some (.slice a18 n18 c18) ∧ V.cell? ⟨g20, 0, none⟩ = some (.int .i64 0) ∧ V.cell? ⟨g20, 1, none⟩ = some (.slice a20 n20 c20) ∧ V.cell? ⟨g22, 0, none⟩ = some (.int .i64 0) ∧ V.cell? ⟨g22, 1, none⟩ = some (.slice a22 n22 c22) ∧ V.cell? ⟨g28, 0, none⟩ = some (.int .i64 0) ∧ V.cell? ⟨g28, 1, none⟩ = some (.slice a28 n28 c28) ∧ V.cell? ⟨g30, 0, none⟩ = some (.int .i64 0) ∧ V.cell? ⟨g30, 1, none⟩ = some (.slice a30 n30 c30)) := fun V hb => by
    obtain ⟨u0, v0, _⟩ := cells2 (V13.out.below hb).1
    obtain ⟨u1, v1, _⟩ := cells2 (V6.out.below hb).1
    obtain ⟨u2, v2, _⟩ := cells2 (V16.out.below hb).1
    obtain ⟨u3, v3, _⟩ := cells2 (V18.out.below hb).1
    obtain ⟨u4, v4, _⟩ := cells2 (V20.out.below hb).1
    obtain ⟨u5, v5, _⟩ := cells2 (V22.out.below hb).1
    obtain ⟨u6, v6, _⟩ := cells2 (V28.out.below hb).1
    obtain ⟨u7, v7, _⟩ := cells2 (V30.out.below hb).1
    exact ⟨u0, v0, u1, v1, u2, v2, u3, v3, u4, v4, u5, v5, u6, v6, u7, v7⟩
  have HCK : Hid (∀ V, Below W30.heap.size W30 V → Calls Try.prog 21 #[.agg #[.int .i64 p, .slice ko n kc]] V fun e w' => e = .returned (.int .i64 1) ∧ Below V.heap.size V w') := fun V hb => check_bad ⟨p, ko, n, kc, csi⟩ V (V13.out.below hb).2 GT.out
  have HFB : Hid (∀ V, Below W30.heap.size W30 V → Calls Try.prog 24 #[.agg #[.int .i64 p, .slice ko n kc]] V fun e w' => e = .returned (.int .i64 0) ∧ Below V.heap.size V w') := fun V hb => files_bad ⟨p, ko, n, kc, csi⟩ V (V13.out.below hb).2 GT.out
  have HWK : Hid (∀ V, Below W30.heap.size W30 V → Calls Try.prog 26 #[] V fun e w' => e = .returned (.bool true) ∧ Below V.heap.size V w') := fun V hb => wakes_any V
  have HKM : Hid (∀ V, Below W30.heap.size W30 V → Calls Try.prog 22 #[.agg #[.int .i64 p, .slice ko n kc], .agg #[.int .i64 p, .slice a n c]] V fun e w' => e = .returned (.bool true) ∧ Below V.heap.size V w') := fun V hb => by
    have h1 := keep_med ⟨p, ko, n, kc, csi⟩ ⟨p, a, n, c, cs⟩ V (V13.out.below hb).2 (V6.out.below hb).2
    rw [decide_eq_true (show (Tap.mk p ko n kc csi).p = (Tap.mk p a n c cs).p ∧ Tap.ks ⟨p, ko, n, kc, csi⟩ = Tap.ks ⟨p, a, n, c, cs⟩ from ⟨rfl, by rw [KT.out, HKS.out]⟩)] at h1
    exact h1
  have HBC : Hid (∀ V, Below W30.heap.size W30 V → Calls Try.prog 23 #[.slice xo dl xc, .slice da dl dc] V fun e w' => e = .returned (.bool true) ∧ Below V.heap.size V w') := fun V hb => by
    have h1 := bytes_cmp xo da dl dl xc dc dz dz V HDL.out HDL.out (by unfold maxLen; omega) (XX.out.below hb).rd (DD.out.below hb).rd
    rw [decide_eq_true rfl] at h1
    exact h1.mono fun e w' ⟨he, q, hq⟩ => ⟨he, by rw [hq]; exact below_drewN (Below.refl _ _) q⟩
  have HN16 : Hid (∀ V, Below W30.heap.size W30 V → Calls Try.prog 25 #[.agg #[.int .i64 0, .slice a16 n16 c16]] V fun e w' => e = .returned (.bool true) ∧ Below V.heap.size V w') := fun V hb => none_any ⟨0, a16, n16, c16, cs16⟩ V (V16.out.below hb).2 rfl K16.out
  have HN18 : Hid (∀ V, Below W30.heap.size W30 V → Calls Try.prog 25 #[.agg #[.int .i64 0, .slice a18 n18 c18]] V fun e w' => e = .returned (.bool true) ∧ Below V.heap.size V w') := fun V hb => none_any ⟨0, a18, n18, c18, cs18⟩ V (V18.out.below hb).2 rfl K18.out
  have HN20 : Hid (∀ V, Below W30.heap.size W30 V → Calls Try.prog 25 #[.agg #[.int .i64 0, .slice a20 n20 c20]] V fun e w' => e = .returned (.bool true) ∧ Below V.heap.size V w') := fun V hb => none_any ⟨0, a20, n20, c20, cs20⟩ V (V20.out.below hb).2 rfl K20.out
  have HN22 : Hid (∀ V, Below W30.heap.size W30 V → Calls Try.prog 25 #[.agg #[.int .i64 0, .slice a22 n22 c22]] V fun e w' => e = .returned (.bool true) ∧ Below V.heap.size V w') := fun V hb => none_any ⟨0, a22, n22, c22, cs22⟩ V (V22.out.below hb).2 rfl K22.out
  have HN28 : Hid (∀ V, Below W30.heap.size W30 V → Calls Try.prog 25 #[.agg #[.int .i64 0, .slice a28 n28 c28]] V fun e w' => e = .returned (.bool true) ∧ Below V.heap.size V w') := fun V hb => none_any ⟨0, a28, n28, c28, cs28⟩ V (V28.out.below hb).2 rfl K28.out
  have HN30 : Hid (∀ V, Below W30.heap.size W30 V → Calls Try.prog 25 #[.agg #[.int .i64 0, .slice a30 n30 c30]] V fun e w' => e = .returned (.bool true) ∧ Below V.heap.size V w') := fun V hb => none_any ⟨0, a30, n30, c30, cs30⟩ V (V30.out.below hb).2 rfl K30.out
  have HBR : Hid (Below W30.heap.size W30 W30) := Below.refl _ _
  refine (HCK.out _ HBR.out).mono ?_
  rintro e wn ⟨rfl, hBn⟩
  have HBN := Lib.hid (HBR.out.trans (hBn.mono HBR.out.size))
  clear HBR hBn
  have HBR := Lib.hid HBN.out
  clear HBN
  obtain ⟨y0, z0, y1, z1, y2, z2, y3, z3, y4, z4, y5, z5, y6, z6, y7, z7⟩ := HCE.out _ HBR.out
  go_wp2_with (first
    | (go_at_call 21; ((with_reducible refine (HCK.out _ HBR.out).mono ?_); rintro e wn ⟨rfl, hBn⟩; have HBN := Lib.hid (HBR.out.trans (hBn.mono HBR.out.size)); clear HBR hBn y0 z0 y1 z1 y2 z2 y3 z3 y4 z4 y5 z5 y6 z6 y7 z7; have HBR := Lib.hid HBN.out; clear HBN; obtain ⟨y0, z0, y1, z1, y2, z2, y3, z3, y4, z4, y5, z5, y6, z6, y7, z7⟩ := HCE.out _ HBR.out))
    | (go_at_call 22; ((with_reducible refine (HKM.out _ HBR.out).mono ?_); rintro e wn ⟨rfl, hBn⟩; have HBN := Lib.hid (HBR.out.trans (hBn.mono HBR.out.size)); clear HBR hBn y0 z0 y1 z1 y2 z2 y3 z3 y4 z4 y5 z5 y6 z6 y7 z7; have HBR := Lib.hid HBN.out; clear HBN; obtain ⟨y0, z0, y1, z1, y2, z2, y3, z3, y4, z4, y5, z5, y6, z6, y7, z7⟩ := HCE.out _ HBR.out))
    | (go_at_call 23; ((with_reducible refine (HBC.out _ HBR.out).mono ?_); rintro e wn ⟨rfl, hBn⟩; have HBN := Lib.hid (HBR.out.trans (hBn.mono HBR.out.size)); clear HBR hBn y0 z0 y1 z1 y2 z2 y3 z3 y4 z4 y5 z5 y6 z6 y7 z7; have HBR := Lib.hid HBN.out; clear HBN; obtain ⟨y0, z0, y1, z1, y2, z2, y3, z3, y4, z4, y5, z5, y6, z6, y7, z7⟩ := HCE.out _ HBR.out))
    | (go_at_call 24; ((with_reducible refine (HFB.out _ HBR.out).mono ?_); rintro e wn ⟨rfl, hBn⟩; have HBN := Lib.hid (HBR.out.trans (hBn.mono HBR.out.size)); clear HBR hBn y0 z0 y1 z1 y2 z2 y3 z3 y4 z4 y5 z5 y6 z6 y7 z7; have HBR := Lib.hid HBN.out; clear HBN; obtain ⟨y0, z0, y1, z1, y2, z2, y3, z3, y4, z4, y5, z5, y6, z6, y7, z7⟩ := HCE.out _ HBR.out))
    | (go_at_call 25; first | ((with_reducible refine (HN16.out _ HBR.out).mono ?_); rintro e wn ⟨rfl, hBn⟩; have HBN := Lib.hid (HBR.out.trans (hBn.mono HBR.out.size)); clear HBR hBn y0 z0 y1 z1 y2 z2 y3 z3 y4 z4 y5 z5 y6 z6 y7 z7; have HBR := Lib.hid HBN.out; clear HBN; obtain ⟨y0, z0, y1, z1, y2, z2, y3, z3, y4, z4, y5, z5, y6, z6, y7, z7⟩ := HCE.out _ HBR.out) | ((with_reducible refine (HN18.out _ HBR.out).mono ?_); rintro e wn ⟨rfl, hBn⟩; have HBN := Lib.hid (HBR.out.trans (hBn.mono HBR.out.size)); clear HBR hBn y0 z0 y1 z1 y2 z2 y3 z3 y4 z4 y5 z5 y6 z6 y7 z7; have HBR := Lib.hid HBN.out; clear HBN; obtain ⟨y0, z0, y1, z1, y2, z2, y3, z3, y4, z4, y5, z5, y6, z6, y7, z7⟩ := HCE.out _ HBR.out) | ((with_reducible refine (HN20.out _ HBR.out).mono ?_); rintro e wn ⟨rfl, hBn⟩; have HBN := Lib.hid (HBR.out.trans (hBn.mono HBR.out.size)); clear HBR hBn y0 z0 y1 z1 y2 z2 y3 z3 y4 z4 y5 z5 y6 z6 y7 z7; have HBR := Lib.hid HBN.out; clear HBN; obtain ⟨y0, z0, y1, z1, y2, z2, y3, z3, y4, z4, y5, z5, y6, z6, y7, z7⟩ := HCE.out _ HBR.out) | ((with_reducible refine (HN22.out _ HBR.out).mono ?_); rintro e wn ⟨rfl, hBn⟩; have HBN := Lib.hid (HBR.out.trans (hBn.mono HBR.out.size)); clear HBR hBn y0 z0 y1 z1 y2 z2 y3 z3 y4 z4 y5 z5 y6 z6 y7 z7; have HBR := Lib.hid HBN.out; clear HBN; obtain ⟨y0, z0, y1, z1, y2, z2, y3, z3, y4, z4, y5, z5, y6, z6, y7, z7⟩ := HCE.out _ HBR.out) | ((with_reducible refine (HN28.out _ HBR.out).mono ?_); rintro e wn ⟨rfl, hBn⟩; have HBN := Lib.hid (HBR.out.trans (hBn.mono HBR.out.size)); clear HBR hBn y0 z0 y1 z1 y2 z2 y3 z3 y4 z4 y5 z5 y6 z6 y7 z7; have HBR := Lib.hid HBN.out; clear HBN; obtain ⟨y0, z0, y1, z1, y2, z2, y3, z3, y4, z4, y5, z5, y6, z6, y7, z7⟩ := HCE.out _ HBR.out) | ((with_reducible refine (HN30.out _ HBR.out).mono ?_); rintro e wn ⟨rfl, hBn⟩; have HBN := Lib.hid (HBR.out.trans (hBn.mono HBR.out.size)); clear HBR hBn y0 z0 y1 z1 y2 z2 y3 z3 y4 z4 y5 z5 y6 z6 y7 z7; have HBR := Lib.hid HBN.out; clear HBN; obtain ⟨y0, z0, y1, z1, y2, z2, y3, z3, y4, z4, y5, z5, y6, z6, y7, z7⟩ := HCE.out _ HBR.out))
    | (go_at_call 26; ((with_reducible refine (HWK.out _ HBR.out).mono ?_); rintro e wn ⟨rfl, hBn⟩; have HBN := Lib.hid (HBR.out.trans (hBn.mono HBR.out.size)); clear HBR hBn y0 z0 y1 z1 y2 z2 y3 z3 y4 z4 y5 z5 y6 z6 y7 z7; have HBR := Lib.hid HBN.out; clear HBN; obtain ⟨y0, z0, y1, z1, y2, z2, y3, z3, y4, z4, y5, z5, y6, z6, y7, z7⟩ := HCE.out _ HBR.out)))
  go_ret
  exact ⟨rfl, HB.out.trans (HBR.out.mono HB.out.size)⟩
end Go.Proofs.Ytojcinkchdhjpaa
