/-
  The walk of MediumEnds.
-/
import Derived.Test.YtojcinkchdhjpaaFiles
namespace Go.Proofs.Ytojcinkchdhjpaa
open Go.RowKit
set_option linter.unusedVariables false

/-- What is told of a right tape is a right tape. -/
theorem good_take {p : Int} {ks : List Key} (h : goodK p ks = true) (k : Nat) : goodK p (ks.take k) = true := by
  unfold goodK at h ⊢
  simp only [Bool.and_eq_true, decide_eq_true_eq] at h ⊢
  obtain ⟨⟨⟨h1, h2⟩, h3⟩, h4⟩ := h
  refine ⟨⟨⟨h1, h2⟩, by rw [List.length_take]; omega⟩, ?_⟩
  rw [List.all_eq_true] at h4 ⊢
  exact fun x hx => h4 x (List.mem_of_mem_take hx)
theorem rd_end (ks : List Key) (k : Nat) (h : ks.length ≤ k) : rd ks k = (8, []) := by
  unfold rd
  rw [if_pos (by omega), Int.toNat_natCast, List.getElem?_eq_none h]

set_option maxRecDepth 100000 in
set_option maxHeartbeats 4000000 in
theorem ends_walk (t : Tap) (p q : Int) (w : World) (h : t.ok w) : Calls Try.prog 8 #[.agg #[.int .i64 t.p, .slice t.a t.n t.c], .int .i64 p, .int .i64 q] w fun e w' => e = .returned (.bool true) ∧ Below w.heap.size w w' := by
  have hm := Nat.le_trans h.room h.cm
  unfold maxLen at hm
  obtain ⟨W0, hW0⟩ : ∃ W0, W0 = w.alloc (.cells #[.int .i64 t.p, .slice t.a t.n t.c] 24) := ⟨_, rfl⟩
  have hB0 : Below w.heap.size w W0 := by rw [hW0]; exact (Below.refl _ _).alloc (Nat.le_refl _) _
  have hx : W0.heap[w.heap.size]? = some (.cells #[.int .i64 t.p, .slice t.a t.n t.c] 24 (0, 0)) := by rw [hW0]; exact new_cell _ _ _
  have hV : ∀ V, Below W0.heap.size W0 V → t.ok V := fun V hV => (h.below hB0).below hV
  have hhe := fun V (hb : Below W0.heap.size W0 V) => heavy_any t V (hV V hb)
  have hrm := fun V (hb : Below W0.heap.size W0 V) => refmed_any t V (hV V hb)
  have HHE := Lib.hid hhe; have HRM := Lib.hid hrm; have HB0 := Lib.hid hB0; have HX := Lib.hid hx; have HW0 := Lib.hid hW0; have HV := Lib.hid hV
  clear hhe hrm hB0 hx hV
  obtain ⟨x0, x1, _⟩ := cells2 HX.out
  rw [hW0] at x0 x1
  clear hW0
  go_enter Try.func8, Try.ntmps8
  go_wp2_with (go_at_call 9; fail)
  rw [← HW0.out]
  refine (HHE.out W0 (Below.refl _ _)).mono ?_
  rintro e w1 ⟨he, hB1⟩
  clear x0 x1
  obtain ⟨x0, x1, _⟩ := cells2 (cells2at HX.out hB1)
  have HB1 := Lib.hid hB1
  clear hB1
  rcases he with rfl | ⟨rfl, h80, h300⟩
  · go_wp2
    go_ret
    exact ⟨rfl, HB0.out.trans (HB1.out.mono HB0.out.size)⟩
  clear h300
  have hr := HRM.out w1 HB1.out
  cases hg : goodK t.p t.ks with
  | false =>
    rw [hg] at hr
    have HR := Lib.hid hr
    clear hr hg
    go_wp2_with (go_at_call 12; refine HR.out.mono ?_; rintro e w2 ⟨rfl, hB2⟩; have HB2 := Lib.hid hB2; clear hB2)
    go_ret
    exact ⟨rfl, HB0.out.trans ((HB1.out.trans (HB2.out.mono HB1.out.size)).mono HB0.out.size)⟩
  | true =>
    rw [hg] at hr
    have HR := Lib.hid hr
    have HG := Lib.hid hg
    have hfs := fun V (hb : Below W0.heap.size W0 V) => files_any t V (HV.out V hb) hg
    have hen := fun q V (hb : Below W0.heap.size W0 V) => end_any t q V (HV.out V hb) hg
    have hkl : t.ks.length = t.n := by unfold Tap.ks; rw [keys_len]; exact (HV.out W0 (Below.refl _ _)).len
    obtain ⟨K, hK1, hK2⟩ := uwrap_at p ((t.n : Int) + 1) (by omega) (by omega)
    have hKn : K ≤ t.n := by omega
    obtain ⟨Q, hQ1, hQ2⟩ := uwrap_at q ((K : Int) + 1) (by omega) (by omega)
    have hQK : Q ≤ K := by omega
    have hek : endK t.p t.ks K = (0, t.p, t.ks.take K) := by unfold endK; rw [if_pos (by rw [hkl]; omega), Int.toNat_natCast]
    have heq : endK t.p t.ks Q = (0, t.p, t.ks.take Q) := by unfold endK; rw [if_pos (by rw [hkl]; omega), Int.toNat_natCast]
    have he1 := fun V hb => hen K V hb
    have he2 := fun V hb => hen Q V hb
    rw [hek] at he1
    rw [heq] at he2
    have htl : (t.ks.take K).length = K := by rw [List.length_take, hkl]; omega
    have heb : endK t.p (t.ks.take K) Q = (0, t.p, t.ks.take Q) := by
      unfold endK; rw [if_pos (by rw [htl]; omega), Int.toNat_natCast, List.take_take, Nat.min_eq_left hQK]
    have hgK : goodK t.p (t.ks.take K) = true := good_take hg K
    have hmle : marks (t.ks.take K) ≤ marks t.ks := by
      have := marks_mono t.ks (show K ≤ t.ks.length by omega)
      rwa [List.take_length] at this
    have hre : rd (t.ks.take K) (K : Int) = (8, []) := rd_end _ _ (by rw [htl]; exact Nat.le_refl _)
    have hm1 := marks_le t.ks
    obtain ⟨ks, hks⟩ : ∃ ks, ks = t.ks := ⟨_, rfl⟩
    rw [← hks] at hfs he1 he2 hek heq htl heb hgK hmle hre hkl hm1
    have HFS := Lib.hid hfs; have HE1 := Lib.hid he1; have HE2 := Lib.hid he2; have HTL := Lib.hid htl; have HEB := Lib.hid heb; have HGK := Lib.hid hgK; have HRE := Lib.hid hre; have HQ2 := Lib.hid hQ2
    have hmk1 : marks ks ≤ 80 := by omega
    have HMLE := Lib.hid hmle
    clear hr hg hfs hen hkl hK1 hQ1 hek heq he1 he2 htl heb hgK hmle hre hks hQ2 hm1
    obtain ⟨tp, a, n, c, cs⟩ := t
    simp only at x0 x1 hm h80 hK2 hKn HHE HRM HX HW0 HV HR HFS HE1 HE2 HEB HGK HG ⊢
    go_wp2_with (first
      | (go_at_call 12; refine HR.out.mono ?_; rintro e w2 ⟨rfl, hB2⟩; have HB2 := Lib.hid (HB1.out.trans (hB2.mono HB1.out.size)); clear hB2 x0 x1; obtain ⟨x0, x1, _⟩ := cells2 (cells2at HX.out HB2.out))
      | (go_at_call 16; fail))
    rw [hK2]
    refine (HE1.out w2 HB2.out).mono ?_
    intro e w3 h3
    obtain ⟨ko, ln, kc, cs3, rfl, hO3, hk3, hB3⟩ := h3.elim
    have hln : ln = K := by rw [← hO3.len, ← keys_len, hk3, HTL.out]
    subst hln
    obtain ⟨W3, hW3⟩ : ∃ W3, W3 = w3.alloc (.cells #[.int .i64 tp, .slice ko ln kc] 24) := ⟨_, rfl⟩
    obtain ⟨g7, hg7⟩ : ∃ g7, g7 = w3.heap.size := ⟨_, rfl⟩
    have hb3 : Below w3.heap.size w3 W3 := by rw [hW3]; exact (Below.refl _ _).alloc (Nat.le_refl _) _
    have hy : W3.heap[g7]? = some (.cells #[.int .i64 tp, .slice ko ln kc] 24 (0, 0)) := by rw [hW3, hg7]; exact new_cell _ _ _
    have hB23 := HB2.out.trans (hB3.mono HB2.out.size)
    have hBW3 := hB23.trans (hb3.mono hB23.size)
    have htA := fun V (hb : Below W3.heap.size W3 V) => ((hO3.below hb3).tap tp).below hb
    have hksA : Tap.ks ⟨tp, ko, ln, kc, cs3⟩ = ks.take ln := hk3
    have hfA := fun V (hb : Below W3.heap.size W3 V) => files_any ⟨tp, ko, ln, kc, cs3⟩ V (htA V hb) (by rw [hksA]; exact HGK.out)
    have heA := fun V (hb : Below W3.heap.size W3 V) => end_any ⟨tp, ko, ln, kc, cs3⟩ Q V (htA V hb) (by rw [hksA]; exact HGK.out)
    have hrA := fun V (hb : Below W3.heap.size W3 V) => read_any ⟨tp, ko, ln, kc, cs3⟩ ln V (htA V hb) (by rw [hksA]; exact HGK.out)
    rw [hksA] at hfA heA hrA
    simp only at hfA heA hrA
    rw [HEB.out] at heA
    rw [HRE.out] at hrA
    have hcell : ∀ V, Below W3.heap.size W3 V → V.cell? ⟨w.heap.size, 0, none⟩ = some (.int .i64 tp) ∧ V.cell? ⟨w.heap.size, 1, none⟩ = some (.slice a n c) ∧ V.cell? ⟨g7, 0, none⟩ = some (.int .i64 tp) ∧ V.cell? ⟨g7, 1, none⟩ = some (.slice ko ln kc) := fun V hb => by
      obtain ⟨a0, a1, _⟩ := cells2 (cells2at HX.out (hBW3.trans (hb.mono hBW3.size)))
      obtain ⟨b0, b1, _⟩ := cells2 (cells2at hy hb)
      exact ⟨a0, a1, b0, b1⟩
    have HCELL := Lib.hid hcell; have HFA := Lib.hid hfA; have HEA := Lib.hid heA; have HRA := Lib.hid hrA; have HBW3 := Lib.hid hBW3; have HW3 := Lib.hid hW3; have HG7 := Lib.hid hg7; have HY := Lib.hid hy
    obtain ⟨ma, hma⟩ : ∃ ma, ma = marks (ks.take ln) := ⟨_, rfl⟩
    obtain ⟨mk, hmk⟩ : ∃ mk, mk = marks ks := ⟨_, rfl⟩
    have hmm : ma ≤ mk := by rw [hma, hmk]; exact HMLE.out
    rw [← hma] at HFA
    rw [← hmk] at HFS hmk1
    have d1 : ((ln : Int) != (ln : Int)) = false := by simp
    have d2 : decide ((mk : Int) < (ma : Int)) = false := decide_eq_false (by omega)
    have d2' : decide (mk < ma) = false := decide_eq_false (by omega)
    clear h3 hO3 hk3 hB3 hW3 hg7 hb3 hy hB23 hBW3 htA hksA hfA heA hrA hcell x0 x1 hma hmk hK2
    go_wp2
    rw [← HW3.out, ← HG7.out]
    go_region_held3 (fun V => V.cell? ⟨w.heap.size, 0, none⟩ = some (.int .i64 tp) ∧ V.cell? ⟨w.heap.size, 1, none⟩ = some (.slice a n c) ∧ V.cell? ⟨g7, 0, none⟩ = some (.int .i64 tp) ∧ V.cell? ⟨g7, 1, none⟩ = some (.slice ko ln kc))
      (first | exact HCELL.out _ (Below.refl _ _).drew | exact HCELL.out _ HB5.out | exact HCELL.out _ HB6.out)
      ((go_at_call 24; first
        | ((with_reducible refine (HFA.out _ (Below.refl _ _).drew).mono ?_); rintro e w5 ⟨rfl, hB5⟩; have HB5 : Hid (Below W3.heap.size W3 w5) := (Below.refl _ _).drew.trans hB5; clear hB5)
        | ((with_reducible refine (HFS.out _ (HBW3.out.trans ((Below.refl W3.heap.size W3).drew.mono HBW3.out.size))).mono ?_); rintro e w5 ⟨rfl, hB5⟩; have HB5 : Hid (Below W3.heap.size W3 w5) := (Below.refl _ _).drew.trans hB5; clear hB5)
        | ((with_reducible refine (HFA.out _ HB5.out).mono ?_); rintro e w6 ⟨rfl, hB6⟩; have HB6 : Hid (Below W3.heap.size W3 w6) := HB5.out.trans (hB6.mono HB5.out.size); clear hB6)
        | ((with_reducible refine (HFS.out _ (HBW3.out.trans (HB5.out.mono HBW3.out.size))).mono ?_); rintro e w6 ⟨rfl, hB6⟩; have HB6 : Hid (Below W3.heap.size W3 w6) := HB5.out.trans (hB6.mono HB5.out.size); clear hB6)))
    rename_i hheld
    clear hheld d1 d2 d2'
    have HBA6 := Lib.hid (HBW3.out.trans (HB6.out.mono HBW3.out.size))
    obtain ⟨x0, x1, y0, y1⟩ := HCELL.out w6 HB6.out
    have hQ2 := HQ2.out
    go_wp2_with (go_at_call 16; fail)
    rw [hQ2]
    refine (HEA.out w6 HB6.out).mono ?_
    intro e w7 h7
    obtain ⟨ko7, n7, kc7, cs7, rfl, hO7, hk7, hB7⟩ := h7.elim
    obtain ⟨W7, hW7⟩ : ∃ W7, W7 = w7.alloc (.cells #[.int .i64 tp, .slice ko7 n7 kc7] 24) := ⟨_, rfl⟩
    obtain ⟨g9, hg9⟩ : ∃ g9, g9 = w7.heap.size := ⟨_, rfl⟩
    have hb7 : Below w7.heap.size w7 W7 := by rw [hW7]; exact (Below.refl _ _).alloc (Nat.le_refl _) _
    have hy9 : W7.heap[g9]? = some (.cells #[.int .i64 tp, .slice ko7 n7 kc7] 24 (0, 0)) := by rw [hW7, hg9]; exact new_cell _ _ _
    have h67 := hB7.trans (hb7.mono hB7.size)
    have h37 := HB6.out.trans (h67.mono HB6.out.size)
    have t7 := (hO7.below hb7).tap tp
    have HT7 := Lib.hid t7; have HK7 := Lib.hid hk7; have H37 := Lib.hid h37; have HY9 := Lib.hid hy9; have HW7 := Lib.hid hW7; have HG9 := Lib.hid hg9
    clear h7 hO7 hk7 hB7 hb7 hy9 h67 h37 t7 hg9 x0 x1 y0 y1 hQ2
    obtain ⟨x0, x1, y0, y1⟩ := HCELL.out W7 H37.out
    rw [hW7] at x0 x1
    clear y0 y1 hW7
    go_wp2_with (go_at_call 16; fail)
    rw [← HW7.out, ← HG9.out]
    refine (HE2.out W7 (HBW3.out.trans (H37.out.mono HBW3.out.size))).mono ?_
    intro e w8 h8
    obtain ⟨ko8, n8, kc8, cs8, rfl, hO8, hk8, hB8⟩ := h8.elim
    obtain ⟨W8, hW8⟩ : ∃ W8, W8 = w8.alloc (.cells #[.int .i64 tp, .slice ko8 n8 kc8] 24) := ⟨_, rfl⟩
    obtain ⟨g10, hg10⟩ : ∃ g10, g10 = w8.heap.size := ⟨_, rfl⟩
    have hb8 : Below w8.heap.size w8 W8 := by rw [hW8]; exact (Below.refl _ _).alloc (Nat.le_refl _) _
    have hy10 : W8.heap[g10]? = some (.cells #[.int .i64 tp, .slice ko8 n8 kc8] 24 (0, 0)) := by rw [hW8, hg10]; exact new_cell _ _ _
    have h78 := hB8.trans (hb8.mono hB8.size)
    have h38 := H37.out.trans (h78.mono H37.out.size)
    have hkm := fun V (hb : Below W8.heap.size W8 V) => keep_med ⟨tp, ko7, n7, kc7, cs7⟩ ⟨tp, ko8, n8, kc8, cs8⟩ V ((HT7.out.below h78).below hb) (((hO8.below hb8).tap tp).below hb)
    have hkd : decide ((Tap.mk tp ko7 n7 kc7 cs7).p = (Tap.mk tp ko8 n8 kc8 cs8).p ∧ Tap.ks ⟨tp, ko7, n7, kc7, cs7⟩ = Tap.ks ⟨tp, ko8, n8, kc8, cs8⟩) = true := decide_eq_true ⟨rfl, HK7.out.trans hk8.symm⟩
    rw [hkd] at hkm
    simp only at hkm
    have hra := HRA.out W8 h38
    have hwk := fun V => wakes_any V
    have hc9 := cells2at HY9.out h78
    have HKM := Lib.hid hkm; have HRA8 := Lib.hid hra; have HWK := Lib.hid hwk; have H38 := Lib.hid h38; have HY10 := Lib.hid hy10; have HW8 := Lib.hid hW8; have HG10 := Lib.hid hg10; have HC9 := Lib.hid hc9
    clear h8 hO8 hk8 hB8 hb8 hy10 h78 h38 hkm hkd hra hwk hg10 x0 x1 hc9
    obtain ⟨x0, x1, y0, y1⟩ := HCELL.out W8 H38.out
    rw [hW8] at y0 y1
    clear x0 x1 hW8
    go_wp2_with (go_at_call 17; fail)
    rw [← HW8.out, ← HG10.out]
    refine HRA8.out.mono ?_
    rintro e w9 ⟨ko9, kc9, rfl, how, hB9⟩
    obtain ⟨u0, u1, _⟩ := cells2 (cells2at HC9.out hB9)
    obtain ⟨v0, v1, _⟩ := cells2 (cells2at HY10.out hB9)
    have HB9 := Lib.hid hB9
    clear how hB9 y0 y1
    go_wp2_with (first
      | (go_at_call 22; refine (HKM.out _ HB9.out).mono ?_; rintro e w10 ⟨rfl, hB10⟩; have HB10 := Lib.hid (HB9.out.trans (hB10.mono HB9.out.size)); clear hB10)
      | (go_at_call 26; refine (HWK.out _).mono ?_; rintro e w11 ⟨rfl, hB11⟩; have HB11 := Lib.hid (HB10.out.trans (hB11.mono HB10.out.size)); clear hB11))
    go_ret
    exact ⟨rfl, HB0.out.trans ((HBW3.out.trans ((H38.out.trans (HB11.out.mono H38.out.size)).mono HBW3.out.size)).mono HB0.out.size)⟩

end Go.Proofs.Ytojcinkchdhjpaa
