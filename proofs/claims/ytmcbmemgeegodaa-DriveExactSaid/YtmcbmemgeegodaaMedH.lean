/-
  Tapes, of the document: Tear.
-/
import Derived.Test.YtmcbmemgeegodaaMedG
namespace Go.Proofs.Ytmcbmemgeegodaa
open Go.RowKit
set_option linter.unusedVariables false

set_option maxHeartbeats 4000000 in
/-- TEAR, OF THE DOCUMENT. -/
theorem rtear_any (t : Tap) (q : Int) (d : Part) (keep : Int) (w : World) (h : t.ok w) (hg : goodK t.p t.ks = true) (hd : d.ok w) : Calls Try.prog 67 #[.agg #[.int .i64 t.p, .slice t.a t.n t.c], .int .i64 q, .slice d.a d.l d.c, .int .i64 keep] w (MPost w (tearK t.p t.ks q d.z keep)) := by
  obtain ⟨s1, s2, s3, s4, s5, s6⟩ := h.sizes hg
  have hw := fun V (hV : Below w.heap.size w V) => rwrite_any t q d V (h.below hV) hg (hd.below hV)
  obtain ⟨r, hr⟩ : ∃ r, r = tearK t.p t.ks q d.z keep := ⟨_, rfl⟩
  rw [← hr]
  unfold tearK at hr
  unfold writeK at hw
  rw [s5, hd.len] at hr hw
  by_cases hce : ce t.p t.n q d.l = 0
  · rw [if_pos hce] at hr hw
    obtain ⟨q1, q2, q3, q4, q5⟩ := ce_ok hce
    obtain ⟨k, rfl⟩ : ∃ k : Nat, q = k := ⟨q.toNat, by omega⟩
    rw [Int.toNat_natCast] at hr hw
    by_cases hkp : keep < 0
    · have d1 : decide (keep < 0) = true := decide_eq_true hkp
      rw [if_pos hkp] at hr
      have hf := fun V (hV : Below w.heap.size w V) => twinmed_any t V (h.below hV) s6 (by omega)
      obtain ⟨p, a, n, c, cs⟩ := t
      obtain ⟨da, dl, dc, dz⟩ := d
      simp only [Tap.ks] at hw hf hr ⊢
      obtain ⟨hB0, x0, x1⟩ := two' (w := w) (o1 := .cells #[.int .i64 p, .slice a n c] 24) (o2 := .cells #[.int .i64 0, .slice none 0 0] 24) rfl rfl
      obtain ⟨y0, y1, _⟩ := cells2 x0
      have HW := Lib.hid hw; have HF := Lib.hid hf; have HR := Lib.hid hr; have HB0 := Lib.hid hB0; have X0 := Lib.hid x0; have X1 := Lib.hid x1
      clear h hg hd s1 s2 s3 s4 s5 s6 hw hf hr hce q1 q2 q3 q4 q5 hkp hB0 x0 x1
      go_enter Try.func67, Try.ntmps67
      go_wp2_with (go_at_call 66; fail)
      refine (HW.out _ HB0.out).mono ?_
      intro e w1 h1
      obtain ⟨ko1, n1, kc1, cs1, rfl, _, _, hB1⟩ := h1.elim
      obtain ⟨W2, hW2⟩ : ∃ W2, W2 = w1.alloc (.cells #[.int .i64 p, .slice ko1 n1 kc1] 24) := ⟨_, rfl⟩
      have b12 : Below w1.heap.size w1 W2 := by rw [hW2]; exact (Below.refl _ _).alloc (Nat.le_refl _) _
      have u0 := cells2at (cells2at X0.out hB1) b12
      have u1 := cells2at (cells2at X1.out hB1) b12
      have hB2 := HB0.out.trans ((hB1.trans (b12.mono hB1.size)).mono HB0.out.size)
      have HB2 := Lib.hid hB2; have U1 := Lib.hid u1
      clear y0 y1
      obtain ⟨y0, y1, _⟩ := cells2 u0
      clear h1 hB1 b12 u0 u1 hB2
      subst hW2
      go_wp2_with (go_at_call 12; fail)
      refine (HF.out _ HB2.out).mono ?_
      rintro e w3 ⟨ko, kc, cs', rfl, hO, hk, hB3⟩
      have x3 := cells2at U1.out hB3
      obtain ⟨z0, z1, zf⟩ := cells2 x3
      obtain ⟨f0, f1⟩ := store2 x3 (.int .i64 p) (.slice ko (n) kc)
      have HO := Lib.hid ((hO.low HB2.out.size).set2 x3 (.int .i64 p) (.slice ko (n) kc) (by decide) (by decide)); have HK := Lib.hid hk
      have HB3 := Lib.hid (below2 (HB2.out.trans (hB3.mono HB2.out.size)) (show w.heap.size ≤ w.heap.size + 1 by omega) (.int .i64 p) (.slice ko (n) kc))
      clear hO hk hB3 x3 y0 y1
      go_wp2
      refine bodyPost_ret (v := .tuple #[.agg #[.int .i64 p, .slice ko (n) kc], .int .i64 0]) (by simp [results, Try.results67, go_sem, f0, f1]) rfl ?_
      rw [HR.out]
      exact ⟨ko, n, kc, cs', rfl, HO.out, HK.out, HB3.out⟩
    · have d1 : decide (keep < 0) = false := decide_eq_false hkp
      rw [if_neg hkp] at hr
      obtain ⟨L, hL⟩ : ∃ L : Nat, L = min keep.toNat d.l := ⟨_, rfl⟩
      have hmin : min keep (d.l : Int) = (L : Int) := by omega
      have hLl : L ≤ d.l := by omega
      have hmn := fun ats W => run_min ats 3 keep (d.l : Int) W
      rw [hmin] at hmn
      have hzt : d.z.take keep.toNat = d.z.take L := by
        by_cases hx : keep.toNat ≤ d.l
        · rw [show L = keep.toNat by omega]
        · rw [List.take_of_length_le (by rw [hd.len]; omega), List.take_of_length_le (by rw [hd.len]; omega)]
      rw [hzt] at hr
      have hdt : Part.ok w ⟨d.a, L, d.c, d.z.take L⟩ := hd.take L hLl
      have hput := fun V (hV : Below w.heap.size w V) => rput_any t k ⟨3, ⟨d.a, L, d.c, d.z.take L⟩, false⟩ V (h.below hV) s6 (by omega) (by omega) (hdt.below hV) (by show L ≤ _; omega)
      have hroom := hd.room
      unfold maxLen at hroom
      obtain ⟨p, a, n, c, cs⟩ := t
      obtain ⟨da, dl, dc, dz⟩ := d
      simp only [Tap.ks] at hw hput hr hroom hLl hmn ⊢
      have i1 : (0 : Int) ≤ (L : Int) := by omega
      have i2 : (L : Int) ≤ (dc : Int) := by omega
      obtain ⟨hB0, x0, x1⟩ := two' (w := w) (o1 := .cells #[.int .i64 p, .slice a n c] 24) (o2 := .cells #[.int .i64 0, .slice none 0 0] 24) rfl rfl
      obtain ⟨y0, y1, _⟩ := cells2 x0
      have HW := Lib.hid hw; have HPUT := Lib.hid hput; have HR := Lib.hid hr; have HB0 := Lib.hid hB0; have X0 := Lib.hid x0; have X1 := Lib.hid x1
      clear h hg hd s1 s2 s3 s4 s5 s6 hw hput hr hce q1 q2 q3 q4 q5 hkp hB0 x0 x1 hzt hdt hL hmin
      go_enter Try.func67, Try.ntmps67
      go_wp2_with (go_at_call 66; fail)
      refine (HW.out _ HB0.out).mono ?_
      intro e w1 h1
      obtain ⟨ko1, n1, kc1, cs1, rfl, _, _, hB1⟩ := h1.elim
      obtain ⟨W2, hW2⟩ : ∃ W2, W2 = w1.alloc (.cells #[.int .i64 p, .slice ko1 n1 kc1] 24) := ⟨_, rfl⟩
      have b12 : Below w1.heap.size w1 W2 := by rw [hW2]; exact (Below.refl _ _).alloc (Nat.le_refl _) _
      have u0 := cells2at (cells2at X0.out hB1) b12
      have u1 := cells2at (cells2at X1.out hB1) b12
      have hB2 := HB0.out.trans ((hB1.trans (b12.mono hB1.size)).mono HB0.out.size)
      have hcell : ∀ V, Below W2.heap.size W2 V → V.cell? ⟨w.heap.size, 0, none⟩ = some (.int .i64 p) ∧ V.cell? ⟨w.heap.size, 1, none⟩ = some (.slice a n c) := fun V hb => by
        obtain ⟨a0, a1, _⟩ := cells2 (cells2at u0 hb)
        exact ⟨a0, a1⟩
      have HCELL := Lib.hid hcell; have HB2 := Lib.hid hB2; have U1 := Lib.hid u1; have HW2 := Lib.hid hW2
      have HNE := Lib.hid (show w.heap.size ≠ w.heap.size + 1 by omega)
      clear y0 y1 h1 hB1 b12 u0 u1 hB2 hcell hW2
      go_wp2
      rw [← HW2.out]
      go_region_held3 (fun V => V.cell? ⟨w.heap.size, 0, none⟩ = some (.int .i64 p) ∧ V.cell? ⟨w.heap.size, 1, none⟩ = some (.slice a n c)) (first | exact HCELL.out _ (Below.refl _ _).drew | exact HCELL.out _ HB3.out | exact HKK.out _ _)
        ((go_at_call 75; (with_reducible refine (HPUT.out _ (HB2.out.trans ((Below.refl W2.heap.size W2).drew.mono HB2.out.size))).mono ?_); rintro e w3 ⟨ko, kc, cs', rfl, hO, hk, hB3⟩; have HB3 : Hid (Below W2.heap.size W2 w3) := (Below.refl _ _).drew.trans hB3; have HO3 := Lib.hid (hO.low (show w.heap.size ≤ W2.drew.heap.size from HB2.out.size)); have HK3 := Lib.hid hk; obtain ⟨z0, z1, zf⟩ := cells2 (cells2at U1.out HB3.out); have HKK := Lib.hid (keep2 (HCELL.out _ HB3.out) HNE.out); clear hB3 hO hk))
      rename_i hheld
      obtain ⟨f0, f1⟩ := store2 (cells2at U1.out HB3.out) (.int .i64 p) (.slice ko (k + 1) kc)
      clear hheld z0 z1 zf
      go_wp2
      refine bodyPost_ret (v := .tuple #[.agg #[.int .i64 p, .slice ko (k + 1) kc], .int .i64 0]) (by simp [results, Try.results67, go_sem, f0, f1]) rfl ?_
      rw [HR.out]
      exact ⟨ko, k + 1, kc, cs', rfl, HO3.out.set2 (cells2at U1.out HB3.out) _ _ (by decide) (by decide), HK3.out, below2 (HB2.out.trans (HB3.out.mono HB2.out.size)) (show w.heap.size ≤ w.heap.size + 1 by omega) _ _⟩
  · rw [if_neg hce] at hr hw
    obtain ⟨er, her⟩ : ∃ er, er = ce t.p t.n q d.l := ⟨_, rfl⟩
    rw [← her] at hr hw hce
    have d1 : (er != 0) = true := by simp [hce]
    obtain ⟨p, a, n, c, cs⟩ := t
    obtain ⟨da, dl, dc, dz⟩ := d
    simp only at hw hr ⊢
    obtain ⟨hB0, x0, x1⟩ := two' (w := w) (o1 := .cells #[.int .i64 p, .slice a n c] 24) (o2 := .cells #[.int .i64 0, .slice none 0 0] 24) rfl rfl
    obtain ⟨y0, y1, _⟩ := cells2 x0
    have HW := Lib.hid hw; have HR := Lib.hid hr; have HB0 := Lib.hid hB0; have X0 := Lib.hid x0; have X1 := Lib.hid x1
    clear h hg hd s1 s2 s3 s4 s5 s6 hw hr hce her hB0 x0 x1
    go_enter Try.func67, Try.ntmps67
    go_wp2_with (go_at_call 66; fail)
    refine (HW.out _ HB0.out).mono ?_
    intro e w1 h1
    obtain ⟨ko1, n1, kc1, cs1, rfl, _, _, hB1⟩ := h1.elim
    obtain ⟨W2, hW2⟩ : ∃ W2, W2 = w1.alloc (.cells #[.int .i64 0, .slice ko1 n1 kc1] 24) := ⟨_, rfl⟩
    have b12 : Below w1.heap.size w1 W2 := by rw [hW2]; exact (Below.refl _ _).alloc (Nat.le_refl _) _
    have u0 := cells2at (cells2at X0.out hB1) b12
    have u1 := cells2at (cells2at X1.out hB1) b12
    have hB2 := HB0.out.trans ((hB1.trans (b12.mono hB1.size)).mono HB0.out.size)
    obtain ⟨z0, z1, zf⟩ := cells2 u1
    obtain ⟨f0, f1⟩ := store2 u1 (.int .i64 0) (.slice none 0 0)
    have HB2 := Lib.hid (below2 hB2 (show w.heap.size ≤ w.heap.size + 1 by omega) (.int .i64 0) (.slice none 0 0))
    clear y0 y1 h1 hB1 b12 u0 u1 hB2
    subst hW2
    go_wp2
    refine bodyPost_ret (v := .tuple #[.agg #[.int .i64 0, .slice none 0 0], .int .i64 er]) (by simp [results, Try.results67, go_sem, f0, f1]) rfl ?_
    exact MPost.none_ HR.out HB2.out
end Go.Proofs.Ytmcbmemgeegodaa
