/-
  Tapes, of the document: End, Spoil.
-/
import Derived.Test.YtmcbmemgeegodaaMedF
import Derived.Deep.Cut
namespace Go.Proofs.Ytmcbmemgeegodaa
open Go.RowKit
set_option linter.unusedVariables false

set_option maxHeartbeats 4000000 in
/-- END, OF THE DOCUMENT. -/
theorem rend_any (t : Tap) (q : Int) (w : World) (h : t.ok w) (hg : goodK t.p t.ks = true) : Calls Try.prog 55 #[.agg #[.int .i64 t.p, .slice t.a t.n t.c], .int .i64 q] w (MPost w (endK t.p t.ks q)) := by
  obtain ⟨s1, s2, s3, s4, s5, s6⟩ := h.sizes hg
  have hf := fun V (hV : Below w.heap.size w V) => twinmed_any t V (h.below hV) s6 (by omega)
  obtain ⟨r, hr⟩ : ∃ r, r = endK t.p t.ks q := ⟨_, rfl⟩
  rw [← hr]
  by_cases hq : 0 ≤ q ∧ q ≤ (t.n : Int)
  · obtain ⟨k, rfl⟩ : ∃ k : Nat, q = k := ⟨q.toNat, by omega⟩
    have hkn : k ≤ t.n := by omega
    rw [endK_ok (by rw [s5]; exact hkn)] at hr
    obtain ⟨p, a, n, c, cs⟩ := t
    simp only [Tap.ks] at hkn hf hr ⊢
    have HF := Lib.hid hf
    have d2 : decide ((n : Int) < (k : Int)) = false := decide_eq_false (by omega)
    have d2' : decide (n < k) = false := decide_eq_false (by omega)
    obtain ⟨hB0, x0, x1⟩ := two' (w := w) (o1 := .cells #[.int .i64 p, .slice a n c] 24) (o2 := .cells #[.int .i64 0, .slice none 0 0] 24) rfl rfl
    obtain ⟨y0, y1, _⟩ := cells2 x0
    have HB0 := Lib.hid hB0; have X0 := Lib.hid x0; have X1 := Lib.hid x1; have HR := Lib.hid hr
    clear hB0 x0 x1 hr hf h hg hq s1 s2 s3 s4 s5 s6
    go_enter Try.func55, Try.ntmps55
    go_wp2_with (go_at_call 12; fail)
    refine (HF.out _ HB0.out).mono ?_
    rintro e w2 ⟨ko, kc, cs', rfl, hO, hk, hB2⟩
    have u0 := cells2at X0.out hB2
    have u1 := cells2at X1.out hB2
    obtain ⟨s0, s1, sf⟩ := cells2 u0
    obtain ⟨g0, hg0⟩ : ∃ g0, g0 = w.heap.size := ⟨_, rfl⟩
    obtain ⟨g1, hg1⟩ : ∃ g1, g1 = w.heap.size + 1 := ⟨_, rfl⟩
    rw [← hg1] at u1
    rw [← hg0] at u0 s0 s1 sf
    have hne : g1 ≠ g0 := by omega
    obtain ⟨W3, hW3⟩ : ∃ W3, W3 = (w2.setCell ⟨g0, 0, none⟩ (.int .i64 p)).setCell ⟨g0, 1, none⟩ (.slice ko n kc) := ⟨_, rfl⟩
    have v0 : W3.heap[g0]? = some (.cells #[.int .i64 p, .slice ko n kc] 24 (0, 0)) := by rw [hW3]; exact heap2 u0 _ _
    have v1 : W3.heap[g1]? = some (.cells #[.int .i64 0, .slice none 0 0] 24 (0, 0)) := by rw [hW3, set2_far hne]; exact u1
    have o3 : OCs W3 w.heap.size ko n kc cs' := by rw [hW3]; exact (hO.low HB0.out.size).set2 u0 _ _ (by decide) (by decide)
    have b3 : Below w.heap.size w W3 := by rw [hW3]; exact below2 (HB0.out.trans (hB2.mono HB0.out.size)) (by omega) _ _
    have hgn : w.heap.size ≤ g1 := by omega
    have hgn0 : w.heap.size ≤ g0 := by omega
    clear hO hB2 u0 u1 y0 y1
    rw [← hg1, ← hg0]
    clear hg0 hg1
    go_upto_region 4 with (fail)
    rw [← hW3]
    clear s0 s1 sf hW3
    obtain ⟨t0, t1, tf⟩ := cells2 v0
    obtain ⟨W4, hW4⟩ : ∃ W4, W4 = W3.setCell ⟨g0, 1, none⟩ (.slice ko k kc) := ⟨_, rfl⟩
    have v0' : W4.heap[g0]? = some (.cells #[.int .i64 p, .slice ko k kc] 24 (0, 0)) := by
      have := Go.Joins.block_setCell (i := 1) v0 (.slice ko k kc)
      rw [hW4]; simpa using this
    have v1' : W4.heap[g1]? = some (.cells #[.int .i64 0, .slice none 0 0] 24 (0, 0)) := by rw [hW4, set_far _ _ _ _ _ hne]; exact v1
    have o4 : OCs W4 w.heap.size ko k kc (cs'.take k) := by rw [hW4]; exact (o3.take hkn).set (i := 1) _ v0 (by decide) (by decide)
    have b4 : Below w.heap.size w W4 := by rw [hW4]; exact b3.setCell hgn0 _
    have i1 : (0 : Int) ≤ (k : Int) := by omega
    have i2 : (k : Int) ≤ (kc : Int) := by have := o3.room; omega
    have i3 : k ≤ kc := by have := o3.room; omega
    have HK := Lib.hid hk
    clear v0 v1 o3 b3 hk
    go_upto_region 5 with (fail)
    rw [← hW4]
    clear t0 t1 tf hW4
    obtain ⟨b0, b1, _⟩ := cells2 v0'
    obtain ⟨z0, z1, zf⟩ := cells2 v1'
    obtain ⟨f0, f1⟩ := store2 v1' (.int .i64 p) (.slice ko (k) kc)
    have HO6 := Lib.hid (o4.set2 v1' (.int .i64 p) (.slice ko (k) kc) (by decide) (by decide))
    have HB6 := Lib.hid (below2 b4 hgn (.int .i64 p) (.slice ko (k) kc))
    clear v0' v1' o4 b4
    go_wp2
    refine bodyPost_ret (v := .tuple #[.agg #[.int .i64 p, .slice ko k kc], .int .i64 0]) (by simp [results, Try.results55, go_sem, f0, f1]) rfl ?_
    rw [HR.out]
    exact ⟨ko, k, kc, _, rfl, HO6.out, by rw [keys_upto, HK.out], HB6.out⟩
  · have hm : endK t.p t.ks q = (1, 0, []) := by unfold endK; rw [s5, if_neg hq]
    rw [hm] at hr
    obtain ⟨p, a, n, c, cs⟩ := t
    simp only at hq
    by_cases hq0 : q < 0
    · have d1 : decide (q < 0) = true := decide_eq_true hq0
      simp only
      obtain ⟨hB0, x0, x1⟩ := two' (w := w) (o1 := .cells #[.int .i64 p, .slice a n c] 24) (o2 := .cells #[.int .i64 0, .slice none 0 0] 24) rfl rfl
      obtain ⟨y0, y1, _⟩ := cells2 x0
      have HB0 := Lib.hid hB0
      have HR := Lib.hid hr
      clear hB0 x0 x1 hr hf h hg hq s1 s2 s3 s4 s5 s6 hq0 hm
      go_enter Try.func55, Try.ntmps55
      go_wp2
      refine bodyPost_ret (v := .tuple #[.agg #[.int .i64 0, .slice none 0 0], .int .i64 1]) (by simp [results, Try.results55, go_sem]) rfl ?_
      exact MPost.none_ HR.out HB0.out
    · have d1 : decide (q < 0) = false := decide_eq_false hq0
      have d2 : decide ((n : Int) < q) = true := decide_eq_true (by omega)
      simp only
      obtain ⟨hB0, x0, x1⟩ := two' (w := w) (o1 := .cells #[.int .i64 p, .slice a n c] 24) (o2 := .cells #[.int .i64 0, .slice none 0 0] 24) rfl rfl
      obtain ⟨y0, y1, _⟩ := cells2 x0
      have HB0 := Lib.hid hB0
      have HR := Lib.hid hr
      clear hB0 x0 x1 hr hf h hg hq s1 s2 s3 s4 s5 s6 hq0 hm
      go_enter Try.func55, Try.ntmps55
      go_wp2
      refine bodyPost_ret (v := .tuple #[.agg #[.int .i64 0, .slice none 0 0], .int .i64 1]) (by simp [results, Try.results55, go_sem]) rfl ?_
      exact MPost.none_ HR.out HB0.out


end Go.Proofs.Ytmcbmemgeegodaa
