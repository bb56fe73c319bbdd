/-
  Tapes, of the document: Write, Mark.
-/
import Derived.Test.YtmcbmemgeegodaaMedE
import Derived.Test.YtmcbmemgeegodaaMedE
namespace Go.Proofs.Ytmcbmemgeegodaa
open Go.RowKit
set_option linter.unusedVariables false

theorem markK_ok {p : Int} {ks : List Key} {k : Nat} (hk : k ≤ ks.length) (hp : (k : Int) ≠ p) : markK p ks k = (0, p, ks.take k ++ [(2, [], false)]) := by
  unfold markK
  rw [if_pos (by omega), if_neg hp, Int.toNat_natCast]
theorem markK_full {p : Int} {ks : List Key} {k : Nat} (hk : k ≤ ks.length) (hp : (k : Int) = p) : markK p ks k = (7, 0, []) := by
  unfold markK
  rw [if_pos (by omega), if_pos hp]
theorem endK_ok {p : Int} {ks : List Key} {k : Nat} (hk : k ≤ ks.length) : endK p ks k = (0, p, ks.take k) := by
  unfold endK; rw [if_pos (by omega), Int.toNat_natCast]

theorem ce_arg {p : Int} {n : Nat} {q : Int} {m : Nat} (h : ¬ (0 ≤ q ∧ q ≤ (n : Int))) : ce p n q m = 1 := by unfold ce; rw [if_pos h]
theorem ce_len {p : Int} {n : Nat} {q : Int} {m : Nat} (h : 0 ≤ q ∧ q ≤ (n : Int)) (h1 : m < 1 ∨ 256 < m) : ce p n q m = 2 := by unfold ce; rw [if_neg (fun hh => hh h), if_pos h1]
theorem ce_full {p : Int} {n : Nat} {q : Int} {m : Nat} (h : 0 ≤ q ∧ q ≤ (n : Int)) (h1 : ¬ (m < 1 ∨ 256 < m)) (hp : q = p) : ce p n q m = 7 := by unfold ce; rw [if_neg (fun hh => hh h), if_neg h1, if_pos hp]
theorem ce_zero {p : Int} {n : Nat} {q : Int} {m : Nat} (h : 0 ≤ q ∧ q ≤ (n : Int)) (h1 : ¬ (m < 1 ∨ 256 < m)) (hp : q ≠ p) : ce p n q m = 0 := by unfold ce; rw [if_neg (fun hh => hh h), if_neg h1, if_neg hp]
theorem writeK_no {p : Int} {ks : List Key} {q : Int} {z : List Int} {er : Int} (h : ce p ks.length q z.length = er) (h0 : er ≠ 0) : writeK p ks q z = (er, 0, []) := by unfold writeK; rw [h, if_neg h0]
theorem writeK_yes {p : Int} {ks : List Key} {k : Nat} {z : List Int} (h : ce p ks.length k z.length = 0) : writeK p ks k z = (0, p, ks.take k ++ [(1, z, false)]) := by unfold writeK; rw [h, if_pos rfl, Int.toNat_natCast]

set_option maxHeartbeats 4000000 in
/-- WRITE, OF THE DOCUMENT. -/
theorem rwrite_any (t : Tap) (q : Int) (d : Part) (w : World) (h : t.ok w) (hg : goodK t.p t.ks = true) (hd : d.ok w) : Calls Try.prog 66 #[.agg #[.int .i64 t.p, .slice t.a t.n t.c], .int .i64 q, .slice d.a d.l d.c] w (MPost w (writeK t.p t.ks q d.z)) := by
  obtain ⟨s1, s2, s3, s4, s5, s6⟩ := h.sizes hg
  have hzl := hd.len
  have hsm := hd.small
  unfold maxLen at hsm
  have hpu := fun (k : Nat) (hk : k ≤ t.n) (h6 : d.l ≤ 1000000) V (hV : Below w.heap.size w V) => rput_any t k ⟨1, d, false⟩ V (h.below hV) s6 hk (by omega) (hd.below hV) h6
  have hno := fun er (h1 : ce t.p t.ks.length q d.z.length = er) (h0 : er ≠ 0) => writeK_no (p := t.p) (ks := t.ks) (q := q) (z := d.z) h1 h0
  obtain ⟨r, hr0⟩ : ∃ r, r = writeK t.p t.ks q d.z := ⟨_, rfl⟩
  rw [← hr0] at hno ⊢
  rw [s5, hzl] at hno
  by_cases hq : 0 ≤ q ∧ q ≤ (t.n : Int)
  · obtain ⟨k, rfl⟩ : ∃ k : Nat, q = k := ⟨q.toNat, by omega⟩
    have hkn : k ≤ t.n := by omega
    by_cases hl1 : d.l < 1
    · have hr := hno 2 (ce_len hq (.inl hl1)) (by decide)
      obtain ⟨p, a, n, c, cs⟩ := t
      obtain ⟨da, dl, dc, dz⟩ := d
      simp only at hl1 hkn
      obtain rfl : dl = 0 := by omega
      have d2 : decide ((n : Int) < (k : Int)) = false := decide_eq_false (by omega)
      have d2' : decide (n < k) = false := decide_eq_false (by omega)
      simp only
      obtain ⟨hB0, x0, x1⟩ := two' (w := w) (o1 := .cells #[.int .i64 p, .slice a n c] 24) (o2 := .cells #[.int .i64 0, .slice none 0 0] 24) rfl rfl
      obtain ⟨y0, y1, _⟩ := cells2 x0
      have HB0 := Lib.hid hB0
      have HR := Lib.hid hr
      clear hB0 x0 x1 hr hr0 hno hpu h hg hd hq s1 s2 s3 s4 s5 s6 hzl hl1
      go_enter Try.func66, Try.ntmps66
      go_wp2
      refine bodyPost_ret (v := .tuple #[.agg #[.int .i64 0, .slice none 0 0], .int .i64 2]) (by simp [results, Try.results66, go_sem]) rfl ?_
      exact MPost.none_ HR.out HB0.out
    · by_cases hl2 : 256 < d.l
      · have hr := hno 2 (ce_len hq (.inr hl2)) (by decide)
        obtain ⟨p, a, n, c, cs⟩ := t
        obtain ⟨da, dl, dc, dz⟩ := d
        simp only at hl1 hl2 hkn hsm
        have d2 : decide ((n : Int) < (k : Int)) = false := decide_eq_false (by omega)
        have d2' : decide (n < k) = false := decide_eq_false (by omega)
        have d3 : decide ((dl : Int) < 1) = false := decide_eq_false (by omega)
        have d3' : decide (dl < 1) = false := decide_eq_false (by omega)
        have d4 : decide ((256 : Int) < (dl : Int)) = true := decide_eq_true (by omega)
        have d4' : decide (256 < dl) = true := decide_eq_true (by omega)
        simp only
        obtain ⟨hB0, x0, x1⟩ := two' (w := w) (o1 := .cells #[.int .i64 p, .slice a n c] 24) (o2 := .cells #[.int .i64 0, .slice none 0 0] 24) rfl rfl
        obtain ⟨y0, y1, _⟩ := cells2 x0
        have HB0 := Lib.hid hB0
        have HR := Lib.hid hr
        clear hB0 x0 x1 hr hr0 hno hpu h hg hd hq s1 s2 s3 s4 s5 s6 hzl hl1 hl2
        go_enter Try.func66, Try.ntmps66
        go_wp2
        refine bodyPost_ret (v := .tuple #[.agg #[.int .i64 0, .slice none 0 0], .int .i64 2]) (by simp [results, Try.results66, go_sem]) rfl ?_
        exact MPost.none_ HR.out HB0.out
      · have hlr : ¬ (d.l < 1 ∨ 256 < d.l) := by omega
        by_cases hp : (k : Int) = t.p
        · have hr := hno 7 (ce_full hq hlr hp) (by decide)
          obtain ⟨p, a, n, c, cs⟩ := t
          obtain ⟨da, dl, dc, dz⟩ := d
          simp only at hl1 hl2 hkn hsm hp
          have d2 : decide ((n : Int) < (k : Int)) = false := decide_eq_false (by omega)
          have d2' : decide (n < k) = false := decide_eq_false (by omega)
          have d3 : decide ((dl : Int) < 1) = false := decide_eq_false (by omega)
          have d3' : decide (dl < 1) = false := decide_eq_false (by omega)
          have d4 : decide ((256 : Int) < (dl : Int)) = false := decide_eq_false (by omega)
          have d4' : decide (256 < dl) = false := decide_eq_false (by omega)
          have d5 : ((k : Int) == p) = true := beq_iff_eq.2 hp
          simp only
          obtain ⟨hB0, x0, x1⟩ := two' (w := w) (o1 := .cells #[.int .i64 p, .slice a n c] 24) (o2 := .cells #[.int .i64 0, .slice none 0 0] 24) rfl rfl
          obtain ⟨y0, y1, _⟩ := cells2 x0
          have HB0 := Lib.hid hB0
          have HR := Lib.hid hr
          clear hB0 x0 x1 hr hr0 hno hpu h hg hd hq s1 s2 s3 s4 s5 s6 hzl hl1 hl2 hlr hp
          go_enter Try.func66, Try.ntmps66
          go_wp2
          refine bodyPost_ret (v := .tuple #[.agg #[.int .i64 0, .slice none 0 0], .int .i64 7]) (by simp [results, Try.results66, go_sem]) rfl ?_
          exact MPost.none_ HR.out HB0.out
        · have hw := writeK_yes (p := t.p) (ks := t.ks) (k := k) (z := d.z) (by rw [s5, hzl]; exact ce_zero hq hlr hp)
          have hr := hr0.trans hw
          have hpu := hpu k hkn (by omega)
          obtain ⟨p, a, n, c, cs⟩ := t
          obtain ⟨da, dl, dc, dz⟩ := d
          simp only at hl1 hl2 hkn hsm hp hpu hr
          have HF := Lib.hid hpu
          have d2 : decide ((n : Int) < (k : Int)) = false := decide_eq_false (by omega)
          have d2' : decide (n < k) = false := decide_eq_false (by omega)
          have d3 : decide ((dl : Int) < 1) = false := decide_eq_false (by omega)
          have d3' : decide (dl < 1) = false := decide_eq_false (by omega)
          have d4 : decide ((256 : Int) < (dl : Int)) = false := decide_eq_false (by omega)
          have d4' : decide (256 < dl) = false := decide_eq_false (by omega)
          have d5 : ((k : Int) == p) = false := beq_eq_false_iff_ne.2 hp
          simp only
          obtain ⟨hB0, x0, x1⟩ := two' (w := w) (o1 := .cells #[.int .i64 p, .slice a n c] 24) (o2 := .cells #[.int .i64 0, .slice none 0 0] 24) rfl rfl
          obtain ⟨y0, y1, _⟩ := cells2 x0
          have HB0 := Lib.hid hB0; have X1 := Lib.hid x1; have HR := Lib.hid hr
          clear hB0 x0 x1 hr hr0 hno hpu h hg hd hq s1 s2 s3 s4 s5 s6 hzl hl1 hl2 hlr hp hw
          go_enter Try.func66, Try.ntmps66
          go_wp2_with (go_at_call 75; fail)
          refine (HF.out _ HB0.out).mono ?_
          rintro e w2 ⟨ko, kc, cs', rfl, hO, hk, hB2⟩
          have x2 := cells2at X1.out hB2
          obtain ⟨z0, z1, zf⟩ := cells2 x2
          obtain ⟨f0, f1⟩ := store2 x2 (.int .i64 p) (.slice ko (k + 1) kc)
          have HO := Lib.hid ((hO.low HB0.out.size).set2 x2 (.int .i64 p) (.slice ko (k + 1) kc) (by decide) (by decide)); have HK := Lib.hid hk
          have HB2 := Lib.hid (below2 (HB0.out.trans (hB2.mono HB0.out.size)) (show w.heap.size ≤ w.heap.size + 1 by omega) (.int .i64 p) (.slice ko (k + 1) kc))
          clear hO hk hB2 x2 y0 y1
          go_wp2
          refine bodyPost_ret (v := .tuple #[.agg #[.int .i64 p, .slice ko (k + 1) kc], .int .i64 0]) (by simp [results, Try.results66, go_sem, f0, f1]) rfl ?_
          rw [HR.out]
          exact ⟨ko, k + 1, kc, cs', rfl, HO.out, HK.out, HB2.out⟩
  · have hr := hno 1 (ce_arg hq) (by decide)
    obtain ⟨p, a, n, c, cs⟩ := t
    obtain ⟨da, dl, dc, dz⟩ := d
    simp only at hq
    by_cases hq0 : q < 0
    · have d1 : decide (q < 0) = true := decide_eq_true hq0
      simp only
      obtain ⟨hB0, x0, x1⟩ := two' (w := w) (o1 := .cells #[.int .i64 p, .slice a n c] 24) (o2 := .cells #[.int .i64 0, .slice none 0 0] 24) rfl rfl
      obtain ⟨y0, y1, _⟩ := cells2 x0
      have HB0 := Lib.hid hB0
      have HR := Lib.hid hr
      clear hB0 x0 x1 hr hr0 hno hpu h hg hd hq s1 s2 s3 s4 s5 s6 hzl hq0
      go_enter Try.func66, Try.ntmps66
      go_wp2
      refine bodyPost_ret (v := .tuple #[.agg #[.int .i64 0, .slice none 0 0], .int .i64 1]) (by simp [results, Try.results66, go_sem]) rfl ?_
      exact MPost.none_ HR.out HB0.out
    · have d1 : decide (q < 0) = false := decide_eq_false hq0
      have d2 : decide ((n : Int) < q) = true := decide_eq_true (by omega)
      simp only
      obtain ⟨hB0, x0, x1⟩ := two' (w := w) (o1 := .cells #[.int .i64 p, .slice a n c] 24) (o2 := .cells #[.int .i64 0, .slice none 0 0] 24) rfl rfl
      obtain ⟨y0, y1, _⟩ := cells2 x0
      have HB0 := Lib.hid hB0
      have HR := Lib.hid hr
      clear hB0 x0 x1 hr hr0 hno hpu h hg hd hq s1 s2 s3 s4 s5 s6 hzl hq0
      go_enter Try.func66, Try.ntmps66
      go_wp2
      refine bodyPost_ret (v := .tuple #[.agg #[.int .i64 0, .slice none 0 0], .int .i64 1]) (by simp [results, Try.results66, go_sem]) rfl ?_
      exact MPost.none_ HR.out HB0.out

set_option maxHeartbeats 4000000 in
/-- MARK, OF THE DOCUMENT. -/
theorem rmark_any (t : Tap) (q : Int) (w : World) (h : t.ok w) (hg : goodK t.p t.ks = true) : Calls Try.prog 52 #[.agg #[.int .i64 t.p, .slice t.a t.n t.c], .int .i64 q] w (MPost w (markK t.p t.ks q)) := by
  obtain ⟨s1, s2, s3, s4, s5, s6⟩ := h.sizes hg
  have hpu := fun (k : Nat) (hk : k ≤ t.n) V (hV : Below w.heap.size w V) => rput_any t k ⟨2, ⟨none, 0, 0, []⟩, false⟩ V (h.below hV) s6 hk (by omega) (Part.ok.nil_ V) (Nat.zero_le _)
  obtain ⟨r, hr⟩ : ∃ r, r = markK t.p t.ks q := ⟨_, rfl⟩
  rw [← hr]
  by_cases hq : 0 ≤ q ∧ q ≤ (t.n : Int)
  · obtain ⟨k, rfl⟩ : ∃ k : Nat, q = k := ⟨q.toNat, by omega⟩
    have hkn : k ≤ t.n := by omega
    by_cases hp : (k : Int) = t.p
    · rw [markK_full (by rw [s5]; exact hkn) hp] at hr
      obtain ⟨p, a, n, c, cs⟩ := t
      simp only at hkn hp
      have d2 : decide ((n : Int) < (k : Int)) = false := decide_eq_false (by omega)
      have d2' : decide (n < k) = false := decide_eq_false (by omega)
      have d5 : ((k : Int) == p) = true := beq_iff_eq.2 hp
      simp only
      obtain ⟨hB0, x0, x1⟩ := two' (w := w) (o1 := .cells #[.int .i64 p, .slice a n c] 24) (o2 := .cells #[.int .i64 0, .slice none 0 0] 24) rfl rfl
      obtain ⟨y0, y1, _⟩ := cells2 x0
      have HB0 := Lib.hid hB0
      have HR := Lib.hid hr
      clear hB0 x0 x1 hr hpu h hg hq s1 s2 s3 s4 s5 s6 hp
      go_enter Try.func52, Try.ntmps52
      go_wp2
      refine bodyPost_ret (v := .tuple #[.agg #[.int .i64 0, .slice none 0 0], .int .i64 7]) (by simp [results, Try.results52, go_sem]) rfl ?_
      exact MPost.none_ HR.out HB0.out
    · rw [markK_ok (by rw [s5]; exact hkn) hp] at hr
      have hpu := hpu k hkn
      obtain ⟨p, a, n, c, cs⟩ := t
      simp only at hkn hp hpu hr
      have HF := Lib.hid hpu
      have d2 : decide ((n : Int) < (k : Int)) = false := decide_eq_false (by omega)
      have d2' : decide (n < k) = false := decide_eq_false (by omega)
      have d5 : ((k : Int) == p) = false := beq_eq_false_iff_ne.2 hp
      simp only
      obtain ⟨hB0, x0, x1⟩ := two' (w := w) (o1 := .cells #[.int .i64 p, .slice a n c] 24) (o2 := .cells #[.int .i64 0, .slice none 0 0] 24) rfl rfl
      obtain ⟨y0, y1, _⟩ := cells2 x0
      have HB0 := Lib.hid hB0; have X1 := Lib.hid x1; have HR := Lib.hid hr
      clear hB0 x0 x1 hr hpu h hg hq s1 s2 s3 s4 s5 s6 hp
      go_enter Try.func52, Try.ntmps52
      go_wp2_with (go_at_call 75; fail)
      refine (HF.out _ HB0.out).mono ?_
      rintro e w2 ⟨ko, kc, cs', rfl, hO, hk, hB2⟩
      have x2 := cells2at X1.out hB2
      obtain ⟨z0, z1, zf⟩ := cells2 x2
      obtain ⟨f0, f1⟩ := store2 x2 (.int .i64 p) (.slice ko (k + 1) kc)
      have HO := Lib.hid ((hO.low HB0.out.size).set2 x2 (.int .i64 p) (.slice ko (k + 1) kc) (by decide) (by decide)); have HK := Lib.hid hk
      have HB2 := Lib.hid (below2 (HB0.out.trans (hB2.mono HB0.out.size)) (show w.heap.size ≤ w.heap.size + 1 by omega) (.int .i64 p) (.slice ko (k + 1) kc))
      clear hO hk hB2 x2 y0 y1
      go_wp2
      refine bodyPost_ret (v := .tuple #[.agg #[.int .i64 p, .slice ko (k + 1) kc], .int .i64 0]) (by simp [results, Try.results52, go_sem, f0, f1]) rfl ?_
      rw [HR.out]
      exact ⟨ko, k + 1, kc, cs', rfl, HO.out, HK.out, HB2.out⟩
  · have hm : markK t.p t.ks q = (1, 0, []) := by unfold markK; rw [s5, if_neg hq]
    rw [hm] at hr
    obtain ⟨p, a, n, c, cs⟩ := t
    simp only at hq
    by_cases hq0 : q < 0
    · have d1 : decide (q < 0) = true := decide_eq_true hq0
      simp only
      obtain ⟨hB0, x0, x1⟩ := two' (w := w) (o1 := .cells #[.int .i64 p, .slice a n c] 24) (o2 := .cells #[.int .i64 0, .slice none 0 0] 24) rfl rfl
      obtain ⟨y0, y1, _⟩ := cells2 x0
      have HB0 := Lib.hid hB0
      have HR := Lib.hid hr
      clear hB0 x0 x1 hr hpu h hg hq s1 s2 s3 s4 s5 s6 hq0 hm
      go_enter Try.func52, Try.ntmps52
      go_wp2
      refine bodyPost_ret (v := .tuple #[.agg #[.int .i64 0, .slice none 0 0], .int .i64 1]) (by simp [results, Try.results52, go_sem]) rfl ?_
      exact MPost.none_ HR.out HB0.out
    · have d1 : decide (q < 0) = false := decide_eq_false hq0
      have d2 : decide ((n : Int) < q) = true := decide_eq_true (by omega)
      simp only
      obtain ⟨hB0, x0, x1⟩ := two' (w := w) (o1 := .cells #[.int .i64 p, .slice a n c] 24) (o2 := .cells #[.int .i64 0, .slice none 0 0] 24) rfl rfl
      obtain ⟨y0, y1, _⟩ := cells2 x0
      have HB0 := Lib.hid hB0
      have HR := Lib.hid hr
      clear hB0 x0 x1 hr hpu h hg hq s1 s2 s3 s4 s5 s6 hq0 hm
      go_enter Try.func52, Try.ntmps52
      go_wp2
      refine bodyPost_ret (v := .tuple #[.agg #[.int .i64 0, .slice none 0 0], .int .i64 1]) (by simp [results, Try.results52, go_sem]) rfl ?_
      exact MPost.none_ HR.out HB0.out
end Go.Proofs.Ytmcbmemgeegodaa
