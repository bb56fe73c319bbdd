/-
  Tapes that may not be: each call refuses them.
-/
import Derived.Test.YtmcbmemgeegodaaMedA
namespace Go.Proofs.Ytmcbmemgeegodaa
open Go.RowKit
set_option linter.unusedVariables false

theorem check_bad (t : Tap) (w : World) (h : t.ok w) (hg : goodK t.p t.ks = false) : Calls Try.prog 68 #[.agg #[.int .i64 t.p, .slice t.a t.n t.c]] w fun e w' => e = .returned (.int .i64 1) ∧ Below w.heap.size w w' := by
  have := check_any t.p t.a t.n t.c t.cs w h.len (Nat.le_trans h.room h.cm) h.cells
  rw [good_keys t.p h.cells, show goodK t.p (keys t.cs) = false from hg] at this
  exact this

theorem pos_bad (t : Tap) (q : Int) (w : World) (h : t.ok w) (hg : goodK t.p t.ks = false) : Calls Try.prog 78 #[.agg #[.int .i64 t.p, .slice t.a t.n t.c], .int .i64 q] w fun e w' => e = .returned (.bool false) ∧ Below w.heap.size w w' := by
  have HB0 := Lib.hid ((Below.refl w.heap.size w).alloc (Nat.le_refl _) (.cells #[.int .i64 t.p, .slice t.a t.n t.c] 24))
  have HC := Lib.hid (check_bad t _ (h.below ((Below.refl w.heap.size w).alloc (Nat.le_refl _) (.cells #[.int .i64 t.p, .slice t.a t.n t.c] 24))) hg)
  obtain ⟨p, a, n, c, cs⟩ := t
  simp only at HB0 HC ⊢
  clear h hg
  go_enter Try.func78, Try.ntmps78
  go_wp2_with (go_at_call 68; refine HC.out.mono ?_; rintro e w1 ⟨rfl, hB1⟩; have HB1 := Lib.hid (HB0.out.trans (hB1.mono HB0.out.size)); clear hB1)
  go_ret
  exact ⟨rfl, HB1.out⟩

theorem files_bad (t : Tap) (w : World) (h : t.ok w) (hg : goodK t.p t.ks = false) : Calls Try.prog 41 #[.agg #[.int .i64 t.p, .slice t.a t.n t.c]] w fun e w' => e = .returned (.int .i64 0) ∧ Below w.heap.size w w' := by
  have HB0 := Lib.hid ((Below.refl w.heap.size w).alloc (Nat.le_refl _) (.cells #[.int .i64 t.p, .slice t.a t.n t.c] 24))
  have HC := Lib.hid (check_bad t _ (h.below ((Below.refl w.heap.size w).alloc (Nat.le_refl _) (.cells #[.int .i64 t.p, .slice t.a t.n t.c] 24))) hg)
  obtain ⟨p, a, n, c, cs⟩ := t
  simp only at HB0 HC ⊢
  clear h hg
  go_enter Try.func41, Try.ntmps41
  go_wp2_with (go_at_call 68; refine HC.out.mono ?_; rintro e w1 ⟨rfl, hB1⟩; have HB1 := Lib.hid (HB0.out.trans (hB1.mono HB0.out.size)); clear hB1)
  go_ret
  exact ⟨rfl, HB1.out⟩

theorem file_bad (t : Tap) (q : Int) (w : World) (h : t.ok w) (hg : goodK t.p t.ks = false) : Calls Try.prog 43 #[.agg #[.int .i64 t.p, .slice t.a t.n t.c], .int .i64 q] w fun e w' => e = .returned (.tuple #[.int .i64 0, .int .i64 1]) ∧ Below w.heap.size w w' := by
  have HB0 := Lib.hid ((Below.refl w.heap.size w).alloc (Nat.le_refl _) (.cells #[.int .i64 t.p, .slice t.a t.n t.c] 24))
  have HC := Lib.hid (check_bad t _ (h.below ((Below.refl w.heap.size w).alloc (Nat.le_refl _) (.cells #[.int .i64 t.p, .slice t.a t.n t.c] 24))) hg)
  obtain ⟨p, a, n, c, cs⟩ := t
  simp only at HB0 HC ⊢
  clear h hg
  go_enter Try.func43, Try.ntmps43
  go_wp2_with (go_at_call 68; refine HC.out.mono ?_; rintro e w1 ⟨rfl, hB1⟩; have HB1 := Lib.hid (HB0.out.trans (hB1.mono HB0.out.size)); clear hB1)
  go_ret2
  exact ⟨rfl, HB1.out⟩

theorem read_bad (t : Tap) (q : Int) (w : World) (h : t.ok w) (hg : goodK t.p t.ks = false) : Calls Try.prog 42 #[.agg #[.int .i64 t.p, .slice t.a t.n t.c], .int .i64 q] w fun e w' => e = .returned (.tuple #[.slice none 0 0, .int .i64 1]) ∧ Below w.heap.size w w' := by
  have HB0 := Lib.hid ((Below.refl w.heap.size w).alloc (Nat.le_refl _) (.cells #[.int .i64 t.p, .slice t.a t.n t.c] 24))
  have HC := Lib.hid (check_bad t _ (h.below ((Below.refl w.heap.size w).alloc (Nat.le_refl _) (.cells #[.int .i64 t.p, .slice t.a t.n t.c] 24))) hg)
  obtain ⟨p, a, n, c, cs⟩ := t
  simp only at HB0 HC ⊢
  clear h hg
  go_enter Try.func42, Try.ntmps42
  go_wp2_with (go_at_call 68; refine HC.out.mono ?_; rintro e w1 ⟨rfl, hB1⟩; have HB1 := Lib.hid (HB0.out.trans (hB1.mono HB0.out.size)); clear hB1)
  go_ret2
  exact ⟨rfl, HB1.out⟩

theorem cw_bad (t : Tap) (q : Int) (bo : Option Addr) (m mc : Nat) (w : World) (h : t.ok w) (hg : goodK t.p t.ks = false) : Calls Try.prog 71 #[.agg #[.int .i64 t.p, .slice t.a t.n t.c], .int .i64 q, .slice bo m mc] w fun e w' => e = .returned (.int .i64 1) ∧ Below w.heap.size w w' := by
  have HB0 := Lib.hid ((Below.refl w.heap.size w).alloc (Nat.le_refl _) (.cells #[.int .i64 t.p, .slice t.a t.n t.c] 24))
  have HC := Lib.hid (pos_bad t q _ (h.below ((Below.refl w.heap.size w).alloc (Nat.le_refl _) (.cells #[.int .i64 t.p, .slice t.a t.n t.c] 24))) hg)
  obtain ⟨p, a, n, c, cs⟩ := t
  simp only at HB0 HC ⊢
  clear h hg
  go_enter Try.func71, Try.ntmps71
  go_wp2_with (go_at_call 78; refine HC.out.mono ?_; rintro e w1 ⟨rfl, hB1⟩; have HB1 := Lib.hid (HB0.out.trans (hB1.mono HB0.out.size)); clear hB1)
  go_ret
  exact ⟨rfl, HB1.out⟩

theorem write_bad (t : Tap) (q : Int) (bo : Option Addr) (m mc : Nat) (w : World) (h : t.ok w) (hg : goodK t.p t.ks = false) : Calls Try.prog 44 #[.agg #[.int .i64 t.p, .slice t.a t.n t.c], .int .i64 q, .slice bo m mc] w (MPost w (1, 0, [])) := by
  have hc := fun V (hV : Below w.heap.size w V) => cw_bad t q bo m mc V (h.below hV) hg
  obtain ⟨p, a, n, c, cs⟩ := t
  simp only at hc ⊢
  have HC := Lib.hid hc
  clear h hg hc
  go_enter Try.func44, Try.ntmps44
  go_wp2_with (go_at_call 71; fail)
  obtain ⟨g1, hg1⟩ : ∃ g1, g1 = w.heap.size + 1 := ⟨_, rfl⟩
  rw [← hg1]
  generalize hW0 : World.alloc _ (.cells #[.int .i64 0, .slice none 0 0] 24) = W0
  obtain ⟨hB0, x0, x1⟩ := two' hW0 hg1
  have hgn : w.heap.size ≤ g1 := by omega
  clear hW0 hg1
  refine (HC.out W0 hB0).mono ?_
  rintro e w1 ⟨rfl, hB1⟩
  have hB01 := hB0.trans (hB1.mono hB0.size)
  have x2 := cells2at x1 hB1
  obtain ⟨z0, z1, zf⟩ := cells2 x2
  obtain ⟨f0, f1⟩ := store2 x2 (.int .i64 0) (.slice none 0 0)
  have HB2 := Lib.hid (below2 hB01 hgn (.int .i64 0) (.slice none 0 0))
  clear hB0 x0 x1 hB1 hB01 x2
  go_wp2
  refine bodyPost_ret (v := .tuple #[.agg #[.int .i64 0, .slice none 0 0], .int .i64 1]) (by simp [results, Try.results44, go_sem, f0, f1]) rfl ?_
  exact MPost.none_ rfl HB2.out

theorem tear_bad (t : Tap) (q : Int) (bo : Option Addr) (m mc : Nat) (keep : Int) (w : World) (h : t.ok w) (hg : goodK t.p t.ks = false) : Calls Try.prog 76 #[.agg #[.int .i64 t.p, .slice t.a t.n t.c], .int .i64 q, .slice bo m mc, .int .i64 keep] w (MPost w (1, 0, [])) := by
  have hc := fun V (hV : Below w.heap.size w V) => cw_bad t q bo m mc V (h.below hV) hg
  obtain ⟨p, a, n, c, cs⟩ := t
  simp only at hc ⊢
  have HC := Lib.hid hc
  clear h hg hc
  go_enter Try.func76, Try.ntmps76
  go_wp2_with (go_at_call 71; fail)
  obtain ⟨g1, hg1⟩ : ∃ g1, g1 = w.heap.size + 1 := ⟨_, rfl⟩
  rw [← hg1]
  generalize hW0 : World.alloc _ (.cells #[.int .i64 0, .slice none 0 0] 24) = W0
  obtain ⟨hB0, x0, x1⟩ := two' hW0 hg1
  have hgn : w.heap.size ≤ g1 := by omega
  clear hW0 hg1
  refine (HC.out W0 hB0).mono ?_
  rintro e w1 ⟨rfl, hB1⟩
  have hB01 := hB0.trans (hB1.mono hB0.size)
  have x2 := cells2at x1 hB1
  obtain ⟨z0, z1, zf⟩ := cells2 x2
  obtain ⟨f0, f1⟩ := store2 x2 (.int .i64 0) (.slice none 0 0)
  have HB2 := Lib.hid (below2 hB01 hgn (.int .i64 0) (.slice none 0 0))
  clear hB0 x0 x1 hB1 hB01 x2
  go_wp2
  refine bodyPost_ret (v := .tuple #[.agg #[.int .i64 0, .slice none 0 0], .int .i64 1]) (by simp [results, Try.results76, go_sem, f0, f1]) rfl ?_
  exact MPost.none_ rfl HB2.out

theorem mark_bad (t : Tap) (q : Int) (w : World) (h : t.ok w) (hg : goodK t.p t.ks = false) : Calls Try.prog 74 #[.agg #[.int .i64 t.p, .slice t.a t.n t.c], .int .i64 q] w (MPost w (1, 0, [])) := by
  have hc := fun V (hV : Below w.heap.size w V) => pos_bad t q V (h.below hV) hg
  obtain ⟨p, a, n, c, cs⟩ := t
  simp only at hc ⊢
  have HC := Lib.hid hc
  clear h hg hc
  go_enter Try.func74, Try.ntmps74
  go_wp2_with (go_at_call 78; fail)
  obtain ⟨g1, hg1⟩ : ∃ g1, g1 = w.heap.size + 1 := ⟨_, rfl⟩
  rw [← hg1]
  generalize hW0 : World.alloc _ (.cells #[.int .i64 0, .slice none 0 0] 24) = W0
  obtain ⟨hB0, x0, x1⟩ := two' hW0 hg1
  have hgn : w.heap.size ≤ g1 := by omega
  clear hW0 hg1
  refine (HC.out W0 hB0).mono ?_
  rintro e w1 ⟨rfl, hB1⟩
  have hB01 := hB0.trans (hB1.mono hB0.size)
  have x2 := cells2at x1 hB1
  obtain ⟨z0, z1, zf⟩ := cells2 x2
  obtain ⟨f0, f1⟩ := store2 x2 (.int .i64 0) (.slice none 0 0)
  have HB2 := Lib.hid (below2 hB01 hgn (.int .i64 0) (.slice none 0 0))
  clear hB0 x0 x1 hB1 hB01 x2
  go_wp2
  refine bodyPost_ret (v := .tuple #[.agg #[.int .i64 0, .slice none 0 0], .int .i64 1]) (by simp [results, Try.results74, go_sem, f0, f1]) rfl ?_
  exact MPost.none_ rfl HB2.out

theorem end_bad (t : Tap) (q : Int) (w : World) (h : t.ok w) (hg : goodK t.p t.ks = false) : Calls Try.prog 73 #[.agg #[.int .i64 t.p, .slice t.a t.n t.c], .int .i64 q] w (MPost w (1, 0, [])) := by
  have hc := fun V (hV : Below w.heap.size w V) => pos_bad t q V (h.below hV) hg
  obtain ⟨p, a, n, c, cs⟩ := t
  simp only at hc ⊢
  have HC := Lib.hid hc
  clear h hg hc
  go_enter Try.func73, Try.ntmps73
  go_wp2_with (go_at_call 78; fail)
  obtain ⟨g1, hg1⟩ : ∃ g1, g1 = w.heap.size + 1 := ⟨_, rfl⟩
  rw [← hg1]
  generalize hW0 : World.alloc _ (.cells #[.int .i64 0, .slice none 0 0] 24) = W0
  obtain ⟨hB0, x0, x1⟩ := two' hW0 hg1
  have hgn : w.heap.size ≤ g1 := by omega
  clear hW0 hg1
  refine (HC.out W0 hB0).mono ?_
  rintro e w1 ⟨rfl, hB1⟩
  have hB01 := hB0.trans (hB1.mono hB0.size)
  have x2 := cells2at x1 hB1
  obtain ⟨z0, z1, zf⟩ := cells2 x2
  obtain ⟨f0, f1⟩ := store2 x2 (.int .i64 0) (.slice none 0 0)
  have HB2 := Lib.hid (below2 hB01 hgn (.int .i64 0) (.slice none 0 0))
  clear hB0 x0 x1 hB1 hB01 x2
  go_wp2
  refine bodyPost_ret (v := .tuple #[.agg #[.int .i64 0, .slice none 0 0], .int .i64 1]) (by simp [results, Try.results73, go_sem, f0, f1]) rfl ?_
  exact MPost.none_ rfl HB2.out





end Go.Proofs.Ytmcbmemgeegodaa
