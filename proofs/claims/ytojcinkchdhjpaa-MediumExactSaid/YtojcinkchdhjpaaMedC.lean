/-
  Tapes that may not be: each call refuses them.
-/
import Derived.Test.YtojcinkchdhjpaaMedB
namespace Go.Proofs.Ytojcinkchdhjpaa
open Go.RowKit
set_option linter.unusedVariables false

theorem check_bad (t : Tap) (w : World) (h : t.ok w) (hg : goodK t.p t.ks = false) : Calls Try.prog 21 #[.agg #[.int .i64 t.p, .slice t.a t.n t.c]] w fun e w' => e = .returned (.int .i64 1) ∧ Below w.heap.size w w' := by
  have := check_any t.p t.a t.n t.c t.cs w h.len (Nat.le_trans h.room h.cm) h.cells
  rw [good_keys t.p h.cells, show goodK t.p (keys t.cs) = false from hg] at this
  exact this

theorem pos_bad (t : Tap) (q : Int) (w : World) (h : t.ok w) (hg : goodK t.p t.ks = false) : Calls Try.prog 43 #[.agg #[.int .i64 t.p, .slice t.a t.n t.c], .int .i64 q] w fun e w' => e = .returned (.bool false) ∧ Below w.heap.size w w' := by
  have HB0 := Lib.hid ((Below.refl w.heap.size w).alloc (Nat.le_refl _) (.cells #[.int .i64 t.p, .slice t.a t.n t.c] 24))
  have HC := Lib.hid (check_bad t _ (h.below ((Below.refl w.heap.size w).alloc (Nat.le_refl _) (.cells #[.int .i64 t.p, .slice t.a t.n t.c] 24))) hg)
  obtain ⟨p, a, n, c, cs⟩ := t
  simp only at HB0 HC ⊢
  clear h hg
  go_enter Try.func43, Try.ntmps43
  go_wp2_with (go_at_call 21; refine HC.out.mono ?_; rintro e w1 ⟨rfl, hB1⟩; have HB1 := Lib.hid (HB0.out.trans (hB1.mono HB0.out.size)); clear hB1)
  go_ret
  exact ⟨rfl, HB1.out⟩

theorem files_bad (t : Tap) (w : World) (h : t.ok w) (hg : goodK t.p t.ks = false) : Calls Try.prog 24 #[.agg #[.int .i64 t.p, .slice t.a t.n t.c]] w fun e w' => e = .returned (.int .i64 0) ∧ Below w.heap.size w w' := by
  have HB0 := Lib.hid ((Below.refl w.heap.size w).alloc (Nat.le_refl _) (.cells #[.int .i64 t.p, .slice t.a t.n t.c] 24))
  have HC := Lib.hid (check_bad t _ (h.below ((Below.refl w.heap.size w).alloc (Nat.le_refl _) (.cells #[.int .i64 t.p, .slice t.a t.n t.c] 24))) hg)
  obtain ⟨p, a, n, c, cs⟩ := t
  simp only at HB0 HC ⊢
  clear h hg
  go_enter Try.func24, Try.ntmps24
  go_wp2_with (go_at_call 21; refine HC.out.mono ?_; rintro e w1 ⟨rfl, hB1⟩; have HB1 := Lib.hid (HB0.out.trans (hB1.mono HB0.out.size)); clear hB1)
  go_ret
  exact ⟨rfl, HB1.out⟩

theorem file_bad (t : Tap) (q : Int) (w : World) (h : t.ok w) (hg : goodK t.p t.ks = false) : Calls Try.prog 18 #[.agg #[.int .i64 t.p, .slice t.a t.n t.c], .int .i64 q] w fun e w' => e = .returned (.tuple #[.int .i64 0, .int .i64 1]) ∧ Below w.heap.size w w' := by
  have HB0 := Lib.hid ((Below.refl w.heap.size w).alloc (Nat.le_refl _) (.cells #[.int .i64 t.p, .slice t.a t.n t.c] 24))
  have HC := Lib.hid (check_bad t _ (h.below ((Below.refl w.heap.size w).alloc (Nat.le_refl _) (.cells #[.int .i64 t.p, .slice t.a t.n t.c] 24))) hg)
  obtain ⟨p, a, n, c, cs⟩ := t
  simp only at HB0 HC ⊢
  clear h hg
  go_enter Try.func18, Try.ntmps18
  go_wp2_with (go_at_call 21; refine HC.out.mono ?_; rintro e w1 ⟨rfl, hB1⟩; have HB1 := Lib.hid (HB0.out.trans (hB1.mono HB0.out.size)); clear hB1)
  go_ret2
  exact ⟨rfl, HB1.out⟩

theorem read_bad (t : Tap) (q : Int) (w : World) (h : t.ok w) (hg : goodK t.p t.ks = false) : Calls Try.prog 17 #[.agg #[.int .i64 t.p, .slice t.a t.n t.c], .int .i64 q] w fun e w' => e = .returned (.tuple #[.slice none 0 0, .int .i64 1]) ∧ Below w.heap.size w w' := by
  have HB0 := Lib.hid ((Below.refl w.heap.size w).alloc (Nat.le_refl _) (.cells #[.int .i64 t.p, .slice t.a t.n t.c] 24))
  have HC := Lib.hid (check_bad t _ (h.below ((Below.refl w.heap.size w).alloc (Nat.le_refl _) (.cells #[.int .i64 t.p, .slice t.a t.n t.c] 24))) hg)
  obtain ⟨p, a, n, c, cs⟩ := t
  simp only at HB0 HC ⊢
  clear h hg
  go_enter Try.func17, Try.ntmps17
  go_wp2_with (go_at_call 21; refine HC.out.mono ?_; rintro e w1 ⟨rfl, hB1⟩; have HB1 := Lib.hid (HB0.out.trans (hB1.mono HB0.out.size)); clear hB1)
  go_ret2
  exact ⟨rfl, HB1.out⟩

theorem cw_bad (t : Tap) (q : Int) (bo : Option Addr) (m mc : Nat) (w : World) (h : t.ok w) (hg : goodK t.p t.ks = false) : Calls Try.prog 39 #[.agg #[.int .i64 t.p, .slice t.a t.n t.c], .int .i64 q, .slice bo m mc] w fun e w' => e = .returned (.int .i64 1) ∧ Below w.heap.size w w' := by
  have HB0 := Lib.hid ((Below.refl w.heap.size w).alloc (Nat.le_refl _) (.cells #[.int .i64 t.p, .slice t.a t.n t.c] 24))
  have HC := Lib.hid (pos_bad t q _ (h.below ((Below.refl w.heap.size w).alloc (Nat.le_refl _) (.cells #[.int .i64 t.p, .slice t.a t.n t.c] 24))) hg)
  obtain ⟨p, a, n, c, cs⟩ := t
  simp only at HB0 HC ⊢
  clear h hg
  go_enter Try.func39, Try.ntmps39
  go_wp2_with (go_at_call 43; refine HC.out.mono ?_; rintro e w1 ⟨rfl, hB1⟩; have HB1 := Lib.hid (HB0.out.trans (hB1.mono HB0.out.size)); clear hB1)
  go_ret
  exact ⟨rfl, HB1.out⟩

theorem write_bad (t : Tap) (q : Int) (bo : Option Addr) (m mc : Nat) (w : World) (h : t.ok w) (hg : goodK t.p t.ks = false) : Calls Try.prog 13 #[.agg #[.int .i64 t.p, .slice t.a t.n t.c], .int .i64 q, .slice bo m mc] w (MPost w (1, 0, [])) := by
  have hc := fun V (hV : Below w.heap.size w V) => cw_bad t q bo m mc V (h.below hV) hg
  obtain ⟨p, a, n, c, cs⟩ := t
  simp only at hc ⊢
  have HC := Lib.hid hc
  clear h hg hc
  go_enter Try.func13, Try.ntmps13
  go_wp2_with (go_at_call 39; fail)
  obtain ⟨g1, hg1⟩ : ∃ g1, g1 = w.heap.size + 1 := ⟨_, rfl⟩
  rw [← hg1]
  generalize hW0 : World.alloc _ (.cells #[.int .i64 0, .slice none 0 0] 24) = W0
  obtain ⟨hB0, x0, x1⟩ := two' hW0 hg1
  have hgn : w.heap.size ≤ g1 := by omega
  clear hW0 hg1
  refine (HC.out W0 hB0).mono ?_
  rintro e w1 ⟨rfl, hB1⟩
  have hB01 := hB0.trans (hB1.mono hB0.size)
  have x2 := cells2at x1 hB1
  obtain ⟨z0, z1, zf⟩ := cells2 x2
  obtain ⟨f0, f1⟩ := store2 x2 (.int .i64 0) (.slice none 0 0)
  have HB2 := Lib.hid (below2 hB01 hgn (.int .i64 0) (.slice none 0 0))
  clear hB0 x0 x1 hB1 hB01 x2
  go_wp2
  refine bodyPost_ret (v := .tuple #[.agg #[.int .i64 0, .slice none 0 0], .int .i64 1]) (by simp [results, Try.results13, go_sem, f0, f1]) rfl ?_
  exact MPost.none_ rfl HB2.out

theorem tear_bad (t : Tap) (q : Int) (bo : Option Addr) (m mc : Nat) (keep : Int) (w : World) (h : t.ok w) (hg : goodK t.p t.ks = false) : Calls Try.prog 14 #[.agg #[.int .i64 t.p, .slice t.a t.n t.c], .int .i64 q, .slice bo m mc, .int .i64 keep] w (MPost w (1, 0, [])) := by
  have hc := fun V (hV : Below w.heap.size w V) => cw_bad t q bo m mc V (h.below hV) hg
  obtain ⟨p, a, n, c, cs⟩ := t
  simp only at hc ⊢
  have HC := Lib.hid hc
  clear h hg hc
  go_enter Try.func14, Try.ntmps14
  go_wp2_with (go_at_call 39; fail)
  obtain ⟨g1, hg1⟩ : ∃ g1, g1 = w.heap.size + 1 := ⟨_, rfl⟩
  rw [← hg1]
  generalize hW0 : World.alloc _ (.cells #[.int .i64 0, .slice none 0 0] 24) = W0
  obtain ⟨hB0, x0, x1⟩ := two' hW0 hg1
  have hgn : w.heap.size ≤ g1 := by omega
  clear hW0 hg1
  refine (HC.out W0 hB0).mono ?_
  rintro e w1 ⟨rfl, hB1⟩
  have hB01 := hB0.trans (hB1.mono hB0.size)
  have x2 := cells2at x1 hB1
  obtain ⟨z0, z1, zf⟩ := cells2 x2
  obtain ⟨f0, f1⟩ := store2 x2 (.int .i64 0) (.slice none 0 0)
  have HB2 := Lib.hid (below2 hB01 hgn (.int .i64 0) (.slice none 0 0))
  clear hB0 x0 x1 hB1 hB01 x2
  go_wp2
  refine bodyPost_ret (v := .tuple #[.agg #[.int .i64 0, .slice none 0 0], .int .i64 1]) (by simp [results, Try.results14, go_sem, f0, f1]) rfl ?_
  exact MPost.none_ rfl HB2.out

theorem mark_bad (t : Tap) (q : Int) (w : World) (h : t.ok w) (hg : goodK t.p t.ks = false) : Calls Try.prog 15 #[.agg #[.int .i64 t.p, .slice t.a t.n t.c], .int .i64 q] w (MPost w (1, 0, [])) := by
  have hc := fun V (hV : Below w.heap.size w V) => pos_bad t q V (h.below hV) hg
  obtain ⟨p, a, n, c, cs⟩ := t
  simp only at hc ⊢
  have HC := Lib.hid hc
  clear h hg hc
  go_enter Try.func15, Try.ntmps15
  go_wp2_with (go_at_call 43; fail)
  obtain ⟨g1, hg1⟩ : ∃ g1, g1 = w.heap.size + 1 := ⟨_, rfl⟩
  rw [← hg1]
  generalize hW0 : World.alloc _ (.cells #[.int .i64 0, .slice none 0 0] 24) = W0
  obtain ⟨hB0, x0, x1⟩ := two' hW0 hg1
  have hgn : w.heap.size ≤ g1 := by omega
  clear hW0 hg1
  refine (HC.out W0 hB0).mono ?_
  rintro e w1 ⟨rfl, hB1⟩
  have hB01 := hB0.trans (hB1.mono hB0.size)
  have x2 := cells2at x1 hB1
  obtain ⟨z0, z1, zf⟩ := cells2 x2
  obtain ⟨f0, f1⟩ := store2 x2 (.int .i64 0) (.slice none 0 0)
  have HB2 := Lib.hid (below2 hB01 hgn (.int .i64 0) (.slice none 0 0))
  clear hB0 x0 x1 hB1 hB01 x2
  go_wp2
  refine bodyPost_ret (v := .tuple #[.agg #[.int .i64 0, .slice none 0 0], .int .i64 1]) (by simp [results, Try.results15, go_sem, f0, f1]) rfl ?_
  exact MPost.none_ rfl HB2.out

theorem end_bad (t : Tap) (q : Int) (w : World) (h : t.ok w) (hg : goodK t.p t.ks = false) : Calls Try.prog 16 #[.agg #[.int .i64 t.p, .slice t.a t.n t.c], .int .i64 q] w (MPost w (1, 0, [])) := by
  have hc := fun V (hV : Below w.heap.size w V) => pos_bad t q V (h.below hV) hg
  obtain ⟨p, a, n, c, cs⟩ := t
  simp only at hc ⊢
  have HC := Lib.hid hc
  clear h hg hc
  go_enter Try.func16, Try.ntmps16
  go_wp2_with (go_at_call 43; fail)
  obtain ⟨g1, hg1⟩ : ∃ g1, g1 = w.heap.size + 1 := ⟨_, rfl⟩
  rw [← hg1]
  generalize hW0 : World.alloc _ (.cells #[.int .i64 0, .slice none 0 0] 24) = W0
  obtain ⟨hB0, x0, x1⟩ := two' hW0 hg1
  have hgn : w.heap.size ≤ g1 := by omega
  clear hW0 hg1
  refine (HC.out W0 hB0).mono ?_
  rintro e w1 ⟨rfl, hB1⟩
  have hB01 := hB0.trans (hB1.mono hB0.size)
  have x2 := cells2at x1 hB1
  obtain ⟨z0, z1, zf⟩ := cells2 x2
  obtain ⟨f0, f1⟩ := store2 x2 (.int .i64 0) (.slice none 0 0)
  have HB2 := Lib.hid (below2 hB01 hgn (.int .i64 0) (.slice none 0 0))
  clear hB0 x0 x1 hB1 hB01 x2
  go_wp2
  refine bodyPost_ret (v := .tuple #[.agg #[.int .i64 0, .slice none 0 0], .int .i64 1]) (by simp [results, Try.results16, go_sem, f0, f1]) rfl ?_
  exact MPost.none_ rfl HB2.out

theorem spoil_bad (t : Tap) (q : Int) (w : World) (h : t.ok w) (hg : goodK t.p t.ks = false) : Calls Try.prog 19 #[.agg #[.int .i64 t.p, .slice t.a t.n t.c], .int .i64 q] w (MPost w (1, 0, [])) := by
  have hc := fun V (hV : Below w.heap.size w V) => check_bad t  V (h.below hV) hg
  obtain ⟨p, a, n, c, cs⟩ := t
  simp only at hc ⊢
  have HC := Lib.hid hc
  clear h hg hc
  go_enter Try.func19, Try.ntmps19
  go_wp2_with (go_at_call 21; fail)
  obtain ⟨g1, hg1⟩ : ∃ g1, g1 = w.heap.size + 1 := ⟨_, rfl⟩
  rw [← hg1]
  generalize hW0 : World.alloc _ (.cells #[.int .i64 0, .slice none 0 0] 24) = W0
  obtain ⟨hB0, x0, x1⟩ := two' hW0 hg1
  have hgn : w.heap.size ≤ g1 := by omega
  clear hW0 hg1
  refine (HC.out W0 hB0).mono ?_
  rintro e w1 ⟨rfl, hB1⟩
  have hB01 := hB0.trans (hB1.mono hB0.size)
  have x2 := cells2at x1 hB1
  obtain ⟨z0, z1, zf⟩ := cells2 x2
  obtain ⟨f0, f1⟩ := store2 x2 (.int .i64 0) (.slice none 0 0)
  have HB2 := Lib.hid (below2 hB01 hgn (.int .i64 0) (.slice none 0 0))
  clear hB0 x0 x1 hB1 hB01 x2
  go_wp2
  refine bodyPost_ret (v := .tuple #[.agg #[.int .i64 0, .slice none 0 0], .int .i64 1]) (by simp [results, Try.results19, go_sem, f0, f1]) rfl ?_
  exact MPost.none_ rfl HB2.out

theorem flip_bad (t : Tap) (q bit : Int) (w : World) (h : t.ok w) (hg : goodK t.p t.ks = false) : Calls Try.prog 20 #[.agg #[.int .i64 t.p, .slice t.a t.n t.c], .int .i64 q, .int .i64 bit] w (MPost w (1, 0, [])) := by
  have hc := fun V (hV : Below w.heap.size w V) => check_bad t  V (h.below hV) hg
  obtain ⟨p, a, n, c, cs⟩ := t
  simp only at hc ⊢
  have HC := Lib.hid hc
  clear h hg hc
  go_enter Try.func20, Try.ntmps20
  go_wp2_with (go_at_call 21; fail)
  obtain ⟨g1, hg1⟩ : ∃ g1, g1 = w.heap.size + 1 := ⟨_, rfl⟩
  rw [← hg1]
  generalize hW0 : World.alloc _ (.cells #[.int .i64 0, .slice none 0 0] 24) = W0
  obtain ⟨hB0, x0, x1⟩ := two' hW0 hg1
  have hgn : w.heap.size ≤ g1 := by omega
  clear hW0 hg1
  refine (HC.out W0 hB0).mono ?_
  rintro e w1 ⟨rfl, hB1⟩
  have hB01 := hB0.trans (hB1.mono hB0.size)
  have x2 := cells2at x1 hB1
  obtain ⟨z0, z1, zf⟩ := cells2 x2
  obtain ⟨f0, f1⟩ := store2 x2 (.int .i64 0) (.slice none 0 0)
  have HB2 := Lib.hid (below2 hB01 hgn (.int .i64 0) (.slice none 0 0))
  clear hB0 x0 x1 hB1 hB01 x2
  go_wp2
  refine bodyPost_ret (v := .tuple #[.agg #[.int .i64 0, .slice none 0 0], .int .i64 1]) (by simp [results, Try.results20, go_sem, f0, f1]) rfl ?_
  exact MPost.none_ rfl HB2.out

end Go.Proofs.Ytojcinkchdhjpaa
