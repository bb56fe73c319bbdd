/-
  The drive's reel: the tape's functions as methods.
-/
import Derived.Test.YtmcbmemgeegodaaMedA
import Derived.Test.YtmcbmemgeegodaaMedC
namespace Go.Proofs.Ytmcbmemgeegodaa
open Go.RowKit
set_option linter.unusedVariables false

/-- What leaves a reel. -/
def RPost (w : World) (r : Int × Int × List Key) (e : Ending) (w' : World) : Prop :=
  ∃ ko n kc cs, e = .returned (.tuple #[.agg #[.int .i64 r.2.1, .slice ko n kc], .int .i64 r.1]) ∧ OCs w' w.heap.size ko n kc cs ∧ keys cs = r.2.2 ∧ Below w.heap.size w w'

set_option maxHeartbeats 2000000 in
theorem rl_mark (t : Tap) (q : Int) (w : World) (h : t.ok w) (hg : goodK t.p t.ks = true) : Calls Try.prog 50 #[.agg #[.int .i64 t.p, .slice t.a t.n t.c], .int .i64 q] w (RPost w (markK t.p t.ks q)) := by
  have hc : ∀ V, Below w.heap.size w V → Calls Try.prog 74 #[.agg #[.int .i64 t.p, .slice t.a t.n t.c], .int .i64 q] V (MPost V (markK t.p t.ks q)) := fun V hV => mark_any t q V (h.below hV) hg
  obtain ⟨r, hr⟩ : ∃ r, r = markK t.p t.ks q := ⟨_, rfl⟩
  rw [← hr] at hc ⊢
  obtain ⟨er, p', ks'⟩ := r
  obtain ⟨p, a, n, c, cs⟩ := t
  simp only at hc ⊢
  have HC := Lib.hid hc
  clear h hg hc hr
  obtain ⟨_, xx, _⟩ := two' (rfl : (w.alloc (.cells #[.int .i64 p, .slice a n c] 82)).alloc (.cells #[.int .i64 0, .slice none 0 0] 82) = _) rfl
  obtain ⟨k0, k1, _⟩ := cells2 xx
  clear xx
  go_enter Try.func50, Try.ntmps50
  go_wp2_with (go_at_call 74; fail)
  clear k0 k1
  obtain ⟨g1, hg1⟩ : ∃ g1, g1 = w.heap.size + 1 := ⟨_, rfl⟩
  rw [← hg1]
  generalize hW0 : World.alloc _ (.cells #[.int .i64 0, .slice none 0 0] 82) = W0
  obtain ⟨hB0, x0, x1⟩ := two' hW0 hg1
  have hgn : w.heap.size ≤ g1 := by omega
  clear hW0 hg1
  refine (HC.out W0 hB0).mono ?_
  intro e w1 hm
  obtain ⟨ko, n', kc, cs', rfl, hO, hk, hB1⟩ := hm.elim
  have hal : Below w1.heap.size w1 (w1.alloc (.cells #[.int .i64 p', .slice ko n' kc] 24)) := (Below.refl _ _).alloc (Nat.le_refl _) _
  have x2 := cells2at (cells2at x1 hB1) hal
  obtain ⟨z0, z1, zf⟩ := cells2 x2
  obtain ⟨y0, y1, yf⟩ := cells2 (new_cell (w := w1) (.int .i64 p') (.slice ko n' kc) 24)
  obtain ⟨f0, f1⟩ := store2 x2 (.int .i64 p') (.slice ko n' kc)
  have HO := Lib.hid (((hO.low hB0.size).below hal).set2 x2 (.int .i64 p') (.slice ko n' kc) (by decide) (by decide)); have HK := Lib.hid hk
  have HB2 := Lib.hid (below2 ((hB0.trans (hB1.mono hB0.size)).trans (hal.mono (Nat.le_trans hB0.size hB1.size))) hgn (.int .i64 p') (.slice ko n' kc))
  clear hO hk hB1 hal x0 x1 x2 hB0 hm HC
  go_wp2
  refine bodyPost_ret (v := .tuple #[.agg #[.int .i64 p', .slice ko n' kc], .int .i64 er]) (by simp [results, Try.results50, go_sem, f0, f1]) rfl ?_
  exact ⟨ko, n', kc, cs', rfl, HO.out, HK.out, HB2.out⟩

set_option maxHeartbeats 2000000 in
theorem rl_end (t : Tap) (q : Int) (w : World) (h : t.ok w) (hg : goodK t.p t.ks = true) : Calls Try.prog 54 #[.agg #[.int .i64 t.p, .slice t.a t.n t.c], .int .i64 q] w (RPost w (endK t.p t.ks q)) := by
  have hc : ∀ V, Below w.heap.size w V → Calls Try.prog 73 #[.agg #[.int .i64 t.p, .slice t.a t.n t.c], .int .i64 q] V (MPost V (endK t.p t.ks q)) := fun V hV => end_any t q V (h.below hV) hg
  obtain ⟨r, hr⟩ : ∃ r, r = endK t.p t.ks q := ⟨_, rfl⟩
  rw [← hr] at hc ⊢
  obtain ⟨er, p', ks'⟩ := r
  obtain ⟨p, a, n, c, cs⟩ := t
  simp only at hc ⊢
  have HC := Lib.hid hc
  clear h hg hc hr
  obtain ⟨_, xx, _⟩ := two' (rfl : (w.alloc (.cells #[.int .i64 p, .slice a n c] 82)).alloc (.cells #[.int .i64 0, .slice none 0 0] 82) = _) rfl
  obtain ⟨k0, k1, _⟩ := cells2 xx
  clear xx
  go_enter Try.func54, Try.ntmps54
  go_wp2_with (go_at_call 73; fail)
  clear k0 k1
  obtain ⟨g1, hg1⟩ : ∃ g1, g1 = w.heap.size + 1 := ⟨_, rfl⟩
  rw [← hg1]
  generalize hW0 : World.alloc _ (.cells #[.int .i64 0, .slice none 0 0] 82) = W0
  obtain ⟨hB0, x0, x1⟩ := two' hW0 hg1
  have hgn : w.heap.size ≤ g1 := by omega
  clear hW0 hg1
  refine (HC.out W0 hB0).mono ?_
  intro e w1 hm
  obtain ⟨ko, n', kc, cs', rfl, hO, hk, hB1⟩ := hm.elim
  have hal : Below w1.heap.size w1 (w1.alloc (.cells #[.int .i64 p', .slice ko n' kc] 24)) := (Below.refl _ _).alloc (Nat.le_refl _) _
  have x2 := cells2at (cells2at x1 hB1) hal
  obtain ⟨z0, z1, zf⟩ := cells2 x2
  obtain ⟨y0, y1, yf⟩ := cells2 (new_cell (w := w1) (.int .i64 p') (.slice ko n' kc) 24)
  obtain ⟨f0, f1⟩ := store2 x2 (.int .i64 p') (.slice ko n' kc)
  have HO := Lib.hid (((hO.low hB0.size).below hal).set2 x2 (.int .i64 p') (.slice ko n' kc) (by decide) (by decide)); have HK := Lib.hid hk
  have HB2 := Lib.hid (below2 ((hB0.trans (hB1.mono hB0.size)).trans (hal.mono (Nat.le_trans hB0.size hB1.size))) hgn (.int .i64 p') (.slice ko n' kc))
  clear hO hk hB1 hal x0 x1 x2 hB0 hm HC
  go_wp2
  refine bodyPost_ret (v := .tuple #[.agg #[.int .i64 p', .slice ko n' kc], .int .i64 er]) (by simp [results, Try.results54, go_sem, f0, f1]) rfl ?_
  exact ⟨ko, n', kc, cs', rfl, HO.out, HK.out, HB2.out⟩

set_option maxHeartbeats 2000000 in
theorem rl_write (t : Tap) (q : Int) (d : Part) (w : World) (h : t.ok w) (hg : goodK t.p t.ks = true) (hd : d.ok w) : Calls Try.prog 62 #[.agg #[.int .i64 t.p, .slice t.a t.n t.c], .int .i64 q, .slice d.a d.l d.c] w (RPost w (writeK t.p t.ks q d.z)) := by
  have hc : ∀ V, Below w.heap.size w V → Calls Try.prog 44 #[.agg #[.int .i64 t.p, .slice t.a t.n t.c], .int .i64 q, .slice d.a d.l d.c] V (MPost V (writeK t.p t.ks q d.z)) := fun V hV => write_any t q d V (h.below hV) hg (hd.below hV)
  obtain ⟨r, hr⟩ : ∃ r, r = writeK t.p t.ks q d.z := ⟨_, rfl⟩
  rw [← hr] at hc ⊢
  obtain ⟨er, p', ks'⟩ := r
  obtain ⟨p, a, n, c, cs⟩ := t
  simp only at hc ⊢
  have HC := Lib.hid hc
  clear h hg hc hr
  obtain ⟨_, xx, _⟩ := two' (rfl : (w.alloc (.cells #[.int .i64 p, .slice a n c] 82)).alloc (.cells #[.int .i64 0, .slice none 0 0] 82) = _) rfl
  obtain ⟨k0, k1, _⟩ := cells2 xx
  clear xx
  go_enter Try.func62, Try.ntmps62
  go_wp2_with (go_at_call 44; fail)
  clear k0 k1
  obtain ⟨g1, hg1⟩ : ∃ g1, g1 = w.heap.size + 1 := ⟨_, rfl⟩
  rw [← hg1]
  generalize hW0 : World.alloc _ (.cells #[.int .i64 0, .slice none 0 0] 82) = W0
  obtain ⟨hB0, x0, x1⟩ := two' hW0 hg1
  have hgn : w.heap.size ≤ g1 := by omega
  clear hW0 hg1
  refine (HC.out W0 hB0).mono ?_
  intro e w1 hm
  obtain ⟨ko, n', kc, cs', rfl, hO, hk, hB1⟩ := hm.elim
  have hal : Below w1.heap.size w1 (w1.alloc (.cells #[.int .i64 p', .slice ko n' kc] 24)) := (Below.refl _ _).alloc (Nat.le_refl _) _
  have x2 := cells2at (cells2at x1 hB1) hal
  obtain ⟨z0, z1, zf⟩ := cells2 x2
  obtain ⟨y0, y1, yf⟩ := cells2 (new_cell (w := w1) (.int .i64 p') (.slice ko n' kc) 24)
  obtain ⟨f0, f1⟩ := store2 x2 (.int .i64 p') (.slice ko n' kc)
  have HO := Lib.hid (((hO.low hB0.size).below hal).set2 x2 (.int .i64 p') (.slice ko n' kc) (by decide) (by decide)); have HK := Lib.hid hk
  have HB2 := Lib.hid (below2 ((hB0.trans (hB1.mono hB0.size)).trans (hal.mono (Nat.le_trans hB0.size hB1.size))) hgn (.int .i64 p') (.slice ko n' kc))
  clear hO hk hB1 hal x0 x1 x2 hB0 hm HC
  go_wp2
  refine bodyPost_ret (v := .tuple #[.agg #[.int .i64 p', .slice ko n' kc], .int .i64 er]) (by simp [results, Try.results62, go_sem, f0, f1]) rfl ?_
  exact ⟨ko, n', kc, cs', rfl, HO.out, HK.out, HB2.out⟩

set_option maxHeartbeats 2000000 in
theorem rl_tear (t : Tap) (q : Int) (d : Part) (keep : Int) (w : World) (h : t.ok w) (hg : goodK t.p t.ks = true) (hd : d.ok w) : Calls Try.prog 64 #[.agg #[.int .i64 t.p, .slice t.a t.n t.c], .int .i64 q, .slice d.a d.l d.c, .int .i64 keep] w (RPost w (tearK t.p t.ks q d.z keep)) := by
  have hc : ∀ V, Below w.heap.size w V → Calls Try.prog 76 #[.agg #[.int .i64 t.p, .slice t.a t.n t.c], .int .i64 q, .slice d.a d.l d.c, .int .i64 keep] V (MPost V (tearK t.p t.ks q d.z keep)) := fun V hV => tear_any t q d keep V (h.below hV) hg (hd.below hV)
  obtain ⟨r, hr⟩ : ∃ r, r = tearK t.p t.ks q d.z keep := ⟨_, rfl⟩
  rw [← hr] at hc ⊢
  obtain ⟨er, p', ks'⟩ := r
  obtain ⟨p, a, n, c, cs⟩ := t
  simp only at hc ⊢
  have HC := Lib.hid hc
  clear h hg hc hr
  obtain ⟨_, xx, _⟩ := two' (rfl : (w.alloc (.cells #[.int .i64 p, .slice a n c] 82)).alloc (.cells #[.int .i64 0, .slice none 0 0] 82) = _) rfl
  obtain ⟨k0, k1, _⟩ := cells2 xx
  clear xx
  go_enter Try.func64, Try.ntmps64
  go_wp2_with (go_at_call 76; fail)
  clear k0 k1
  obtain ⟨g1, hg1⟩ : ∃ g1, g1 = w.heap.size + 1 := ⟨_, rfl⟩
  rw [← hg1]
  generalize hW0 : World.alloc _ (.cells #[.int .i64 0, .slice none 0 0] 82) = W0
  obtain ⟨hB0, x0, x1⟩ := two' hW0 hg1
  have hgn : w.heap.size ≤ g1 := by omega
  clear hW0 hg1
  refine (HC.out W0 hB0).mono ?_
  intro e w1 hm
  obtain ⟨ko, n', kc, cs', rfl, hO, hk, hB1⟩ := hm.elim
  have hal : Below w1.heap.size w1 (w1.alloc (.cells #[.int .i64 p', .slice ko n' kc] 24)) := (Below.refl _ _).alloc (Nat.le_refl _) _
  have x2 := cells2at (cells2at x1 hB1) hal
  obtain ⟨z0, z1, zf⟩ := cells2 x2
  obtain ⟨y0, y1, yf⟩ := cells2 (new_cell (w := w1) (.int .i64 p') (.slice ko n' kc) 24)
  obtain ⟨f0, f1⟩ := store2 x2 (.int .i64 p') (.slice ko n' kc)
  have HO := Lib.hid (((hO.low hB0.size).below hal).set2 x2 (.int .i64 p') (.slice ko n' kc) (by decide) (by decide)); have HK := Lib.hid hk
  have HB2 := Lib.hid (below2 ((hB0.trans (hB1.mono hB0.size)).trans (hal.mono (Nat.le_trans hB0.size hB1.size))) hgn (.int .i64 p') (.slice ko n' kc))
  clear hO hk hB1 hal x0 x1 x2 hB0 hm HC
  go_wp2
  refine bodyPost_ret (v := .tuple #[.agg #[.int .i64 p', .slice ko n' kc], .int .i64 er]) (by simp [results, Try.results64, go_sem, f0, f1]) rfl ?_
  exact ⟨ko, n', kc, cs', rfl, HO.out, HK.out, HB2.out⟩

theorem rl_check (t : Tap) (w : World) (h : t.ok w) : Calls Try.prog 45 #[.agg #[.int .i64 t.p, .slice t.a t.n t.c]] w fun e w' => e = .returned (.int .i64 (if goodK t.p t.ks = true then 0 else 1)) ∧ Below w.heap.size w w' := by
  have hc : ∀ V, Below w.heap.size w V → Calls Try.prog 68 #[.agg #[.int .i64 t.p, .slice t.a t.n t.c]] V fun e w' => e = .returned (.int .i64 (if goodK t.p t.ks = true then 0 else 1)) ∧ Below V.heap.size V w' := fun V hV => by
    by_cases hg : goodK t.p t.ks = true
    · rw [if_pos hg]; exact check_ok t V (h.below hV) hg
    · rw [if_neg hg]; exact check_bad t V (h.below hV) (by simpa using hg)
  obtain ⟨er, her⟩ : ∃ er : Int, er = if goodK t.p t.ks = true then 0 else 1 := ⟨_, rfl⟩
  rw [← her] at hc ⊢
  obtain ⟨p, a, n, c, cs⟩ := t
  simp only at hc ⊢
  have HC := Lib.hid hc
  have HB0 := Lib.hid (((Below.refl w.heap.size w).alloc (Nat.le_refl _) (.cells #[.int .i64 p, .slice a n c] 82)))
  clear h hc her
  go_enter Try.func45, Try.ntmps45
  go_wp2_with (go_at_call 68; refine (HC.out _ HB0.out).mono ?_; rintro e w1 ⟨rfl, hB1⟩; have HB1 := Lib.hid (HB0.out.trans (hB1.mono HB0.out.size)); clear hB1)
  go_ret
  exact ⟨rfl, HB1.out⟩
theorem rl_cells (p : Int) (a : Option Addr) (n c : Nat) (w : World) : Calls Try.prog 57 #[.agg #[.int .i64 p, .slice a n c]] w fun e w' => e = .returned (.int .i64 n) ∧ Below w.heap.size w w' := by
  go_enter Try.func57, Try.ntmps57
  go_wp2
  go_ret
  exact ⟨rfl, (Below.refl _ _).alloc (Nat.le_refl _) _⟩
theorem rl_read (t : Tap) (q : Int) (w : World) (h : t.ok w) (hg : goodK t.p t.ks = true) : Calls Try.prog 48 #[.agg #[.int .i64 t.p, .slice t.a t.n t.c], .int .i64 q] w (ReadPost w (rd t.ks q)) := by
  have hc : ∀ V, Below w.heap.size w V → Calls Try.prog 42 #[.agg #[.int .i64 t.p, .slice t.a t.n t.c], .int .i64 q] V (ReadPost V (rd t.ks q)) := fun V hV => read_any t q V (h.below hV) hg
  obtain ⟨r, hr⟩ : ∃ r, r = rd t.ks q := ⟨_, rfl⟩
  rw [← hr] at hc ⊢
  obtain ⟨p, a, n, c, cs⟩ := t
  simp only at hc ⊢
  have HC := Lib.hid hc
  have HB0 := Lib.hid (((Below.refl w.heap.size w).alloc (Nat.le_refl _) (.cells #[.int .i64 p, .slice a n c] 82)))
  clear h hg hc hr
  go_enter Try.func48, Try.ntmps48
  go_wp2_with (go_at_call 42; fail)
  refine (HC.out _ HB0.out).mono ?_
  intro e w1 hp
  obtain ⟨ko, kc, rfl, ho, hB1⟩ := hp
  have HO := Lib.hid (own_low ho HB0.out.size); have HB1 := Lib.hid (HB0.out.trans (hB1.mono HB0.out.size))
  clear ho hB1
  go_wp2
  go_ret2
  exact ⟨ko, kc, rfl, HO.out, HB1.out⟩

end Go.Proofs.Ytmcbmemgeegodaa
