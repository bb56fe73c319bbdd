/-
  Tapes: Tear, Spoil.
-/
import Derived.Test.YtojcinkchdhjpaaMed9
namespace Go.Proofs.Ytojcinkchdhjpaa
open Go.RowKit
set_option linter.unusedVariables false

theorem run_min (ats : Array TypeId) (t : TypeId) (x y : Int) (W : World) : (Builtin.min_ ats t #[.int .i64 x, .int .i64 y]).run Try.prog W = .ok (.int .i64 (min x y)) W := by
  by_cases h : y < x
  · have : min x y = y := by omega
    rw [this]
    simp [Builtin.min_, Builtin.min2, h, go_sem]
  · have : min x y = x := by omega
    rw [this]
    simp [Builtin.min_, Builtin.min2, h, go_sem]
set_option maxHeartbeats 4000000 in
/-- TEAR, of a right tape. -/
theorem tear_any (t : Tap) (q : Int) (d : Part) (keep : Int) (w : World) (h : t.ok w) (hg : goodK t.p t.ks = true) (hd : d.ok w) : Calls Try.prog 14 #[.agg #[.int .i64 t.p, .slice t.a t.n t.c], .int .i64 q, .slice d.a d.l d.c, .int .i64 keep] w (MPost w (tearK t.p t.ks q d.z keep)) := by
  obtain ⟨s1, s2, s3, s4, s5, s6⟩ := h.sizes hg
  have hcw := fun V (hV : Below w.heap.size w V) => cw_any t q d.a d.l d.c V (h.below hV) hg hd.small
  obtain ⟨r, hr⟩ : ∃ r, r = tearK t.p t.ks q d.z keep := ⟨_, rfl⟩
  rw [← hr]
  unfold tearK at hr
  rw [s5, hd.len] at hr
  by_cases hce : ce t.p t.n q d.l = 0
  · rw [if_pos hce] at hr
    rw [hce] at hcw
    obtain ⟨q1, q2, q3, q4, q5⟩ := ce_ok hce
    obtain ⟨k, rfl⟩ : ∃ k : Nat, q = k := ⟨q.toNat, by omega⟩
    rw [Int.toNat_natCast] at hr
    by_cases hkp : keep < 0
    · have d1 : decide (keep < 0) = true := decide_eq_true hkp
      rw [if_pos hkp] at hr
      have hfi := fun V (hV : Below w.heap.size w V) => first_any t t.n V (h.below hV) s6 (Nat.le_refl _) (by omega)
      have htk : t.ks.take t.n = t.ks := List.take_of_length_le (by rw [s5]; exact Nat.le_refl _)
      rw [htk] at hfi
      obtain ⟨p, a, n, c, cs⟩ := t
      obtain ⟨da, dl, dc, dz⟩ := d
      simp only [Tap.ks] at hcw hfi hr ⊢
      have HC := Lib.hid hcw; have HF := Lib.hid hfi; have HR := Lib.hid hr
      clear h hg hd s1 s2 s3 s4 s5 s6 hcw hfi hr hce q1 q2 q3 q4 q5 htk hkp
      go_enter Try.func14, Try.ntmps14
      go_wp2_with (go_at_call 39; fail)
      obtain ⟨g1, hg1⟩ : ∃ g1, g1 = w.heap.size + 1 := ⟨_, rfl⟩
      rw [← hg1]
      generalize hW0 : World.alloc _ (.cells #[.int .i64 0, .slice none 0 0] 24) = W0
      obtain ⟨hB0, x0, x1⟩ := two' hW0 hg1
      have hgn : w.heap.size ≤ g1 := by omega
      clear hW0 hg1
      refine (HC.out W0 hB0).mono ?_
      rintro e w1 ⟨rfl, hB1⟩
      have hB01 := hB0.trans (hB1.mono hB0.size)
      obtain ⟨y0, y1, _⟩ := cells2 (cells2at x0 hB1)
      have x1' := cells2at x1 hB1
      have HB1 := Lib.hid hB01; have X1 := Lib.hid x1'
      clear hB0 x0 x1 hB1 hB01 x1'
      go_wp2_with (go_at_call 42; fail)
      refine (HF.out w1 HB1.out).mono ?_
      rintro e w2 ⟨ko, kc, cs', rfl, hO, hk, hB2⟩
      have x2 := cells2at X1.out hB2
      obtain ⟨z0, z1, zf⟩ := cells2 x2
      obtain ⟨f0, f1⟩ := store2 x2 (.int .i64 p) (.slice ko n kc)
      have HO := Lib.hid ((hO.low HB1.out.size).set2 x2 (.int .i64 p) (.slice ko n kc) (by decide) (by decide)); have HK := Lib.hid hk
      have HB2 := Lib.hid (below2 (HB1.out.trans (hB2.mono HB1.out.size)) hgn (.int .i64 p) (.slice ko n kc))
      clear hO hk hB2 x2 y0 y1
      go_wp2
      refine bodyPost_ret (v := .tuple #[.agg #[.int .i64 p, .slice ko n kc], .int .i64 0]) (by simp [results, Try.results14, go_sem, f0, f1]) rfl ?_
      rw [HR.out]
      exact ⟨ko, n, kc, cs', rfl, HO.out, HK.out, HB2.out⟩
    · have d1 : decide (keep < 0) = false := decide_eq_false hkp
      rw [if_neg hkp] at hr
      obtain ⟨L, hL⟩ : ∃ L : Nat, L = min keep.toNat d.l := ⟨_, rfl⟩
      have hmin : min keep (d.l : Int) = (L : Int) := by omega
      have hLl : L ≤ d.l := by omega
      have hmn := fun ats W => run_min ats 3 keep (d.l : Int) W
      rw [hmin] at hmn
      have hzt : d.z.take keep.toNat = d.z.take L := by
        by_cases hx : keep.toNat ≤ d.l
        · rw [show L = keep.toNat by omega]
        · rw [List.take_of_length_le (by rw [hd.len]; omega), List.take_of_length_le (by rw [hd.len]; omega)]
      rw [hzt] at hr
      have hput := fun V (hV : Below w.heap.size w V) ko kc (ho : OwnB V w.heap.size ⟨ko, L, kc, d.z.take L⟩) => put_any t k ⟨3, ⟨ko, L, kc, d.z.take L⟩, false⟩ w.heap.size V (h.below hV) s6 (by omega) (by omega) ho hV.size
      have hdt : Part.ok w ⟨d.a, L, d.c, d.z.take L⟩ := hd.take L hLl
      have hcl := fun V (hV : Below w.heap.size w V) => clone_any ⟨d.a, L, d.c, d.z.take L⟩ V (hdt.below hV) (by show L ≤ _; omega)
      have hbt := hdt.bts
      have hroom := hd.room
      unfold maxLen at hroom
      obtain ⟨p, a, n, c, cs⟩ := t
      obtain ⟨da, dl, dc, dz⟩ := d
      simp only [Tap.ks] at hcw hput hcl hbt hr hroom hLl hmn ⊢
      have i1 : (0 : Int) ≤ (L : Int) := by omega
      have i2 : (L : Int) ≤ (dc : Int) := by omega
      have HC := Lib.hid hcw; have HPUT := Lib.hid hput; have HCL := Lib.hid hcl; have HBT := Lib.hid hbt; have HR := Lib.hid hr
      clear h hg hd s1 s2 s3 s4 s5 s6 hcw hput hcl hbt hr hce q1 q2 q3 q4 q5 hzt hdt hL hkp hmin
      go_enter Try.func14, Try.ntmps14
      go_wp2_with (go_at_call 39; fail)
      obtain ⟨g1, hg1⟩ : ∃ g1, g1 = w.heap.size + 1 := ⟨_, rfl⟩
      rw [← hg1]
      generalize hW0 : World.alloc _ (.cells #[.int .i64 0, .slice none 0 0] 24) = W0
      obtain ⟨hB0, x0, x1⟩ := two' hW0 hg1
      have hgn : w.heap.size ≤ g1 := by omega
      have hne : w.heap.size ≠ g1 := by omega
      clear hW0 hg1
      refine (HC.out W0 hB0).mono ?_
      rintro e w1 ⟨rfl, hB1⟩
      have hB01 := hB0.trans (hB1.mono hB0.size)
      have y0 := cells2at x0 hB1
      have y1 := cells2at x1 hB1
      have hcell : ∀ V, Below w1.heap.size w1 V → V.cell? ⟨w.heap.size, 0, none⟩ = some (.int .i64 p) ∧ V.cell? ⟨w.heap.size, 1, none⟩ = some (.slice a n c) := fun V hb => by
        obtain ⟨a0, a1, _⟩ := cells2 (cells2at y0 hb)
        exact ⟨a0, a1⟩
      have HCELL := Lib.hid hcell; have HB1 := Lib.hid hB01; have Y1 := Lib.hid y1; have HNE := Lib.hid hne
      clear hB0 x0 x1 hB1 hB01 y0 y1 hcell hne
      go_wp2
      go_region_held3 (fun V => V.cell? ⟨w.heap.size, 0, none⟩ = some (.int .i64 p) ∧ V.cell? ⟨w.heap.size, 1, none⟩ = some (.slice a n c)) (first | exact HCELL.out _ (Below.refl _ _).drew | exact HCELL.out _ HB5.out | exact HCELL.out _ HB6.out | exact HK.out _ _)
        ((first
          | (go_at_call 41; (with_reducible refine (HCL.out _ (HB1.out.trans ((Below.refl w1.heap.size w1).drew.mono HB1.out.size))).mono ?_); rintro e w5 ⟨ko, kc, rfl, how, hB5⟩; have HB5 : Hid (Below w1.heap.size w1 w5) := (Below.refl _ _).drew.trans hB5; have HO5 : Hid (OwnB w5 w.heap.size ⟨ko, L, kc, dz.take L⟩) := (OwnB.of_ow how HBT.out).low HB1.out.size; clear hB5 how)
          | (go_at_call 40; (with_reducible refine (HPUT.out _ (HB1.out.trans (HB5.out.mono HB1.out.size)) _ _ HO5.out).mono ?_); rintro e w6 ⟨ko6, kc6, cs6, rfl, hO6, hk6, hB6⟩; have HB6 : Hid (Below w1.heap.size w1 w6) := HB5.out.trans (hB6.mono HB5.out.size); have HO6 := Lib.hid hO6; have HK6 := Lib.hid hk6; obtain ⟨z0, z1, zf⟩ := cells2 (cells2at Y1.out HB6.out); have HK := Lib.hid (keep2 (HCELL.out _ HB6.out) HNE.out); clear hB6 hO6 hk6)))
      rename_i hheld
      obtain ⟨f0, f1⟩ := store2 (cells2at Y1.out HB6.out) (.int .i64 p) (.slice ko6 (k + 1) kc6)
      clear hheld z0 z1 zf
      go_wp2
      refine bodyPost_ret (v := .tuple #[.agg #[.int .i64 p, .slice ko6 (k + 1) kc6], .int .i64 0]) (by simp [results, Try.results14, go_sem, f0, f1]) rfl ?_
      rw [HR.out]
      exact ⟨ko6, k + 1, kc6, cs6, rfl, HO6.out.set2 (cells2at Y1.out HB6.out) _ _ (by decide) (by decide), HK6.out, below2 (HB1.out.trans (HB6.out.mono HB1.out.size)) hgn _ _⟩
  · rw [if_neg hce] at hr
    obtain ⟨er, her⟩ : ∃ er, er = ce t.p t.n q d.l := ⟨_, rfl⟩
    rw [← her] at hr hcw hce
    have d1 : (er != 0) = true := by simp [hce]
    obtain ⟨p, a, n, c, cs⟩ := t
    obtain ⟨da, dl, dc, dz⟩ := d
    simp only at hcw hr ⊢
    have HC := Lib.hid hcw; have HR := Lib.hid hr
    clear h hg hd s1 s2 s3 s4 s5 s6 hcw hr hce her
    go_enter Try.func14, Try.ntmps14
    go_wp2_with (go_at_call 39; fail)
    obtain ⟨g1, hg1⟩ : ∃ g1, g1 = w.heap.size + 1 := ⟨_, rfl⟩
    rw [← hg1]
    generalize hW0 : World.alloc _ (.cells #[.int .i64 0, .slice none 0 0] 24) = W0
    obtain ⟨hB0, x0, x1⟩ := two' hW0 hg1
    have hgn : w.heap.size ≤ g1 := by omega
    clear hW0 hg1
    refine (HC.out W0 hB0).mono ?_
    rintro e w1 ⟨rfl, hB1⟩
    have hB01 := hB0.trans (hB1.mono hB0.size)
    have x2 := cells2at x1 hB1
    obtain ⟨z0, z1, zf⟩ := cells2 x2
    obtain ⟨f0, f1⟩ := store2 x2 (.int .i64 0) (.slice none 0 0)
    have HB2 := Lib.hid (below2 hB01 hgn (.int .i64 0) (.slice none 0 0))
    clear hB0 x0 x1 hB1 hB01 x2
    go_wp2
    refine bodyPost_ret (v := .tuple #[.agg #[.int .i64 0, .slice none 0 0], .int .i64 er]) (by simp [results, Try.results14, go_sem, f0, f1]) rfl ?_
    exact MPost.none_ HR.out HB2.out

/-- Spoil, by what the cells say. -/
def spoilK (p : Int) (ks : List Key) (q : Int) : Int × Int × List Key := if 0 ≤ q ∧ q < ks.length then (0, p, ks.modify q.toNat fun x => (x.1, x.2.1, true)) else (8, 0, [])
/-- One cell of the row, its last field turned. -/
theorem ccs_bad (cs : List Cel) : ∀ k, (h : k < cs.length) → (ccs cs).set (k * 3 + 2) (.bool true) = ccs (cs.set k ⟨cs[k].k, cs[k].d, true⟩) := by
  induction cs with
  | nil => intro k h; exact absurd h (Nat.not_lt_zero _)
  | cons c cs ih =>
    intro k h
    have e : ∀ (x : Cel) (l : List Cel), ccs (x :: l) = .int .i64 x.k :: .slice x.d.a x.d.l x.d.c :: .bool x.b :: ccs l := fun x l => rfl
    cases k with
    | zero => simp [e]
    | succ k =>
      rw [show (k + 1) * 3 + 2 = k * 3 + 2 + 3 by omega]
      have := ih k (by simpa using h)
      simp [e, this]
theorem keys_bad (cs : List Cel) : ∀ k, (h : k < cs.length) → keys (cs.set k ⟨cs[k].k, cs[k].d, true⟩) = (keys cs).modify k fun x => (x.1, x.2.1, true) := by
  induction cs with
  | nil => intro k h; exact absurd h (Nat.not_lt_zero _)
  | cons c cs ih =>
    intro k h
    cases k with
    | zero => simp [keys, Cel.key]
    | succ k =>
      have := ih k (by simpa using h)
      simp only [keys] at this ⊢
      simp [this]

theorem row_heapN {w : World} {base g n cap : Nat} {xs : List Value} (h : w.ownsRow base 50 3 (.slice (some ⟨g, 0, none⟩) n cap) n xs) : ∃ cur, w.heap[g]? = some (.cells cur 50 (0, 0)) := row_heap h
set_option maxHeartbeats 4000000 in
/-- SPOIL, of a right tape. -/
theorem spoil_any (t : Tap) (q : Int) (w : World) (h : t.ok w) (hg : goodK t.p t.ks = true) : Calls Try.prog 19 #[.agg #[.int .i64 t.p, .slice t.a t.n t.c], .int .i64 q] w (MPost w (spoilK t.p t.ks q)) := by
  obtain ⟨s1, s2, s3, s4, s5, s6⟩ := h.sizes hg
  have hck := fun V (hV : Below w.heap.size w V) => check_ok t V (h.below hV) hg
  have hce := fun V => cell_any t.p t.a t.n t.c q V (Nat.le_trans h.room h.cm)
  obtain ⟨r, hr⟩ : ∃ r, r = spoilK t.p t.ks q := ⟨_, rfl⟩
  rw [← hr]
  unfold spoilK at hr
  rw [s5] at hr
  by_cases hq : 0 ≤ q ∧ q < (t.n : Int)
  · rw [if_pos hq] at hr
    simp only [decide_eq_true hq] at hce
    obtain ⟨k, rfl⟩ : ∃ k : Nat, q = k := ⟨q.toNat, by omega⟩
    rw [Int.toNat_natCast] at hr
    have hfi := fun V (hV : Below w.heap.size w V) => first_any t t.n V (h.below hV) s6 (Nat.le_refl _) (by omega)
    have htk : t.ks.take t.n = t.ks := List.take_of_length_le (by rw [s5]; exact Nat.le_refl _)
    rw [htk] at hfi
    have hkn : k < t.n := by omega
    obtain ⟨p, a, n, c, cs⟩ := t
    simp only [Tap.ks] at hck hce hfi hr hkn ⊢
    have HC := Lib.hid hck; have HE := Lib.hid hce; have HF := Lib.hid hfi; have HR := Lib.hid hr
    have i1 : (0 : Int) ≤ (k : Int) := by omega
    have i2 : (k : Int) < (n : Int) := by omega
    clear h hg s1 s2 s3 s4 s5 s6 hck hce hfi hr htk hq
    go_enter Try.func19, Try.ntmps19
    go_wp2_with (go_at_call 21; fail)
    obtain ⟨g1, hg1⟩ : ∃ g1, g1 = w.heap.size + 1 := ⟨_, rfl⟩
    rw [← hg1]
    generalize hW0 : World.alloc _ (.cells #[.int .i64 0, .slice none 0 0] 24) = W0
    obtain ⟨hB0, x0, x1⟩ := two' hW0 hg1
    have hgn : w.heap.size ≤ g1 := by omega
    clear hW0 hg1
    refine (HC.out W0 hB0).mono ?_
    rintro e w1 ⟨rfl, hB1⟩
    have hB01 := hB0.trans (hB1.mono hB0.size)
    have X0 := Lib.hid (cells2at x0 hB1)
    have X1 := Lib.hid (cells2at x1 hB1)
    obtain ⟨y0, y1, _⟩ := cells2 X0.out
    have HB1 := Lib.hid hB01
    clear hB0 x0 x1 hB1 hB01
    go_wp2_with (go_at_call 44; fail)
    refine (HE.out w1).mono ?_
    rintro e w2 ⟨rfl, hB2⟩
    have X2 := Lib.hid (cells2at X1.out hB2)
    clear y0 y1
    obtain ⟨y0, y1, _⟩ := cells2 (cells2at X0.out hB2)
    have HB2 := Lib.hid (HB1.out.trans (hB2.mono HB1.out.size))
    clear hB2
    go_wp2_with (go_at_call 42; fail)
    refine (HF.out w2 HB2.out).mono ?_
    rintro e w3 ⟨ko, kc, cs3, rfl, hO, hk, hB3⟩
    obtain ⟨gm, rfl⟩ : ∃ gm, ko = some ⟨gm, 0, none⟩ := by
      rcases hO.row.2 with ⟨_, h0⟩ | ⟨g, c, cur, e, _⟩
      · omega
      · simp only [Value.slice.injEq] at e; exact ⟨g, e.1⟩
    obtain ⟨W4, hW4⟩ : ∃ W4, W4 = w3.alloc (.cells #[.int .i64 p, .slice (some ⟨gm, 0, none⟩) n kc] 24) := ⟨_, rfl⟩
    obtain ⟨g6, hg6⟩ : ∃ g6, g6 = w3.heap.size := ⟨_, rfl⟩
    have hb4 : Below w3.heap.size w3 W4 := by rw [hW4]; exact (Below.refl _ _).alloc (Nat.le_refl _) _
    have hy6 : W4.heap[g6]? = some (.cells #[.int .i64 p, .slice (some ⟨gm, 0, none⟩) n kc] 24 (0, 0)) := by rw [hW4, hg6]; exact new_cell _ _ _
    have hx1 : W4.heap[g1]? = some (.cells #[.int .i64 0, .slice none 0 0] 24 (0, 0)) := cells2at (cells2at X2.out hB3) hb4
    have h24 := hB3.trans (hb4.mono hB3.size)
    have hO4 := hO.below hb4
    have hk3 : k < cs3.length := by rw [hO4.len]; exact hkn
    have hrow := hO4.row
    have hst := (hrow.stored (k * 3 + 2) (.bool true)).1
    rw [ccs_bad cs3 k hk3] at hst
    have hcell : W4.cell? ⟨gm, k * 3 + 2, none⟩ = some (.bool cs3[k].b) := by
      rw [hrow.cellAt (k * 3 + 2) (by omega)]; exact (ccs_get cs3 k hk3).2.2
    have hfz : W4.frozen? ⟨gm, k * 3 + 2, none⟩ = false := hrow.frozenAt _
    obtain ⟨cur, hcur⟩ := row_heapN hrow
    have ng6 : g6 ≠ gm := by
      rintro rfl
      rw [hy6] at hcur
      simp only [Option.some.injEq, Obj.cells.injEq] at hcur
      exact absurd hcur.2.1 (by decide)
    have ng1 : g1 ≠ gm := by
      rintro rfl
      rw [hx1] at hcur
      simp only [Option.some.injEq, Obj.cells.injEq] at hcur
      exact absurd hcur.2.1 (by decide)
    have hgm : w.heap.size ≤ gm := by
      rcases hO.row.2 with ⟨e, _⟩ | ⟨g, c, cur, e, hb, _⟩
      · cases e
      · simp only [Value.slice.injEq, Option.some.injEq, Addr.mk.injEq, and_true] at e
        obtain ⟨rfl, _⟩ := e
        exact Nat.le_trans HB2.out.size hb
    obtain ⟨a0, a1, _⟩ := cells2 hy6
    have hb24 := HB2.out.trans (h24.mono HB2.out.size)
    obtain ⟨W5, hW5⟩ : ∃ W5, W5 = W4.setCell ⟨gm, k * 3 + 2, none⟩ (.bool true) := ⟨_, rfl⟩
    have hy5 : W5.heap[g6]? = some (.cells #[.int .i64 p, .slice (some ⟨gm, 0, none⟩) n kc] 24 (0, 0)) := by rw [hW5, set_far _ _ _ _ _ ng6]; exact hy6
    have hz5 : W5.heap[g1]? = some (.cells #[.int .i64 0, .slice none 0 0] 24 (0, 0)) := by rw [hW5, set_far _ _ _ _ _ ng1]; exact hx1
    have hO5 : OCs W5 w.heap.size (some ⟨gm, 0, none⟩) n kc (cs3.set k ⟨cs3[k].k, cs3[k].d, true⟩) := by
      have hr5 : W5.ownsRow w2.heap.size 50 3 (.slice (some ⟨gm, 0, none⟩) n kc) n (ccs (cs3.set k ⟨cs3[k].k, cs3[k].d, true⟩)) := by rw [hW5]; exact hst
      refine ⟨by rw [List.length_set]; exact hO4.len, hO4.room, hO4.cm, owns_low hr5 HB2.out.size, fun i hi => ?_⟩
      have hi' : i < cs3.length := by simpa using hi
      have hd : (cs3.set k ⟨cs3[k].k, cs3[k].d, true⟩)[i].d = cs3[i].d := by
        rw [List.getElem_set]
        by_cases e : k = i
        · subst e; simp
        · rw [if_neg e]
      rw [hd, hW5]
      have h1 := (hO4.own i hi').low HB2.out.size
      exact h1.set gm _ _ (h1.1.ne_cells hcur (by decide))
    have hb5 : Below w.heap.size w W5 := by rw [hW5]; exact hb24.setCell hgm _
    obtain ⟨f0, f1⟩ := store2 hz5 (.int .i64 p) (.slice (some ⟨gm, 0, none⟩) n kc)
    obtain ⟨b0, b1, _⟩ := cells2 hy5
    obtain ⟨z0, z1, zf⟩ := cells2 hz5
    have HO6 := Lib.hid (hO5.set2 hz5 (.int .i64 p) (.slice (some ⟨gm, 0, none⟩) n kc) (by decide) (by decide))
    have HB6 := Lib.hid (below2 hb5 hgn (.int .i64 p) (.slice (some ⟨gm, 0, none⟩) n kc))
    have HK := Lib.hid ((keys_bad cs3 k hk3).trans (by rw [hk]))
    subst hW5
    subst hW4
    subst hg6
    clear hO hk hB3 hb4 hy6 hx1 h24 hO4 hrow hst hcur ng6 ng1 hgm hb24 hy5 hz5 hO5 hb5 y0 y1
    generalize hbv : cs3[k].b = bv at hcell
    clear hbv
    go_wp2
    refine bodyPost_ret (v := .tuple #[.agg #[.int .i64 p, .slice (some ⟨gm, 0, none⟩) n kc], .int .i64 0]) (by simp [results, Try.results19, go_sem, f0, f1]) rfl ?_
    rw [HR.out]
    exact ⟨some ⟨gm, 0, none⟩, n, kc, _, rfl, HO6.out, HK.out, HB6.out⟩
  · rw [if_neg hq] at hr
    simp only [decide_eq_false hq] at hce
    obtain ⟨p, a, n, c, cs⟩ := t
    simp only at hck hce hr ⊢
    have HC := Lib.hid hck; have HE := Lib.hid hce; have HR := Lib.hid hr
    clear h hg s1 s2 s3 s4 s5 s6 hck hce hr hq
    go_enter Try.func19, Try.ntmps19
    go_wp2_with (go_at_call 21; fail)
    obtain ⟨g1, hg1⟩ : ∃ g1, g1 = w.heap.size + 1 := ⟨_, rfl⟩
    rw [← hg1]
    generalize hW0 : World.alloc _ (.cells #[.int .i64 0, .slice none 0 0] 24) = W0
    obtain ⟨hB0, x0, x1⟩ := two' hW0 hg1
    have hgn : w.heap.size ≤ g1 := by omega
    clear hW0 hg1
    refine (HC.out W0 hB0).mono ?_
    rintro e w1 ⟨rfl, hB1⟩
    have hB01 := hB0.trans (hB1.mono hB0.size)
    obtain ⟨y0, y1, _⟩ := cells2 (cells2at x0 hB1)
    have X1 := Lib.hid (cells2at x1 hB1)
    have HB1 := Lib.hid hB01
    clear hB0 x0 x1 hB1 hB01
    go_wp2_with (go_at_call 44; fail)
    refine (HE.out w1).mono ?_
    rintro e w2 ⟨rfl, hB2⟩
    have x2 := cells2at X1.out hB2
    have hB02 := HB1.out.trans (hB2.mono HB1.out.size)
    obtain ⟨z0, z1, zf⟩ := cells2 x2
    obtain ⟨f0, f1⟩ := store2 x2 (.int .i64 0) (.slice none 0 0)
    have HB2 := Lib.hid (below2 hB02 hgn (.int .i64 0) (.slice none 0 0))
    clear x2 hB2 hB02 y0 y1
    go_wp2
    refine bodyPost_ret (v := .tuple #[.agg #[.int .i64 0, .slice none 0 0], .int .i64 8]) (by simp [results, Try.results19, go_sem, f0, f1]) rfl ?_
    exact MPost.none_ HR.out HB2.out

end Go.Proofs.Ytojcinkchdhjpaa
