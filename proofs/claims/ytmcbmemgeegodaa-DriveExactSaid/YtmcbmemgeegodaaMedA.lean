/-
  Tapes: Tear, Spoil.
-/
import Derived.Test.YtmcbmemgeegodaaMed9
namespace Go.Proofs.Ytmcbmemgeegodaa
open Go.RowKit
set_option linter.unusedVariables false

theorem run_min (ats : Array TypeId) (t : TypeId) (x y : Int) (W : World) : (Builtin.min_ ats t #[.int .i64 x, .int .i64 y]).run Try.prog W = .ok (.int .i64 (min x y)) W := by
  by_cases h : y < x
  · have : min x y = y := by omega
    rw [this]
    simp [Builtin.min_, Builtin.min2, h, go_sem]
  · have : min x y = x := by omega
    rw [this]
    simp [Builtin.min_, Builtin.min2, h, go_sem]
set_option maxHeartbeats 4000000 in
/-- TEAR, of a right tape. -/
theorem tear_any (t : Tap) (q : Int) (d : Part) (keep : Int) (w : World) (h : t.ok w) (hg : goodK t.p t.ks = true) (hd : d.ok w) : Calls Try.prog 76 #[.agg #[.int .i64 t.p, .slice t.a t.n t.c], .int .i64 q, .slice d.a d.l d.c, .int .i64 keep] w (MPost w (tearK t.p t.ks q d.z keep)) := by
  obtain ⟨s1, s2, s3, s4, s5, s6⟩ := h.sizes hg
  have hcw := fun V (hV : Below w.heap.size w V) => cw_any t q d.a d.l d.c V (h.below hV) hg hd.small
  obtain ⟨r, hr⟩ : ∃ r, r = tearK t.p t.ks q d.z keep := ⟨_, rfl⟩
  rw [← hr]
  unfold tearK at hr
  rw [s5, hd.len] at hr
  by_cases hce : ce t.p t.n q d.l = 0
  · rw [if_pos hce] at hr
    rw [hce] at hcw
    obtain ⟨q1, q2, q3, q4, q5⟩ := ce_ok hce
    obtain ⟨k, rfl⟩ : ∃ k : Nat, q = k := ⟨q.toNat, by omega⟩
    rw [Int.toNat_natCast] at hr
    by_cases hkp : keep < 0
    · have d1 : decide (keep < 0) = true := decide_eq_true hkp
      rw [if_pos hkp] at hr
      have hfi := fun V (hV : Below w.heap.size w V) => first_any t t.n V (h.below hV) s6 (Nat.le_refl _) (by omega)
      have htk : t.ks.take t.n = t.ks := List.take_of_length_le (by rw [s5]; exact Nat.le_refl _)
      rw [htk] at hfi
      obtain ⟨p, a, n, c, cs⟩ := t
      obtain ⟨da, dl, dc, dz⟩ := d
      simp only [Tap.ks] at hcw hfi hr ⊢
      have HC := Lib.hid hcw; have HF := Lib.hid hfi; have HR := Lib.hid hr
      clear h hg hd s1 s2 s3 s4 s5 s6 hcw hfi hr hce q1 q2 q3 q4 q5 htk hkp
      go_enter Try.func76, Try.ntmps76
      go_wp2_with (go_at_call 71; fail)
      obtain ⟨g1, hg1⟩ : ∃ g1, g1 = w.heap.size + 1 := ⟨_, rfl⟩
      rw [← hg1]
      generalize hW0 : World.alloc _ (.cells #[.int .i64 0, .slice none 0 0] 24) = W0
      obtain ⟨hB0, x0, x1⟩ := two' hW0 hg1
      have hgn : w.heap.size ≤ g1 := by omega
      clear hW0 hg1
      refine (HC.out W0 hB0).mono ?_
      rintro e w1 ⟨rfl, hB1⟩
      have hB01 := hB0.trans (hB1.mono hB0.size)
      obtain ⟨y0, y1, _⟩ := cells2 (cells2at x0 hB1)
      have x1' := cells2at x1 hB1
      have HB1 := Lib.hid hB01; have X1 := Lib.hid x1'
      clear hB0 x0 x1 hB1 hB01 x1'
      go_wp2_with (go_at_call 79; fail)
      refine (HF.out w1 HB1.out).mono ?_
      rintro e w2 ⟨ko, kc, cs', rfl, hO, hk, hB2⟩
      have x2 := cells2at X1.out hB2
      obtain ⟨z0, z1, zf⟩ := cells2 x2
      obtain ⟨f0, f1⟩ := store2 x2 (.int .i64 p) (.slice ko n kc)
      have HO := Lib.hid ((hO.low HB1.out.size).set2 x2 (.int .i64 p) (.slice ko n kc) (by decide) (by decide)); have HK := Lib.hid hk
      have HB2 := Lib.hid (below2 (HB1.out.trans (hB2.mono HB1.out.size)) hgn (.int .i64 p) (.slice ko n kc))
      clear hO hk hB2 x2 y0 y1
      go_wp2
      refine bodyPost_ret (v := .tuple #[.agg #[.int .i64 p, .slice ko n kc], .int .i64 0]) (by simp [results, Try.results76, go_sem, f0, f1]) rfl ?_
      rw [HR.out]
      exact ⟨ko, n, kc, cs', rfl, HO.out, HK.out, HB2.out⟩
    · have d1 : decide (keep < 0) = false := decide_eq_false hkp
      rw [if_neg hkp] at hr
      obtain ⟨L, hL⟩ : ∃ L : Nat, L = min keep.toNat d.l := ⟨_, rfl⟩
      have hmin : min keep (d.l : Int) = (L : Int) := by omega
      have hLl : L ≤ d.l := by omega
      have hmn := fun ats W => run_min ats 3 keep (d.l : Int) W
      rw [hmin] at hmn
      have hzt : d.z.take keep.toNat = d.z.take L := by
        by_cases hx : keep.toNat ≤ d.l
        · rw [show L = keep.toNat by omega]
        · rw [List.take_of_length_le (by rw [hd.len]; omega), List.take_of_length_le (by rw [hd.len]; omega)]
      rw [hzt] at hr
      have hput := fun V (hV : Below w.heap.size w V) ko kc (ho : OwnB V w.heap.size ⟨ko, L, kc, d.z.take L⟩) => put_any t k ⟨3, ⟨ko, L, kc, d.z.take L⟩, false⟩ w.heap.size V (h.below hV) s6 (by omega) (by omega) ho hV.size
      have hdt : Part.ok w ⟨d.a, L, d.c, d.z.take L⟩ := hd.take L hLl
      have hcl := fun V (hV : Below w.heap.size w V) => clone_any ⟨d.a, L, d.c, d.z.take L⟩ V (hdt.below hV) (by show L ≤ _; omega)
      have hbt := hdt.bts
      have hroom := hd.room
      unfold maxLen at hroom
      obtain ⟨p, a, n, c, cs⟩ := t
      obtain ⟨da, dl, dc, dz⟩ := d
      simp only [Tap.ks] at hcw hput hcl hbt hr hroom hLl hmn ⊢
      have i1 : (0 : Int) ≤ (L : Int) := by omega
      have i2 : (L : Int) ≤ (dc : Int) := by omega
      have HC := Lib.hid hcw; have HPUT := Lib.hid hput; have HCL := Lib.hid hcl; have HBT := Lib.hid hbt; have HR := Lib.hid hr
      clear h hg hd s1 s2 s3 s4 s5 s6 hcw hput hcl hbt hr hce q1 q2 q3 q4 q5 hzt hdt hL hkp hmin
      go_enter Try.func76, Try.ntmps76
      go_wp2_with (go_at_call 71; fail)
      obtain ⟨g1, hg1⟩ : ∃ g1, g1 = w.heap.size + 1 := ⟨_, rfl⟩
      rw [← hg1]
      generalize hW0 : World.alloc _ (.cells #[.int .i64 0, .slice none 0 0] 24) = W0
      obtain ⟨hB0, x0, x1⟩ := two' hW0 hg1
      have hgn : w.heap.size ≤ g1 := by omega
      have hne : w.heap.size ≠ g1 := by omega
      clear hW0 hg1
      refine (HC.out W0 hB0).mono ?_
      rintro e w1 ⟨rfl, hB1⟩
      have hB01 := hB0.trans (hB1.mono hB0.size)
      have y0 := cells2at x0 hB1
      have y1 := cells2at x1 hB1
      have hcell : ∀ V, Below w1.heap.size w1 V → V.cell? ⟨w.heap.size, 0, none⟩ = some (.int .i64 p) ∧ V.cell? ⟨w.heap.size, 1, none⟩ = some (.slice a n c) := fun V hb => by
        obtain ⟨a0, a1, _⟩ := cells2 (cells2at y0 hb)
        exact ⟨a0, a1⟩
      have HCELL := Lib.hid hcell; have HB1 := Lib.hid hB01; have Y1 := Lib.hid y1; have HNE := Lib.hid hne
      clear hB0 x0 x1 hB1 hB01 y0 y1 hcell hne
      go_wp2
      go_region_held3 (fun V => V.cell? ⟨w.heap.size, 0, none⟩ = some (.int .i64 p) ∧ V.cell? ⟨w.heap.size, 1, none⟩ = some (.slice a n c)) (first | exact HCELL.out _ (Below.refl _ _).drew | exact HCELL.out _ HB5.out | exact HCELL.out _ HB6.out | exact HK.out _ _)
        ((first
          | (go_at_call 70; (with_reducible refine (HCL.out _ (HB1.out.trans ((Below.refl w1.heap.size w1).drew.mono HB1.out.size))).mono ?_); rintro e w5 ⟨ko, kc, rfl, how, hB5⟩; have HB5 : Hid (Below w1.heap.size w1 w5) := (Below.refl _ _).drew.trans hB5; have HO5 : Hid (OwnB w5 w.heap.size ⟨ko, L, kc, dz.take L⟩) := (OwnB.of_ow how HBT.out).low HB1.out.size; clear hB5 how)
          | (go_at_call 72; (with_reducible refine (HPUT.out _ (HB1.out.trans (HB5.out.mono HB1.out.size)) _ _ HO5.out).mono ?_); rintro e w6 ⟨ko6, kc6, cs6, rfl, hO6, hk6, hB6⟩; have HB6 : Hid (Below w1.heap.size w1 w6) := HB5.out.trans (hB6.mono HB5.out.size); have HO6 := Lib.hid hO6; have HK6 := Lib.hid hk6; obtain ⟨z0, z1, zf⟩ := cells2 (cells2at Y1.out HB6.out); have HK := Lib.hid (keep2 (HCELL.out _ HB6.out) HNE.out); clear hB6 hO6 hk6)))
      rename_i hheld
      obtain ⟨f0, f1⟩ := store2 (cells2at Y1.out HB6.out) (.int .i64 p) (.slice ko6 (k + 1) kc6)
      clear hheld z0 z1 zf
      go_wp2
      refine bodyPost_ret (v := .tuple #[.agg #[.int .i64 p, .slice ko6 (k + 1) kc6], .int .i64 0]) (by simp [results, Try.results76, go_sem, f0, f1]) rfl ?_
      rw [HR.out]
      exact ⟨ko6, k + 1, kc6, cs6, rfl, HO6.out.set2 (cells2at Y1.out HB6.out) _ _ (by decide) (by decide), HK6.out, below2 (HB1.out.trans (HB6.out.mono HB1.out.size)) hgn _ _⟩
  · rw [if_neg hce] at hr
    obtain ⟨er, her⟩ : ∃ er, er = ce t.p t.n q d.l := ⟨_, rfl⟩
    rw [← her] at hr hcw hce
    have d1 : (er != 0) = true := by simp [hce]
    obtain ⟨p, a, n, c, cs⟩ := t
    obtain ⟨da, dl, dc, dz⟩ := d
    simp only at hcw hr ⊢
    have HC := Lib.hid hcw; have HR := Lib.hid hr
    clear h hg hd s1 s2 s3 s4 s5 s6 hcw hr hce her
    go_enter Try.func76, Try.ntmps76
    go_wp2_with (go_at_call 71; fail)
    obtain ⟨g1, hg1⟩ : ∃ g1, g1 = w.heap.size + 1 := ⟨_, rfl⟩
    rw [← hg1]
    generalize hW0 : World.alloc _ (.cells #[.int .i64 0, .slice none 0 0] 24) = W0
    obtain ⟨hB0, x0, x1⟩ := two' hW0 hg1
    have hgn : w.heap.size ≤ g1 := by omega
    clear hW0 hg1
    refine (HC.out W0 hB0).mono ?_
    rintro e w1 ⟨rfl, hB1⟩
    have hB01 := hB0.trans (hB1.mono hB0.size)
    have x2 := cells2at x1 hB1
    obtain ⟨z0, z1, zf⟩ := cells2 x2
    obtain ⟨f0, f1⟩ := store2 x2 (.int .i64 0) (.slice none 0 0)
    have HB2 := Lib.hid (below2 hB01 hgn (.int .i64 0) (.slice none 0 0))
    clear hB0 x0 x1 hB1 hB01 x2
    go_wp2
    refine bodyPost_ret (v := .tuple #[.agg #[.int .i64 0, .slice none 0 0], .int .i64 er]) (by simp [results, Try.results76, go_sem, f0, f1]) rfl ?_
    exact MPost.none_ HR.out HB2.out


/-- One cell of the row, its last field turned. -/
theorem ccs_bad (cs : List Cel) : ∀ k, (h : k < cs.length) → (ccs cs).set (k * 3 + 2) (.bool true) = ccs (cs.set k ⟨cs[k].k, cs[k].d, true⟩) := by
  induction cs with
  | nil => intro k h; exact absurd h (Nat.not_lt_zero _)
  | cons c cs ih =>
    intro k h
    have e : ∀ (x : Cel) (l : List Cel), ccs (x :: l) = .int .i64 x.k :: .slice x.d.a x.d.l x.d.c :: .bool x.b :: ccs l := fun x l => rfl
    cases k with
    | zero => simp [e]
    | succ k =>
      rw [show (k + 1) * 3 + 2 = k * 3 + 2 + 3 by omega]
      have := ih k (by simpa using h)
      simp [e, this]
theorem keys_bad (cs : List Cel) : ∀ k, (h : k < cs.length) → keys (cs.set k ⟨cs[k].k, cs[k].d, true⟩) = (keys cs).modify k fun x => (x.1, x.2.1, true) := by
  induction cs with
  | nil => intro k h; exact absurd h (Nat.not_lt_zero _)
  | cons c cs ih =>
    intro k h
    cases k with
    | zero => simp [keys, Cel.key]
    | succ k =>
      have := ih k (by simpa using h)
      simp only [keys] at this ⊢
      simp [this]

theorem row_heapN {w : World} {base g n cap : Nat} {xs : List Value} (h : w.ownsRow base 62 3 (.slice (some ⟨g, 0, none⟩) n cap) n xs) : ∃ cur, w.heap[g]? = some (.cells cur 62 (0, 0)) := row_heap h


end Go.Proofs.Ytmcbmemgeegodaa
