/-
  Tapes: put, of the document.
-/
import Derived.Test.YtmcbmemgeegodaaMedD
import Derived.Deep.RegionLaw
namespace Go.Proofs.Ytmcbmemgeegodaa
open Go.RowKit
set_option linter.unusedVariables false

theorem ccs_take (cs : List Cel) : ∀ q, (ccs cs).take (q * 3) = ccs (cs.take q) := by
  induction cs with
  | nil => intro q; simp [ccs]
  | cons c cs ih =>
    intro q
    cases q with
    | zero => simp [ccs]
    | succ q =>
      have e1 : ccs (c :: cs) = .int .i64 c.k :: .slice c.d.a c.d.l c.d.c :: .bool c.b :: ccs cs := rfl
      have e2 : ccs ((c :: cs).take (q + 1)) = .int .i64 c.k :: .slice c.d.a c.d.l c.d.c :: .bool c.b :: ccs (cs.take q) := rfl
      rw [e1, e2, show (q + 1) * 3 = q * 3 + 1 + 1 + 1 by omega, List.take_succ_cons, List.take_succ_cons, List.take_succ_cons, ih]
theorem keys_upto (cs : List Cel) (q : Nat) : keys (cs.take q) = (keys cs).take q := by unfold keys; rw [List.map_take]
theorem OCs.take {w : World} {base : Nat} {ko : Option Addr} {n kc : Nat} {cs : List Cel} (h : OCs w base ko n kc cs) {q : Nat} (hq : q ≤ n) : OCs w base ko q kc (cs.take q) := by
  refine ⟨by rw [List.length_take, h.len]; omega, Nat.le_trans hq h.room, h.cm, ?_, fun i hi => ?_⟩
  · refine ⟨by rw [← ccs_take, List.length_take, h.row.1]; omega, ?_⟩
    rcases h.row.2 with ⟨e, h0⟩ | ⟨g, cap, cur, e, hb, hh, h1, h2, h3, h4⟩
    · simp only [Value.slice.injEq] at e
      obtain ⟨rfl, h5, rfl⟩ := e
      obtain rfl : q = 0 := by omega
      exact .inl ⟨rfl, rfl⟩
    · simp only [Value.slice.injEq] at e
      obtain ⟨rfl, _, rfl⟩ := e
      refine .inr ⟨g, kc, cur, rfl, hb, hh, Nat.le_trans hq h.room, h2, h3, ?_⟩
      rw [← ccs_take, ← h4, List.take_take, Nat.min_eq_left (by omega)]
  · rw [List.getElem_take]
    exact h.own i (by simp only [List.length_take] at hi; omega)
/-- A store ahead of it. -/
theorem OCs.set_low {w : World} {base : Nat} {ko : Option Addr} {n kc : Nat} {cs : List Cel} (h : OCs w base ko n kc cs) {g : Nat} (i : Nat) (hg : g < base) (u : Value) : OCs (w.setCell ⟨g, i, none⟩ u) base ko n kc cs :=
  ⟨h.len, h.room, h.cm, own_heap h.row fun g' e => set_far _ _ _ _ _ (by have := own_ge3 h.row g' e; omega), fun j hj => (h.own j hj).set _ _ _ fun g' e => by have := (h.own j hj).2 _ e; simp only at this; omega⟩
/-- Append as a step of a region that draws. -/
theorem step_append_cel {w : World} {ops : Array Oper} {o : Oper} {a : Act} {K : Act → World → Prop} {Q : Exit → Act → World → Prop} {E : Prop} (hgd : o.guard = none) (s x : Operand)
    (ho : o.op = .call { callee := .builtin .append, args := #[s, x], argTypes := #[22, 22] })
    (base n kc g : Nat) (ko : Option Addr) (cs : List Cel) (c : Cel) (hs : a.eval s = .slice ko n kc) (hown : OCs w base ko n kc cs) (hx : a.eval x = .slice (some ⟨g, 0, none⟩) 1 1)
    (hg : w.heap[g]? = some (.cells #[.int .i64 c.k, .slice c.d.a c.d.l c.d.c, .bool c.b] 62)) (hr : OwnB w base c.d)
    (hm : n ≤ 1000000000) (hb : base ≤ w.heap.size)
    (h : ∀ ko' kc' w', OCs w' base ko' (n + 1) kc' (cs ++ [c]) → Below base w w' → K (a.put o.dst (.slice ko' (n + 1) kc')) w') :
    if Region.wanted o (yielded ops a.tmps) = true then Oper.wp Try.prog o a w K Q else E := by
  have hw : Region.wanted o (yielded ops a.tmps) = true := by simp [Region.wanted, hgd]
  rw [if_pos hw]
  obtain ⟨i0, hi, hz0, hz1, hz2⟩ := info_parts info50
  obtain ⟨h1, h2, h3, h4, h5⟩ := hown
  refine wp_append_own _ s x 22 ho base 62 i0 (.agg #[.int .i64 0, .slice none 0 0, .bool false]) 3 40 Try.underlying22 hi hz0 hz1 hz2 rfl (by decide) _ n _ hs h4 ⟨g, 0, none⟩ 1 1 c.cs hx rfl ?_ ?_ (by unfold maxLen; omega) (by omega) hb ?_
  · intro j u hj
    rw [Addr.add_lit, Nat.zero_add]
    match j, hj with
    | 0, hj => simp [Cel.cs] at hj; subst hj; simp [World.cell?, hg]
    | 1, hj => simp [Cel.cs] at hj; subst hj; simp [World.cell?, hg]
    | 2, hj => simp [Cel.cs] at hj; subst hj; simp [World.cell?, hg]
    | j + 3, hj => simp [Cel.cs] at hj
  · intro u hu
    simp [Cel.cs] at hu
    rcases hu with rfl | rfl | rfl <;> rfl
  · intro v' w' ho' hg' _
    rw [← ccs_snoc] at ho'
    have hlen : (cs ++ [c]).length = n + 1 := by simp [h1]
    have hv : ∃ ko' kc', v' = .slice ko' (n + 1) kc' ∧ n + 1 ≤ kc' ∧ kc' ≤ maxLen := by
      rcases ho'.2 with ⟨_, h0⟩ | ⟨g', cap', cur, q1, _, _, q4, q5, _⟩
      · omega
      · exact ⟨_, cap', q1, q4, q5⟩
    obtain ⟨ko', kc', rfl, hk1, hk2⟩ := hv
    refine h ko' kc' w' ⟨hlen, hk1, hk2, ho', fun i hi => ?_⟩ (Below.grown (Below.refl _ _) hg' hb (own_ge3 h4))
    by_cases hin : i < cs.length
    · rw [List.getElem_append_left hin]; exact ⟨(h5 i hin).1.grown3 (by omega) h4 hg', (h5 i hin).2⟩
    · have : i = cs.length := by simp at hi; omega
      subst this
      rw [List.getElem_append_right (Nat.le_refl _)]
      simp only [Nat.sub_self, List.getElem_cons_zero]
      exact ⟨hr.1.grown3 (by omega) h4 hg', hr.2⟩
theorem below_at {B : Nat} {w w' : World} (h : Below B w w') {g : Nat} (hg : g < B) {o : Obj} (ho : w.heap[g]? = some o) : w'.heap[g]? = some o := by rw [h.block _ hg]; exact ho
theorem set2_far {w : World} {g g6 : Nat} (hne : g ≠ g6) (u0 u1 : Value) : ((w.setCell ⟨g6, 0, none⟩ u0).setCell ⟨g6, 1, none⟩ u1).heap[g]? = w.heap[g]? := by rw [set_far _ _ _ _ _ hne, set_far _ _ _ _ _ hne]

set_option maxHeartbeats 4000000 in
/-- PUT, OF THE DOCUMENT. -/
theorem rput_any (t : Tap) (q : Nat) (x : Cel) (w : World) (h : t.ok w) (hd : ∀ k, (hk : k < t.cs.length) → t.cs[k].d.l ≤ 1000000) (hq : q ≤ t.n) (hm : t.n ≤ 1000000) (hx : x.d.ok w) (hx6 : x.d.l ≤ 1000000) :
    Calls Try.prog 75 #[.agg #[.int .i64 t.p, .slice t.a t.n t.c], .int .i64 q, .agg #[.int .i64 x.k, .slice x.d.a x.d.l x.d.c, .bool x.b]] w (TPost w t.p (q + 1) (t.ks.take q ++ [x.key])) := by
  have hf := fun V (hV : Below w.heap.size w V) => twinmed_any t V (h.below hV) hd hm
  have htw := fun V (hV : Below w.heap.size w V) => twin_any x.d.a x.d.l x.d.c x.d.z V hx.len hx6 (hx.below hV).rd hx.nil
  obtain ⟨p, a, n, c, cs⟩ := t
  obtain ⟨xk, ⟨xa, xl, xc, xz⟩, xb⟩ := x
  simp only [Tap.ks] at hf htw hq hm ⊢
  have HF := Lib.hid hf; have HX := Lib.hid hx.bts; have HTW := Lib.hid htw
  clear h hd hf hx htw
  go_enter Try.func75, Try.ntmps75
  go_wp2_with (go_at_call 12; fail)
  obtain ⟨g2, hg2⟩ : ∃ g2, g2 = w.heap.size + 1 + 1 := ⟨_, rfl⟩
  obtain ⟨g1, hg1⟩ : ∃ g1, g1 = w.heap.size + 1 := ⟨_, rfl⟩
  obtain ⟨g0, hg0⟩ : ∃ g0, g0 = w.heap.size := ⟨_, rfl⟩
  rw [← hg2, ← hg1]
  generalize hW0 : World.alloc _ (.cells #[.int .i64 0, .slice none 0 0] 24) = W0
  obtain ⟨hB0, x0, x1, x2⟩ := three' hW0 hg1 hg2
  rw [← hg0] at x0 hB0 ⊢
  clear hW0
  have hl2 : g2 < W0.heap.size := (Array.getElem?_eq_some_iff.1 x2).1
  have hl1 : g1 < W0.heap.size := (Array.getElem?_eq_some_iff.1 x1).1
  have hl0 : g0 < W0.heap.size := (Array.getElem?_eq_some_iff.1 x0).1
  have n01 : g1 ≠ g0 := by omega
  have n02 : g2 ≠ g0 := by omega
  have n12 : g2 ≠ g1 := by omega
  rw [← hg0] at HF HTW
  refine (HF.out W0 hB0).mono ?_
  rintro e w1 ⟨ko, kc, cs1, rfl, hO1, hk1, hB1⟩
  have y0 := cells2at x0 hB1
  have y1 : w1.heap[g1]? = _ := below_at hB1 hl1 x1
  have y2 := cells2at x2 hB1
  obtain ⟨s0, s1, sf⟩ := cells2 y0
  obtain ⟨W2, hW2⟩ : ∃ W2, W2 = (w1.setCell ⟨g0, 0, none⟩ (.int .i64 p)).setCell ⟨g0, 1, none⟩ (.slice ko n kc) := ⟨_, rfl⟩
  have z0 : W2.heap[g0]? = some (.cells #[.int .i64 p, .slice ko n kc] 24 (0, 0)) := by rw [hW2]; exact heap2 y0 _ _
  have z1 : W2.heap[g1]? = some (.cells #[.int .i64 xk, .slice xa xl xc, .bool xb] 62 (0, 0)) := by rw [hW2, set2_far n01]; exact y1
  have z2 : W2.heap[g2]? = some (.cells #[.int .i64 0, .slice none 0 0] 24 (0, 0)) := by rw [hW2, set2_far n02]; exact y2
  have b2 : Below g0 w W2 := by rw [hW2]; exact below2 (hB0.trans (hB1.mono (by omega))) (Nat.le_refl _) _ _
  have b02 : Below g0 W0 W2 := by rw [hW2]; exact below2 (hB1.mono (by omega)) (Nat.le_refl _) _ _
  have o2 : OCs W2 W0.heap.size ko n kc cs1 := by rw [hW2]; exact hO1.set2 y0 _ _ (by decide) (by decide)
  have hs2 : W0.heap.size ≤ W2.heap.size := by rw [hW2]; simp; exact hB1.size
  have e1 := z1
  rw [hW2] at e1
  obtain ⟨_, e11, _, _⟩ := cells3f e1
  have Z0 := Lib.hid z0; have Z1 := Lib.hid z1; have Z2 := Lib.hid z2; have B2 := Lib.hid b2; have O2 := Lib.hid o2; have HW2 := Lib.hid hW2; have HK1 := Lib.hid hk1; have HS2 := Lib.hid hs2
  have HG0 := Lib.hid hg0; have HLE := Lib.hid (show g0 ≤ g1 ∧ g0 ≤ g2 by omega); have HL := Lib.hid (And.intro hl0 (And.intro hl1 hl2)); have HN := Lib.hid (And.intro n01 (And.intro n02 n12))
  clear hB0 x0 x1 x2 hO1 hk1 hB1 y0 y1 y2 z0 z1 z2 b2 b02 o2 hs2 e1 hW2 hg1 hg2 hl0 hl1 hl2 n01 n02 n12 hg0
  go_wp2_with (go_at_call 33; fail)
  rw [← HW2.out]
  clear s0 s1 sf e11
  refine (HTW.out W2 B2.out).mono ?_
  rintro e w3 ⟨k3, c3, rfl, ho3, hB3⟩
  obtain ⟨hl0, hl1, hl2⟩ := HL.out
  obtain ⟨n01, n02, n12⟩ := HN.out
  have hs2 := HS2.out
  have y0 := cells2at Z0.out hB3
  have y1 : w3.heap[g1]? = _ := below_at hB3 (by omega) Z1.out
  have y2 := cells2at Z2.out hB3
  obtain ⟨_, _, _, sf⟩ := cells3f y1
  obtain ⟨W4, hW4⟩ : ∃ W4, W4 = w3.setCell ⟨g1, 1, none⟩ (.slice k3 xl c3) := ⟨_, rfl⟩
  have v0 : W4.heap[g0]? = some (.cells #[.int .i64 p, .slice ko n kc] 24 (0, 0)) := by rw [hW4, set_far _ _ _ _ _ n01.symm]; exact y0
  have v1 : W4.heap[g1]? = some (.cells #[.int .i64 xk, .slice k3 xl c3, .bool xb] 62 (0, 0)) := by
    have := Go.Joins.block_setCell (i := 1) y1 (.slice k3 xl c3)
    rw [hW4]; simpa using this
  have v2 : W4.heap[g2]? = some (.cells #[.int .i64 0, .slice none 0 0] 24 (0, 0)) := by rw [hW4, set_far _ _ _ _ _ n12]; exact y2
  have o4 : OCs W4 W0.heap.size ko n kc cs1 := by rw [hW4]; exact (O2.out.below hB3).set_low 1 hl1 _
  have q3 : OwnB w3 W0.heap.size ⟨k3, xl, c3, xz⟩ := (OwnB.of_ow ho3 HX.out).low hs2
  have q4 : OwnB W4 W0.heap.size ⟨k3, xl, c3, xz⟩ := by
    rw [hW4]
    exact q3.set _ _ _ fun g e => by have := q3.2 _ e; simp only at this; omega
  have hs4 : W0.heap.size ≤ W4.heap.size := by rw [hW4]; simp; exact Nat.le_trans hs2 hB3.size
  have b4 : Below g0 w W4 := by
    have h1 : Below g0 w w3 := B2.out.trans (hB3.mono (by omega))
    rw [hW4]; exact h1.setCell HLE.out.1 _
  have hc : ∀ V, Below W0.heap.size W4 V → V.cell? ⟨g0, 1, none⟩ = some (.slice ko n kc) ∧ V.cell? ⟨g1, 0, none⟩ = some (.int .i64 xk) ∧ V.cell? ⟨g1, 1, none⟩ = some (.slice k3 xl c3) ∧ V.cell? ⟨g1, 2, none⟩ = some (.bool xb) := fun V hb => by
    obtain ⟨a0, a1, _⟩ := cells2 (below_at hb hl0 v0)
    obtain ⟨b0, b1, b2, _⟩ := cells3f (below_at hb hl1 v1)
    exact ⟨a1, b0, b1, b2⟩
  have hal : Below W0.heap.size W4 (W4.alloc (.cells #[.int .i64 xk, .slice k3 xl c3, .bool xb] 62)).drew := ((Below.refl _ _).alloc hs4 _).drew
  have hal4 : Below W4.heap.size W4 (W4.alloc (.cells #[.int .i64 xk, .slice k3 xl c3, .bool xb] 62)).drew := ((Below.refl _ _).alloc (Nat.le_refl _) _).drew
  have HO4 := Lib.hid ((o4.take hq).below hal4); have HQ4 := Lib.hid (q4.below hal4)
  have HG4 : Hid ((W4.alloc (.cells #[.int .i64 xk, .slice k3 xl c3, .bool xb] 62)).drew.heap[W4.heap.size]? = some (.cells #[.int .i64 xk, .slice k3 xl c3, .bool xb] 62)) := heap_alloc_new _ _
  have HAL := Lib.hid hal; have HC := Lib.hid hc; have V0 := Lib.hid v0; have V2 := Lib.hid v2; have B4 := Lib.hid b4; have HW4 := Lib.hid hW4; have HS4 := Lib.hid hs4
  have i1 : (0 : Int) ≤ (q : Int) := by omega
  have i2 : (q : Int) ≤ (kc : Int) := by have := o4.room; omega
  have i3 : q ≤ kc := by have := o4.room; omega
  clear ho3 hB3 y0 y1 y2 v0 v1 v2 o4 q3 q4 hs4 b4 hc hal hal4 hW4 hs2 hl0 hl1 hl2 n01 n02 n12
  go_wp2
  rw [← HW4.out]
  obtain ⟨r0, r1, r2, r3⟩ := HC.out _ (Below.refl _ _).drew
  obtain ⟨r4, r5, r6, r7⟩ := HC.out _ HAL.out
  go_region_law
    ((refine step_append_cel rfl (.tmp 16) (.tmp 18) rfl W0.heap.size q kc W4.heap.size ko (cs1.take q) ⟨xk, ⟨k3, xl, c3, xz⟩, xb⟩ rfl HO4.out rfl HG4.out HQ4.out (by omega) (Nat.le_trans HS4.out HAL.out.size) ?_; intro ko' kc' w5 ho5 hB5; have HB5 : Hid (Below W0.heap.size W4 w5) := HAL.out.trans hB5; have HO5 := Lib.hid ho5; obtain ⟨s0, s1, sf⟩ := cells2 (below_at HB5.out HL.out.1 V0.out); clear ho5 hB5))
  all_goals
    have c7 := below_at HB5.out HL.out.1 V0.out
    have c2 := below_at HB5.out HL.out.2.2 V2.out
    obtain ⟨f1, f2, f3, f4, f5, f6, f7⟩ := fin2 c7 c2 HN.out.2.1 (.slice ko' (q + 1) kc')
    have HS7 := Lib.hid (set7 c7 c2 HN.out.2.1 (.slice ko' (q + 1) kc')); have C7 := Lib.hid c7
    clear c7 c2 s0 s1 sf r0 r1 r2 r3 r4 r5 r6 r7
    go_wp2
    refine bodyPost_ret (v := .agg #[.int .i64 p, .slice ko' (q + 1) kc']) (by simp [results, Try.results75, go_sem, f6, f7]) rfl ?_
    have hB7 : Below g0 w w5 := B4.out.trans (HB5.out.mono (Nat.le_of_lt HL.out.1))
    have hfin : Below g0 w (((w5.setCell ⟨g0, 1, none⟩ (.slice ko' (q + 1) kc')).setCell ⟨g2, 0, none⟩ (.int .i64 p)).setCell ⟨g2, 1, none⟩ (.slice ko' (q + 1) kc')) := below2 (hB7.setCell (Nat.le_refl _) _) HLE.out.2 _ _
    have ho := (((HO5.out.set (.slice ko' (q + 1) kc') C7.out (by decide) (by decide)).set (i := 0) (.int .i64 p) HS7.out.1 (by decide) (by decide)).set (i := 1) (.slice ko' (q + 1) kc') HS7.out.2 (by decide) (by decide))
    refine ⟨ko', kc', cs1.take q ++ [⟨xk, ⟨k3, xl, c3, xz⟩, xb⟩], rfl, ho.low (by rw [← HG0.out]; exact Nat.le_of_lt HL.out.1), ?_, by rw [← HG0.out]; exact hfin⟩
    show keys _ = (keys cs).take q ++ _
    have hk := HK1.out
    rw [← hk, ← keys_upto]; unfold keys; rw [List.map_append]; rfl
end Go.Proofs.Ytmcbmemgeegodaa
