/-
  Tapes: put, End, Mark, New.
-/
import Derived.Test.YtmcbmemgeegodaaMed4
namespace Go.Proofs.Ytmcbmemgeegodaa
open Go.RowKit
set_option linter.unusedVariables false

theorem owns_low {w : World} {base b e n size : Nat} {v : Value} {xs : List Value} (h : w.ownsRow base e size v n xs) (hb : b ≤ base) : w.ownsRow b e size v n xs := by
  refine ⟨h.1, ?_⟩
  rcases h.2 with h2 | ⟨g, cap, cur, q1, q2, q3, q4⟩
  · exact .inl h2
  · exact .inr ⟨g, cap, cur, q1, Nat.le_trans hb q2, q3, q4⟩
theorem OCs.low {w : World} {base b : Nat} {ko : Option Addr} {n kc : Nat} {cs : List Cel} (h : OCs w base ko n kc cs) (hb : b ≤ base) : OCs w b ko n kc cs :=
  ⟨h.len, h.room, h.cm, owns_low h.row hb, fun i hi => (h.own i hi).low hb⟩
theorem own_heap {w w' : World} {base e n size : Nat} {v : Value} {xs : List Value} (h : w.ownsRow base e size v n xs) (hh : ∀ g, v.ownBlock = some g → w'.heap[g]? = w.heap[g]?) : w'.ownsRow base e size v n xs := by
  refine ⟨h.1, ?_⟩
  rcases h.2 with h2 | ⟨g, cap, cur, q1, q2, q3, q4⟩
  · exact .inl h2
  · exact .inr ⟨g, cap, cur, q1, q2, by rw [hh g (by rw [q1]; rfl)]; exact q3, q4⟩
/-- Which blocks a row of cells is not. -/
theorem OCs.ne_block {w : World} {base : Nat} {ko : Option Addr} {n kc : Nat} {cs : List Cel} (h : OCs w base ko n kc cs) {g T : Nat} {cur : Array Value} (hh : w.heap[g]? = some (.cells cur T (0, 0))) (hT : T ≠ 62) : ∀ g', (Value.slice ko n kc).ownBlock = some g' → g' ≠ g := by
  rintro g' e rfl
  rcases h.row.2 with ⟨q, _⟩ | ⟨g2, cap, cur2, q, _, h3, _⟩
  · rw [q] at e; cases e
  · rw [q] at e
    simp only [Value.ownBlock, Option.some.injEq] at e
    subst e
    rw [h3] at hh
    simp only [Option.some.injEq, Obj.cells.injEq] at hh
    exact hT hh.2.1.symm
/-- A store elsewhere. -/
theorem OCs.set {w : World} {base : Nat} {ko : Option Addr} {n kc : Nat} {cs : List Cel} (h : OCs w base ko n kc cs) {g i T : Nat} {cur : Array Value} (u : Value) (hh : w.heap[g]? = some (.cells cur T (0, 0))) (hT : T ≠ 62) (hT5 : T ≠ 5) : OCs (w.setCell ⟨g, i, none⟩ u) base ko n kc cs :=
  ⟨h.len, h.room, h.cm, own_heap h.row fun g' e => set_far _ _ _ _ _ (h.ne_block hh hT g' e), fun j hj => (h.own j hj).set _ _ _ ((h.own j hj).1.ne_cells hh hT5)⟩
theorem append_cel {w : World} {ops : Array Oper} {rest : List Oper} {o : Oper} {a : Act} {Q : Exit → Act → World → Prop} (hgd : o.guard = none) (s x : Operand)
    (ho : o.op = .call { callee := .builtin .append, args := #[s, x], argTypes := #[22, 22] })
    (base n kc g : Nat) (ko : Option Addr) (cs : List Cel) (c : Cel) (hs : a.eval s = .slice ko n kc) (hown : OCs w base ko n kc cs) (hx : a.eval x = .slice (some ⟨g, 0, none⟩) 1 1)
    (hg : w.heap[g]? = some (.cells #[.int .i64 c.k, .slice c.d.a c.d.l c.d.c, .bool c.b] 62)) (hr : OwnB w base c.d)
    (hm : n ≤ 1000000000) (hb : base ≤ w.heap.size)
    (h : ∀ ko' kc' w', OCs w' base ko' (n + 1) kc' (cs ++ [c]) → w.grownBy w' (Value.slice ko n kc).ownBlock → Below base w w' → wpList Try.prog ops Q rest (a.put o.dst (.slice ko' (n + 1) kc')) w') : wpList Try.prog ops Q (o :: rest) a w := by
  obtain ⟨i0, hi, hz0, hz1, hz2⟩ := info_parts info50
  obtain ⟨h1, h2, h3, h4, h5⟩ := hown
  refine wpList_append_own _ hgd s x 22 ho base 62 i0 (.agg #[.int .i64 0, .slice none 0 0, .bool false]) 3 40 Try.underlying22 hi hz0 hz1 hz2 rfl (by decide) _ n _ hs h4 ⟨g, 0, none⟩ 1 1 c.cs hx rfl ?_ ?_ (by unfold maxLen; omega) (by omega) hb ?_
  · intro j u hj
    rw [Addr.add_lit, Nat.zero_add]
    match j, hj with
    | 0, hj => simp [Cel.cs] at hj; subst hj; simp [World.cell?, hg]
    | 1, hj => simp [Cel.cs] at hj; subst hj; simp [World.cell?, hg]
    | 2, hj => simp [Cel.cs] at hj; subst hj; simp [World.cell?, hg]
    | j + 3, hj => simp [Cel.cs] at hj
  · intro u hu
    simp [Cel.cs] at hu
    rcases hu with rfl | rfl | rfl <;> rfl
  · intro v' w' ho' hg' _
    rw [← ccs_snoc] at ho'
    have hlen : (cs ++ [c]).length = n + 1 := by simp [h1]
    have hv : ∃ ko' kc', v' = .slice ko' (n + 1) kc' ∧ n + 1 ≤ kc' ∧ kc' ≤ maxLen := by
      rcases ho'.2 with ⟨_, h0⟩ | ⟨g', cap', cur, q1, _, _, q4, q5, _⟩
      · omega
      · exact ⟨_, cap', q1, q4, q5⟩
    obtain ⟨ko', kc', rfl, hk1, hk2⟩ := hv
    refine h ko' kc' w' ⟨hlen, hk1, hk2, ho', fun i hi => ?_⟩ hg' (Below.grown (Below.refl _ _) hg' hb (own_ge3 h4))
    by_cases hin : i < cs.length
    · rw [List.getElem_append_left hin]; exact ⟨(h5 i hin).1.grown3 (by omega) h4 hg', (h5 i hin).2⟩
    · have : i = cs.length := by simp at hi; omega
      subst this
      rw [List.getElem_append_right (Nat.le_refl _)]
      simp only [Nat.sub_self, List.getElem_cons_zero]
      exact ⟨hr.1.grown3 (by omega) h4 hg', hr.2⟩

theorem cells2 {w : World} {g T : Nat} {v0 v1 : Value} (h : w.heap[g]? = some (.cells #[v0, v1] T (0, 0))) : w.cell? ⟨g, 0, none⟩ = some v0 ∧ w.cell? ⟨g, 1, none⟩ = some v1 ∧ ∀ j, w.frozen? ⟨g, j, none⟩ = false :=
  ⟨by simp [World.cell?, h], by simp [World.cell?, h], fun j => by simp [World.frozen?, h]⟩
theorem fin2 {w : World} {g7 g2 T : Nat} {v0 v1 r0 r1 : Value} (h7 : w.heap[g7]? = some (.cells #[v0, v1] T (0, 0))) (h2 : w.heap[g2]? = some (.cells #[r0, r1] T (0, 0))) (hne : g2 ≠ g7) (u : Value) :
    (w.setCell ⟨g7, 1, none⟩ u).cell? ⟨g7, 0, none⟩ = some v0 ∧ (w.setCell ⟨g7, 1, none⟩ u).cell? ⟨g7, 1, none⟩ = some u ∧ (w.setCell ⟨g7, 1, none⟩ u).cell? ⟨g2, 0, none⟩ = some r0 ∧ (w.setCell ⟨g7, 1, none⟩ u).cell? ⟨g2, 1, none⟩ = some r1 ∧ (∀ j, (w.setCell ⟨g7, 1, none⟩ u).frozen? ⟨g2, j, none⟩ = false) ∧
    (((w.setCell ⟨g7, 1, none⟩ u).setCell ⟨g2, 0, none⟩ v0).setCell ⟨g2, 1, none⟩ u).cell? ⟨g2, 0, none⟩ = some v0 ∧ (((w.setCell ⟨g7, 1, none⟩ u).setCell ⟨g2, 0, none⟩ v0).setCell ⟨g2, 1, none⟩ u).cell? ⟨g2, 1, none⟩ = some u := by
  have a7 : (w.setCell ⟨g7, 1, none⟩ u).heap[g7]? = some (.cells #[v0, u] T (0, 0)) := by
    have := Go.Joins.block_setCell (i := 1) h7 u
    simpa using this
  have a2 : (w.setCell ⟨g7, 1, none⟩ u).heap[g2]? = some (.cells #[r0, r1] T (0, 0)) := by rw [set_far _ _ _ _ _ hne]; exact h2
  obtain ⟨x1, x2, _⟩ := cells2 a7
  obtain ⟨y1, y2, yf⟩ := cells2 a2
  have b2 : (((w.setCell ⟨g7, 1, none⟩ u).setCell ⟨g2, 0, none⟩ v0).setCell ⟨g2, 1, none⟩ u).heap[g2]? = some (.cells #[v0, u] T (0, 0)) := by
    have := Go.Joins.block_setCell (i := 1) (Go.Joins.block_setCell (i := 0) a2 v0) u
    simpa using this
  obtain ⟨z1, z2, _⟩ := cells2 b2
  exact ⟨x1, x2, y1, y2, yf, z1, z2⟩
theorem set7 {w : World} {g7 g2 T : Nat} {v0 v1 r0 r1 : Value} (h7 : w.heap[g7]? = some (.cells #[v0, v1] T (0, 0))) (h2 : w.heap[g2]? = some (.cells #[r0, r1] T (0, 0))) (hne : g2 ≠ g7) (u : Value) :
    (w.setCell ⟨g7, 1, none⟩ u).heap[g2]? = some (.cells #[r0, r1] T (0, 0)) ∧ ((w.setCell ⟨g7, 1, none⟩ u).setCell ⟨g2, 0, none⟩ v0).heap[g2]? = some (.cells #[v0, r1] T (0, 0)) := by
  have a2 : (w.setCell ⟨g7, 1, none⟩ u).heap[g2]? = some (.cells #[r0, r1] T (0, 0)) := by rw [set_far _ _ _ _ _ hne]; exact h2
  have := Go.Joins.block_setCell (i := 0) a2 v0
  exact ⟨a2, by simpa using this⟩
theorem below2 {B g : Nat} {a w : World} (h : Below B a w) (hg : B ≤ g) (u0 u1 : Value) : Below B a ((w.setCell ⟨g, 0, none⟩ u0).setCell ⟨g, 1, none⟩ u1) := (h.setCell hg u0).setCell hg u1
theorem three' {w W0 : World} {o1 o2 o3 : Obj} {g1 g2 : Nat} (h : ((w.alloc o1).alloc o2).alloc o3 = W0) (h1 : g1 = w.heap.size + 1) (h2 : g2 = w.heap.size + 1 + 1) : Below w.heap.size w W0 ∧ W0.heap[w.heap.size]? = some o1 ∧ W0.heap[g1]? = some o2 ∧ W0.heap[g2]? = some o3 := by
  subst h; subst h1; subst h2
  have e1 := heap_alloc_new w o1
  have e2 := heap_alloc_new (w.alloc o1) o2
  have e3 := heap_alloc_new ((w.alloc o1).alloc o2) o3
  simp only [World.size_alloc] at e2 e3
  have b3 : Below (w.heap.size + 1 + 1) ((w.alloc o1).alloc o2) (((w.alloc o1).alloc o2).alloc o3) := (Below.refl _ _).alloc (by simp) _
  have b2 : Below (w.heap.size + 1) (w.alloc o1) ((w.alloc o1).alloc o2) := (Below.refl _ _).alloc (by simp) _
  refine ⟨((((Below.refl _ _).alloc (Nat.le_refl _) _).alloc (by simp) _).alloc (by simp; omega) _), ?_, ?_, e3⟩
  · rw [b3.block _ (by omega), b2.block _ (by omega)]; exact e1
  · rw [b3.block _ (by omega)]; exact e2

set_option maxHeartbeats 4000000 in
/-- PUT. -/
theorem put_any (t : Tap) (q : Nat) (x : Cel) (base : Nat) (w : World) (h : t.ok w) (hd : ∀ k, (hk : k < t.cs.length) → t.cs[k].d.l ≤ 1000000) (hq : q ≤ t.n) (hqm : q ≤ 1000000) (hx : OwnB w base x.d) (hb : base ≤ w.heap.size) :
    Calls Try.prog 72 #[.agg #[.int .i64 t.p, .slice t.a t.n t.c], .int .i64 q, .agg #[.int .i64 x.k, .slice x.d.a x.d.l x.d.c, .bool x.b]] w fun e w' => ∃ ko kc cs', e = .returned (.agg #[.int .i64 t.p, .slice ko (q + 1) kc]) ∧ OCs w' base ko (q + 1) kc cs' ∧ keys cs' = t.ks.take q ++ [x.key] ∧ Below w.heap.size w w' := by
  have hf := fun V (hV : Below w.heap.size w V) => first_any t q V (h.below hV) hd hq hqm
  obtain ⟨p, a, n, c, cs⟩ := t
  simp only [Tap.ks] at hf ⊢
  have HF := Lib.hid hf; have HX := Lib.hid hx
  clear h hd hf hx hq
  go_enter Try.func72, Try.ntmps72
  go_wp2_with (go_at_call 79; fail)
  obtain ⟨g2, hg2⟩ : ∃ g2, g2 = w.heap.size + 1 + 1 := ⟨_, rfl⟩
  obtain ⟨g1, hg1⟩ : ∃ g1, g1 = w.heap.size + 1 := ⟨_, rfl⟩
  rw [← hg2, ← hg1]
  generalize hW0 : World.alloc _ (.cells #[.int .i64 0, .slice none 0 0] 24) = W0
  obtain ⟨hB0, x0, x1, x2⟩ := three' hW0 hg1 hg2
  clear hW0
  refine (HF.out W0 hB0).mono ?_
  rintro e w1 ⟨ko, kc, cs1, rfl, hO1, hk1, hB1⟩
  have h01 : Below w.heap.size w w1 := hB0.trans (hB1.mono hB0.size)
  have y1 : w1.heap[g1]? = some (.cells #[.int .i64 x.k, .slice x.d.a x.d.l x.d.c, .bool x.b] 62) := by rw [hB1.block _ (Array.getElem?_eq_some_iff.1 x1).1]; exact x1
  have y2 : w1.heap[g2]? = some (.cells #[.int .i64 0, .slice none 0 0] 24) := by rw [hB1.block _ (Array.getElem?_eq_some_iff.1 x2).1]; exact x2
  obtain ⟨W2, hW2⟩ : ∃ W2, W2 = w1.alloc (.cells #[.int .i64 p, .slice ko q kc] 24) := ⟨_, rfl⟩
  obtain ⟨g7, hg7⟩ : ∃ g7, g7 = w1.heap.size := ⟨_, rfl⟩
  have h12 : Below w1.heap.size w1 W2 := by rw [hW2]; exact (Below.refl _ _).alloc (Nat.le_refl _) _
  have z1 : W2.heap[g1]? = some (.cells #[.int .i64 x.k, .slice x.d.a x.d.l x.d.c, .bool x.b] 62) := by rw [h12.block _ (Array.getElem?_eq_some_iff.1 y1).1]; exact y1
  have z2 : W2.heap[g2]? = some (.cells #[.int .i64 0, .slice none 0 0] 24) := by rw [h12.block _ (Array.getElem?_eq_some_iff.1 y2).1]; exact y2
  have z7 : W2.heap[g7]? = some (.cells #[.int .i64 p, .slice ko q kc] 24) := by rw [hW2, hg7]; exact heap_alloc_new _ _
  have hs2 : W2.heap.size = g7 + 1 := by rw [hW2, hg7]; simp
  obtain ⟨W3, hW3⟩ : ∃ W3, W3 = W2.alloc (.cells #[.int .i64 x.k, .slice x.d.a x.d.l x.d.c, .bool x.b] 62) := ⟨_, rfl⟩
  have h23 : Below W2.heap.size W2 W3 := by rw [hW3]; exact (Below.refl _ _).alloc (Nat.le_refl _) _
  have u8 : W3.heap[g7 + 1]? = some (.cells #[.int .i64 x.k, .slice x.d.a x.d.l x.d.c, .bool x.b] 62) := by rw [hW3, ← hs2]; exact heap_alloc_new _ _
  have u7 : W3.heap[g7]? = some (.cells #[.int .i64 p, .slice ko q kc] 24) := by rw [h23.block _ (Array.getElem?_eq_some_iff.1 z7).1]; exact z7
  have u2 : W3.heap[g2]? = some (.cells #[.int .i64 0, .slice none 0 0] 24) := by rw [h23.block _ (Array.getElem?_eq_some_iff.1 z2).1]; exact z2
  have h13 : Below w1.heap.size w1 W3 := h12.trans (h23.mono h12.size)
  have h03 : Below w.heap.size w W3 := h01.trans (h13.mono h01.size)
  have hO3 : OCs W3 base ko q kc cs1 := (hO1.below h13).low (Nat.le_trans hb hB0.size)
  have hX3 : OwnB W3 base x.d := HX.out.below h03
  have HROW : Hid (W3.ownsRow w.heap.size 62 3 (.slice ko q kc) q (ccs cs1)) := owns_low (hO1.below h13).row hB0.size
  have hne : g2 ≠ g7 := by have := (Array.getElem?_eq_some_iff.1 y2).1; omega
  have HNE := Lib.hid hne
  have a0 : W2.cell? ⟨g1, 0, none⟩ = some (.int .i64 x.k) := by simp [World.cell?, z1]
  have a1 : W2.cell? ⟨g1, 1, none⟩ = some (.slice x.d.a x.d.l x.d.c) := by simp [World.cell?, z1]
  have a2 : W2.cell? ⟨g1, 2, none⟩ = some (.bool x.b) := by simp [World.cell?, z1]
  have a7 : W2.cell? ⟨g7, 1, none⟩ = some (.slice ko q kc) := by simp [World.cell?, z7]
  have HO3 := Lib.hid hO3; have HX3 := Lib.hid hX3; have U8 := Lib.hid u8; have U7 := Lib.hid u7; have U2 := Lib.hid u2; have H03 := Lib.hid h03; have HK1 := Lib.hid hk1; have HS2 := Lib.hid hs2
  have hg2n : w.heap.size ≤ g2 := by omega
  have hg7n : w.heap.size ≤ g7 := by have := h01.size; omega
  clear hne hB0 x0 x1 x2 hO1 hk1 hB1 h01 y1 y2 h12 z1 z2 z7 hs2 h23 u8 u7 u2 h13 h03 hO3 hX3 hg2 hg1
  subst hW2
  subst hW3
  subst hg7
  go_wp2_with (at_builtin; refine append_cel rfl (.tmp 12) (.tmp 14) rfl base q kc (w1.heap.size + 1) ko cs1 x rfl HO3.out rfl U8.out HX3.out (by omega) (Nat.le_trans hb H03.out.size) ?_; intro ko' kc' w5 ho5 hg5 hB5; have c7 := (hg5.block _ (Array.getElem?_eq_some_iff.1 U7.out).1 (fun e => HO3.out.ne_block U7.out (by decide) _ e.symm rfl)).trans U7.out; have c2 := (hg5.block _ (Array.getElem?_eq_some_iff.1 U2.out).1 (fun e => HO3.out.ne_block U2.out (by decide) _ e.symm rfl)).trans U2.out; have HO5 := Lib.hid ho5; have HG5 := Lib.hid hg5; have C7 := Lib.hid c7; have C2 := Lib.hid c2; have r7 := cells2 c7; obtain ⟨r70, r71, r7f⟩ := r7; obtain ⟨f1, f2, f3, f4, f5, f6, f7⟩ := fin2 c7 c2 HNE.out (.slice ko' (q + 1) kc'); have HS7 := Lib.hid (set7 c7 c2 HNE.out (.slice ko' (q + 1) kc')); have hB5' := Lib.hid (Below.grown (Below.refl w.heap.size _) hg5 H03.out.size (own_ge3 HROW.out)); clear c7 c2 hg5 ho5 hB5)
  refine bodyPost_ret (v := .agg #[.int .i64 p, .slice ko' (q + 1) kc']) (by simp [results, Try.results72, go_sem, f6, f7]) rfl ?_
  refine ⟨ko', kc', cs1 ++ [x], rfl, ?_, ?_, ?_⟩
  · exact ((HO5.out.set _ C7.out (by decide) (by decide)).set _ HS7.out.1 (by decide) (by decide)).set _ HS7.out.2 (by decide) (by decide)
  · unfold keys; rw [List.map_append]; congr 1
  · exact ((((H03.out.trans hB5'.out)).setCell hg7n _).setCell hg2n _).setCell hg2n _

/-- What a call that tells a tape leaves: r: the error's number, the capacity, what the cells say. -/
def MPost (w : World) (r : Int × Int × List Key) (e : Ending) (w' : World) : Prop :=
  ∃ ko n kc cs', e = .returned (.tuple #[.agg #[.int .i64 r.2.1, .slice ko n kc], .int .i64 r.1]) ∧ OCs w' w.heap.size ko n kc cs' ∧ keys cs' = r.2.2 ∧ Below w.heap.size w w'
theorem OCs.nil_ (w : World) (base : Nat) : OCs w base none 0 0 [] := ⟨rfl, Nat.le_refl _, Nat.zero_le _, World.ownsRow_nil _ _ _ _, fun i h => absurd h (Nat.not_lt_zero _)⟩
theorem MPost.none_ {w w' : World} {r : Int × Int × List Key} {er : Int} (hr : r = (er, 0, [])) (hB : Below w.heap.size w w') : MPost w r (.returned (.tuple #[.agg #[.int .i64 0, .slice none 0 0], .int .i64 er])) w' := by
  subst hr
  exact ⟨none, 0, 0, [], rfl, OCs.nil_ _ _, rfl, hB⟩
/-- End, by what the cells say. -/
def endK (p : Int) (ks : List Key) (q : Int) : Int × Int × List Key := if 0 ≤ q ∧ q ≤ ks.length then (0, p, ks.take q.toNat) else (1, 0, [])
def markK (p : Int) (ks : List Key) (q : Int) : Int × Int × List Key := if 0 ≤ q ∧ q ≤ ks.length then (if q = p then (7, 0, []) else (0, p, ks.take q.toNat ++ [(2, [], false)])) else (1, 0, [])

theorem Tap.ok.sizes {w : World} {t : Tap} (h : t.ok w) (hg : goodK t.p t.ks = true) : 1 ≤ t.p ∧ t.p ≤ 400 ∧ (t.n : Int) ≤ t.p ∧ t.n ≤ 400 ∧ t.ks.length = t.n ∧ ∀ k, (hk : k < t.cs.length) → t.cs[k].d.l ≤ 1000000 := by
  have h2 : good t.p t.cs = true := by rw [good_keys t.p h.cells]; exact hg
  obtain ⟨h3, h4, h5, h6⟩ := good_at h2
  rw [h.len] at h5
  exact ⟨h3, h4, h5, by omega, by unfold Tap.ks; rw [keys_len, h.len], fun k hk => by have := okc_le (h6 k hk); omega⟩

/-- A tape and the call's result, laid ahead. -/
theorem two' {w W0 : World} {o1 o2 : Obj} {g1 : Nat} (h : (w.alloc o1).alloc o2 = W0) (h1 : g1 = w.heap.size + 1) : Below w.heap.size w W0 ∧ W0.heap[w.heap.size]? = some o1 ∧ W0.heap[g1]? = some o2 := by
  subst h; subst h1
  have e1 := heap_alloc_new w o1
  have e2 := heap_alloc_new (w.alloc o1) o2
  simp only [World.size_alloc] at e2
  have b2 : Below (w.heap.size + 1) (w.alloc o1) ((w.alloc o1).alloc o2) := (Below.refl _ _).alloc (by simp) _
  exact ⟨((Below.refl _ _).alloc (Nat.le_refl _) _).alloc (by simp) _, by rw [b2.block _ (by omega)]; exact e1, e2⟩
theorem cells2at {w w' : World} {g T : Nat} {v0 v1 : Value} (h : w.heap[g]? = some (.cells #[v0, v1] T (0, 0))) (hB : Below w.heap.size w w') : w'.heap[g]? = some (.cells #[v0, v1] T (0, 0)) := by
  rw [hB.block _ (Array.getElem?_eq_some_iff.1 h).1]; exact h
/-- The result's two cells, stored. -/
theorem store2 {w : World} {g T : Nat} {v0 v1 : Value} (h : w.heap[g]? = some (.cells #[v0, v1] T (0, 0))) (u0 u1 : Value) : ((w.setCell ⟨g, 0, none⟩ u0).setCell ⟨g, 1, none⟩ u1).cell? ⟨g, 0, none⟩ = some u0 ∧ ((w.setCell ⟨g, 0, none⟩ u0).setCell ⟨g, 1, none⟩ u1).cell? ⟨g, 1, none⟩ = some u1 := by
  have b2 := Go.Joins.block_setCell (i := 1) (Go.Joins.block_setCell (i := 0) h u0) u1
  have b3 : ((w.setCell ⟨g, 0, none⟩ u0).setCell ⟨g, 1, none⟩ u1).heap[g]? = some (.cells #[u0, u1] T (0, 0)) := by simpa using b2
  obtain ⟨z1, z2, _⟩ := cells2 b3
  exact ⟨z1, z2⟩
theorem OCs.set2 {w : World} {base : Nat} {ko : Option Addr} {n kc : Nat} {cs : List Cel} (h : OCs w base ko n kc cs) {g T : Nat} {v0 v1 : Value} (hh : w.heap[g]? = some (.cells #[v0, v1] T (0, 0))) (u0 u1 : Value) (hT : T ≠ 62) (hT5 : T ≠ 5) : OCs ((w.setCell ⟨g, 0, none⟩ u0).setCell ⟨g, 1, none⟩ u1) base ko n kc cs := by
  have b1 := Go.Joins.block_setCell (i := 0) hh u0
  exact (h.set u0 hh hT hT5).set u1 b1 hT hT5

set_option maxHeartbeats 2000000 in
/-- END. -/
theorem end_any (t : Tap) (q : Int) (w : World) (h : t.ok w) (hg : goodK t.p t.ks = true) : Calls Try.prog 73 #[.agg #[.int .i64 t.p, .slice t.a t.n t.c], .int .i64 q] w (MPost w (endK t.p t.ks q)) := by
  obtain ⟨s1, s2, s3, s4, s5, s6⟩ := h.sizes hg
  have hpo := fun V (hV : Below w.heap.size w V) => pos_any t q V (h.below hV) hg
  obtain ⟨r, hr⟩ : ∃ r, r = endK t.p t.ks q := ⟨_, rfl⟩
  rw [← hr]
  unfold endK at hr
  rw [s5] at hr
  by_cases hq : 0 ≤ q ∧ q ≤ (t.n : Int)
  · rw [if_pos hq] at hr
    obtain ⟨k, rfl⟩ : ∃ k : Nat, q = k := ⟨q.toNat, by omega⟩
    rw [Int.toNat_natCast] at hr
    have hf := fun V (hV : Below w.heap.size w V) => first_any t k V (h.below hV) s6 (by omega) (by omega)
    simp only [decide_eq_true hq] at hpo
    obtain ⟨p, a, n, c, cs⟩ := t
    simp only [Tap.ks] at hf hpo hr ⊢
    have HP := Lib.hid hpo; have HF := Lib.hid hf; have HR := Lib.hid hr
    clear h hg s1 s2 s3 s4 s5 s6 hpo hf hr hq
    go_enter Try.func73, Try.ntmps73
    go_wp2_with (go_at_call 78; fail)
    obtain ⟨g1, hg1⟩ : ∃ g1, g1 = w.heap.size + 1 := ⟨_, rfl⟩
    rw [← hg1]
    generalize hW0 : World.alloc _ (.cells #[.int .i64 0, .slice none 0 0] 24) = W0
    obtain ⟨hB0, x0, x1⟩ := two' hW0 hg1
    have hgn : w.heap.size ≤ g1 := by omega
    clear hW0 hg1
    refine (HP.out W0 hB0).mono ?_
    rintro e w1 ⟨rfl, hB1⟩
    have hB01 := hB0.trans (hB1.mono hB0.size)
    obtain ⟨y0, y1, _⟩ := cells2 (cells2at x0 hB1)
    have x1' := cells2at x1 hB1
    have HB1 := Lib.hid hB01; have X1 := Lib.hid x1'
    clear hB0 x0 x1 hB1 hB01 x1'
    go_wp2_with (go_at_call 79; fail)
    refine (HF.out w1 HB1.out).mono ?_
    rintro e w2 ⟨ko, kc, cs', rfl, hO, hk, hB2⟩
    have x2 := cells2at X1.out hB2
    obtain ⟨z0, z1, zf⟩ := cells2 x2
    obtain ⟨f0, f1⟩ := store2 x2 (.int .i64 p) (.slice ko k kc)
    have HO := Lib.hid ((hO.low HB1.out.size).set2 x2 (.int .i64 p) (.slice ko k kc) (by decide) (by decide)); have HK := Lib.hid hk
    have HB2 := Lib.hid (below2 (HB1.out.trans (hB2.mono HB1.out.size)) hgn (.int .i64 p) (.slice ko k kc))
    clear hO hk hB2 x2 y0 y1
    go_wp2
    refine bodyPost_ret (v := .tuple #[.agg #[.int .i64 p, .slice ko k kc], .int .i64 0]) (by simp [results, Try.results73, go_sem, f0, f1]) rfl ?_
    rw [HR.out]
    exact ⟨ko, k, kc, cs', rfl, HO.out, HK.out, HB2.out⟩
  · rw [if_neg hq] at hr
    simp only [decide_eq_false hq] at hpo
    obtain ⟨p, a, n, c, cs⟩ := t
    simp only at hpo hr ⊢
    have HP := Lib.hid hpo; have HR := Lib.hid hr
    clear h hg s1 s2 s3 s4 s5 s6 hpo hr hq
    go_enter Try.func73, Try.ntmps73
    go_wp2_with (go_at_call 78; fail)
    obtain ⟨g1, hg1⟩ : ∃ g1, g1 = w.heap.size + 1 := ⟨_, rfl⟩
    rw [← hg1]
    generalize hW0 : World.alloc _ (.cells #[.int .i64 0, .slice none 0 0] 24) = W0
    obtain ⟨hB0, x0, x1⟩ := two' hW0 hg1
    have hgn : w.heap.size ≤ g1 := by omega
    clear hW0 hg1
    refine (HP.out W0 hB0).mono ?_
    rintro e w1 ⟨rfl, hB1⟩
    have hB01 := hB0.trans (hB1.mono hB0.size)
    have x2 := cells2at x1 hB1
    obtain ⟨z0, z1, zf⟩ := cells2 x2
    obtain ⟨f0, f1⟩ := store2 x2 (.int .i64 0) (.slice none 0 0)
    have HB2 := Lib.hid (below2 hB01 hgn (.int .i64 0) (.slice none 0 0))
    clear hB0 x0 x1 hB1 hB01 x2
    go_wp2
    refine bodyPost_ret (v := .tuple #[.agg #[.int .i64 0, .slice none 0 0], .int .i64 1]) (by simp [results, Try.results73, go_sem, f0, f1]) rfl ?_
    exact MPost.none_ HR.out HB2.out


set_option maxHeartbeats 2000000 in
/-- MARK. -/
theorem mark_any (t : Tap) (q : Int) (w : World) (h : t.ok w) (hg : goodK t.p t.ks = true) : Calls Try.prog 74 #[.agg #[.int .i64 t.p, .slice t.a t.n t.c], .int .i64 q] w (MPost w (markK t.p t.ks q)) := by
  obtain ⟨s1, s2, s3, s4, s5, s6⟩ := h.sizes hg
  have hpo := fun V (hV : Below w.heap.size w V) => pos_any t q V (h.below hV) hg
  obtain ⟨r, hr⟩ : ∃ r, r = markK t.p t.ks q := ⟨_, rfl⟩
  rw [← hr]
  unfold markK at hr
  rw [s5] at hr
  by_cases hq : 0 ≤ q ∧ q ≤ (t.n : Int)
  · rw [if_pos hq] at hr
    simp only [decide_eq_true hq] at hpo
    obtain ⟨k, rfl⟩ : ∃ k : Nat, q = k := ⟨q.toNat, by omega⟩
    rw [Int.toNat_natCast] at hr
    by_cases hkp : (k : Int) = t.p
    · have d1 : ((k : Int) == t.p) = true := beq_iff_eq.2 hkp
      rw [if_pos hkp] at hr
      obtain ⟨p, a, n, c, cs⟩ := t
      simp only at hpo hr d1 ⊢
      have HP := Lib.hid hpo; have HR := Lib.hid hr
      clear h hg s1 s2 s3 s4 s5 s6 hpo hr hq hkp
      go_enter Try.func74, Try.ntmps74
      go_wp2_with (go_at_call 78; fail)
      obtain ⟨g1, hg1⟩ : ∃ g1, g1 = w.heap.size + 1 := ⟨_, rfl⟩
      rw [← hg1]
      generalize hW0 : World.alloc _ (.cells #[.int .i64 0, .slice none 0 0] 24) = W0
      obtain ⟨hB0, x0, x1⟩ := two' hW0 hg1
      have hgn : w.heap.size ≤ g1 := by omega
      clear hW0 hg1
      refine (HP.out W0 hB0).mono ?_
      rintro e w1 ⟨rfl, hB1⟩
      have hB01 := hB0.trans (hB1.mono hB0.size)
      have x2 := cells2at x1 hB1
      obtain ⟨z0, z1, zf⟩ := cells2 x2
      obtain ⟨y0, y1, _⟩ := cells2 (cells2at x0 hB1)
      obtain ⟨f0, f1⟩ := store2 x2 (.int .i64 0) (.slice none 0 0)
      have HB2 := Lib.hid (below2 hB01 hgn (.int .i64 0) (.slice none 0 0))
      clear hB0 x0 x1 hB1 hB01 x2
      go_wp2
      refine bodyPost_ret (v := .tuple #[.agg #[.int .i64 0, .slice none 0 0], .int .i64 7]) (by simp [results, Try.results74, go_sem, f0, f1]) rfl ?_
      exact MPost.none_ HR.out HB2.out
    · have d1 : ((k : Int) == t.p) = false := beq_eq_false_iff_ne.2 hkp
      rw [if_neg hkp] at hr
      have hf := fun V (hV : Below w.heap.size w V) => put_any t k ⟨2, ⟨none, 0, 0, []⟩, false⟩ V.heap.size V (h.below hV) s6 (by omega) (by omega) (OwnB.nil_ _ _) (Nat.le_refl _)
      obtain ⟨p, a, n, c, cs⟩ := t
      simp only [Tap.ks] at hf hpo hr d1 ⊢
      have HP := Lib.hid hpo; have HF := Lib.hid hf; have HR := Lib.hid hr
      clear h hg s1 s2 s3 s4 s5 s6 hpo hf hr hq hkp
      go_enter Try.func74, Try.ntmps74
      go_wp2_with (go_at_call 78; fail)
      obtain ⟨g1, hg1⟩ : ∃ g1, g1 = w.heap.size + 1 := ⟨_, rfl⟩
      rw [← hg1]
      generalize hW0 : World.alloc _ (.cells #[.int .i64 0, .slice none 0 0] 24) = W0
      obtain ⟨hB0, x0, x1⟩ := two' hW0 hg1
      have hgn : w.heap.size ≤ g1 := by omega
      clear hW0 hg1
      refine (HP.out W0 hB0).mono ?_
      rintro e w1 ⟨rfl, hB1⟩
      have hB01 := hB0.trans (hB1.mono hB0.size)
      obtain ⟨y0, y1, _⟩ := cells2 (cells2at x0 hB1)
      have x1' := cells2at x1 hB1
      have HB1 := Lib.hid hB01; have X1 := Lib.hid x1'
      clear hB0 x0 x1 hB1 hB01 x1'
      go_wp2_with (go_at_call 72; fail)
      refine (HF.out w1 HB1.out).mono ?_
      rintro e w2 ⟨ko, kc, cs', rfl, hO, hk, hB2⟩
      have x2 := cells2at X1.out hB2
      obtain ⟨z0, z1, zf⟩ := cells2 x2
      obtain ⟨f0, f1⟩ := store2 x2 (.int .i64 p) (.slice ko (k + 1) kc)
      have HO := Lib.hid ((hO.low HB1.out.size).set2 x2 (.int .i64 p) (.slice ko (k + 1) kc) (by decide) (by decide)); have HK := Lib.hid hk
      have HB2 := Lib.hid (below2 (HB1.out.trans (hB2.mono HB1.out.size)) hgn (.int .i64 p) (.slice ko (k + 1) kc))
      clear hO hk hB2 x2 y0 y1
      go_wp2
      refine bodyPost_ret (v := .tuple #[.agg #[.int .i64 p, .slice ko (k + 1) kc], .int .i64 0]) (by simp [results, Try.results74, go_sem, f0, f1]) rfl ?_
      rw [HR.out]
      exact ⟨ko, k + 1, kc, cs', rfl, HO.out, HK.out, HB2.out⟩
  · rw [if_neg hq] at hr
    simp only [decide_eq_false hq] at hpo
    obtain ⟨p, a, n, c, cs⟩ := t
    simp only at hpo hr ⊢
    have HP := Lib.hid hpo; have HR := Lib.hid hr
    clear h hg s1 s2 s3 s4 s5 s6 hpo hr hq
    go_enter Try.func74, Try.ntmps74
    go_wp2_with (go_at_call 78; fail)
    obtain ⟨g1, hg1⟩ : ∃ g1, g1 = w.heap.size + 1 := ⟨_, rfl⟩
    rw [← hg1]
    generalize hW0 : World.alloc _ (.cells #[.int .i64 0, .slice none 0 0] 24) = W0
    obtain ⟨hB0, x0, x1⟩ := two' hW0 hg1
    have hgn : w.heap.size ≤ g1 := by omega
    clear hW0 hg1
    refine (HP.out W0 hB0).mono ?_
    rintro e w1 ⟨rfl, hB1⟩
    have hB01 := hB0.trans (hB1.mono hB0.size)
    have x2 := cells2at x1 hB1
    obtain ⟨z0, z1, zf⟩ := cells2 x2
    obtain ⟨f0, f1⟩ := store2 x2 (.int .i64 0) (.slice none 0 0)
    have HB2 := Lib.hid (below2 hB01 hgn (.int .i64 0) (.slice none 0 0))
    clear hB0 x0 x1 hB1 hB01 x2
    go_wp2
    refine bodyPost_ret (v := .tuple #[.agg #[.int .i64 0, .slice none 0 0], .int .i64 1]) (by simp [results, Try.results74, go_sem, f0, f1]) rfl ?_
    exact MPost.none_ HR.out HB2.out

end Go.Proofs.Ytmcbmemgeegodaa
