/-
  Tapes: rows of cells of the call's own; first.
-/
import Derived.Test.YtmcbmemgeegodaaMed3
import Derived.RegionTactic
import Derived.Laws.MakeOwn
import Derived.Laws.OwnMore
namespace Go.Proofs.Ytmcbmemgeegodaa
open Go.RowKit
set_option linter.unusedVariables false

theorem info50 : (Try.prog.info? 62).map (fun i => (i.zero, i.size, i.bytes)) = some (some (.agg #[.int .i64 0, .slice none 0 0, .bool false]), 3, 40) := by kernel_rfl
/-- A cell's cells. -/
def Cel.cs (c : Cel) : List Value := [.int .i64 c.k, .slice c.d.a c.d.l c.d.c, .bool c.b]
def ccs (cs : List Cel) : List Value := cs.flatMap Cel.cs
theorem ccs_snoc (cs : List Cel) (c : Cel) : ccs (cs ++ [c]) = ccs cs ++ c.cs := by unfold ccs; rw [List.flatMap_append]; simp only [List.flatMap_cons, List.flatMap_nil, List.append_nil]
theorem ccs_get (cs : List Cel) : ∀ i, (h : i < cs.length) → (ccs cs)[i * 3]? = some (.int .i64 cs[i].k) ∧ (ccs cs)[i * 3 + 1]? = some (.slice cs[i].d.a cs[i].d.l cs[i].d.c) ∧ (ccs cs)[i * 3 + 2]? = some (.bool cs[i].b) := by
  induction cs with
  | nil => intro i h; exact absurd h (Nat.not_lt_zero _)
  | cons r rs ih =>
    intro i h
    have e : ccs (r :: rs) = .int .i64 r.k :: .slice r.d.a r.d.l r.d.c :: .bool r.b :: ccs rs := rfl
    cases i with
    | zero => rw [e]; exact ⟨rfl, rfl, rfl⟩
    | succ i =>
      obtain ⟨h1, h2, h3⟩ := ih i (by simp at h; omega)
      rw [e, show (i + 1) * 3 = i * 3 + 3 by omega]
      exact ⟨h1, h2, h3⟩
/-- A part in a row of its own, from base on. -/
def OwnB (w : World) (base : Nat) (d : Part) : Prop := Own1 w d ∧ ∀ ad, d.a = some ad → base ≤ ad.block
theorem OwnB.below {w w' : World} {base : Nat} {d : Part} (h : OwnB w base d) (hB : Below w.heap.size w w') : OwnB w' base d := ⟨h.1.below hB, h.2⟩
theorem OwnB.low {w : World} {base b : Nat} {d : Part} (h : OwnB w base d) (hb : b ≤ base) : OwnB w b d := ⟨h.1, fun ad e => Nat.le_trans hb (h.2 ad e)⟩
theorem OwnB.of_ow {w : World} {base n cap : Nat} {ao : Option Addr} {zs : List Int} (h : Ow w base ao n cap zs) (hz : Bts zs) : OwnB w base ⟨ao, n, cap, zs⟩ :=
  ⟨Own1.of_ow h hz, fun ad e => by
    have := own_ge h.2.2.2 ad.block (by simp only at e; rw [e]; rfl)
    exact this⟩
theorem OwnB.nil_ (w : World) (base : Nat) : OwnB w base ⟨none, 0, 0, []⟩ := ⟨Own1.nil_ w, fun ad e => by cases e⟩
theorem OwnB.set {w : World} {base : Nat} {q : Part} (h : OwnB w base q) (X i : Nat) (u : Value) (hne : ∀ g, q.a = some ⟨g, 0, none⟩ → g ≠ X) : OwnB (w.setCell ⟨X, i, none⟩ u) base q := ⟨h.1.set X i u hne, h.2⟩
/-- THE CELLS cs LIE IN A ROW OF THE CALL'S OWN. -/
structure OCs (w : World) (base : Nat) (ko : Option Addr) (n kc : Nat) (cs : List Cel) : Prop where
  len : cs.length = n
  room : n ≤ kc
  cm : kc ≤ maxLen
  row : w.ownsRow base 62 3 (.slice ko n kc) n (ccs cs)
  own : ∀ i, (h : i < cs.length) → OwnB w base cs[i].d
theorem OCs.cells {w : World} {base : Nat} {ko : Option Addr} {n kc : Nat} {cs : List Cel} (h : OCs w base ko n kc cs) : Cs w ko cs := by
  obtain ⟨h1, h2, h3, h4, h5⟩ := h
  rcases h4.2 with ⟨q, hn⟩ | ⟨g, c, cur, q, _⟩
  · exact .inl (List.eq_nil_of_length_eq_zero (by omega))
  · simp only [Value.slice.injEq] at q
    obtain ⟨rfl, _, rfl⟩ := q
    refine .inr ⟨g, 0, rfl, fun i hi => ?_⟩
    obtain ⟨c0, c1, c2⟩ := ccs_get cs i hi
    rw [Nat.zero_add]
    exact ⟨by rw [h4.cellAt (i * 3) (by omega)]; exact c0, by rw [h4.cellAt (i * 3 + 1) (by omega)]; exact c1, by rw [h4.cellAt (i * 3 + 2) (by omega)]; exact c2, (h5 i hi).1.1⟩
theorem OCs.below {w w' : World} {base : Nat} {ko : Option Addr} {n kc : Nat} {cs : List Cel} (h : OCs w base ko n kc cs) (hB : Below w.heap.size w w') : OCs w' base ko n kc cs :=
  ⟨h.len, h.room, h.cm, owns_below3 h.row hB, fun i hi => (h.own i hi).below hB⟩
theorem OCs.nil {w : World} {base : Nat} {ko : Option Addr} {n kc : Nat} {cs : List Cel} (h : OCs w base ko n kc cs) (hn : ko = none) : kc = 0 := by
  rcases h.row.2 with ⟨q, _⟩ | ⟨g, c, cur, q, _⟩
  · simp only [Value.slice.injEq] at q; exact q.2.2
  · simp only [Value.slice.injEq] at q; rw [hn] at q; cases q.1
theorem OCs.tap {w : World} {base : Nat} {ko : Option Addr} {n kc : Nat} {cs : List Cel} (p : Int) (h : OCs w base ko n kc cs) : Tap.ok w ⟨p, ko, n, kc, cs⟩ := ⟨h.len, h.room, h.cm, h.cells, fun e => h.nil e⟩

/-- One cell more in a row that has room. -/
theorem own_next {w : World} {base g k cap : Nat} {cs : List Cel} (h : w.ownsRow base 62 3 (.slice (some ⟨g, 0, none⟩) k cap) k (ccs cs)) (hk : k < cap) :
    (∃ v0 v1 v2, w.cell? ⟨g, k * 3, none⟩ = some v0 ∧ w.cell? ⟨g, k * 3 + 1, none⟩ = some v1 ∧ w.cell? ⟨g, k * 3 + 2, none⟩ = some v2) ∧ (∀ j, w.frozen? ⟨g, j, none⟩ = false) ∧
    ∀ c : Cel, ((((w.setCell ⟨g, k * 3, none⟩ (.int .i64 c.k)).setCell ⟨g, k * 3 + 1, none⟩ (.slice c.d.a c.d.l c.d.c)).setCell ⟨g, k * 3 + 2, none⟩ (.bool c.b)).ownsRow base 62 3 (.slice (some ⟨g, 0, none⟩) (k + 1) cap) (k + 1) (ccs (cs ++ [c]))) := by
  obtain ⟨h1, h2⟩ := h
  rcases h2 with ⟨q, _⟩ | ⟨g', cap', cur, q, hb, hh, hn, hm, hs, ht⟩
  · cases q
  · simp only [Value.slice.injEq] at q
    obtain ⟨e1, _, rfl⟩ := q
    simp only [Option.some.injEq, Addr.mk.injEq, and_true] at e1
    obtain rfl := e1
    refine ⟨⟨cur[k * 3], cur[k * 3 + 1], cur[k * 3 + 2], ?_, ?_, ?_⟩, fun j => by simp [World.frozen?, hh], fun c => ?_⟩
    · simp [World.cell?, hh]
    · simp [World.cell?, hh]
    · simp [World.cell?, hh]
    · have b1 := Go.Joins.block_setCell (i := k * 3) hh (.int .i64 c.k)
      have b2 := Go.Joins.block_setCell (i := k * 3 + 1) b1 (.slice c.d.a c.d.l c.d.c)
      have b3 := Go.Joins.block_setCell (i := k * 3 + 2) b2 (.bool c.b)
      refine ⟨by rw [ccs_snoc, List.length_append, h1]; simp [Cel.cs]; omega, .inr ⟨g, cap, _, rfl, hb, b3, by omega, hm, by simp [hs], ?_⟩⟩
      rw [ccs_snoc, ← ht]
      simp only [Array.toList_setIfInBounds]
      apply List.ext_getElem?
      intro i
      by_cases hi : i < (k + 1) * 3
      · rw [List.getElem?_take_of_lt hi]
        by_cases hi2 : i < k * 3
        · rw [List.getElem?_append_left (by simp; omega), List.getElem?_take_of_lt hi2, List.getElem?_set_ne (by omega), List.getElem?_set_ne (by omega), List.getElem?_set_ne (by omega)]
        · rw [List.getElem?_append_right (by simp; omega)]
          simp only [List.length_take, Array.length_toList]
          rw [show min (k * 3) cur.size = k * 3 by omega]
          have : i = k * 3 ∨ i = k * 3 + 1 ∨ i = k * 3 + 2 := by omega
          rcases this with rfl | rfl | rfl
          · rw [List.getElem?_set_ne (by omega), List.getElem?_set_ne (by omega), List.getElem?_set_self (by simp; omega)]; simp [Cel.cs]
          · rw [List.getElem?_set_ne (by omega), List.getElem?_set_self (by simp; omega)]; simp [Cel.cs]
          · rw [List.getElem?_set_self (by simp; omega)]; simp [Cel.cs]
      · rw [List.getElem?_eq_none (by simp; omega), List.getElem?_eq_none (by simp [Cel.cs]; omega)]

/-- make, of cells. -/
theorem make_cells (n : Nat) (hn : n ≤ 1000000) (w : World) : (Instr.makeSlice 22 (.int .i64 (n : Int)) (.int .i64 ((n : Int) + 1))).run Try.prog w = .ok (.slice (some ⟨w.heap.size, 0, none⟩) n (n + 1)) (w.alloc (.cells (madeCells #[.int .i64 0, .slice none 0 0, .bool false] ((n + 1) * 3)) 62)) := by
  obtain ⟨i0, hi, hz0, hz1, hz2⟩ := info_parts info50
  have hb : (i0.bytes : Int) * ((n + 1 : Nat) : Int) ≤ 281474976710656 := by rw [hz2]; omega
  have hr := run_make (P := Try.prog) w 22 62 i0 _ Try.underlying22 hi hz0 .i64 .i64 (n : Int) ((n + 1 : Nat) : Int) (by omega) (by omega) hb (by omega)
  simp only [Int.toNat_natCast] at hr
  rw [hz1] at hr
  rw [show ((n : Int) + 1) = ((n + 1 : Nat) : Int) by omega]
  exact hr

theorem four (w : World) (o1 o2 o3 o4 : Obj) : Below w.heap.size w ((((w.alloc o1).alloc o2).alloc o3).alloc o4).drew ∧ ((((w.alloc o1).alloc o2).alloc o3).alloc o4).drew.heap[w.heap.size + 1]? = some o2 ∧
    ((((w.alloc o1).alloc o2).alloc o3).alloc o4).drew.heap[w.heap.size + 1 + 1]? = some o3 ∧ ((((w.alloc o1).alloc o2).alloc o3).alloc o4).drew.heap[w.heap.size + 1 + 1 + 1]? = some o4 := by
  have e2 := heap_alloc_new (w.alloc o1) o2
  have e3 := heap_alloc_new ((w.alloc o1).alloc o2) o3
  have e4 := heap_alloc_new (((w.alloc o1).alloc o2).alloc o3) o4
  simp only [World.size_alloc] at e2 e3 e4
  have b3 : Below (w.heap.size + 1 + 1) ((w.alloc o1).alloc o2) (((w.alloc o1).alloc o2).alloc o3) := (Below.refl _ _).alloc (by simp) _
  have b4 : Below (w.heap.size + 1 + 1 + 1) (((w.alloc o1).alloc o2).alloc o3) ((((w.alloc o1).alloc o2).alloc o3).alloc o4) := (Below.refl _ _).alloc (by simp) _
  refine ⟨((((((Below.refl _ _).alloc (Nat.le_refl _) _).alloc (by simp) _).alloc (by simp; omega) _).alloc (by simp; omega) _)).drew, ?_, ?_, e4⟩
  · show ((((w.alloc o1).alloc o2).alloc o3).alloc o4).heap[w.heap.size + 1]? = _
    rw [b4.block _ (by omega), b3.block _ (by omega)]; exact e2
  · show ((((w.alloc o1).alloc o2).alloc o3).alloc o4).heap[w.heap.size + 1 + 1]? = _
    rw [b4.block _ (by omega)]; exact e3
theorem four' {w W0 : World} {o1 o2 o3 o4 : Obj} {g4 gs gl : Nat} (h : ((((w.alloc o1).alloc o2).alloc o3).alloc o4).drew = W0) (h4 : g4 = w.heap.size + 1) (hs : gs = w.heap.size + 1 + 1) (hl : gl = w.heap.size + 1 + 1 + 1) : Below w.heap.size w W0 ∧ W0.heap[g4]? = some o2 ∧ W0.heap[gs]? = some o3 ∧ W0.heap[gl]? = some o4 ∧ W0.heap[w.heap.size]? = some o1 := by
  subst h; subst h4; subst hs; subst hl
  obtain ⟨h1, h2, h3, h4⟩ := four w o1 o2 o3 o4
  have b2 : Below (w.heap.size + 1) (w.alloc o1) ((((w.alloc o1).alloc o2).alloc o3).alloc o4).drew := (((((Below.refl _ _).alloc (by simp) _).alloc (by simp) _).alloc (by simp) _)).drew
  exact ⟨h1, h2, h3, h4, by rw [b2.block _ (by omega)]; exact heap_alloc_new w o1⟩
theorem own_start {w : World} {base g q : Nat} (hh : w.heap[g]? = some (.cells (madeCells #[.int .i64 0, .slice none 0 0, .bool false] ((q + 1) * 3)) 62)) (hb : base ≤ g) (hq : q ≤ 1000000) : w.ownsRow base 62 3 (.slice (some ⟨g, 0, none⟩) 0 (q + 1)) 0 (ccs []) :=
  ⟨rfl, .inr ⟨g, q + 1, _, rfl, hb, hh, Nat.zero_le _, by unfold maxLen; omega, by rw [size_madeCells], by rw [Nat.zero_mul]; rfl⟩⟩
theorem row_heap {w : World} {base g k cap : Nat} {xs : List Value} (h : w.ownsRow base 62 3 (.slice (some ⟨g, 0, none⟩) k cap) k xs) : ∃ cur, w.heap[g]? = some (.cells cur 62 (0, 0)) := by
  rcases h.2 with ⟨q, _⟩ | ⟨g', cap', cur, q, hb, hh, _⟩
  · cases q
  · simp only [Value.slice.injEq, Option.some.injEq, Addr.mk.injEq, and_true] at q
    obtain ⟨rfl, _⟩ := q
    exact ⟨cur, hh⟩
theorem Own1.ne_cells {w : World} {d : Part} {g : Nat} {cur : Array Value} {T : Nat} (h : Own1 w d) (hh : w.heap[g]? = some (.cells cur T (0, 0))) (hT : T ≠ 5) : ∀ g', d.a = some ⟨g', 0, none⟩ → g' ≠ g := by
  rintro g' e rfl
  rcases h.2 with h2 | ⟨g2, cur2, h2, h3⟩
  · rw [h2] at e; cases e
  · rw [h2] at e; cases e
    rw [h3] at hh
    simp only [Option.some.injEq, Obj.cells.injEq] at hh
    exact hT hh.2.1.symm
theorem own_low {w : World} {base b n kc : Nat} {ko : Option Addr} {zs : List Int} (h : Ow w base ko n kc zs) (hb : b ≤ base) : Ow w b ko n kc zs :=
  ⟨h.1, h.2.1, h.2.2.1, by
    have h4 := h.2.2.2
    refine ⟨h4.1, ?_⟩
    rcases h4.2 with q | ⟨g, cap, cur, q1, q2, q3⟩
    · exact .inl q
    · exact .inr ⟨g, cap, cur, q1, Nat.le_trans hb q2, q3⟩⟩

theorem set3_far {w : World} {gm i j l g : Nat} (h : g ≠ gm) (u0 u1 u2 : Value) : (((w.setCell ⟨gm, i, none⟩ u0).setCell ⟨gm, j, none⟩ u1).setCell ⟨gm, l, none⟩ u2).heap[g]? = w.heap[g]? := by
  rw [set_far _ _ _ _ _ h, set_far _ _ _ _ _ h, set_far _ _ _ _ _ h]
theorem keep3 {w : World} {g5 gx gm i j l : Nat} {A X0 X1 X2 : Value} (h : w.cell? ⟨g5, 1, none⟩ = some A ∧ w.cell? ⟨gx, 0, none⟩ = some X0 ∧ w.cell? ⟨gx, 1, none⟩ = some X1 ∧ w.cell? ⟨gx, 2, none⟩ = some X2) (h1 : g5 ≠ gm) (h2 : gx ≠ gm) :
    ∀ u0 u1 u2, (((w.setCell ⟨gm, i, none⟩ u0).setCell ⟨gm, j, none⟩ u1).setCell ⟨gm, l, none⟩ u2).cell? ⟨g5, 1, none⟩ = some A ∧ (((w.setCell ⟨gm, i, none⟩ u0).setCell ⟨gm, j, none⟩ u1).setCell ⟨gm, l, none⟩ u2).cell? ⟨gx, 0, none⟩ = some X0 ∧
      (((w.setCell ⟨gm, i, none⟩ u0).setCell ⟨gm, j, none⟩ u1).setCell ⟨gm, l, none⟩ u2).cell? ⟨gx, 1, none⟩ = some X1 ∧ (((w.setCell ⟨gm, i, none⟩ u0).setCell ⟨gm, j, none⟩ u1).setCell ⟨gm, l, none⟩ u2).cell? ⟨gx, 2, none⟩ = some X2 := fun u0 u1 u2 => by
  obtain ⟨a, b, c, d⟩ := h
  have k (g n : Nat) (hg : g ≠ gm) : (((w.setCell ⟨gm, i, none⟩ u0).setCell ⟨gm, j, none⟩ u1).setCell ⟨gm, l, none⟩ u2).cell? ⟨g, n, none⟩ = w.cell? ⟨g, n, none⟩ := by
    have e := set3_far (w := w) (i := i) (j := j) (l := l) hg u0 u1 u2
    generalize (((w.setCell ⟨gm, i, none⟩ u0).setCell ⟨gm, j, none⟩ u1).setCell ⟨gm, l, none⟩ u2) = W at e ⊢
    exact World.cell?_of_block e
  rw [k g5 1 h1, k gx 0 h2, k gx 1 h2, k gx 2 h2]
  exact ⟨a, b, c, d⟩
theorem OwnB.set3 {w : World} {base : Nat} {q : Part} (h : OwnB w base q) {gm i j l : Nat} (u0 u1 u2 : Value) (hne : ∀ g, q.a = some ⟨g, 0, none⟩ → g ≠ gm) : OwnB (((w.setCell ⟨gm, i, none⟩ u0).setCell ⟨gm, j, none⟩ u1).setCell ⟨gm, l, none⟩ u2) base q :=
  ((h.set gm i u0 hne).set gm j u1 hne).set gm l u2 hne

/-- Each cell's bytes in a block of their own, rising. -/
def Apart (cs : List Cel) : Prop := ∀ i j, (hi : i < cs.length) → (hj : j < cs.length) → i < j → ∀ a b, cs[i].d.a = some a → cs[j].d.a = some b → a.block < b.block
theorem Own1.lt {w : World} {d : Part} (h : Own1 w d) {a : Addr} (e : d.a = some a) : a.block < w.heap.size := by
  rcases h.2 with h2 | ⟨g, cur, h2, h3⟩
  · rw [h2] at e; cases e
  · rw [h2] at e; cases e; exact (Array.getElem?_eq_some_iff.1 h3).1
theorem Apart.snoc {cs : List Cel} {c : Cel} (h : Apart cs) (hn : ∀ i, (hi : i < cs.length) → ∀ a b, cs[i].d.a = some a → c.d.a = some b → a.block < b.block) : Apart (cs ++ [c]) := by
  intro i j hi hj hij a b ha hb
  simp only [List.length_append, List.length_cons, List.length_nil] at hi hj
  rw [List.getElem_append_left (by omega)] at ha
  by_cases hjc : j < cs.length
  · rw [List.getElem_append_left hjc] at hb
    exact h i j (by omega) hjc hij a b ha hb
  · rw [List.getElem_append_right (by omega)] at hb
    simp only [show j - cs.length = 0 by omega, List.getElem_cons_zero] at hb
    exact hn i (by omega) a b ha hb
set_option maxHeartbeats 4000000 in
theorem first_all (t : Tap) (q : Nat) (w : World) (h : t.ok w) (hd : ∀ k, (hk : k < t.cs.length) → t.cs[k].d.l ≤ 1000000) (hq : q ≤ t.n) (hqm : q ≤ 1000000) :
    Calls Try.prog 79 #[.agg #[.int .i64 t.p, .slice t.a t.n t.c], .int .i64 q] w fun e w' => ∃ ko kc cs', e = .returned (.agg #[.int .i64 t.p, .slice ko q kc]) ∧ OCs w' w.heap.size ko q kc cs' ∧ keys cs' = t.ks.take q ∧ Below w.heap.size w w' ∧ Apart cs' := by
  have hm := Nat.le_trans h.room h.cm
  have hcap := h.room
  have hcm := h.cm
  unfold maxLen at hm hcm
  have HCS := Lib.hid h.cells; have HL := Lib.hid h.len; have HD := Lib.hid hd
  obtain ⟨p, a, n, c, cs⟩ := t
  simp only [Tap.ks] at hm hcm hcap hq HCS HL HD ⊢
  clear h hd
  have hmk := make_cells q hqm
  have i0 : (0 : Int) ≤ (q : Int) := by omega
  have i1 : (q : Int) ≤ (c : Int) := by omega
  have i2 : q ≤ c := by omega
  go_enter Try.func79, Try.ntmps79
  go_wp2
  go_region
  all_goals
    obtain ⟨gl, hgl⟩ : ∃ gl, gl = w.heap.size + 1 + 1 + 1 := ⟨_, rfl⟩
    obtain ⟨gs, hgs⟩ : ∃ gs, gs = w.heap.size + 1 + 1 := ⟨_, rfl⟩
    obtain ⟨g4, hg4⟩ : ∃ g4, g4 = w.heap.size + 1 := ⟨_, rfl⟩
    rw [← hgl, ← hgs, ← hg4]
    generalize hW0 : World.drew _ = W0
    obtain ⟨hB0, x4, xs, xl, x0⟩ := four' hW0 hg4 hgs hgl
    clear hW0 hmk
    have hn4 : w.heap.size ≤ g4 := by omega
    have hns : w.heap.size ≤ gs := by omega
    have hnl : w.heap.size ≤ gl := by omega
    have y0 : W0.cell? ⟨w.heap.size, 1, none⟩ = some (.slice a n c) := by simp [World.cell?, x0]
    first
      | (have hM : W0.heap[gs]? = some (.cells (madeCells #[.int .i64 0, .slice none 0 0, .bool false] ((q + 1) * 3)) 62) := xs
         have hP : W0.heap[gl]? = some (.cells #[.int .i64 p, .slice (some ⟨gs, 0, none⟩) q (q + 1)] 24) := xl
         clear hgs hgl xs xl
         obtain ⟨gm, rfl⟩ : ∃ gm, gm = gs := ⟨_, rfl⟩
         obtain ⟨g5, rfl⟩ : ∃ g5, g5 = gl := ⟨_, rfl⟩)
      | (have hM : W0.heap[gl]? = some (.cells (madeCells #[.int .i64 0, .slice none 0 0, .bool false] ((q + 1) * 3)) 62) := xl
         have hP : W0.heap[gs]? = some (.cells #[.int .i64 p, .slice (some ⟨gl, 0, none⟩) q (q + 1)] 24) := xs
         clear hgs hgl xs xl
         obtain ⟨gm, rfl⟩ : ∃ gm, gm = gl := ⟨_, rfl⟩
         obtain ⟨g5, rfl⟩ : ∃ g5, g5 = gs := ⟨_, rfl⟩)
    have HB0 := Lib.hid hB0; have X4 := Lib.hid x4; have HM := Lib.hid (own_start (base := w.heap.size) hM (by assumption) hqm); have HP := Lib.hid hP
    clear hB0 x0 x4 hg4 hM hP
    go_wp2
    clear y0
    go_loopw [20] (fun i wr => ∃ (k : Nat) (cs' : List Cel), k ≤ q ∧ i = .int .i64 k ∧ cs'.length = k ∧ keys cs' = (keys cs).take k ∧ wr.ownsRow w.heap.size 62 3 (.slice (some ⟨gm, 0, none⟩) k (q + 1)) k (ccs cs') ∧ (∀ i, (h : i < cs'.length) → OwnB wr w.heap.size cs'[i].d) ∧
      wr.heap[g5]? = some (.cells #[.int .i64 p, .slice (some ⟨gm, 0, none⟩) q (q + 1)] 24) ∧ wr.heap[g4]? = some (.cells #[.int .i64 0, .slice none 0 0] 24) ∧ Below w.heap.size w wr ∧ Apart cs') (fun i _ => q - (intOf i).toNat)
    case atStart => exact ⟨0, [], Nat.zero_le _, rfl, rfl, rfl, HM.out, fun i h => absurd h (Nat.not_lt_zero _), HP.out, X4.out, HB0.out, fun i j hi => absurd hi (Nat.not_lt_zero _)⟩
    case round =>
      obtain ⟨k, cs', hk, rfl, hl', hkeys, hrow, hown, h5, h4, hB, hap⟩ := hrel
      have HAP := Lib.hid hap
      clear HM HP X4 HB0
      have HROW := Lib.hid hrow; have HOWN := Lib.hid hown; have H5 := Lib.hid h5; have H4 := Lib.hid h4; have HB := Lib.hid hB; have HL' := Lib.hid hl'; have HK := Lib.hid hkeys
      clear hl' hkeys hown hap
      by_cases hlt : k < q
      · have e2 : decide ((k : Int) < (q : Int)) = true := decide_eq_true (by omega)
        have hlt1 : k < cs.length := by rw [HL.out]; omega
        obtain ⟨b, o, rfl, c0, c1, c2, hd⟩ := (HCS.out.below hB).at hlt1
        have hl6 := HD.out k hlt1
        have hkt : (keys cs).take (k + 1) = (keys cs).take k ++ [cs[k].key] := by
          rw [List.take_add_one, keys_get cs k hlt1]; rfl
        obtain ⟨x, hx⟩ : ∃ x, x = cs[k] := ⟨_, rfl⟩
        rw [← hx] at c0 c1 c2 hd hl6 hkt
        have HKT := Lib.hid hkt
        obtain ⟨W1, hW1⟩ : ∃ W1, W1 = wr.alloc (.cells #[.int .i64 x.k, .slice x.d.a x.d.l x.d.c, .bool x.b] 62) := ⟨_, rfl⟩
        have hBW : Below wr.heap.size wr W1 := by rw [hW1]; exact (Below.refl _ _).alloc (Nat.le_refl _) _
        have hsz : W1.heap.size = wr.heap.size + 1 := by rw [hW1]; simp
        have hbx : W1.heap[wr.heap.size]? = some (.cells #[.int .i64 x.k, .slice x.d.a x.d.l x.d.c, .bool x.b] 62) := by rw [hW1]; exact heap_alloc_new _ _
        have h5' : W1.heap[g5]? = some (.cells #[.int .i64 p, .slice (some ⟨gm, 0, none⟩) q (q + 1)] 24) := by rw [hBW.block _ (Array.getElem?_eq_some_iff.1 h5).1]; exact h5
        have hcell : ∀ V, Below W1.heap.size W1 V → V.cell? ⟨g5, 1, none⟩ = some (.slice (some ⟨gm, 0, none⟩) q (q + 1)) ∧ V.cell? ⟨wr.heap.size, 0, none⟩ = some (.int .i64 x.k) ∧ V.cell? ⟨wr.heap.size, 1, none⟩ = some (.slice x.d.a x.d.l x.d.c) ∧ V.cell? ⟨wr.heap.size, 2, none⟩ = some (.bool x.b) := fun V hV => by
          have q5 := hV.block _ (Array.getElem?_eq_some_iff.1 h5').1
          have qx := hV.block _ (Array.getElem?_eq_some_iff.1 hbx).1
          rw [h5'] at q5; rw [hbx] at qx
          simp [World.cell?, q5, qx]
        have hcl := fun V (hV : Below W1.heap.size W1 V) => clone_any x.d V ((hd.below hBW).below hV) hl6
        have hrow1 := owns_below3 hrow hBW
        obtain ⟨cur, hcur⟩ := row_heap hrow1
        have ng5 : g5 ≠ gm := by
          rintro rfl
          rw [h5'] at hcur
          simp only [Option.some.injEq, Obj.cells.injEq] at hcur
          exact absurd hcur.2.1 (by decide)
        have ng4 : g4 ≠ gm := by
          rintro rfl
          rw [hBW.block _ (Array.getElem?_eq_some_iff.1 h4).1, h4] at hcur
          simp only [Option.some.injEq, Obj.cells.injEq] at hcur
          exact absurd hcur.2.1 (by decide)
        have ngx : wr.heap.size ≠ gm := by
          obtain ⟨cur0, hc0⟩ := row_heap hrow
          have := (Array.getElem?_eq_some_iff.1 hc0).1
          omega
        have HCELL := Lib.hid hcell; have HCL := Lib.hid hcl; have HBW := Lib.hid hBW; have HW1 := Lib.hid hW1; have HROW1 := Lib.hid hrow1; have HD1 := Lib.hid (hd.below hBW); have HX := Lib.hid hx; have HSZ := Lib.hid hsz; have HCUR := Lib.hid hcur
        have j1 : (0 : Int) ≤ (k : Int) := by omega
        have j2 : (k : Int) < (q : Int) := by omega
        clear hrow h5 h4 hB hd hl6 hkt hW1 hBW hbx h5' hcell hcl hrow1 hx hsz hcur
        go_wp2
        rw [← HW1.out]
        go_region_held3 (fun V => V.cell? ⟨g5, 1, none⟩ = some (.slice (some ⟨gm, 0, none⟩) q (q + 1)) ∧ V.cell? ⟨wr.heap.size, 0, none⟩ = some (.int .i64 x.k) ∧ V.cell? ⟨wr.heap.size, 1, none⟩ = some (.slice x.d.a x.d.l x.d.c) ∧ V.cell? ⟨wr.heap.size, 2, none⟩ = some (.bool x.b)) (first | exact HCELL.out _ (Below.refl _ _).drew | exact HCELL.out _ HB5.out | exact HS3.out _ _ _) ((go_at_call 70; (with_reducible refine (HCL.out _ (Below.refl _ _).drew).mono ?_); rintro e w5 ⟨ko, kc, rfl, how, hB5⟩; have HB5 : Hid (Below W1.heap.size W1 w5) := (Below.refl _ _).drew.trans hB5; have HOW := Lib.hid how; obtain ⟨⟨v0, v1, v2, s0, s1, s2⟩, sf, hnext⟩ := own_next (owns_below3 HROW1.out HB5.out) (by omega); have HN := Lib.hid hnext; have HS3 := Lib.hid (keep3 (i := k * 3) (j := k * 3 + 1) (l := k * 3 + 2) (HCELL.out _ HB5.out) ng5 ngx); clear hnext hB5 how))
        rename_i hheld
        have HB6 : Hid (Below wr.heap.size wr w5) := HBW.out.trans (HB5.out.mono HBW.out.size)
        clear hheld s0 s1 s2 sf
        go_wp2
        go_roundw
        case rel =>
          have hb6 := HB6.out
          obtain ⟨cur0, hc0⟩ := row_heap HROW.out
          have hc5 : w5.heap[gm]? = some (.cells cur0 62 (0, 0)) := by rw [hb6.block _ (Array.getElem?_eq_some_iff.1 hc0).1]; exact hc0
          refine ⟨k + 1, cs' ++ [⟨x.k, ⟨ko, x.d.l, kc, x.d.z⟩, x.b⟩], by omega, by go_num, by simp [HL'.out], ?_, HN.out ⟨x.k, ⟨ko, x.d.l, kc, x.d.z⟩, x.b⟩, ?_, ?_, ?_, ?_, ?_⟩
          · rw [HKT.out]; unfold keys; rw [List.map_append]; congr 1
          · intro i hi
            by_cases hin : i < cs'.length
            · rw [List.getElem_append_left hin]
              have h1 := (HOWN.out i hin).below hb6
              exact h1.set3 _ _ _ (h1.1.ne_cells hc5 (by omega))
            · have : i = cs'.length := by simp at hi; omega
              subst this
              rw [List.getElem_append_right (Nat.le_refl _)]
              simp only [Nat.sub_self, List.getElem_cons_zero]
              have h1 : OwnB w5 w.heap.size ⟨ko, x.d.l, kc, x.d.z⟩ := (OwnB.of_ow HOW.out HD1.out.bts).low (Nat.le_trans HB.out.size (by have := HSZ.out; show wr.heap.size ≤ W1.heap.size; omega))
              exact h1.set3 _ _ _ (h1.1.ne_cells hc5 (by omega))
          · rw [set3_far ng5, hb6.block _ (Array.getElem?_eq_some_iff.1 H5.out).1]; exact H5.out
          · rw [set3_far ng4, hb6.block _ (Array.getElem?_eq_some_iff.1 H4.out).1]; exact H4.out
          · exact (((HB.out.trans (hb6.mono HB.out.size)).setCell (by assumption) _).setCell (by assumption) _).setCell (by assumption) _
          · refine HAP.out.snoc fun i hi a b ha hb => ?_
            have h1 := (HOWN.out i hi).1.lt ha
            have h2 := own_ge HOW.out.2.2.2 b.block (by simp only at hb; rw [hb]; rfl)
            have h3 := HSZ.out
            have h4 : W1.drew.heap.size = W1.heap.size := rfl
            omega
        case measure => simp [intOf]; omega
      · have e2 : decide ((k : Int) < (q : Int)) = false := decide_eq_false (by omega)
        obtain rfl : q = k := by omega
        have z0 : wr.cell? ⟨g5, 0, none⟩ = some (.int .i64 p) := by simp [World.cell?, h5]
        have z1 : wr.cell? ⟨g5, 1, none⟩ = some (.slice (some ⟨gm, 0, none⟩) q (q + 1)) := by simp [World.cell?, h5]
        have y0 : wr.cell? ⟨g4, 0, none⟩ = some (.int .i64 0) := by simp [World.cell?, h4]
        have y1 : wr.cell? ⟨g4, 1, none⟩ = some (.slice none 0 0) := by simp [World.cell?, h4]
        have yf : ∀ j, wr.frozen? ⟨g4, j, none⟩ = false := fun j => by simp [World.frozen?, h4]
        have hx4 := Go.Joins.block_setCell (i := 1) (Go.Joins.block_setCell (i := 0) h4 (.int .i64 p)) (.slice (some ⟨gm, 0, none⟩) q (q + 1))
        have x0 : ((wr.setCell ⟨g4, 0, none⟩ (.int .i64 p)).setCell ⟨g4, 1, none⟩ (.slice (some ⟨gm, 0, none⟩) q (q + 1))).cell? ⟨g4, 0, none⟩ = some (.int .i64 p) := by simp [World.cell?, hx4]
        have x1 : ((wr.setCell ⟨g4, 0, none⟩ (.int .i64 p)).setCell ⟨g4, 1, none⟩ (.slice (some ⟨gm, 0, none⟩) q (q + 1))).cell? ⟨g4, 1, none⟩ = some (.slice (some ⟨gm, 0, none⟩) q (q + 1)) := by simp [World.cell?, hx4]
        clear hrow h5 h4 hB hx4
        go_wp2
        refine bodyPost_ret (v := .agg #[.int .i64 p, .slice (some ⟨gm, 0, none⟩) q (q + 1)]) (by simp [results, Try.results79, go_sem, x0, x1]) rfl ?_
        obtain ⟨cur0, hc0⟩ := row_heap HROW.out
        have ng4 : g4 ≠ gm := by
          rintro rfl
          rw [H4.out] at hc0
          simp only [Option.some.injEq, Obj.cells.injEq] at hc0
          exact absurd hc0.2.1 (by decide)
        refine ⟨some ⟨gm, 0, none⟩, q + 1, cs', rfl, ⟨HL'.out, Nat.le_succ _, by unfold maxLen; omega, ?_, fun i hi => ?_⟩, HK.out, (HB.out.setCell (by assumption) _).setCell (by assumption) _, HAP.out⟩
        · have hr := HROW.out
          refine ⟨hr.1, ?_⟩
          rcases hr.2 with ⟨e, _⟩ | ⟨g, cap, cur, e, hb, hh, hrest⟩
          · cases e
          · simp only [Value.slice.injEq, Option.some.injEq, Addr.mk.injEq, and_true] at e
            obtain ⟨rfl, _, rfl⟩ := e
            exact .inr ⟨gm, q + 1, cur, rfl, hb, by rw [set_far _ _ _ _ _ ng4.symm, set_far _ _ _ _ _ ng4.symm]; exact hh, hrest⟩
        · have h1 := HOWN.out i hi
          have hne := h1.1.ne_cells H4.out (by omega)
          exact (h1.set g4 0 _ hne).set g4 1 _ hne
theorem first_any (t : Tap) (q : Nat) (w : World) (h : t.ok w) (hd : ∀ k, (hk : k < t.cs.length) → t.cs[k].d.l ≤ 1000000) (hq : q ≤ t.n) (hqm : q ≤ 1000000) :
    Calls Try.prog 79 #[.agg #[.int .i64 t.p, .slice t.a t.n t.c], .int .i64 q] w fun e w' => ∃ ko kc cs', e = .returned (.agg #[.int .i64 t.p, .slice ko q kc]) ∧ OCs w' w.heap.size ko q kc cs' ∧ keys cs' = t.ks.take q ∧ Below w.heap.size w w' :=
  (first_all t q w h hd hq hqm).mono fun _ _ ⟨ko, kc, cs', h1, h2, h3, h4, _⟩ => ⟨ko, kc, cs', h1, h2, h3, h4⟩
end Go.Proofs.Ytmcbmemgeegodaa
