/-
  'x, y := a[i], b[i]', whole structs: a statement that draws its order: one rule for all such.
-/
import Derived.Test.YtliponaabgcceaaFlat
import Derived.Orders
import Derived.OrdersHeld
import Derived.Laws.NewFold
namespace Go.Proofs.Ytliponaabgcceaa
open Go.RowKit
set_option linter.unusedVariables false

section
variable {P : Program} {ops : Array Oper} {Q : Exit → Act → World → Prop}
/-- These may be taken first, one behind the other. -/
def takeB (ops : Array Oper) : List Nat → Array Bool → Bool
  | [], _ => true
  | i :: is, L => (Region.ready .any ops L).contains i && Region.free .any ops L i && takeB ops is (L.setIfInBounds i true)
def seen : List Nat → Array Bool → Array Bool
  | [], L => L
  | i :: is, L => seen is (L.setIfInBounds i true)
/-- Each yields what it yields in whatever world that meets S. -/
def yieldsS (P : Program) (ops : Array Oper) (S : World → Prop) (K : Act → Prop) : List Oper → Act → Prop
  | [], a => K a
  | o :: l, a => ∃ v, YieldsIf P ops S o v a ∧ yieldsS P ops S K l (a.put o.dst v)
theorem any_take {S : World → Prop} (hsel : Region.noSelect ops = true) (hQ : ∀ c a d v w, Q (.panic c) (Act.put a d v) w → Q (.panic c) a w) {fuel : Nat} {w : World} (hS : S w) {L' : Array Bool} :
    ∀ (ps : List Nat) (lp : List Oper) (L : Array Bool) (a : Act), ps.map (fun i => ops[i]?) = lp.map some → takeB ops ps L = true → seen ps L = L' → yieldsS P ops S (fun a' => wpAnyH P .any ops Q S fuel L' a' w) lp a → wpAnyH P .any ops Q S (fuel + ps.length) L a w
  | [], [], L, a, _, _, hL, h => by subst hL; exact h
  | [], o :: l, L, a, hl, _, _, h => by cases hl
  | i :: is, [], L, a, hl, _, _, h => by cases hl
  | i :: is, o :: l, L, a, hl, hB, hL, h => by
    simp only [List.map_cons, List.cons.injEq] at hl
    obtain ⟨h0, hl⟩ := hl
    simp only [takeB, Bool.and_eq_true] at hB
    obtain ⟨v, hy, h⟩ := h
    have := wpAnyH_take (P := P) (Q := Q) (S := S) (fuel := fuel + is.length) (w := w) h0 hsel hB.1.2 hB.1.1 (fun c a w => hQ c a _ _ w) hy hS (any_take hsel hQ hS is l _ _ hl hB.2 hL h)
    rw [show fuel + (i :: is).length = fuel + is.length + 1 by simp; omega]
    exact this
/-- What stands ahead is closed by one order. -/
theorem any_one {S : World → Prop} {i : Nat} {o : Oper} {fuel : Nat} {L : Array Bool} {a : Act} {w w' : World} {v : Value} (hi : ops[i]? = some o) (hr : Region.ready .any ops L = [i]) (hg : o.guard = none) (he : (execOp a.eval o).run P w = .ok (.value v) w') (hS : S w') (h : wpAnyH P .any ops Q S fuel (L.setIfInBounds i true) (a.put o.dst v) w') :
    wpAnyH P .any ops Q S (fuel + 1) L a w := by
  refine wpAnyH_all hr (by simp) fun j hj => ?_
  have : j = i := by simpa using hj
  subst this
  have hw : Region.wanted o (yielded ops a.tmps) = true := by simp [Region.wanted, hg]
  unfold wpOp
  simp only [hi]
  rw [if_pos hw]
  left
  unfold Oper.wp
  rw [he]
  exact ⟨hS, h⟩
theorem any_skip {S : World → Prop} {i : Nat} {o : Oper} {fuel : Nat} {L : Array Bool} {a : Act} {w w' : World} (hi : ops[i]? = some o) (hr : Region.ready .any ops L = [i]) (hg : o.guard = none) (he : (execOp a.eval o).run P w = .ok .skip w') (hS : S w') (h : wpAnyH P .any ops Q S fuel (L.setIfInBounds i true) (a.put o.dst undef) w') :
    wpAnyH P .any ops Q S (fuel + 1) L a w := by
  refine wpAnyH_all hr (by simp) fun j hj => ?_
  have : j = i := by simpa using hj
  subst this
  have hw : Region.wanted o (yielded ops a.tmps) = true := by simp [Region.wanted, hg]
  unfold wpOp
  simp only [hi]
  rw [if_pos hw]
  left
  unfold Oper.wp
  rw [he]
  exact ⟨hS, h⟩
def pairB (ops : Array Oper) : Bool :=
  let L := seen [0, 1, 2, 3, 4, 5, 6, 7] (Array.replicate ops.size false)
  takeB ops [0, 1, 2, 3, 4, 5, 6, 7] (Array.replicate ops.size false) && Region.noSelect ops && decide (Region.ready .any ops L = [8, 9]) && decide (Region.ready .any ops (L.setIfInBounds 8 true) = [9]) && decide (Region.ready .any ops (L.setIfInBounds 9 true) = [8]) &&
  decide (Region.ready .any ops ((L.setIfInBounds 8 true).setIfInBounds 9 true) = [10]) && decide (Region.ready .any ops ((L.setIfInBounds 9 true).setIfInBounds 8 true) = [10]) &&
  decide (Region.ready .any ops (((L.setIfInBounds 8 true).setIfInBounds 9 true).setIfInBounds 10 true) = [11]) && decide (Region.ready .any ops (((L.setIfInBounds 9 true).setIfInBounds 8 true).setIfInBounds 10 true) = [11]) &&
  decide (Region.ready .any ops ((((L.setIfInBounds 8 true).setIfInBounds 9 true).setIfInBounds 10 true).setIfInBounds 11 true) = []) && decide (Region.ready .any ops ((((L.setIfInBounds 9 true).setIfInBounds 8 true).setIfInBounds 10 true).setIfInBounds 11 true) = [])
theorem below_row {B g : Nat} {w0 w : World} {cs : Array Value} (h : Below B w0 w) (hg : B ≤ g) : Below B w0 (w.setRow g cs) :=
  ⟨h.os, h.tape, h.output, by simpa using h.size, fun b hb => by rw [setRow_other w g b _ (by omega)]; exact h.block b hb⟩
/-- What the two stores leave. -/
theorem pair_stores {a : Act} {w0 w : World} {o10 o11 : Oper} {d8 d9 s1 s2 : Nat} {T : TypeId} {x y : List Value} {g8 g9 : Nat} {z : Array Value} {L : Array Bool}
    (h10 : ops[10]? = some o10) (h11 : ops[11]? = some o11) (g10 : o10.guard = none) (g11 : o11.guard = none) (n10 : o10.dst = none) (n11 : o11.dst = none) (p10 : o10.op = .store T (.tmp d8) (.tmp s1)) (p11 : o11.op = .store T (.tmp d9) (.tmp s2))
    (hr1 : Region.ready .any ops L = [10]) (hr2 : Region.ready .any ops (L.setIfInBounds 10 true) = [11]) (hr3 : Region.ready .any ops ((L.setIfInBounds 10 true).setIfInBounds 11 true) = [])
    (hi : (P.info? T).map (·.size) = some z.size) (hx : x.length = z.size) (hy : y.length = z.size) (ox : ∀ v ∈ x, v.oneCell' = true) (oy : ∀ v ∈ y, v.oneCell' = true)
    (e8 : a.eval (.tmp d8) = .pointer (some ⟨g8, 0, none⟩)) (e9 : a.eval (.tmp d9) = .pointer (some ⟨g9, 0, none⟩)) (ex : a.eval (.tmp s1) = .agg x.toArray) (ey : a.eval (.tmp s2) = .agg y.toArray)
    (hne : g8 ≠ g9) (l8 : w0.heap.size ≤ g8) (l9 : w0.heap.size ≤ g9) (b8 : w.heap[g8]? = some (.cells z T (0, 0))) (b9 : w.heap[g9]? = some (.cells z T (0, 0))) (hB : Below w0.heap.size w0 w)
    (h : ∀ W', Below w0.heap.size w0 W' → W'.heap[g8]? = some (.cells x.toArray T (0, 0)) → W'.heap[g9]? = some (.cells y.toArray T (0, 0)) → Q .normal a W') : wpAnyH P .any ops Q (fun V => Below w0.heap.size w0 V) 2 L a w := by
  have r1 := run_storeVar_row (P := P) w g8 T T z x.toArray b8 (by simpa [hx] using hi) (by simp [hx]) (all_oneCell_toArray ox)
  have hB1 : Below w0.heap.size w0 (w.setRow g8 x.toArray) := below_row hB l8
  have b9' : (w.setRow g8 x.toArray).heap[g9]? = some (.cells z T (0, 0)) := by rw [setRow_other w g8 g9 _ (Ne.symm hne)]; exact b9
  have b8' : (w.setRow g8 x.toArray).heap[g8]? = some (.cells x.toArray T (0, 0)) := setRow_heap w g8 _ _ T _ b8
  have r2 := run_storeVar_row (P := P) (w.setRow g8 x.toArray) g9 T T z y.toArray b9' (by simpa [hy] using hi) (by simp [hy]) (all_oneCell_toArray oy)
  have hB2 : Below w0.heap.size w0 ((w.setRow g8 x.toArray).setRow g9 y.toArray) := below_row hB1 l9
  refine any_skip h10 hr1 g10 (w' := w.setRow g8 x.toArray) ?_ hB1 ?_
  · unfold execOp
    simp only [p10, e8, ex, Instr.storeAt, Instr.sureAddr, Sem.run_bind, Sem.run_pure, Result.andThen_ok, r1]
  · rw [n10]
    refine any_skip h11 hr2 g11 (w' := (w.setRow g8 x.toArray).setRow g9 y.toArray) ?_ hB2 ?_
    · unfold execOp
      simp only [Act.put, p11, e9, ey, Instr.storeAt, Instr.sureAddr, Sem.run_bind, Sem.run_pure, Result.andThen_ok, r2]
    · rw [n11]
      refine ⟨hr3, h _ hB2 ?_ ?_⟩
      · rw [setRow_other _ g9 g8 _ hne]; exact b8'
      · exact setRow_heap _ g9 _ _ T _ b9'
/-- THE RULE. -/
theorem wp_region_pair {id : Nat} {a : Act} {w : World} (hm : P.follows .mixedOrders = true) (hB : pairB ops = true) (h12 : ops.size = 12) (lp : List Oper) (o8 o9 o10 o11 : Oper) (hp : [0, 1, 2, 3, 4, 5, 6, 7].map (fun i => ops[i]?) = lp.map some)
    (h8 : ops[8]? = some o8) (h9 : ops[9]? = some o9) (h10 : ops[10]? = some o10) (h11 : ops[11]? = some o11) (d8 d9 s1 s2 : Nat) (T : TypeId) (z : Array Value)
    (g8 : o8.guard = none) (g9 : o9.guard = none) (g10 : o10.guard = none) (g11 : o11.guard = none) (n8 : o8.dst = some d8) (n9 : o9.dst = some d9) (n10 : o10.dst = none) (n11 : o11.dst = none)
    (p8 : o8.op = .alloc T) (p9 : o9.op = .alloc T) (p10 : o10.op = .store T (.tmp d8) (.tmp s1)) (p11 : o11.op = .store T (.tmp d9) (.tmp s2))
    (hz : ∀ V : World, (Instr.alloc T true (.tuple #[])).run P V = .ok (.pointer (some ⟨V.heap.size, 0, none⟩)) (V.alloc (.cells z T (0, 0))))
    (hi : (P.info? T).map (·.size) = some z.size) (x y : List Value) (hx : x.length = z.size) (hy : y.length = z.size) (ox : ∀ v ∈ x, v.oneCell' = true) (oy : ∀ v ∈ y, v.oneCell' = true) (hd : d8 ≠ d9) (hd1 : s1 ≠ d8) (hd2 : s1 ≠ d9) (hd3 : s2 ≠ d8) (hd4 : s2 ≠ d9)
    (h : yieldsS P ops (fun V => Below w.heap.size w V) (fun a' => (d8 < a'.tmps.size ∧ d9 < a'.tmps.size) ∧ a'.eval (.tmp s1) = .agg x.toArray ∧ a'.eval (.tmp s2) = .agg y.toArray ∧
      ∀ p8 p9 W', Below w.heap.size w W' → W'.heap[p8]? = some (.cells x.toArray T (0, 0)) → W'.heap[p9]? = some (.cells y.toArray T (0, 0)) → Q .normal ((a'.put (some d8) (.pointer (some ⟨p8, 0, none⟩))).put (some d9) (.pointer (some ⟨p9, 0, none⟩))) W') lp a) : (Code.region id ops true).wp P Q a w := by
  have e8 : ∀ (e : Operand → Value) (V : World), (execOp e o8).run P V = .ok (.value (.pointer (some ⟨V.heap.size, 0, none⟩))) (V.alloc (.cells z T (0, 0))) := fun e V => by
    unfold execOp; simp only [p8, Sem.run_bind, hz, Result.andThen_ok, Sem.run_pure]
  have e9 : ∀ (e : Operand → Value) (V : World), (execOp e o9).run P V = .ok (.value (.pointer (some ⟨V.heap.size, 0, none⟩))) (V.alloc (.cells z T (0, 0))) := fun e V => by
    unfold execOp; simp only [p9, Sem.run_bind, hz, Result.andThen_ok, Sem.run_pure]
  have hBB := hB
  simp only [pairB, Bool.and_eq_true, decide_eq_true_eq] at hBB
  obtain ⟨⟨⟨⟨⟨⟨⟨⟨⟨⟨t1, t2⟩, t3⟩, t4⟩, t5⟩, t6⟩, t7⟩, t8⟩, t9⟩, t10⟩, t11⟩ := hBB
  obtain ⟨L, hL⟩ : ∃ L, L = seen [0, 1, 2, 3, 4, 5, 6, 7] (Array.replicate ops.size false) := ⟨_, rfl⟩
  rw [← hL] at t3 t4 t5 t6 t7 t8 t9 t10 t11
  refine wp_region_noPanic (wp_region_held (S := fun V => Below w.heap.size w V) hm ?_)
  have hS0 : Below w.heap.size w { w with drawn := w.drawn + 1 } := (Below.refl w.heap.size w).drew
  have hmono : ∀ (lp : List Oper) (a : Act) (K K' : Act → Prop), (∀ a, K a → K' a) → yieldsS P ops (fun V => Below w.heap.size w V) K lp a → yieldsS P ops (fun V => Below w.heap.size w V) K' lp a := by
    intro lp
    induction lp with
    | nil => intro a K K' hk h; exact hk _ h
    | cons o l ih => intro a K K' hk h; obtain ⟨v, h1, h2⟩ := h; exact ⟨v, h1, ih _ K K' hk h2⟩
  have := any_take (P := P) (ops := ops) (Q := NoPanic Q) (S := fun V => Below w.heap.size w V) t2 (fun _ _ _ _ _ h => h) (fuel := 4) hS0 (L' := L) [0, 1, 2, 3, 4, 5, 6, 7] lp _ a hp t1 hL.symm (hmono lp a _ _ ?_ h)
  · rw [h12]; rw [h12] at this; exact this
  rintro a' ⟨⟨z8, z9⟩, ex, ey, hk⟩
  have hw8 : Region.wanted o8 (yielded ops a'.tmps) = true := by simp [Region.wanted, g8]
  have hw9 : Region.wanted o9 (yielded ops a'.tmps) = true := by simp [Region.wanted, g9]
  have pe : ∀ (u v : Value), ((a'.put (some d8) u).put (some d9) v).eval (.tmp d8) = u ∧ ((a'.put (some d8) u).put (some d9) v).eval (.tmp d9) = v ∧ ((a'.put (some d8) u).put (some d9) v).eval (.tmp s1) = .agg x.toArray ∧ ((a'.put (some d8) u).put (some d9) v).eval (.tmp s2) = .agg y.toArray := fun u v => by
    refine ⟨?_, ?_, ?_, ?_⟩
    · rw [Act.eval_put (fun d hd' e => hd (by cases hd'; cases e; rfl))]
      simp [Act.put, Act.eval, z8]
    · simp [Act.put, Act.eval, z9]
    · rw [Act.eval_put (fun d hd' e => hd2 (by cases hd'; cases e; rfl)), Act.eval_put (fun d hd' e => hd1 (by cases hd'; cases e; rfl)), ex]
    · rw [Act.eval_put (fun d hd' e => hd4 (by cases hd'; cases e; rfl)), Act.eval_put (fun d hd' e => hd3 (by cases hd'; cases e; rfl)), ey]
  obtain ⟨V, hV⟩ : ∃ V : World, V = { w with drawn := w.drawn + 1 } := ⟨_, rfl⟩
  have hsz : V.heap.size = w.heap.size := by rw [hV]
  rw [← hV] at hS0 ⊢
  have hB1 : Below w.heap.size w (V.alloc (.cells z T (0, 0))) := hS0.alloc (by rw [hsz]; exact Nat.le_refl _) _
  have hB2 : Below w.heap.size w ((V.alloc (.cells z T (0, 0))).alloc (.cells z T (0, 0))) := hB1.alloc (by simp; omega) _
  have b8 : ((V.alloc (.cells z T (0, 0))).alloc (.cells z T (0, 0))).heap[V.heap.size]? = some (.cells z T (0, 0)) := by
    rw [((Below.refl (V.alloc (.cells z T (0, 0))).heap.size _).alloc (Nat.le_refl _) (.cells z T (0, 0))).block _ (by simp)]; exact heap_alloc_new _ _
  have b9 : ((V.alloc (.cells z T (0, 0))).alloc (.cells z T (0, 0))).heap[(V.alloc (.cells z T (0, 0))).heap.size]? = some (.cells z T (0, 0)) := heap_alloc_new _ _
  have hs1 : (V.alloc (.cells z T (0, 0))).heap.size = V.heap.size + 1 := by simp
  refine wpAnyH_all t3 (by simp) fun j hj => ?_
  have hj : j = 8 ∨ j = 9 := by simpa using hj
  rcases hj with rfl | rfl
  · unfold wpOp
    simp only [h8]
    rw [if_pos hw8]
    left
    unfold Oper.wp
    rw [e8]
    refine ⟨hB1, any_one h9 t4 g9 (e9 _ _) hB2 ?_⟩
    rw [n8, n9]
    obtain ⟨q1, q2, q3, q4⟩ := pe (.pointer (some ⟨V.heap.size, 0, none⟩)) (.pointer (some ⟨(V.alloc (.cells z T (0, 0))).heap.size, 0, none⟩))
    exact pair_stores (Q := NoPanic Q) h10 h11 g10 g11 n10 n11 p10 p11 t6 t8 t10 hi hx hy ox oy q1 q2 q3 q4 (by rw [hs1]; omega) (by omega) (by omega) b8 b9 hB2 (fun W' h1 h2 h3 => hk _ _ W' h1 h2 h3)
  · unfold wpOp
    simp only [h9]
    rw [if_pos hw9]
    left
    unfold Oper.wp
    rw [e9]
    refine ⟨hB1, any_one h8 t5 g8 (e8 _ _) hB2 ?_⟩
    rw [n8, n9, Act.put_comm a' _ _ (fun d hd' e => hd (by cases hd'; cases e; rfl))]
    obtain ⟨q1, q2, q3, q4⟩ := pe (.pointer (some ⟨(V.alloc (.cells z T (0, 0))).heap.size, 0, none⟩)) (.pointer (some ⟨V.heap.size, 0, none⟩))
    exact pair_stores (Q := NoPanic Q) h10 h11 g10 g11 n10 n11 p10 p11 t7 t9 t11 hi hx hy ox oy q1 q2 q3 q4 (by rw [hs1]; omega) (by omega) (by omega) b9 b8 hB2 (fun W' h1 h2 h3 => hk _ _ W' h1 h2 h3)
end
end Go.Proofs.Ytliponaabgcceaa
