/-
  Aggregates: Need, Pack.
-/
import Derived.Test.YtifbbikhjolnjaaDoorAg2
namespace Go.Proofs.YtifbbikhjolnjaaDoor
open Go.RowKit
set_option linter.unusedVariables false

/-- How many blocks of s bytes hold N bytes. -/
def nb (N s : Nat) : Nat := (N + s - 1) / s
theorem tdiv_nb (N s : Nat) (hs : 0 < s) : ((N : Int) + s - 1).tdiv (s : Int) = ((nb N s : Nat) : Int) := by
  have e : ((N : Int) + s - 1) = ((N + s - 1 : Nat) : Int) := by omega
  rw [e]
  unfold nb
  rw [Int.tdiv_eq_ediv_of_nonneg (by omega)]
  exact (Int.natCast_ediv _ _).symm

/-- What Need leaves. -/
def NP (w : World) (size : Int) (rs : List Rec) (e : Ending) (w' : World) : Prop :=
  Below w.heap.size w w' ∧ ((jE size rs = 0 ∧ e = .returned (.tuple #[.int .i64 (nb (ag rs).length size.toNat), .int .i64 0])) ∨ (jE size rs ≠ 0 ∧ e = .returned (.tuple #[.int .i64 0, .int .i64 (jE size rs)])))
set_option maxHeartbeats 1000000 in
theorem need_any (size : Int) (ao : Option Addr) (n cap : Nat) (rs : List Rec) (w : World) (hl : rs.length = n) (hm : n ≤ maxLen) (hT : Tab w) (h : Rs w ao rs) :
    Calls Tryd.prog 10 #[.int .i64 size, .slice ao n cap] w (NP w size rs) := by
  have HJ := Lib.hid (ajoin size ao n cap rs w hl hm hT h)
  clear hl hm hT h
  go_enter Tryd.func10, Tryd.ntmps10
  go_wp2_with (go_at_call 23; fail)
  refine HJ.out.mono ?_
  rintro e w1 ⟨hB, ⟨hj, g, cp, oo, oc, rfl, _, _, _, _, _, hlen, _, hs1, hs2, _, _⟩ | ⟨hj, rfl⟩⟩
  · obtain ⟨s, rfl⟩ := Int.eq_ofNat_of_zero_le (by omega : 0 ≤ size)
    have HX : Hid (∀ e, e = .returned (.tuple #[.int .i64 ((nb (ag rs).length s : Nat) : Int), .int .i64 0]) → NP w (s : Int) rs e w1) := fun e he => ⟨hB, .inl ⟨hj, by rw [Int.toNat_natCast]; exact he⟩⟩
    obtain ⟨N, hN⟩ : ∃ N, N = (ag rs).length := ⟨_, rfl⟩
    rw [← hN] at hlen HX ⊢
    have hq := tdiv_nb N s (by omega)
    have hqb : nb N s ≤ 700000 := by unfold nb; exact Nat.le_trans (Nat.div_le_self _ _) (by omega)
    obtain ⟨q, hqq⟩ : ∃ q, q = nb N s := ⟨_, rfl⟩
    rw [← hqq] at hq hqb HX
    have hz : ((s : Int) == 0) = false := beq_eq_false_iff_ne.2 (by omega)
    have hz2 : (s : Int) ≠ 0 := by omega
    have hz3 : s ≠ 0 := by omega
    clear hj hN hqq hB HJ
    go_wp2
    go_ret2
    exact HX.out _ rfl
  · have HX : Hid (∀ e, e = .returned (.tuple #[.int .i64 0, .int .i64 (jE size rs)]) → NP w size rs e w1) := fun e he => ⟨hB, .inr ⟨hj, he⟩⟩
    obtain ⟨er, her⟩ : ∃ er, er = jE size rs := ⟨_, rfl⟩
    rw [← her] at hj HX ⊢
    have dq : (er != 0) = true := by simp [hj]
    clear her hj hB HJ
    go_wp2
    go_ret2
    exact HX.out _ rfl

theorem run_min (ats : Array TypeId) (t : TypeId) (x y : Int) (W : World) : (Builtin.min_ ats t #[.int .i64 x, .int .i64 y]).run Tryd.prog W = .ok (.int .i64 (min x y)) W := by
  by_cases h : y < x
  · rw [Int.min_eq_right (by omega)]
    simp [Builtin.min_, Builtin.min2, h, go_sem]
  · rw [Int.min_eq_left (by omega)]
    simp [Builtin.min_, Builtin.min2, h, go_sem]

/-- The chunks of bytes, s each. -/
def chu (s : Nat) (zs : List Int) (m : Nat) : List (List Int) := (List.range m).map fun k => (zs.drop (k * s)).take s
theorem chu_succ (s : Nat) (zs : List Int) (m : Nat) : chu s zs (m + 1) = chu s zs m ++ [(zs.drop (m * s)).take s] := by
  unfold chu; rw [List.range_succ, List.map_append]; rfl
def pv (p : Part) : Value := .slice p.a p.l p.c
/-- A ROW OF PARTS of the call's own, each in a row of its own. -/
structure OPs (w : World) (base : Nat) (ko : Option Addr) (n kc : Nat) (ps : List Part) : Prop where
  len : ps.length = n
  room : n ≤ kc
  cm : kc ≤ maxLen
  row : w.ownsRow base 39 1 (.slice ko n kc) n (ps.map pv)
  own : ∀ p ∈ ps, Own1 w p
theorem OPs.nil (w : World) (base : Nat) : OPs w base none 0 0 [] := ⟨rfl, Nat.le_refl _, Nat.zero_le _, World.ownsRow_nil _ _ _ _, fun p hp => by cases hp⟩
theorem OPs.below {w w' : World} {base : Nat} {ko : Option Addr} {n kc : Nat} {ps : List Part} (h : OPs w base ko n kc ps) (hB : Below w.heap.size w w') : OPs w' base ko n kc ps :=
  ⟨h.len, h.room, h.cm, owns_below h.row hB, fun p hp => (h.own p hp).below hB⟩
theorem OPs.at {w : World} {base : Nat} {ko : Option Addr} {n kc : Nat} {ps : List Part} (h : OPs w base ko n kc ps) {j : Nat} (hj : j < ps.length) : ∃ g, ko = some ⟨g, 0, none⟩ ∧ base ≤ g ∧ w.cell? ⟨g, j, none⟩ = some (.slice ps[j].a ps[j].l ps[j].c) ∧ Own1 w ps[j] := by
  have hl := h.len
  rcases h.row.2 with ⟨q, hn⟩ | ⟨g, c, cur, q, hb, _⟩
  · omega
  · have hr := h.row
    simp only [Value.slice.injEq] at q
    obtain ⟨rfl, _, rfl⟩ := q
    refine ⟨g, rfl, hb, ?_, h.own _ (List.getElem_mem hj)⟩
    rw [hr.cellAt j (by omega)]
    simp [hj, pv]
theorem OPs.ps {w : World} {base : Nat} {ko : Option Addr} {n kc : Nat} {ps : List Part} (h : OPs w base ko n kc ps) : Ps w ko ps := by
  by_cases h0 : ps = []
  · exact .inl h0
  · obtain ⟨g, hg, _, _⟩ := h.at (j := 0) (List.length_pos_iff.2 h0)
    refine .inr ⟨g, 0, hg, fun r hr => ?_⟩
    obtain ⟨g', hg', _, hc, ho⟩ := h.at hr
    rw [hg] at hg'
    cases hg'
    rw [Nat.zero_add]
    exact ⟨hc, ho.1⟩
theorem info39 : (Tryd.prog.info? 39).map (fun i => (i.zero, i.size, i.bytes)) = some (some (.slice none 0 0), 1, 24) := by kernel_rfl
theorem append_part {w : World} {ops : Array Oper} {rest : List Oper} {o : Oper} {a : Act} {Q : Exit → Act → World → Prop} (hgd : o.guard = none) (s x : Operand)
    (ho : o.op = .call { callee := .builtin .append, args := #[s, x], argTypes := #[28, 28] })
    (base n kc g : Nat) (ko : Option Addr) (ps : List Part) (p : Part) (hs : a.eval s = .slice ko n kc) (hown : OPs w base ko n kc ps) (hx : a.eval x = .slice (some ⟨g, 0, none⟩) 1 1)
    (hg : w.heap[g]? = some (.cells #[.slice p.a p.l p.c] 39)) (hp : Own1 w p)
    (hm : n ≤ 1000000000) (hb : base ≤ w.heap.size)
    (h : ∀ ko' kc' w', OPs w' base ko' (n + 1) kc' (ps ++ [p]) → Below base w w' → (∀ (j : Nat) (cs : Array Value) (t : Nat) (fr : Nat × Nat), t ≠ 39 → w.heap[j]? = some (Obj.cells cs t fr) → w'.heap[j]? = some (Obj.cells cs t fr)) → wpList Tryd.prog ops Q rest (a.put o.dst (.slice ko' (n + 1) kc')) w') : wpList Tryd.prog ops Q (o :: rest) a w := by
  obtain ⟨i0, hi, hz0, hz1, hz2⟩ := info_parts info39
  have h4 := hown.row
  refine wpList_append_own _ hgd s x 28 ho base 39 i0 (.slice none 0 0) 1 24 Tryd.underlying28 hi hz0 hz1 hz2 rfl (by decide) _ n _ hs h4 ⟨g, 0, none⟩ 1 1 [pv p] hx rfl ?_ ?_ (by unfold maxLen; omega) (by omega) hb ?_
  · intro j u hj
    rw [Addr.add_lit, Nat.zero_add]
    match j, hj with
    | 0, hj => simp [pv] at hj; subst hj; simp [World.cell?, hg]
    | j + 1, hj => simp at hj
  · intro u hu
    simp at hu
    subst hu; rfl
  · intro v' w' ho' hg' _
    rw [show (ps.map pv ++ [pv p]) = (ps ++ [p]).map pv by simp] at ho'
    have hv : ∃ ko' kc', v' = .slice ko' (n + 1) kc' ∧ n + 1 ≤ kc' ∧ kc' ≤ maxLen := by
      rcases ho'.2 with ⟨_, h0⟩ | ⟨g', cap', cur, q1, _, _, q4, q5, _⟩
      · omega
      · exact ⟨_, cap', q1, q4, q5⟩
    obtain ⟨ko', kc', rfl, hk1, hk2⟩ := hv
    refine h ko' kc' w' ⟨by simp [hown.len], hk1, hk2, ho', fun q hq => ?_⟩ (Below.grown (Below.refl _ _) hg' hb (own_ge3 h4)) fun j cs t fr ht hj => ?_
    · rcases List.mem_append.1 hq with hq | hq
      · exact (hown.own q hq).grown3 (by omega) h4 hg'
      · obtain rfl := List.mem_singleton.1 hq
        exact hp.grown3 (by omega) h4 hg'
    · have hne : some j ≠ (Value.slice ko n kc).ownBlock := by
        intro e'
        rcases h4.2 with ⟨q', _⟩ | ⟨g', cap, cur', q1, q2, q3, q4⟩
        · rw [q'] at e'; cases e'
        · rw [q1] at e'
          cases e'
          rw [q3] at hj
          simp only [Option.some.injEq, Obj.cells.injEq] at hj
          exact ht hj.2.1.symm
      rw [hg'.block j (Array.getElem?_eq_some_iff.1 hj).1 hne]; exact hj

end Go.Proofs.YtifbbikhjolnjaaDoor
