/-
  Frames: a row of records of the call's own, and what is appended to it.
-/
import Derived.Test.YtifbbikhjolnjaaDoorFrame10
namespace Go.Proofs.YtifbbikhjolnjaaDoor
open Go.RowKit
set_option linter.unusedVariables false

theorem info_rec : (Tryd.prog.info? 43).map (fun i => (i.zero, i.size, i.bytes)) = some (some (.agg #[.int .i64 0, .int .i64 0, .slice none 0 0]), 3, 40) := by kernel_rfl
/-- A record's cells. -/
def Rec.cs (r : Rec) : List Value := [.int .i64 r.k, .int .i64 r.s, .slice r.d.a r.d.l r.d.c]
/-- The cells of a row of records. -/
def css (rs : List Rec) : List Value := rs.flatMap Rec.cs
theorem css_get (rs : List Rec) : ∀ i, (h : i < rs.length) → (css rs)[i * 3]? = some (.int .i64 rs[i].k) ∧ (css rs)[i * 3 + 1]? = some (.int .i64 rs[i].s) ∧ (css rs)[i * 3 + 2]? = some (.slice rs[i].d.a rs[i].d.l rs[i].d.c) := by
  induction rs with
  | nil => intro i h; exact absurd h (Nat.not_lt_zero _)
  | cons r rs ih =>
    intro i h
    have e : css (r :: rs) = .int .i64 r.k :: .int .i64 r.s :: .slice r.d.a r.d.l r.d.c :: css rs := rfl
    cases i with
    | zero => rw [e]; exact ⟨rfl, rfl, rfl⟩
    | succ i =>
      obtain ⟨h1, h2, h3⟩ := ih i (by simp at h; omega)
      rw [e, show (i + 1) * 3 = i * 3 + 3 by omega]
      exact ⟨h1, h2, h3⟩
/-- THE RECORDS rs LIE IN A ROW OF THE CALL'S OWN, their data in rows of bytes of their own. -/
def ORs (w : World) (base : Nat) (ko : Option Addr) (n kc : Nat) (rs : List Rec) : Prop :=
  rs.length = n ∧ n ≤ kc ∧ kc ≤ maxLen ∧ w.ownsRow base 43 3 (.slice ko n kc) n (css rs) ∧ ∀ i, (h : i < rs.length) → Own1 w rs[i].d
theorem own_ge3 {w : World} {base e n size : Nat} {v : Value} {xs : List Value} (h : w.ownsRow base e size v n xs) : ∀ k, v.ownBlock = some k → base ≤ k := by
  intro k hk
  rcases h.2 with ⟨h2, _⟩ | ⟨g, cap, cur, q1, q2, q3, q4⟩
  · subst h2; cases hk
  · subst q1; cases hk; exact q2
theorem Own1.grown3 {w w' : World} {q : Part} {base n e size : Nat} {v : Value} {xs : List Value} (he : e ≠ 5) (h : Own1 w q) (ho : w.ownsRow base e size v n xs) (hg : w.grownBy w' v.ownBlock) : Own1 w' q := by
  rcases h.2 with h2 | ⟨g, cur, h2, h3⟩
  · have hz : q.z = [] := by
      rcases h.1.rd with h4 | ⟨b, o, h4, _⟩
      · exact h4
      · rw [h2] at h4; cases h4
    exact ⟨⟨.inl hz, h.1.len, h.1.bts, h.1.small, h.1.nil⟩, .inl h2⟩
  · have hlt := (Array.getElem?_eq_some_iff.1 h3).1
    have hne : some g ≠ v.ownBlock := by
      intro e'
      rcases ho.2 with ⟨q', _⟩ | ⟨g', cap, cur', q1, q2, q3, q4⟩
      · subst q'; cases e'
      · subst q1
        cases e'
        rw [q3] at h3
        simp only [Option.some.injEq, Obj.cells.injEq] at h3
        exact he h3.2.1
    have hb := hg.block g hlt hne
    refine ⟨⟨?_, h.1.len, h.1.bts, h.1.small, h.1.nil⟩, .inr ⟨g, cur, h2, by rw [hb, h3]⟩⟩
    rcases h.1.rd with h4 | ⟨b, o, ha, hc⟩
    · exact .inl h4
    · rw [h2] at ha
      cases ha
      exact .inr ⟨g, 0, h2, fun j hj => by rw [← hc j hj]; exact World.cell?_of_block hb⟩
theorem ORs.rs {w : World} {base : Nat} {ko : Option Addr} {n kc : Nat} {rs : List Rec} (h : ORs w base ko n kc rs) : Rs w ko rs := by
  obtain ⟨h1, h2, h3, h4, h5⟩ := h
  rcases h4.2 with ⟨q, hn⟩ | ⟨g, c, cur, q, _⟩
  · exact .inl (List.eq_nil_of_length_eq_zero (by omega))
  · simp only [Value.slice.injEq] at q
    obtain ⟨rfl, _, rfl⟩ := q
    refine .inr ⟨g, 0, rfl, fun i hi => ?_⟩
    obtain ⟨c0, c1, c2⟩ := css_get rs i hi
    rw [Nat.zero_add]
    exact ⟨by rw [h4.cellAt (i * 3) (by omega)]; exact c0, by rw [h4.cellAt (i * 3 + 1) (by omega)]; exact c1, by rw [h4.cellAt (i * 3 + 2) (by omega)]; exact c2, (h5 i hi).1⟩
theorem ORs.nil (w : World) (base : Nat) : ORs w base none 0 0 [] := ⟨rfl, Nat.le_refl _, Nat.zero_le _, World.ownsRow_nil _ _ _ _, fun i h => absurd h (Nat.not_lt_zero _)⟩
theorem owns_below3 {w w' : World} {base e n size : Nat} {v : Value} {xs : List Value} (h : w.ownsRow base e size v n xs) (hB : Below w.heap.size w w') : w'.ownsRow base e size v n xs := by
  refine ⟨h.1, ?_⟩
  rcases h.2 with h2 | ⟨g, cap, cur, q1, q2, q3, q4⟩
  · exact .inl h2
  · exact .inr ⟨g, cap, cur, q1, q2, by rw [hB.block g (Array.getElem?_eq_some_iff.1 q3).1]; exact q3, q4⟩
theorem ORs.below {w w' : World} {base : Nat} {ko : Option Addr} {n kc : Nat} {rs : List Rec} (h : ORs w base ko n kc rs) (hB : Below w.heap.size w w') : ORs w' base ko n kc rs :=
  ⟨h.1, h.2.1, h.2.2.1, owns_below3 h.2.2.2.1 hB, fun i hi => (h.2.2.2.2 i hi).below hB⟩
theorem append_rec {w : World} {ops : Array Oper} {rest : List Oper} {o : Oper} {a : Act} {Q : Exit → Act → World → Prop} (hgd : o.guard = none) (s x : Operand)
    (ho : o.op = .call { callee := .builtin .append, args := #[s, x], argTypes := #[22, 22] })
    (base n kc g : Nat) (ko : Option Addr) (rs : List Rec) (r : Rec) (hs : a.eval s = .slice ko n kc) (hown : ORs w base ko n kc rs) (hx : a.eval x = .slice (some ⟨g, 0, none⟩) 1 1)
    (hg : w.heap[g]? = some (.cells #[.int .i64 r.k, .int .i64 r.s, .slice r.d.a r.d.l r.d.c] 43)) (hr : Own1 w r.d)
    (hm : n ≤ 1000000000) (hb : base ≤ w.heap.size)
    (h : ∀ ko' kc' w', ORs w' base ko' (n + 1) kc' (rs ++ [r]) → Below base w w' → wpList Tryd.prog ops Q rest (a.put o.dst (.slice ko' (n + 1) kc')) w') : wpList Tryd.prog ops Q (o :: rest) a w := by
  obtain ⟨i0, hi, hz0, hz1, hz2⟩ := info_parts info_rec
  obtain ⟨h1, h2, h3, h4, h5⟩ := hown
  refine wpList_append_own _ hgd s x 22 ho base 43 i0 (.agg #[.int .i64 0, .int .i64 0, .slice none 0 0]) 3 40 Tryd.underlying22 hi hz0 hz1 hz2 rfl (by decide) _ n _ hs h4 ⟨g, 0, none⟩ 1 1 r.cs hx rfl ?_ ?_ (by unfold maxLen; omega) (by omega) hb ?_
  · intro j u hj
    rw [Addr.add_lit, Nat.zero_add]
    match j, hj with
    | 0, hj => simp [Rec.cs] at hj; subst hj; simp [World.cell?, hg]
    | 1, hj => simp [Rec.cs] at hj; subst hj; simp [World.cell?, hg]
    | 2, hj => simp [Rec.cs] at hj; subst hj; simp [World.cell?, hg]
    | j + 3, hj => simp [Rec.cs] at hj
  · intro u hu
    simp [Rec.cs] at hu
    rcases hu with rfl | rfl | rfl <;> rfl
  · intro v' w' ho' hg' _
    have hcat : css rs ++ r.cs = css (rs ++ [r]) := by unfold css; rw [List.flatMap_append]; simp only [List.flatMap_cons, List.flatMap_nil, List.append_nil]
    rw [hcat] at ho'
    have hlen : (rs ++ [r]).length = n + 1 := by simp [h1]
    have hv : ∃ ko' kc', v' = .slice ko' (n + 1) kc' ∧ n + 1 ≤ kc' ∧ kc' ≤ maxLen := by
      rcases ho'.2 with ⟨_, h0⟩ | ⟨g', cap', cur, q1, _, _, q4, q5, _⟩
      · omega
      · exact ⟨_, cap', q1, q4, q5⟩
    obtain ⟨ko', kc', rfl, hk1, hk2⟩ := hv
    refine h ko' kc' w' ⟨hlen, hk1, hk2, ho', fun i hi => ?_⟩ (Below.grown (Below.refl _ _) hg' hb (own_ge3 h4))
    by_cases hin : i < rs.length
    · rw [List.getElem_append_left hin]; exact (h5 i hin).grown3 (by omega) h4 hg'
    · have : i = rs.length := by simp at hi; omega
      subst this
      rw [List.getElem_append_right (Nat.le_refl _)]
      simp only [Nat.sub_self, List.getElem_cons_zero]
      exact hr.grown3 (by omega) h4 hg'

end Go.Proofs.YtifbbikhjolnjaaDoor
