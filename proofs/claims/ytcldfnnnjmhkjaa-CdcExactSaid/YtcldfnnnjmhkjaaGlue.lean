/-
  Bytes appended to a row of the call's own, whatever they are; the chunks as parts.
-/
import Derived.Test.YtcldfnnnjmhkjaaRowsP
import Derived.Laws.AppendOwnNone
namespace Go.Proofs.Ytcldfnnnjmhkjaa
open Go.RowKit
set_option linter.unusedVariables false

theorem append_bytes {w : World} {ops : Array Oper} {rest : List Oper} {o : Oper} {a : Act} {Q : Exit → Act → World → Prop} (hgd : o.guard = none) (s x : Operand)
    (ho : o.op = .call { callee := .builtin .append, args := #[s, x], argTypes := #[22, 22] })
    (base n kc m mc : Nat) (ko bo : Option Addr) (xs ys : List Int) (hs : a.eval s = .slice ko n kc) (hown : Ow w base ko n kc xs) (hx : a.eval x = .slice bo m mc) (hr : Rd w bo ys) (hl : ys.length = m) (hn : bo = none → mc = 0)
    (hm : n + m ≤ 1000000000) (hb : base ≤ w.heap.size)
    (h : ∀ ko' kc' w', Ow w' base ko' (n + m) kc' (xs ++ ys) → Below base w w' → wpList Try.prog ops Q rest (a.put o.dst (.slice ko' (n + m) kc')) w') : wpList Try.prog ops Q (o :: rest) a w := by
  obtain ⟨i0, hi, hz0, hz1, hz2⟩ := info_parts Try.info5
  have hlx := hown.1
  cases bo with
  | none =>
    obtain rfl := hn rfl
    have hy : ys = [] := by
      rcases hr with h | ⟨_, _, h, _⟩
      · exact h
      · cases h
    subst hy
    obtain rfl : m = 0 := hl.symm
    refine wpList_append_own_none hgd s x 22 ho base 5 i0 1 Try.underlying22 hi _ n _ hs hown.2.2.2 hx ?_
    exact h ko kc w (by simpa using hown) (Below.refl _ _)
  | some ad =>
    refine wpList_append_own _ hgd s x 22 ho base 5 i0 (.int .u8 0) 1 1 Try.underlying22 hi hz0 hz1 hz2 rfl (by decide) _ n _ hs hown.2.2.2 ad m mc (ys.map (.int .u8)) hx (by simp [hl]) (hr.cells ad rfl) (ints_oneCell _ _) (by unfold maxLen; omega) (by omega) hb ?_
    intro v' w' ho' hg' _
    rw [← List.map_append] at ho'
    obtain ⟨ko', kc', rfl, how⟩ := Ow.of (by simp [hlx, hl]) ho'
    exact h ko' kc' w' how (Below.grown (Below.refl _ _) hg' hb (own_ge hown.2.2.2))

theorem cutF_bts : ∀ (f : Nat) (l : List Int), Bts l → ∀ c ∈ cutF f l, Bts c
  | 0, l, _ => fun c hc => by simp [cutF] at hc
  | f + 1, l, h => fun c hc => by
    unfold cutF at hc
    split at hc
    · simp at hc
    · rcases List.mem_cons.1 hc with rfl | hc
      · exact h.take _
      · exact cutF_bts f _ (h.drop _) c hc
theorem cutL_bts (l : List Int) (h : Bts l) : ∀ c ∈ cutL l, Bts c := cutF_bts _ l h

/-- What Cut leaves, as parts. -/
def CutPs (w : World) (zs : List Int) (e : Ending) (w' : World) : Prop :=
  ∃ lo lc, ∃ ps : List Part, e = .returned (.tuple #[.slice lo ps.length lc, .int .i64 0]) ∧ ps.map (·.z) = cutL zs ∧ Ps w' lo ps ∧ ps.length ≤ lc ∧ lc ≤ maxLen ∧ Below w.heap.size w w'
theorem cut_ps (ao : Option Addr) (len cap : Nat) (zs : List Int) (w : World) (hl : zs.length = len) (hlc : len ≤ cap) (hcm : cap ≤ maxLen) (hm : len ≤ 32768) (hr : Rd w ao zs) (hz : Bts zs) :
    Calls Try.prog 14 #[.slice ao len cap] w (CutPs w zs) := by
  refine (cut_any ao len cap zs w hl hlc hcm hm hr hz).mono ?_
  rintro e w' ⟨v, vs, rfl, ho, hrs, hB⟩
  have hcb := cutL_bts zs hz
  have hch : ∀ r, ∃ p : Part, r < (cutL zs).length → p.z = (cutL zs).getD r [] ∧ vs.getD r undef = p.v ∧ p.ok w' := by
    intro r
    by_cases h : r < (cutL zs).length
    · obtain ⟨g, c, h1, h2, h3, h4, _⟩ := hrs.2 r h
      refine ⟨⟨some ⟨g, 0, none⟩, _, c, (cutL zs).getD r []⟩, fun _ => ⟨rfl, h1, h4, rfl, hcb _ ?_, Nat.le_trans h2 h3, fun h => by cases h⟩⟩
      simp only [List.getD, List.getElem?_eq_getElem h]
      exact List.getElem_mem h
    · exact ⟨⟨none, 0, 0, []⟩, fun h' => absurd h' h⟩
  obtain ⟨f, hf⟩ := Classical.axiomOfChoice hch
  have hpz : ((List.range (cutL zs).length).map f).map (·.z) = cutL zs := by
    apply List.ext_getElem (by simp)
    intro r h1 h2
    have := (hf r h2).1
    simp only [List.getD, List.getElem?_eq_getElem h2, Option.getD_some] at this
    simp [this]
  have hlen : ((List.range (cutL zs).length).map f).length = (cutL zs).length := by simp
  rcases ho.2 with ⟨h1, h2⟩ | ⟨g, c, cur, q1, q2, q3, q4, q5, q6⟩
  · subst h1
    exact ⟨none, 0, (List.range (cutL zs).length).map f, by rw [hlen, h2], hpz, .inl (List.eq_nil_of_length_eq_zero (by rw [hlen]; exact h2)), by rw [hlen, h2]; exact Nat.zero_le _, Nat.zero_le _, hB⟩
  · subst q1
    refine ⟨_, c, (List.range (cutL zs).length).map f, by rw [hlen], hpz, .inr ⟨g, 0, rfl, fun r hr => ?_⟩, by rw [hlen]; exact q4, q5, hB⟩
    rw [hlen] at hr
    obtain ⟨k1, k2, k3⟩ := hf r hr
    simp only [List.getElem_map, List.getElem_range]
    refine ⟨?_, k3⟩
    have hv := hrs.1
    rw [Nat.zero_add, ho.cellAt r (by omega)]
    simp only [List.getD, show r < vs.length by omega, List.getElem?_eq_getElem, Option.getD_some] at k2
    rw [List.getElem?_eq_getElem (by omega), k2]; rfl

/-- What stands behind the last chunk turns no chunk but the last one. -/
theorem cut_more : ∀ (n : Nat) (a b : List Int), a.length ≤ n → (cutL a).length ≤ (cutL (a ++ b)).length ∧ ∀ i, i + 1 < (cutL a).length → (cutL a).getD i [] = (cutL (a ++ b)).getD i []
  | 0, a, b, h => by
    rw [List.eq_nil_of_length_eq_zero (by omega : a.length = 0), cutL_nil]
    exact ⟨Nat.zero_le _, fun i hi => by simp at hi⟩
  | n + 1, a, b, h => by
    by_cases h0 : 0 < a.length
    · have hp := nx_pos a h0
      have hle := nx_le a
      by_cases hl : nx a < a.length
      · have hs : nx (a ++ b) = nx a := nx_same hl (by rw [List.take_append_of_le_length hle]) (by simp; omega)
        rw [cutL_cons a h0, cutL_cons (a ++ b) (by simp; omega), hs, List.take_append_of_le_length hle, List.drop_append_of_le_length hle]
        have ih := cut_more n (a.drop (nx a)) b (by simp; omega)
        refine ⟨by simp; exact ih.1, fun i hi => ?_⟩
        cases i with
        | zero => rfl
        | succ i =>
          have := ih.2 i (by simp at hi; omega)
          simpa [List.getD] using this
      · have e : nx a = a.length := by omega
        have e2 : a.drop (nx a) = [] := List.drop_of_length_le (by omega)
        rw [cutL_cons a h0, e2, cutL_nil, cutL_cons (a ++ b) (by simp; omega)]
        exact ⟨by simp, fun i hi => by simp at hi⟩
    · rw [List.eq_nil_of_length_eq_zero (by omega : a.length = 0), cutL_nil]
      exact ⟨Nat.zero_le _, fun i hi => by simp at hi⟩
theorem cutL_flat : ∀ (n : Nat) (l : List Int), l.length ≤ n → (cutL l).flatten = l
  | 0, l, h => by rw [List.eq_nil_of_length_eq_zero (by omega : l.length = 0)]; rfl
  | n + 1, l, h => by
    by_cases h0 : 0 < l.length
    · have hp := nx_pos l h0
      rw [cutL_cons l h0, List.flatten_cons, cutL_flat n (l.drop (nx l)) (by simp; omega), List.take_append_drop]
    · rw [List.eq_nil_of_length_eq_zero (by omega : l.length = 0)]; rfl
/-- What stands ahead of a cut turns none behind it. -/
theorem cut_rest (l : List Int) : cutL ((cutL l).drop 1).flatten = (cutL l).drop 1 := by
  by_cases h0 : 0 < l.length
  · rw [cutL_cons l h0]
    simp only [List.drop_succ_cons, List.drop_zero]
    rw [cutL_flat _ (l.drop (nx l)) (Nat.le_refl _)]
  · rw [List.eq_nil_of_length_eq_zero (by omega : l.length = 0)]; rfl
theorem cut_count : ∀ (n : Nat) (l : List Int), l.length ≤ n → (cutL l).length ≤ l.length
  | 0, l, h => by rw [List.eq_nil_of_length_eq_zero (by omega : l.length = 0)]; simp [cutL_nil]
  | n + 1, l, h => by
    by_cases h0 : 0 < l.length
    · have hp := nx_pos l h0
      have := cut_count n (l.drop (nx l)) (by simp; omega)
      rw [cutL_cons l h0]
      simp at this ⊢
      omega
    · rw [List.eq_nil_of_length_eq_zero (by omega : l.length = 0)]; simp [cutL_nil]

end Go.Proofs.Ytcldfnnnjmhkjaa
