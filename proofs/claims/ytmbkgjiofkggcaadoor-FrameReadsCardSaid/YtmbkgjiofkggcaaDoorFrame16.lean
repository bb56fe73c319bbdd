/-
  append as a step of a drawn region: which other blocks stay.
-/
import Derived.Test.YtmbkgjiofkggcaaDoorFrame2
import Derived.Test.YtmbkgjiofkggcaaDoorRefs
import Derived.Laws.AppendOwnNone
namespace Go.Proofs.YtmbkgjiofkggcaaDoor
open Go.RowKit
set_option linter.unusedVariables false

theorem step_append_far {w : World} {ops : Array Oper} {o : Oper} {a : Act} {K : Act → World → Prop} {Q : Exit → Act → World → Prop} {E : Prop} (hgd : o.guard = none) (s x : Operand)
    (ho : o.op = .call { callee := .builtin .append, args := #[s, x], argTypes := #[27, 27] })
    (base n kc m mc : Nat) (ko : Option Addr) (ad : Addr) (xs ys : List Int) (hs : a.eval s = .slice ko n kc) (hown : Ow w base ko n kc xs) (hx : a.eval x = .slice (some ad) m mc) (hr : Rd w (some ad) ys) (hl : ys.length = m) (h0 : 0 < m)
    (hm : n + m ≤ 1000000000) (hb : base ≤ w.heap.size)
    (h : ∀ g kc' w', Ow w' base (some ⟨g, 0, none⟩) (n + m) kc' (xs ++ ys) → Below base w w' → (∀ j, j < w.heap.size → Far ko j → Far (some ⟨g, 0, none⟩) j ∧ w'.heap[j]? = w.heap[j]?) → w.heap.size ≤ w'.heap.size → K (a.put o.dst (.slice (some ⟨g, 0, none⟩) (n + m) kc')) w') :
    if Region.wanted o (yielded ops a.tmps) = true then Oper.wp Tryd.prog o a w K Q else E := by
  obtain ⟨i0, hi, hz0, hz1, hz2⟩ := info_parts Tryd.info5
  have hlx := hown.1
  have hw : Region.wanted o (yielded ops a.tmps) = true := by simp [Region.wanted, hgd]
  rw [if_pos hw]
  refine wp_append_lies w s x 27 ho base 5 i0 (.int .u8 0) 1 1 Tryd.underlying27 hi hz0 hz1 hz2 rfl (by decide) _ n _ hs hown.2.2.2 ad m mc (ys.map (.int .u8)) hx (by simp [hl]) (hr.cells ad rfl) (ints_oneCell _ _) h0 (by unfold maxLen; omega) (by omega) hb _ rfl ?_
  intro g cap w' ho' hg' hat hlt
  rw [← List.map_append] at ho'
  obtain ⟨ko', kc', e', how⟩ := Ow.of (by simp [hlx, hl]) ho'
  simp only [Value.slice.injEq] at e'
  obtain ⟨rfl, _, rfl⟩ := e'
  have hB := Below.grown (Below.refl base w) hg' hb (own_ge hown.2.2.2)
  refine h g cap w' how hB (fun j hj hf => ⟨fun ad' e => ?_, hg'.block j hj (far_row hf)⟩) hg'.size
  cases e
  rcases hat with hat | hat
  · intro e2
    simp only at e2
    subst e2
    exact far_row hf hat.symm
  · simp only; omega

/-- append of whatever bytes, nil or not, as a step of a drawn region. -/
theorem step_append_any {w : World} {ops : Array Oper} {o : Oper} {a : Act} {K : Act → World → Prop} {Q : Exit → Act → World → Prop} {E : Prop} (hgd : o.guard = none) (s x : Operand)
    (ho : o.op = .call { callee := .builtin .append, args := #[s, x], argTypes := #[27, 27] })
    (base n kc m mc : Nat) (ko bo : Option Addr) (xs ys : List Int) (hs : a.eval s = .slice ko n kc) (hown : Ow w base ko n kc xs) (hx : a.eval x = .slice bo m mc) (hr : Rd w bo ys) (hl : ys.length = m) (hn : bo = none → mc = 0)
    (hm : n + m ≤ 1000000000) (hb : base ≤ w.heap.size)
    (h : ∀ ko' kc' w', Ow w' base ko' (n + m) kc' (xs ++ ys) → Below base w w' → K (a.put o.dst (.slice ko' (n + m) kc')) w') :
    if Region.wanted o (yielded ops a.tmps) = true then Oper.wp Tryd.prog o a w K Q else E := by
  cases bo with
  | some ad => exact step_append_bytes hgd s x ho base n kc m mc ko ad xs ys hs hown hx hr hl hm hb h
  | none =>
    obtain ⟨i0, hi, hz0, hz1, hz2⟩ := info_parts Tryd.info5
    have hw : Region.wanted o (yielded ops a.tmps) = true := by simp [Region.wanted, hgd]
    rw [if_pos hw]
    obtain rfl := hn rfl
    have hy : ys = [] := by
      rcases hr with h | ⟨_, _, h, _⟩
      · exact h
      · cases h
    subst hy
    obtain rfl : m = 0 := hl.symm
    have hrun := run_append_owned_none (P := Tryd.prog) (w := w) base 27 o.type 5 i0 1 Tryd.underlying27 hi (.slice ko n kc) n _ hown.2.2.2
    have hk := h ko kc w (by simpa using hown) (Below.refl _ _)
    unfold Oper.wp
    simp [execOp, ho, resolve, invoke, builtin, hs, hx, hrun, Result.andThen]
    exact hk

end Go.Proofs.YtmbkgjiofkggcaaDoor
