/-
  Bytes appended to a row of the call's own.
-/
import Derived.Test.YtifbbikhjolnjaaDoorBinP
import Derived.Deep.RegionHeld3
namespace Go.Proofs.YtifbbikhjolnjaaDoor
open Go.RowKit
set_option linter.unusedVariables false

theorem append_bytes {w : World} {ops : Array Oper} {rest : List Oper} {o : Oper} {a : Act} {Q : Exit → Act → World → Prop} (hgd : o.guard = none) (s x : Operand)
    (ho : o.op = .call { callee := .builtin .append, args := #[s, x], argTypes := #[39, 39] })
    (base n kc m mc : Nat) (ko bo : Option Addr) (xs ys : List Int) (hs : a.eval s = .slice ko n kc) (hown : Ow w base ko n kc xs) (hx : a.eval x = .slice bo m mc) (hr : Rd w bo ys) (hl : ys.length = m) (hn : bo = none → mc = 0)
    (hm : n + m ≤ 1000000000) (hb : base ≤ w.heap.size)
    (h : ∀ ko' kc' w', Ow w' base ko' (n + m) kc' (xs ++ ys) → Below base w w' → wpList Tryd.prog ops Q rest (a.put o.dst (.slice ko' (n + m) kc')) w') : wpList Tryd.prog ops Q (o :: rest) a w := by
  obtain ⟨i0, hi, hz0, hz1, hz2⟩ := info_parts Tryd.info5
  have hlx := hown.1
  cases bo with
  | none =>
    obtain rfl := hn rfl
    have hy : ys = [] := by
      rcases hr with h | ⟨_, _, h, _⟩
      · exact h
      · cases h
    subst hy
    obtain rfl : m = 0 := hl.symm
    refine wpList_append_own_none hgd s x 39 ho base 5 i0 1 Tryd.underlying39 hi _ n _ hs hown.2.2.2 hx ?_
    exact h ko kc w (by simpa using hown) (Below.refl _ _)
  | some ad =>
    refine wpList_append_own _ hgd s x 39 ho base 5 i0 (.int .u8 0) 1 1 Tryd.underlying39 hi hz0 hz1 hz2 rfl (by decide) _ n _ hs hown.2.2.2 ad m mc (ys.map (.int .u8)) hx (by simp [hl]) (hr.cells ad rfl) (ints_oneCell _ _) (by unfold maxLen; omega) (by omega) hb ?_
    intro v' w' ho' hg' _
    rw [← List.map_append] at ho'
    obtain ⟨ko', kc', rfl, how⟩ := Ow.of (by simp [hlx, hl]) ho'
    exact h ko' kc' w' how (Below.grown (Below.refl _ _) hg' hb (own_ge hown.2.2.2))

end Go.Proofs.YtifbbikhjolnjaaDoor
