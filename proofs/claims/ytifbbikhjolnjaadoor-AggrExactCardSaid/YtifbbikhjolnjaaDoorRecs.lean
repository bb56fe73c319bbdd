/-
  Records that came in: what a walk is told of them.
-/
import Derived.Test.YtifbbikhjolnjaaDoorFrame2
import Derived.Test.YtifbbikhjolnjaaDoorLaid
import Derived.Deep.Slices
import Derived.Deep.Fields
import Derived.Deep.Strs
import Derived.ChangeSame
namespace Go.Proofs.YtifbbikhjolnjaaDoor
open Go.ChangeShapes Go.WideShapes Go.ChangeAt Go.RowKit Go.Deep
set_option linter.unusedVariables false

theorem list_of {α : Type} {P : Nat → α → Prop} : ∀ n, (∀ i, i < n → ∃ r, P i r) → ∃ l : List α, l.length = n ∧ ∀ i, (h : i < l.length) → P i l[i] := by
  intro n
  induction n with
  | zero => exact fun _ => ⟨[], rfl, fun i h => absurd h (Nat.not_lt_zero _)⟩
  | succ n ih =>
    intro h
    obtain ⟨l, hl, hp⟩ := ih fun i hi => h i (by omega)
    obtain ⟨r, hr⟩ := h n (by omega)
    refine ⟨l ++ [r], by simp [hl], fun i hi => ?_⟩
    by_cases hin : i < l.length
    · rw [List.getElem_append_left hin]; exact hp i hin
    · have : i = l.length := by simp at hi; omega
      subst this
      rw [List.getElem_append_right (Nat.le_refl _)]
      simp only [Nat.sub_self, List.getElem_cons_zero]
      rw [hl]; exact hr

section
variable {H : Type} {enc : TypeId × Value → H} {W : World} {base : Nat} {spare : Nat → Bool} {held : Bool}
/-- Bytes that came in. -/
theorem open_part {fuel : Nat} {cs : List Value} {x : DataW H × List MemPlace} (h : DataW.trod enc Tryd.prog W base spare held fuel 39 cs = some x) : ∃ d : Part, cs = [.slice d.a d.l d.c] ∧ d.ok W ∧ d.l ≤ d.c ∧ d.c ≤ maxLen := by
  rcases open_ints Tryd.underlying39 Tryd.underlying5 (by kernel_rfl) h with ⟨rfl, _⟩ | ⟨a, l, c, zs, rfl, _, hl, hm, hz, _, hcell, hwz⟩
  · exact ⟨⟨none, 0, 0, []⟩, rfl, ⟨Rd.nil _ _, rfl, Bts.nil, Nat.zero_le _, fun _ => rfl⟩, Nat.le_refl _, Nat.zero_le _⟩
  · have hlz : l ≤ zs.length := by rw [hz]; split <;> omega
    exact ⟨⟨some a, l, c, zs.take l⟩, rfl, ⟨rd_of_ints (cap := zs.length) rfl hlz hcell, by simp; omega, (bts_of_wf hwz).take _, Nat.le_trans hl hm, fun h => by cases h⟩, hl, hm⟩
/-- A record that came in, by its cells. -/
theorem open_rec3 {fuel : Nat} {cs : List Value} {x : DataW H × List MemPlace} (h : DataW.trod enc Tryd.prog W base spare held fuel 43 cs = some x) : ∃ r : Rec, cs = [.int .i64 r.k, .int .i64 r.s, .slice r.d.a r.d.l r.d.c] ∧ r.d.ok W ∧ r.d.l ≤ r.d.c ∧ r.d.c ≤ maxLen := by
  obtain ⟨y0, y1, y2, n, _, hlen, h0, h1, h2⟩ := trod_struct3 Tryd.underlying43 h
  have hlen' : cs.length = 3 := hlen.trans (by kernel_rfl)
  match cs, hlen' with
  | [v0, v1, v2], _ =>
    have e0 : (([v0, v1, v2].drop 0).take (Tryd.prog.cellsOf 3)) = [v0] := by rw [show Tryd.prog.cellsOf 3 = 1 by kernel_rfl]; rfl
    have e1 : (([v0, v1, v2].drop 1).take (Tryd.prog.cellsOf 3)) = [v1] := by rw [show Tryd.prog.cellsOf 3 = 1 by kernel_rfl]; rfl
    have e2 : (([v0, v1, v2].drop 2).take (Tryd.prog.cellsOf 39)) = [v2] := by rw [show Tryd.prog.cellsOf 39 = 1 by kernel_rfl]; rfl
    rw [e0] at h0
    rw [e1] at h1
    rw [e2] at h2
    obtain ⟨k, ek, _, _⟩ := DataW.trod_int Tryd.underlying3 h0
    obtain ⟨s, es, _, _⟩ := DataW.trod_int Tryd.underlying3 h1
    obtain ⟨d, ed, hd⟩ := open_part h2
    simp only [List.cons.injEq, and_true] at ek es ed
    subst ek; subst es; subst ed
    exact ⟨⟨k, s, d⟩, rfl, hd⟩
/-- A row of records that came in. -/
theorem open_recs {fuel : Nat} {cs : List Value} {x : DataW H × List MemPlace} (h : DataW.trod enc Tryd.prog W base spare held fuel 22 cs = some x) : ∃ (ao : Option Addr) (len cap : Nat) (rs : List Rec), cs = [.slice ao len cap] ∧ rs.length = len ∧ len ≤ cap ∧ cap ≤ maxLen ∧ Rs W ao rs ∧ (ao = none → cap = 0) := by
  rcases open_slice Tryd.underlying22 h with ⟨rfl, _⟩ | ⟨a, len, cap, m, n, D, Pl, rfl, _, hl, hm, hmm, _, hx⟩
  · exact ⟨none, 0, 0, [], rfl, rfl, Nat.le_refl _, Nat.zero_le _, .inl rfl, fun _ => rfl⟩
  · have hlm : len ≤ m := by rw [hmm]; split <;> omega
    have hc3 : Tryd.prog.cellsOf 43 = 3 := by kernel_rfl
    obtain ⟨rs, hrl, hrs⟩ := list_of (P := fun (i : Nat) (r : Rec) => W.cell? (a.add (i * 3)) = some (.int .i64 r.k) ∧ W.cell? (a.add (i * 3 + 1)) = some (.int .i64 r.s) ∧ W.cell? (a.add (i * 3 + 2)) = some (.slice r.d.a r.d.l r.d.c) ∧ r.d.ok W) len fun i hi => by
      obtain ⟨cs', h1, h2⟩ := hx i (by omega)
      rw [hc3] at h1
      obtain ⟨_, hlen, hcell⟩ := World.cells?_some h1
      obtain ⟨r, rfl, hr, _⟩ := open_rec3 h2
      have c0 := hcell 0 (by omega)
      have c1 := hcell 1 (by omega)
      have c2 := hcell 2 (by omega)
      rw [Go.Deep.add_add] at c0 c1 c2
      exact ⟨r, c0, c1, c2, hr⟩
    refine ⟨some a, len, cap, rs, rfl, hrl, hl, hm, ?_, fun h => by cases h⟩
    by_cases h0 : len = 0
    · exact .inl (List.eq_nil_of_length_eq_zero (by omega))
    · obtain ⟨b, o, spot⟩ := a
      have hspot : spot = none := by
        have := World.cell?_spot (hrs 0 (by omega)).1
        simpa [Addr.add] using this
      subst hspot
      refine .inr ⟨b, o, rfl, fun i hi => ?_⟩
      obtain ⟨c0, c1, c2, hr⟩ := hrs i hi
      rw [Addr.add_lit] at c0 c1 c2
      exact ⟨c0, c1, c2, hr⟩
end

end Go.Proofs.YtifbbikhjolnjaaDoor
