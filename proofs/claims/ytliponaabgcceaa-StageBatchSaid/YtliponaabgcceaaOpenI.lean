/-
  A list of items that came in.
-/
import Derived.Test.YtliponaabgcceaaItems
namespace Go.Proofs.Ytliponaabgcceaa
open Go.ChangeShapes Go.WideShapes Go.ChangeAt Go.RowKit Go.Deep
set_option linter.unusedVariables false

theorem list_of {α : Type} {P : Nat → α → Prop} : ∀ n, (∀ i, i < n → ∃ r, P i r) → ∃ l : List α, l.length = n ∧ ∀ i, (h : i < l.length) → P i l[i] := by
  intro n
  induction n with
  | zero => intro _; exact ⟨[], rfl, fun i h => absurd h (Nat.not_lt_zero _)⟩
  | succ n ih =>
    intro h
    obtain ⟨l, hl, hp⟩ := ih fun i hi => h i (by omega)
    obtain ⟨r, hr⟩ := h n (by omega)
    refine ⟨l ++ [r], by simp [hl], fun i hi => ?_⟩
    by_cases hin : i < l.length
    · rw [List.getElem_append_left hin]; exact hp i hin
    · have : i = l.length := by simp at hi; omega
      subst this
      rw [List.getElem_append_right (Nat.le_refl _)]
      simp only [Nat.sub_self, List.getElem_cons_zero]
      rw [hl]; exact hr

section
variable {H : Type} {enc : TypeId × Value → H} {W : World} {base : Nat} {spare : Nat → Bool} {held : Bool}
/-- 32 bytes that came in. -/
theorem open_id {fuel : Nat} {cs : List Value} {x : DataW H × List MemPlace} (h : DataW.trod enc Try.prog W base spare held fuel 49 cs = some x) : ∃ zs : List Int, cs = zs.map (Value.int .u8) ∧ zs.length = 32 := by
  obtain ⟨xs, m, _, _, hl, hx, hf⟩ := DataW.trod_array arr49 h
  have hc : Try.prog.cellsOf 49 = 32 := by kernel_rfl
  rw [hc] at hl
  obtain ⟨zs, hz, hp⟩ := list_of (P := fun (i : Nat) (z : Int) => cs[i]? = some (.int .u8 z)) 32 fun i hi => by
    have h1 := hf i hi
    rw [cells5, Nat.mul_one] at h1
    have hlt : i < cs.length := by omega
    have e : (cs.drop i).take 1 = [cs[i]] := by rw [List.drop_eq_getElem_cons hlt]; rfl
    rw [e, List.getElem?_eq_getElem (by omega)] at h1
    obtain ⟨z, ez, _, _⟩ := DataW.trod_int Try.underlying5 h1
    simp only [List.cons.injEq, and_true] at ez
    exact ⟨z, by rw [List.getElem?_eq_getElem hlt, ez]⟩
  refine ⟨zs, ?_, hz⟩
  apply List.ext_getElem?
  intro i
  by_cases hi : i < 32
  · rw [hp i (by omega), List.getElem?_map, List.getElem?_eq_getElem (by omega)]; rfl
  · rw [List.getElem?_eq_none (by omega), List.getElem?_eq_none (by rw [List.length_map]; omega)]
set_option maxRecDepth 100000 in
/-- An item that came in. -/
theorem open_it {fuel : Nat} {cs : List Value} {x : DataW H × List MemPlace} (h : DataW.trod enc Try.prog W base spare held fuel 51 cs = some x) : ∃ r : It, cs = r.cs ∧ r.ok := by
  obtain ⟨xs, n, _, _, hl, hlen, hf⟩ := DataW.trod_struct Try.underlying51 h
  have hc : Try.prog.cellsOf 51 = 37 := by kernel_rfl
  rw [hc] at hl
  have c3 : Try.prog.cellsOf 3 = 1 := by kernel_rfl
  have c49 : Try.prog.cellsOf 49 = 32 := by kernel_rfl
  have hone : ∀ j, j < 37 → (cs.drop j).take 1 = [cs[j]?.getD undef] := fun j hj => by
    rw [List.drop_eq_getElem_cons (by omega), List.getElem?_eq_getElem (by omega)]; rfl
  obtain ⟨y0, h0⟩ : ∃ y, xs[0]? = some y := ⟨_, List.getElem?_eq_getElem (by rw [hlen]; decide)⟩
  obtain ⟨y1, h1⟩ : ∃ y, xs[1]? = some y := ⟨_, List.getElem?_eq_getElem (by rw [hlen]; decide)⟩
  obtain ⟨y2, h2⟩ : ∃ y, xs[2]? = some y := ⟨_, List.getElem?_eq_getElem (by rw [hlen]; decide)⟩
  obtain ⟨y3, h3⟩ : ∃ y, xs[3]? = some y := ⟨_, List.getElem?_eq_getElem (by rw [hlen]; decide)⟩
  obtain ⟨y4, h4⟩ : ∃ y, xs[4]? = some y := ⟨_, List.getElem?_eq_getElem (by rw [hlen]; decide)⟩
  obtain ⟨y5, h5⟩ : ∃ y, xs[5]? = some y := ⟨_, List.getElem?_eq_getElem (by rw [hlen]; decide)⟩
  have f0 : DataW.trod enc Try.prog W base spare held n 3 ((cs.drop 0).take (Try.prog.cellsOf 3)) = xs[0]? := hf 0 _ rfl
  have f1 : DataW.trod enc Try.prog W base spare held n 49 ((cs.drop 1).take (Try.prog.cellsOf 49)) = xs[1]? := hf 1 _ rfl
  have f2 : DataW.trod enc Try.prog W base spare held n 3 ((cs.drop 33).take (Try.prog.cellsOf 3)) = xs[2]? := hf 2 _ rfl
  have f3 : DataW.trod enc Try.prog W base spare held n 3 ((cs.drop 34).take (Try.prog.cellsOf 3)) = xs[3]? := hf 3 _ rfl
  have f4 : DataW.trod enc Try.prog W base spare held n 3 ((cs.drop 35).take (Try.prog.cellsOf 3)) = xs[4]? := hf 4 _ rfl
  have f5 : DataW.trod enc Try.prog W base spare held n 3 ((cs.drop 36).take (Try.prog.cellsOf 3)) = xs[5]? := hf 5 _ rfl
  rw [h0] at f0
  rw [h1] at f1
  rw [h2] at f2
  rw [h3] at f3
  rw [h4] at f4
  rw [h5] at f5
  rw [c3] at f0 f2 f3 f4 f5
  rw [c49] at f1
  rw [hone 0 (by decide)] at f0
  rw [hone 33 (by decide)] at f2
  rw [hone 34 (by decide)] at f3
  rw [hone 35 (by decide)] at f4
  rw [hone 36 (by decide)] at f5
  obtain ⟨k, ek, _, _⟩ := DataW.trod_int Try.underlying3 f0
  obtain ⟨zs, ez, hz⟩ := open_id f1
  obtain ⟨s, es, _, _⟩ := DataW.trod_int Try.underlying3 f2
  obtain ⟨f, ef, _, _⟩ := DataW.trod_int Try.underlying3 f3
  obtain ⟨o, eo, _, _⟩ := DataW.trod_int Try.underlying3 f4
  obtain ⟨l, el, _, _⟩ := DataW.trod_int Try.underlying3 f5
  simp only [List.cons.injEq, and_true] at ek es ef eo el
  refine ⟨⟨k, zs, s, f, o, l⟩, ?_, hz⟩
  have g : ∀ j, j < 37 → ∀ v, cs[j]?.getD undef = v → cs[j]? = some v := fun j hj v e => by
    rw [List.getElem?_eq_getElem (by omega)] at e ⊢
    simpa using e
  apply List.ext_getElem?
  intro j
  have hok : It.ok ⟨k, zs, s, f, o, l⟩ := hz
  obtain ⟨q0, q1, q2, q3, q4⟩ := It.get hok
  by_cases hj0 : j = 0
  · subst hj0; rw [q0]; exact g 0 (by decide) _ ek
  by_cases hj33 : j = 33
  · subst hj33; rw [q1]; exact g 33 (by decide) _ es
  by_cases hj34 : j = 34
  · subst hj34; rw [q2]; exact g 34 (by decide) _ ef
  by_cases hj35 : j = 35
  · subst hj35; rw [q3]; exact g 35 (by decide) _ eo
  by_cases hj36 : j = 36
  · subst hj36; rw [q4]; exact g 36 (by decide) _ el
  by_cases hj : j < 33
  · obtain ⟨i, rfl⟩ : ∃ i, j = 1 + i := ⟨j - 1, by omega⟩
    rw [It.ids hok i (by omega)]
    have e : ((cs.drop 1).take 32)[i]? = cs[1 + i]? := by rw [List.getElem?_take, if_pos (by omega), List.getElem?_drop]
    rw [← e, ez, List.getElem?_map, List.getElem?_eq_getElem (by omega)]
    simp [List.getD, List.getElem?_eq_getElem (show i < zs.length by omega)]
  · rw [List.getElem?_eq_none (by omega), List.getElem?_eq_none (by rw [It.len hok]; omega)]
/-- A list of items that came in. -/
theorem open_its {fuel : Nat} {cs : List Value} {x : DataW H × List MemPlace} (h : DataW.trod enc Try.prog W base spare held fuel 22 cs = some x) : ∃ (ao : Option Addr) (len cap : Nat) (rs : List It), cs = [.slice ao len cap] ∧ rs.length = len ∧ len ≤ cap ∧ cap ≤ maxLen ∧ FR W ao 37 (rs.map It.cs) ∧ (∀ r ∈ rs, r.ok) ∧ (ao = none → cap = 0) := by
  rcases open_slice Try.underlying22 h with ⟨rfl, _⟩ | ⟨a, len, cap, m, n, D, Pl, rfl, _, hl, hm, hmm, _, hx⟩
  · exact ⟨none, 0, 0, [], rfl, rfl, Nat.le_refl _, Nat.zero_le _, .inl rfl, (fun r h => by cases h), fun _ => rfl⟩
  · have hlm : len ≤ m := by rw [hmm]; split <;> omega
    have hc3 : Try.prog.cellsOf 51 = 37 := by kernel_rfl
    obtain ⟨rs, hrl, hrs⟩ := list_of (P := fun (i : Nat) (r : It) => (∀ j v, r.cs[j]? = some v → W.cell? (a.add (i * 37 + j)) = some v) ∧ r.ok) len fun i hi => by
      obtain ⟨cs', h1, h2⟩ := hx i (by omega)
      rw [hc3] at h1
      obtain ⟨_, hlen, hcell⟩ := World.cells?_some h1
      obtain ⟨r, rfl, hr⟩ := open_it h2
      refine ⟨r, fun j v hj => ?_, hr⟩
      have hlt : j < 37 := by rw [← It.len hr]; exact (List.getElem?_eq_some_iff.1 hj).1
      have c := hcell j (by omega)
      rw [Go.Deep.add_add] at c
      rw [c, hj]
    refine ⟨some a, len, cap, rs, rfl, hrl, hl, hm, ?_, fun r hr => ?_, fun h => by cases h⟩
    · by_cases h0 : len = 0
      · exact .inl (by rw [List.eq_nil_of_length_eq_zero (show rs.length = 0 by omega)]; rfl)
      · obtain ⟨b, o, spot⟩ := a
        have hspot : spot = none := by
          have hi0 : 0 < rs.length := by omega
          obtain ⟨q0, _⟩ := It.get (hrs 0 hi0).2
          have := World.cell?_spot ((hrs 0 hi0).1 0 _ q0)
          simpa [Addr.add] using this
        subst hspot
        refine .inr ⟨b, o, rfl, fun i hi => ?_⟩
        rw [List.getElem_map]
        intro j v hj
        have := (hrs i (by simpa using hi)).1 j v hj
        rw [Addr.add_lit] at this
        rw [Nat.add_assoc]; exact this
    · obtain ⟨i, hi, rfl⟩ := List.getElem_of_mem hr
      exact (hrs i hi).2
end
end Go.Proofs.Ytliponaabgcceaa
