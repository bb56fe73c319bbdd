/-
  Tapes that came in: what a walk is told of them.
-/
import Derived.Test.YtmcbmemgeegodaaMed2
import Derived.Deep.Slices
import Derived.Deep.Fields
import Derived.Deep.Strs
import Derived.ChangeSame
namespace Go.Proofs.Ytmcbmemgeegodaa
open Go.ChangeShapes Go.WideShapes Go.ChangeAt Go.RowKit Go.Deep
set_option linter.unusedVariables false

theorem rd_of_ints {w : World} {x : Addr} {len cap : Nat} {zs : List Int} (hz : zs.length = cap) (hl : len ≤ cap) (hc : ∀ i, i < zs.length → w.cell? (x.add i) = some (.int .u8 (zs.getD i 0))) : Rd w (some x) (zs.take len) := by
  obtain ⟨b, off, spot⟩ := x
  by_cases h0 : 0 < zs.length
  · have hspot : spot = none := by simpa [Addr.add] using World.cell?_spot (hc 0 h0)
    subst hspot
    exact Rd.take (.inr ⟨b, off, rfl, fun j hj => by rw [← Addr.add_lit]; exact hc j hj⟩) len
  · exact .inl (by rw [List.eq_nil_of_length_eq_zero (by omega : zs.length = 0)]; simp)
theorem bts_of_wf {zs : List Int} (h : ∀ n ∈ zs, (Lit.int .u8 n).wf = true) : Bts zs := by
  intro j hj
  have := h (zs.getD j 0) (by simp [List.getD, hj])
  simpa [Lit.wf, IntKind.min, IntKind.max, IntKind.signed, IntKind.bits] using this
/-- A slice of numbers: nil, or a row of cap numbers. -/
def IsRow (k : IntKind) (w : World) (a : Option Addr) (len cap : Nat) (zs : List Int) : Prop :=
  (a = none ∧ len = 0 ∧ cap = 0 ∧ zs = []) ∨
  ∃ x, a = some x ∧ len ≤ cap ∧ cap ≤ maxLen ∧ zs.length = cap ∧ (∀ i, i < zs.length → w.cell? (x.add i) = some (.int k (zs.getD i 0))) ∧ ∀ n ∈ zs, (Lit.int k n).wf = true
theorem IsRow.part {w : World} {a : Option Addr} {len cap : Nat} {zs : List Int} (h : IsRow .u8 w a len cap zs) : Part.ok w ⟨a, len, cap, zs.take len⟩ := by
  rcases h with ⟨rfl, rfl, rfl, rfl⟩ | ⟨x, rfl, h1, h2, h3, h4, h5⟩
  · exact Part.ok.nil_ w
  · exact ⟨rd_of_ints h3 h1 h4, by simp; omega, (bts_of_wf h5).take _, Nat.le_trans h1 h2, (fun h => by cases h), h1, h2⟩

section
variable {H : Type} {enc : TypeId × Value → H} {W : World} {base : Nat} {spare : Nat → Bool} {held : Bool}

/-- Bytes that came in. -/
theorem open_part {fuel : Nat} {cs : List Value} {x : DataW H × List MemPlace} (h : DataW.trod enc Try.prog W base spare held fuel 42 cs = some x) : ∃ d : Part, cs = [.slice d.a d.l d.c] ∧ d.ok W := by
  rcases open_ints Try.underlying42 Try.underlying5 (by kernel_rfl) h with ⟨rfl, _⟩ | ⟨a, l, c, zs, rfl, _, hl, hm, hz, _, hcell, hwz⟩
  · exact ⟨⟨none, 0, 0, []⟩, rfl, Part.ok.nil_ W⟩
  · have hlz : l ≤ zs.length := by rw [hz]; split <;> omega
    exact ⟨⟨some a, l, c, zs.take l⟩, rfl, ⟨rd_of_ints (cap := zs.length) rfl hlz hcell, by simp; omega, (bts_of_wf hwz).take _, Nat.le_trans hl hm, (fun h => by cases h), hl, hm⟩⟩
set_option maxRecDepth 100000 in
/-- A cell that came in. -/
theorem open_cel {fuel : Nat} {cs : List Value} {x : DataW H × List MemPlace} (h : DataW.trod enc Try.prog W base spare held fuel 62 cs = some x) : ∃ r : Cel, cs = [.int .i64 r.k, .slice r.d.a r.d.l r.d.c, .bool r.b] ∧ r.d.ok W := by
  obtain ⟨y0, y1, y2, n, _, hlen, h0, h1, h2⟩ := trod_struct3 Try.underlying62 h
  have hlen' : cs.length = 3 := hlen.trans (by kernel_rfl)
  match cs, hlen' with
  | [v0, v1, v2], _ =>
    have e0 : (([v0, v1, v2].drop 0).take (Try.prog.cellsOf 3)) = [v0] := by rw [show Try.prog.cellsOf 3 = 1 by kernel_rfl]; rfl
    have e1 : (([v0, v1, v2].drop 1).take (Try.prog.cellsOf 42)) = [v1] := by rw [show Try.prog.cellsOf 42 = 1 by kernel_rfl]; rfl
    have e2 : (([v0, v1, v2].drop 2).take (Try.prog.cellsOf 4)) = [v2] := by rw [show Try.prog.cellsOf 4 = 1 by kernel_rfl]; rfl
    rw [e0] at h0
    rw [e1] at h1
    rw [e2] at h2
    obtain ⟨k, ek, _, _⟩ := DataW.trod_int Try.underlying3 h0
    obtain ⟨d, ed, hd⟩ := open_part h1
    obtain ⟨b, eb, _⟩ := DataW.trod_bool Try.underlying4 h2
    simp only [List.cons.injEq, and_true] at ek ed eb
    subst ek; subst ed; subst eb
    exact ⟨⟨k, d, b⟩, rfl, hd⟩
/-- A row of cells that came in. -/
theorem open_cels {fuel : Nat} {cs : List Value} {x : DataW H × List MemPlace} (h : DataW.trod enc Try.prog W base spare held fuel 22 cs = some x) : ∃ (ao : Option Addr) (len cap : Nat) (rs : List Cel), cs = [.slice ao len cap] ∧ rs.length = len ∧ len ≤ cap ∧ cap ≤ maxLen ∧ Cs W ao rs ∧ (ao = none → cap = 0) := by
  rcases open_slice Try.underlying22 h with ⟨rfl, _⟩ | ⟨a, len, cap, m, n, D, Pl, rfl, _, hl, hm, hmm, _, hx⟩
  · exact ⟨none, 0, 0, [], rfl, rfl, Nat.le_refl _, Nat.zero_le _, .inl rfl, fun _ => rfl⟩
  · have hlm : len ≤ m := by rw [hmm]; split <;> omega
    have hc3 : Try.prog.cellsOf 62 = 3 := by kernel_rfl
    obtain ⟨rs, hrl, hrs⟩ := list_of (P := fun (i : Nat) (r : Cel) => W.cell? (a.add (i * 3)) = some (.int .i64 r.k) ∧ W.cell? (a.add (i * 3 + 1)) = some (.slice r.d.a r.d.l r.d.c) ∧ W.cell? (a.add (i * 3 + 2)) = some (.bool r.b) ∧ r.d.ok W) len fun i hi => by
      obtain ⟨cs', h1, h2⟩ := hx i (by omega)
      rw [hc3] at h1
      obtain ⟨_, hlen, hcell⟩ := World.cells?_some h1
      obtain ⟨r, rfl, hr⟩ := open_cel h2
      have c0 := hcell 0 (by omega)
      have c1 := hcell 1 (by omega)
      have c2 := hcell 2 (by omega)
      rw [Go.Deep.add_add] at c0 c1 c2
      exact ⟨r, c0, c1, c2, hr⟩
    refine ⟨some a, len, cap, rs, rfl, hrl, hl, hm, ?_, fun h => by cases h⟩
    by_cases h0 : len = 0
    · exact .inl (List.eq_nil_of_length_eq_zero (by omega))
    · obtain ⟨b, o, spot⟩ := a
      have hspot : spot = none := by
        have := World.cell?_spot (hrs 0 (by omega)).1
        simpa [Addr.add] using this
      subst hspot
      refine .inr ⟨b, o, rfl, fun i hi => ?_⟩
      obtain ⟨c0, c1, c2, hr⟩ := hrs i hi
      rw [Addr.add_lit] at c0 c1 c2
      exact ⟨c0, c1, c2, hr⟩
end

end Go.Proofs.Ytmcbmemgeegodaa
