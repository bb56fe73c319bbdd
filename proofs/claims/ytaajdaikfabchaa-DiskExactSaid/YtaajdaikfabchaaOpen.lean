/-
  What came in: bytes, rows, numbers, bools.
-/
import Derived.Test.YtaajdaikfabchaaPow
import Derived.Deep.Slices
import Derived.Deep.Fields
import Derived.Deep.Strs
import Derived.Deep.Grids
import Derived.ChangeSame
namespace Go.Proofs.Ytaajdaikfabchaa
open Go.ChangeShapes Go.WideShapes Go.ChangeAt Go.RowKit Go.Deep
set_option linter.unusedVariables false

theorem rd_of_ints {w : World} {x : Addr} {len cap : Nat} {zs : List Int} (hz : zs.length = cap) (hl : len ≤ cap) (hc : ∀ i, i < zs.length → w.cell? (x.add i) = some (.int .u8 (zs.getD i 0))) : Rd w (some x) (zs.take len) := by
  obtain ⟨b, off, spot⟩ := x
  by_cases h0 : 0 < zs.length
  · have hspot : spot = none := by simpa [Addr.add] using World.cell?_spot (hc 0 h0)
    subst hspot
    exact Rd.take (.inr ⟨b, off, rfl, fun j hj => by rw [← Addr.add_lit]; exact hc j hj⟩) len
  · exact .inl (by rw [List.eq_nil_of_length_eq_zero (by omega : zs.length = 0)]; simp)
theorem bts_of_wf {zs : List Int} (h : ∀ n ∈ zs, (Lit.int .u8 n).wf = true) : Bts zs := by
  intro j hj
  have := h (zs.getD j 0) (by simp [List.getD, hj])
  simpa [Lit.wf, IntKind.min, IntKind.max, IntKind.signed, IntKind.bits] using this
/-- A slice of numbers: nil, or a row of cap numbers. -/
def IsRow (k : IntKind) (w : World) (a : Option Addr) (len cap : Nat) (zs : List Int) : Prop :=
  (a = none ∧ len = 0 ∧ cap = 0 ∧ zs = []) ∨
  ∃ x, a = some x ∧ len ≤ cap ∧ cap ≤ maxLen ∧ zs.length = cap ∧ (∀ i, i < zs.length → w.cell? (x.add i) = some (.int k (zs.getD i 0))) ∧ ∀ n ∈ zs, (Lit.int k n).wf = true
theorem IsRow.part {w : World} {a : Option Addr} {len cap : Nat} {zs : List Int} (h : IsRow .u8 w a len cap zs) : Part.ok w ⟨a, len, cap, zs.take len⟩ := by
  rcases h with ⟨rfl, rfl, rfl, rfl⟩ | ⟨x, rfl, h1, h2, h3, h4, h5⟩
  · exact Part.ok.nil_ w
  · exact ⟨rd_of_ints h3 h1 h4, by simp; omega, (bts_of_wf h5).take _, Nat.le_trans h1 h2, (fun h => by cases h), h1, h2⟩

/-- THE PARTS ps LIE AT ao. -/
def Ps (w : World) (ao : Option Addr) (ps : List Part) : Prop :=
  ps = [] ∨ ∃ b o, ao = some ⟨b, o, none⟩ ∧ ∀ r, (h : r < ps.length) → w.cell? ⟨b, o + r, none⟩ = some (.slice ps[r].a ps[r].l ps[r].c) ∧ ps[r].ok w
theorem Ps.below {w w' : World} {ao : Option Addr} {ps : List Part} (h : Ps w ao ps) (hB : Below w.heap.size w w') : Ps w' ao ps := by
  rcases h with h | ⟨b, o, ha, hc⟩
  · exact .inl h
  · exact .inr ⟨b, o, ha, fun r hr => ⟨by rw [hB.cell (cell_lt (hc r hr).1)]; exact (hc r hr).1, (hc r hr).2.below hB⟩⟩
theorem Ps.at {w : World} {ao : Option Addr} {ps : List Part} (h : Ps w ao ps) {r : Nat} (hr : r < ps.length) : ∃ b o, ao = some ⟨b, o, none⟩ ∧ w.cell? ⟨b, o + r, none⟩ = some (.slice ps[r].a ps[r].l ps[r].c) ∧ ps[r].ok w := by
  rcases h with h | ⟨b, o, ha, hc⟩
  · rw [h] at hr; exact absurd hr (Nat.not_lt_zero _)
  · exact ⟨b, o, ha, (hc r hr).1, (hc r hr).2⟩
/-- A slice of slices of numbers. -/
def IsRows (k : IntKind) (w : World) (a : Option Addr) (len cap : Nat) (A : Nat → Option Addr) (L C : Nat → Nat) (Z : Nat → List Int) : Prop :=
  (a = none ∧ len = 0 ∧ cap = 0) ∨
  ∃ x, a = some x ∧ len ≤ cap ∧ cap ≤ maxLen ∧ ∀ r, r < cap → w.cell? (x.add r) = some (.slice (A r) (L r) (C r)) ∧ L r ≤ C r ∧ C r ≤ maxLen ∧ (Z r).length = C r ∧ (∀ n ∈ Z r, (Lit.int k n).wf = true) ∧
    (A r = none → C r = 0) ∧ ∀ a', A r = some a' → ∀ c, c < C r → w.cell? (a'.add c) = some (.int k ((Z r).getD c 0))
theorem IsRows.parts {w : World} {a : Option Addr} {len cap : Nat} {A : Nat → Option Addr} {L C : Nat → Nat} {Z : Nat → List Int} (h : IsRows .u8 w a len cap A L C Z) :
    ∃ ps : List Part, ps.length = len ∧ len ≤ maxLen ∧ Ps w a ps := by
  rcases h with ⟨rfl, rfl, rfl⟩ | ⟨x, rfl, h1, h2, h3⟩
  · exact ⟨[], rfl, Nat.zero_le _, .inl rfl⟩
  · refine ⟨(List.range len).map fun r => ⟨A r, L r, C r, (Z r).take (L r)⟩, by simp, Nat.le_trans h1 h2, ?_⟩
    by_cases h0 : len = 0
    · subst h0; exact .inl rfl
    · obtain ⟨b, o, spot⟩ := x
      have hspot : spot = none := by simpa [Addr.add] using World.cell?_spot (h3 0 (by omega)).1
      subst hspot
      refine .inr ⟨b, o, rfl, fun r hr => ?_⟩
      simp only [List.length_map, List.length_range] at hr
      obtain ⟨k1, k2, k3, k4, k5, k6, k7⟩ := h3 r (by omega)
      simp only [List.getElem_map, List.getElem_range]
      refine ⟨by rw [← Addr.add_lit]; exact k1, ?_, by simp; omega, (bts_of_wf k5).take _, Nat.le_trans k2 k3, k6, k2, k3⟩
      rcases ha : A r with _ | a'
      · exact .inl (by simp; have := k6 ha; omega)
      · exact rd_of_ints k4 k2 (fun i hi => k7 a' ha i (by omega))

/-- THE NUMBERS zs LIE AT ao. -/
def Ni (w : World) (ao : Option Addr) (zs : List Int) : Prop :=
  zs = [] ∨ ∃ b o, ao = some ⟨b, o, none⟩ ∧ ∀ j, j < zs.length → w.cell? ⟨b, o + j, none⟩ = some (.int .i64 (zs.getD j 0))
theorem Ni.at {w : World} {ao : Option Addr} {zs : List Int} (h : Ni w ao zs) {j : Nat} (hj : j < zs.length) : ∃ b o, ao = some ⟨b, o, none⟩ ∧ w.cell? ⟨b, o + j, none⟩ = some (.int .i64 (zs.getD j 0)) := by
  rcases h with h | ⟨b, o, ha, hc⟩
  · rw [h] at hj; exact absurd hj (Nat.not_lt_zero _)
  · exact ⟨b, o, ha, hc j hj⟩
theorem Ni.below {w w' : World} {ao : Option Addr} {zs : List Int} (h : Ni w ao zs) (hB : Below w.heap.size w w') : Ni w' ao zs := by
  rcases h with h | ⟨b, o, ha, hc⟩
  · exact .inl h
  · exact .inr ⟨b, o, ha, fun j hj => by rw [hB.cell (cell_lt (hc j hj))]; exact hc j hj⟩
theorem IsRow.ni {w : World} {a : Option Addr} {len cap : Nat} {zs : List Int} (h : IsRow .i64 w a len cap zs) : ∃ l, l.length = len ∧ Ni w a l := by
  rcases h with ⟨rfl, rfl, rfl, rfl⟩ | ⟨x, rfl, h1, h2, h3, h4, h5⟩
  · exact ⟨[], rfl, .inl rfl⟩
  · refine ⟨zs.take len, by simp; omega, ?_⟩
    by_cases h0 : len = 0
    · subst h0; exact .inl rfl
    · obtain ⟨b, o, spot⟩ := x
      have hspot : spot = none := by simpa [Addr.add] using World.cell?_spot (h4 0 (by omega))
      subst hspot
      refine .inr ⟨b, o, rfl, fun j hj => ?_⟩
      simp at hj
      rw [← Addr.add_lit, h4 j (by omega)]
      simp [List.getD, show j < len by omega]
/-- A slice of bools that came in. -/
def IsBs (w : World) (a : Option Addr) (len cap : Nat) (bs : List Bool) : Prop := bs.length = len ∧ len ≤ cap ∧ cap ≤ maxLen ∧ (a = none → len = 0 ∧ cap = 0) ∧ Bl w a bs
section
variable {H : Type} {enc : TypeId × Value → H} {W : World} {base : Nat} {held : Bool}
theorem open_bs {fuel : Nat} {cs : List Value} {x : DataW H × List MemPlace} (h : DataW.trod enc Try.prog W base (fun _ => true) held fuel 37 cs = some x) : ∃ a l c bs, cs = [.slice a l c] ∧ IsBs W a l c bs := by
  rcases Go.Deep.open_bools Try.underlying37 Try.underlying4 (by kernel_rfl) h with ⟨rfl, _⟩ | ⟨a, l, c, B, rfl, _, hl, hm, _, hcell⟩
  · exact ⟨none, 0, 0, [], rfl, rfl, Nat.le_refl _, Nat.zero_le _, fun _ => ⟨rfl, rfl⟩, .inl rfl⟩
  · refine ⟨some a, l, c, (List.range l).map B, rfl, by simp, hl, hm, (fun h => by cases h), ?_⟩
    by_cases h0 : l = 0
    · subst h0; exact .inl rfl
    · obtain ⟨b, o, spot⟩ := a
      have hspot : spot = none := by simpa [Addr.add] using World.cell?_spot (hcell 0 (by omega))
      subst hspot
      refine .inr ⟨b, o, rfl, fun j hj => ?_⟩
      simp at hj
      rw [← Addr.add_lit, hcell j (by omega)]
      simp [List.getD, hj]
end

end Go.Proofs.Ytaajdaikfabchaa
