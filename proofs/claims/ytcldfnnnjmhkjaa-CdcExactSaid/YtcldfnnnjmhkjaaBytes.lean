/-
  Plain facts on bytes in memory.
-/
import Derived.Test.YtcldfnnnjmhkjaaPow
import Derived.Laws.CopyOwn
namespace Go.Proofs.Ytcldfnnnjmhkjaa
open Go.RowKit
set_option linter.unusedVariables false

/-- A row that is owned to its end is its block. -/
theorem block_of_owns {w : World} {base e g n : Nat} {xs : List Value} (h : w.ownsRow base e 1 (.slice (some ⟨g, 0, none⟩) n n) n xs) : w.heap[g]? = some (.cells xs.toArray e (0, 0)) := by
  rcases h.2 with ⟨h', _⟩ | ⟨g', cap', cur, h', _, hg, _, _, hcs, htake⟩
  · simp at h'
  · simp only [Value.slice.injEq, Option.some.injEq, Addr.mk.injEq, and_true, true_and] at h'
    obtain ⟨rfl, rfl⟩ := h'
    rw [List.take_of_length_le (by simp; omega)] at htake
    rw [hg, ← htake]

theorem cell_of_block {w : World} {g t j : Nat} {l : List Value} (h : w.heap[g]? = some (.cells l.toArray t (0, 0))) (hj : j < l.length) : w.cell? ⟨g, j, none⟩ = some (l.getD j undef) := by
  simp [World.cell?, h, List.getD, hj]

/-- THE BYTES zs LIE AT ao. -/
def Rd (w : World) (ao : Option Addr) (zs : List Int) : Prop :=
  zs = [] ∨ ∃ b o, ao = some ⟨b, o, none⟩ ∧ ∀ j, j < zs.length → w.cell? ⟨b, o + j, none⟩ = some (.int .u8 (zs.getD j 0))
/-- Each is a byte. -/
def Bts (zs : List Int) : Prop := ∀ j, j < zs.length → 0 ≤ zs.getD j 0 ∧ zs.getD j 0 ≤ 255

theorem Rd.nil (w : World) (ao : Option Addr) : Rd w ao [] := .inl rfl
theorem Rd.below {w w' : World} {ao : Option Addr} {zs : List Int} (h : Rd w ao zs) (hB : Below w.heap.size w w') : Rd w' ao zs := by
  rcases h with h | ⟨b, o, ha, hc⟩
  · exact .inl h
  · exact .inr ⟨b, o, ha, fun j hj => by have := hc j hj; rw [hB.cell (cell_lt this), this]⟩
theorem Rd.block {w : World} {g t : Nat} {zs : List Int} (h : w.heap[g]? = some (.cells (zs.map (Value.int .u8)).toArray t (0, 0))) : Rd w (some ⟨g, 0, none⟩) zs := by
  refine .inr ⟨g, 0, rfl, fun j hj => ?_⟩
  rw [Nat.zero_add, cell_of_block h (by simpa using hj)]
  simp [List.getD, hj]
theorem Rd.at {w : World} {ao : Option Addr} {zs : List Int} (h : Rd w ao zs) (h0 : 0 < zs.length) : ∃ b o, ao = some ⟨b, o, none⟩ ∧ ∀ j, j < zs.length → w.cell? ⟨b, o + j, none⟩ = some (.int .u8 (zs.getD j 0)) := by
  rcases h with h | h
  · subst h; simp at h0
  · exact h
theorem Bts.nil : Bts [] := fun j hj => by simp at hj
theorem Bts.append {a b : List Int} (ha : Bts a) (hb : Bts b) : Bts (a ++ b) := fun j hj => by
  simp only [List.getD] at *
  by_cases h : j < a.length
  · rw [List.getElem?_append_left h]; exact ha j h
  · rw [List.getElem?_append_right (by omega)]
    exact hb (j - a.length) (by simp at hj; omega)
theorem Bts.take {a : List Int} (ha : Bts a) (k : Nat) : Bts (a.take k) := fun j hj => by
  simp at hj
  have := ha j (by omega)
  simpa [List.getD, List.getElem?_take, show j < k by omega] using this
theorem Bts.drop {a : List Int} (ha : Bts a) (k : Nat) : Bts (a.drop k) := fun j hj => by
  simp at hj
  have := ha (k + j) (by omega)
  simpa [List.getD] using this

/-- The cells of bytes, as the laws on append ask for them. -/
theorem Rd.cells {w : World} {ao : Option Addr} {zs : List Int} (h : Rd w ao zs) : ∀ ad, ao = some ad → ∀ j u, (zs.map (Value.int .u8))[j]? = some u → w.cell? (ad.add j) = some u := by
  intro ad had j u hu
  obtain ⟨hj, hu⟩ := List.getElem?_eq_some_iff.1 hu
  simp at hj
  obtain ⟨b, o, ha, hc⟩ := h.at (by omega)
  rw [had] at ha
  obtain rfl := Option.some.inj ha
  rw [Addr.add_lit, hc j hj, ← hu]
  simp [List.getD, hj]
theorem Rd.take {w : World} {ao : Option Addr} {zs : List Int} (h : Rd w ao zs) (k : Nat) : Rd w ao (zs.take k) := by
  rcases h with h | ⟨b, o, ha, hc⟩
  · exact .inl (by simp [h])
  · refine .inr ⟨b, o, ha, fun j hj => ?_⟩
    simp at hj
    rw [hc j (by omega)]
    simp [List.getD, show j < k by omega]
theorem Rd.prefix {w : World} {ao : Option Addr} {a b : List Int} (h : Rd w ao (a ++ b)) : Rd w ao a := by
  have := h.take a.length
  simpa using this
theorem Rd.drop {w : World} {b o : Nat} {zs : List Int} (h : Rd w (some ⟨b, o, none⟩) zs) (k : Nat) : Rd w (some ⟨b, o + k, none⟩) (zs.drop k) := by
  rcases h with h | ⟨b', o', ha, hc⟩
  · exact .inl (by simp [h])
  · cases ha
    refine .inr ⟨b, o + k, rfl, fun j hj => ?_⟩
    simp at hj
    rw [Nat.add_assoc, hc (k + j) (by omega)]
    simp [List.getD]
theorem rd_of_ints {w : World} {x : Addr} {len cap : Nat} {zs : List Int} (hz : zs.length = cap) (hl : len ≤ cap) (hc : ∀ i, i < zs.length → w.cell? (x.add i) = some (.int .u8 (zs.getD i 0))) : Rd w (some x) (zs.take len) := by
  obtain ⟨b, off, spot⟩ := x
  by_cases h0 : 0 < zs.length
  · have hspot : spot = none := by simpa [Addr.add] using World.cell?_spot (hc 0 h0)
    subst hspot
    exact Rd.take (.inr ⟨b, off, rfl, fun j hj => by rw [← Addr.add_lit]; exact hc j hj⟩) len
  · exact .inl (by rw [List.eq_nil_of_length_eq_zero (by omega : zs.length = 0)]; simp)
theorem bts_of_wf {zs : List Int} (h : ∀ n ∈ zs, (Lit.int .u8 n).wf = true) : Bts zs := by
  intro j hj
  have := h (zs.getD j 0) (by simp [List.getD, hj])
  simpa [Lit.wf, IntKind.min, IntKind.max, IntKind.signed, IntKind.bits] using this

theorem owns_of_block {w : World} {base e g n : Nat} {xs : List Value} (h : w.heap[g]? = some (.cells xs.toArray e (0, 0))) (hb : base ≤ g) (hm : n ≤ maxLen) (hn : xs.length = n) : w.ownsRow base e 1 (.slice (some ⟨g, 0, none⟩) n n) n xs :=
  ⟨by omega, .inr ⟨g, n, xs.toArray, rfl, hb, h, Nat.le_refl _, hm, by simp [hn], by simp [← hn]⟩⟩
theorem Rd.of_owns {w : World} {base e g n cap : Nat} {zs : List Int} (h : w.ownsRow base e 1 (.slice (some ⟨g, 0, none⟩) n cap) n (zs.map (Value.int .u8))) : Rd w (some ⟨g, 0, none⟩) zs := by
  refine .inr ⟨g, 0, rfl, fun j hj => ?_⟩
  have hl := h.1
  rw [List.length_map] at hl
  rw [Nat.zero_add, h.cellAt j (by omega)]
  simp [List.getD, hj]

end Go.Proofs.Ytcldfnnnjmhkjaa
