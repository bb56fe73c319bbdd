/-
  What every law of the stage asks at its end.
-/
import Derived.Test.YtliponaabgcceaaBatch
namespace Go.Proofs.Ytliponaabgcceaa
open Go.RowKit
set_option linter.unusedVariables false

def zi (s : Int) : It := ⟨0, List.replicate 32 0, s, 0, 0, 0⟩
theorem zi_ok (s : Int) : (zi s).ok := by unfold It.ok zi; simp
def three : Row := [(zi 1).cs, (zi 2).cs, (zi 3).cs]
theorem flat_its (xs : List It) (h : ∀ x ∈ xs, x.ok) : Flat 37 (xs.map It.cs) := fun r hr => by
  obtain ⟨x, hx, rfl⟩ := List.mem_map.1 hr
  exact ⟨It.len (h x hx), It.one x⟩
theorem three_flat : Flat 37 three := flat_its [zi 1, zi 2, zi 3] (by intro x hx; simp at hx; rcases hx with rfl | rfl | rfl <;> exact zi_ok _)
theorem three_fr (w : World) : FR (w.alloc (.cells three.flatten.toArray 51)) (some ⟨w.heap.size, 0, none⟩) 37 three := by
  refine .inr ⟨w.heap.size, 0, rfl, fun i hi => ?_⟩
  intro j v hj
  have hl := (three_flat _ (List.getElem_mem hi)).1
  have hjl := (List.getElem?_eq_some_iff.1 hj).1
  rw [Joins.cell_of_block (heap_alloc_new w _), List.getElem?_toArray, Nat.zero_add, three_flat.get i hi j (by omega), hj]
/-- A row of rows, as a walk reads it. -/
theorem GR.at {w : World} {base : Nat} {ko : Option Addr} {n kc : Nat} {ls : List Row} (h : GR w base ko n kc ls) (h0 : 0 < n) : ∃ g, ko = some ⟨g, 0, none⟩ ∧ ∀ i, (hi : i < ls.length) → ∃ a l c, w.cell? ⟨g, i, none⟩ = some (.slice a l c) ∧ FO w 51 37 base a l c ls[i] := by
  obtain ⟨gs, h1, h2, h3⟩ := h
  obtain ⟨g, hg, _, _⟩ := h2.addr h0
  refine ⟨g, hg, fun i hi => ?_⟩
  have hi' : i < gs.length := by omega
  refine ⟨_, _, _, ?_, h3 i hi' hi⟩
  rcases h2.fr with hf | ⟨b, o, e, hc⟩
  · have hz : gs = [] := by simpa using hf
    rw [hz] at hi'; exact absurd hi' (Nat.not_lt_zero _)
  · rw [hg] at e
    cases e
    have := hc i (by simpa using hi') 0 (.slice gs[i].1 gs[i].2.1 gs[i].2.2) (by rw [List.getElem_map]; rfl)
    simpa using this
set_option maxRecDepth 100000 in
set_option maxHeartbeats 4000000 in
theorem wakes20 (w : World) : Calls Try.prog 12 #[] w fun e w' => e = .returned (.bool true) ∧ Below w.heap.size w w' := by
  obtain ⟨W0, hW0⟩ : ∃ W0, W0 = w.alloc (.cells three.flatten.toArray 51) := ⟨_, rfl⟩
  have hB0 : Below w.heap.size w W0 := by rw [hW0]; exact (Below.refl _ _).alloc (Nat.le_refl _) _
  have hb := batch_any (some ⟨w.heap.size, 0, none⟩) 3 3 2 three W0 rfl (by decide) (by decide) (by unfold maxLen; omega) (by rw [hW0]; exact three_fr w) three_flat (fun h => by cases h)
  have HB := Lib.hid hb; have HB0 := Lib.hid hB0
  have hlit : W0 = w.alloc (.cells three.flatten.toArray 51) := hW0
  have HW0 := Lib.hid hlit
  clear hb hB0 hW0 hlit
  go_enter Try.func12, Try.ntmps12
  go_wp2_with (go_at_call 9; fail)
  have hw : ∀ W, W = W0 → Calls Try.prog 9 #[.slice (some ⟨w.heap.size, 0, none⟩) 3 3, .int .i64 2] W (BPost W0 (mostOf 2) three) := fun W e => by rw [e]; exact HB.out
  refine (hw _ (by rw [HW0.out]; rfl)).mono ?_
  rintro e w1 ⟨ko, N, kc, rfl, hG, hN, hB1⟩
  have hm : mostOf 2 = 2 := by decide
  rw [hm] at hG hN
  have hN2 : N = 2 := hN.eq ⟨by decide, .inr (by decide)⟩
  subst hN2
  obtain ⟨g, rfl, hat⟩ := hG.at (by decide)
  obtain ⟨a0, l0, c0, e0, f0⟩ := hat 0 (by decide)
  obtain ⟨a1, l1, c1, e1, f1⟩ := hat 1 (by decide)
  have hl0 : l0 = 2 := f0.len.symm.trans (by decide)
  have hl1 : l1 = 1 := f1.len.symm.trans (by decide)
  subst hl0; subst hl1
  obtain ⟨g1, rfl, _, _⟩ := f1.addr (by decide)
  have hr1 : (rowsOf 2 three 2)[1]'(by decide) = [(zi 3).cs] := by rfl
  rw [hr1] at f1
  have q : w1.cell? ⟨g1, 33, none⟩ = some (.int .i64 3) := by
    rcases f1.fr with h | ⟨b, o, e, hc⟩
    · cases h
    · cases e
      have := hc 0 (by decide) 33 (.int .i64 3) (by rfl)
      simpa using this
  have HB1 := Lib.hid (HB0.out.trans (hB1.mono HB0.out.size))
  clear hG hN hat f0 f1 hB1 hm hr1
  go_wp2
  go_ret
  exact ⟨rfl, HB1.out⟩
end Go.Proofs.Ytliponaabgcceaa
