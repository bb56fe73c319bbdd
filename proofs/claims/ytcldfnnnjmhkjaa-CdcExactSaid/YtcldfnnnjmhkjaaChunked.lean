/-
  The chunks that Cut left, looked into; what is tried at each statement's end.
-/
import Derived.Test.YtcldfnnnjmhkjaaCut
import Derived.Test.YtcldfnnnjmhkjaaKeep
import Derived.Lib.SlBytesConst
import Derived.Laws.BytesArg
namespace Go.Proofs.Ytcldfnnnjmhkjaa
open Go.RowKit
set_option linter.unusedVariables false

/-- The texts L lie in a list of their own at ao. -/
def Chs (w : World) (ao : Option Addr) (L : List (List Int)) : Prop :=
  L = [] ∨ ∃ g, ao = some ⟨g, 0, none⟩ ∧ ∀ r, r < L.length → ∃ g' c', w.cell? ⟨g, r, none⟩ = some (.slice (some ⟨g', 0, none⟩) (L.getD r []).length c') ∧ (L.getD r []).length ≤ c' ∧ c' ≤ maxLen ∧ Rd w (some ⟨g', 0, none⟩) (L.getD r [])
theorem Chs.below {w w' : World} {ao : Option Addr} {L : List (List Int)} (h : Chs w ao L) (hB : Below w.heap.size w w') : Chs w' ao L := by
  rcases h with h | ⟨g, ha, hc⟩
  · exact .inl h
  · refine .inr ⟨g, ha, fun r hr => ?_⟩
    obtain ⟨g', c', h1, h2, h3, h4⟩ := hc r hr
    exact ⟨g', c', by rw [hB.cell (cell_lt h1), h1], h2, h3, h4.below hB⟩
theorem Chs.at {w : World} {ao : Option Addr} {L : List (List Int)} (h : Chs w ao L) (h0 : 0 < L.length) :
    ∃ g, ao = some ⟨g, 0, none⟩ ∧ ∀ r, r < L.length → ∃ g' c', w.cell? ⟨g, r, none⟩ = some (.slice (some ⟨g', 0, none⟩) (L.getD r []).length c') ∧ (L.getD r []).length ≤ c' ∧ c' ≤ maxLen ∧ Rd w (some ⟨g', 0, none⟩) (L.getD r []) := by
  rcases h with h | h
  · subst h; simp at h0
  · exact h

/-- What Cut leaves, in a walk's words. -/
def CutEnd (w : World) (L : List (List Int)) (e : Ending) (w' : World) : Prop :=
  ∃ ao cap, e = .returned (.tuple #[.slice ao L.length cap, .int .i64 0]) ∧ L.length ≤ cap ∧ cap ≤ maxLen ∧ Chs w' ao L ∧ Below w.heap.size w w'
theorem cut_end (ao : Option Addr) (len cap : Nat) (zs : List Int) (w : World) (hl : zs.length = len) (hlc : len ≤ cap) (hcm : cap ≤ maxLen) (hm : len ≤ 32768) (hr : Rd w ao zs) (hz : Bts zs) :
    Calls Try.prog 14 #[.slice ao len cap] w (CutEnd w (cutL zs)) := by
  refine (cut_any ao len cap zs w hl hlc hcm hm hr hz).mono ?_
  rintro e w' ⟨v, vs, rfl, ho, hrs, hB⟩
  rcases ho.2 with ⟨h1, h2⟩ | ⟨g, c, cur, q1, q2, q3, q4, q5, q6⟩
  · subst h1
    exact ⟨none, 0, by rw [h2], by omega, Nat.zero_le _, .inl (List.eq_nil_of_length_eq_zero h2), hB⟩
  · subst q1
    refine ⟨_, _, rfl, q4, q5, .inr ⟨g, rfl, fun r hr => ?_⟩, hB⟩
    obtain ⟨g', c', r1, r2, r3, r4, _⟩ := hrs.2 r hr
    refine ⟨g', c', ?_, r2, r3, r4⟩
    rw [ho.cellAt r (by omega), ← r1]
    have := hrs.1
    simp [List.getD, show r < vs.length by omega]

theorem cut_abc : cutL [97, 98, 99] = [[97, 98, 99]] := by decide

set_option maxHeartbeats 1000000 in
theorem wakes4 (w : World) : Calls Try.prog 21 #[] w fun e w' => e = .returned (.bool true) ∧ Below w.heap.size w w' := by
  have kc := fun (w : World) (C : Array Value) (n c : Nat) => Lib.run_convert_bytes_const (P := Try.prog) w 22 5 C n c Try.underlying22 Try.underlying5
  go_enter Try.func21, Try.ntmps21
  go_wp2_with (go_at_call 14; fail)
  obtain ⟨W, hW⟩ : ∃ W, W = w.alloc (Obj.cells #[Value.int .u8 97, Value.int .u8 98, Value.int .u8 99] 5 (3, 4)) := ⟨_, rfl⟩
  rw [← hW]
  have hBW : Below w.heap.size w W := by rw [hW]; exact (Below.refl _ _).alloc (Nat.le_refl _) _
  have hrd : Rd W (some ⟨w.heap.size, 0, none⟩) [97, 98, 99] := .inr ⟨w.heap.size, 0, rfl, fun j hj => by
    rw [hW, Nat.zero_add, World.cell?_alloc_mark]
    match j, hj with
    | 0, _ => rfl
    | 1, _ => rfl
    | 2, _ => rfl⟩
  have hc := cut_end (some ⟨w.heap.size, 0, none⟩) 3 3 [97, 98, 99] W rfl (by omega) (by decide) (by omega) hrd (by intro j hj; match j, hj with | 0, _ => decide | 1, _ => decide | 2, _ => decide)
  rw [cut_abc] at hc
  refine hc.mono ?_
  rintro e w1 ⟨ao, cap, rfl, hcap, hcm, hch, hB1⟩
  obtain ⟨g, rfl, hcs⟩ := hch.at (by decide)
  obtain ⟨g', c', h1, h2, h3, h4⟩ := hcs 0 (by decide)
  obtain ⟨b2, o2, hb2, h5⟩ := h4.at (by decide)
  cases hb2
  have h1' : w1.cell? ⟨g, 0, none⟩ = some (.slice (some ⟨g', 0, none⟩) 3 c') := h1
  have hcv : (convert 22 9 (.slice (some ⟨g', 0, none⟩) 3 c')).run Try.prog w1 = .ok (.string ⟨#[97, 98, 99]⟩) w1 := Go.run_convert_bytes_arg w1 22 5 Try.underlying22 Try.underlying5 g' 0 3 c' [97, 98, 99] rfl h5 9 Try.underlying9
  have HB := Lib.hid (hBW.trans (hB1.mono hBW.size))
  clear hc hcs h1 h2 h3 h4 h5 hW hBW hrd hB1 hch hcm kc
  go_wp2_with (go_at_call 17; refine (next_empty _ _ _).mono ?_; rintro e w2 ⟨rfl, rfl⟩)
  go_ret
  exact ⟨rfl, HB.out⟩

end Go.Proofs.Ytcldfnnnjmhkjaa
