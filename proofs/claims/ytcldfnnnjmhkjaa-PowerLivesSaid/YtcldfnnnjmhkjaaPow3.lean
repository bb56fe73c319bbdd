/-
  What is tried at each statement's end.
-/
import Derived.Test.YtcldfnnnjmhkjaaPow2
namespace Go.Proofs.Ytcldfnnnjmhkjaa
open Go.RowKit
set_option linter.unusedVariables false

theorem Bl.at {w : World} {ao : Option Addr} {bs : List Bool} (h : Bl w ao bs) (h0 : 0 < bs.length) : ∃ b o, ao = some ⟨b, o, none⟩ ∧ ∀ j, j < bs.length → w.cell? ⟨b, o + j, none⟩ = some (.bool (bs.getD j false)) := by
  rcases h with h | h
  · subst h; simp at h0
  · exact h

set_option maxHeartbeats 2000000 in
theorem wakes8 (w : World) : Calls Try.prog 28 #[] w fun e w' => e = .returned (.bool true) ∧ Below w.heap.size w w' := by
  go_enter Try.func28, Try.ntmps28
  go_wp2_with (first
    | (go_at_call 22; refine (new_any _).mono ?_; rintro e w1 ⟨rfl, hp1, hB1⟩; have HP1 := Lib.hid hp1; have HB1 := Lib.hid hB1; clear hp1 hB1)
    | (go_at_call 23; fail))
  obtain ⟨W, hW⟩ : ∃ W, W = w1.alloc (Obj.cells #[Value.bool true] 4) := ⟨_, rfl⟩
  rw [← hW]
  have hBW : Below w1.heap.size w1 W := by rw [hW]; exact (Below.refl _ _).alloc (Nat.le_refl _) _
  have hbl : Bl W (some ⟨w1.heap.size, 0, none⟩) [true] := .inr ⟨w1.heap.size, 0, rfl, fun j hj => by
    have : j = 0 := by simp at hj; omega
    subst this
    rw [hW]; simp [World.cell?_alloc_new]⟩
  have hlt := HP1.out.lt
  refine (trip_some W w.heap.size false 0 _ 0 false _ 0 0 1 (some ⟨w1.heap.size, 0, none⟩) 1 1 [true] 3 (HP1.out.kept hBW) (by omega) rfl (by omega) hbl (fun b o s h => by cases h; omega) (fun h => by cases h)).mono ?_
  rintro e w2 ⟨ko, kc, rfl, hp2, hb2, hB2, hne⟩
  have HB2 := Lib.hid (HB1.out.trans ((hBW.mono (Nat.le_of_lt hlt)).trans hB2))
  have HP2 := Lib.hid hp2; have HBL2 := Lib.hid hb2; have HNE := Lib.hid hne
  clear hBW hbl hW hp2 hb2 hB2 hne hlt
  go_wp2_with (first
    | (go_at_call 24; refine (spend_last _ w.heap.size 0 _ 0 false ko 1 kc 3 HP2.out).mono ?_; rintro e w3 ⟨rfl, hp3, hB3, ho3⟩; have HP3 := Lib.hid hp3; have HB3 := Lib.hid hB3; have HO3 := Lib.hid ho3; clear hp3 hB3 ho3)
    | (go_at_call 25; fail))
  obtain ⟨b, o, hko, hcell⟩ := (HBL2.out.only HO3.out HNE.out).at (by decide)
  have HC := Lib.hid (hcell 0 (by decide))
  clear hcell
  subst hko
  have HK0 : Hid (Calls Try.prog 29 #[.pointer (some ⟨w.heap.size, 0, none⟩), .int .i64 0] w3 fun e w' => e = .returned (.bool true) ∧ w3 = w') := kept_in w3 w.heap.size true 0 b o 1 kc 3 true _ 0 0 0 true HP3.out (by omega) HC.out
  have HK1 : Hid (Calls Try.prog 29 #[.pointer (some ⟨w.heap.size, 0, none⟩), .int .i64 1] w3 fun e w' => e = .returned (.bool false) ∧ w3 = w') := kept_out w3 w.heap.size true 0 (some ⟨b, o, none⟩) 1 kc 3 true _ 0 0 1 HP3.out (.inr (by omega))
  go_wp2_with (first
    | (go_at_call 25; refine (off_any _ _ _ _ _ _ _ _ _ _ HP3.out).mono ?_; rintro e w4 ⟨rfl, rfl⟩)
    | (go_at_call 29; fail))
  refine HK0.out.mono ?_
  rintro e w4 ⟨rfl, rfl⟩
  go_wp2_with (go_at_call 29; fail)
  refine HK1.out.mono ?_
  rintro e w4 ⟨rfl, rfl⟩
  go_wp2_with (first
    | (go_at_call 30; refine (torn_any _ _ _ _ _ _ _ _ _ _ HP3.out).mono ?_; rintro e w4 ⟨rfl, rfl⟩)
    | (go_at_call 27; refine (life_any _ _ _ _ _ _ _ _ _ _ HP3.out).mono ?_; rintro e w4 ⟨rfl, rfl⟩))
  go_ret
  exact ⟨rfl, HB2.out.trans HB3.out⟩

end Go.Proofs.Ytcldfnnnjmhkjaa
