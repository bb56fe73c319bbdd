/-
  The contracts of the power's methods.
-/
import Derived.Test.YtcldfnnnjmhkjaaProg
import Derived.WalkKit
import Derived.WalkSpells
import Derived.WalkSmall
import Derived.WalkLawsBesides
import Derived.Outline
import Derived.Lib.Hide
import Derived.Lib.SmallJoins
import Derived.RegionTactic
import Derived.BigRegion
import Derived.Deep.QuietTactic
import Derived.BigQuiet
namespace Go.Proofs.Ytcldfnnnjmhkjaa
open Go.RowKit
set_option linter.unusedVariables false

theorem cell_lt {w : World} {a : Addr} {v : Value} (h : w.cell? a = some v) : a.block < w.heap.size := by
  by_cases hb : a.block < w.heap.size
  · exact hb
  · simp [World.cell?, Array.getElem?_eq_none (Nat.le_of_not_lt hb)] at h

/-- A power in memory. -/
def Pw (w : World) (g : Nat) (off : Bool) (life : Int) (k1 : Value) (t1 : Int) (lost : Bool) (k2 : Value) (t2 due : Int) : Prop :=
  w.heap[g]? = some (.cells #[.bool off, .int .i64 life, k1, .int .i64 t1, .bool lost, k2, .int .i64 t2, .int .i64 due] 56 (0, 0))

theorem new_any (w : World) : Calls Try.prog 22 #[] w fun e w' => e = .returned (.pointer (some ⟨w.heap.size, 0, none⟩)) ∧ Pw w' w.heap.size false 0 (.slice none 0 0) 0 false (.slice none 0 0) 0 0 ∧ Below w.heap.size w w' := by
  go_enter Try.func22, Try.ntmps22
  go_wp2
  go_ret
  exact ⟨rfl, heap_alloc_new _ _, (Below.refl _ _).alloc (Nat.le_refl _) _⟩

theorem off_any (w : World) (g : Nat) (off : Bool) (life : Int) (k1 : Value) (t1 : Int) (lost : Bool) (k2 : Value) (t2 due : Int) (h : Pw w g off life k1 t1 lost k2 t2 due) :
    Calls Try.prog 25 #[.pointer (some ⟨g, 0, none⟩)] w fun e w' => e = .returned (.bool off) ∧ w = w' := by
  have c0 : w.cell? ⟨g, 0, none⟩ = some (.bool off) := by rw [Joins.cell_of_block h]; rfl
  have H := Lib.hid h
  clear h
  go_enter Try.func25, Try.ntmps25
  go_wp2
  go_ret
  exact ⟨rfl, rfl⟩

/-- No block but g has turned. -/
def Only (g : Nat) (w w' : World) : Prop := ∀ b, b < w.heap.size → b ≠ g → w'.heap[b]? = w.heap[b]?
theorem Only.set {g i : Nat} {w w' : World} {u : Value} (h : Only g w w') : Only g w (w'.setCell ⟨g, i, none⟩ u) := fun b hb hn => by
  rw [Below.heap_setCell _ _ _ _ hn]; exact h b hb hn
theorem Only.refl (g : Nat) (w : World) : Only g w w := fun _ _ _ => rfl

theorem pw_lose {W : World} {g : Nat} {off : Bool} {life : Int} {k1 : Value} {t1 : Int} {lost : Bool} {k2 : Value} {t2 due : Int} (k : Value) (t : Int) (h : Pw W g off life k1 t1 lost k2 t2 due) :
    Pw (((((((W.setCell ⟨g, 0, none⟩ (.bool true)).setCell ⟨g, 4, none⟩ (.bool true)).setCell ⟨g, 2, none⟩ k).setCell ⟨g, 3, none⟩ (.int .i64 t)).setCell ⟨g, 7, none⟩ (.int .i64 0)).setCell ⟨g, 5, none⟩ (.slice none 0 0)).setCell ⟨g, 6, none⟩ (.int .i64 0)).drew g true life k t true (.slice none 0 0) 0 0 := by
  have b1 := Joins.block_setCell (i := 0) h (.bool true)
  have b2 := Joins.block_setCell (i := 4) b1 (.bool true)
  have b3 := Joins.block_setCell (i := 2) b2 k
  have b4 := Joins.block_setCell (i := 3) b3 (.int .i64 t)
  have b5 := Joins.block_setCell (i := 7) b4 (.int .i64 0)
  have b6 := Joins.block_setCell (i := 5) b5 (.slice none 0 0)
  have b7 := Joins.block_setCell (i := 6) b6 (.int .i64 0)
  unfold Pw
  rw [show ∀ V : World, V.drew.heap = V.heap from fun _ => rfl, b7]
  simp

theorem only_lose {w W : World} {g : Nat} (k : Value) (t : Int) (h : Only g w W) :
    Only g w (((((((W.setCell ⟨g, 0, none⟩ (.bool true)).setCell ⟨g, 4, none⟩ (.bool true)).setCell ⟨g, 2, none⟩ k).setCell ⟨g, 3, none⟩ (.int .i64 t)).setCell ⟨g, 7, none⟩ (.int .i64 0)).setCell ⟨g, 5, none⟩ (.slice none 0 0)).setCell ⟨g, 6, none⟩ (.int .i64 0)).drew := by
  have h1 := h.set (i := 0) (u := .bool true)
  have h2 := h1.set (i := 4) (u := .bool true)
  have h3 := h2.set (i := 2) (u := k)
  have h4 := h3.set (i := 3) (u := .int .i64 t)
  have h5 := h4.set (i := 7) (u := .int .i64 0)
  have h6 := h5.set (i := 5) (u := .slice none 0 0)
  have h7 := h6.set (i := 6) (u := .int .i64 0)
  intro b hb hn
  rw [show ∀ V : World, V.drew.heap = V.heap from fun _ => rfl]
  exact h7 b hb hn

set_option maxHeartbeats 1000000 in
theorem lose_any (w : World) (g : Nat) (off : Bool) (life : Int) (k1 : Value) (t1 : Int) (lost : Bool) (k2 : Value) (t2 due : Int) (ko : Option Addr) (kl kc : Nat) (t : Int) (h : Pw w g off life k1 t1 lost k2 t2 due) :
    Calls Try.prog 35 #[.pointer (some ⟨g, 0, none⟩), .agg #[.slice ko kl kc, .int .i64 t]] w fun e w' => e = .returned (.tuple #[]) ∧ Pw w' g true life (.slice ko kl kc) t true (.slice none 0 0) 0 0 ∧ Below g w w' ∧ Only g w w' := by
  have c0 : w.cell? ⟨g, 0, none⟩ = some (.bool off) := by rw [Joins.cell_of_block h]; rfl
  have c2 : w.cell? ⟨g, 2, none⟩ = some k1 := by rw [Joins.cell_of_block h]; rfl
  have c3 : w.cell? ⟨g, 3, none⟩ = some (.int .i64 t1) := by rw [Joins.cell_of_block h]; rfl
  have c4 : w.cell? ⟨g, 4, none⟩ = some (.bool lost) := by rw [Joins.cell_of_block h]; rfl
  have c5 : w.cell? ⟨g, 5, none⟩ = some k2 := by rw [Joins.cell_of_block h]; rfl
  have c6 : w.cell? ⟨g, 6, none⟩ = some (.int .i64 t2) := by rw [Joins.cell_of_block h]; rfl
  have c7 : w.cell? ⟨g, 7, none⟩ = some (.int .i64 due) := by rw [Joins.cell_of_block h]; rfl
  have f0 : ∀ i, w.frozen? ⟨g, i, none⟩ = false := fun i => Joins.unfrozen_of_block h i
  have hg : g < w.heap.size := cell_lt c0
  have H := Lib.hid h
  clear h
  go_enter Try.func35, Try.ntmps35
  go_wp2
  obtain ⟨W, hW⟩ : ∃ W, W = w.alloc (Obj.cells #[Value.slice ko kl kc, Value.int IntKind.i64 t] 54) := ⟨_, rfl⟩
  rw [← hW]
  have hB0 : Below w.heap.size w W := by rw [hW]; exact (Below.refl _ _).alloc (Nat.le_refl _) _
  have e : ∀ i, W.cell? ⟨g, i, none⟩ = w.cell? ⟨g, i, none⟩ := fun i => hB0.cell (p := ⟨g, i, none⟩) hg
  have ef : ∀ i, W.frozen? ⟨g, i, none⟩ = false := fun i => (hB0.frozen (p := ⟨g, i, none⟩) hg).trans (f0 i)
  have HP : Hid (Pw W g off life k1 t1 lost k2 t2 due) := (hB0.block g hg).trans H.out
  have HB0 := Lib.hid (hB0.mono (Nat.le_of_lt hg))
  have HO : Hid (Only g w W) := fun b hb _ => hB0.block b hb
  have n0 : W.cell? ⟨w.heap.size, 0, none⟩ = some (.slice ko kl kc) := by rw [hW]; simp [World.cell?_alloc_new]
  have n1 : W.cell? ⟨w.heap.size, 1, none⟩ = some (.int .i64 t) := by rw [hW]; simp [World.cell?_alloc_new]
  rw [← e] at c0 c2 c3 c4 c5 c6 c7
  have HW := Lib.hid hW
  clear hW e f0 hB0 H
  go_region
  go_wp2
  go_end0
  refine ⟨rfl, ?_, ((((((((HB0.out.setCell (Nat.le_refl _) _).setCell (Nat.le_refl _) _).setCell (Nat.le_refl _) _).setCell (Nat.le_refl _) _).setCell (Nat.le_refl _) _).setCell (Nat.le_refl _) _).setCell (Nat.le_refl _) _).drew), ?_⟩
  · exact pw_lose _ _ HP.out
  · exact only_lose _ _ HO.out

theorem start_any (w : World) (g : Nat) (off : Bool) (life : Int) (k1 : Value) (t1 : Int) (lost : Bool) (k2 : Value) (t2 due : Int) (h : Pw w g off life k1 t1 lost k2 t2 due) (h0 : 0 ≤ life) (h1 : life ≤ 1000000) :
    Calls Try.prog 26 #[.pointer (some ⟨g, 0, none⟩)] w fun e w' => e = .returned (.tuple #[]) ∧ Pw w' g false (if off then life + 1 else life) k1 t1 lost k2 t2 due ∧ Below g w w' := by
  have c0 : w.cell? ⟨g, 0, none⟩ = some (.bool off) := by rw [Joins.cell_of_block h]; rfl
  have c1 : w.cell? ⟨g, 1, none⟩ = some (.int .i64 life) := by rw [Joins.cell_of_block h]; rfl
  have f0 : ∀ i, w.frozen? ⟨g, i, none⟩ = false := fun i => Joins.unfrozen_of_block h i
  have H := Lib.hid h
  clear h
  cases off with
  | true =>
    go_enter Try.func26, Try.ntmps26
    go_wp2
    go_end0
    refine ⟨rfl, ?_, ((Below.refl g w).setCell (Nat.le_refl _) _).setCell (Nat.le_refl _) _⟩
    exact (Joins.block_setCell (i := 1) (Joins.block_setCell (i := 0) H.out _) _).trans (by simp)
  | false =>
    go_enter Try.func26, Try.ntmps26
    go_wp2
    go_end0
    exact ⟨rfl, H.out, Below.refl g w⟩

theorem life_any (w : World) (g : Nat) (off : Bool) (life : Int) (k1 : Value) (t1 : Int) (lost : Bool) (k2 : Value) (t2 due : Int) (h : Pw w g off life k1 t1 lost k2 t2 due) :
    Calls Try.prog 27 #[.pointer (some ⟨g, 0, none⟩)] w fun e w' => e = .returned (.int .i64 life) ∧ w = w' := by
  have c0 : w.cell? ⟨g, 1, none⟩ = some (.int .i64 life) := by rw [Joins.cell_of_block h]; rfl
  have H := Lib.hid h
  clear h
  go_enter Try.func27, Try.ntmps27
  go_wp2
  go_ret
  exact ⟨rfl, rfl⟩

theorem torn_any (w : World) (g : Nat) (off : Bool) (life : Int) (k1 : Value) (t1 : Int) (lost : Bool) (k2 : Value) (t2 due : Int) (h : Pw w g off life k1 t1 lost k2 t2 due) :
    Calls Try.prog 30 #[.pointer (some ⟨g, 0, none⟩)] w fun e w' => e = .returned (.int .i64 (if lost then t1 else -1)) ∧ w = w' := by
  have c4 : w.cell? ⟨g, 4, none⟩ = some (.bool lost) := by rw [Joins.cell_of_block h]; rfl
  have c3 : w.cell? ⟨g, 3, none⟩ = some (.int .i64 t1) := by rw [Joins.cell_of_block h]; rfl
  have H := Lib.hid h
  clear h
  cases lost
  all_goals
    go_enter Try.func30, Try.ntmps30
    go_wp2
    go_ret
    exact ⟨rfl, rfl⟩

/-- Spend: off. -/
theorem spend_off (w : World) (g : Nat) (life : Int) (k1 : Value) (t1 : Int) (lost : Bool) (k2 : Value) (t2 due : Int) (h : Pw w g true life k1 t1 lost k2 t2 due) :
    Calls Try.prog 24 #[.pointer (some ⟨g, 0, none⟩)] w fun e w' => e = .returned (.bool false) ∧ w = w' := by
  have c0 : w.cell? ⟨g, 0, none⟩ = some (.bool true) := by rw [Joins.cell_of_block h]; rfl
  have H := Lib.hid h
  clear h
  go_enter Try.func24, Try.ntmps24
  go_wp2
  go_ret
  exact ⟨rfl, rfl⟩

theorem spend_free (w : World) (g : Nat) (life : Int) (k1 : Value) (t1 : Int) (lost : Bool) (k2 : Value) (t2 due : Int) (h : Pw w g false life k1 t1 lost k2 t2 due) (hd : due < 1) :
    Calls Try.prog 24 #[.pointer (some ⟨g, 0, none⟩)] w fun e w' => e = .returned (.bool true) ∧ w = w' := by
  have c0 : w.cell? ⟨g, 0, none⟩ = some (.bool false) := by rw [Joins.cell_of_block h]; rfl
  have c7 : w.cell? ⟨g, 7, none⟩ = some (.int .i64 due) := by rw [Joins.cell_of_block h]; rfl
  have H := Lib.hid h
  clear h
  go_enter Try.func24, Try.ntmps24
  go_wp2
  go_ret
  exact ⟨rfl, rfl⟩

theorem spend_more (w : World) (g : Nat) (life : Int) (k1 : Value) (t1 : Int) (lost : Bool) (k2 : Value) (t2 due : Int) (h : Pw w g false life k1 t1 lost k2 t2 due) (hd : 1 < due) (hb : due ≤ 1000000) :
    Calls Try.prog 24 #[.pointer (some ⟨g, 0, none⟩)] w fun e w' => e = .returned (.bool true) ∧ Pw w' g false life k1 t1 lost k2 t2 (due - 1) ∧ Below g w w' := by
  have c0 : w.cell? ⟨g, 0, none⟩ = some (.bool false) := by rw [Joins.cell_of_block h]; rfl
  have c7 : w.cell? ⟨g, 7, none⟩ = some (.int .i64 due) := by rw [Joins.cell_of_block h]; rfl
  have f0 : ∀ i, w.frozen? ⟨g, i, none⟩ = false := fun i => Joins.unfrozen_of_block h i
  have d1 : (due - 1 == 0) = false := beq_eq_false_iff_ne.2 (by omega)
  have H := Lib.hid h
  clear h
  go_enter Try.func24, Try.ntmps24
  go_wp2
  go_ret
  exact ⟨rfl, (Joins.block_setCell (i := 7) H.out _).trans (by simp), (Below.refl g w).setCell (Nat.le_refl _) _⟩

theorem spend_last (w : World) (g : Nat) (life : Int) (k1 : Value) (t1 : Int) (lost : Bool) (ko : Option Addr) (kl kc : Nat) (t2 : Int) (h : Pw w g false life k1 t1 lost (.slice ko kl kc) t2 1) :
    Calls Try.prog 24 #[.pointer (some ⟨g, 0, none⟩)] w fun e w' => e = .returned (.bool false) ∧ Pw w' g true life (.slice ko kl kc) t2 true (.slice none 0 0) 0 0 ∧ Below g w w' ∧ Only g w w' := by
  have c0 : w.cell? ⟨g, 0, none⟩ = some (.bool false) := by rw [Joins.cell_of_block h]; rfl
  have c7 : w.cell? ⟨g, 7, none⟩ = some (.int .i64 1) := by rw [Joins.cell_of_block h]; rfl
  have c5 : w.cell? ⟨g, 5, none⟩ = some (.slice ko kl kc) := by rw [Joins.cell_of_block h]; rfl
  have c6 : w.cell? ⟨g, 6, none⟩ = some (.int .i64 t2) := by rw [Joins.cell_of_block h]; rfl
  have f0 : ∀ i, w.frozen? ⟨g, i, none⟩ = false := fun i => Joins.unfrozen_of_block h i
  have HP : Hid (Pw (w.setCell ⟨g, 7, none⟩ (.int .i64 0)) g false life k1 t1 lost (.slice ko kl kc) t2 0) := (Joins.block_setCell (i := 7) h _).trans (by simp)
  clear h
  go_enter Try.func24, Try.ntmps24
  go_wp2_with (go_at_call 35; refine (lose_any _ g _ _ _ _ _ _ _ _ ko kl kc t2 HP.out).mono ?_; rintro e w1 ⟨rfl, hp, hB, ho⟩; have HPP := Lib.hid hp; have HO := Lib.hid ho; clear hp ho)
  go_ret
  exact ⟨rfl, HPP.out, ((Below.refl g w).setCell (Nat.le_refl _) _).trans hB, fun b hb hn => (HO.out b (by simpa using hb) hn).trans (Below.heap_setCell _ _ _ _ hn)⟩

end Go.Proofs.Ytcldfnnnjmhkjaa
