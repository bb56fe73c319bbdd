/-
  More of the power: what leaves its list where it lies.
-/
import Derived.Test.YtcldfnnnjmhkjaaTrips
namespace Go.Proofs.Ytcldfnnnjmhkjaa
open Go.RowKit
set_option linter.unusedVariables false

theorem start_only (w : World) (g : Nat) (off : Bool) (life : Int) (k1 : Value) (t1 : Int) (lost : Bool) (k2 : Value) (t2 due : Int) (h : Pw w g off life k1 t1 lost k2 t2 due) (h0 : 0 ≤ life) (h1 : life ≤ 1000000) :
    Calls Try.prog 26 #[.pointer (some ⟨g, 0, none⟩)] w fun e w' => e = .returned (.tuple #[]) ∧ Pw w' g false (if off then life + 1 else life) k1 t1 lost k2 t2 due ∧ Below g w w' ∧ Only g w w' := by
  obtain ⟨c0, c1, c2, c3, c4, c5, c6, c7, f0⟩ := h.c
  have H := Lib.hid h
  clear h
  cases off with
  | true =>
    go_enter Try.func26, Try.ntmps26
    go_wp2
    go_end0
    refine ⟨rfl, ?_, ((Below.refl g w).setCell (Nat.le_refl _) _).setCell (Nat.le_refl _) _, ((Only.refl g w).set).set⟩
    exact (Joins.block_setCell (i := 1) (Joins.block_setCell (i := 0) H.out _) _).trans (by simp)
  | false =>
    go_enter Try.func26, Try.ntmps26
    go_wp2
    go_end0
    exact ⟨rfl, H.out, Below.refl g w, Only.refl g w⟩

/-- What Cut of a power that is on leaves; its list lies elsewhere. -/
def CutPost2 (w : World) (g : Nat) (life : Int) (m : Nat) (bs : List Bool) (t : Int) (e : Ending) (w' : World) : Prop :=
  ∃ ko kc, e = .returned (.tuple #[]) ∧ Pw w' g true life (.slice ko m kc) t true (.slice none 0 0) 0 0 ∧ Bl w' ko bs ∧ Below g w w' ∧ (∀ b o s, ko = some ⟨b, o, s⟩ → b ≠ g)

set_option maxHeartbeats 1000000 in
theorem cut_on2 (w : World) (g : Nat) (life : Int) (k1 : Value) (t1 : Int) (lost : Bool) (k2 : Value) (t2 due : Int) (ao : Option Addr) (m cap : Nat) (bs : List Bool) (t : Int) (h : Pw w g false life k1 t1 lost k2 t2 due)
    (hl : bs.length = m) (hm : m ≤ 1000000) (hb : Bl w ao bs) (hnn : ao = none → m = 0 ∧ cap = 0) :
    Calls Try.prog 31 #[.pointer (some ⟨g, 0, none⟩), .slice ao m cap, .int .i64 t] w (CutPost2 w g life m bs t) := by
  obtain ⟨c0, c1, c2, c3, c4, c5, c6, c7, f0⟩ := h.c
  have HC := Lib.hid (clone_any ao m cap bs w hl hm hb hnn)
  have HP := Lib.hid h
  clear h hb hnn
  go_enter Try.func31, Try.ntmps31
  go_wp2_with (first
    | (go_at_call 34; refine HC.out.mono ?_; rintro e w1 ⟨ko, kc, rfl, hbl, hB1, hge⟩; have HGE := Lib.hid hge; have HP1 := Lib.hid (HP.out.kept hB1); have HBL := Lib.hid hbl; have HB1 := Lib.hid hB1; clear hge hbl hB1)
    | (go_at_call 35; refine (lose_any _ g _ _ _ _ _ _ _ _ ko m kc t HP1.out).mono ?_; rintro e w2 ⟨rfl, hp2, hB2, ho2⟩; have HP2 := Lib.hid hp2; have HB2 := Lib.hid hB2; have HO2 := Lib.hid ho2; clear hp2 hB2 ho2))
  go_end0
  have hgW : g < w.heap.size := HP.out.lt
  have hne : ∀ b o s, ko = some ⟨b, o, s⟩ → b ≠ g := fun b o s h => by have := HGE.out b o s h; omega
  exact ⟨ko, kc, rfl, HP2.out, HBL.out.only HO2.out hne, (HB1.out.mono (Nat.le_of_lt hgW)).trans HB2.out, hne⟩

end Go.Proofs.Ytcldfnnnjmhkjaa
