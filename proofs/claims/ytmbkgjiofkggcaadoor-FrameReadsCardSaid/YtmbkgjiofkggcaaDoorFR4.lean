/-
  The document's ReadFrame, of whatever bytes and offset; bytes of one's own spoilt.
-/
import Derived.Test.YtmbkgjiofkggcaaDoorFR3
namespace Go.Proofs.YtmbkgjiofkggcaaDoor
open Go.RowKit
set_option linter.unusedVariables false

/-- READFRAME, OF THE DOCUMENT. -/
theorem rread_all (ao : Option Addr) (len cap : Nat) (zs : List Int) (at' : Int) (w : World) (hl : zs.length = len) (hlc : len ≤ cap) (hm : len ≤ 1000000000) (hcm : cap ≤ maxLen) (hr : Rd w ao zs) (hz : Bts zs) :
    Calls Tryd.prog 27 #[.slice ao len cap, .int .i64 at'] w (FRD w zs at') := by
  by_cases h1 : at' < 0
  · exact (rread_neg ao len cap at' w h1).mono fun e w' h => .inl ⟨.inl h1, h⟩
  by_cases h2 : (len : Int) < at'
  · exact (rread_past ao len cap at' w h1 h2).mono fun e w' h => .inl ⟨.inr (by rw [hl]; exact h2), h⟩
  obtain ⟨a, rfl⟩ : ∃ a : Nat, at' = a := ⟨at'.toNat, by omega⟩
  by_cases h3 : len < a + 13
  · refine (rread_short ao len cap a w hm (by omega) h3).mono fun e w' h => .inr (.inr ?_)
    rw [Int.toNat_natCast]
    have he : rer (zs.drop a) = 3 := by
      have hy : (zs.drop a).length = len - a := by rw [List.length_drop, hl]
      unfold rer
      by_cases h9 : (zs.drop a).length < 9
      · rw [if_pos h9]
      · rw [if_neg h9, if_pos (.inr (.inr (by omega)))]
    exact ⟨by rw [hl]; omega, by rw [he]; decide, by rw [he]; exact h⟩
  · obtain ⟨b, o, rfl, _⟩ := hr.at (by omega)
    exact rread_full b o len cap a zs w hl hlc hm hcm hr hz (by omega)
/-- A block whose first l cells are bytes. -/
def U8 (w : World) (g l : Nat) : Prop := ∃ cur, w.heap[g]? = some (.cells cur 5 (0, 0)) ∧ ∀ j, j < l → ∃ v, cur[j]? = some (.int .u8 v)
theorem U8.at {w : World} {g l : Nat} (h : U8 w g l) {j : Nat} (hj : j < l) : ∃ v, w.cell? ⟨g, j, none⟩ = some (.int .u8 v) ∧ w.frozen? ⟨g, j, none⟩ = false := by
  obtain ⟨cur, hh, hc⟩ := h
  obtain ⟨v, hv⟩ := hc j hj
  exact ⟨v, by simp [World.cell?, hh, hv], by simp [World.frozen?, hh]⟩
theorem U8.set {w : World} {g l : Nat} (h : U8 w g l) {g' j : Nat} (v : Int) : U8 (w.setCell ⟨g', j, none⟩ (.int .u8 v)) g l := by
  obtain ⟨cur, hh, hc⟩ := h
  by_cases e : g = g'
  · subst e
    refine ⟨_, Go.Joins.block_setCell (i := j) hh (.int .u8 v), fun i hi => ?_⟩
    obtain ⟨u, hu⟩ := hc i hi
    by_cases ij : j = i
    · subst ij
      exact ⟨v, by rw [Array.getElem?_setIfInBounds, if_pos rfl, if_pos (Array.getElem?_eq_some_iff.1 hu).1]⟩
    · exact ⟨u, by rw [Array.getElem?_setIfInBounds, if_neg ij]; exact hu⟩
  · exact ⟨cur, by rw [set_far _ _ _ _ _ e]; exact hh, hc⟩
/-- What spoiling bytes leaves: blocks of bytes stay such, all others are as they were. -/
def Sp (B : Nat) (w w' : World) : Prop :=
  Below B w w' ∧ w'.heap.size = w.heap.size ∧ (∀ g l, U8 w g l → U8 w' g l) ∧ (∀ (g : Nat) (cur : Array Value) (T : TypeId) (fr : Nat × Nat), T ≠ 5 → w.heap[g]? = some (Obj.cells cur T fr) → w'.heap[g]? = some (Obj.cells cur T fr))
theorem Sp.refl (B : Nat) (w : World) : Sp B w w := ⟨Below.refl _ _, rfl, fun _ _ h => h, fun _ _ _ _ _ h => h⟩
theorem Sp.drew {B : Nat} {w w' : World} (h : Sp B w w') : Sp B w w'.drew := ⟨h.1.drew, h.2.1, fun g l hu => h.2.2.1 g l hu, fun g cur T fr hT hh => h.2.2.2 g cur T fr hT hh⟩
theorem Sp.set {B : Nat} {w w' : World} (h : Sp B w w') {g l : Nat} (hu : U8 w g l) (hg : B ≤ g) (j : Nat) (v : Int) : Sp B w (w'.setCell ⟨g, j, none⟩ (.int .u8 v)) := by
  refine ⟨h.1.setCell hg _, by simp; exact h.2.1, fun g' l' hu' => (h.2.2.1 g' l' hu').set v, fun g' cur T fr hT hh => ?_⟩
  have h1 := h.2.2.2 g' cur T fr hT hh
  obtain ⟨c5, h5, _⟩ := h.2.2.1 g l hu
  have : g' ≠ g := by
    rintro rfl
    rw [h5] at h1
    simp only [Option.some.injEq, Obj.cells.injEq] at h1
    exact hT h1.2.1.symm
  rw [set_far _ _ _ _ _ this]; exact h1

set_option maxHeartbeats 2000000 in
/-- BYTES OF ONE's OWN, SPOILT. -/
theorem spoilb_any (B : Nat) (ao : Option Addr) (n c : Nat) (w : World) (hm : n ≤ maxLen) (h : n = 0 ∨ ∃ g, ao = some ⟨g, 0, none⟩ ∧ U8 w g n ∧ B ≤ g) : Calls Tryd.prog 29 #[.slice ao n c] w fun e w' => e = .returned (.tuple #[]) ∧ Sp B w w' := by
  unfold maxLen at hm
  have HH := Lib.hid h
  clear h
  go_enter Tryd.func29, Tryd.ntmps29
  go_wp2
  go_loopw [2] (fun i wr => ∃ k : Nat, k ≤ n ∧ i = .int .i64 k ∧ Sp B w wr) (fun i _ => n - (intOf i).toNat)
  case atStart => exact ⟨0, Nat.zero_le _, rfl, Sp.refl _ _⟩
  case round =>
    obtain ⟨k, hk, rfl, hS⟩ := hrel
    have HS := Lib.hid hS
    clear hS
    by_cases hlt : k < n
    · have e2 : decide ((k : Int) < (n : Int)) = true := decide_eq_true (by omega)
      obtain ⟨g, rfl, hu, hg⟩ : ∃ g, ao = some ⟨g, 0, none⟩ ∧ U8 w g n ∧ B ≤ g := by
        rcases HH.out with h | h
        · omega
        · exact h
      obtain ⟨v, hv, hf⟩ := (HS.out.2.2.1 g n hu).at hlt
      have HU := Lib.hid hu
      have i1 : (0 : Int) ≤ (k : Int) := by omega
      have i2 : (k : Int) < (n : Int) := by omega
      clear hu
      go_wp2
      go_roundw
      case rel => exact ⟨k + 1, by omega, by go_num, HS.out.set HU.out hg _ _⟩
      case measure => simp [intOf]; omega
    · have e2 : decide ((k : Int) < (n : Int)) = false := decide_eq_false (by omega)
      obtain rfl : n = k := by omega
      go_wp2
      go_end0
      exact ⟨rfl, HS.out⟩

theorem Ow.u8 {w : World} {B n kc : Nat} {ko : Option Addr} {z : List Int} (h : Ow w B ko n kc z) : n = 0 ∨ ∃ g, ko = some ⟨g, 0, none⟩ ∧ U8 w g n ∧ B ≤ g := by
  by_cases h0 : n = 0
  · exact .inl h0
  · right
    rcases h.2.2.2.2 with ⟨_, e⟩ | ⟨g, cap, cur, e, hb, hh, h1, h2, h3, h4⟩
    · omega
    · simp only [Value.slice.injEq] at e
      obtain ⟨rfl, _, rfl⟩ := e
      refine ⟨g, rfl, ⟨cur, hh, fun j hj => ?_⟩, hb⟩
      have hz : j < z.length := by rw [h.1]; exact hj
      have : (z.map (Value.int .u8))[j]? = some (.int .u8 z[j]) := by rw [List.getElem?_map, List.getElem?_eq_getElem hz]; rfl
      rw [← h4, List.getElem?_take, if_pos (by omega), Array.getElem?_toList] at this
      exact ⟨_, this⟩
end Go.Proofs.YtmbkgjiofkggcaaDoor
