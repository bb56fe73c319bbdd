/-
  Tapes: one's own spoilt.
-/
import Derived.Test.YtmcbmemgeegodaaMedJ
namespace Go.Proofs.Ytmcbmemgeegodaa
open Go.RowKit
set_option linter.unusedVariables false

/-- A block whose first l cells are bytes. -/
def U8 (w : World) (g l : Nat) : Prop := ∃ cur, w.heap[g]? = some (.cells cur 5 (0, 0)) ∧ ∀ j, j < l → ∃ v, cur[j]? = some (.int .u8 v)
theorem U8.at {w : World} {g l : Nat} (h : U8 w g l) {j : Nat} (hj : j < l) : ∃ v, w.cell? ⟨g, j, none⟩ = some (.int .u8 v) ∧ w.frozen? ⟨g, j, none⟩ = false := by
  obtain ⟨cur, hh, hc⟩ := h
  obtain ⟨v, hv⟩ := hc j hj
  exact ⟨v, by simp [World.cell?, hh, hv], by simp [World.frozen?, hh]⟩
theorem U8.set {w : World} {g l : Nat} (h : U8 w g l) {g' j : Nat} (v : Int) : U8 (w.setCell ⟨g', j, none⟩ (.int .u8 v)) g l := by
  obtain ⟨cur, hh, hc⟩ := h
  by_cases e : g = g'
  · subst e
    refine ⟨_, Go.Joins.block_setCell (i := j) hh (.int .u8 v), fun i hi => ?_⟩
    obtain ⟨u, hu⟩ := hc i hi
    by_cases ij : j = i
    · subst ij
      exact ⟨v, by rw [Array.getElem?_setIfInBounds, if_pos rfl, if_pos (Array.getElem?_eq_some_iff.1 hu).1]⟩
    · exact ⟨u, by rw [Array.getElem?_setIfInBounds, if_neg ij]; exact hu⟩
  · exact ⟨cur, by rw [set_far _ _ _ _ _ e]; exact hh, hc⟩
/-- What spoiling bytes leaves: blocks of bytes stay such, all others are as they were. -/
def Sp (B : Nat) (w w' : World) : Prop :=
  Below B w w' ∧ w'.heap.size = w.heap.size ∧ (∀ g l, U8 w g l → U8 w' g l) ∧ (∀ (g : Nat) (cur : Array Value) (T : TypeId) (fr : Nat × Nat), T ≠ 5 → w.heap[g]? = some (Obj.cells cur T fr) → w'.heap[g]? = some (Obj.cells cur T fr))
theorem Sp.refl (B : Nat) (w : World) : Sp B w w := ⟨Below.refl _ _, rfl, fun _ _ h => h, fun _ _ _ _ _ h => h⟩
theorem Sp.drew {B : Nat} {w w' : World} (h : Sp B w w') : Sp B w w'.drew := ⟨h.1.drew, h.2.1, fun g l hu => h.2.2.1 g l hu, fun g cur T fr hT hh => h.2.2.2 g cur T fr hT hh⟩
theorem Sp.set {B : Nat} {w w' : World} (h : Sp B w w') {g l : Nat} (hu : U8 w g l) (hg : B ≤ g) (j : Nat) (v : Int) : Sp B w (w'.setCell ⟨g, j, none⟩ (.int .u8 v)) := by
  refine ⟨h.1.setCell hg _, by simp; exact h.2.1, fun g' l' hu' => (h.2.2.1 g' l' hu').set v, fun g' cur T fr hT hh => ?_⟩
  have h1 := h.2.2.2 g' cur T fr hT hh
  obtain ⟨c5, h5, _⟩ := h.2.2.1 g l hu
  have : g' ≠ g := by
    rintro rfl
    rw [h5] at h1
    simp only [Option.some.injEq, Obj.cells.injEq] at h1
    exact hT h1.2.1.symm
  rw [set_far _ _ _ _ _ this]; exact h1

set_option maxHeartbeats 2000000 in
/-- BYTES OF ONE's OWN, SPOILT. -/
theorem spoilb_any (B : Nat) (ao : Option Addr) (n c : Nat) (w : World) (hm : n ≤ maxLen) (h : n = 0 ∨ ∃ g, ao = some ⟨g, 0, none⟩ ∧ U8 w g n ∧ B ≤ g) : Calls Try.prog 20 #[.slice ao n c] w fun e w' => e = .returned (.tuple #[]) ∧ Sp B w w' := by
  unfold maxLen at hm
  have HH := Lib.hid h
  clear h
  go_enter Try.func20, Try.ntmps20
  go_wp2
  go_loopw [2] (fun i wr => ∃ k : Nat, k ≤ n ∧ i = .int .i64 k ∧ Sp B w wr) (fun i _ => n - (intOf i).toNat)
  case atStart => exact ⟨0, Nat.zero_le _, rfl, Sp.refl _ _⟩
  case round =>
    obtain ⟨k, hk, rfl, hS⟩ := hrel
    have HS := Lib.hid hS
    clear hS
    by_cases hlt : k < n
    · have e2 : decide ((k : Int) < (n : Int)) = true := decide_eq_true (by omega)
      obtain ⟨g, rfl, hu, hg⟩ : ∃ g, ao = some ⟨g, 0, none⟩ ∧ U8 w g n ∧ B ≤ g := by
        rcases HH.out with h | h
        · omega
        · exact h
      obtain ⟨v, hv, hf⟩ := (HS.out.2.2.1 g n hu).at hlt
      have HU := Lib.hid hu
      have i1 : (0 : Int) ≤ (k : Int) := by omega
      have i2 : (k : Int) < (n : Int) := by omega
      clear hu
      go_wp2
      go_roundw
      case rel => exact ⟨k + 1, by omega, by go_num, HS.out.set HU.out hg _ _⟩
      case measure => simp [intOf]; omega
    · have e2 : decide ((k : Int) < (n : Int)) = false := decide_eq_false (by omega)
      obtain rfl : n = k := by omega
      go_wp2
      go_end0
      exact ⟨rfl, HS.out⟩

/-- A row of cells as far as spoiling looks. -/
def CRow (w : World) (B g n : Nat) : Prop := ∃ cur, w.heap[g]? = some (.cells cur 62 (0, 0)) ∧ ∀ i, i < n → ∃ kv da dl dc, cur[i * 3]? = some (.int .i64 kv) ∧ cur[i * 3 + 1]? = some (.slice da dl dc) ∧ dl ≤ maxLen ∧ (dl = 0 ∨ ∃ gd, da = some ⟨gd, 0, none⟩ ∧ U8 w gd dl ∧ B ≤ gd)
theorem CRow.of {w : World} {B n kc : Nat} {ko : Option Addr} {cs : List Cel} (h : OCs w B ko n kc cs) (h0 : 0 < n) : ∃ g, ko = some ⟨g, 0, none⟩ ∧ B ≤ g ∧ CRow w B g n := by
  rcases h.row.2 with ⟨_, e⟩ | ⟨g, cap, cur, e, hb, hh, h1, h2, h3, h4⟩
  · omega
  · simp only [Value.slice.injEq] at e
    obtain ⟨rfl, _, rfl⟩ := e
    refine ⟨g, rfl, hb, cur, hh, fun i hi => ?_⟩
    have hic : i < cs.length := by rw [h.len]; exact hi
    obtain ⟨c0, c1, _⟩ := ccs_get cs i hic
    rw [← h4] at c0 c1
    rw [List.getElem?_take, if_pos (by omega), Array.getElem?_toList] at c0 c1
    obtain ⟨ho, hlow⟩ := h.own i hic
    refine ⟨_, _, _, _, c0, c1, ho.1.small, ?_⟩
    rcases ho.2 with e | ⟨gd, cur5, e, h5⟩
    · left
      have hl := ho.1.len
      rcases ho.1.rd with h0' | ⟨b, o, e2, _⟩
      · rw [h0'] at hl; exact hl.symm
      · rw [e] at e2; cases e2
    · right
      refine ⟨gd, e, ⟨cur5, h5, fun j hj => ?_⟩, hlow _ e⟩
      have hl := ho.1.len
      obtain ⟨b, o, e2, hc⟩ := ho.1.rd.at (by omega)
      rw [e] at e2
      cases e2
      have := hc j (by omega)
      rw [Nat.zero_add] at this
      exact ⟨_, by simpa [World.cell?, h5] using this⟩
theorem CRow.sp {w w' : World} {B g n : Nat} (h : CRow w B g n) {B' : Nat} (hS : Sp B' w w') : CRow w' B g n := by
  obtain ⟨cur, hh, hc⟩ := h
  refine ⟨cur, hS.2.2.2 _ _ _ _ (by decide) hh, fun i hi => ?_⟩
  obtain ⟨kv, da, dl, dc, h1, h2, h3, h4⟩ := hc i hi
  refine ⟨kv, da, dl, dc, h1, h2, h3, ?_⟩
  rcases h4 with h | ⟨gd, e, hu, hb⟩
  · exact .inl h
  · exact .inr ⟨gd, e, hS.2.2.1 _ _ hu, hb⟩
theorem CRow.at {w : World} {B g n : Nat} (h : CRow w B g n) {i : Nat} (hi : i < n) : ∃ kv da dl dc, w.cell? ⟨g, i * 3, none⟩ = some (.int .i64 kv) ∧ w.cell? ⟨g, i * 3 + 1, none⟩ = some (.slice da dl dc) ∧ w.frozen? ⟨g, i * 3, none⟩ = false ∧ dl ≤ maxLen ∧ (dl = 0 ∨ ∃ gd, da = some ⟨gd, 0, none⟩ ∧ U8 w gd dl ∧ B ≤ gd) := by
  obtain ⟨cur, hh, hc⟩ := h
  obtain ⟨kv, da, dl, dc, h1, h2, h3, h4⟩ := hc i hi
  exact ⟨kv, da, dl, dc, by simp [World.cell?, hh, h1], by simp [World.cell?, hh, h2], by simp [World.frozen?, hh], h3, h4⟩
theorem CRow.set {w : World} {B g n : Nat} (h : CRow w B g n) (i : Nat) (v : Int) : CRow (w.setCell ⟨g, i * 3, none⟩ (.int .i64 v)) B g n := by
  obtain ⟨cur, hh, hc⟩ := h
  refine ⟨_, Go.Joins.block_setCell (i := i * 3) hh (.int .i64 v), fun j hj => ?_⟩
  obtain ⟨kv, da, dl, dc, h1, h2, h3, h4⟩ := hc j hj
  have hfar : ∀ g5 l, U8 w g5 l → U8 (w.setCell ⟨g, i * 3, none⟩ (.int .i64 v)) g5 l := fun g5 l ⟨c5, h5, hc5⟩ => by
    have : g5 ≠ g := by
      rintro rfl
      rw [h5] at hh
      simp only [Option.some.injEq, Obj.cells.injEq] at hh
      exact absurd hh.2.1 (by decide)
    exact ⟨c5, by rw [set_far _ _ _ _ _ this]; exact h5, hc5⟩
  have h4' : dl = 0 ∨ ∃ gd, da = some ⟨gd, 0, none⟩ ∧ U8 (w.setCell ⟨g, i * 3, none⟩ (.int .i64 v)) gd dl ∧ B ≤ gd := by
    rcases h4 with h | ⟨gd, e, hu, hb⟩
    · exact .inl h
    · exact .inr ⟨gd, e, hfar _ _ hu, hb⟩
  by_cases e : i = j
  · subst e
    exact ⟨v, da, dl, dc, by rw [Array.getElem?_setIfInBounds, if_pos rfl, if_pos (Array.getElem?_eq_some_iff.1 h1).1], by rw [Array.getElem?_setIfInBounds, if_neg (by omega)]; exact h2, h3, h4'⟩
  · exact ⟨kv, da, dl, dc, by rw [Array.getElem?_setIfInBounds, if_neg (by omega)]; exact h1, by rw [Array.getElem?_setIfInBounds, if_neg (by omega)]; exact h2, h3, h4'⟩

/-- What spoiling a tape leaves. -/
def Sp2 (w w' : World) : Prop :=
  (∀ B g n, CRow w B g n → CRow w' B g n) ∧ (∀ g l, U8 w g l → U8 w' g l) ∧ (∀ (g : Nat) (cur : Array Value) (T : TypeId) (fr : Nat × Nat), T ≠ 5 → T ≠ 62 → w.heap[g]? = some (Obj.cells cur T fr) → w'.heap[g]? = some (Obj.cells cur T fr))
theorem U8.below {w w' : World} {g l : Nat} (h : U8 w g l) (hB : Below w.heap.size w w') : U8 w' g l := by
  obtain ⟨cur, hh, hc⟩ := h
  exact ⟨cur, below_at hB (Array.getElem?_eq_some_iff.1 hh).1 hh, hc⟩
theorem CRow.below {w w' : World} {B g n : Nat} (h : CRow w B g n) (hB : Below w.heap.size w w') : CRow w' B g n := by
  obtain ⟨cur, hh, hc⟩ := h
  refine ⟨cur, below_at hB (Array.getElem?_eq_some_iff.1 hh).1 hh, fun i hi => ?_⟩
  obtain ⟨kv, da, dl, dc, h1, h2, h3, h4⟩ := hc i hi
  refine ⟨kv, da, dl, dc, h1, h2, h3, ?_⟩
  rcases h4 with h | ⟨gd, e, hu, hb⟩
  · exact .inl h
  · exact .inr ⟨gd, e, hu.below hB, hb⟩
theorem Sp2.below {w w' : World} (hB : Below w.heap.size w w') : Sp2 w w' :=
  ⟨fun _ _ _ h => h.below hB, fun _ _ h => h.below hB, fun _ _ _ _ _ _ hh => below_at hB (Array.getElem?_eq_some_iff.1 hh).1 hh⟩
theorem Sp2.trans {a b c : World} (h : Sp2 a b) (k : Sp2 b c) : Sp2 a c :=
  ⟨fun B g n hh => k.1 B g n (h.1 B g n hh), fun g l hh => k.2.1 g l (h.2.1 g l hh), fun g cur T fr h1 h2 hh => k.2.2 g cur T fr h1 h2 (h.2.2 g cur T fr h1 h2 hh)⟩
theorem Sp2.of_sp {B : Nat} {w w' : World} (hS : Sp B w w') : Sp2 w w' :=
  ⟨fun _ _ _ h => h.sp hS, hS.2.2.1, fun g cur T fr h1 _ hh => hS.2.2.2 g cur T fr h1 hh⟩
theorem Sp2.of_set {w : World} {B g n : Nat} (h : CRow w B g n) (i : Nat) (v : Int) : Sp2 w (w.setCell ⟨g, i * 3, none⟩ (.int .i64 v)) := by
  obtain ⟨cur, hh, hc⟩ := h
  have hfar : ∀ g5 l, U8 w g5 l → U8 (w.setCell ⟨g, i * 3, none⟩ (.int .i64 v)) g5 l := fun g5 l ⟨c5, h5, hc5⟩ => by
    have : g5 ≠ g := by
      rintro rfl
      rw [h5] at hh
      simp only [Option.some.injEq, Obj.cells.injEq] at hh
      exact absurd hh.2.1 (by decide)
    exact ⟨c5, by rw [set_far _ _ _ _ _ this]; exact h5, hc5⟩
  refine ⟨fun B' g' n' h' => ?_, hfar, fun g' cur' T fr h1 h2 hh' => ?_⟩
  · by_cases e : g' = g
    · subst e; exact h'.set i v
    · obtain ⟨c2, h2, hc2⟩ := h'
      refine ⟨c2, by rw [set_far _ _ _ _ _ e]; exact h2, fun j hj => ?_⟩
      obtain ⟨kv, da, dl, dc, k1, k2, k3, k4⟩ := hc2 j hj
      refine ⟨kv, da, dl, dc, k1, k2, k3, ?_⟩
      rcases k4 with h | ⟨gd, e, hu, hb⟩
      · exact .inl h
      · exact .inr ⟨gd, e, hfar _ _ hu, hb⟩
  · have : g' ≠ g := by
      rintro rfl
      rw [hh'] at hh
      simp only [Option.some.injEq, Obj.cells.injEq] at hh
      exact h2 hh.2.1
    rw [set_far _ _ _ _ _ this]; exact hh'
set_option maxHeartbeats 2000000 in
/-- A TAPE OF ONE's OWN, SPOILT. -/
theorem spoilm_any (B : Nat) (p : Int) (ko : Option Addr) (n kc : Nat) (w : World) (hm : n ≤ maxLen) (h : n = 0 ∨ ∃ g, ko = some ⟨g, 0, none⟩ ∧ B ≤ g ∧ CRow w B g n) (hb : B ≤ w.heap.size) : Calls Try.prog 16 #[.agg #[.int .i64 p, .slice ko n kc]] w fun e w' => e = .returned (.tuple #[]) ∧ Below B w w' ∧ Sp2 w w' := by
  unfold maxLen at hm
  have hb0 : Below w.heap.size w (w.alloc (.cells #[.int .i64 p, .slice ko n kc] 24)) := (Below.refl _ _).alloc (Nat.le_refl _) _
  have HO := Lib.hid h; have HS0 := Lib.hid (Sp2.below hb0)
  have HB0 := Lib.hid (hb0.mono hb)
  have HX0 := Lib.hid (new_cell (w := w) (.int .i64 p) (.slice ko n kc) 24)
  clear h hb0
  go_enter Try.func16, Try.ntmps16
  go_wp2
  go_loopw [2] (fun i wr => ∃ k : Nat, k ≤ n ∧ i = .int .i64 k ∧ wr.heap[w.heap.size]? = some (.cells #[.int .i64 p, .slice ko n kc] 24 (0, 0)) ∧ (n = 0 ∨ ∃ g, ko = some ⟨g, 0, none⟩ ∧ B ≤ g ∧ CRow wr B g n) ∧ Below B w wr ∧ Sp2 w wr) (fun i _ => n - (intOf i).toNat)
  case atStart =>
    refine ⟨0, Nat.zero_le _, rfl, HX0.out, ?_, HB0.out, HS0.out⟩
    rcases HO.out with h | ⟨g, e, hg, hc⟩
    · exact .inl h
    · exact .inr ⟨g, e, hg, HS0.out.1 _ _ _ hc⟩
  case round =>
    obtain ⟨k, hk, rfl, hx, hr, hB, hs2⟩ := hrel
    have HBR := Lib.hid hB; have HXR := Lib.hid hx; have HR := Lib.hid hr
    obtain ⟨y0, y1, _⟩ := cells2 hx
    have HS2 := Lib.hid hs2
    clear hr hB hx hs2
    by_cases hlt : k < n
    · have e2 : decide ((k : Int) < (n : Int)) = true := decide_eq_true (by omega)
      obtain ⟨g, rfl, hg, hc⟩ : ∃ g, ko = some ⟨g, 0, none⟩ ∧ B ≤ g ∧ CRow wr B g n := by
        rcases HR.out with h | h
        · omega
        · exact h
      obtain ⟨kv, da, dl, dc, c0, c1, cf, hdl, hd⟩ := hc.at hlt
      have HC := Lib.hid hc
      have HSB := Lib.hid (spoilb_any B da dl dc wr hdl hd)
      have i1 : (0 : Int) ≤ (k : Int) := by omega
      have i2 : (k : Int) < (n : Int) := by omega
      clear hc hdl hd
      go_wp2_with (go_at_call 20; fail)
      refine HSB.out.mono ?_
      rintro e w2 ⟨rfl, hS⟩
      have x2 := hS.2.2.2 _ _ _ _ (by decide) HXR.out
      have hc2 := HC.out.sp hS
      clear y0 y1 c0 c1 cf
      obtain ⟨y0, y1, _⟩ := cells2 x2
      obtain ⟨kv2, da2, dl2, dc2, c0, c1, cf, _, _⟩ := hc2.at hlt
      have hne : w.heap.size ≠ g := by
        rintro rfl
        obtain ⟨cur, hh, _⟩ := hc2
        rw [x2] at hh
        simp only [Option.some.injEq, Obj.cells.injEq] at hh
        exact absurd hh.2.1 (by decide)
      have HC3 := Lib.hid (hc2.set k 9); have HS3 := Lib.hid ((HS2.out.trans (Sp2.of_sp hS)).trans (Sp2.of_set hc2 k 9))
      have HX3 : Hid ((w2.setCell ⟨g, k * 3, none⟩ (.int .i64 9)).heap[w.heap.size]? = some (.cells #[.int .i64 p, .slice (some ⟨g, 0, none⟩) n kc] 24 (0, 0))) := by rw [set_far _ _ _ _ _ hne]; exact x2
      have HB3 : Hid (Below B w (w2.setCell ⟨g, k * 3, none⟩ (.int .i64 9))) := (HBR.out.trans hS.1).setCell hg _
      clear hS x2 hc2 hne
      go_wp2
      go_roundw
      case rel => exact ⟨k + 1, by omega, by go_num, HX3.out, .inr ⟨g, rfl, hg, HC3.out⟩, HB3.out, HS3.out⟩
      case measure => simp [intOf]; omega
    · have e2 : decide ((k : Int) < (n : Int)) = false := decide_eq_false (by omega)
      obtain rfl : n = k := by omega
      go_wp2
      go_end0
      exact ⟨rfl, HBR.out, HS2.out⟩
/-- Bytes of one's own. -/
theorem Ow.u8 {w : World} {B n kc : Nat} {ko : Option Addr} {z : List Int} (h : Ow w B ko n kc z) : n = 0 ∨ ∃ g, ko = some ⟨g, 0, none⟩ ∧ U8 w g n ∧ B ≤ g := by
  by_cases h0 : n = 0
  · exact .inl h0
  · right
    rcases h.2.2.2.2 with ⟨_, e⟩ | ⟨g, cap, cur, e, hb, hh, h1, h2, h3, h4⟩
    · omega
    · simp only [Value.slice.injEq] at e
      obtain ⟨rfl, _, rfl⟩ := e
      refine ⟨g, rfl, ⟨cur, hh, fun j hj => ?_⟩, hb⟩
      have hz : j < z.length := by rw [h.1]; exact hj
      have : (z.map (Value.int .u8))[j]? = some (.int .u8 z[j]) := by rw [List.getElem?_map, List.getElem?_eq_getElem hz]; rfl
      rw [← h4, List.getElem?_take, if_pos (by omega), Array.getElem?_toList] at this
      exact ⟨_, this⟩
theorem OCs.crow {w : World} {B n kc : Nat} {ko : Option Addr} {cs : List Cel} (h : OCs w B ko n kc cs) : n = 0 ∨ ∃ g, ko = some ⟨g, 0, none⟩ ∧ B ≤ g ∧ CRow w B g n := by
  by_cases h0 : n = 0
  · exact .inl h0
  · exact .inr (CRow.of h (by omega))
end Go.Proofs.Ytmcbmemgeegodaa
