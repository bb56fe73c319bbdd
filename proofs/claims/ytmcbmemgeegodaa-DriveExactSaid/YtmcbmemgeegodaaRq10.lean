/-
  Tapes: one's own spoilt, all that was made later stays; New, of a tape of its own.
-/
import Derived.Test.YtmcbmemgeegodaaMedK
import Derived.Test.YtmcbmemgeegodaaRq8
namespace Go.Proofs.Ytmcbmemgeegodaa
open Go.RowKit
set_option linter.unusedVariables false

/-- Blocks from U on stay. -/
def Up (U : Nat) (w w' : World) : Prop := ∀ g, U ≤ g → w'.heap[g]? = w.heap[g]?
theorem Up.refl (U : Nat) (w : World) : Up U w w := fun _ _ => rfl
theorem Up.set {U : Nat} {w w' : World} (h : Up U w w') {g : Nat} (hg : g < U) (j : Nat) (v : Value) : Up U w (w'.setCell ⟨g, j, none⟩ v) := fun b hb => by
  rw [set_far _ _ _ _ _ (by omega)]; exact h b hb
set_option maxHeartbeats 2000000 in
/-- BYTES OF ONE's OWN, SPOILT. -/
theorem spoilb_up (B U : Nat) (ao : Option Addr) (n c : Nat) (w : World) (hm : n ≤ maxLen) (h : n = 0 ∨ ∃ g, ao = some ⟨g, 0, none⟩ ∧ U8 w g n ∧ B ≤ g ∧ g < U) : Calls Try.prog 20 #[.slice ao n c] w fun e w' => e = .returned (.tuple #[]) ∧ Sp B w w' ∧ Up U w w' := by
  unfold maxLen at hm
  have HH := Lib.hid h
  clear h
  go_enter Try.func20, Try.ntmps20
  go_wp2
  go_loopw [2] (fun i wr => ∃ k : Nat, k ≤ n ∧ i = .int .i64 k ∧ Sp B w wr ∧ Up U w wr) (fun i _ => n - (intOf i).toNat)
  case atStart => exact ⟨0, Nat.zero_le _, rfl, Sp.refl _ _, Up.refl _ _⟩
  case round =>
    obtain ⟨k, hk, rfl, hS, hU⟩ := hrel
    have HS := Lib.hid hS; have HUP := Lib.hid hU
    clear hS hU
    by_cases hlt : k < n
    · have e2 : decide ((k : Int) < (n : Int)) = true := decide_eq_true (by omega)
      obtain ⟨g, rfl, hu, hg, hgU⟩ : ∃ g, ao = some ⟨g, 0, none⟩ ∧ U8 w g n ∧ B ≤ g ∧ g < U := by
        rcases HH.out with h | h
        · omega
        · exact h
      obtain ⟨v, hv, hf⟩ := (HS.out.2.2.1 g n hu).at hlt
      have HU := Lib.hid hu
      have i1 : (0 : Int) ≤ (k : Int) := by omega
      have i2 : (k : Int) < (n : Int) := by omega
      clear hu
      go_wp2
      go_roundw
      case rel => exact ⟨k + 1, by omega, by go_num, HS.out.set HU.out hg _ _, HUP.out.set hgU _ _⟩
      case measure => simp [intOf]; omega
    · have e2 : decide ((k : Int) < (n : Int)) = false := decide_eq_false (by omega)
      obtain rfl : n = k := by omega
      go_wp2
      go_end0
      exact ⟨rfl, HS.out, HUP.out⟩

/-- A row of cells as far as spoiling looks. -/
def CRowU (w : World) (B U g n : Nat) : Prop := ∃ cur, w.heap[g]? = some (.cells cur 62 (0, 0)) ∧ ∀ i, i < n → ∃ kv da dl dc, cur[i * 3]? = some (.int .i64 kv) ∧ cur[i * 3 + 1]? = some (.slice da dl dc) ∧ dl ≤ maxLen ∧ (dl = 0 ∨ ∃ gd, da = some ⟨gd, 0, none⟩ ∧ U8 w gd dl ∧ B ≤ gd ∧ gd < U)
theorem CRowU.of {w : World} {B n kc : Nat} {ko : Option Addr} {cs : List Cel} (h : OCs w B ko n kc cs) (h0 : 0 < n) : ∃ g, ko = some ⟨g, 0, none⟩ ∧ B ≤ g ∧ g < w.heap.size ∧ CRowU w B w.heap.size g n := by
  rcases h.row.2 with ⟨_, e⟩ | ⟨g, cap, cur, e, hb, hh, h1, h2, h3, h4⟩
  · omega
  · simp only [Value.slice.injEq] at e
    obtain ⟨rfl, _, rfl⟩ := e
    refine ⟨g, rfl, hb, (Array.getElem?_eq_some_iff.1 hh).1, cur, hh, fun i hi => ?_⟩
    have hic : i < cs.length := by rw [h.len]; exact hi
    obtain ⟨c0, c1, _⟩ := ccs_get cs i hic
    rw [← h4] at c0 c1
    rw [List.getElem?_take, if_pos (by omega), Array.getElem?_toList] at c0 c1
    obtain ⟨ho, hlow⟩ := h.own i hic
    refine ⟨_, _, _, _, c0, c1, ho.1.small, ?_⟩
    rcases ho.2 with e | ⟨gd, cur5, e, h5⟩
    · left
      have hl := ho.1.len
      rcases ho.1.rd with h0' | ⟨b, o, e2, _⟩
      · rw [h0'] at hl; exact hl.symm
      · rw [e] at e2; cases e2
    · right
      refine ⟨gd, e, ⟨cur5, h5, fun j hj => ?_⟩, hlow _ e, (Array.getElem?_eq_some_iff.1 h5).1⟩
      have hl := ho.1.len
      obtain ⟨b, o, e2, hc⟩ := ho.1.rd.at (by omega)
      rw [e] at e2
      cases e2
      have := hc j (by omega)
      rw [Nat.zero_add] at this
      exact ⟨_, by simpa [World.cell?, h5] using this⟩
theorem CRowU.sp {w w' : World} {B U g n : Nat} (h : CRowU w B U g n) {B' : Nat} (hS : Sp B' w w') : CRowU w' B U g n := by
  obtain ⟨cur, hh, hc⟩ := h
  refine ⟨cur, hS.2.2.2 _ _ _ _ (by decide) hh, fun i hi => ?_⟩
  obtain ⟨kv, da, dl, dc, h1, h2, h3, h4⟩ := hc i hi
  refine ⟨kv, da, dl, dc, h1, h2, h3, ?_⟩
  rcases h4 with h | ⟨gd, e, hu, hb⟩
  · exact .inl h
  · exact .inr ⟨gd, e, hS.2.2.1 _ _ hu, hb⟩
theorem CRowU.at {w : World} {B U g n : Nat} (h : CRowU w B U g n) {i : Nat} (hi : i < n) : ∃ kv da dl dc, w.cell? ⟨g, i * 3, none⟩ = some (.int .i64 kv) ∧ w.cell? ⟨g, i * 3 + 1, none⟩ = some (.slice da dl dc) ∧ w.frozen? ⟨g, i * 3, none⟩ = false ∧ dl ≤ maxLen ∧ (dl = 0 ∨ ∃ gd, da = some ⟨gd, 0, none⟩ ∧ U8 w gd dl ∧ B ≤ gd ∧ gd < U) := by
  obtain ⟨cur, hh, hc⟩ := h
  obtain ⟨kv, da, dl, dc, h1, h2, h3, h4⟩ := hc i hi
  exact ⟨kv, da, dl, dc, by simp [World.cell?, hh, h1], by simp [World.cell?, hh, h2], by simp [World.frozen?, hh], h3, h4⟩
theorem CRowU.set {w : World} {B U g n : Nat} (h : CRowU w B U g n) (i : Nat) (v : Int) : CRowU (w.setCell ⟨g, i * 3, none⟩ (.int .i64 v)) B U g n := by
  obtain ⟨cur, hh, hc⟩ := h
  refine ⟨_, Go.Joins.block_setCell (i := i * 3) hh (.int .i64 v), fun j hj => ?_⟩
  obtain ⟨kv, da, dl, dc, h1, h2, h3, h4⟩ := hc j hj
  have hfar : ∀ g5 l, U8 w g5 l → U8 (w.setCell ⟨g, i * 3, none⟩ (.int .i64 v)) g5 l := fun g5 l ⟨c5, h5, hc5⟩ => by
    have : g5 ≠ g := by
      rintro rfl
      rw [h5] at hh
      simp only [Option.some.injEq, Obj.cells.injEq] at hh
      exact absurd hh.2.1 (by decide)
    exact ⟨c5, by rw [set_far _ _ _ _ _ this]; exact h5, hc5⟩
  have h4' : dl = 0 ∨ ∃ gd, da = some ⟨gd, 0, none⟩ ∧ U8 (w.setCell ⟨g, i * 3, none⟩ (.int .i64 v)) gd dl ∧ B ≤ gd ∧ gd < U := by
    rcases h4 with h | ⟨gd, e, hu, hb⟩
    · exact .inl h
    · exact .inr ⟨gd, e, hfar _ _ hu, hb⟩
  by_cases e : i = j
  · subst e
    exact ⟨v, da, dl, dc, by rw [Array.getElem?_setIfInBounds, if_pos rfl, if_pos (Array.getElem?_eq_some_iff.1 h1).1], by rw [Array.getElem?_setIfInBounds, if_neg (by omega)]; exact h2, h3, h4'⟩
  · exact ⟨kv, da, dl, dc, by rw [Array.getElem?_setIfInBounds, if_neg (by omega)]; exact h1, by rw [Array.getElem?_setIfInBounds, if_neg (by omega)]; exact h2, h3, h4'⟩

theorem CRowU.below {w w' : World} {B U g n : Nat} (h : CRowU w B U g n) (hB : Below w.heap.size w w') : CRowU w' B U g n := by
  obtain ⟨cur, hh, hc⟩ := h
  refine ⟨cur, below_at hB (Array.getElem?_eq_some_iff.1 hh).1 hh, fun i hi => ?_⟩
  obtain ⟨kv, da, dl, dc, h1, h2, h3, h4⟩ := hc i hi
  refine ⟨kv, da, dl, dc, h1, h2, h3, ?_⟩
  rcases h4 with h | ⟨gd, e, hu, hb⟩
  · exact .inl h
  · exact .inr ⟨gd, e, hu.below hB, hb⟩
/-- What spoiling a tape leaves, by kinds. -/
def SpK (w w' : World) : Prop := ∀ (g : Nat) (cur : Array Value) (T : TypeId) (fr : Nat × Nat), T ≠ 5 → T ≠ 62 → w.heap[g]? = some (Obj.cells cur T fr) → w'.heap[g]? = some (Obj.cells cur T fr)
theorem SpK.below {w w' : World} (hB : Below w.heap.size w w') : SpK w w' := fun _ _ _ _ _ _ hh => below_at hB (Array.getElem?_eq_some_iff.1 hh).1 hh
theorem SpK.sp {a b c : World} {B : Nat} (h : SpK a b) (hS : Sp B b c) : SpK a c := fun g cur T fr h1 h2 hh => hS.2.2.2 g cur T fr h1 (h g cur T fr h1 h2 hh)
theorem SpK.set {a w : World} {B U g n : Nat} (h : SpK a w) (hc : CRowU w B U g n) (i : Nat) (v : Int) : SpK a (w.setCell ⟨g, i * 3, none⟩ (.int .i64 v)) := fun g' cur T fr h1 h2 hh => by
  obtain ⟨c2, hh2, _⟩ := hc
  have h3 := h g' cur T fr h1 h2 hh
  have : g' ≠ g := by
    rintro rfl
    rw [h3] at hh2
    simp only [Option.some.injEq, Obj.cells.injEq] at hh2
    exact h2 hh2.2.1
  rw [set_far _ _ _ _ _ this]; exact h3
/-- Blocks from U on, that were there, stay. -/
def Up2 (U : Nat) (w w' : World) : Prop := ∀ g, U ≤ g → g < w.heap.size → w'.heap[g]? = w.heap[g]?
theorem Up2.alloc {U : Nat} (w : World) (o : Obj) : Up2 U w (w.alloc o) := fun g _ hg => ((Below.refl w.heap.size w).alloc (Nat.le_refl _) o).block g hg
theorem Up2.up {U : Nat} {a b c : World} (h : Up2 U a b) (k : Up U b c) : Up2 U a c := fun g h1 h2 => (k g h1).trans (h g h1 h2)
theorem Up2.set {U : Nat} {a w : World} (h : Up2 U a w) {g : Nat} (hg : g < U) (j : Nat) (v : Value) : Up2 U a (w.setCell ⟨g, j, none⟩ v) := fun b h1 h2 => by
  rw [set_far _ _ _ _ _ (by omega)]; exact h b h1 h2
set_option maxHeartbeats 2000000 in
/-- A TAPE OF ONE's OWN, SPOILT. -/
theorem spoilm_up (B U : Nat) (p : Int) (ko : Option Addr) (n kc : Nat) (w : World) (hm : n ≤ maxLen) (h : n = 0 ∨ ∃ g, ko = some ⟨g, 0, none⟩ ∧ B ≤ g ∧ g < U ∧ CRowU w B U g n) (hb : B ≤ w.heap.size) (hUw : U ≤ w.heap.size) : Calls Try.prog 16 #[.agg #[.int .i64 p, .slice ko n kc]] w fun e w' => e = .returned (.tuple #[]) ∧ Below B w w' ∧ SpK w w' ∧ Up2 U w w' := by
  unfold maxLen at hm
  have hb0 : Below w.heap.size w (w.alloc (.cells #[.int .i64 p, .slice ko n kc] 24)) := (Below.refl _ _).alloc (Nat.le_refl _) _
  have HO := Lib.hid h; have HS0 := Lib.hid (SpK.below hb0); have HU0 := Lib.hid (Up2.alloc (U := U) w (.cells #[.int .i64 p, .slice ko n kc] 24))
  have HC0 : Hid (∀ g, CRowU w B U g n → CRowU (w.alloc (.cells #[.int .i64 p, .slice ko n kc] 24)) B U g n) := fun g hc => hc.below hb0
  have HB0 := Lib.hid (hb0.mono hb)
  have HX0 := Lib.hid (new_cell (w := w) (.int .i64 p) (.slice ko n kc) 24)
  clear h hb0
  go_enter Try.func16, Try.ntmps16
  go_wp2
  go_loopw [2] (fun i wr => ∃ k : Nat, k ≤ n ∧ i = .int .i64 k ∧ wr.heap[w.heap.size]? = some (.cells #[.int .i64 p, .slice ko n kc] 24 (0, 0)) ∧ (n = 0 ∨ ∃ g, ko = some ⟨g, 0, none⟩ ∧ B ≤ g ∧ g < U ∧ CRowU wr B U g n) ∧ Below B w wr ∧ SpK w wr ∧ Up2 U w wr) (fun i _ => n - (intOf i).toNat)
  case atStart =>
    refine ⟨0, Nat.zero_le _, rfl, HX0.out, ?_, HB0.out, HS0.out, HU0.out⟩
    rcases HO.out with h | ⟨g, e, hg, hc⟩
    · exact .inl h
    · exact .inr ⟨g, e, hg, hc.1, HC0.out _ hc.2⟩
  case round =>
    obtain ⟨k, hk, rfl, hx, hr, hB, hs2, hup⟩ := hrel
    have HBR := Lib.hid hB; have HXR := Lib.hid hx; have HR := Lib.hid hr
    obtain ⟨y0, y1, _⟩ := cells2 hx
    have HS2 := Lib.hid hs2; have HUP := Lib.hid hup
    clear hr hB hx hs2 hup
    by_cases hlt : k < n
    · have e2 : decide ((k : Int) < (n : Int)) = true := decide_eq_true (by omega)
      obtain ⟨g, rfl, hg, hgU, hc⟩ : ∃ g, ko = some ⟨g, 0, none⟩ ∧ B ≤ g ∧ g < U ∧ CRowU wr B U g n := by
        rcases HR.out with h | h
        · omega
        · exact h
      obtain ⟨kv, da, dl, dc, c0, c1, cf, hdl, hd⟩ := hc.at hlt
      have HC := Lib.hid hc
      have HSB := Lib.hid (spoilb_up B U da dl dc wr hdl hd)
      have i1 : (0 : Int) ≤ (k : Int) := by omega
      have i2 : (k : Int) < (n : Int) := by omega
      clear hc hdl hd
      go_wp2_with (go_at_call 20; fail)
      refine HSB.out.mono ?_
      rintro e w2 ⟨rfl, hS, hSU⟩
      have x2 := hS.2.2.2 _ _ _ _ (by decide) HXR.out
      have hc2 := HC.out.sp hS
      clear y0 y1 c0 c1 cf
      obtain ⟨y0, y1, _⟩ := cells2 x2
      obtain ⟨kv2, da2, dl2, dc2, c0, c1, cf, _, _⟩ := hc2.at hlt
      have hne : w.heap.size ≠ g := by
        rintro rfl
        obtain ⟨cur, hh, _⟩ := hc2
        rw [x2] at hh
        simp only [Option.some.injEq, Obj.cells.injEq] at hh
        exact absurd hh.2.1 (by decide)
      have HC3 := Lib.hid (hc2.set k 9); have HS3 := Lib.hid ((HS2.out.sp hS).set hc2 k 9); have HU3 := Lib.hid ((HUP.out.up hSU).set hgU (k * 3) (.int .i64 9))
      have HX3 : Hid ((w2.setCell ⟨g, k * 3, none⟩ (.int .i64 9)).heap[w.heap.size]? = some (.cells #[.int .i64 p, .slice (some ⟨g, 0, none⟩) n kc] 24 (0, 0))) := by rw [set_far _ _ _ _ _ hne]; exact x2
      have HB3 : Hid (Below B w (w2.setCell ⟨g, k * 3, none⟩ (.int .i64 9))) := (HBR.out.trans hS.1).setCell hg _
      clear hS hSU x2 hc2 hne
      go_wp2
      go_roundw
      case rel => exact ⟨k + 1, by omega, by go_num, HX3.out, .inr ⟨g, rfl, hg, hgU, HC3.out⟩, HB3.out, HS3.out, HU3.out⟩
      case measure => simp [intOf]; omega
    · have e2 : decide ((k : Int) < (n : Int)) = false := decide_eq_false (by omega)
      obtain rfl : n = k := by omega
      go_wp2
      go_end0
      exact ⟨rfl, HBR.out, HS2.out, HUP.out⟩
theorem OCs.crowU {w : World} {B n kc : Nat} {ko : Option Addr} {cs : List Cel} (h : OCs w B ko n kc cs) : n = 0 ∨ ∃ g, ko = some ⟨g, 0, none⟩ ∧ B ≤ g ∧ g < w.heap.size ∧ CRowU w B w.heap.size g n := by
  by_cases h0 : n = 0
  · exact .inl h0
  · exact .inr (CRowU.of h (by omega))
/-- A tape of one's own that was made behind U stays. -/
theorem OCs.up {w w' : World} {U : Nat} {ko : Option Addr} {n kc : Nat} {cs : List Cel} (h : OCs w U ko n kc cs) (hU : Up2 U w w') : OCs w' U ko n kc cs := by
  refine ⟨h.len, h.room, h.cm, ?_, fun i hi => ⟨?_, (h.own i hi).2⟩⟩
  · refine ⟨h.row.1, ?_⟩
    rcases h.row.2 with h2 | ⟨g, cap, cur, q1, q2, q3, q4⟩
    · exact .inl h2
    · exact .inr ⟨g, cap, cur, q1, q2, by rw [hU g q2 (Array.getElem?_eq_some_iff.1 q3).1]; exact q3, q4⟩
  · obtain ⟨ho, hlow⟩ := h.own i hi
    obtain ⟨hok, h2⟩ := ho
    rcases h2 with h2 | ⟨g, cur, h2, h3⟩
    · have hz : cs[i].d.z = [] := by
        rcases hok.rd with h4 | ⟨b, o, h4, _⟩
        · exact h4
        · rw [h2] at h4; cases h4
      exact ⟨⟨.inl hz, hok.len, hok.bts, hok.small, hok.nil, hok.room⟩, .inl h2⟩
    · have hb : w'.heap[g]? = w.heap[g]? := hU g (hlow _ h2) (Array.getElem?_eq_some_iff.1 h3).1
      refine ⟨⟨?_, hok.len, hok.bts, hok.small, hok.nil, hok.room⟩, .inr ⟨g, cur, h2, by rw [hb]; exact h3⟩⟩
      rcases hok.rd with h4 | ⟨b, o, ha, hc⟩
      · exact .inl h4
      · rw [h2] at ha
        cases ha
        exact .inr ⟨g, 0, h2, fun j hj => by rw [← hc j hj]; exact World.cell?_of_block hb⟩
set_option maxHeartbeats 2000000 in
theorem dnew_fresh (gp : Nat) (t : Tap) (w : World) (h : t.ok w) (hg : goodK t.p t.ks = true) : Calls Try.prog 13 #[.pointer (some ⟨gp, 0, none⟩), .agg #[.int .i64 t.p, .slice t.a t.n t.c]] w fun e w' => ∃ g ko n kc cs, e = .returned (.tuple #[.pointer (some ⟨g, 0, none⟩), .int .i64 0]) ∧ w.heap.size ≤ g ∧ w'.heap[g]? = some (.cells #[.int .i64 t.p, .slice ko n kc, .pointer (some ⟨gp, 0, none⟩), .int .i64 0] 84 (0, 0)) ∧ OCs w' w.heap.size ko n kc cs ∧ keys cs = t.ks ∧ Below w.heap.size w w' := by
  have hc := fun V (hV : Below w.heap.size w V) => rl_check t V (h.below hV)
  rw [if_pos hg] at hc
  have hcp := fun V (hV : Below w.heap.size w V) => rl_copy t V (h.below hV) hg
  obtain ⟨p, a, n, c, cs⟩ := t
  simp only at hc hcp hg ⊢
  obtain ⟨ks, hks⟩ : ∃ ks, ks = Tap.ks ⟨p, a, n, c, cs⟩ := ⟨_, rfl⟩
  rw [← hks] at hcp hg ⊢
  have HC := Lib.hid hc; have HCP := Lib.hid hcp; have HG := Lib.hid hg
  obtain ⟨hb0, xx, xy⟩ := two' (rfl : (w.alloc (.cells #[.int .i64 p, .slice a n c] 24)).alloc (.cells #[.int .i64 p, .slice a n c] 82) = _) rfl
  obtain ⟨k0, k1, _⟩ := cells2 xx
  obtain ⟨k2, k3, _⟩ := cells2 xy
  obtain ⟨k4, k5, _⟩ := cells2 (new_cell (w := w) (.int .i64 p) (.slice a n c) 24)
  have HB0 := Lib.hid hb0; have HXY := Lib.hid xy
  clear xx xy h hg hc hcp hb0 hks
  go_enter Try.func13, Try.ntmps13
  go_wp2_with (go_at_call 45; fail)
  refine (HC.out _ HB0.out).mono ?_
  rintro e w1 ⟨rfl, hB1⟩
  obtain ⟨y0, y1, _⟩ := cells2 (cells2at HXY.out hB1)
  have HB1 := Lib.hid (HB0.out.trans (hB1.mono HB0.out.size))
  clear hB1 k0 k1 k2 k3 k4 k5
  go_wp2_with (go_at_call 46; fail)
  refine (HCP.out w1 HB1.out).mono ?_
  rintro e w2 ⟨ko, n', kc, cs', rfl, hO, hk, hB2⟩
  have HO := Lib.hid (hO.low HB1.out.size); have HK := Lib.hid hk; have HB2 := Lib.hid (HB1.out.trans (hB2.mono HB1.out.size))
  clear hO hk hB2 y0 y1
  go_wp2
  go_ret2
  have hal : Below w2.heap.size w2 (w2.alloc (.cells #[.int .i64 p, .slice ko n' kc, .pointer (some ⟨gp, 0, none⟩), .int .i64 0] 84)) := (Below.refl _ _).alloc (Nat.le_refl _) _
  have hB3 := HB2.out.trans (hal.mono HB2.out.size)
  exact ⟨w2.heap.size, ko, n', kc, cs', rfl, HB2.out.size, heap_alloc_new _ _, HO.out.below hal, HK.out, hB3⟩

end Go.Proofs.Ytmcbmemgeegodaa
