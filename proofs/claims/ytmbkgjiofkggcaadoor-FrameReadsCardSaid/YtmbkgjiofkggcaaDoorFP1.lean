/-
  FrameParts: blocks, cuts, what a frame's bytes say.
-/
import Derived.Test.YtmbkgjiofkggcaaDoorFP7
import Derived.Test.YtmbkgjiofkggcaaDoorFP10
import Derived.Test.YtmbkgjiofkggcaaDoorFP11
import Derived.Lib.SmallJoins
import Derived.Deep.Slices
namespace Go.Proofs.YtmbkgjiofkggcaaDoor
open Go.RowKit
set_option linter.unusedVariables false

/-- Block g alone has been written. -/
structure Only (g : Nat) (w w' : World) : Prop where
  os : w'.os = w.os
  tape : w'.tape = w.tape
  output : w'.output = w.output
  size : w'.heap.size = w.heap.size
  block : ∀ k, k ≠ g → w'.heap[k]? = w.heap[k]?
theorem Only.refl (g : Nat) (w : World) : Only g w w := ⟨rfl, rfl, rfl, rfl, fun _ _ => rfl⟩
theorem Only.trans {g : Nat} {a b c : World} (h : Only g a b) (k : Only g b c) : Only g a c :=
  ⟨k.os.trans h.os, k.tape.trans h.tape, k.output.trans h.output, k.size.trans h.size, fun i hi => (k.block i hi).trans (h.block i hi)⟩
theorem Only.set {g : Nat} {a w : World} (h : Only g a w) (i : Nat) (u : Value) : Only g a (w.setCell ⟨g, i, none⟩ u) :=
  h.trans ⟨rfl, rfl, rfl, by simp [World.setCell], fun k hk => Below.heap_setCell _ _ _ _ hk⟩
theorem Only.drew {g : Nat} {a w : World} (h : Only g a w) : Only g a w.drew := ⟨h.os, h.tape, h.output, h.size, h.block⟩
theorem Only.below {g B : Nat} {w w' : World} (h : Only g w w') (hB : B ≤ g) : Below B w w' :=
  ⟨h.os, h.tape, h.output, Nat.le_of_eq h.size.symm, fun k hk => h.block k (by omega)⟩
/-- The cells of block g. -/
def Blk (w : World) (g t : Nat) (L : List Value) : Prop := w.heap[g]? = some (.cells L.toArray t (0, 0))
theorem Blk.cell {w : World} {g t j : Nat} {L : List Value} (h : Blk w g t L) (hj : j < L.length) : w.cell? ⟨g, j, none⟩ = some (L.getD j undef) := cell_of_block h hj
theorem Blk.free {w : World} {g t j : Nat} {L : List Value} (h : Blk w g t L) : w.frozen? ⟨g, j, none⟩ = false := by
  have h' : w.heap[g]? = some (.cells L.toArray t (0, 0)) := h
  simp [World.frozen?, h']
theorem Blk.set {w : World} {g t j : Nat} {L : List Value} (h : Blk w g t L) (u : Value) : Blk (w.setCell ⟨g, j, none⟩ u) g t (L.set j u) := by
  have := Go.Joins.block_setCell (i := j) (show w.heap[g]? = some (.cells L.toArray t (0, 0)) from h) u
  show (w.setCell ⟨g, j, none⟩ u).heap[g]? = _
  simpa using this
theorem Blk.drew {w : World} {g t : Nat} {L : List Value} (h : Blk w g t L) : Blk w.drew g t L := h
theorem Blk.other {w w' : World} {g k t : Nat} {L : List Value} (h : Blk w g t L) (ho : Only k w w') (hne : g ≠ k) : Blk w' g t L := (ho.block g hne).trans h
theorem Blk.below {w w' : World} {g t : Nat} {L : List Value} (h : Blk w g t L) (hB : Below w.heap.size w w') : Blk w' g t L :=
  (hB.block g ((Array.getElem?_eq_some_iff.1 h).1)).trans h
theorem Blk.lt {w : World} {g t : Nat} {L : List Value} (h : Blk w g t L) : g < w.heap.size := (Array.getElem?_eq_some_iff.1 h).1
theorem Blk.new (w : World) (L : List Value) (t : Nat) : Blk (w.alloc (.cells L.toArray t)) w.heap.size t L := heap_alloc_new _ _
theorem Blk.alloc {w : World} {g t : Nat} {L : List Value} (h : Blk w g t L) (o : Obj) : Blk (w.alloc o) g t L := h.below ((Below.refl _ _).alloc (Nat.le_refl _) _)

theorem below_drewN' (B : Nat) (w : World) : ∀ q, Below B w (w.drewN q)
  | 0 => Below.refl _ _
  | q + 1 => (below_drewN' B w q).drew
theorem below4 {B : Nat} {a w : World} (h : Below B a w) (g : Nat) (hg : B ≤ g) (u0 u1 u2 u3 : Value) : Below B a ((((w.setCell ⟨g, 0, none⟩ u0).setCell ⟨g, 1, none⟩ u1).setCell ⟨g, 2, none⟩ u2).setCell ⟨g, 3, none⟩ u3) :=
  (((h.setCell (p := ⟨g, 0, none⟩) hg u0).setCell (p := ⟨g, 1, none⟩) hg u1).setCell (p := ⟨g, 2, none⟩) hg u2).setCell (p := ⟨g, 3, none⟩) hg u3
theorem blk4 {w : World} {g t : Nat} {a b c d : Value} (h : Blk w g t [a, b, c, d]) (u0 u1 u2 u3 : Value) : Blk ((((w.setCell ⟨g, 0, none⟩ u0).setCell ⟨g, 1, none⟩ u1).setCell ⟨g, 2, none⟩ u2).setCell ⟨g, 3, none⟩ u3) g t [u0, u1, u2, u3] :=
  (((h.set (j := 0) u0).set (j := 1) u1).set (j := 2) u2).set (j := 3) u3
theorem sizeB (w : World) : (sizeOf 5).run Tryd.prog w = .ok 1 w := by
  obtain ⟨i0, hi, hz0, hz1, hz2⟩ := info_parts Tryd.info5
  simp [sizeOf, typeInfo, hi, hz1]
theorem arr51 : Tryd.prog.underlying 51 = some (.array (Tryd.prog.arrayLen 51) (Tryd.prog.elem 51)) ∧ Tryd.prog.arrayLen 51 = 4 ∧ Tryd.prog.elem 51 = 5 := ⟨by kernel_rfl, by kernel_rfl, by kernel_rfl⟩
theorem cut51 (w : World) (g : Nat) : Sem.run Tryd.prog (Instr.sliceAt 51 (.pointer (some ⟨g, 0, none⟩)) none none none) w = .ok (.slice (some ⟨g, 0, none⟩) 4 4) w := by
  obtain ⟨h1, h2, h3⟩ := arr51
  have := run_sliceAt_array_all (P := Tryd.prog) w 51 ⟨g, 0, none⟩ h1
  rw [this, h3, sizeB, h2]
  simp [Result.andThen, slicedAt, Addr.add]
theorem sl27 : Tryd.prog.underlying 27 = some (.slice (Tryd.prog.elem 27)) ∧ Tryd.prog.elem 27 = 5 := ⟨by kernel_rfl, by kernel_rfl⟩
theorem cutx9 (g N kc : Nat) (h : 13 ≤ kc) (w : World) : (Instr.slice 27 (.slice (some ⟨g, 0, none⟩) N kc) none (some (.int .i64 9)) none).run Tryd.prog w = .ok (.slice (some ⟨g, 0, none⟩) 9 kc) w := by
  rw [run_slice_h (P := Tryd.prog) w 27 (some ⟨g, 0, none⟩) N kc sl27.1 .i64 9 (by omega) (by omega), sl27.2, sizeB]
  simp [Result.andThen, sliced, Addr.add, show ¬ kc = 0 by omega]
theorem cutx913 (g N kc : Nat) (h : 13 ≤ kc) (w : World) : (Instr.slice 27 (.slice (some ⟨g, 0, none⟩) N kc) (some (.int .i64 9)) (some (.int .i64 13)) none).run Tryd.prog w = .ok (.slice (some ⟨g, 9, none⟩) 4 (kc - 9)) w := by
  rw [run_slice_lh (P := Tryd.prog) w 27 (some ⟨g, 0, none⟩) N kc sl27.1 .i64 .i64 9 13 (by omega) (by omega) (by omega), sl27.2, sizeB]
  simp [Result.andThen, sliced, Addr.add, show ¬ kc = 9 by omega]
theorem cutx13 (g N kc : Nat) (h : 13 ≤ N) (hk : N ≤ kc) (w : World) : (Instr.slice 27 (.slice (some ⟨g, 0, none⟩) N kc) (some (.int .i64 13)) none none).run Tryd.prog w = .ok (.slice (if kc = 13 then some ⟨g, 0, none⟩ else some ⟨g, 13, none⟩) (N - 13) (kc - 13)) w := by
  rw [run_slice_l (P := Tryd.prog) w 27 (some ⟨g, 0, none⟩) N kc sl27.1 .i64 13 (by omega) (by omega), sl27.2, sizeB]
  simp [Result.andThen, sliced, Addr.add]

theorem fr_cons (k s : Int) (z : List Int) : fr k s z = [digit k.toNat 1 0, digit s.toNat 4 0, digit s.toNat 4 1, digit s.toNat 4 2, digit s.toNat 4 3, digit z.length 4 0, digit z.length 4 1, digit z.length 4 2, digit z.length 4 3] ++ l4 ((sumOf (fhead k s z.length ++ z)).toNat : Int) ++ z := rfl
theorem fr_parts (k s : Int) (z : List Int) : (fr k s z).take 9 = fhead k s z.length ∧ ((fr k s z).take 13).drop 9 = l4 ((sumOf (fhead k s z.length ++ z)).toNat : Int) ∧ (fr k s z).drop 13 = z := by
  refine ⟨?_, ?_, ?_⟩
  · rw [fr_cons]; rfl
  · rw [fr_cons]; rfl
  · rw [fr_cons]; rfl
theorem fr_nums (k s : Int) (z : List Int) (h : nok k s) : (fr k s z).getD 0 0 = k ∧ ∃ y1 y2 y3 y4 : Int, (fr k s z).getD 1 0 = y1 ∧ (fr k s z).getD 2 0 = y2 ∧ (fr k s z).getD 3 0 = y3 ∧ (fr k s z).getD 4 0 = y4 ∧
    (0 ≤ y1 ∧ y1 ≤ 255) ∧ (0 ≤ y2 ∧ y2 ≤ 255) ∧ (0 ≤ y3 ∧ y3 ≤ 255) ∧ (0 ≤ y4 ∧ y4 ≤ 255) ∧ y1 * 16777216 + y2 * 65536 + y3 * 256 + y4 = s := by
  obtain ⟨h1, h2, h3, h4⟩ := h
  rw [fr_cons]
  refine ⟨?_, digit s.toNat 4 0, digit s.toNat 4 1, digit s.toNat 4 2, digit s.toNat 4 3, rfl, rfl, rfl, rfl, ?_, ?_, ?_, ?_, ?_⟩
  · show digit k.toNat 1 0 = k
    simp [digit]; omega
  all_goals (simp [digit]; omega)
theorem fr_same (k s k2 s2 : Int) (z z2 : List Int) (h : nok k s) (h2 : nok k2 s2) (hz : z.length ≤ 8000) (hz2 : z2.length ≤ 8000) : decide (fr k s z = fr k2 s2 z2) = decide (k = k2 ∧ s = s2 ∧ z = z2) := by
  have a := fr_fields k s z h hz
  have b := fr_fields k2 s2 z2 h2 hz2
  by_cases e : fr k s z = fr k2 s2 z2
  · rw [decide_eq_true e, decide_eq_true]
    rw [e] at a
    exact ⟨a.1.symm.trans b.1, a.2.1.symm.trans b.2.1, a.2.2.2.1.symm.trans b.2.2.2.1⟩
  · rw [decide_eq_false e, decide_eq_false]
    rintro ⟨rfl, rfl, rfl⟩; exact e rfl
/-- Two records set side by side. -/
theorem rs_new2 (w : World) (a b : Rec) (ha : a.d.ok w) (hb : b.d.ok w) : Rs (w.alloc (.cells #[.int .i64 a.k, .int .i64 a.s, .slice a.d.a a.d.l a.d.c, .int .i64 b.k, .int .i64 b.s, .slice b.d.a b.d.l b.d.c] 29)) (some ⟨w.heap.size, 0, none⟩) [a, b] := by
  have hB : Below w.heap.size w (w.alloc (.cells #[.int .i64 a.k, .int .i64 a.s, .slice a.d.a a.d.l a.d.c, .int .i64 b.k, .int .i64 b.s, .slice b.d.a b.d.l b.d.c] 29)) := (Below.refl _ _).alloc (Nat.le_refl _) _
  refine .inr ⟨_, 0, rfl, fun i hi => ?_⟩
  match i, hi with
  | 0, _ => exact ⟨by rw [World.cell?_alloc_mark]; rfl, by rw [World.cell?_alloc_mark]; rfl, by rw [World.cell?_alloc_mark]; rfl, ha.below hB⟩
  | 1, _ => exact ⟨by rw [World.cell?_alloc_mark]; rfl, by rw [World.cell?_alloc_mark]; rfl, by rw [World.cell?_alloc_mark]; rfl, hb.below hB⟩
end Go.Proofs.YtmbkgjiofkggcaaDoor
