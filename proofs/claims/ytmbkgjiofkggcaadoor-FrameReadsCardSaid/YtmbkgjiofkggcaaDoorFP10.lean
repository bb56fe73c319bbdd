/-
  FrameParts: the number read back, in whatever order.
-/
import Derived.Test.YtmbkgjiofkggcaaDoorFP0
namespace Go.Proofs.YtmbkgjiofkggcaaDoor
open Go.RowKit
set_option linter.unusedVariables false
/-- Its operations. -/
def ptops : Array Oper := #[{ dst := some 72, op := Go.Op.move (Go.Operand.tmp 5), type := 27, pos := "more.go:24", after := #[], guard := none }, { dst := some 73, op := Go.Op.indexAddr 27 (Go.Operand.tmp 72) (Go.Operand.const (Go.Value.int Go.IntKind.i64 1)), type := 0, pos := "more.go:24", after := #[{ on := 0, ground := Go.Ground.data }], guard := none }, { dst := some 74, op := Go.Op.load 5 (Go.Operand.tmp 73), type := 5, pos := "more.go:24", after := #[{ on := 1, ground := Go.Ground.data }], guard := none }, { dst := some 75, op := Go.Op.convert 5 3 (Go.Operand.tmp 74), type := 3, pos := "more.go:24", after := #[{ on := 2, ground := Go.Ground.data }], guard := none }, { dst := some 76, op := Go.Op.binOp Go.BinOp.shl 3 (Go.Operand.tmp 75) (Go.Operand.const (Go.Value.int Go.IntKind.u64 24)) 47, type := 3, pos := "more.go:24", after := #[{ on := 3, ground := Go.Ground.data }], guard := none }, { dst := some 77, op := Go.Op.move (Go.Operand.tmp 5), type := 27, pos := "more.go:24", after := #[], guard := none }, { dst := some 78, op := Go.Op.indexAddr 27 (Go.Operand.tmp 77) (Go.Operand.const (Go.Value.int Go.IntKind.i64 2)), type := 0, pos := "more.go:24", after := #[{ on := 5, ground := Go.Ground.data }], guard := none }, { dst := some 79, op := Go.Op.load 5 (Go.Operand.tmp 78), type := 5, pos := "more.go:24", after := #[{ on := 6, ground := Go.Ground.data }], guard := none }, { dst := some 80, op := Go.Op.convert 5 3 (Go.Operand.tmp 79), type := 3, pos := "more.go:24", after := #[{ on := 7, ground := Go.Ground.data }], guard := none }, { dst := some 81, op := Go.Op.binOp Go.BinOp.shl 3 (Go.Operand.tmp 80) (Go.Operand.const (Go.Value.int Go.IntKind.u64 16)) 47, type := 3, pos := "more.go:24", after := #[{ on := 8, ground := Go.Ground.data }], guard := none }, { dst := some 82, op := Go.Op.binOp Go.BinOp.or 3 (Go.Operand.tmp 76) (Go.Operand.tmp 81) 3, type := 3, pos := "more.go:24", after := #[{ on := 4, ground := Go.Ground.data }, { on := 9, ground := Go.Ground.data }], guard := none }, { dst := some 83, op := Go.Op.move (Go.Operand.tmp 5), type := 27, pos := "more.go:24", after := #[], guard := none }, { dst := some 84, op := Go.Op.indexAddr 27 (Go.Operand.tmp 83) (Go.Operand.const (Go.Value.int Go.IntKind.i64 3)), type := 0, pos := "more.go:24", after := #[{ on := 11, ground := Go.Ground.data }], guard := none }, { dst := some 85, op := Go.Op.load 5 (Go.Operand.tmp 84), type := 5, pos := "more.go:24", after := #[{ on := 12, ground := Go.Ground.data }], guard := none }, { dst := some 86, op := Go.Op.convert 5 3 (Go.Operand.tmp 85), type := 3, pos := "more.go:24", after := #[{ on := 13, ground := Go.Ground.data }], guard := none }, { dst := some 87, op := Go.Op.binOp Go.BinOp.shl 3 (Go.Operand.tmp 86) (Go.Operand.const (Go.Value.int Go.IntKind.u64 8)) 47, type := 3, pos := "more.go:24", after := #[{ on := 14, ground := Go.Ground.data }], guard := none }, { dst := some 88, op := Go.Op.binOp Go.BinOp.or 3 (Go.Operand.tmp 82) (Go.Operand.tmp 87) 3, type := 3, pos := "more.go:24", after := #[{ on := 10, ground := Go.Ground.data }, { on := 15, ground := Go.Ground.data }], guard := none }, { dst := some 89, op := Go.Op.move (Go.Operand.tmp 5), type := 27, pos := "more.go:24", after := #[], guard := none }, { dst := some 90, op := Go.Op.indexAddr 27 (Go.Operand.tmp 89) (Go.Operand.const (Go.Value.int Go.IntKind.i64 4)), type := 0, pos := "more.go:24", after := #[{ on := 17, ground := Go.Ground.data }], guard := none }, { dst := some 91, op := Go.Op.load 5 (Go.Operand.tmp 90), type := 5, pos := "more.go:24", after := #[{ on := 18, ground := Go.Ground.data }], guard := none }, { dst := some 92, op := Go.Op.convert 5 3 (Go.Operand.tmp 91), type := 3, pos := "more.go:24", after := #[{ on := 19, ground := Go.Ground.data }], guard := none }, { dst := some 93, op := Go.Op.binOp Go.BinOp.or 3 (Go.Operand.tmp 88) (Go.Operand.tmp 92) 3, type := 3, pos := "more.go:24", after := #[{ on := 16, ground := Go.Ground.data }, { on := 20, ground := Go.Ground.data }], guard := none }, { dst := some 10, op := Go.Op.assign (Go.Operand.tmp 93), type := 3, pos := "more.go:24", after := #[{ on := 21, ground := Go.Ground.data }, { on := 0, ground := Go.Ground.phase }, { on := 1, ground := Go.Ground.phase }, { on := 2, ground := Go.Ground.phase }, { on := 3, ground := Go.Ground.phase }, { on := 4, ground := Go.Ground.phase }, { on := 5, ground := Go.Ground.phase }, { on := 6, ground := Go.Ground.phase }, { on := 7, ground := Go.Ground.phase }, { on := 8, ground := Go.Ground.phase }, { on := 9, ground := Go.Ground.phase }, { on := 10, ground := Go.Ground.phase }, { on := 11, ground := Go.Ground.phase }, { on := 12, ground := Go.Ground.phase }, { on := 13, ground := Go.Ground.phase }, { on := 14, ground := Go.Ground.phase }, { on := 15, ground := Go.Ground.phase }, { on := 16, ground := Go.Ground.phase }, { on := 17, ground := Go.Ground.phase }, { on := 18, ground := Go.Ground.phase }, { on := 19, ground := Go.Ground.phase }, { on := 20, ground := Go.Ground.phase }, { on := 21, ground := Go.Ground.phase }], guard := none }]
/-- The frame: what stood there, and what has come up. -/
def ptF (f v : Nat → Value) : Act := ⟨List.toArray (f 0 :: f 1 :: f 2 :: f 3 :: f 4 :: f 5 :: f 6 :: f 7 :: f 8 :: f 9 :: v 22 :: f 11 :: f 12 :: f 13 :: f 14 :: f 15 :: f 16 :: f 17 :: f 18 :: f 19 :: f 20 :: f 21 :: f 22 :: f 23 :: f 24 :: f 25 :: f 26 :: f 27 :: f 28 :: f 29 :: f 30 :: f 31 :: f 32 :: f 33 :: f 34 :: f 35 :: f 36 :: f 37 :: f 38 :: f 39 :: f 40 :: f 41 :: f 42 :: f 43 :: f 44 :: f 45 :: f 46 :: f 47 :: f 48 :: f 49 :: f 50 :: f 51 :: f 52 :: f 53 :: f 54 :: f 55 :: f 56 :: f 57 :: f 58 :: f 59 :: f 60 :: f 61 :: f 62 :: f 63 :: f 64 :: f 65 :: f 66 :: f 67 :: f 68 :: f 69 :: f 70 :: f 71 :: v 0 :: v 1 :: v 2 :: v 3 :: v 4 :: v 5 :: v 6 :: v 7 :: v 8 :: v 9 :: v 10 :: v 11 :: v 12 :: v 13 :: v 14 :: v 15 :: v 16 :: v 17 :: v 18 :: v 19 :: v 20 :: v 21 :: f 94 :: f 95 :: f 96 :: f 97 :: f 98 :: f 99 :: f 100 :: f 101 :: f 102 :: f 103 :: f 104 :: f 105 :: f 106 :: f 107 :: f 108 :: f 109 :: f 110 :: f 111 :: f 112 :: f 113 :: f 114 :: f 115 :: f 116 :: f 117 :: f 118 :: f 119 :: f 120 :: f 121 :: f 122 :: []), []⟩
theorem ptback : ∀ (i : Nat) (o : Oper), ptops[i]? = some o → ∀ e ∈ o.after, Region.binds .any e = true → e.on < i := by
  have h : (List.range ptops.size).all (fun i => (ptops[i]?.map fun o => o.after.toList.all fun e => decide (e.on < i)).getD true) = true := by decide +kernel
  intro i o ho e he _
  have hi : i < ptops.size := (Array.getElem?_eq_some_iff.1 ho).1
  have := List.all_eq_true.1 h i (List.mem_range.2 hi)
  rw [ho] at this
  simp only [Option.map_some, Option.getD_some] at this
  have := List.all_eq_true.1 this e (by simpa using he)
  simpa using this
theorem ptat {i : Nat} {o : Oper} (h : ptops[i]? = some o) : i < 23 := (Array.getElem?_eq_some_iff.1 h).1
theorem ptput (f : Nat → Value) : ∀ (i : Nat) (o : Oper), ptops[i]? = some o → ∀ v u, (ptF f v).put o.dst u = ptF f (setAt v i u) := by
  intro i o ho v u
  have hi := ptat ho
  match i, hi with
  | 0, _ => cases ho; rfl
  | 1, _ => cases ho; rfl
  | 2, _ => cases ho; rfl
  | 3, _ => cases ho; rfl
  | 4, _ => cases ho; rfl
  | 5, _ => cases ho; rfl
  | 6, _ => cases ho; rfl
  | 7, _ => cases ho; rfl
  | 8, _ => cases ho; rfl
  | 9, _ => cases ho; rfl
  | 10, _ => cases ho; rfl
  | 11, _ => cases ho; rfl
  | 12, _ => cases ho; rfl
  | 13, _ => cases ho; rfl
  | 14, _ => cases ho; rfl
  | 15, _ => cases ho; rfl
  | 16, _ => cases ho; rfl
  | 17, _ => cases ho; rfl
  | 18, _ => cases ho; rfl
  | 19, _ => cases ho; rfl
  | 20, _ => cases ho; rfl
  | 21, _ => cases ho; rfl
  | 22, _ => cases ho; rfl

/-- What each operation leaves. -/
def ptJ (g xn xc : Nat) (y1 y2 y3 y4 : Int) : Nat → Value → World → Prop
  | 0, v, w => v = .slice (some ⟨g, 0, none⟩) xn xc
  | 1, v, w => v = .pointer (some ⟨g, 1, none⟩)
  | 2, v, w => v = .int .u8 y1
  | 3, v, w => v = .int .i64 y1
  | 4, v, w => v = .int .i64 (y1 * 16777216)
  | 5, v, w => v = .slice (some ⟨g, 0, none⟩) xn xc
  | 6, v, w => v = .pointer (some ⟨g, 2, none⟩)
  | 7, v, w => v = .int .u8 y2
  | 8, v, w => v = .int .i64 y2
  | 9, v, w => v = .int .i64 (y2 * 65536)
  | 10, v, w => v = .int .i64 (y1 * 16777216 + y2 * 65536)
  | 11, v, w => v = .slice (some ⟨g, 0, none⟩) xn xc
  | 12, v, w => v = .pointer (some ⟨g, 3, none⟩)
  | 13, v, w => v = .int .u8 y3
  | 14, v, w => v = .int .i64 y3
  | 15, v, w => v = .int .i64 (y3 * 256)
  | 16, v, w => v = .int .i64 (y1 * 16777216 + y2 * 65536 + y3 * 256)
  | 17, v, w => v = .slice (some ⟨g, 0, none⟩) xn xc
  | 18, v, w => v = .pointer (some ⟨g, 4, none⟩)
  | 19, v, w => v = .int .u8 y4
  | 20, v, w => v = .int .i64 y4
  | 21, v, w => v = .int .i64 (y1 * 16777216 + y2 * 65536 + y3 * 256 + y4)
  | _, v, w => v = .int .i64 (y1 * 16777216 + y2 * 65536 + y3 * 256 + y4)
theorem ptmono {g xn xc : Nat} {y1 y2 y3 y4 : Int} (j : Nat) (v : Value) (w w' : World) (hB : Below w.heap.size w w') (h : ptJ g xn xc y1 y2 y3 y4 j v w) : ptJ g xn xc y1 y2 y3 y4 j v w' := by
  unfold ptJ at h ⊢
  split at h <;> first | exact h | (obtain ⟨g, h1, h2⟩ := h; exact ⟨g, h1, h2.below hB⟩)
/-- What is known ahead of it. -/
structure ptK (f : Nat → Value) (w0 : World) (g xn xc : Nat) (y1 y2 y3 y4 : Int) : Prop where
  t : Tab w0
  f5 : f 5 = .slice (some ⟨g, 0, none⟩) xn xc
  c1 : ∀ w, Below w0.heap.size w0 w → w.cell? ⟨g, 1, none⟩ = some (.int .u8 y1)
  c2 : ∀ w, Below w0.heap.size w0 w → w.cell? ⟨g, 2, none⟩ = some (.int .u8 y2)
  c3 : ∀ w, Below w0.heap.size w0 w → w.cell? ⟨g, 3, none⟩ = some (.int .u8 y3)
  c4 : ∀ w, Below w0.heap.size w0 w → w.cell? ⟨g, 4, none⟩ = some (.int .u8 y4)
  b1 : 0 ≤ y1 ∧ y1 ≤ 255
  b2 : 0 ≤ y2 ∧ y2 ≤ 255
  b3 : 0 ≤ y3 ∧ y3 ≤ 255
  b4 : 0 ≤ y4 ∧ y4 ≤ 255
  n : 13 ≤ xn
  m : xn ≤ 100000
  o1 : bits .or .i64 (y1 * 16777216) (y2 * 65536) = y1 * 16777216 + y2 * 65536
  o2 : bits .or .i64 (y1 * 16777216 + y2 * 65536) (y3 * 256) = y1 * 16777216 + y2 * 65536 + y3 * 256
  o3 : bits .or .i64 (y1 * 16777216 + y2 * 65536 + y3 * 256) y4 = y1 * 16777216 + y2 * 65536 + y3 * 256 + y4
def ptPost (f : Nat → Value) (w0 : World) (g xn xc : Nat) (y1 y2 y3 y4 : Int) (v : Nat → Value) (w : World) (i : Nat) (dst : Option Tmp) (a' : Act) (w' : World) : Prop :=
  ∃ u, a' = (ptF f v).put dst u ∧ Below w0.heap.size w0 w' ∧ Below w.heap.size w w' ∧ ptJ g xn xc y1 y2 y3 y4 i u w'
set_option maxRecDepth 100000 in
set_option maxHeartbeats 2000000 in
theorem ptstep {f : Nat → Value} {w0 : World} {g xn xc : Nat} {y1 y2 y3 y4 : Int} {Q : Exit → Act → World → Prop} (K : ptK f w0 g xn xc y1 y2 y3 y4) :
    ∀ (i : Nat) (o : Oper), ptops[i]? = some o → ∀ v w, Below w0.heap.size w0 w → (∀ e ∈ o.after, Region.binds .any e = true → ptJ g xn xc y1 y2 y3 y4 e.on (v e.on) w) →
      wpOp Tryd.prog ptops Q i (ptPost f w0 g xn xc y1 y2 y3 y4 v w i o.dst) (ptF f v) w := by
  intro i o ho v w hS hd
  have hi := ptat ho
  have hT := K.t.below hS
  match i, hi with
  | 0, _ =>
    replace ho : some ({ dst := some 72, op := Go.Op.move (Go.Operand.tmp 5), type := 27, pos := "more.go:24", after := #[], guard := none } : Oper) = some o := ho
    cases ho
    refine each_of (o := { dst := some 72, op := Go.Op.move (Go.Operand.tmp 5), type := 27, pos := "more.go:24", after := #[], guard := none }) rfl rfl ?_
    unfold ptF
    rw [K.f5]
    go_simp
    exact ⟨_, by unfold ptF; first | (rw [K.f5]; done) | (rw [K.f5]; rfl), hS, Below.refl _ _, rfl⟩
  | 1, _ =>
    replace ho : some ({ dst := some 73, op := Go.Op.indexAddr 27 (Go.Operand.tmp 72) (Go.Operand.const (Go.Value.int Go.IntKind.i64 1)), type := 0, pos := "more.go:24", after := #[{ on := 0, ground := Go.Ground.data }], guard := none } : Oper) = some o := ho
    cases ho
    have h0 : v 0 = .slice (some ⟨g, 0, none⟩) xn xc := hd ⟨0, .data⟩ (by simp) rfl
    have q1 := K.n
    have q2 := K.m
    have q3 : (0 : Int) ≤ xn := by omega
    have q4 : (4 : Int) < xn := by omega
    have q5 : (3 : Int) < xn := by omega
    have q6 : (2 : Int) < xn := by omega
    have q7 : (1 : Int) < xn := by omega
    refine each_of (o := { dst := some 73, op := Go.Op.indexAddr 27 (Go.Operand.tmp 72) (Go.Operand.const (Go.Value.int Go.IntKind.i64 1)), type := 0, pos := "more.go:24", after := #[{ on := 0, ground := Go.Ground.data }], guard := none }) rfl rfl ?_
    unfold ptF
    rw [h0]
    go_simp
    exact ⟨_, by unfold ptF; first | (rw [h0]; done) | (rw [h0]; rfl), hS, Below.refl _ _, rfl⟩
  | 2, _ =>
    replace ho : some ({ dst := some 74, op := Go.Op.load 5 (Go.Operand.tmp 73), type := 5, pos := "more.go:24", after := #[{ on := 1, ground := Go.Ground.data }], guard := none } : Oper) = some o := ho
    cases ho
    have h1 : v 1 = .pointer (some ⟨g, 1, none⟩) := hd ⟨1, .data⟩ (by simp) rfl
    have q1 := K.c1 w hS
    refine each_of (o := { dst := some 74, op := Go.Op.load 5 (Go.Operand.tmp 73), type := 5, pos := "more.go:24", after := #[{ on := 1, ground := Go.Ground.data }], guard := none }) rfl rfl ?_
    unfold ptF
    rw [h1]
    go_simp
    exact ⟨_, by unfold ptF; first | (rw [h1]; done) | (rw [h1]; rfl), hS, Below.refl _ _, rfl⟩
  | 3, _ =>
    replace ho : some ({ dst := some 75, op := Go.Op.convert 5 3 (Go.Operand.tmp 74), type := 3, pos := "more.go:24", after := #[{ on := 2, ground := Go.Ground.data }], guard := none } : Oper) = some o := ho
    cases ho
    have h2 : v 2 = .int .u8 y1 := hd ⟨2, .data⟩ (by simp) rfl
    obtain ⟨q1, q2⟩ := K.b1
    have q3 := i64w y1 (by omega) (by omega)
    refine each_of (o := { dst := some 75, op := Go.Op.convert 5 3 (Go.Operand.tmp 74), type := 3, pos := "more.go:24", after := #[{ on := 2, ground := Go.Ground.data }], guard := none }) rfl rfl ?_
    unfold ptF
    rw [h2]
    go_simp
    exact ⟨_, by unfold ptF; first | (rw [h2]; done) | (rw [h2]; rfl), hS, Below.refl _ _, rfl⟩
  | 4, _ =>
    replace ho : some ({ dst := some 76, op := Go.Op.binOp Go.BinOp.shl 3 (Go.Operand.tmp 75) (Go.Operand.const (Go.Value.int Go.IntKind.u64 24)) 47, type := 3, pos := "more.go:24", after := #[{ on := 3, ground := Go.Ground.data }], guard := none } : Oper) = some o := ho
    cases ho
    have h3 : v 3 = .int .i64 y1 := hd ⟨3, .data⟩ (by simp) rfl
    obtain ⟨q1, q2⟩ := K.b1
    have q3 := i64w (y1 * 16777216) (by omega) (by omega)
    refine each_of (o := { dst := some 76, op := Go.Op.binOp Go.BinOp.shl 3 (Go.Operand.tmp 75) (Go.Operand.const (Go.Value.int Go.IntKind.u64 24)) 47, type := 3, pos := "more.go:24", after := #[{ on := 3, ground := Go.Ground.data }], guard := none }) rfl rfl ?_
    unfold ptF
    rw [h3]
    go_simp
    exact ⟨_, by unfold ptF; first | (rw [h3]; done) | (rw [h3]; rfl), hS, Below.refl _ _, rfl⟩
  | 5, _ =>
    replace ho : some ({ dst := some 77, op := Go.Op.move (Go.Operand.tmp 5), type := 27, pos := "more.go:24", after := #[], guard := none } : Oper) = some o := ho
    cases ho
    refine each_of (o := { dst := some 77, op := Go.Op.move (Go.Operand.tmp 5), type := 27, pos := "more.go:24", after := #[], guard := none }) rfl rfl ?_
    unfold ptF
    rw [K.f5]
    go_simp
    exact ⟨_, by unfold ptF; first | (rw [K.f5]; done) | (rw [K.f5]; rfl), hS, Below.refl _ _, rfl⟩
  | 6, _ =>
    replace ho : some ({ dst := some 78, op := Go.Op.indexAddr 27 (Go.Operand.tmp 77) (Go.Operand.const (Go.Value.int Go.IntKind.i64 2)), type := 0, pos := "more.go:24", after := #[{ on := 5, ground := Go.Ground.data }], guard := none } : Oper) = some o := ho
    cases ho
    have h5 : v 5 = .slice (some ⟨g, 0, none⟩) xn xc := hd ⟨5, .data⟩ (by simp) rfl
    have q1 := K.n
    have q2 := K.m
    have q3 : (0 : Int) ≤ xn := by omega
    have q4 : (4 : Int) < xn := by omega
    have q5 : (3 : Int) < xn := by omega
    have q6 : (2 : Int) < xn := by omega
    have q7 : (1 : Int) < xn := by omega
    refine each_of (o := { dst := some 78, op := Go.Op.indexAddr 27 (Go.Operand.tmp 77) (Go.Operand.const (Go.Value.int Go.IntKind.i64 2)), type := 0, pos := "more.go:24", after := #[{ on := 5, ground := Go.Ground.data }], guard := none }) rfl rfl ?_
    unfold ptF
    rw [h5]
    go_simp
    exact ⟨_, by unfold ptF; first | (rw [h5]; done) | (rw [h5]; rfl), hS, Below.refl _ _, rfl⟩
  | 7, _ =>
    replace ho : some ({ dst := some 79, op := Go.Op.load 5 (Go.Operand.tmp 78), type := 5, pos := "more.go:24", after := #[{ on := 6, ground := Go.Ground.data }], guard := none } : Oper) = some o := ho
    cases ho
    have h6 : v 6 = .pointer (some ⟨g, 2, none⟩) := hd ⟨6, .data⟩ (by simp) rfl
    have q1 := K.c2 w hS
    refine each_of (o := { dst := some 79, op := Go.Op.load 5 (Go.Operand.tmp 78), type := 5, pos := "more.go:24", after := #[{ on := 6, ground := Go.Ground.data }], guard := none }) rfl rfl ?_
    unfold ptF
    rw [h6]
    go_simp
    exact ⟨_, by unfold ptF; first | (rw [h6]; done) | (rw [h6]; rfl), hS, Below.refl _ _, rfl⟩
  | 8, _ =>
    replace ho : some ({ dst := some 80, op := Go.Op.convert 5 3 (Go.Operand.tmp 79), type := 3, pos := "more.go:24", after := #[{ on := 7, ground := Go.Ground.data }], guard := none } : Oper) = some o := ho
    cases ho
    have h7 : v 7 = .int .u8 y2 := hd ⟨7, .data⟩ (by simp) rfl
    obtain ⟨q1, q2⟩ := K.b2
    have q3 := i64w y2 (by omega) (by omega)
    refine each_of (o := { dst := some 80, op := Go.Op.convert 5 3 (Go.Operand.tmp 79), type := 3, pos := "more.go:24", after := #[{ on := 7, ground := Go.Ground.data }], guard := none }) rfl rfl ?_
    unfold ptF
    rw [h7]
    go_simp
    exact ⟨_, by unfold ptF; first | (rw [h7]; done) | (rw [h7]; rfl), hS, Below.refl _ _, rfl⟩
  | 9, _ =>
    replace ho : some ({ dst := some 81, op := Go.Op.binOp Go.BinOp.shl 3 (Go.Operand.tmp 80) (Go.Operand.const (Go.Value.int Go.IntKind.u64 16)) 47, type := 3, pos := "more.go:24", after := #[{ on := 8, ground := Go.Ground.data }], guard := none } : Oper) = some o := ho
    cases ho
    have h8 : v 8 = .int .i64 y2 := hd ⟨8, .data⟩ (by simp) rfl
    obtain ⟨q1, q2⟩ := K.b2
    have q3 := i64w (y2 * 65536) (by omega) (by omega)
    refine each_of (o := { dst := some 81, op := Go.Op.binOp Go.BinOp.shl 3 (Go.Operand.tmp 80) (Go.Operand.const (Go.Value.int Go.IntKind.u64 16)) 47, type := 3, pos := "more.go:24", after := #[{ on := 8, ground := Go.Ground.data }], guard := none }) rfl rfl ?_
    unfold ptF
    rw [h8]
    go_simp
    exact ⟨_, by unfold ptF; first | (rw [h8]; done) | (rw [h8]; rfl), hS, Below.refl _ _, rfl⟩
  | 10, _ =>
    replace ho : some ({ dst := some 82, op := Go.Op.binOp Go.BinOp.or 3 (Go.Operand.tmp 76) (Go.Operand.tmp 81) 3, type := 3, pos := "more.go:24", after := #[{ on := 4, ground := Go.Ground.data }, { on := 9, ground := Go.Ground.data }], guard := none } : Oper) = some o := ho
    cases ho
    have h4 : v 4 = .int .i64 (y1 * 16777216) := hd ⟨4, .data⟩ (by simp) rfl
    have h9 : v 9 = .int .i64 (y2 * 65536) := hd ⟨9, .data⟩ (by simp) rfl
    have q1 := K.o1
    refine each_of (o := { dst := some 82, op := Go.Op.binOp Go.BinOp.or 3 (Go.Operand.tmp 76) (Go.Operand.tmp 81) 3, type := 3, pos := "more.go:24", after := #[{ on := 4, ground := Go.Ground.data }, { on := 9, ground := Go.Ground.data }], guard := none }) rfl rfl ?_
    unfold ptF
    rw [h4, h9]
    go_simp
    exact ⟨_, by unfold ptF; first | (rw [h4, h9]; done) | (rw [h4, h9]; rfl), hS, Below.refl _ _, rfl⟩
  | 11, _ =>
    replace ho : some ({ dst := some 83, op := Go.Op.move (Go.Operand.tmp 5), type := 27, pos := "more.go:24", after := #[], guard := none } : Oper) = some o := ho
    cases ho
    refine each_of (o := { dst := some 83, op := Go.Op.move (Go.Operand.tmp 5), type := 27, pos := "more.go:24", after := #[], guard := none }) rfl rfl ?_
    unfold ptF
    rw [K.f5]
    go_simp
    exact ⟨_, by unfold ptF; first | (rw [K.f5]; done) | (rw [K.f5]; rfl), hS, Below.refl _ _, rfl⟩
  | 12, _ =>
    replace ho : some ({ dst := some 84, op := Go.Op.indexAddr 27 (Go.Operand.tmp 83) (Go.Operand.const (Go.Value.int Go.IntKind.i64 3)), type := 0, pos := "more.go:24", after := #[{ on := 11, ground := Go.Ground.data }], guard := none } : Oper) = some o := ho
    cases ho
    have h11 : v 11 = .slice (some ⟨g, 0, none⟩) xn xc := hd ⟨11, .data⟩ (by simp) rfl
    have q1 := K.n
    have q2 := K.m
    have q3 : (0 : Int) ≤ xn := by omega
    have q4 : (4 : Int) < xn := by omega
    have q5 : (3 : Int) < xn := by omega
    have q6 : (2 : Int) < xn := by omega
    have q7 : (1 : Int) < xn := by omega
    refine each_of (o := { dst := some 84, op := Go.Op.indexAddr 27 (Go.Operand.tmp 83) (Go.Operand.const (Go.Value.int Go.IntKind.i64 3)), type := 0, pos := "more.go:24", after := #[{ on := 11, ground := Go.Ground.data }], guard := none }) rfl rfl ?_
    unfold ptF
    rw [h11]
    go_simp
    exact ⟨_, by unfold ptF; first | (rw [h11]; done) | (rw [h11]; rfl), hS, Below.refl _ _, rfl⟩
  | 13, _ =>
    replace ho : some ({ dst := some 85, op := Go.Op.load 5 (Go.Operand.tmp 84), type := 5, pos := "more.go:24", after := #[{ on := 12, ground := Go.Ground.data }], guard := none } : Oper) = some o := ho
    cases ho
    have h12 : v 12 = .pointer (some ⟨g, 3, none⟩) := hd ⟨12, .data⟩ (by simp) rfl
    have q1 := K.c3 w hS
    refine each_of (o := { dst := some 85, op := Go.Op.load 5 (Go.Operand.tmp 84), type := 5, pos := "more.go:24", after := #[{ on := 12, ground := Go.Ground.data }], guard := none }) rfl rfl ?_
    unfold ptF
    rw [h12]
    go_simp
    exact ⟨_, by unfold ptF; first | (rw [h12]; done) | (rw [h12]; rfl), hS, Below.refl _ _, rfl⟩
  | 14, _ =>
    replace ho : some ({ dst := some 86, op := Go.Op.convert 5 3 (Go.Operand.tmp 85), type := 3, pos := "more.go:24", after := #[{ on := 13, ground := Go.Ground.data }], guard := none } : Oper) = some o := ho
    cases ho
    have h13 : v 13 = .int .u8 y3 := hd ⟨13, .data⟩ (by simp) rfl
    obtain ⟨q1, q2⟩ := K.b3
    have q3 := i64w y3 (by omega) (by omega)
    refine each_of (o := { dst := some 86, op := Go.Op.convert 5 3 (Go.Operand.tmp 85), type := 3, pos := "more.go:24", after := #[{ on := 13, ground := Go.Ground.data }], guard := none }) rfl rfl ?_
    unfold ptF
    rw [h13]
    go_simp
    exact ⟨_, by unfold ptF; first | (rw [h13]; done) | (rw [h13]; rfl), hS, Below.refl _ _, rfl⟩
  | 15, _ =>
    replace ho : some ({ dst := some 87, op := Go.Op.binOp Go.BinOp.shl 3 (Go.Operand.tmp 86) (Go.Operand.const (Go.Value.int Go.IntKind.u64 8)) 47, type := 3, pos := "more.go:24", after := #[{ on := 14, ground := Go.Ground.data }], guard := none } : Oper) = some o := ho
    cases ho
    have h14 : v 14 = .int .i64 y3 := hd ⟨14, .data⟩ (by simp) rfl
    obtain ⟨q1, q2⟩ := K.b3
    have q3 := i64w (y3 * 256) (by omega) (by omega)
    refine each_of (o := { dst := some 87, op := Go.Op.binOp Go.BinOp.shl 3 (Go.Operand.tmp 86) (Go.Operand.const (Go.Value.int Go.IntKind.u64 8)) 47, type := 3, pos := "more.go:24", after := #[{ on := 14, ground := Go.Ground.data }], guard := none }) rfl rfl ?_
    unfold ptF
    rw [h14]
    go_simp
    exact ⟨_, by unfold ptF; first | (rw [h14]; done) | (rw [h14]; rfl), hS, Below.refl _ _, rfl⟩
  | 16, _ =>
    replace ho : some ({ dst := some 88, op := Go.Op.binOp Go.BinOp.or 3 (Go.Operand.tmp 82) (Go.Operand.tmp 87) 3, type := 3, pos := "more.go:24", after := #[{ on := 10, ground := Go.Ground.data }, { on := 15, ground := Go.Ground.data }], guard := none } : Oper) = some o := ho
    cases ho
    have h10 : v 10 = .int .i64 (y1 * 16777216 + y2 * 65536) := hd ⟨10, .data⟩ (by simp) rfl
    have h15 : v 15 = .int .i64 (y3 * 256) := hd ⟨15, .data⟩ (by simp) rfl
    have q1 := K.o2
    refine each_of (o := { dst := some 88, op := Go.Op.binOp Go.BinOp.or 3 (Go.Operand.tmp 82) (Go.Operand.tmp 87) 3, type := 3, pos := "more.go:24", after := #[{ on := 10, ground := Go.Ground.data }, { on := 15, ground := Go.Ground.data }], guard := none }) rfl rfl ?_
    unfold ptF
    rw [h10, h15]
    go_simp
    exact ⟨_, by unfold ptF; first | (rw [h10, h15]; done) | (rw [h10, h15]; rfl), hS, Below.refl _ _, rfl⟩
  | 17, _ =>
    replace ho : some ({ dst := some 89, op := Go.Op.move (Go.Operand.tmp 5), type := 27, pos := "more.go:24", after := #[], guard := none } : Oper) = some o := ho
    cases ho
    refine each_of (o := { dst := some 89, op := Go.Op.move (Go.Operand.tmp 5), type := 27, pos := "more.go:24", after := #[], guard := none }) rfl rfl ?_
    unfold ptF
    rw [K.f5]
    go_simp
    exact ⟨_, by unfold ptF; first | (rw [K.f5]; done) | (rw [K.f5]; rfl), hS, Below.refl _ _, rfl⟩
  | 18, _ =>
    replace ho : some ({ dst := some 90, op := Go.Op.indexAddr 27 (Go.Operand.tmp 89) (Go.Operand.const (Go.Value.int Go.IntKind.i64 4)), type := 0, pos := "more.go:24", after := #[{ on := 17, ground := Go.Ground.data }], guard := none } : Oper) = some o := ho
    cases ho
    have h17 : v 17 = .slice (some ⟨g, 0, none⟩) xn xc := hd ⟨17, .data⟩ (by simp) rfl
    have q1 := K.n
    have q2 := K.m
    have q3 : (0 : Int) ≤ xn := by omega
    have q4 : (4 : Int) < xn := by omega
    have q5 : (3 : Int) < xn := by omega
    have q6 : (2 : Int) < xn := by omega
    have q7 : (1 : Int) < xn := by omega
    refine each_of (o := { dst := some 90, op := Go.Op.indexAddr 27 (Go.Operand.tmp 89) (Go.Operand.const (Go.Value.int Go.IntKind.i64 4)), type := 0, pos := "more.go:24", after := #[{ on := 17, ground := Go.Ground.data }], guard := none }) rfl rfl ?_
    unfold ptF
    rw [h17]
    go_simp
    exact ⟨_, by unfold ptF; first | (rw [h17]; done) | (rw [h17]; rfl), hS, Below.refl _ _, rfl⟩
  | 19, _ =>
    replace ho : some ({ dst := some 91, op := Go.Op.load 5 (Go.Operand.tmp 90), type := 5, pos := "more.go:24", after := #[{ on := 18, ground := Go.Ground.data }], guard := none } : Oper) = some o := ho
    cases ho
    have h18 : v 18 = .pointer (some ⟨g, 4, none⟩) := hd ⟨18, .data⟩ (by simp) rfl
    have q1 := K.c4 w hS
    refine each_of (o := { dst := some 91, op := Go.Op.load 5 (Go.Operand.tmp 90), type := 5, pos := "more.go:24", after := #[{ on := 18, ground := Go.Ground.data }], guard := none }) rfl rfl ?_
    unfold ptF
    rw [h18]
    go_simp
    exact ⟨_, by unfold ptF; first | (rw [h18]; done) | (rw [h18]; rfl), hS, Below.refl _ _, rfl⟩
  | 20, _ =>
    replace ho : some ({ dst := some 92, op := Go.Op.convert 5 3 (Go.Operand.tmp 91), type := 3, pos := "more.go:24", after := #[{ on := 19, ground := Go.Ground.data }], guard := none } : Oper) = some o := ho
    cases ho
    have h19 : v 19 = .int .u8 y4 := hd ⟨19, .data⟩ (by simp) rfl
    obtain ⟨q1, q2⟩ := K.b4
    have q3 := i64w y4 (by omega) (by omega)
    refine each_of (o := { dst := some 92, op := Go.Op.convert 5 3 (Go.Operand.tmp 91), type := 3, pos := "more.go:24", after := #[{ on := 19, ground := Go.Ground.data }], guard := none }) rfl rfl ?_
    unfold ptF
    rw [h19]
    go_simp
    exact ⟨_, by unfold ptF; first | (rw [h19]; done) | (rw [h19]; rfl), hS, Below.refl _ _, rfl⟩
  | 21, _ =>
    replace ho : some ({ dst := some 93, op := Go.Op.binOp Go.BinOp.or 3 (Go.Operand.tmp 88) (Go.Operand.tmp 92) 3, type := 3, pos := "more.go:24", after := #[{ on := 16, ground := Go.Ground.data }, { on := 20, ground := Go.Ground.data }], guard := none } : Oper) = some o := ho
    cases ho
    have h16 : v 16 = .int .i64 (y1 * 16777216 + y2 * 65536 + y3 * 256) := hd ⟨16, .data⟩ (by simp) rfl
    have h20 : v 20 = .int .i64 y4 := hd ⟨20, .data⟩ (by simp) rfl
    have q1 := K.o3
    refine each_of (o := { dst := some 93, op := Go.Op.binOp Go.BinOp.or 3 (Go.Operand.tmp 88) (Go.Operand.tmp 92) 3, type := 3, pos := "more.go:24", after := #[{ on := 16, ground := Go.Ground.data }, { on := 20, ground := Go.Ground.data }], guard := none }) rfl rfl ?_
    unfold ptF
    rw [h16, h20]
    go_simp
    exact ⟨_, by unfold ptF; first | (rw [h16, h20]; done) | (rw [h16, h20]; rfl), hS, Below.refl _ _, rfl⟩
  | 22, _ =>
    replace ho : some ({ dst := some 10, op := Go.Op.assign (Go.Operand.tmp 93), type := 3, pos := "more.go:24", after := #[{ on := 21, ground := Go.Ground.data }, { on := 0, ground := Go.Ground.phase }, { on := 1, ground := Go.Ground.phase }, { on := 2, ground := Go.Ground.phase }, { on := 3, ground := Go.Ground.phase }, { on := 4, ground := Go.Ground.phase }, { on := 5, ground := Go.Ground.phase }, { on := 6, ground := Go.Ground.phase }, { on := 7, ground := Go.Ground.phase }, { on := 8, ground := Go.Ground.phase }, { on := 9, ground := Go.Ground.phase }, { on := 10, ground := Go.Ground.phase }, { on := 11, ground := Go.Ground.phase }, { on := 12, ground := Go.Ground.phase }, { on := 13, ground := Go.Ground.phase }, { on := 14, ground := Go.Ground.phase }, { on := 15, ground := Go.Ground.phase }, { on := 16, ground := Go.Ground.phase }, { on := 17, ground := Go.Ground.phase }, { on := 18, ground := Go.Ground.phase }, { on := 19, ground := Go.Ground.phase }, { on := 20, ground := Go.Ground.phase }, { on := 21, ground := Go.Ground.phase }], guard := none } : Oper) = some o := ho
    cases ho
    have h21 : v 21 = .int .i64 (y1 * 16777216 + y2 * 65536 + y3 * 256 + y4) := hd ⟨21, .data⟩ (by simp) rfl
    refine each_of (o := { dst := some 10, op := Go.Op.assign (Go.Operand.tmp 93), type := 3, pos := "more.go:24", after := #[{ on := 21, ground := Go.Ground.data }, { on := 0, ground := Go.Ground.phase }, { on := 1, ground := Go.Ground.phase }, { on := 2, ground := Go.Ground.phase }, { on := 3, ground := Go.Ground.phase }, { on := 4, ground := Go.Ground.phase }, { on := 5, ground := Go.Ground.phase }, { on := 6, ground := Go.Ground.phase }, { on := 7, ground := Go.Ground.phase }, { on := 8, ground := Go.Ground.phase }, { on := 9, ground := Go.Ground.phase }, { on := 10, ground := Go.Ground.phase }, { on := 11, ground := Go.Ground.phase }, { on := 12, ground := Go.Ground.phase }, { on := 13, ground := Go.Ground.phase }, { on := 14, ground := Go.Ground.phase }, { on := 15, ground := Go.Ground.phase }, { on := 16, ground := Go.Ground.phase }, { on := 17, ground := Go.Ground.phase }, { on := 18, ground := Go.Ground.phase }, { on := 19, ground := Go.Ground.phase }, { on := 20, ground := Go.Ground.phase }, { on := 21, ground := Go.Ground.phase }], guard := none }) rfl rfl ?_
    unfold ptF
    rw [h21]
    go_simp
    exact ⟨_, by unfold ptF; first | (rw [h21]; done) | (rw [h21]; rfl), hS, Below.refl _ _, rfl⟩

/-- THE STATEMENT, in whatever order. -/
theorem ptend {f v0 : Nat → Value} {w0 : World} {g xn xc : Nat} {y1 y2 y3 y4 : Int} {Q : Exit → Act → World → Prop} (K : ptK f w0 g xn xc y1 y2 y3 y4)
    (hQ : ∀ v w, Below w0.heap.size w0 w → v 22 = .int .i64 (y1 * 16777216 + y2 * 65536 + y3 * 256 + y4) → Q .normal (ptF f v) w) : (Code.region 10 ptops true).wp Tryd.prog Q (ptF f v0) w0 :=
  wp_region_each (F := ptF f) (S := fun w => Below w0.heap.size w0 w) (J := ptJ g xn xc y1 y2 y3 y4) (R := fun w w' => Below w.heap.size w w') (by kernel_rfl) ptback (ptput f) ptmono
    (ptstep K) (fun v w hS hJ => hQ v w hS (hJ 22 (by decide))) v0 ((Below.refl _ _).drew)
theorem ptbegin {A0 : Act} {w0 : World} {g xn xc : Nat} {y1 y2 y3 y4 : Int} {Q : Exit → Act → World → Prop} (hA : A0 = ptF (fun i => A0.tmps.getD i undef) (fun i => A0.tmps.getD (if i = 0 then 72 else if i = 1 then 73 else if i = 2 then 74 else if i = 3 then 75 else if i = 4 then 76 else if i = 5 then 77 else if i = 6 then 78 else if i = 7 then 79 else if i = 8 then 80 else if i = 9 then 81 else if i = 10 then 82 else if i = 11 then 83 else if i = 12 then 84 else if i = 13 then 85 else if i = 14 then 86 else if i = 15 then 87 else if i = 16 then 88 else if i = 17 then 89 else if i = 18 then 90 else if i = 19 then 91 else if i = 20 then 92 else if i = 21 then 93 else if i = 22 then 10 else 0) undef))
    (K : ptK (fun i => A0.tmps.getD i undef) w0 g xn xc y1 y2 y3 y4) (hQ : ∀ v w, Below w0.heap.size w0 w → v 22 = .int .i64 (y1 * 16777216 + y2 * 65536 + y3 * 256 + y4) → Q .normal (ptF (fun i => A0.tmps.getD i undef) v) w) : (Code.region 10 ptops true).wp Tryd.prog Q A0 w0 := by
  rw [hA]
  exact ptend K hQ
end Go.Proofs.YtmbkgjiofkggcaaDoor
