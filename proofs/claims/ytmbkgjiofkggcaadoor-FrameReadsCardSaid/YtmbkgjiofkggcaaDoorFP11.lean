/-
  FrameParts: its last statement, in whatever order.
-/
import Derived.Test.YtmbkgjiofkggcaaDoorFP0
namespace Go.Proofs.YtmbkgjiofkggcaaDoor
open Go.RowKit
set_option linter.unusedVariables false
/-- Its operations. -/
def peops : Array Oper := #[{ dst := some 94, op := Go.Op.move (Go.Operand.tmp 5), type := 27, pos := "more.go:25", after := #[], guard := none }, { dst := some 95, op := Go.Op.indexAddr 27 (Go.Operand.tmp 94) (Go.Operand.const (Go.Value.int Go.IntKind.i64 0)), type := 0, pos := "more.go:25", after := #[{ on := 0, ground := Go.Ground.data }], guard := none }, { dst := some 96, op := Go.Op.load 5 (Go.Operand.tmp 95), type := 5, pos := "more.go:25", after := #[{ on := 1, ground := Go.Ground.data }], guard := none }, { dst := some 97, op := Go.Op.convert 5 3 (Go.Operand.tmp 96), type := 3, pos := "more.go:25", after := #[{ on := 2, ground := Go.Ground.data }], guard := none }, { dst := some 98, op := Go.Op.fieldAddr 29 (Go.Operand.tmp 2) 0, type := 0, pos := "more.go:25", after := #[], guard := none }, { dst := some 99, op := Go.Op.load 3 (Go.Operand.tmp 98), type := 3, pos := "more.go:25", after := #[{ on := 4, ground := Go.Ground.data }], guard := none }, { dst := some 100, op := Go.Op.binOp Go.BinOp.eql 3 (Go.Operand.tmp 97) (Go.Operand.tmp 99) 3, type := 4, pos := "more.go:25", after := #[{ on := 3, ground := Go.Ground.data }, { on := 5, ground := Go.Ground.data }], guard := none }, { dst := some 101, op := Go.Op.move (Go.Operand.tmp 100), type := 4, pos := "more.go:25", after := #[{ on := 6, ground := Go.Ground.data }], guard := none }, { dst := some 102, op := Go.Op.move (Go.Operand.tmp 10), type := 3, pos := "more.go:25", after := #[{ on := 7, ground := Go.Ground.guard }], guard := some (7, true) }, { dst := some 103, op := Go.Op.fieldAddr 29 (Go.Operand.tmp 2) 1, type := 0, pos := "more.go:25", after := #[{ on := 7, ground := Go.Ground.guard }], guard := some (7, true) }, { dst := some 104, op := Go.Op.load 3 (Go.Operand.tmp 103), type := 3, pos := "more.go:25", after := #[{ on := 9, ground := Go.Ground.data }, { on := 7, ground := Go.Ground.guard }], guard := some (7, true) }, { dst := some 105, op := Go.Op.binOp Go.BinOp.eql 3 (Go.Operand.tmp 102) (Go.Operand.tmp 104) 3, type := 4, pos := "more.go:25", after := #[{ on := 8, ground := Go.Ground.data }, { on := 10, ground := Go.Ground.data }, { on := 7, ground := Go.Ground.guard }], guard := some (7, true) }, { dst := some 106, op := Go.Op.pick (Go.Operand.tmp 101) (Go.Operand.tmp 105) (Go.Operand.const (Go.Value.bool false)), type := 4, pos := "more.go:25", after := #[{ on := 7, ground := Go.Ground.data }, { on := 11, ground := Go.Ground.data }], guard := none }, { dst := some 107, op := Go.Op.move (Go.Operand.tmp 106), type := 4, pos := "more.go:25", after := #[{ on := 12, ground := Go.Ground.data }, { on := 7, ground := Go.Ground.chain }], guard := none }, { dst := some 108, op := Go.Op.move (Go.Operand.tmp 5), type := 27, pos := "more.go:25", after := #[{ on := 13, ground := Go.Ground.guard }], guard := some (13, true) }, { dst := some 109, op := Go.Op.slice 27 (Go.Operand.tmp 108) (some (Go.Operand.const (Go.Value.int Go.IntKind.i64 9))) (some (Go.Operand.const (Go.Value.int Go.IntKind.i64 13))) none, type := 27, pos := "more.go:25", after := #[{ on := 14, ground := Go.Ground.data }, { on := 13, ground := Go.Ground.guard }], guard := some (13, true) }, { dst := some 110, op := Go.Op.slice 51 (Go.Operand.tmp 9) none none none, type := 27, pos := "more.go:25", after := #[{ on := 13, ground := Go.Ground.guard }], guard := some (13, true) }, { dst := some 111, op := Go.Op.call { callee := Go.Callee.value (Go.Operand.func 19), args := #[Go.Operand.tmp 109, Go.Operand.tmp 110], argTypes := #[27, 27] }, type := 4, pos := "more.go:25", after := #[{ on := 15, ground := Go.Ground.data }, { on := 16, ground := Go.Ground.data }, { on := 13, ground := Go.Ground.chain }, { on := 13, ground := Go.Ground.guard }], guard := some (13, true) }, { dst := some 112, op := Go.Op.pick (Go.Operand.tmp 107) (Go.Operand.tmp 111) (Go.Operand.const (Go.Value.bool false)), type := 4, pos := "more.go:25", after := #[{ on := 13, ground := Go.Ground.data }, { on := 17, ground := Go.Ground.data }], guard := none }, { dst := some 113, op := Go.Op.move (Go.Operand.tmp 112), type := 4, pos := "more.go:25", after := #[{ on := 18, ground := Go.Ground.data }, { on := 17, ground := Go.Ground.chain }], guard := none }, { dst := some 114, op := Go.Op.move (Go.Operand.tmp 5), type := 27, pos := "more.go:25", after := #[{ on := 19, ground := Go.Ground.guard }], guard := some (19, true) }, { dst := some 115, op := Go.Op.slice 27 (Go.Operand.tmp 114) (some (Go.Operand.const (Go.Value.int Go.IntKind.i64 13))) none none, type := 27, pos := "more.go:25", after := #[{ on := 20, ground := Go.Ground.data }, { on := 19, ground := Go.Ground.guard }], guard := some (19, true) }, { dst := some 116, op := Go.Op.fieldAddr 29 (Go.Operand.tmp 2) 2, type := 0, pos := "more.go:25", after := #[{ on := 19, ground := Go.Ground.guard }], guard := some (19, true) }, { dst := some 117, op := Go.Op.load 27 (Go.Operand.tmp 116), type := 27, pos := "more.go:25", after := #[{ on := 22, ground := Go.Ground.data }, { on := 19, ground := Go.Ground.guard }], guard := some (19, true) }, { dst := some 118, op := Go.Op.call { callee := Go.Callee.value (Go.Operand.func 19), args := #[Go.Operand.tmp 115, Go.Operand.tmp 117], argTypes := #[27, 27] }, type := 4, pos := "more.go:25", after := #[{ on := 21, ground := Go.Ground.data }, { on := 23, ground := Go.Ground.data }, { on := 19, ground := Go.Ground.chain }, { on := 19, ground := Go.Ground.guard }], guard := some (19, true) }, { dst := some 119, op := Go.Op.pick (Go.Operand.tmp 113) (Go.Operand.tmp 118) (Go.Operand.const (Go.Value.bool false)), type := 4, pos := "more.go:25", after := #[{ on := 19, ground := Go.Ground.data }, { on := 24, ground := Go.Ground.data }], guard := none }, { dst := some 120, op := Go.Op.move (Go.Operand.tmp 119), type := 4, pos := "more.go:25", after := #[{ on := 25, ground := Go.Ground.data }, { on := 24, ground := Go.Ground.chain }], guard := none }, { dst := some 121, op := Go.Op.call { callee := Go.Callee.value (Go.Operand.func 24), args := #[], argTypes := #[] }, type := 4, pos := "more.go:25", after := #[{ on := 26, ground := Go.Ground.chain }, { on := 26, ground := Go.Ground.guard }], guard := some (26, true) }, { dst := some 122, op := Go.Op.pick (Go.Operand.tmp 120) (Go.Operand.tmp 121) (Go.Operand.const (Go.Value.bool false)), type := 4, pos := "more.go:25", after := #[{ on := 26, ground := Go.Ground.data }, { on := 27, ground := Go.Ground.data }], guard := none }, { dst := some 4, op := Go.Op.assign (Go.Operand.tmp 122), type := 4, pos := "more.go:25", after := #[{ on := 28, ground := Go.Ground.data }, { on := 27, ground := Go.Ground.chain }, { on := 0, ground := Go.Ground.phase }, { on := 1, ground := Go.Ground.phase }, { on := 2, ground := Go.Ground.phase }, { on := 3, ground := Go.Ground.phase }, { on := 4, ground := Go.Ground.phase }, { on := 5, ground := Go.Ground.phase }, { on := 6, ground := Go.Ground.phase }, { on := 7, ground := Go.Ground.phase }, { on := 8, ground := Go.Ground.phase }, { on := 9, ground := Go.Ground.phase }, { on := 10, ground := Go.Ground.phase }, { on := 11, ground := Go.Ground.phase }, { on := 12, ground := Go.Ground.phase }, { on := 13, ground := Go.Ground.phase }, { on := 14, ground := Go.Ground.phase }, { on := 15, ground := Go.Ground.phase }, { on := 16, ground := Go.Ground.phase }, { on := 17, ground := Go.Ground.phase }, { on := 18, ground := Go.Ground.phase }, { on := 19, ground := Go.Ground.phase }, { on := 20, ground := Go.Ground.phase }, { on := 21, ground := Go.Ground.phase }, { on := 22, ground := Go.Ground.phase }, { on := 23, ground := Go.Ground.phase }, { on := 24, ground := Go.Ground.phase }, { on := 25, ground := Go.Ground.phase }, { on := 26, ground := Go.Ground.phase }, { on := 27, ground := Go.Ground.phase }, { on := 28, ground := Go.Ground.phase }], guard := none }]
/-- The frame: what stood there, and what has come up. -/
def peF (f v : Nat → Value) : Act := ⟨List.toArray (f 0 :: f 1 :: f 2 :: f 3 :: v 29 :: f 5 :: f 6 :: f 7 :: f 8 :: f 9 :: f 10 :: f 11 :: f 12 :: f 13 :: f 14 :: f 15 :: f 16 :: f 17 :: f 18 :: f 19 :: f 20 :: f 21 :: f 22 :: f 23 :: f 24 :: f 25 :: f 26 :: f 27 :: f 28 :: f 29 :: f 30 :: f 31 :: f 32 :: f 33 :: f 34 :: f 35 :: f 36 :: f 37 :: f 38 :: f 39 :: f 40 :: f 41 :: f 42 :: f 43 :: f 44 :: f 45 :: f 46 :: f 47 :: f 48 :: f 49 :: f 50 :: f 51 :: f 52 :: f 53 :: f 54 :: f 55 :: f 56 :: f 57 :: f 58 :: f 59 :: f 60 :: f 61 :: f 62 :: f 63 :: f 64 :: f 65 :: f 66 :: f 67 :: f 68 :: f 69 :: f 70 :: f 71 :: f 72 :: f 73 :: f 74 :: f 75 :: f 76 :: f 77 :: f 78 :: f 79 :: f 80 :: f 81 :: f 82 :: f 83 :: f 84 :: f 85 :: f 86 :: f 87 :: f 88 :: f 89 :: f 90 :: f 91 :: f 92 :: f 93 :: v 0 :: v 1 :: v 2 :: v 3 :: v 4 :: v 5 :: v 6 :: v 7 :: v 8 :: v 9 :: v 10 :: v 11 :: v 12 :: v 13 :: v 14 :: v 15 :: v 16 :: v 17 :: v 18 :: v 19 :: v 20 :: v 21 :: v 22 :: v 23 :: v 24 :: v 25 :: v 26 :: v 27 :: v 28 :: []), []⟩
theorem peback : ∀ (i : Nat) (o : Oper), peops[i]? = some o → ∀ e ∈ o.after, Region.binds .any e = true → e.on < i := by
  have h : (List.range peops.size).all (fun i => (peops[i]?.map fun o => o.after.toList.all fun e => decide (e.on < i)).getD true) = true := by decide +kernel
  intro i o ho e he _
  have hi : i < peops.size := (Array.getElem?_eq_some_iff.1 ho).1
  have := List.all_eq_true.1 h i (List.mem_range.2 hi)
  rw [ho] at this
  simp only [Option.map_some, Option.getD_some] at this
  have := List.all_eq_true.1 this e (by simpa using he)
  simpa using this
theorem peat {i : Nat} {o : Oper} (h : peops[i]? = some o) : i < 30 := (Array.getElem?_eq_some_iff.1 h).1
theorem peput (f : Nat → Value) : ∀ (i : Nat) (o : Oper), peops[i]? = some o → ∀ v u, (peF f v).put o.dst u = peF f (setAt v i u) := by
  intro i o ho v u
  have hi := peat ho
  match i, hi with
  | 0, _ => cases ho; rfl
  | 1, _ => cases ho; rfl
  | 2, _ => cases ho; rfl
  | 3, _ => cases ho; rfl
  | 4, _ => cases ho; rfl
  | 5, _ => cases ho; rfl
  | 6, _ => cases ho; rfl
  | 7, _ => cases ho; rfl
  | 8, _ => cases ho; rfl
  | 9, _ => cases ho; rfl
  | 10, _ => cases ho; rfl
  | 11, _ => cases ho; rfl
  | 12, _ => cases ho; rfl
  | 13, _ => cases ho; rfl
  | 14, _ => cases ho; rfl
  | 15, _ => cases ho; rfl
  | 16, _ => cases ho; rfl
  | 17, _ => cases ho; rfl
  | 18, _ => cases ho; rfl
  | 19, _ => cases ho; rfl
  | 20, _ => cases ho; rfl
  | 21, _ => cases ho; rfl
  | 22, _ => cases ho; rfl
  | 23, _ => cases ho; rfl
  | 24, _ => cases ho; rfl
  | 25, _ => cases ho; rfl
  | 26, _ => cases ho; rfl
  | 27, _ => cases ho; rfl
  | 28, _ => cases ho; rfl
  | 29, _ => cases ho; rfl

/-- What each operation leaves. -/
def peJ (g xn xc gA gC : Nat) (k s : Int) (da a9 a13 : Option Addr) (dn dc n9 c9 n13 c13 : Nat) : Nat → Value → World → Prop
  | 0, v, w => v = .slice (some ⟨g, 0, none⟩) xn xc
  | 1, v, w => v = .pointer (some ⟨g, 0, none⟩)
  | 2, v, w => v = .int .u8 k
  | 3, v, w => v = .int .i64 k
  | 4, v, w => v = .pointer (some ⟨gA, 0, none⟩)
  | 5, v, w => v = .int .i64 k
  | 6, v, w => v = .bool true
  | 7, v, w => v = .bool true
  | 8, v, w => v = .int .i64 s
  | 9, v, w => v = .pointer (some ⟨gA, 1, none⟩)
  | 10, v, w => v = .int .i64 s
  | 11, v, w => v = .bool true
  | 12, v, w => v = .bool true
  | 13, v, w => v = .bool true
  | 14, v, w => v = .slice (some ⟨g, 0, none⟩) xn xc
  | 15, v, w => v = .slice a9 n9 c9
  | 16, v, w => v = .slice (some ⟨gC, 0, none⟩) 4 4
  | 17, v, w => v = .bool true
  | 18, v, w => v = .bool true
  | 19, v, w => v = .bool true
  | 20, v, w => v = .slice (some ⟨g, 0, none⟩) xn xc
  | 21, v, w => v = .slice a13 n13 c13
  | 22, v, w => v = .pointer (some ⟨gA, 2, none⟩)
  | 23, v, w => v = .slice da dn dc
  | 24, v, w => v = .bool true
  | 25, v, w => v = .bool true
  | 26, v, w => v = .bool true
  | 27, v, w => v = .bool true
  | 28, v, w => v = .bool true
  | _, v, w => v = .bool true
theorem pemono {g xn xc gA gC : Nat} {k s : Int} {da a9 a13 : Option Addr} {dn dc n9 c9 n13 c13 : Nat} (j : Nat) (v : Value) (w w' : World) (hB : Below w.heap.size w w') (h : peJ g xn xc gA gC k s da a9 a13 dn dc n9 c9 n13 c13 j v w) : peJ g xn xc gA gC k s da a9 a13 dn dc n9 c9 n13 c13 j v w' := by
  unfold peJ at h ⊢
  split at h <;> first | exact h | (obtain ⟨g, h1, h2⟩ := h; exact ⟨g, h1, h2.below hB⟩)
/-- What is known ahead of it. -/
structure peK (f : Nat → Value) (w0 : World) (g xn xc gA gC : Nat) (k s : Int) (da a9 a13 : Option Addr) (dn dc n9 c9 n13 c13 : Nat) : Prop where
  t : Tab w0
  f2 : f 2 = .pointer (some ⟨gA, 0, none⟩)
  f5 : f 5 = .slice (some ⟨g, 0, none⟩) xn xc
  f9 : f 9 = .pointer (some ⟨gC, 0, none⟩)
  f10 : f 10 = .int .i64 s
  a0 : ∀ w, Below w0.heap.size w0 w → w.cell? ⟨gA, 0, none⟩ = some (.int .i64 k)
  a1 : ∀ w, Below w0.heap.size w0 w → w.cell? ⟨gA, 1, none⟩ = some (.int .i64 s)
  a2 : ∀ w, Below w0.heap.size w0 w → w.cell? ⟨gA, 2, none⟩ = some (.slice da dn dc)
  c0 : ∀ w, Below w0.heap.size w0 w → w.cell? ⟨g, 0, none⟩ = some (.int .u8 k)
  bk : 0 ≤ k ∧ k ≤ 255
  n : 13 ≤ xn
  m : xn ≤ 100000
  s1 : ∀ V, (Instr.slice 27 (.slice (some ⟨g, 0, none⟩) xn xc) (some (.int .i64 9)) (some (.int .i64 13)) none).run Tryd.prog V = .ok (.slice a9 n9 c9) V
  s2 : ∀ V, (Instr.slice 27 (.slice (some ⟨g, 0, none⟩) xn xc) (some (.int .i64 13)) none none).run Tryd.prog V = .ok (.slice a13 n13 c13) V
  s3 : ∀ V, Sem.run Tryd.prog (Instr.sliceAt 51 (.pointer (some ⟨gC, 0, none⟩)) none none none) V = .ok (.slice (some ⟨gC, 0, none⟩) 4 4) V
  e17 : ∀ w, Below w0.heap.size w0 w → Calls Tryd.prog 19 #[.slice a9 n9 c9, .slice (some ⟨gC, 0, none⟩) 4 4] w fun e w' => e = .returned (.bool true) ∧ Below w.heap.size w w'
  e24 : ∀ w, Below w0.heap.size w0 w → Calls Tryd.prog 19 #[.slice a13 n13 c13, .slice da dn dc] w fun e w' => e = .returned (.bool true) ∧ Below w.heap.size w w'
def pePost (f : Nat → Value) (w0 : World) (g xn xc gA gC : Nat) (k s : Int) (da a9 a13 : Option Addr) (dn dc n9 c9 n13 c13 : Nat) (v : Nat → Value) (w : World) (i : Nat) (dst : Option Tmp) (a' : Act) (w' : World) : Prop :=
  ∃ u, a' = (peF f v).put dst u ∧ Below w0.heap.size w0 w' ∧ Below w.heap.size w w' ∧ peJ g xn xc gA gC k s da a9 a13 dn dc n9 c9 n13 c13 i u w'
set_option maxRecDepth 100000 in
set_option maxHeartbeats 2000000 in
theorem pestep {f : Nat → Value} {w0 : World} {g xn xc gA gC : Nat} {k s : Int} {da a9 a13 : Option Addr} {dn dc n9 c9 n13 c13 : Nat} {Q : Exit → Act → World → Prop} (K : peK f w0 g xn xc gA gC k s da a9 a13 dn dc n9 c9 n13 c13) :
    ∀ (i : Nat) (o : Oper), peops[i]? = some o → ∀ v w, Below w0.heap.size w0 w → (∀ e ∈ o.after, Region.binds .any e = true → peJ g xn xc gA gC k s da a9 a13 dn dc n9 c9 n13 c13 e.on (v e.on) w) →
      wpOp Tryd.prog peops Q i (pePost f w0 g xn xc gA gC k s da a9 a13 dn dc n9 c9 n13 c13 v w i o.dst) (peF f v) w := by
  intro i o ho v w hS hd
  have hi := peat ho
  have hT := K.t.below hS
  match i, hi with
  | 0, _ =>
    replace ho : some ({ dst := some 94, op := Go.Op.move (Go.Operand.tmp 5), type := 27, pos := "more.go:25", after := #[], guard := none } : Oper) = some o := ho
    cases ho
    refine each_of (o := { dst := some 94, op := Go.Op.move (Go.Operand.tmp 5), type := 27, pos := "more.go:25", after := #[], guard := none }) rfl rfl ?_
    unfold peF
    rw [K.f5]
    go_simp
    exact ⟨_, by unfold peF; first | (rw [K.f5]; done) | (rw [K.f5]; rfl), hS, Below.refl _ _, rfl⟩
  | 1, _ =>
    replace ho : some ({ dst := some 95, op := Go.Op.indexAddr 27 (Go.Operand.tmp 94) (Go.Operand.const (Go.Value.int Go.IntKind.i64 0)), type := 0, pos := "more.go:25", after := #[{ on := 0, ground := Go.Ground.data }], guard := none } : Oper) = some o := ho
    cases ho
    have h0 : v 0 = .slice (some ⟨g, 0, none⟩) xn xc := hd ⟨0, .data⟩ (by simp) rfl
    have q1 := K.n
    have q2 := K.m
    have q3 : (0 : Int) < xn := by omega
    have q4 : 0 < xn := by omega
    refine each_of (o := { dst := some 95, op := Go.Op.indexAddr 27 (Go.Operand.tmp 94) (Go.Operand.const (Go.Value.int Go.IntKind.i64 0)), type := 0, pos := "more.go:25", after := #[{ on := 0, ground := Go.Ground.data }], guard := none }) rfl rfl ?_
    unfold peF
    rw [h0]
    go_simp
    exact ⟨_, by unfold peF; first | (rw [h0]; done) | (rw [h0]; rfl), hS, Below.refl _ _, rfl⟩
  | 2, _ =>
    replace ho : some ({ dst := some 96, op := Go.Op.load 5 (Go.Operand.tmp 95), type := 5, pos := "more.go:25", after := #[{ on := 1, ground := Go.Ground.data }], guard := none } : Oper) = some o := ho
    cases ho
    have h1 : v 1 = .pointer (some ⟨g, 0, none⟩) := hd ⟨1, .data⟩ (by simp) rfl
    have q1 := K.c0 w hS
    refine each_of (o := { dst := some 96, op := Go.Op.load 5 (Go.Operand.tmp 95), type := 5, pos := "more.go:25", after := #[{ on := 1, ground := Go.Ground.data }], guard := none }) rfl rfl ?_
    unfold peF
    rw [h1]
    go_simp
    exact ⟨_, by unfold peF; first | (rw [h1]; done) | (rw [h1]; rfl), hS, Below.refl _ _, rfl⟩
  | 3, _ =>
    replace ho : some ({ dst := some 97, op := Go.Op.convert 5 3 (Go.Operand.tmp 96), type := 3, pos := "more.go:25", after := #[{ on := 2, ground := Go.Ground.data }], guard := none } : Oper) = some o := ho
    cases ho
    have h2 : v 2 = .int .u8 k := hd ⟨2, .data⟩ (by simp) rfl
    obtain ⟨q1, q2⟩ := K.bk
    have q3 := i64w k (by omega) (by omega)
    refine each_of (o := { dst := some 97, op := Go.Op.convert 5 3 (Go.Operand.tmp 96), type := 3, pos := "more.go:25", after := #[{ on := 2, ground := Go.Ground.data }], guard := none }) rfl rfl ?_
    unfold peF
    rw [h2]
    go_simp
    exact ⟨_, by unfold peF; first | (rw [h2]; done) | (rw [h2]; rfl), hS, Below.refl _ _, rfl⟩
  | 4, _ =>
    replace ho : some ({ dst := some 98, op := Go.Op.fieldAddr 29 (Go.Operand.tmp 2) 0, type := 0, pos := "more.go:25", after := #[], guard := none } : Oper) = some o := ho
    cases ho
    refine each_of (o := { dst := some 98, op := Go.Op.fieldAddr 29 (Go.Operand.tmp 2) 0, type := 0, pos := "more.go:25", after := #[], guard := none }) rfl rfl ?_
    unfold peF
    rw [K.f2]
    go_simp
    exact ⟨_, by unfold peF; first | (rw [K.f2]; done) | (rw [K.f2]; rfl), hS, Below.refl _ _, rfl⟩
  | 5, _ =>
    replace ho : some ({ dst := some 99, op := Go.Op.load 3 (Go.Operand.tmp 98), type := 3, pos := "more.go:25", after := #[{ on := 4, ground := Go.Ground.data }], guard := none } : Oper) = some o := ho
    cases ho
    have h4 : v 4 = .pointer (some ⟨gA, 0, none⟩) := hd ⟨4, .data⟩ (by simp) rfl
    have q1 := K.a0 w hS
    refine each_of (o := { dst := some 99, op := Go.Op.load 3 (Go.Operand.tmp 98), type := 3, pos := "more.go:25", after := #[{ on := 4, ground := Go.Ground.data }], guard := none }) rfl rfl ?_
    unfold peF
    rw [h4]
    go_simp
    exact ⟨_, by unfold peF; first | (rw [h4]; done) | (rw [h4]; rfl), hS, Below.refl _ _, rfl⟩
  | 6, _ =>
    replace ho : some ({ dst := some 100, op := Go.Op.binOp Go.BinOp.eql 3 (Go.Operand.tmp 97) (Go.Operand.tmp 99) 3, type := 4, pos := "more.go:25", after := #[{ on := 3, ground := Go.Ground.data }, { on := 5, ground := Go.Ground.data }], guard := none } : Oper) = some o := ho
    cases ho
    have h3 : v 3 = .int .i64 k := hd ⟨3, .data⟩ (by simp) rfl
    have h5 : v 5 = .int .i64 k := hd ⟨5, .data⟩ (by simp) rfl
    refine each_of (o := { dst := some 100, op := Go.Op.binOp Go.BinOp.eql 3 (Go.Operand.tmp 97) (Go.Operand.tmp 99) 3, type := 4, pos := "more.go:25", after := #[{ on := 3, ground := Go.Ground.data }, { on := 5, ground := Go.Ground.data }], guard := none }) rfl rfl ?_
    unfold peF
    rw [h3, h5]
    go_simp
    exact ⟨_, by unfold peF; first | (rw [h3, h5]; done) | (rw [h3, h5]; rfl), hS, Below.refl _ _, rfl⟩
  | 7, _ =>
    replace ho : some ({ dst := some 101, op := Go.Op.move (Go.Operand.tmp 100), type := 4, pos := "more.go:25", after := #[{ on := 6, ground := Go.Ground.data }], guard := none } : Oper) = some o := ho
    cases ho
    have h6 : v 6 = .bool true := hd ⟨6, .data⟩ (by simp) rfl
    refine each_of (o := { dst := some 101, op := Go.Op.move (Go.Operand.tmp 100), type := 4, pos := "more.go:25", after := #[{ on := 6, ground := Go.Ground.data }], guard := none }) rfl rfl ?_
    unfold peF
    rw [h6]
    go_simp
    exact ⟨_, by unfold peF; first | (rw [h6]; done) | (rw [h6]; rfl), hS, Below.refl _ _, rfl⟩
  | 8, _ =>
    replace ho : some ({ dst := some 102, op := Go.Op.move (Go.Operand.tmp 10), type := 3, pos := "more.go:25", after := #[{ on := 7, ground := Go.Ground.guard }], guard := some (7, true) } : Oper) = some o := ho
    cases ho
    have h7 : v 7 = .bool true := hd ⟨7, .guard⟩ (by simp) rfl
    have hw : Region.wanted ({ dst := some 102, op := Go.Op.move (Go.Operand.tmp 10), type := 3, pos := "more.go:25", after := #[{ on := 7, ground := Go.Ground.guard }], guard := some (7, true) } : Oper) (yielded peops (peF f v).tmps) = true := by
      show ((match (some (v 7)) with | some (.bool b) => some b | _ => none) == some true) = true
      rw [h7]; rfl
    clear h7
    refine each_of (o := { dst := some 102, op := Go.Op.move (Go.Operand.tmp 10), type := 3, pos := "more.go:25", after := #[{ on := 7, ground := Go.Ground.guard }], guard := some (7, true) }) rfl hw ?_
    unfold peF
    rw [K.f10]
    go_simp
    exact ⟨_, by unfold peF; first | (rw [K.f10]; done) | (rw [K.f10]; rfl), hS, Below.refl _ _, rfl⟩
  | 9, _ =>
    replace ho : some ({ dst := some 103, op := Go.Op.fieldAddr 29 (Go.Operand.tmp 2) 1, type := 0, pos := "more.go:25", after := #[{ on := 7, ground := Go.Ground.guard }], guard := some (7, true) } : Oper) = some o := ho
    cases ho
    have h7 : v 7 = .bool true := hd ⟨7, .guard⟩ (by simp) rfl
    have hw : Region.wanted ({ dst := some 103, op := Go.Op.fieldAddr 29 (Go.Operand.tmp 2) 1, type := 0, pos := "more.go:25", after := #[{ on := 7, ground := Go.Ground.guard }], guard := some (7, true) } : Oper) (yielded peops (peF f v).tmps) = true := by
      show ((match (some (v 7)) with | some (.bool b) => some b | _ => none) == some true) = true
      rw [h7]; rfl
    clear h7
    refine each_of (o := { dst := some 103, op := Go.Op.fieldAddr 29 (Go.Operand.tmp 2) 1, type := 0, pos := "more.go:25", after := #[{ on := 7, ground := Go.Ground.guard }], guard := some (7, true) }) rfl hw ?_
    unfold peF
    rw [K.f2]
    go_simp
    exact ⟨_, by unfold peF; first | (rw [K.f2]; done) | (rw [K.f2]; rfl), hS, Below.refl _ _, rfl⟩
  | 10, _ =>
    replace ho : some ({ dst := some 104, op := Go.Op.load 3 (Go.Operand.tmp 103), type := 3, pos := "more.go:25", after := #[{ on := 9, ground := Go.Ground.data }, { on := 7, ground := Go.Ground.guard }], guard := some (7, true) } : Oper) = some o := ho
    cases ho
    have h7 : v 7 = .bool true := hd ⟨7, .guard⟩ (by simp) rfl
    have hw : Region.wanted ({ dst := some 104, op := Go.Op.load 3 (Go.Operand.tmp 103), type := 3, pos := "more.go:25", after := #[{ on := 9, ground := Go.Ground.data }, { on := 7, ground := Go.Ground.guard }], guard := some (7, true) } : Oper) (yielded peops (peF f v).tmps) = true := by
      show ((match (some (v 7)) with | some (.bool b) => some b | _ => none) == some true) = true
      rw [h7]; rfl
    clear h7
    have h9 : v 9 = .pointer (some ⟨gA, 1, none⟩) := hd ⟨9, .data⟩ (by simp) rfl
    have q1 := K.a1 w hS
    refine each_of (o := { dst := some 104, op := Go.Op.load 3 (Go.Operand.tmp 103), type := 3, pos := "more.go:25", after := #[{ on := 9, ground := Go.Ground.data }, { on := 7, ground := Go.Ground.guard }], guard := some (7, true) }) rfl hw ?_
    unfold peF
    rw [h9]
    go_simp
    exact ⟨_, by unfold peF; first | (rw [h9]; done) | (rw [h9]; rfl), hS, Below.refl _ _, rfl⟩
  | 11, _ =>
    replace ho : some ({ dst := some 105, op := Go.Op.binOp Go.BinOp.eql 3 (Go.Operand.tmp 102) (Go.Operand.tmp 104) 3, type := 4, pos := "more.go:25", after := #[{ on := 8, ground := Go.Ground.data }, { on := 10, ground := Go.Ground.data }, { on := 7, ground := Go.Ground.guard }], guard := some (7, true) } : Oper) = some o := ho
    cases ho
    have h7 : v 7 = .bool true := hd ⟨7, .guard⟩ (by simp) rfl
    have hw : Region.wanted ({ dst := some 105, op := Go.Op.binOp Go.BinOp.eql 3 (Go.Operand.tmp 102) (Go.Operand.tmp 104) 3, type := 4, pos := "more.go:25", after := #[{ on := 8, ground := Go.Ground.data }, { on := 10, ground := Go.Ground.data }, { on := 7, ground := Go.Ground.guard }], guard := some (7, true) } : Oper) (yielded peops (peF f v).tmps) = true := by
      show ((match (some (v 7)) with | some (.bool b) => some b | _ => none) == some true) = true
      rw [h7]; rfl
    clear h7
    have h8 : v 8 = .int .i64 s := hd ⟨8, .data⟩ (by simp) rfl
    have h10 : v 10 = .int .i64 s := hd ⟨10, .data⟩ (by simp) rfl
    refine each_of (o := { dst := some 105, op := Go.Op.binOp Go.BinOp.eql 3 (Go.Operand.tmp 102) (Go.Operand.tmp 104) 3, type := 4, pos := "more.go:25", after := #[{ on := 8, ground := Go.Ground.data }, { on := 10, ground := Go.Ground.data }, { on := 7, ground := Go.Ground.guard }], guard := some (7, true) }) rfl hw ?_
    unfold peF
    rw [h8, h10]
    go_simp
    exact ⟨_, by unfold peF; first | (rw [h8, h10]; done) | (rw [h8, h10]; rfl), hS, Below.refl _ _, rfl⟩
  | 12, _ =>
    replace ho : some ({ dst := some 106, op := Go.Op.pick (Go.Operand.tmp 101) (Go.Operand.tmp 105) (Go.Operand.const (Go.Value.bool false)), type := 4, pos := "more.go:25", after := #[{ on := 7, ground := Go.Ground.data }, { on := 11, ground := Go.Ground.data }], guard := none } : Oper) = some o := ho
    cases ho
    have h7 : v 7 = .bool true := hd ⟨7, .data⟩ (by simp) rfl
    have h11 : v 11 = .bool true := hd ⟨11, .data⟩ (by simp) rfl
    refine each_of (o := { dst := some 106, op := Go.Op.pick (Go.Operand.tmp 101) (Go.Operand.tmp 105) (Go.Operand.const (Go.Value.bool false)), type := 4, pos := "more.go:25", after := #[{ on := 7, ground := Go.Ground.data }, { on := 11, ground := Go.Ground.data }], guard := none }) rfl rfl ?_
    unfold peF
    rw [h7, h11]
    go_simp
    exact ⟨_, by unfold peF; first | (rw [h7, h11]; done) | (rw [h7, h11]; rfl), hS, Below.refl _ _, rfl⟩
  | 13, _ =>
    replace ho : some ({ dst := some 107, op := Go.Op.move (Go.Operand.tmp 106), type := 4, pos := "more.go:25", after := #[{ on := 12, ground := Go.Ground.data }, { on := 7, ground := Go.Ground.chain }], guard := none } : Oper) = some o := ho
    cases ho
    have h12 : v 12 = .bool true := hd ⟨12, .data⟩ (by simp) rfl
    refine each_of (o := { dst := some 107, op := Go.Op.move (Go.Operand.tmp 106), type := 4, pos := "more.go:25", after := #[{ on := 12, ground := Go.Ground.data }, { on := 7, ground := Go.Ground.chain }], guard := none }) rfl rfl ?_
    unfold peF
    rw [h12]
    go_simp
    exact ⟨_, by unfold peF; first | (rw [h12]; done) | (rw [h12]; rfl), hS, Below.refl _ _, rfl⟩
  | 14, _ =>
    replace ho : some ({ dst := some 108, op := Go.Op.move (Go.Operand.tmp 5), type := 27, pos := "more.go:25", after := #[{ on := 13, ground := Go.Ground.guard }], guard := some (13, true) } : Oper) = some o := ho
    cases ho
    have h13 : v 13 = .bool true := hd ⟨13, .guard⟩ (by simp) rfl
    have hw : Region.wanted ({ dst := some 108, op := Go.Op.move (Go.Operand.tmp 5), type := 27, pos := "more.go:25", after := #[{ on := 13, ground := Go.Ground.guard }], guard := some (13, true) } : Oper) (yielded peops (peF f v).tmps) = true := by
      show ((match (some (v 13)) with | some (.bool b) => some b | _ => none) == some true) = true
      rw [h13]; rfl
    clear h13
    refine each_of (o := { dst := some 108, op := Go.Op.move (Go.Operand.tmp 5), type := 27, pos := "more.go:25", after := #[{ on := 13, ground := Go.Ground.guard }], guard := some (13, true) }) rfl hw ?_
    unfold peF
    rw [K.f5]
    go_simp
    exact ⟨_, by unfold peF; first | (rw [K.f5]; done) | (rw [K.f5]; rfl), hS, Below.refl _ _, rfl⟩
  | 15, _ =>
    replace ho : some ({ dst := some 109, op := Go.Op.slice 27 (Go.Operand.tmp 108) (some (Go.Operand.const (Go.Value.int Go.IntKind.i64 9))) (some (Go.Operand.const (Go.Value.int Go.IntKind.i64 13))) none, type := 27, pos := "more.go:25", after := #[{ on := 14, ground := Go.Ground.data }, { on := 13, ground := Go.Ground.guard }], guard := some (13, true) } : Oper) = some o := ho
    cases ho
    have h13 : v 13 = .bool true := hd ⟨13, .guard⟩ (by simp) rfl
    have hw : Region.wanted ({ dst := some 109, op := Go.Op.slice 27 (Go.Operand.tmp 108) (some (Go.Operand.const (Go.Value.int Go.IntKind.i64 9))) (some (Go.Operand.const (Go.Value.int Go.IntKind.i64 13))) none, type := 27, pos := "more.go:25", after := #[{ on := 14, ground := Go.Ground.data }, { on := 13, ground := Go.Ground.guard }], guard := some (13, true) } : Oper) (yielded peops (peF f v).tmps) = true := by
      show ((match (some (v 13)) with | some (.bool b) => some b | _ => none) == some true) = true
      rw [h13]; rfl
    clear h13
    have h14 : v 14 = .slice (some ⟨g, 0, none⟩) xn xc := hd ⟨14, .data⟩ (by simp) rfl
    have q1 := K.s1
    refine each_of (o := { dst := some 109, op := Go.Op.slice 27 (Go.Operand.tmp 108) (some (Go.Operand.const (Go.Value.int Go.IntKind.i64 9))) (some (Go.Operand.const (Go.Value.int Go.IntKind.i64 13))) none, type := 27, pos := "more.go:25", after := #[{ on := 14, ground := Go.Ground.data }, { on := 13, ground := Go.Ground.guard }], guard := some (13, true) }) rfl hw ?_
    unfold peF
    rw [h14]
    go_simp
    exact ⟨_, by unfold peF; first | (rw [h14]; done) | (rw [h14]; rfl), hS, Below.refl _ _, rfl⟩
  | 16, _ =>
    replace ho : some ({ dst := some 110, op := Go.Op.slice 51 (Go.Operand.tmp 9) none none none, type := 27, pos := "more.go:25", after := #[{ on := 13, ground := Go.Ground.guard }], guard := some (13, true) } : Oper) = some o := ho
    cases ho
    have h13 : v 13 = .bool true := hd ⟨13, .guard⟩ (by simp) rfl
    have hw : Region.wanted ({ dst := some 110, op := Go.Op.slice 51 (Go.Operand.tmp 9) none none none, type := 27, pos := "more.go:25", after := #[{ on := 13, ground := Go.Ground.guard }], guard := some (13, true) } : Oper) (yielded peops (peF f v).tmps) = true := by
      show ((match (some (v 13)) with | some (.bool b) => some b | _ => none) == some true) = true
      rw [h13]; rfl
    clear h13
    have q1 := K.s3
    refine each_of (o := { dst := some 110, op := Go.Op.slice 51 (Go.Operand.tmp 9) none none none, type := 27, pos := "more.go:25", after := #[{ on := 13, ground := Go.Ground.guard }], guard := some (13, true) }) rfl hw ?_
    unfold peF
    rw [K.f9]
    go_simp
    exact ⟨_, by unfold peF; first | (rw [K.f9]; done) | (rw [K.f9]; rfl), hS, Below.refl _ _, rfl⟩
  | 17, _ =>
    replace ho : some ({ dst := some 111, op := Go.Op.call { callee := Go.Callee.value (Go.Operand.func 19), args := #[Go.Operand.tmp 109, Go.Operand.tmp 110], argTypes := #[27, 27] }, type := 4, pos := "more.go:25", after := #[{ on := 15, ground := Go.Ground.data }, { on := 16, ground := Go.Ground.data }, { on := 13, ground := Go.Ground.chain }, { on := 13, ground := Go.Ground.guard }], guard := some (13, true) } : Oper) = some o := ho
    cases ho
    have h13 : v 13 = .bool true := hd ⟨13, .chain⟩ (by simp) rfl
    have hw : Region.wanted ({ dst := some 111, op := Go.Op.call { callee := Go.Callee.value (Go.Operand.func 19), args := #[Go.Operand.tmp 109, Go.Operand.tmp 110], argTypes := #[27, 27] }, type := 4, pos := "more.go:25", after := #[{ on := 15, ground := Go.Ground.data }, { on := 16, ground := Go.Ground.data }, { on := 13, ground := Go.Ground.chain }, { on := 13, ground := Go.Ground.guard }], guard := some (13, true) } : Oper) (yielded peops (peF f v).tmps) = true := by
      show ((match (some (v 13)) with | some (.bool b) => some b | _ => none) == some true) = true
      rw [h13]; rfl
    clear h13
    have h15 : v 15 = .slice a9 n9 c9 := hd ⟨15, .data⟩ (by simp) rfl
    have h16 : v 16 = .slice (some ⟨gC, 0, none⟩) 4 4 := hd ⟨16, .data⟩ (by simp) rfl
    refine each_of (o := { dst := some 111, op := Go.Op.call { callee := Go.Callee.value (Go.Operand.func 19), args := #[Go.Operand.tmp 109, Go.Operand.tmp 110], argTypes := #[27, 27] }, type := 4, pos := "more.go:25", after := #[{ on := 15, ground := Go.Ground.data }, { on := 16, ground := Go.Ground.data }, { on := 13, ground := Go.Ground.chain }, { on := 13, ground := Go.Ground.guard }], guard := some (13, true) }) rfl hw ?_
    unfold peF
    rw [h15, h16]
    go_simp
    refine (K.e17 w hS).mono ?_
    rintro e w' ⟨rfl, hB⟩
    exact ⟨_, by unfold peF; first | (rw [h15, h16]; done) | (rw [h15, h16]; rfl), hS.trans (hB.mono hS.size), hB, rfl⟩
  | 18, _ =>
    replace ho : some ({ dst := some 112, op := Go.Op.pick (Go.Operand.tmp 107) (Go.Operand.tmp 111) (Go.Operand.const (Go.Value.bool false)), type := 4, pos := "more.go:25", after := #[{ on := 13, ground := Go.Ground.data }, { on := 17, ground := Go.Ground.data }], guard := none } : Oper) = some o := ho
    cases ho
    have h13 : v 13 = .bool true := hd ⟨13, .data⟩ (by simp) rfl
    have h17 : v 17 = .bool true := hd ⟨17, .data⟩ (by simp) rfl
    refine each_of (o := { dst := some 112, op := Go.Op.pick (Go.Operand.tmp 107) (Go.Operand.tmp 111) (Go.Operand.const (Go.Value.bool false)), type := 4, pos := "more.go:25", after := #[{ on := 13, ground := Go.Ground.data }, { on := 17, ground := Go.Ground.data }], guard := none }) rfl rfl ?_
    unfold peF
    rw [h13, h17]
    go_simp
    exact ⟨_, by unfold peF; first | (rw [h13, h17]; done) | (rw [h13, h17]; rfl), hS, Below.refl _ _, rfl⟩
  | 19, _ =>
    replace ho : some ({ dst := some 113, op := Go.Op.move (Go.Operand.tmp 112), type := 4, pos := "more.go:25", after := #[{ on := 18, ground := Go.Ground.data }, { on := 17, ground := Go.Ground.chain }], guard := none } : Oper) = some o := ho
    cases ho
    have h18 : v 18 = .bool true := hd ⟨18, .data⟩ (by simp) rfl
    refine each_of (o := { dst := some 113, op := Go.Op.move (Go.Operand.tmp 112), type := 4, pos := "more.go:25", after := #[{ on := 18, ground := Go.Ground.data }, { on := 17, ground := Go.Ground.chain }], guard := none }) rfl rfl ?_
    unfold peF
    rw [h18]
    go_simp
    exact ⟨_, by unfold peF; first | (rw [h18]; done) | (rw [h18]; rfl), hS, Below.refl _ _, rfl⟩
  | 20, _ =>
    replace ho : some ({ dst := some 114, op := Go.Op.move (Go.Operand.tmp 5), type := 27, pos := "more.go:25", after := #[{ on := 19, ground := Go.Ground.guard }], guard := some (19, true) } : Oper) = some o := ho
    cases ho
    have h19 : v 19 = .bool true := hd ⟨19, .guard⟩ (by simp) rfl
    have hw : Region.wanted ({ dst := some 114, op := Go.Op.move (Go.Operand.tmp 5), type := 27, pos := "more.go:25", after := #[{ on := 19, ground := Go.Ground.guard }], guard := some (19, true) } : Oper) (yielded peops (peF f v).tmps) = true := by
      show ((match (some (v 19)) with | some (.bool b) => some b | _ => none) == some true) = true
      rw [h19]; rfl
    clear h19
    refine each_of (o := { dst := some 114, op := Go.Op.move (Go.Operand.tmp 5), type := 27, pos := "more.go:25", after := #[{ on := 19, ground := Go.Ground.guard }], guard := some (19, true) }) rfl hw ?_
    unfold peF
    rw [K.f5]
    go_simp
    exact ⟨_, by unfold peF; first | (rw [K.f5]; done) | (rw [K.f5]; rfl), hS, Below.refl _ _, rfl⟩
  | 21, _ =>
    replace ho : some ({ dst := some 115, op := Go.Op.slice 27 (Go.Operand.tmp 114) (some (Go.Operand.const (Go.Value.int Go.IntKind.i64 13))) none none, type := 27, pos := "more.go:25", after := #[{ on := 20, ground := Go.Ground.data }, { on := 19, ground := Go.Ground.guard }], guard := some (19, true) } : Oper) = some o := ho
    cases ho
    have h19 : v 19 = .bool true := hd ⟨19, .guard⟩ (by simp) rfl
    have hw : Region.wanted ({ dst := some 115, op := Go.Op.slice 27 (Go.Operand.tmp 114) (some (Go.Operand.const (Go.Value.int Go.IntKind.i64 13))) none none, type := 27, pos := "more.go:25", after := #[{ on := 20, ground := Go.Ground.data }, { on := 19, ground := Go.Ground.guard }], guard := some (19, true) } : Oper) (yielded peops (peF f v).tmps) = true := by
      show ((match (some (v 19)) with | some (.bool b) => some b | _ => none) == some true) = true
      rw [h19]; rfl
    clear h19
    have h20 : v 20 = .slice (some ⟨g, 0, none⟩) xn xc := hd ⟨20, .data⟩ (by simp) rfl
    have q1 := K.s2
    refine each_of (o := { dst := some 115, op := Go.Op.slice 27 (Go.Operand.tmp 114) (some (Go.Operand.const (Go.Value.int Go.IntKind.i64 13))) none none, type := 27, pos := "more.go:25", after := #[{ on := 20, ground := Go.Ground.data }, { on := 19, ground := Go.Ground.guard }], guard := some (19, true) }) rfl hw ?_
    unfold peF
    rw [h20]
    go_simp
    exact ⟨_, by unfold peF; first | (rw [h20]; done) | (rw [h20]; rfl), hS, Below.refl _ _, rfl⟩
  | 22, _ =>
    replace ho : some ({ dst := some 116, op := Go.Op.fieldAddr 29 (Go.Operand.tmp 2) 2, type := 0, pos := "more.go:25", after := #[{ on := 19, ground := Go.Ground.guard }], guard := some (19, true) } : Oper) = some o := ho
    cases ho
    have h19 : v 19 = .bool true := hd ⟨19, .guard⟩ (by simp) rfl
    have hw : Region.wanted ({ dst := some 116, op := Go.Op.fieldAddr 29 (Go.Operand.tmp 2) 2, type := 0, pos := "more.go:25", after := #[{ on := 19, ground := Go.Ground.guard }], guard := some (19, true) } : Oper) (yielded peops (peF f v).tmps) = true := by
      show ((match (some (v 19)) with | some (.bool b) => some b | _ => none) == some true) = true
      rw [h19]; rfl
    clear h19
    refine each_of (o := { dst := some 116, op := Go.Op.fieldAddr 29 (Go.Operand.tmp 2) 2, type := 0, pos := "more.go:25", after := #[{ on := 19, ground := Go.Ground.guard }], guard := some (19, true) }) rfl hw ?_
    unfold peF
    rw [K.f2]
    go_simp
    exact ⟨_, by unfold peF; first | (rw [K.f2]; done) | (rw [K.f2]; rfl), hS, Below.refl _ _, rfl⟩
  | 23, _ =>
    replace ho : some ({ dst := some 117, op := Go.Op.load 27 (Go.Operand.tmp 116), type := 27, pos := "more.go:25", after := #[{ on := 22, ground := Go.Ground.data }, { on := 19, ground := Go.Ground.guard }], guard := some (19, true) } : Oper) = some o := ho
    cases ho
    have h19 : v 19 = .bool true := hd ⟨19, .guard⟩ (by simp) rfl
    have hw : Region.wanted ({ dst := some 117, op := Go.Op.load 27 (Go.Operand.tmp 116), type := 27, pos := "more.go:25", after := #[{ on := 22, ground := Go.Ground.data }, { on := 19, ground := Go.Ground.guard }], guard := some (19, true) } : Oper) (yielded peops (peF f v).tmps) = true := by
      show ((match (some (v 19)) with | some (.bool b) => some b | _ => none) == some true) = true
      rw [h19]; rfl
    clear h19
    have h22 : v 22 = .pointer (some ⟨gA, 2, none⟩) := hd ⟨22, .data⟩ (by simp) rfl
    have q1 := K.a2 w hS
    refine each_of (o := { dst := some 117, op := Go.Op.load 27 (Go.Operand.tmp 116), type := 27, pos := "more.go:25", after := #[{ on := 22, ground := Go.Ground.data }, { on := 19, ground := Go.Ground.guard }], guard := some (19, true) }) rfl hw ?_
    unfold peF
    rw [h22]
    go_simp
    exact ⟨_, by unfold peF; first | (rw [h22]; done) | (rw [h22]; rfl), hS, Below.refl _ _, rfl⟩
  | 24, _ =>
    replace ho : some ({ dst := some 118, op := Go.Op.call { callee := Go.Callee.value (Go.Operand.func 19), args := #[Go.Operand.tmp 115, Go.Operand.tmp 117], argTypes := #[27, 27] }, type := 4, pos := "more.go:25", after := #[{ on := 21, ground := Go.Ground.data }, { on := 23, ground := Go.Ground.data }, { on := 19, ground := Go.Ground.chain }, { on := 19, ground := Go.Ground.guard }], guard := some (19, true) } : Oper) = some o := ho
    cases ho
    have h19 : v 19 = .bool true := hd ⟨19, .chain⟩ (by simp) rfl
    have hw : Region.wanted ({ dst := some 118, op := Go.Op.call { callee := Go.Callee.value (Go.Operand.func 19), args := #[Go.Operand.tmp 115, Go.Operand.tmp 117], argTypes := #[27, 27] }, type := 4, pos := "more.go:25", after := #[{ on := 21, ground := Go.Ground.data }, { on := 23, ground := Go.Ground.data }, { on := 19, ground := Go.Ground.chain }, { on := 19, ground := Go.Ground.guard }], guard := some (19, true) } : Oper) (yielded peops (peF f v).tmps) = true := by
      show ((match (some (v 19)) with | some (.bool b) => some b | _ => none) == some true) = true
      rw [h19]; rfl
    clear h19
    have h21 : v 21 = .slice a13 n13 c13 := hd ⟨21, .data⟩ (by simp) rfl
    have h23 : v 23 = .slice da dn dc := hd ⟨23, .data⟩ (by simp) rfl
    refine each_of (o := { dst := some 118, op := Go.Op.call { callee := Go.Callee.value (Go.Operand.func 19), args := #[Go.Operand.tmp 115, Go.Operand.tmp 117], argTypes := #[27, 27] }, type := 4, pos := "more.go:25", after := #[{ on := 21, ground := Go.Ground.data }, { on := 23, ground := Go.Ground.data }, { on := 19, ground := Go.Ground.chain }, { on := 19, ground := Go.Ground.guard }], guard := some (19, true) }) rfl hw ?_
    unfold peF
    rw [h21, h23]
    go_simp
    refine (K.e24 w hS).mono ?_
    rintro e w' ⟨rfl, hB⟩
    exact ⟨_, by unfold peF; first | (rw [h21, h23]; done) | (rw [h21, h23]; rfl), hS.trans (hB.mono hS.size), hB, rfl⟩
  | 25, _ =>
    replace ho : some ({ dst := some 119, op := Go.Op.pick (Go.Operand.tmp 113) (Go.Operand.tmp 118) (Go.Operand.const (Go.Value.bool false)), type := 4, pos := "more.go:25", after := #[{ on := 19, ground := Go.Ground.data }, { on := 24, ground := Go.Ground.data }], guard := none } : Oper) = some o := ho
    cases ho
    have h19 : v 19 = .bool true := hd ⟨19, .data⟩ (by simp) rfl
    have h24 : v 24 = .bool true := hd ⟨24, .data⟩ (by simp) rfl
    refine each_of (o := { dst := some 119, op := Go.Op.pick (Go.Operand.tmp 113) (Go.Operand.tmp 118) (Go.Operand.const (Go.Value.bool false)), type := 4, pos := "more.go:25", after := #[{ on := 19, ground := Go.Ground.data }, { on := 24, ground := Go.Ground.data }], guard := none }) rfl rfl ?_
    unfold peF
    rw [h19, h24]
    go_simp
    exact ⟨_, by unfold peF; first | (rw [h19, h24]; done) | (rw [h19, h24]; rfl), hS, Below.refl _ _, rfl⟩
  | 26, _ =>
    replace ho : some ({ dst := some 120, op := Go.Op.move (Go.Operand.tmp 119), type := 4, pos := "more.go:25", after := #[{ on := 25, ground := Go.Ground.data }, { on := 24, ground := Go.Ground.chain }], guard := none } : Oper) = some o := ho
    cases ho
    have h25 : v 25 = .bool true := hd ⟨25, .data⟩ (by simp) rfl
    refine each_of (o := { dst := some 120, op := Go.Op.move (Go.Operand.tmp 119), type := 4, pos := "more.go:25", after := #[{ on := 25, ground := Go.Ground.data }, { on := 24, ground := Go.Ground.chain }], guard := none }) rfl rfl ?_
    unfold peF
    rw [h25]
    go_simp
    exact ⟨_, by unfold peF; first | (rw [h25]; done) | (rw [h25]; rfl), hS, Below.refl _ _, rfl⟩
  | 27, _ =>
    replace ho : some ({ dst := some 121, op := Go.Op.call { callee := Go.Callee.value (Go.Operand.func 24), args := #[], argTypes := #[] }, type := 4, pos := "more.go:25", after := #[{ on := 26, ground := Go.Ground.chain }, { on := 26, ground := Go.Ground.guard }], guard := some (26, true) } : Oper) = some o := ho
    cases ho
    have h26 : v 26 = .bool true := hd ⟨26, .chain⟩ (by simp) rfl
    have hw : Region.wanted ({ dst := some 121, op := Go.Op.call { callee := Go.Callee.value (Go.Operand.func 24), args := #[], argTypes := #[] }, type := 4, pos := "more.go:25", after := #[{ on := 26, ground := Go.Ground.chain }, { on := 26, ground := Go.Ground.guard }], guard := some (26, true) } : Oper) (yielded peops (peF f v).tmps) = true := by
      show ((match (some (v 26)) with | some (.bool b) => some b | _ => none) == some true) = true
      rw [h26]; rfl
    clear h26
    refine each_of (o := { dst := some 121, op := Go.Op.call { callee := Go.Callee.value (Go.Operand.func 24), args := #[], argTypes := #[] }, type := 4, pos := "more.go:25", after := #[{ on := 26, ground := Go.Ground.chain }, { on := 26, ground := Go.Ground.guard }], guard := some (26, true) }) rfl hw ?_
    unfold peF
    go_simp
    refine (wakes06 w hT).mono ?_
    rintro e w' ⟨rfl, hB⟩
    exact ⟨_, by unfold peF; rfl, hS.trans (hB.mono hS.size), hB, rfl⟩
  | 28, _ =>
    replace ho : some ({ dst := some 122, op := Go.Op.pick (Go.Operand.tmp 120) (Go.Operand.tmp 121) (Go.Operand.const (Go.Value.bool false)), type := 4, pos := "more.go:25", after := #[{ on := 26, ground := Go.Ground.data }, { on := 27, ground := Go.Ground.data }], guard := none } : Oper) = some o := ho
    cases ho
    have h26 : v 26 = .bool true := hd ⟨26, .data⟩ (by simp) rfl
    have h27 : v 27 = .bool true := hd ⟨27, .data⟩ (by simp) rfl
    refine each_of (o := { dst := some 122, op := Go.Op.pick (Go.Operand.tmp 120) (Go.Operand.tmp 121) (Go.Operand.const (Go.Value.bool false)), type := 4, pos := "more.go:25", after := #[{ on := 26, ground := Go.Ground.data }, { on := 27, ground := Go.Ground.data }], guard := none }) rfl rfl ?_
    unfold peF
    rw [h26, h27]
    go_simp
    exact ⟨_, by unfold peF; first | (rw [h26, h27]; done) | (rw [h26, h27]; rfl), hS, Below.refl _ _, rfl⟩
  | 29, _ =>
    replace ho : some ({ dst := some 4, op := Go.Op.assign (Go.Operand.tmp 122), type := 4, pos := "more.go:25", after := #[{ on := 28, ground := Go.Ground.data }, { on := 27, ground := Go.Ground.chain }, { on := 0, ground := Go.Ground.phase }, { on := 1, ground := Go.Ground.phase }, { on := 2, ground := Go.Ground.phase }, { on := 3, ground := Go.Ground.phase }, { on := 4, ground := Go.Ground.phase }, { on := 5, ground := Go.Ground.phase }, { on := 6, ground := Go.Ground.phase }, { on := 7, ground := Go.Ground.phase }, { on := 8, ground := Go.Ground.phase }, { on := 9, ground := Go.Ground.phase }, { on := 10, ground := Go.Ground.phase }, { on := 11, ground := Go.Ground.phase }, { on := 12, ground := Go.Ground.phase }, { on := 13, ground := Go.Ground.phase }, { on := 14, ground := Go.Ground.phase }, { on := 15, ground := Go.Ground.phase }, { on := 16, ground := Go.Ground.phase }, { on := 17, ground := Go.Ground.phase }, { on := 18, ground := Go.Ground.phase }, { on := 19, ground := Go.Ground.phase }, { on := 20, ground := Go.Ground.phase }, { on := 21, ground := Go.Ground.phase }, { on := 22, ground := Go.Ground.phase }, { on := 23, ground := Go.Ground.phase }, { on := 24, ground := Go.Ground.phase }, { on := 25, ground := Go.Ground.phase }, { on := 26, ground := Go.Ground.phase }, { on := 27, ground := Go.Ground.phase }, { on := 28, ground := Go.Ground.phase }], guard := none } : Oper) = some o := ho
    cases ho
    have h28 : v 28 = .bool true := hd ⟨28, .data⟩ (by simp) rfl
    refine each_of (o := { dst := some 4, op := Go.Op.assign (Go.Operand.tmp 122), type := 4, pos := "more.go:25", after := #[{ on := 28, ground := Go.Ground.data }, { on := 27, ground := Go.Ground.chain }, { on := 0, ground := Go.Ground.phase }, { on := 1, ground := Go.Ground.phase }, { on := 2, ground := Go.Ground.phase }, { on := 3, ground := Go.Ground.phase }, { on := 4, ground := Go.Ground.phase }, { on := 5, ground := Go.Ground.phase }, { on := 6, ground := Go.Ground.phase }, { on := 7, ground := Go.Ground.phase }, { on := 8, ground := Go.Ground.phase }, { on := 9, ground := Go.Ground.phase }, { on := 10, ground := Go.Ground.phase }, { on := 11, ground := Go.Ground.phase }, { on := 12, ground := Go.Ground.phase }, { on := 13, ground := Go.Ground.phase }, { on := 14, ground := Go.Ground.phase }, { on := 15, ground := Go.Ground.phase }, { on := 16, ground := Go.Ground.phase }, { on := 17, ground := Go.Ground.phase }, { on := 18, ground := Go.Ground.phase }, { on := 19, ground := Go.Ground.phase }, { on := 20, ground := Go.Ground.phase }, { on := 21, ground := Go.Ground.phase }, { on := 22, ground := Go.Ground.phase }, { on := 23, ground := Go.Ground.phase }, { on := 24, ground := Go.Ground.phase }, { on := 25, ground := Go.Ground.phase }, { on := 26, ground := Go.Ground.phase }, { on := 27, ground := Go.Ground.phase }, { on := 28, ground := Go.Ground.phase }], guard := none }) rfl rfl ?_
    unfold peF
    rw [h28]
    go_simp
    exact ⟨_, by unfold peF; first | (rw [h28]; done) | (rw [h28]; rfl), hS, Below.refl _ _, rfl⟩

/-- THE STATEMENT, in whatever order. -/
theorem peend {f v0 : Nat → Value} {w0 : World} {g xn xc gA gC : Nat} {k s : Int} {da a9 a13 : Option Addr} {dn dc n9 c9 n13 c13 : Nat} {Q : Exit → Act → World → Prop} (K : peK f w0 g xn xc gA gC k s da a9 a13 dn dc n9 c9 n13 c13)
    (hQ : ∀ v w, Below w0.heap.size w0 w → v 29 = .bool true → Q .normal (peF f v) w) : (Code.region 11 peops true).wp Tryd.prog Q (peF f v0) w0 :=
  wp_region_each (F := peF f) (S := fun w => Below w0.heap.size w0 w) (J := peJ g xn xc gA gC k s da a9 a13 dn dc n9 c9 n13 c13) (R := fun w w' => Below w.heap.size w w') (by kernel_rfl) peback (peput f) pemono
    (pestep K) (fun v w hS hJ => hQ v w hS (hJ 29 (by decide))) v0 ((Below.refl _ _).drew)
theorem pebegin {A0 : Act} {w0 : World} {g xn xc gA gC : Nat} {k s : Int} {da a9 a13 : Option Addr} {dn dc n9 c9 n13 c13 : Nat} {Q : Exit → Act → World → Prop} (hA : A0 = peF (fun i => A0.tmps.getD i undef) (fun i => A0.tmps.getD (if i = 0 then 94 else if i = 1 then 95 else if i = 2 then 96 else if i = 3 then 97 else if i = 4 then 98 else if i = 5 then 99 else if i = 6 then 100 else if i = 7 then 101 else if i = 8 then 102 else if i = 9 then 103 else if i = 10 then 104 else if i = 11 then 105 else if i = 12 then 106 else if i = 13 then 107 else if i = 14 then 108 else if i = 15 then 109 else if i = 16 then 110 else if i = 17 then 111 else if i = 18 then 112 else if i = 19 then 113 else if i = 20 then 114 else if i = 21 then 115 else if i = 22 then 116 else if i = 23 then 117 else if i = 24 then 118 else if i = 25 then 119 else if i = 26 then 120 else if i = 27 then 121 else if i = 28 then 122 else if i = 29 then 4 else 0) undef))
    (K : peK (fun i => A0.tmps.getD i undef) w0 g xn xc gA gC k s da a9 a13 dn dc n9 c9 n13 c13) (hQ : ∀ v w, Below w0.heap.size w0 w → v 29 = .bool true → Q .normal (peF (fun i => A0.tmps.getD i undef) v) w) : (Code.region 11 peops true).wp Tryd.prog Q A0 w0 := by
  rw [hA]
  exact peend K hQ
end Go.Proofs.YtmbkgjiofkggcaaDoor
