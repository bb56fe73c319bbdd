/-
  FrameParts: its test of the bytes and the records, in whatever order.
-/
import Derived.Test.YtmbkgjiofkggcaaDoorFP0
namespace Go.Proofs.YtmbkgjiofkggcaaDoor
open Go.RowKit
set_option linter.unusedVariables false
/-- Its operations. -/
def pgops : Array Oper := #[{ dst := some 50, op := Go.Op.move (Go.Operand.tmp 5), type := 27, pos := "more.go:20", after := #[], guard := none }, { dst := some 51, op := Go.Op.call { callee := Go.Callee.builtin Go.Builtin.len, args := #[Go.Operand.tmp 50], argTypes := #[27] }, type := 3, pos := "more.go:20", after := #[{ on := 0, ground := Go.Ground.data }], guard := none }, { dst := some 52, op := Go.Op.fieldAddr 29 (Go.Operand.tmp 2) 2, type := 0, pos := "more.go:20", after := #[], guard := none }, { dst := some 53, op := Go.Op.load 27 (Go.Operand.tmp 52), type := 27, pos := "more.go:20", after := #[{ on := 2, ground := Go.Ground.data }], guard := none }, { dst := some 54, op := Go.Op.call { callee := Go.Callee.builtin Go.Builtin.len, args := #[Go.Operand.tmp 53], argTypes := #[27] }, type := 3, pos := "more.go:20", after := #[{ on := 3, ground := Go.Ground.data }], guard := none }, { dst := some 55, op := Go.Op.binOp Go.BinOp.add 3 (Go.Operand.const (Go.Value.int Go.IntKind.i64 13)) (Go.Operand.tmp 54) 3, type := 3, pos := "more.go:20", after := #[{ on := 4, ground := Go.Ground.data }], guard := none }, { dst := some 56, op := Go.Op.binOp Go.BinOp.neq 3 (Go.Operand.tmp 51) (Go.Operand.tmp 55) 3, type := 4, pos := "more.go:20", after := #[{ on := 1, ground := Go.Ground.data }, { on := 5, ground := Go.Ground.data }], guard := none }, { dst := some 57, op := Go.Op.move (Go.Operand.tmp 56), type := 4, pos := "more.go:20", after := #[{ on := 6, ground := Go.Ground.data }], guard := none }, { dst := some 58, op := Go.Op.move (Go.Operand.tmp 5), type := 27, pos := "more.go:20", after := #[{ on := 7, ground := Go.Ground.guard }], guard := some (7, false) }, { dst := some 59, op := Go.Op.move (Go.Operand.tmp 7), type := 27, pos := "more.go:20", after := #[{ on := 7, ground := Go.Ground.guard }], guard := some (7, false) }, { dst := some 60, op := Go.Op.call { callee := Go.Callee.value (Go.Operand.func 19), args := #[Go.Operand.tmp 58, Go.Operand.tmp 59], argTypes := #[27, 27] }, type := 4, pos := "more.go:20", after := #[{ on := 8, ground := Go.Ground.data }, { on := 9, ground := Go.Ground.data }, { on := 7, ground := Go.Ground.chain }, { on := 7, ground := Go.Ground.guard }], guard := some (7, false) }, { dst := some 61, op := Go.Op.load 29 (Go.Operand.tmp 2), type := 29, pos := "more.go:20", after := #[{ on := 7, ground := Go.Ground.guard }], guard := some (7, false) }, { dst := some 62, op := Go.Op.load 29 (Go.Operand.tmp 3), type := 29, pos := "more.go:20", after := #[{ on := 7, ground := Go.Ground.guard }], guard := some (7, false) }, { dst := some 63, op := Go.Op.call { callee := Go.Callee.value (Go.Operand.func 28), args := #[Go.Operand.tmp 61, Go.Operand.tmp 62], argTypes := #[29, 29] }, type := 4, pos := "more.go:20", after := #[{ on := 11, ground := Go.Ground.data }, { on := 12, ground := Go.Ground.data }, { on := 10, ground := Go.Ground.chain }, { on := 7, ground := Go.Ground.guard }], guard := some (7, false) }, { dst := some 64, op := Go.Op.binOp Go.BinOp.neq 4 (Go.Operand.tmp 60) (Go.Operand.tmp 63) 4, type := 4, pos := "more.go:20", after := #[{ on := 10, ground := Go.Ground.data }, { on := 13, ground := Go.Ground.data }, { on := 7, ground := Go.Ground.guard }], guard := some (7, false) }, { dst := some 65, op := Go.Op.pick (Go.Operand.tmp 57) (Go.Operand.const (Go.Value.bool true)) (Go.Operand.tmp 64), type := 4, pos := "more.go:20", after := #[{ on := 7, ground := Go.Ground.data }, { on := 14, ground := Go.Ground.data }], guard := none }]
/-- The frame: what stood there, and what has come up. -/
def pgF (f v : Nat → Value) : Act := ⟨List.toArray (f 0 :: f 1 :: f 2 :: f 3 :: f 4 :: f 5 :: f 6 :: f 7 :: f 8 :: f 9 :: f 10 :: f 11 :: f 12 :: f 13 :: f 14 :: f 15 :: f 16 :: f 17 :: f 18 :: f 19 :: f 20 :: f 21 :: f 22 :: f 23 :: f 24 :: f 25 :: f 26 :: f 27 :: f 28 :: f 29 :: f 30 :: f 31 :: f 32 :: f 33 :: f 34 :: f 35 :: f 36 :: f 37 :: f 38 :: f 39 :: f 40 :: f 41 :: f 42 :: f 43 :: f 44 :: f 45 :: f 46 :: f 47 :: f 48 :: f 49 :: v 0 :: v 1 :: v 2 :: v 3 :: v 4 :: v 5 :: v 6 :: v 7 :: v 8 :: v 9 :: v 10 :: v 11 :: v 12 :: v 13 :: v 14 :: v 15 :: f 66 :: f 67 :: f 68 :: f 69 :: f 70 :: f 71 :: f 72 :: f 73 :: f 74 :: f 75 :: f 76 :: f 77 :: f 78 :: f 79 :: f 80 :: f 81 :: f 82 :: f 83 :: f 84 :: f 85 :: f 86 :: f 87 :: f 88 :: f 89 :: f 90 :: f 91 :: f 92 :: f 93 :: f 94 :: f 95 :: f 96 :: f 97 :: f 98 :: f 99 :: f 100 :: f 101 :: f 102 :: f 103 :: f 104 :: f 105 :: f 106 :: f 107 :: f 108 :: f 109 :: f 110 :: f 111 :: f 112 :: f 113 :: f 114 :: f 115 :: f 116 :: f 117 :: f 118 :: f 119 :: f 120 :: f 121 :: f 122 :: []), []⟩
theorem pgback : ∀ (i : Nat) (o : Oper), pgops[i]? = some o → ∀ e ∈ o.after, Region.binds .any e = true → e.on < i := by
  have h : (List.range pgops.size).all (fun i => (pgops[i]?.map fun o => o.after.toList.all fun e => decide (e.on < i)).getD true) = true := by decide +kernel
  intro i o ho e he _
  have hi : i < pgops.size := (Array.getElem?_eq_some_iff.1 ho).1
  have := List.all_eq_true.1 h i (List.mem_range.2 hi)
  rw [ho] at this
  simp only [Option.map_some, Option.getD_some] at this
  have := List.all_eq_true.1 this e (by simpa using he)
  simpa using this
theorem pgat {i : Nat} {o : Oper} (h : pgops[i]? = some o) : i < 16 := (Array.getElem?_eq_some_iff.1 h).1
theorem pgput (f : Nat → Value) : ∀ (i : Nat) (o : Oper), pgops[i]? = some o → ∀ v u, (pgF f v).put o.dst u = pgF f (setAt v i u) := by
  intro i o ho v u
  have hi := pgat ho
  match i, hi with
  | 0, _ => cases ho; rfl
  | 1, _ => cases ho; rfl
  | 2, _ => cases ho; rfl
  | 3, _ => cases ho; rfl
  | 4, _ => cases ho; rfl
  | 5, _ => cases ho; rfl
  | 6, _ => cases ho; rfl
  | 7, _ => cases ho; rfl
  | 8, _ => cases ho; rfl
  | 9, _ => cases ho; rfl
  | 10, _ => cases ho; rfl
  | 11, _ => cases ho; rfl
  | 12, _ => cases ho; rfl
  | 13, _ => cases ho; rfl
  | 14, _ => cases ho; rfl
  | 15, _ => cases ho; rfl

/-- What each operation leaves. -/
def pgJ (xa ya : Option Addr) (xn xc yn yc : Nat) (k s k2 s2 : Int) (da da2 : Option Addr) (dn dc dn2 dc2 gA gB : Nat) (q : Bool) : Nat → Value → World → Prop
  | 0, v, w => v = .slice xa xn xc
  | 1, v, w => v = .int .i64 (xn : Int)
  | 2, v, w => v = .pointer (some ⟨gA, 2, none⟩)
  | 3, v, w => v = .slice da dn dc
  | 4, v, w => v = .int .i64 (dn : Int)
  | 5, v, w => v = .int .i64 (13 + (dn : Int))
  | 6, v, w => v = .bool false
  | 7, v, w => v = .bool false
  | 8, v, w => v = .slice xa xn xc
  | 9, v, w => v = .slice ya yn yc
  | 10, v, w => v = .bool q
  | 11, v, w => v = .agg #[.int .i64 k, .int .i64 s, .slice da dn dc]
  | 12, v, w => v = .agg #[.int .i64 k2, .int .i64 s2, .slice da2 dn2 dc2]
  | 13, v, w => v = .bool q
  | 14, v, w => v = .bool false
  | _, v, w => v = .bool false
theorem pgmono {xa ya : Option Addr} {xn xc yn yc : Nat} {k s k2 s2 : Int} {da da2 : Option Addr} {dn dc dn2 dc2 gA gB : Nat} {q : Bool} (j : Nat) (v : Value) (w w' : World) (hB : Below w.heap.size w w') (h : pgJ xa ya xn xc yn yc k s k2 s2 da da2 dn dc dn2 dc2 gA gB q j v w) : pgJ xa ya xn xc yn yc k s k2 s2 da da2 dn dc dn2 dc2 gA gB q j v w' := by
  unfold pgJ at h ⊢
  split at h <;> first | exact h | (obtain ⟨g, h1, h2⟩ := h; exact ⟨g, h1, h2.below hB⟩)
/-- What is known ahead of it. -/
structure pgK (f : Nat → Value) (w0 : World) (xa ya : Option Addr) (xn xc yn yc : Nat) (k s k2 s2 : Int) (da da2 : Option Addr) (dn dc dn2 dc2 gA gB : Nat) (q : Bool) : Prop where
  t : Tab w0
  f2 : f 2 = .pointer (some ⟨gA, 0, none⟩)
  f3 : f 3 = .pointer (some ⟨gB, 0, none⟩)
  f5 : f 5 = .slice xa xn xc
  f7 : f 7 = .slice ya yn yc
  a0 : ∀ w, Below w0.heap.size w0 w → w.cell? ⟨gA, 0, none⟩ = some (.int .i64 k)
  a1 : ∀ w, Below w0.heap.size w0 w → w.cell? ⟨gA, 1, none⟩ = some (.int .i64 s)
  a2 : ∀ w, Below w0.heap.size w0 w → w.cell? ⟨gA, 2, none⟩ = some (.slice da dn dc)
  b0 : ∀ w, Below w0.heap.size w0 w → w.cell? ⟨gB, 0, none⟩ = some (.int .i64 k2)
  b1 : ∀ w, Below w0.heap.size w0 w → w.cell? ⟨gB, 1, none⟩ = some (.int .i64 s2)
  b2 : ∀ w, Below w0.heap.size w0 w → w.cell? ⟨gB, 2, none⟩ = some (.slice da2 dn2 dc2)
  n : ((xn : Int) != 13 + (dn : Int)) = false
  d : dn ≤ 8000
  e19 : ∀ w, Below w0.heap.size w0 w → Calls Tryd.prog 19 #[.slice xa xn xc, .slice ya yn yc] w fun e w' => e = .returned (.bool q) ∧ Below w.heap.size w w'
  e28 : ∀ w, Below w0.heap.size w0 w → Calls Tryd.prog 28 #[.agg #[.int .i64 k, .int .i64 s, .slice da dn dc], .agg #[.int .i64 k2, .int .i64 s2, .slice da2 dn2 dc2]] w fun e w' => e = .returned (.bool q) ∧ Below w.heap.size w w'
def pgPost (f : Nat → Value) (w0 : World) (xa ya : Option Addr) (xn xc yn yc : Nat) (k s k2 s2 : Int) (da da2 : Option Addr) (dn dc dn2 dc2 gA gB : Nat) (q : Bool) (v : Nat → Value) (w : World) (i : Nat) (dst : Option Tmp) (a' : Act) (w' : World) : Prop :=
  ∃ u, a' = (pgF f v).put dst u ∧ Below w0.heap.size w0 w' ∧ Below w.heap.size w w' ∧ pgJ xa ya xn xc yn yc k s k2 s2 da da2 dn dc dn2 dc2 gA gB q i u w'
set_option maxRecDepth 100000 in
set_option maxHeartbeats 2000000 in
theorem pgstep {f : Nat → Value} {w0 : World} {xa ya : Option Addr} {xn xc yn yc : Nat} {k s k2 s2 : Int} {da da2 : Option Addr} {dn dc dn2 dc2 gA gB : Nat} {q : Bool} {Q : Exit → Act → World → Prop} (K : pgK f w0 xa ya xn xc yn yc k s k2 s2 da da2 dn dc dn2 dc2 gA gB q) :
    ∀ (i : Nat) (o : Oper), pgops[i]? = some o → ∀ v w, Below w0.heap.size w0 w → (∀ e ∈ o.after, Region.binds .any e = true → pgJ xa ya xn xc yn yc k s k2 s2 da da2 dn dc dn2 dc2 gA gB q e.on (v e.on) w) →
      wpOp Tryd.prog pgops Q i (pgPost f w0 xa ya xn xc yn yc k s k2 s2 da da2 dn dc dn2 dc2 gA gB q v w i o.dst) (pgF f v) w := by
  intro i o ho v w hS hd
  have hi := pgat ho
  have hT := K.t.below hS
  match i, hi with
  | 0, _ =>
    replace ho : some ({ dst := some 50, op := Go.Op.move (Go.Operand.tmp 5), type := 27, pos := "more.go:20", after := #[], guard := none } : Oper) = some o := ho
    cases ho
    refine each_of (o := { dst := some 50, op := Go.Op.move (Go.Operand.tmp 5), type := 27, pos := "more.go:20", after := #[], guard := none }) rfl rfl ?_
    unfold pgF
    rw [K.f5]
    go_simp
    exact ⟨_, by unfold pgF; first | (rw [K.f5]; done) | (rw [K.f5]; rfl), hS, Below.refl _ _, rfl⟩
  | 1, _ =>
    replace ho : some ({ dst := some 51, op := Go.Op.call { callee := Go.Callee.builtin Go.Builtin.len, args := #[Go.Operand.tmp 50], argTypes := #[27] }, type := 3, pos := "more.go:20", after := #[{ on := 0, ground := Go.Ground.data }], guard := none } : Oper) = some o := ho
    cases ho
    have h0 : v 0 = .slice xa xn xc := hd ⟨0, .data⟩ (by simp) rfl
    refine each_of (o := { dst := some 51, op := Go.Op.call { callee := Go.Callee.builtin Go.Builtin.len, args := #[Go.Operand.tmp 50], argTypes := #[27] }, type := 3, pos := "more.go:20", after := #[{ on := 0, ground := Go.Ground.data }], guard := none }) rfl rfl ?_
    unfold pgF
    rw [h0]
    go_simp
    exact ⟨_, by unfold pgF; first | (rw [h0]; done) | (rw [h0]; rfl), hS, Below.refl _ _, rfl⟩
  | 2, _ =>
    replace ho : some ({ dst := some 52, op := Go.Op.fieldAddr 29 (Go.Operand.tmp 2) 2, type := 0, pos := "more.go:20", after := #[], guard := none } : Oper) = some o := ho
    cases ho
    refine each_of (o := { dst := some 52, op := Go.Op.fieldAddr 29 (Go.Operand.tmp 2) 2, type := 0, pos := "more.go:20", after := #[], guard := none }) rfl rfl ?_
    unfold pgF
    rw [K.f2]
    go_simp
    exact ⟨_, by unfold pgF; first | (rw [K.f2]; done) | (rw [K.f2]; rfl), hS, Below.refl _ _, rfl⟩
  | 3, _ =>
    replace ho : some ({ dst := some 53, op := Go.Op.load 27 (Go.Operand.tmp 52), type := 27, pos := "more.go:20", after := #[{ on := 2, ground := Go.Ground.data }], guard := none } : Oper) = some o := ho
    cases ho
    have h2 : v 2 = .pointer (some ⟨gA, 2, none⟩) := hd ⟨2, .data⟩ (by simp) rfl
    have q1 := K.a2 w hS
    refine each_of (o := { dst := some 53, op := Go.Op.load 27 (Go.Operand.tmp 52), type := 27, pos := "more.go:20", after := #[{ on := 2, ground := Go.Ground.data }], guard := none }) rfl rfl ?_
    unfold pgF
    rw [h2]
    go_simp
    exact ⟨_, by unfold pgF; first | (rw [h2]; done) | (rw [h2]; rfl), hS, Below.refl _ _, rfl⟩
  | 4, _ =>
    replace ho : some ({ dst := some 54, op := Go.Op.call { callee := Go.Callee.builtin Go.Builtin.len, args := #[Go.Operand.tmp 53], argTypes := #[27] }, type := 3, pos := "more.go:20", after := #[{ on := 3, ground := Go.Ground.data }], guard := none } : Oper) = some o := ho
    cases ho
    have h3 : v 3 = .slice da dn dc := hd ⟨3, .data⟩ (by simp) rfl
    refine each_of (o := { dst := some 54, op := Go.Op.call { callee := Go.Callee.builtin Go.Builtin.len, args := #[Go.Operand.tmp 53], argTypes := #[27] }, type := 3, pos := "more.go:20", after := #[{ on := 3, ground := Go.Ground.data }], guard := none }) rfl rfl ?_
    unfold pgF
    rw [h3]
    go_simp
    exact ⟨_, by unfold pgF; first | (rw [h3]; done) | (rw [h3]; rfl), hS, Below.refl _ _, rfl⟩
  | 5, _ =>
    replace ho : some ({ dst := some 55, op := Go.Op.binOp Go.BinOp.add 3 (Go.Operand.const (Go.Value.int Go.IntKind.i64 13)) (Go.Operand.tmp 54) 3, type := 3, pos := "more.go:20", after := #[{ on := 4, ground := Go.Ground.data }], guard := none } : Oper) = some o := ho
    cases ho
    have h4 : v 4 = .int .i64 (dn : Int) := hd ⟨4, .data⟩ (by simp) rfl
    have q1 := K.d
    have q2 := i64w (13 + (dn : Int)) (by omega) (by omega)
    refine each_of (o := { dst := some 55, op := Go.Op.binOp Go.BinOp.add 3 (Go.Operand.const (Go.Value.int Go.IntKind.i64 13)) (Go.Operand.tmp 54) 3, type := 3, pos := "more.go:20", after := #[{ on := 4, ground := Go.Ground.data }], guard := none }) rfl rfl ?_
    unfold pgF
    rw [h4]
    go_simp
    exact ⟨_, by unfold pgF; first | (rw [h4]; done) | (rw [h4]; rfl), hS, Below.refl _ _, rfl⟩
  | 6, _ =>
    replace ho : some ({ dst := some 56, op := Go.Op.binOp Go.BinOp.neq 3 (Go.Operand.tmp 51) (Go.Operand.tmp 55) 3, type := 4, pos := "more.go:20", after := #[{ on := 1, ground := Go.Ground.data }, { on := 5, ground := Go.Ground.data }], guard := none } : Oper) = some o := ho
    cases ho
    have h1 : v 1 = .int .i64 (xn : Int) := hd ⟨1, .data⟩ (by simp) rfl
    have h5 : v 5 = .int .i64 (13 + (dn : Int)) := hd ⟨5, .data⟩ (by simp) rfl
    have q1 := K.n
    refine each_of (o := { dst := some 56, op := Go.Op.binOp Go.BinOp.neq 3 (Go.Operand.tmp 51) (Go.Operand.tmp 55) 3, type := 4, pos := "more.go:20", after := #[{ on := 1, ground := Go.Ground.data }, { on := 5, ground := Go.Ground.data }], guard := none }) rfl rfl ?_
    unfold pgF
    rw [h1, h5]
    go_simp
    exact ⟨_, by unfold pgF; first | (rw [h1, h5]; done) | (rw [h1, h5]; rfl), hS, Below.refl _ _, rfl⟩
  | 7, _ =>
    replace ho : some ({ dst := some 57, op := Go.Op.move (Go.Operand.tmp 56), type := 4, pos := "more.go:20", after := #[{ on := 6, ground := Go.Ground.data }], guard := none } : Oper) = some o := ho
    cases ho
    have h6 : v 6 = .bool false := hd ⟨6, .data⟩ (by simp) rfl
    refine each_of (o := { dst := some 57, op := Go.Op.move (Go.Operand.tmp 56), type := 4, pos := "more.go:20", after := #[{ on := 6, ground := Go.Ground.data }], guard := none }) rfl rfl ?_
    unfold pgF
    rw [h6]
    go_simp
    exact ⟨_, by unfold pgF; first | (rw [h6]; done) | (rw [h6]; rfl), hS, Below.refl _ _, rfl⟩
  | 8, _ =>
    replace ho : some ({ dst := some 58, op := Go.Op.move (Go.Operand.tmp 5), type := 27, pos := "more.go:20", after := #[{ on := 7, ground := Go.Ground.guard }], guard := some (7, false) } : Oper) = some o := ho
    cases ho
    have h7 : v 7 = .bool false := hd ⟨7, .guard⟩ (by simp) rfl
    have hw : Region.wanted ({ dst := some 58, op := Go.Op.move (Go.Operand.tmp 5), type := 27, pos := "more.go:20", after := #[{ on := 7, ground := Go.Ground.guard }], guard := some (7, false) } : Oper) (yielded pgops (pgF f v).tmps) = true := by
      show ((match (some (v 7)) with | some (.bool b) => some b | _ => none) == some false) = true
      rw [h7]; rfl
    clear h7
    refine each_of (o := { dst := some 58, op := Go.Op.move (Go.Operand.tmp 5), type := 27, pos := "more.go:20", after := #[{ on := 7, ground := Go.Ground.guard }], guard := some (7, false) }) rfl hw ?_
    unfold pgF
    rw [K.f5]
    go_simp
    exact ⟨_, by unfold pgF; first | (rw [K.f5]; done) | (rw [K.f5]; rfl), hS, Below.refl _ _, rfl⟩
  | 9, _ =>
    replace ho : some ({ dst := some 59, op := Go.Op.move (Go.Operand.tmp 7), type := 27, pos := "more.go:20", after := #[{ on := 7, ground := Go.Ground.guard }], guard := some (7, false) } : Oper) = some o := ho
    cases ho
    have h7 : v 7 = .bool false := hd ⟨7, .guard⟩ (by simp) rfl
    have hw : Region.wanted ({ dst := some 59, op := Go.Op.move (Go.Operand.tmp 7), type := 27, pos := "more.go:20", after := #[{ on := 7, ground := Go.Ground.guard }], guard := some (7, false) } : Oper) (yielded pgops (pgF f v).tmps) = true := by
      show ((match (some (v 7)) with | some (.bool b) => some b | _ => none) == some false) = true
      rw [h7]; rfl
    clear h7
    refine each_of (o := { dst := some 59, op := Go.Op.move (Go.Operand.tmp 7), type := 27, pos := "more.go:20", after := #[{ on := 7, ground := Go.Ground.guard }], guard := some (7, false) }) rfl hw ?_
    unfold pgF
    rw [K.f7]
    go_simp
    exact ⟨_, by unfold pgF; first | (rw [K.f7]; done) | (rw [K.f7]; rfl), hS, Below.refl _ _, rfl⟩
  | 10, _ =>
    replace ho : some ({ dst := some 60, op := Go.Op.call { callee := Go.Callee.value (Go.Operand.func 19), args := #[Go.Operand.tmp 58, Go.Operand.tmp 59], argTypes := #[27, 27] }, type := 4, pos := "more.go:20", after := #[{ on := 8, ground := Go.Ground.data }, { on := 9, ground := Go.Ground.data }, { on := 7, ground := Go.Ground.chain }, { on := 7, ground := Go.Ground.guard }], guard := some (7, false) } : Oper) = some o := ho
    cases ho
    have h7 : v 7 = .bool false := hd ⟨7, .chain⟩ (by simp) rfl
    have hw : Region.wanted ({ dst := some 60, op := Go.Op.call { callee := Go.Callee.value (Go.Operand.func 19), args := #[Go.Operand.tmp 58, Go.Operand.tmp 59], argTypes := #[27, 27] }, type := 4, pos := "more.go:20", after := #[{ on := 8, ground := Go.Ground.data }, { on := 9, ground := Go.Ground.data }, { on := 7, ground := Go.Ground.chain }, { on := 7, ground := Go.Ground.guard }], guard := some (7, false) } : Oper) (yielded pgops (pgF f v).tmps) = true := by
      show ((match (some (v 7)) with | some (.bool b) => some b | _ => none) == some false) = true
      rw [h7]; rfl
    clear h7
    have h8 : v 8 = .slice xa xn xc := hd ⟨8, .data⟩ (by simp) rfl
    have h9 : v 9 = .slice ya yn yc := hd ⟨9, .data⟩ (by simp) rfl
    refine each_of (o := { dst := some 60, op := Go.Op.call { callee := Go.Callee.value (Go.Operand.func 19), args := #[Go.Operand.tmp 58, Go.Operand.tmp 59], argTypes := #[27, 27] }, type := 4, pos := "more.go:20", after := #[{ on := 8, ground := Go.Ground.data }, { on := 9, ground := Go.Ground.data }, { on := 7, ground := Go.Ground.chain }, { on := 7, ground := Go.Ground.guard }], guard := some (7, false) }) rfl hw ?_
    unfold pgF
    rw [h8, h9]
    go_simp
    refine (K.e19 w hS).mono ?_
    rintro e w' ⟨rfl, hB⟩
    exact ⟨_, by unfold pgF; first | (rw [h8, h9]; done) | (rw [h8, h9]; rfl), hS.trans (hB.mono hS.size), hB, rfl⟩
  | 11, _ =>
    replace ho : some ({ dst := some 61, op := Go.Op.load 29 (Go.Operand.tmp 2), type := 29, pos := "more.go:20", after := #[{ on := 7, ground := Go.Ground.guard }], guard := some (7, false) } : Oper) = some o := ho
    cases ho
    have h7 : v 7 = .bool false := hd ⟨7, .guard⟩ (by simp) rfl
    have hw : Region.wanted ({ dst := some 61, op := Go.Op.load 29 (Go.Operand.tmp 2), type := 29, pos := "more.go:20", after := #[{ on := 7, ground := Go.Ground.guard }], guard := some (7, false) } : Oper) (yielded pgops (pgF f v).tmps) = true := by
      show ((match (some (v 7)) with | some (.bool b) => some b | _ => none) == some false) = true
      rw [h7]; rfl
    clear h7
    have q1 := K.a0 w hS
    have q2 := K.a1 w hS
    have q3 := K.a2 w hS
    refine each_of (o := { dst := some 61, op := Go.Op.load 29 (Go.Operand.tmp 2), type := 29, pos := "more.go:20", after := #[{ on := 7, ground := Go.Ground.guard }], guard := some (7, false) }) rfl hw ?_
    unfold pgF
    rw [K.f2]
    go_simp
    exact ⟨_, by unfold pgF; first | (rw [K.f2]; done) | (rw [K.f2]; rfl), hS, Below.refl _ _, rfl⟩
  | 12, _ =>
    replace ho : some ({ dst := some 62, op := Go.Op.load 29 (Go.Operand.tmp 3), type := 29, pos := "more.go:20", after := #[{ on := 7, ground := Go.Ground.guard }], guard := some (7, false) } : Oper) = some o := ho
    cases ho
    have h7 : v 7 = .bool false := hd ⟨7, .guard⟩ (by simp) rfl
    have hw : Region.wanted ({ dst := some 62, op := Go.Op.load 29 (Go.Operand.tmp 3), type := 29, pos := "more.go:20", after := #[{ on := 7, ground := Go.Ground.guard }], guard := some (7, false) } : Oper) (yielded pgops (pgF f v).tmps) = true := by
      show ((match (some (v 7)) with | some (.bool b) => some b | _ => none) == some false) = true
      rw [h7]; rfl
    clear h7
    have q1 := K.b0 w hS
    have q2 := K.b1 w hS
    have q3 := K.b2 w hS
    refine each_of (o := { dst := some 62, op := Go.Op.load 29 (Go.Operand.tmp 3), type := 29, pos := "more.go:20", after := #[{ on := 7, ground := Go.Ground.guard }], guard := some (7, false) }) rfl hw ?_
    unfold pgF
    rw [K.f3]
    go_simp
    exact ⟨_, by unfold pgF; first | (rw [K.f3]; done) | (rw [K.f3]; rfl), hS, Below.refl _ _, rfl⟩
  | 13, _ =>
    replace ho : some ({ dst := some 63, op := Go.Op.call { callee := Go.Callee.value (Go.Operand.func 28), args := #[Go.Operand.tmp 61, Go.Operand.tmp 62], argTypes := #[29, 29] }, type := 4, pos := "more.go:20", after := #[{ on := 11, ground := Go.Ground.data }, { on := 12, ground := Go.Ground.data }, { on := 10, ground := Go.Ground.chain }, { on := 7, ground := Go.Ground.guard }], guard := some (7, false) } : Oper) = some o := ho
    cases ho
    have h7 : v 7 = .bool false := hd ⟨7, .guard⟩ (by simp) rfl
    have hw : Region.wanted ({ dst := some 63, op := Go.Op.call { callee := Go.Callee.value (Go.Operand.func 28), args := #[Go.Operand.tmp 61, Go.Operand.tmp 62], argTypes := #[29, 29] }, type := 4, pos := "more.go:20", after := #[{ on := 11, ground := Go.Ground.data }, { on := 12, ground := Go.Ground.data }, { on := 10, ground := Go.Ground.chain }, { on := 7, ground := Go.Ground.guard }], guard := some (7, false) } : Oper) (yielded pgops (pgF f v).tmps) = true := by
      show ((match (some (v 7)) with | some (.bool b) => some b | _ => none) == some false) = true
      rw [h7]; rfl
    clear h7
    have h11 : v 11 = .agg #[.int .i64 k, .int .i64 s, .slice da dn dc] := hd ⟨11, .data⟩ (by simp) rfl
    have h12 : v 12 = .agg #[.int .i64 k2, .int .i64 s2, .slice da2 dn2 dc2] := hd ⟨12, .data⟩ (by simp) rfl
    refine each_of (o := { dst := some 63, op := Go.Op.call { callee := Go.Callee.value (Go.Operand.func 28), args := #[Go.Operand.tmp 61, Go.Operand.tmp 62], argTypes := #[29, 29] }, type := 4, pos := "more.go:20", after := #[{ on := 11, ground := Go.Ground.data }, { on := 12, ground := Go.Ground.data }, { on := 10, ground := Go.Ground.chain }, { on := 7, ground := Go.Ground.guard }], guard := some (7, false) }) rfl hw ?_
    unfold pgF
    rw [h11, h12]
    go_simp
    refine (K.e28 w hS).mono ?_
    rintro e w' ⟨rfl, hB⟩
    exact ⟨_, by unfold pgF; first | (rw [h11, h12]; done) | (rw [h11, h12]; rfl), hS.trans (hB.mono hS.size), hB, rfl⟩
  | 14, _ =>
    replace ho : some ({ dst := some 64, op := Go.Op.binOp Go.BinOp.neq 4 (Go.Operand.tmp 60) (Go.Operand.tmp 63) 4, type := 4, pos := "more.go:20", after := #[{ on := 10, ground := Go.Ground.data }, { on := 13, ground := Go.Ground.data }, { on := 7, ground := Go.Ground.guard }], guard := some (7, false) } : Oper) = some o := ho
    cases ho
    have h7 : v 7 = .bool false := hd ⟨7, .guard⟩ (by simp) rfl
    have hw : Region.wanted ({ dst := some 64, op := Go.Op.binOp Go.BinOp.neq 4 (Go.Operand.tmp 60) (Go.Operand.tmp 63) 4, type := 4, pos := "more.go:20", after := #[{ on := 10, ground := Go.Ground.data }, { on := 13, ground := Go.Ground.data }, { on := 7, ground := Go.Ground.guard }], guard := some (7, false) } : Oper) (yielded pgops (pgF f v).tmps) = true := by
      show ((match (some (v 7)) with | some (.bool b) => some b | _ => none) == some false) = true
      rw [h7]; rfl
    clear h7
    have h10 : v 10 = .bool q := hd ⟨10, .data⟩ (by simp) rfl
    have h13 : v 13 = .bool q := hd ⟨13, .data⟩ (by simp) rfl
    refine each_of (o := { dst := some 64, op := Go.Op.binOp Go.BinOp.neq 4 (Go.Operand.tmp 60) (Go.Operand.tmp 63) 4, type := 4, pos := "more.go:20", after := #[{ on := 10, ground := Go.Ground.data }, { on := 13, ground := Go.Ground.data }, { on := 7, ground := Go.Ground.guard }], guard := some (7, false) }) rfl hw ?_
    unfold pgF
    rw [h10, h13]
    go_simp
    exact ⟨_, by unfold pgF; first | (rw [h10, h13]; done) | (rw [h10, h13]; rfl), hS, Below.refl _ _, rfl⟩
  | 15, _ =>
    replace ho : some ({ dst := some 65, op := Go.Op.pick (Go.Operand.tmp 57) (Go.Operand.const (Go.Value.bool true)) (Go.Operand.tmp 64), type := 4, pos := "more.go:20", after := #[{ on := 7, ground := Go.Ground.data }, { on := 14, ground := Go.Ground.data }], guard := none } : Oper) = some o := ho
    cases ho
    have h7 : v 7 = .bool false := hd ⟨7, .data⟩ (by simp) rfl
    have h14 : v 14 = .bool false := hd ⟨14, .data⟩ (by simp) rfl
    refine each_of (o := { dst := some 65, op := Go.Op.pick (Go.Operand.tmp 57) (Go.Operand.const (Go.Value.bool true)) (Go.Operand.tmp 64), type := 4, pos := "more.go:20", after := #[{ on := 7, ground := Go.Ground.data }, { on := 14, ground := Go.Ground.data }], guard := none }) rfl rfl ?_
    unfold pgF
    rw [h7, h14]
    go_simp
    exact ⟨_, by unfold pgF; first | (rw [h7, h14]; done) | (rw [h7, h14]; rfl), hS, Below.refl _ _, rfl⟩

/-- THE STATEMENT, in whatever order. -/
theorem pgend {f v0 : Nat → Value} {w0 : World} {xa ya : Option Addr} {xn xc yn yc : Nat} {k s k2 s2 : Int} {da da2 : Option Addr} {dn dc dn2 dc2 gA gB : Nat} {q : Bool} {Q : Exit → Act → World → Prop} (K : pgK f w0 xa ya xn xc yn yc k s k2 s2 da da2 dn dc dn2 dc2 gA gB q)
    (hQ : ∀ v w, Below w0.heap.size w0 w → v 15 = .bool false → Q .normal (pgF f v) w) : (Code.region 7 pgops true).wp Tryd.prog Q (pgF f v0) w0 :=
  wp_region_each (F := pgF f) (S := fun w => Below w0.heap.size w0 w) (J := pgJ xa ya xn xc yn yc k s k2 s2 da da2 dn dc dn2 dc2 gA gB q) (R := fun w w' => Below w.heap.size w w') (by kernel_rfl) pgback (pgput f) pgmono
    (pgstep K) (fun v w hS hJ => hQ v w hS (hJ 15 (by decide))) v0 ((Below.refl _ _).drew)
theorem pgbegin {A0 : Act} {w0 : World} {xa ya : Option Addr} {xn xc yn yc : Nat} {k s k2 s2 : Int} {da da2 : Option Addr} {dn dc dn2 dc2 gA gB : Nat} {q : Bool} {Q : Exit → Act → World → Prop} (hA : A0 = pgF (fun i => A0.tmps.getD i undef) (fun i => A0.tmps.getD (if i = 0 then 50 else if i = 1 then 51 else if i = 2 then 52 else if i = 3 then 53 else if i = 4 then 54 else if i = 5 then 55 else if i = 6 then 56 else if i = 7 then 57 else if i = 8 then 58 else if i = 9 then 59 else if i = 10 then 60 else if i = 11 then 61 else if i = 12 then 62 else if i = 13 then 63 else if i = 14 then 64 else if i = 15 then 65 else 0) undef))
    (K : pgK (fun i => A0.tmps.getD i undef) w0 xa ya xn xc yn yc k s k2 s2 da da2 dn dc dn2 dc2 gA gB q) (hQ : ∀ v w, Below w0.heap.size w0 w → v 15 = .bool false → Q .normal (pgF (fun i => A0.tmps.getD i undef) v) w) : (Code.region 7 pgops true).wp Tryd.prog Q A0 w0 := by
  rw [hA]
  exact pgend K hQ
end Go.Proofs.YtmbkgjiofkggcaaDoor
