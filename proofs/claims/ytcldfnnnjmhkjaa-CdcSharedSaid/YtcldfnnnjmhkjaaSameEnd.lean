/-
  CdcSame's last statement where there is no byte.
-/
import Derived.Test.YtcldfnnnjmhkjaaAnyOrder
import Derived.Test.YtcldfnnnjmhkjaaFill
namespace Go.Proofs.Ytcldfnnnjmhkjaa
open Go.RowKit
set_option linter.unusedVariables false

/-- Its operations. -/
def seops : Array Oper := #[{ dst := some 75, op := Go.Op.move (Go.Operand.tmp 7), type := 24, pos := "same.go:24", after := #[], guard := none }, { dst := some 76, op := Go.Op.call { callee := Go.Callee.builtin Go.Builtin.len, args := #[Go.Operand.tmp 75], argTypes := #[24] }, type := 3, pos := "same.go:24", after := #[{ on := 0, ground := Go.Ground.data }], guard := none }, { dst := some 77, op := Go.Op.binOp Go.BinOp.eql 3 (Go.Operand.tmp 76) (Go.Operand.const (Go.Value.int Go.IntKind.i64 0)) 3, type := 4, pos := "same.go:24", after := #[{ on := 1, ground := Go.Ground.data }], guard := none }, { dst := some 78, op := Go.Op.move (Go.Operand.tmp 77), type := 4, pos := "same.go:24", after := #[{ on := 2, ground := Go.Ground.data }], guard := none }, { dst := some 79, op := Go.Op.move (Go.Operand.tmp 7), type := 24, pos := "same.go:24", after := #[{ on := 3, ground := Go.Ground.guard }], guard := some (3, false) }, { dst := some 80, op := Go.Op.indexAddr 24 (Go.Operand.tmp 79) (Go.Operand.const (Go.Value.int Go.IntKind.i64 0)), type := 0, pos := "same.go:24", after := #[{ on := 4, ground := Go.Ground.data }, { on := 3, ground := Go.Ground.guard }], guard := some (3, false) }, { dst := some 81, op := Go.Op.load 22 (Go.Operand.tmp 80), type := 22, pos := "same.go:24", after := #[{ on := 5, ground := Go.Ground.data }, { on := 3, ground := Go.Ground.guard }], guard := some (3, false) }, { dst := some 82, op := Go.Op.call { callee := Go.Callee.builtin Go.Builtin.len, args := #[Go.Operand.tmp 81], argTypes := #[22] }, type := 3, pos := "same.go:24", after := #[{ on := 6, ground := Go.Ground.data }, { on := 3, ground := Go.Ground.guard }], guard := some (3, false) }, { dst := some 83, op := Go.Op.move (Go.Operand.tmp 5), type := 22, pos := "same.go:24", after := #[{ on := 3, ground := Go.Ground.guard }], guard := some (3, false) }, { dst := some 84, op := Go.Op.call { callee := Go.Callee.value (Go.Operand.func 17), args := #[Go.Operand.tmp 83], argTypes := #[22] }, type := 3, pos := "same.go:24", after := #[{ on := 8, ground := Go.Ground.data }, { on := 3, ground := Go.Ground.chain }, { on := 3, ground := Go.Ground.guard }], guard := some (3, false) }, { dst := some 85, op := Go.Op.binOp Go.BinOp.eql 3 (Go.Operand.tmp 82) (Go.Operand.tmp 84) 3, type := 4, pos := "same.go:24", after := #[{ on := 7, ground := Go.Ground.data }, { on := 9, ground := Go.Ground.data }, { on := 3, ground := Go.Ground.guard }], guard := some (3, false) }, { dst := some 86, op := Go.Op.pick (Go.Operand.tmp 78) (Go.Operand.const (Go.Value.bool true)) (Go.Operand.tmp 85), type := 4, pos := "same.go:24", after := #[{ on := 3, ground := Go.Ground.data }, { on := 10, ground := Go.Ground.data }], guard := none }, { dst := some 87, op := Go.Op.move (Go.Operand.tmp 86), type := 4, pos := "same.go:24", after := #[{ on := 11, ground := Go.Ground.data }, { on := 9, ground := Go.Ground.chain }], guard := none }, { dst := some 88, op := Go.Op.call { callee := Go.Callee.value (Go.Operand.func 21), args := #[], argTypes := #[] }, type := 4, pos := "same.go:24", after := #[{ on := 12, ground := Go.Ground.chain }, { on := 12, ground := Go.Ground.guard }], guard := some (12, true) }, { dst := some 89, op := Go.Op.pick (Go.Operand.tmp 87) (Go.Operand.tmp 88) (Go.Operand.const (Go.Value.bool false)), type := 4, pos := "same.go:24", after := #[{ on := 12, ground := Go.Ground.data }, { on := 13, ground := Go.Ground.data }], guard := none }, { dst := some 4, op := Go.Op.assign (Go.Operand.tmp 89), type := 4, pos := "same.go:24", after := #[{ on := 14, ground := Go.Ground.data }, { on := 13, ground := Go.Ground.chain }, { on := 0, ground := Go.Ground.phase }, { on := 1, ground := Go.Ground.phase }, { on := 2, ground := Go.Ground.phase }, { on := 3, ground := Go.Ground.phase }, { on := 4, ground := Go.Ground.phase }, { on := 5, ground := Go.Ground.phase }, { on := 6, ground := Go.Ground.phase }, { on := 7, ground := Go.Ground.phase }, { on := 8, ground := Go.Ground.phase }, { on := 9, ground := Go.Ground.phase }, { on := 10, ground := Go.Ground.phase }, { on := 11, ground := Go.Ground.phase }, { on := 12, ground := Go.Ground.phase }, { on := 13, ground := Go.Ground.phase }, { on := 14, ground := Go.Ground.phase }], guard := none }]
/-- The frame: what stood there, and what has come up. -/
def seF (f v : Nat → Value) : Act := ⟨#[f 0, f 1, f 2, f 3, v 15, f 5, f 6, f 7, f 8, f 9, f 10, f 11, f 12, f 13, f 14, f 15, f 16, f 17, f 18, f 19, f 20, f 21, f 22, f 23, f 24, f 25, f 26, f 27, f 28, f 29, f 30, f 31, f 32, f 33, f 34, f 35, f 36, f 37, f 38, f 39, f 40, f 41, f 42, f 43, f 44, f 45, f 46, f 47, f 48, f 49, f 50, f 51, f 52, f 53, f 54, f 55, f 56, f 57, f 58, f 59, f 60, f 61, f 62, f 63, f 64, f 65, f 66, f 67, f 68, f 69, f 70, f 71, f 72, f 73, f 74, v 0, v 1, v 2, v 3, v 4, v 5, v 6, v 7, v 8, v 9, v 10, v 11, v 12, v 13, v 14], []⟩
theorem seback : ∀ (i : Nat) (o : Oper), seops[i]? = some o → ∀ e ∈ o.after, Region.binds .any e = true → e.on < i := by
  have h : (List.range seops.size).all (fun i => (seops[i]?.map fun o => o.after.toList.all fun e => decide (e.on < i)).getD true) = true := by decide +kernel
  intro i o ho e he _
  have hi : i < seops.size := (Array.getElem?_eq_some_iff.1 ho).1
  have := List.all_eq_true.1 h i (List.mem_range.2 hi)
  rw [ho] at this
  simp only [Option.map_some, Option.getD_some] at this
  have := List.all_eq_true.1 this e (by simpa using he)
  simpa using this
theorem seat {i : Nat} {o : Oper} (h : seops[i]? = some o) : i < 16 := (Array.getElem?_eq_some_iff.1 h).1
theorem seput (f : Nat → Value) : ∀ (i : Nat) (o : Oper), seops[i]? = some o → ∀ v u, (seF f v).put o.dst u = seF f (setAt v i u) := by
  intro i o ho v u
  have hi := seat ho
  match i, hi with
  | 0, _ => cases ho; rfl
  | 1, _ => cases ho; rfl
  | 2, _ => cases ho; rfl
  | 3, _ => cases ho; rfl
  | 4, _ => cases ho; rfl
  | 5, _ => cases ho; rfl
  | 6, _ => cases ho; rfl
  | 7, _ => cases ho; rfl
  | 8, _ => cases ho; rfl
  | 9, _ => cases ho; rfl
  | 10, _ => cases ho; rfl
  | 11, _ => cases ho; rfl
  | 12, _ => cases ho; rfl
  | 13, _ => cases ho; rfl
  | 14, _ => cases ho; rfl
  | 15, _ => cases ho; rfl

/-- What each operation leaves. -/
def seJ (x : Value) : Nat → Value → World → Prop
  | 0, v, _ => v = x
  | 1, v, _ => v = .int .i64 0
  | 2, v, _ => v = .bool true
  | 3, v, _ => v = .bool true
  | 4, _, _ => True
  | 5, _, _ => True
  | 6, _, _ => True
  | 7, _, _ => True
  | 8, _, _ => True
  | 9, _, _ => True
  | 10, _, _ => True
  | _, v, _ => v = .bool true
theorem se_mono {x : Value} (j : Nat) (v : Value) (w w' : World) (hB : Below w.heap.size w w') (h : seJ x j v w) : seJ x j v w' := by
  unfold seJ at h ⊢
  split at h <;> exact h
def sePost (f : Nat → Value) (w0 : World) (x : Value) (v : Nat → Value) (w : World) (i : Nat) (dst : Option Tmp) (a' : Act) (w' : World) : Prop :=
  ∃ u, a' = (seF f v).put dst u ∧ Below w0.heap.size w0 w' ∧ Below w.heap.size w w' ∧ seJ x i u w'
set_option maxRecDepth 100000 in
set_option maxHeartbeats 1000000 in
theorem se_step {f : Nat → Value} {w0 : World} {lo : Option Addr} {lc : Nat} {Q : Exit → Act → World → Prop} (F7 : Hid (f 7 = .slice lo 0 lc)) :
    ∀ (i : Nat) (o : Oper), seops[i]? = some o → ∀ v w, Below w0.heap.size w0 w → (∀ e ∈ o.after, Region.binds .any e = true → seJ (.slice lo 0 lc) e.on (v e.on) w) →
      wpOp Try.prog seops Q i (sePost f w0 (.slice lo 0 lc) v w i o.dst) (seF f v) w := by
  intro i o ho v w hS hd
  have hi := seat ho
  match i, hi with
  | 0, _ =>
    replace ho : some ({ dst := some 75, op := Go.Op.move (Go.Operand.tmp 7), type := 24, pos := "same.go:24", after := #[], guard := none } : Oper) = some o := ho
    cases ho
    refine each_of (o := { dst := some 75, op := Go.Op.move (Go.Operand.tmp 7), type := 24, pos := "same.go:24", after := #[], guard := none }) rfl rfl ?_
    unfold seF
    rw [F7.out]
    go_simp
    exact ⟨_, by unfold seF; first | (rw [F7.out]; done) | (rw [F7.out]; rfl), hS, Below.refl _ _, rfl⟩
  | 1, _ =>
    replace ho : some ({ dst := some 76, op := Go.Op.call { callee := Go.Callee.builtin Go.Builtin.len, args := #[Go.Operand.tmp 75], argTypes := #[24] }, type := 3, pos := "same.go:24", after := #[{ on := 0, ground := Go.Ground.data }], guard := none } : Oper) = some o := ho
    cases ho
    have h0 : v 0 = .slice lo 0 lc := hd ⟨0, .data⟩ (by simp) rfl
    refine each_of (o := { dst := some 76, op := Go.Op.call { callee := Go.Callee.builtin Go.Builtin.len, args := #[Go.Operand.tmp 75], argTypes := #[24] }, type := 3, pos := "same.go:24", after := #[{ on := 0, ground := Go.Ground.data }], guard := none }) rfl rfl ?_
    unfold seF
    rw [h0]
    go_simp
    exact ⟨_, by unfold seF; first | (rw [h0]; done) | (rw [h0]; rfl), hS, Below.refl _ _, rfl⟩
  | 2, _ =>
    replace ho : some ({ dst := some 77, op := Go.Op.binOp Go.BinOp.eql 3 (Go.Operand.tmp 76) (Go.Operand.const (Go.Value.int Go.IntKind.i64 0)) 3, type := 4, pos := "same.go:24", after := #[{ on := 1, ground := Go.Ground.data }], guard := none } : Oper) = some o := ho
    cases ho
    have h1 : v 1 = .int .i64 0 := hd ⟨1, .data⟩ (by simp) rfl
    refine each_of (o := { dst := some 77, op := Go.Op.binOp Go.BinOp.eql 3 (Go.Operand.tmp 76) (Go.Operand.const (Go.Value.int Go.IntKind.i64 0)) 3, type := 4, pos := "same.go:24", after := #[{ on := 1, ground := Go.Ground.data }], guard := none }) rfl rfl ?_
    unfold seF
    rw [h1]
    go_simp
    exact ⟨_, by unfold seF; first | (rw [h1]; done) | (rw [h1]; rfl), hS, Below.refl _ _, rfl⟩
  | 3, _ =>
    replace ho : some ({ dst := some 78, op := Go.Op.move (Go.Operand.tmp 77), type := 4, pos := "same.go:24", after := #[{ on := 2, ground := Go.Ground.data }], guard := none } : Oper) = some o := ho
    cases ho
    have h2 : v 2 = .bool true := hd ⟨2, .data⟩ (by simp) rfl
    refine each_of (o := { dst := some 78, op := Go.Op.move (Go.Operand.tmp 77), type := 4, pos := "same.go:24", after := #[{ on := 2, ground := Go.Ground.data }], guard := none }) rfl rfl ?_
    unfold seF
    rw [h2]
    go_simp
    exact ⟨_, by unfold seF; first | (rw [h2]; done) | (rw [h2]; rfl), hS, Below.refl _ _, rfl⟩
  | 4, _ =>
    replace ho : some ({ dst := some 79, op := Go.Op.move (Go.Operand.tmp 7), type := 24, pos := "same.go:24", after := #[{ on := 3, ground := Go.Ground.guard }], guard := some (3, false) } : Oper) = some o := ho
    cases ho
    have h3 : v 3 = .bool true := hd ⟨3, .guard⟩ (by simp) rfl
    exact each_skip (o := { dst := some 79, op := Go.Op.move (Go.Operand.tmp 7), type := 24, pos := "same.go:24", after := #[{ on := 3, ground := Go.Ground.guard }], guard := some (3, false) }) rfl (by show ((match (some (v 3)) with | some (.bool b) => some b | _ => none) == some false) = false; rw [h3]; rfl) ⟨_, rfl, hS, Below.refl _ _, trivial⟩
  | 5, _ =>
    replace ho : some ({ dst := some 80, op := Go.Op.indexAddr 24 (Go.Operand.tmp 79) (Go.Operand.const (Go.Value.int Go.IntKind.i64 0)), type := 0, pos := "same.go:24", after := #[{ on := 4, ground := Go.Ground.data }, { on := 3, ground := Go.Ground.guard }], guard := some (3, false) } : Oper) = some o := ho
    cases ho
    have h3 : v 3 = .bool true := hd ⟨3, .guard⟩ (by simp) rfl
    exact each_skip (o := { dst := some 80, op := Go.Op.indexAddr 24 (Go.Operand.tmp 79) (Go.Operand.const (Go.Value.int Go.IntKind.i64 0)), type := 0, pos := "same.go:24", after := #[{ on := 4, ground := Go.Ground.data }, { on := 3, ground := Go.Ground.guard }], guard := some (3, false) }) rfl (by show ((match (some (v 3)) with | some (.bool b) => some b | _ => none) == some false) = false; rw [h3]; rfl) ⟨_, rfl, hS, Below.refl _ _, trivial⟩
  | 6, _ =>
    replace ho : some ({ dst := some 81, op := Go.Op.load 22 (Go.Operand.tmp 80), type := 22, pos := "same.go:24", after := #[{ on := 5, ground := Go.Ground.data }, { on := 3, ground := Go.Ground.guard }], guard := some (3, false) } : Oper) = some o := ho
    cases ho
    have h3 : v 3 = .bool true := hd ⟨3, .guard⟩ (by simp) rfl
    exact each_skip (o := { dst := some 81, op := Go.Op.load 22 (Go.Operand.tmp 80), type := 22, pos := "same.go:24", after := #[{ on := 5, ground := Go.Ground.data }, { on := 3, ground := Go.Ground.guard }], guard := some (3, false) }) rfl (by show ((match (some (v 3)) with | some (.bool b) => some b | _ => none) == some false) = false; rw [h3]; rfl) ⟨_, rfl, hS, Below.refl _ _, trivial⟩
  | 7, _ =>
    replace ho : some ({ dst := some 82, op := Go.Op.call { callee := Go.Callee.builtin Go.Builtin.len, args := #[Go.Operand.tmp 81], argTypes := #[22] }, type := 3, pos := "same.go:24", after := #[{ on := 6, ground := Go.Ground.data }, { on := 3, ground := Go.Ground.guard }], guard := some (3, false) } : Oper) = some o := ho
    cases ho
    have h3 : v 3 = .bool true := hd ⟨3, .guard⟩ (by simp) rfl
    exact each_skip (o := { dst := some 82, op := Go.Op.call { callee := Go.Callee.builtin Go.Builtin.len, args := #[Go.Operand.tmp 81], argTypes := #[22] }, type := 3, pos := "same.go:24", after := #[{ on := 6, ground := Go.Ground.data }, { on := 3, ground := Go.Ground.guard }], guard := some (3, false) }) rfl (by show ((match (some (v 3)) with | some (.bool b) => some b | _ => none) == some false) = false; rw [h3]; rfl) ⟨_, rfl, hS, Below.refl _ _, trivial⟩
  | 8, _ =>
    replace ho : some ({ dst := some 83, op := Go.Op.move (Go.Operand.tmp 5), type := 22, pos := "same.go:24", after := #[{ on := 3, ground := Go.Ground.guard }], guard := some (3, false) } : Oper) = some o := ho
    cases ho
    have h3 : v 3 = .bool true := hd ⟨3, .guard⟩ (by simp) rfl
    exact each_skip (o := { dst := some 83, op := Go.Op.move (Go.Operand.tmp 5), type := 22, pos := "same.go:24", after := #[{ on := 3, ground := Go.Ground.guard }], guard := some (3, false) }) rfl (by show ((match (some (v 3)) with | some (.bool b) => some b | _ => none) == some false) = false; rw [h3]; rfl) ⟨_, rfl, hS, Below.refl _ _, trivial⟩
  | 9, _ =>
    replace ho : some ({ dst := some 84, op := Go.Op.call { callee := Go.Callee.value (Go.Operand.func 17), args := #[Go.Operand.tmp 83], argTypes := #[22] }, type := 3, pos := "same.go:24", after := #[{ on := 8, ground := Go.Ground.data }, { on := 3, ground := Go.Ground.chain }, { on := 3, ground := Go.Ground.guard }], guard := some (3, false) } : Oper) = some o := ho
    cases ho
    have h3 : v 3 = .bool true := hd ⟨3, .guard⟩ (by simp) rfl
    exact each_skip (o := { dst := some 84, op := Go.Op.call { callee := Go.Callee.value (Go.Operand.func 17), args := #[Go.Operand.tmp 83], argTypes := #[22] }, type := 3, pos := "same.go:24", after := #[{ on := 8, ground := Go.Ground.data }, { on := 3, ground := Go.Ground.chain }, { on := 3, ground := Go.Ground.guard }], guard := some (3, false) }) rfl (by show ((match (some (v 3)) with | some (.bool b) => some b | _ => none) == some false) = false; rw [h3]; rfl) ⟨_, rfl, hS, Below.refl _ _, trivial⟩
  | 10, _ =>
    replace ho : some ({ dst := some 85, op := Go.Op.binOp Go.BinOp.eql 3 (Go.Operand.tmp 82) (Go.Operand.tmp 84) 3, type := 4, pos := "same.go:24", after := #[{ on := 7, ground := Go.Ground.data }, { on := 9, ground := Go.Ground.data }, { on := 3, ground := Go.Ground.guard }], guard := some (3, false) } : Oper) = some o := ho
    cases ho
    have h3 : v 3 = .bool true := hd ⟨3, .guard⟩ (by simp) rfl
    exact each_skip (o := { dst := some 85, op := Go.Op.binOp Go.BinOp.eql 3 (Go.Operand.tmp 82) (Go.Operand.tmp 84) 3, type := 4, pos := "same.go:24", after := #[{ on := 7, ground := Go.Ground.data }, { on := 9, ground := Go.Ground.data }, { on := 3, ground := Go.Ground.guard }], guard := some (3, false) }) rfl (by show ((match (some (v 3)) with | some (.bool b) => some b | _ => none) == some false) = false; rw [h3]; rfl) ⟨_, rfl, hS, Below.refl _ _, trivial⟩
  | 11, _ =>
    replace ho : some ({ dst := some 86, op := Go.Op.pick (Go.Operand.tmp 78) (Go.Operand.const (Go.Value.bool true)) (Go.Operand.tmp 85), type := 4, pos := "same.go:24", after := #[{ on := 3, ground := Go.Ground.data }, { on := 10, ground := Go.Ground.data }], guard := none } : Oper) = some o := ho
    cases ho
    have h3 : v 3 = .bool true := hd ⟨3, .data⟩ (by simp) rfl
    refine each_of (o := { dst := some 86, op := Go.Op.pick (Go.Operand.tmp 78) (Go.Operand.const (Go.Value.bool true)) (Go.Operand.tmp 85), type := 4, pos := "same.go:24", after := #[{ on := 3, ground := Go.Ground.data }, { on := 10, ground := Go.Ground.data }], guard := none }) rfl rfl ?_
    unfold seF
    rw [h3]
    go_simp
    exact ⟨_, by unfold seF; first | (rw [h3]; done) | (rw [h3]; rfl), hS, Below.refl _ _, rfl⟩
  | 12, _ =>
    replace ho : some ({ dst := some 87, op := Go.Op.move (Go.Operand.tmp 86), type := 4, pos := "same.go:24", after := #[{ on := 11, ground := Go.Ground.data }, { on := 9, ground := Go.Ground.chain }], guard := none } : Oper) = some o := ho
    cases ho
    have h11 : v 11 = .bool true := hd ⟨11, .data⟩ (by simp) rfl
    refine each_of (o := { dst := some 87, op := Go.Op.move (Go.Operand.tmp 86), type := 4, pos := "same.go:24", after := #[{ on := 11, ground := Go.Ground.data }, { on := 9, ground := Go.Ground.chain }], guard := none }) rfl rfl ?_
    unfold seF
    rw [h11]
    go_simp
    exact ⟨_, by unfold seF; first | (rw [h11]; done) | (rw [h11]; rfl), hS, Below.refl _ _, rfl⟩
  | 13, _ =>
    replace ho : some ({ dst := some 88, op := Go.Op.call { callee := Go.Callee.value (Go.Operand.func 21), args := #[], argTypes := #[] }, type := 4, pos := "same.go:24", after := #[{ on := 12, ground := Go.Ground.chain }, { on := 12, ground := Go.Ground.guard }], guard := some (12, true) } : Oper) = some o := ho
    cases ho
    have h12 : v 12 = .bool true := hd ⟨12, .chain⟩ (by simp) rfl
    refine each_of (o := { dst := some 88, op := Go.Op.call { callee := Go.Callee.value (Go.Operand.func 21), args := #[], argTypes := #[] }, type := 4, pos := "same.go:24", after := #[{ on := 12, ground := Go.Ground.chain }, { on := 12, ground := Go.Ground.guard }], guard := some (12, true) }) rfl (by show ((match (some (v 12)) with | some (.bool b) => some b | _ => none) == some true) = true; rw [h12]; rfl) ?_
    unfold seF
    rw [h12]
    go_simp
    refine (wakes4 w).mono ?_
    rintro e w' ⟨rfl, hB⟩
    exact ⟨_, by unfold seF; first | (rw [h12]; done) | (rw [h12]; rfl), hS.trans (hB.mono hS.size), hB, rfl⟩
  | 14, _ =>
    replace ho : some ({ dst := some 89, op := Go.Op.pick (Go.Operand.tmp 87) (Go.Operand.tmp 88) (Go.Operand.const (Go.Value.bool false)), type := 4, pos := "same.go:24", after := #[{ on := 12, ground := Go.Ground.data }, { on := 13, ground := Go.Ground.data }], guard := none } : Oper) = some o := ho
    cases ho
    have h12 : v 12 = .bool true := hd ⟨12, .data⟩ (by simp) rfl
    have h13 : v 13 = .bool true := hd ⟨13, .data⟩ (by simp) rfl
    refine each_of (o := { dst := some 89, op := Go.Op.pick (Go.Operand.tmp 87) (Go.Operand.tmp 88) (Go.Operand.const (Go.Value.bool false)), type := 4, pos := "same.go:24", after := #[{ on := 12, ground := Go.Ground.data }, { on := 13, ground := Go.Ground.data }], guard := none }) rfl rfl ?_
    unfold seF
    rw [h12, h13]
    go_simp
    exact ⟨_, by unfold seF; first | (rw [h12, h13]; done) | (rw [h12, h13]; rfl), hS, Below.refl _ _, rfl⟩
  | 15, _ =>
    replace ho : some ({ dst := some 4, op := Go.Op.assign (Go.Operand.tmp 89), type := 4, pos := "same.go:24", after := #[{ on := 14, ground := Go.Ground.data }, { on := 13, ground := Go.Ground.chain }, { on := 0, ground := Go.Ground.phase }, { on := 1, ground := Go.Ground.phase }, { on := 2, ground := Go.Ground.phase }, { on := 3, ground := Go.Ground.phase }, { on := 4, ground := Go.Ground.phase }, { on := 5, ground := Go.Ground.phase }, { on := 6, ground := Go.Ground.phase }, { on := 7, ground := Go.Ground.phase }, { on := 8, ground := Go.Ground.phase }, { on := 9, ground := Go.Ground.phase }, { on := 10, ground := Go.Ground.phase }, { on := 11, ground := Go.Ground.phase }, { on := 12, ground := Go.Ground.phase }, { on := 13, ground := Go.Ground.phase }, { on := 14, ground := Go.Ground.phase }], guard := none } : Oper) = some o := ho
    cases ho
    have h14 : v 14 = .bool true := hd ⟨14, .data⟩ (by simp) rfl
    refine each_of (o := { dst := some 4, op := Go.Op.assign (Go.Operand.tmp 89), type := 4, pos := "same.go:24", after := #[{ on := 14, ground := Go.Ground.data }, { on := 13, ground := Go.Ground.chain }, { on := 0, ground := Go.Ground.phase }, { on := 1, ground := Go.Ground.phase }, { on := 2, ground := Go.Ground.phase }, { on := 3, ground := Go.Ground.phase }, { on := 4, ground := Go.Ground.phase }, { on := 5, ground := Go.Ground.phase }, { on := 6, ground := Go.Ground.phase }, { on := 7, ground := Go.Ground.phase }, { on := 8, ground := Go.Ground.phase }, { on := 9, ground := Go.Ground.phase }, { on := 10, ground := Go.Ground.phase }, { on := 11, ground := Go.Ground.phase }, { on := 12, ground := Go.Ground.phase }, { on := 13, ground := Go.Ground.phase }, { on := 14, ground := Go.Ground.phase }], guard := none }) rfl rfl ?_
    unfold seF
    rw [h14]
    go_simp
    exact ⟨_, by unfold seF; first | (rw [h14]; done) | (rw [h14]; rfl), hS, Below.refl _ _, rfl⟩

theorem se_at {A0 : Act} {w0 : World} {lo : Option Addr} {lc : Nat} {Q : Exit → Act → World → Prop} (hA : A0 = seF (fun i => A0.tmps.getD i undef) (fun i => A0.tmps.getD (if i = 0 then 75 else if i = 1 then 76 else if i = 2 then 77 else if i = 3 then 78 else if i = 4 then 79 else if i = 5 then 80 else if i = 6 then 81 else if i = 7 then 82 else if i = 8 then 83 else if i = 9 then 84 else if i = 10 then 85 else if i = 11 then 86 else if i = 12 then 87 else if i = 13 then 88 else if i = 14 then 89 else if i = 15 then 4 else 0) undef))
    (f7 : A0.tmps.getD 7 undef = .slice lo 0 lc)
    (hQ : ∀ v w, Below w0.heap.size w0 w → v 15 = .bool true → Q .normal (seF (fun i => A0.tmps.getD i undef) v) w) : (Code.region 15 seops true).wp Try.prog Q A0 w0 := by
  have := wp_region_each (id := 15) (F := seF (fun i => A0.tmps.getD i undef)) (S := fun w => Below w0.heap.size w0 w) (J := seJ (.slice lo 0 lc)) (R := fun w w' => Below w.heap.size w w') (by kernel_rfl) seback (seput _) se_mono
    (se_step (Lib.hid f7)) (fun v w hS hJ => hQ v w hS (hJ 15 (by decide))) (fun i => A0.tmps.getD (if i = 0 then 75 else if i = 1 then 76 else if i = 2 then 77 else if i = 3 then 78 else if i = 4 then 79 else if i = 5 then 80 else if i = 6 then 81 else if i = 7 then 82 else if i = 8 then 83 else if i = 9 then 84 else if i = 10 then 85 else if i = 11 then 86 else if i = 12 then 87 else if i = 13 then 88 else if i = 14 then 89 else if i = 15 then 4 else 0) undef) ((Below.refl _ _).drew)
  rwa [← hA] at this

end Go.Proofs.Ytcldfnnnjmhkjaa
