/-
  ShaParts' last statement, in whatever order.
-/
import Derived.Test.YtdpnkdliibccjaaDoorCuts
namespace Go.Proofs.YtdpnkdliibccjaaDoor
open Go.RowKit
set_option linter.unusedVariables false

theorem part_nil (w : World) : Part.ok w ⟨none, 0, 0, []⟩ := ⟨Rd.nil _ _, rfl, Bts.nil, Nat.zero_le _, fun _ => rfl, Nat.le_refl _, Nat.zero_le _⟩
theorem sum_side {w : World} {g n : Nat} {ps : List Part} {SV : List Value} (hT : Tab w) (hp : Ps w (some ⟨g, 0, none⟩) ps) (hv : shaV (flat ps) = SV) (hN : (flat ps).length ≤ 100000000) (hn : ps.length = n) (hm : n ≤ 1000) :
    Calls Tryd.prog 10 #[.slice (some ⟨g, 0, none⟩) n n] w fun e w' => e = .returned (.agg SV.toArray) ∧ Below w.heap.size w w' := by
  rw [← hv]
  exact sum_any _ n n ps w hn (by omega) hT hp hN
theorem sum_nil {SE : List Value} (w : World) (hT : Tab w) (hv : shaV [] = SE) : Calls Tryd.prog 10 #[.slice none 0 0] w fun e w' => e = .returned (.agg SE.toArray) ∧ Below w.heap.size w w' := by
  rw [← hv]
  exact sum_any none 0 0 [] w rfl (by omega) hT (Ps.nil _ _) (by decide)
/-- Its operations. -/
def props : Array Oper := #[{ dst := some 19, op := Go.Op.move (Go.Operand.tmp 0), type := 22, pos := "law.go:44", after := #[], guard := none }, { dst := some 20, op := Go.Op.call { callee := Go.Callee.value (Go.Operand.func 10), args := #[Go.Operand.tmp 19], argTypes := #[22] }, type := 25, pos := "law.go:44", after := #[{ on := 0, ground := Go.Ground.data }], guard := none }, { dst := some 21, op := Go.Op.move (Go.Operand.tmp 5), type := 28, pos := "law.go:44", after := #[], guard := none }, { dst := some 22, op := Go.Op.buildSlice 22 1 #[(0, Go.Operand.tmp 21)], type := 22, pos := "law.go:44", after := #[{ on := 2, ground := Go.Ground.data }], guard := none }, { dst := some 23, op := Go.Op.call { callee := Go.Callee.value (Go.Operand.func 10), args := #[Go.Operand.tmp 22], argTypes := #[22] }, type := 25, pos := "law.go:44", after := #[{ on := 3, ground := Go.Ground.data }, { on := 1, ground := Go.Ground.chain }], guard := none }, { dst := some 24, op := Go.Op.binOp Go.BinOp.eql 25 (Go.Operand.tmp 20) (Go.Operand.tmp 23) 25, type := 4, pos := "law.go:44", after := #[{ on := 1, ground := Go.Ground.data }, { on := 4, ground := Go.Ground.data }], guard := none }, { dst := some 25, op := Go.Op.move (Go.Operand.tmp 24), type := 4, pos := "law.go:44", after := #[{ on := 5, ground := Go.Ground.data }, { on := 4, ground := Go.Ground.chain }], guard := none }, { dst := some 26, op := Go.Op.move (Go.Operand.tmp 5), type := 28, pos := "law.go:44", after := #[{ on := 6, ground := Go.Ground.guard }], guard := some (6, true) }, { dst := some 27, op := Go.Op.move (Go.Operand.tmp 6), type := 3, pos := "law.go:44", after := #[{ on := 6, ground := Go.Ground.guard }], guard := some (6, true) }, { dst := some 28, op := Go.Op.slice 28 (Go.Operand.tmp 26) none (some (Go.Operand.tmp 27)) none, type := 28, pos := "law.go:44", after := #[{ on := 7, ground := Go.Ground.data }, { on := 8, ground := Go.Ground.data }, { on := 6, ground := Go.Ground.guard }], guard := some (6, true) }, { dst := some 29, op := Go.Op.move (Go.Operand.tmp 5), type := 28, pos := "law.go:44", after := #[{ on := 6, ground := Go.Ground.guard }], guard := some (6, true) }, { dst := some 30, op := Go.Op.move (Go.Operand.tmp 6), type := 3, pos := "law.go:44", after := #[{ on := 6, ground := Go.Ground.guard }], guard := some (6, true) }, { dst := some 31, op := Go.Op.slice 28 (Go.Operand.tmp 29) (some (Go.Operand.tmp 30)) none none, type := 28, pos := "law.go:44", after := #[{ on := 10, ground := Go.Ground.data }, { on := 11, ground := Go.Ground.data }, { on := 6, ground := Go.Ground.guard }], guard := some (6, true) }, { dst := some 32, op := Go.Op.buildSlice 22 2 #[(0, Go.Operand.tmp 28), (1, Go.Operand.tmp 31)], type := 22, pos := "law.go:44", after := #[{ on := 9, ground := Go.Ground.data }, { on := 12, ground := Go.Ground.data }, { on := 6, ground := Go.Ground.guard }], guard := some (6, true) }, { dst := some 33, op := Go.Op.call { callee := Go.Callee.value (Go.Operand.func 10), args := #[Go.Operand.tmp 32], argTypes := #[22] }, type := 25, pos := "law.go:44", after := #[{ on := 13, ground := Go.Ground.data }, { on := 6, ground := Go.Ground.chain }, { on := 6, ground := Go.Ground.guard }], guard := some (6, true) }, { dst := some 34, op := Go.Op.move (Go.Operand.tmp 5), type := 28, pos := "law.go:44", after := #[{ on := 6, ground := Go.Ground.guard }], guard := some (6, true) }, { dst := some 35, op := Go.Op.buildSlice 22 1 #[(0, Go.Operand.tmp 34)], type := 22, pos := "law.go:44", after := #[{ on := 15, ground := Go.Ground.data }, { on := 6, ground := Go.Ground.guard }], guard := some (6, true) }, { dst := some 36, op := Go.Op.call { callee := Go.Callee.value (Go.Operand.func 10), args := #[Go.Operand.tmp 35], argTypes := #[22] }, type := 25, pos := "law.go:44", after := #[{ on := 16, ground := Go.Ground.data }, { on := 14, ground := Go.Ground.chain }, { on := 6, ground := Go.Ground.guard }], guard := some (6, true) }, { dst := some 37, op := Go.Op.binOp Go.BinOp.eql 25 (Go.Operand.tmp 33) (Go.Operand.tmp 36) 25, type := 4, pos := "law.go:44", after := #[{ on := 14, ground := Go.Ground.data }, { on := 17, ground := Go.Ground.data }, { on := 6, ground := Go.Ground.guard }], guard := some (6, true) }, { dst := some 38, op := Go.Op.pick (Go.Operand.tmp 25) (Go.Operand.tmp 37) (Go.Operand.const (Go.Value.bool false)), type := 4, pos := "law.go:44", after := #[{ on := 6, ground := Go.Ground.data }, { on := 18, ground := Go.Ground.data }], guard := none }, { dst := some 39, op := Go.Op.move (Go.Operand.tmp 38), type := 4, pos := "law.go:44", after := #[{ on := 19, ground := Go.Ground.data }, { on := 17, ground := Go.Ground.chain }], guard := none }, { dst := some 40, op := Go.Op.call { callee := Go.Callee.value (Go.Operand.func 10), args := #[Go.Operand.const (Go.Value.slice none 0 0)], argTypes := #[22] }, type := 25, pos := "law.go:44", after := #[{ on := 20, ground := Go.Ground.chain }, { on := 20, ground := Go.Ground.guard }], guard := some (20, true) }, { dst := some 41, op := Go.Op.buildSlice 22 2 #[(0, Go.Operand.const (Go.Value.slice none 0 0)), (1, Go.Operand.const (Go.Value.slice none 0 0))], type := 22, pos := "law.go:44", after := #[{ on := 20, ground := Go.Ground.guard }], guard := some (20, true) }, { dst := some 42, op := Go.Op.call { callee := Go.Callee.value (Go.Operand.func 10), args := #[Go.Operand.tmp 41], argTypes := #[22] }, type := 25, pos := "law.go:44", after := #[{ on := 22, ground := Go.Ground.data }, { on := 21, ground := Go.Ground.chain }, { on := 20, ground := Go.Ground.guard }], guard := some (20, true) }, { dst := some 43, op := Go.Op.binOp Go.BinOp.eql 25 (Go.Operand.tmp 40) (Go.Operand.tmp 42) 25, type := 4, pos := "law.go:44", after := #[{ on := 21, ground := Go.Ground.data }, { on := 23, ground := Go.Ground.data }, { on := 20, ground := Go.Ground.guard }], guard := some (20, true) }, { dst := some 44, op := Go.Op.pick (Go.Operand.tmp 39) (Go.Operand.tmp 43) (Go.Operand.const (Go.Value.bool false)), type := 4, pos := "law.go:44", after := #[{ on := 20, ground := Go.Ground.data }, { on := 24, ground := Go.Ground.data }], guard := none }, { dst := some 45, op := Go.Op.move (Go.Operand.tmp 44), type := 4, pos := "law.go:44", after := #[{ on := 25, ground := Go.Ground.data }, { on := 23, ground := Go.Ground.chain }], guard := none }, { dst := some 46, op := Go.Op.call { callee := Go.Callee.value (Go.Operand.func 14), args := #[], argTypes := #[] }, type := 4, pos := "law.go:44", after := #[{ on := 26, ground := Go.Ground.chain }, { on := 26, ground := Go.Ground.guard }], guard := some (26, true) }, { dst := some 47, op := Go.Op.pick (Go.Operand.tmp 45) (Go.Operand.tmp 46) (Go.Operand.const (Go.Value.bool false)), type := 4, pos := "law.go:44", after := #[{ on := 26, ground := Go.Ground.data }, { on := 27, ground := Go.Ground.data }], guard := none }, { dst := some 4, op := Go.Op.assign (Go.Operand.tmp 47), type := 4, pos := "law.go:44", after := #[{ on := 28, ground := Go.Ground.data }, { on := 27, ground := Go.Ground.chain }, { on := 0, ground := Go.Ground.phase }, { on := 1, ground := Go.Ground.phase }, { on := 2, ground := Go.Ground.phase }, { on := 3, ground := Go.Ground.phase }, { on := 4, ground := Go.Ground.phase }, { on := 5, ground := Go.Ground.phase }, { on := 6, ground := Go.Ground.phase }, { on := 7, ground := Go.Ground.phase }, { on := 8, ground := Go.Ground.phase }, { on := 9, ground := Go.Ground.phase }, { on := 10, ground := Go.Ground.phase }, { on := 11, ground := Go.Ground.phase }, { on := 12, ground := Go.Ground.phase }, { on := 13, ground := Go.Ground.phase }, { on := 14, ground := Go.Ground.phase }, { on := 15, ground := Go.Ground.phase }, { on := 16, ground := Go.Ground.phase }, { on := 17, ground := Go.Ground.phase }, { on := 18, ground := Go.Ground.phase }, { on := 19, ground := Go.Ground.phase }, { on := 20, ground := Go.Ground.phase }, { on := 21, ground := Go.Ground.phase }, { on := 22, ground := Go.Ground.phase }, { on := 23, ground := Go.Ground.phase }, { on := 24, ground := Go.Ground.phase }, { on := 25, ground := Go.Ground.phase }, { on := 26, ground := Go.Ground.phase }, { on := 27, ground := Go.Ground.phase }, { on := 28, ground := Go.Ground.phase }], guard := none }]
/-- The frame: what stood there, and what has come up. -/
def prF (f v : Nat → Value) : Act := ⟨#[f 0, f 1, f 2, f 3, v 29, f 5, f 6, f 7, f 8, f 9, f 10, f 11, f 12, f 13, f 14, f 15, f 16, f 17, f 18, v 0, v 1, v 2, v 3, v 4, v 5, v 6, v 7, v 8, v 9, v 10, v 11, v 12, v 13, v 14, v 15, v 16, v 17, v 18, v 19, v 20, v 21, v 22, v 23, v 24, v 25, v 26, v 27, v 28], []⟩
theorem prback : ∀ (i : Nat) (o : Oper), props[i]? = some o → ∀ e ∈ o.after, Region.binds .any e = true → e.on < i := by
  have h : (List.range props.size).all (fun i => (props[i]?.map fun o => o.after.toList.all fun e => decide (e.on < i)).getD true) = true := by decide +kernel
  intro i o ho e he _
  have hi : i < props.size := (Array.getElem?_eq_some_iff.1 ho).1
  have := List.all_eq_true.1 h i (List.mem_range.2 hi)
  rw [ho] at this
  simp only [Option.map_some, Option.getD_some] at this
  have := List.all_eq_true.1 this e (by simpa using he)
  simpa using this
theorem prat {i : Nat} {o : Oper} (h : props[i]? = some o) : i < 30 := (Array.getElem?_eq_some_iff.1 h).1
theorem prput (f : Nat → Value) : ∀ (i : Nat) (o : Oper), props[i]? = some o → ∀ v u, (prF f v).put o.dst u = prF f (setAt v i u) := by
  intro i o ho v u
  have hi := prat ho
  match i, hi with
  | 0, _ => cases ho; rfl
  | 1, _ => cases ho; rfl
  | 2, _ => cases ho; rfl
  | 3, _ => cases ho; rfl
  | 4, _ => cases ho; rfl
  | 5, _ => cases ho; rfl
  | 6, _ => cases ho; rfl
  | 7, _ => cases ho; rfl
  | 8, _ => cases ho; rfl
  | 9, _ => cases ho; rfl
  | 10, _ => cases ho; rfl
  | 11, _ => cases ho; rfl
  | 12, _ => cases ho; rfl
  | 13, _ => cases ho; rfl
  | 14, _ => cases ho; rfl
  | 15, _ => cases ho; rfl
  | 16, _ => cases ho; rfl
  | 17, _ => cases ho; rfl
  | 18, _ => cases ho; rfl
  | 19, _ => cases ho; rfl
  | 20, _ => cases ho; rfl
  | 21, _ => cases ho; rfl
  | 22, _ => cases ho; rfl
  | 23, _ => cases ho; rfl
  | 24, _ => cases ho; rfl
  | 25, _ => cases ho; rfl
  | 26, _ => cases ho; rfl
  | 27, _ => cases ho; rfl
  | 28, _ => cases ho; rfl
  | 29, _ => cases ho; rfl

/-- What each operation leaves. -/
def prJ (SV : List Value) (SE : List Value) (PSv : Value) (pz : Part) (p1 : Part) (p2 : Part) (T : Nat) : Nat → Value → World → Prop
  | 0, v, w => v = PSv
  | 1, v, w => v = .agg SV.toArray
  | 2, v, w => v = pz.v
  | 3, v, w => ∃ g, v = .slice (some ⟨g, 0, none⟩) 1 1 ∧ Ps w (some ⟨g, 0, none⟩) [pz]
  | 4, v, w => v = .agg SV.toArray
  | 5, v, w => v = .bool true
  | 6, v, w => v = .bool true
  | 7, v, w => v = pz.v
  | 8, v, w => v = .int .i64 (T : Int)
  | 9, v, w => v = p1.v
  | 10, v, w => v = pz.v
  | 11, v, w => v = .int .i64 (T : Int)
  | 12, v, w => v = p2.v
  | 13, v, w => ∃ g, v = .slice (some ⟨g, 0, none⟩) 2 2 ∧ Ps w (some ⟨g, 0, none⟩) [p1, p2]
  | 14, v, w => v = .agg SV.toArray
  | 15, v, w => v = pz.v
  | 16, v, w => ∃ g, v = .slice (some ⟨g, 0, none⟩) 1 1 ∧ Ps w (some ⟨g, 0, none⟩) [pz]
  | 17, v, w => v = .agg SV.toArray
  | 18, v, w => v = .bool true
  | 19, v, w => v = .bool true
  | 20, v, w => v = .bool true
  | 21, v, w => v = .agg SE.toArray
  | 22, v, w => ∃ g, v = .slice (some ⟨g, 0, none⟩) 2 2 ∧ Ps w (some ⟨g, 0, none⟩) [⟨none, 0, 0, []⟩, ⟨none, 0, 0, []⟩]
  | 23, v, w => v = .agg SE.toArray
  | 24, v, w => v = .bool true
  | 25, v, w => v = .bool true
  | 26, v, w => v = .bool true
  | 27, v, w => v = .bool true
  | 28, v, w => v = .bool true
  | _, v, w => v = .bool true
theorem prmono {SV : List Value} {SE : List Value} {PSv : Value} {pz : Part} {p1 : Part} {p2 : Part} {T : Nat} (j : Nat) (v : Value) (w w' : World) (hB : Below w.heap.size w w') (h : prJ SV SE PSv pz p1 p2 T j v w) : prJ SV SE PSv pz p1 p2 T j v w' := by
  unfold prJ at h ⊢
  split at h <;> first | exact h | (obtain ⟨g, h1, h2⟩ := h; exact ⟨g, h1, h2.below hB⟩)
/-- What is known ahead of it. -/
structure prK (f : Nat → Value) (w0 : World) (SV : List Value) (SE : List Value) (PSv : Value) (pz : Part) (p1 : Part) (p2 : Part) (T : Nat) : Prop where
  t : Tab w0
  f0 : f 0 = PSv
  f5 : f 5 = pz.v
  f6 : f 6 = .int .i64 (T : Int)
  s0 : ∀ w, Below w0.heap.size w0 w → Calls Tryd.prog 10 #[PSv] w fun e w' => e = .returned (.agg SV.toArray) ∧ Below w.heap.size w w'
  z : pz.ok w0
  a : p1.ok w0
  b : p2.ok w0
  v1 : shaV (flat [pz]) = SV
  v2 : shaV (flat [p1, p2]) = SV
  n1 : (flat [pz]).length ≤ 100000000
  n2 : (flat [p1, p2]).length ≤ 100000000
  ve : shaV [] = SE
  e1 : ∀ V, (binOp .eql 25 (.agg SV.toArray) (.agg SV.toArray)).run Tryd.prog V = .ok (.bool true) V
  e2 : ∀ V, (Op.equalIn 10000 25 (.agg SV.toArray) (.agg SV.toArray)).run Tryd.prog V = .ok true V
  e3 : ∀ V, (binOp .eql 25 (.agg SE.toArray) (.agg SE.toArray)).run Tryd.prog V = .ok (.bool true) V
  e4 : ∀ V, (Op.equalIn 10000 25 (.agg SE.toArray) (.agg SE.toArray)).run Tryd.prog V = .ok true V
  l1 : ∀ w, (Instr.slice 28 pz.v none (some (.int .i64 (T : Int))) none).run Tryd.prog w = .ok p1.v w
  l2 : ∀ w, (Instr.slice 28 pz.v (some (.int .i64 (T : Int))) none none).run Tryd.prog w = .ok p2.v w
def prPost (f : Nat → Value) (w0 : World) (SV : List Value) (SE : List Value) (PSv : Value) (pz : Part) (p1 : Part) (p2 : Part) (T : Nat) (v : Nat → Value) (w : World) (i : Nat) (dst : Option Tmp) (a' : Act) (w' : World) : Prop :=
  ∃ u, a' = (prF f v).put dst u ∧ Below w0.heap.size w0 w' ∧ Below w.heap.size w w' ∧ prJ SV SE PSv pz p1 p2 T i u w'
set_option maxRecDepth 100000 in
set_option maxHeartbeats 2000000 in
theorem prstep {f : Nat → Value} {w0 : World} {SV : List Value} {SE : List Value} {PSv : Value} {pz : Part} {p1 : Part} {p2 : Part} {T : Nat} {Q : Exit → Act → World → Prop} (K : prK f w0 SV SE PSv pz p1 p2 T) :
    ∀ (i : Nat) (o : Oper), props[i]? = some o → ∀ v w, Below w0.heap.size w0 w → (∀ e ∈ o.after, Region.binds .any e = true → prJ SV SE PSv pz p1 p2 T e.on (v e.on) w) →
      wpOp Tryd.prog props Q i (prPost f w0 SV SE PSv pz p1 p2 T v w i o.dst) (prF f v) w := by
  intro i o ho v w hS hd
  have hi := prat ho
  have hT := K.t.below hS
  match i, hi with
  | 0, _ =>
    replace ho : some ({ dst := some 19, op := Go.Op.move (Go.Operand.tmp 0), type := 22, pos := "law.go:44", after := #[], guard := none } : Oper) = some o := ho
    cases ho
    refine each_of (o := { dst := some 19, op := Go.Op.move (Go.Operand.tmp 0), type := 22, pos := "law.go:44", after := #[], guard := none }) rfl rfl ?_
    unfold prF
    rw [K.f0]
    go_simp
    exact ⟨_, by unfold prF; first | (rw [K.f0]; done) | (rw [K.f0]; rfl), hS, Below.refl _ _, rfl⟩
  | 1, _ =>
    replace ho : some ({ dst := some 20, op := Go.Op.call { callee := Go.Callee.value (Go.Operand.func 10), args := #[Go.Operand.tmp 19], argTypes := #[22] }, type := 25, pos := "law.go:44", after := #[{ on := 0, ground := Go.Ground.data }], guard := none } : Oper) = some o := ho
    cases ho
    have h0 : v 0 = PSv := hd ⟨0, .data⟩ (by simp) rfl
    refine each_of (o := { dst := some 20, op := Go.Op.call { callee := Go.Callee.value (Go.Operand.func 10), args := #[Go.Operand.tmp 19], argTypes := #[22] }, type := 25, pos := "law.go:44", after := #[{ on := 0, ground := Go.Ground.data }], guard := none }) rfl rfl ?_
    unfold prF
    rw [h0]
    go_simp
    refine (K.s0 w hS).mono ?_
    rintro e w' ⟨rfl, hB⟩
    exact ⟨_, by unfold prF; first | (rw [h0]; done) | (rw [h0]; rfl), hS.trans (hB.mono hS.size), hB, rfl⟩
  | 2, _ =>
    replace ho : some ({ dst := some 21, op := Go.Op.move (Go.Operand.tmp 5), type := 28, pos := "law.go:44", after := #[], guard := none } : Oper) = some o := ho
    cases ho
    refine each_of (o := { dst := some 21, op := Go.Op.move (Go.Operand.tmp 5), type := 28, pos := "law.go:44", after := #[], guard := none }) rfl rfl ?_
    unfold prF
    rw [K.f5]
    go_simp
    exact ⟨_, by unfold prF; first | (rw [K.f5]; done) | (rw [K.f5]; rfl), hS, Below.refl _ _, rfl⟩
  | 3, _ =>
    replace ho : some ({ dst := some 22, op := Go.Op.buildSlice 22 1 #[(0, Go.Operand.tmp 21)], type := 22, pos := "law.go:44", after := #[{ on := 2, ground := Go.Ground.data }], guard := none } : Oper) = some o := ho
    cases ho
    have h2 : v 2 = pz.v := hd ⟨2, .data⟩ (by simp) rfl
    refine each_of (o := { dst := some 22, op := Go.Op.buildSlice 22 1 #[(0, Go.Operand.tmp 21)], type := 22, pos := "law.go:44", after := #[{ on := 2, ground := Go.Ground.data }], guard := none }) rfl rfl ?_
    unfold prF
    rw [h2]
    go_simp
    exact ⟨_, by unfold prF; first | (rw [h2]; done) | (rw [h2]; rfl), hS.alloc hS.size _, (Below.refl _ _).alloc (Nat.le_refl _) _, ⟨_, rfl, ps_side [pz] (by intro p hp; simp only [List.mem_cons, List.mem_nil_iff, or_false] at hp; rw [hp]; exact K.z.below hS)⟩⟩
  | 4, _ =>
    replace ho : some ({ dst := some 23, op := Go.Op.call { callee := Go.Callee.value (Go.Operand.func 10), args := #[Go.Operand.tmp 22], argTypes := #[22] }, type := 25, pos := "law.go:44", after := #[{ on := 3, ground := Go.Ground.data }, { on := 1, ground := Go.Ground.chain }], guard := none } : Oper) = some o := ho
    cases ho
    obtain ⟨g, h, hp⟩ : ∃ g, v 3 = .slice (some ⟨g, 0, none⟩) 1 1 ∧ Ps w (some ⟨g, 0, none⟩) [pz] := hd ⟨3, .data⟩ (by simp) rfl
    refine each_of (o := { dst := some 23, op := Go.Op.call { callee := Go.Callee.value (Go.Operand.func 10), args := #[Go.Operand.tmp 22], argTypes := #[22] }, type := 25, pos := "law.go:44", after := #[{ on := 3, ground := Go.Ground.data }, { on := 1, ground := Go.Ground.chain }], guard := none }) rfl rfl ?_
    unfold prF
    rw [h]
    go_simp
    refine (sum_side (n := 1) hT hp K.v1 K.n1 rfl (by decide)).mono ?_
    rintro e w' ⟨rfl, hB⟩
    exact ⟨_, by unfold prF; first | (rw [h]; done) | (rw [h]; rfl), hS.trans (hB.mono hS.size), hB, rfl⟩
  | 5, _ =>
    replace ho : some ({ dst := some 24, op := Go.Op.binOp Go.BinOp.eql 25 (Go.Operand.tmp 20) (Go.Operand.tmp 23) 25, type := 4, pos := "law.go:44", after := #[{ on := 1, ground := Go.Ground.data }, { on := 4, ground := Go.Ground.data }], guard := none } : Oper) = some o := ho
    cases ho
    have h1 : v 1 = .agg SV.toArray := hd ⟨1, .data⟩ (by simp) rfl
    have h4 : v 4 = .agg SV.toArray := hd ⟨4, .data⟩ (by simp) rfl
    have q1 := K.e1
    have q2 := K.e2
    refine each_of (o := { dst := some 24, op := Go.Op.binOp Go.BinOp.eql 25 (Go.Operand.tmp 20) (Go.Operand.tmp 23) 25, type := 4, pos := "law.go:44", after := #[{ on := 1, ground := Go.Ground.data }, { on := 4, ground := Go.Ground.data }], guard := none }) rfl rfl ?_
    unfold prF
    rw [h1, h4]
    go_simp
    exact ⟨_, by unfold prF; first | (rw [h1, h4]; done) | (rw [h1, h4]; rfl), hS, Below.refl _ _, rfl⟩
  | 6, _ =>
    replace ho : some ({ dst := some 25, op := Go.Op.move (Go.Operand.tmp 24), type := 4, pos := "law.go:44", after := #[{ on := 5, ground := Go.Ground.data }, { on := 4, ground := Go.Ground.chain }], guard := none } : Oper) = some o := ho
    cases ho
    have h5 : v 5 = .bool true := hd ⟨5, .data⟩ (by simp) rfl
    refine each_of (o := { dst := some 25, op := Go.Op.move (Go.Operand.tmp 24), type := 4, pos := "law.go:44", after := #[{ on := 5, ground := Go.Ground.data }, { on := 4, ground := Go.Ground.chain }], guard := none }) rfl rfl ?_
    unfold prF
    rw [h5]
    go_simp
    exact ⟨_, by unfold prF; first | (rw [h5]; done) | (rw [h5]; rfl), hS, Below.refl _ _, rfl⟩
  | 7, _ =>
    replace ho : some ({ dst := some 26, op := Go.Op.move (Go.Operand.tmp 5), type := 28, pos := "law.go:44", after := #[{ on := 6, ground := Go.Ground.guard }], guard := some (6, true) } : Oper) = some o := ho
    cases ho
    have h6 : v 6 = .bool true := hd ⟨6, .guard⟩ (by simp) rfl
    have hw : Region.wanted ({ dst := some 26, op := Go.Op.move (Go.Operand.tmp 5), type := 28, pos := "law.go:44", after := #[{ on := 6, ground := Go.Ground.guard }], guard := some (6, true) } : Oper) (yielded props (prF f v).tmps) = true := by
      show ((match (some (v 6)) with | some (.bool b) => some b | _ => none) == some true) = true
      rw [h6]; rfl
    clear h6
    refine each_of (o := { dst := some 26, op := Go.Op.move (Go.Operand.tmp 5), type := 28, pos := "law.go:44", after := #[{ on := 6, ground := Go.Ground.guard }], guard := some (6, true) }) rfl hw ?_
    unfold prF
    rw [K.f5]
    go_simp
    exact ⟨_, by unfold prF; first | (rw [K.f5]; done) | (rw [K.f5]; rfl), hS, Below.refl _ _, rfl⟩
  | 8, _ =>
    replace ho : some ({ dst := some 27, op := Go.Op.move (Go.Operand.tmp 6), type := 3, pos := "law.go:44", after := #[{ on := 6, ground := Go.Ground.guard }], guard := some (6, true) } : Oper) = some o := ho
    cases ho
    have h6 : v 6 = .bool true := hd ⟨6, .guard⟩ (by simp) rfl
    have hw : Region.wanted ({ dst := some 27, op := Go.Op.move (Go.Operand.tmp 6), type := 3, pos := "law.go:44", after := #[{ on := 6, ground := Go.Ground.guard }], guard := some (6, true) } : Oper) (yielded props (prF f v).tmps) = true := by
      show ((match (some (v 6)) with | some (.bool b) => some b | _ => none) == some true) = true
      rw [h6]; rfl
    clear h6
    refine each_of (o := { dst := some 27, op := Go.Op.move (Go.Operand.tmp 6), type := 3, pos := "law.go:44", after := #[{ on := 6, ground := Go.Ground.guard }], guard := some (6, true) }) rfl hw ?_
    unfold prF
    rw [K.f6]
    go_simp
    exact ⟨_, by unfold prF; first | (rw [K.f6]; done) | (rw [K.f6]; rfl), hS, Below.refl _ _, rfl⟩
  | 9, _ =>
    replace ho : some ({ dst := some 28, op := Go.Op.slice 28 (Go.Operand.tmp 26) none (some (Go.Operand.tmp 27)) none, type := 28, pos := "law.go:44", after := #[{ on := 7, ground := Go.Ground.data }, { on := 8, ground := Go.Ground.data }, { on := 6, ground := Go.Ground.guard }], guard := some (6, true) } : Oper) = some o := ho
    cases ho
    have h6 : v 6 = .bool true := hd ⟨6, .guard⟩ (by simp) rfl
    have hw : Region.wanted ({ dst := some 28, op := Go.Op.slice 28 (Go.Operand.tmp 26) none (some (Go.Operand.tmp 27)) none, type := 28, pos := "law.go:44", after := #[{ on := 7, ground := Go.Ground.data }, { on := 8, ground := Go.Ground.data }, { on := 6, ground := Go.Ground.guard }], guard := some (6, true) } : Oper) (yielded props (prF f v).tmps) = true := by
      show ((match (some (v 6)) with | some (.bool b) => some b | _ => none) == some true) = true
      rw [h6]; rfl
    clear h6
    have h7 : v 7 = pz.v := hd ⟨7, .data⟩ (by simp) rfl
    have h8 : v 8 = .int .i64 (T : Int) := hd ⟨8, .data⟩ (by simp) rfl
    refine each_value (o := { dst := some 28, op := Go.Op.slice 28 (Go.Operand.tmp 26) none (some (Go.Operand.tmp 27)) none, type := 28, pos := "law.go:44", after := #[{ on := 7, ground := Go.Ground.data }, { on := 8, ground := Go.Ground.data }, { on := 6, ground := Go.Ground.guard }], guard := some (6, true) }) rfl hw (u := p1.v) (w' := w) ?_ ⟨_, rfl, hS, Below.refl _ _, rfl⟩
    unfold prF
    rw [h7, h8]
    exact run_bind_of (K.l1 w)
  | 10, _ =>
    replace ho : some ({ dst := some 29, op := Go.Op.move (Go.Operand.tmp 5), type := 28, pos := "law.go:44", after := #[{ on := 6, ground := Go.Ground.guard }], guard := some (6, true) } : Oper) = some o := ho
    cases ho
    have h6 : v 6 = .bool true := hd ⟨6, .guard⟩ (by simp) rfl
    have hw : Region.wanted ({ dst := some 29, op := Go.Op.move (Go.Operand.tmp 5), type := 28, pos := "law.go:44", after := #[{ on := 6, ground := Go.Ground.guard }], guard := some (6, true) } : Oper) (yielded props (prF f v).tmps) = true := by
      show ((match (some (v 6)) with | some (.bool b) => some b | _ => none) == some true) = true
      rw [h6]; rfl
    clear h6
    refine each_of (o := { dst := some 29, op := Go.Op.move (Go.Operand.tmp 5), type := 28, pos := "law.go:44", after := #[{ on := 6, ground := Go.Ground.guard }], guard := some (6, true) }) rfl hw ?_
    unfold prF
    rw [K.f5]
    go_simp
    exact ⟨_, by unfold prF; first | (rw [K.f5]; done) | (rw [K.f5]; rfl), hS, Below.refl _ _, rfl⟩
  | 11, _ =>
    replace ho : some ({ dst := some 30, op := Go.Op.move (Go.Operand.tmp 6), type := 3, pos := "law.go:44", after := #[{ on := 6, ground := Go.Ground.guard }], guard := some (6, true) } : Oper) = some o := ho
    cases ho
    have h6 : v 6 = .bool true := hd ⟨6, .guard⟩ (by simp) rfl
    have hw : Region.wanted ({ dst := some 30, op := Go.Op.move (Go.Operand.tmp 6), type := 3, pos := "law.go:44", after := #[{ on := 6, ground := Go.Ground.guard }], guard := some (6, true) } : Oper) (yielded props (prF f v).tmps) = true := by
      show ((match (some (v 6)) with | some (.bool b) => some b | _ => none) == some true) = true
      rw [h6]; rfl
    clear h6
    refine each_of (o := { dst := some 30, op := Go.Op.move (Go.Operand.tmp 6), type := 3, pos := "law.go:44", after := #[{ on := 6, ground := Go.Ground.guard }], guard := some (6, true) }) rfl hw ?_
    unfold prF
    rw [K.f6]
    go_simp
    exact ⟨_, by unfold prF; first | (rw [K.f6]; done) | (rw [K.f6]; rfl), hS, Below.refl _ _, rfl⟩
  | 12, _ =>
    replace ho : some ({ dst := some 31, op := Go.Op.slice 28 (Go.Operand.tmp 29) (some (Go.Operand.tmp 30)) none none, type := 28, pos := "law.go:44", after := #[{ on := 10, ground := Go.Ground.data }, { on := 11, ground := Go.Ground.data }, { on := 6, ground := Go.Ground.guard }], guard := some (6, true) } : Oper) = some o := ho
    cases ho
    have h6 : v 6 = .bool true := hd ⟨6, .guard⟩ (by simp) rfl
    have hw : Region.wanted ({ dst := some 31, op := Go.Op.slice 28 (Go.Operand.tmp 29) (some (Go.Operand.tmp 30)) none none, type := 28, pos := "law.go:44", after := #[{ on := 10, ground := Go.Ground.data }, { on := 11, ground := Go.Ground.data }, { on := 6, ground := Go.Ground.guard }], guard := some (6, true) } : Oper) (yielded props (prF f v).tmps) = true := by
      show ((match (some (v 6)) with | some (.bool b) => some b | _ => none) == some true) = true
      rw [h6]; rfl
    clear h6
    have h10 : v 10 = pz.v := hd ⟨10, .data⟩ (by simp) rfl
    have h11 : v 11 = .int .i64 (T : Int) := hd ⟨11, .data⟩ (by simp) rfl
    refine each_value (o := { dst := some 31, op := Go.Op.slice 28 (Go.Operand.tmp 29) (some (Go.Operand.tmp 30)) none none, type := 28, pos := "law.go:44", after := #[{ on := 10, ground := Go.Ground.data }, { on := 11, ground := Go.Ground.data }, { on := 6, ground := Go.Ground.guard }], guard := some (6, true) }) rfl hw (u := p2.v) (w' := w) ?_ ⟨_, rfl, hS, Below.refl _ _, rfl⟩
    unfold prF
    rw [h10, h11]
    exact run_bind_of (K.l2 w)
  | 13, _ =>
    replace ho : some ({ dst := some 32, op := Go.Op.buildSlice 22 2 #[(0, Go.Operand.tmp 28), (1, Go.Operand.tmp 31)], type := 22, pos := "law.go:44", after := #[{ on := 9, ground := Go.Ground.data }, { on := 12, ground := Go.Ground.data }, { on := 6, ground := Go.Ground.guard }], guard := some (6, true) } : Oper) = some o := ho
    cases ho
    have h6 : v 6 = .bool true := hd ⟨6, .guard⟩ (by simp) rfl
    have hw : Region.wanted ({ dst := some 32, op := Go.Op.buildSlice 22 2 #[(0, Go.Operand.tmp 28), (1, Go.Operand.tmp 31)], type := 22, pos := "law.go:44", after := #[{ on := 9, ground := Go.Ground.data }, { on := 12, ground := Go.Ground.data }, { on := 6, ground := Go.Ground.guard }], guard := some (6, true) } : Oper) (yielded props (prF f v).tmps) = true := by
      show ((match (some (v 6)) with | some (.bool b) => some b | _ => none) == some true) = true
      rw [h6]; rfl
    clear h6
    have h9 : v 9 = p1.v := hd ⟨9, .data⟩ (by simp) rfl
    have h12 : v 12 = p2.v := hd ⟨12, .data⟩ (by simp) rfl
    refine each_of (o := { dst := some 32, op := Go.Op.buildSlice 22 2 #[(0, Go.Operand.tmp 28), (1, Go.Operand.tmp 31)], type := 22, pos := "law.go:44", after := #[{ on := 9, ground := Go.Ground.data }, { on := 12, ground := Go.Ground.data }, { on := 6, ground := Go.Ground.guard }], guard := some (6, true) }) rfl hw ?_
    unfold prF
    rw [h9, h12]
    go_simp
    exact ⟨_, by unfold prF; first | (rw [h9, h12]; done) | (rw [h9, h12]; rfl), hS.alloc hS.size _, (Below.refl _ _).alloc (Nat.le_refl _) _, ⟨_, rfl, ps_side [p1, p2] (by intro p hp; simp only [List.mem_cons, List.mem_nil_iff, or_false] at hp; rcases hp with rfl | rfl; exact K.a.below hS; exact K.b.below hS)⟩⟩
  | 14, _ =>
    replace ho : some ({ dst := some 33, op := Go.Op.call { callee := Go.Callee.value (Go.Operand.func 10), args := #[Go.Operand.tmp 32], argTypes := #[22] }, type := 25, pos := "law.go:44", after := #[{ on := 13, ground := Go.Ground.data }, { on := 6, ground := Go.Ground.chain }, { on := 6, ground := Go.Ground.guard }], guard := some (6, true) } : Oper) = some o := ho
    cases ho
    have h6 : v 6 = .bool true := hd ⟨6, .chain⟩ (by simp) rfl
    have hw : Region.wanted ({ dst := some 33, op := Go.Op.call { callee := Go.Callee.value (Go.Operand.func 10), args := #[Go.Operand.tmp 32], argTypes := #[22] }, type := 25, pos := "law.go:44", after := #[{ on := 13, ground := Go.Ground.data }, { on := 6, ground := Go.Ground.chain }, { on := 6, ground := Go.Ground.guard }], guard := some (6, true) } : Oper) (yielded props (prF f v).tmps) = true := by
      show ((match (some (v 6)) with | some (.bool b) => some b | _ => none) == some true) = true
      rw [h6]; rfl
    clear h6
    obtain ⟨g, h, hp⟩ : ∃ g, v 13 = .slice (some ⟨g, 0, none⟩) 2 2 ∧ Ps w (some ⟨g, 0, none⟩) [p1, p2] := hd ⟨13, .data⟩ (by simp) rfl
    refine each_of (o := { dst := some 33, op := Go.Op.call { callee := Go.Callee.value (Go.Operand.func 10), args := #[Go.Operand.tmp 32], argTypes := #[22] }, type := 25, pos := "law.go:44", after := #[{ on := 13, ground := Go.Ground.data }, { on := 6, ground := Go.Ground.chain }, { on := 6, ground := Go.Ground.guard }], guard := some (6, true) }) rfl hw ?_
    unfold prF
    rw [h]
    go_simp
    refine (sum_side (n := 2) hT hp K.v2 K.n2 rfl (by decide)).mono ?_
    rintro e w' ⟨rfl, hB⟩
    exact ⟨_, by unfold prF; first | (rw [h]; done) | (rw [h]; rfl), hS.trans (hB.mono hS.size), hB, rfl⟩
  | 15, _ =>
    replace ho : some ({ dst := some 34, op := Go.Op.move (Go.Operand.tmp 5), type := 28, pos := "law.go:44", after := #[{ on := 6, ground := Go.Ground.guard }], guard := some (6, true) } : Oper) = some o := ho
    cases ho
    have h6 : v 6 = .bool true := hd ⟨6, .guard⟩ (by simp) rfl
    have hw : Region.wanted ({ dst := some 34, op := Go.Op.move (Go.Operand.tmp 5), type := 28, pos := "law.go:44", after := #[{ on := 6, ground := Go.Ground.guard }], guard := some (6, true) } : Oper) (yielded props (prF f v).tmps) = true := by
      show ((match (some (v 6)) with | some (.bool b) => some b | _ => none) == some true) = true
      rw [h6]; rfl
    clear h6
    refine each_of (o := { dst := some 34, op := Go.Op.move (Go.Operand.tmp 5), type := 28, pos := "law.go:44", after := #[{ on := 6, ground := Go.Ground.guard }], guard := some (6, true) }) rfl hw ?_
    unfold prF
    rw [K.f5]
    go_simp
    exact ⟨_, by unfold prF; first | (rw [K.f5]; done) | (rw [K.f5]; rfl), hS, Below.refl _ _, rfl⟩
  | 16, _ =>
    replace ho : some ({ dst := some 35, op := Go.Op.buildSlice 22 1 #[(0, Go.Operand.tmp 34)], type := 22, pos := "law.go:44", after := #[{ on := 15, ground := Go.Ground.data }, { on := 6, ground := Go.Ground.guard }], guard := some (6, true) } : Oper) = some o := ho
    cases ho
    have h6 : v 6 = .bool true := hd ⟨6, .guard⟩ (by simp) rfl
    have hw : Region.wanted ({ dst := some 35, op := Go.Op.buildSlice 22 1 #[(0, Go.Operand.tmp 34)], type := 22, pos := "law.go:44", after := #[{ on := 15, ground := Go.Ground.data }, { on := 6, ground := Go.Ground.guard }], guard := some (6, true) } : Oper) (yielded props (prF f v).tmps) = true := by
      show ((match (some (v 6)) with | some (.bool b) => some b | _ => none) == some true) = true
      rw [h6]; rfl
    clear h6
    have h15 : v 15 = pz.v := hd ⟨15, .data⟩ (by simp) rfl
    refine each_of (o := { dst := some 35, op := Go.Op.buildSlice 22 1 #[(0, Go.Operand.tmp 34)], type := 22, pos := "law.go:44", after := #[{ on := 15, ground := Go.Ground.data }, { on := 6, ground := Go.Ground.guard }], guard := some (6, true) }) rfl hw ?_
    unfold prF
    rw [h15]
    go_simp
    exact ⟨_, by unfold prF; first | (rw [h15]; done) | (rw [h15]; rfl), hS.alloc hS.size _, (Below.refl _ _).alloc (Nat.le_refl _) _, ⟨_, rfl, ps_side [pz] (by intro p hp; simp only [List.mem_cons, List.mem_nil_iff, or_false] at hp; rw [hp]; exact K.z.below hS)⟩⟩
  | 17, _ =>
    replace ho : some ({ dst := some 36, op := Go.Op.call { callee := Go.Callee.value (Go.Operand.func 10), args := #[Go.Operand.tmp 35], argTypes := #[22] }, type := 25, pos := "law.go:44", after := #[{ on := 16, ground := Go.Ground.data }, { on := 14, ground := Go.Ground.chain }, { on := 6, ground := Go.Ground.guard }], guard := some (6, true) } : Oper) = some o := ho
    cases ho
    have h6 : v 6 = .bool true := hd ⟨6, .guard⟩ (by simp) rfl
    have hw : Region.wanted ({ dst := some 36, op := Go.Op.call { callee := Go.Callee.value (Go.Operand.func 10), args := #[Go.Operand.tmp 35], argTypes := #[22] }, type := 25, pos := "law.go:44", after := #[{ on := 16, ground := Go.Ground.data }, { on := 14, ground := Go.Ground.chain }, { on := 6, ground := Go.Ground.guard }], guard := some (6, true) } : Oper) (yielded props (prF f v).tmps) = true := by
      show ((match (some (v 6)) with | some (.bool b) => some b | _ => none) == some true) = true
      rw [h6]; rfl
    clear h6
    obtain ⟨g, h, hp⟩ : ∃ g, v 16 = .slice (some ⟨g, 0, none⟩) 1 1 ∧ Ps w (some ⟨g, 0, none⟩) [pz] := hd ⟨16, .data⟩ (by simp) rfl
    refine each_of (o := { dst := some 36, op := Go.Op.call { callee := Go.Callee.value (Go.Operand.func 10), args := #[Go.Operand.tmp 35], argTypes := #[22] }, type := 25, pos := "law.go:44", after := #[{ on := 16, ground := Go.Ground.data }, { on := 14, ground := Go.Ground.chain }, { on := 6, ground := Go.Ground.guard }], guard := some (6, true) }) rfl hw ?_
    unfold prF
    rw [h]
    go_simp
    refine (sum_side (n := 1) hT hp K.v1 K.n1 rfl (by decide)).mono ?_
    rintro e w' ⟨rfl, hB⟩
    exact ⟨_, by unfold prF; first | (rw [h]; done) | (rw [h]; rfl), hS.trans (hB.mono hS.size), hB, rfl⟩
  | 18, _ =>
    replace ho : some ({ dst := some 37, op := Go.Op.binOp Go.BinOp.eql 25 (Go.Operand.tmp 33) (Go.Operand.tmp 36) 25, type := 4, pos := "law.go:44", after := #[{ on := 14, ground := Go.Ground.data }, { on := 17, ground := Go.Ground.data }, { on := 6, ground := Go.Ground.guard }], guard := some (6, true) } : Oper) = some o := ho
    cases ho
    have h6 : v 6 = .bool true := hd ⟨6, .guard⟩ (by simp) rfl
    have hw : Region.wanted ({ dst := some 37, op := Go.Op.binOp Go.BinOp.eql 25 (Go.Operand.tmp 33) (Go.Operand.tmp 36) 25, type := 4, pos := "law.go:44", after := #[{ on := 14, ground := Go.Ground.data }, { on := 17, ground := Go.Ground.data }, { on := 6, ground := Go.Ground.guard }], guard := some (6, true) } : Oper) (yielded props (prF f v).tmps) = true := by
      show ((match (some (v 6)) with | some (.bool b) => some b | _ => none) == some true) = true
      rw [h6]; rfl
    clear h6
    have h14 : v 14 = .agg SV.toArray := hd ⟨14, .data⟩ (by simp) rfl
    have h17 : v 17 = .agg SV.toArray := hd ⟨17, .data⟩ (by simp) rfl
    have q1 := K.e1
    have q2 := K.e2
    refine each_of (o := { dst := some 37, op := Go.Op.binOp Go.BinOp.eql 25 (Go.Operand.tmp 33) (Go.Operand.tmp 36) 25, type := 4, pos := "law.go:44", after := #[{ on := 14, ground := Go.Ground.data }, { on := 17, ground := Go.Ground.data }, { on := 6, ground := Go.Ground.guard }], guard := some (6, true) }) rfl hw ?_
    unfold prF
    rw [h14, h17]
    go_simp
    exact ⟨_, by unfold prF; first | (rw [h14, h17]; done) | (rw [h14, h17]; rfl), hS, Below.refl _ _, rfl⟩
  | 19, _ =>
    replace ho : some ({ dst := some 38, op := Go.Op.pick (Go.Operand.tmp 25) (Go.Operand.tmp 37) (Go.Operand.const (Go.Value.bool false)), type := 4, pos := "law.go:44", after := #[{ on := 6, ground := Go.Ground.data }, { on := 18, ground := Go.Ground.data }], guard := none } : Oper) = some o := ho
    cases ho
    have h6 : v 6 = .bool true := hd ⟨6, .data⟩ (by simp) rfl
    have h18 : v 18 = .bool true := hd ⟨18, .data⟩ (by simp) rfl
    refine each_of (o := { dst := some 38, op := Go.Op.pick (Go.Operand.tmp 25) (Go.Operand.tmp 37) (Go.Operand.const (Go.Value.bool false)), type := 4, pos := "law.go:44", after := #[{ on := 6, ground := Go.Ground.data }, { on := 18, ground := Go.Ground.data }], guard := none }) rfl rfl ?_
    unfold prF
    rw [h6, h18]
    go_simp
    exact ⟨_, by unfold prF; first | (rw [h6, h18]; done) | (rw [h6, h18]; rfl), hS, Below.refl _ _, rfl⟩
  | 20, _ =>
    replace ho : some ({ dst := some 39, op := Go.Op.move (Go.Operand.tmp 38), type := 4, pos := "law.go:44", after := #[{ on := 19, ground := Go.Ground.data }, { on := 17, ground := Go.Ground.chain }], guard := none } : Oper) = some o := ho
    cases ho
    have h19 : v 19 = .bool true := hd ⟨19, .data⟩ (by simp) rfl
    refine each_of (o := { dst := some 39, op := Go.Op.move (Go.Operand.tmp 38), type := 4, pos := "law.go:44", after := #[{ on := 19, ground := Go.Ground.data }, { on := 17, ground := Go.Ground.chain }], guard := none }) rfl rfl ?_
    unfold prF
    rw [h19]
    go_simp
    exact ⟨_, by unfold prF; first | (rw [h19]; done) | (rw [h19]; rfl), hS, Below.refl _ _, rfl⟩
  | 21, _ =>
    replace ho : some ({ dst := some 40, op := Go.Op.call { callee := Go.Callee.value (Go.Operand.func 10), args := #[Go.Operand.const (Go.Value.slice none 0 0)], argTypes := #[22] }, type := 25, pos := "law.go:44", after := #[{ on := 20, ground := Go.Ground.chain }, { on := 20, ground := Go.Ground.guard }], guard := some (20, true) } : Oper) = some o := ho
    cases ho
    have h20 : v 20 = .bool true := hd ⟨20, .chain⟩ (by simp) rfl
    have hw : Region.wanted ({ dst := some 40, op := Go.Op.call { callee := Go.Callee.value (Go.Operand.func 10), args := #[Go.Operand.const (Go.Value.slice none 0 0)], argTypes := #[22] }, type := 25, pos := "law.go:44", after := #[{ on := 20, ground := Go.Ground.chain }, { on := 20, ground := Go.Ground.guard }], guard := some (20, true) } : Oper) (yielded props (prF f v).tmps) = true := by
      show ((match (some (v 20)) with | some (.bool b) => some b | _ => none) == some true) = true
      rw [h20]; rfl
    clear h20
    refine each_of (o := { dst := some 40, op := Go.Op.call { callee := Go.Callee.value (Go.Operand.func 10), args := #[Go.Operand.const (Go.Value.slice none 0 0)], argTypes := #[22] }, type := 25, pos := "law.go:44", after := #[{ on := 20, ground := Go.Ground.chain }, { on := 20, ground := Go.Ground.guard }], guard := some (20, true) }) rfl hw ?_
    unfold prF
    go_simp
    refine (sum_nil w hT K.ve).mono ?_
    rintro e w' ⟨rfl, hB⟩
    exact ⟨_, by unfold prF; rfl, hS.trans (hB.mono hS.size), hB, rfl⟩
  | 22, _ =>
    replace ho : some ({ dst := some 41, op := Go.Op.buildSlice 22 2 #[(0, Go.Operand.const (Go.Value.slice none 0 0)), (1, Go.Operand.const (Go.Value.slice none 0 0))], type := 22, pos := "law.go:44", after := #[{ on := 20, ground := Go.Ground.guard }], guard := some (20, true) } : Oper) = some o := ho
    cases ho
    have h20 : v 20 = .bool true := hd ⟨20, .guard⟩ (by simp) rfl
    have hw : Region.wanted ({ dst := some 41, op := Go.Op.buildSlice 22 2 #[(0, Go.Operand.const (Go.Value.slice none 0 0)), (1, Go.Operand.const (Go.Value.slice none 0 0))], type := 22, pos := "law.go:44", after := #[{ on := 20, ground := Go.Ground.guard }], guard := some (20, true) } : Oper) (yielded props (prF f v).tmps) = true := by
      show ((match (some (v 20)) with | some (.bool b) => some b | _ => none) == some true) = true
      rw [h20]; rfl
    clear h20
    refine each_of (o := { dst := some 41, op := Go.Op.buildSlice 22 2 #[(0, Go.Operand.const (Go.Value.slice none 0 0)), (1, Go.Operand.const (Go.Value.slice none 0 0))], type := 22, pos := "law.go:44", after := #[{ on := 20, ground := Go.Ground.guard }], guard := some (20, true) }) rfl hw ?_
    unfold prF
    go_simp
    exact ⟨_, by unfold prF; rfl, hS.alloc hS.size _, (Below.refl _ _).alloc (Nat.le_refl _) _, ⟨_, rfl, ps_side [⟨none, 0, 0, []⟩, ⟨none, 0, 0, []⟩] (by intro p hp; simp only [List.mem_cons, List.mem_nil_iff, or_false, or_self] at hp; rw [hp]; exact part_nil w)⟩⟩
  | 23, _ =>
    replace ho : some ({ dst := some 42, op := Go.Op.call { callee := Go.Callee.value (Go.Operand.func 10), args := #[Go.Operand.tmp 41], argTypes := #[22] }, type := 25, pos := "law.go:44", after := #[{ on := 22, ground := Go.Ground.data }, { on := 21, ground := Go.Ground.chain }, { on := 20, ground := Go.Ground.guard }], guard := some (20, true) } : Oper) = some o := ho
    cases ho
    have h20 : v 20 = .bool true := hd ⟨20, .guard⟩ (by simp) rfl
    have hw : Region.wanted ({ dst := some 42, op := Go.Op.call { callee := Go.Callee.value (Go.Operand.func 10), args := #[Go.Operand.tmp 41], argTypes := #[22] }, type := 25, pos := "law.go:44", after := #[{ on := 22, ground := Go.Ground.data }, { on := 21, ground := Go.Ground.chain }, { on := 20, ground := Go.Ground.guard }], guard := some (20, true) } : Oper) (yielded props (prF f v).tmps) = true := by
      show ((match (some (v 20)) with | some (.bool b) => some b | _ => none) == some true) = true
      rw [h20]; rfl
    clear h20
    obtain ⟨g, h, hp⟩ : ∃ g, v 22 = .slice (some ⟨g, 0, none⟩) 2 2 ∧ Ps w (some ⟨g, 0, none⟩) [⟨none, 0, 0, []⟩, ⟨none, 0, 0, []⟩] := hd ⟨22, .data⟩ (by simp) rfl
    refine each_of (o := { dst := some 42, op := Go.Op.call { callee := Go.Callee.value (Go.Operand.func 10), args := #[Go.Operand.tmp 41], argTypes := #[22] }, type := 25, pos := "law.go:44", after := #[{ on := 22, ground := Go.Ground.data }, { on := 21, ground := Go.Ground.chain }, { on := 20, ground := Go.Ground.guard }], guard := some (20, true) }) rfl hw ?_
    unfold prF
    rw [h]
    go_simp
    refine (sum_side (n := 2) hT hp K.ve (by decide) rfl (by decide)).mono ?_
    rintro e w' ⟨rfl, hB⟩
    exact ⟨_, by unfold prF; first | (rw [h]; done) | (rw [h]; rfl), hS.trans (hB.mono hS.size), hB, rfl⟩
  | 24, _ =>
    replace ho : some ({ dst := some 43, op := Go.Op.binOp Go.BinOp.eql 25 (Go.Operand.tmp 40) (Go.Operand.tmp 42) 25, type := 4, pos := "law.go:44", after := #[{ on := 21, ground := Go.Ground.data }, { on := 23, ground := Go.Ground.data }, { on := 20, ground := Go.Ground.guard }], guard := some (20, true) } : Oper) = some o := ho
    cases ho
    have h20 : v 20 = .bool true := hd ⟨20, .guard⟩ (by simp) rfl
    have hw : Region.wanted ({ dst := some 43, op := Go.Op.binOp Go.BinOp.eql 25 (Go.Operand.tmp 40) (Go.Operand.tmp 42) 25, type := 4, pos := "law.go:44", after := #[{ on := 21, ground := Go.Ground.data }, { on := 23, ground := Go.Ground.data }, { on := 20, ground := Go.Ground.guard }], guard := some (20, true) } : Oper) (yielded props (prF f v).tmps) = true := by
      show ((match (some (v 20)) with | some (.bool b) => some b | _ => none) == some true) = true
      rw [h20]; rfl
    clear h20
    have h21 : v 21 = .agg SE.toArray := hd ⟨21, .data⟩ (by simp) rfl
    have h23 : v 23 = .agg SE.toArray := hd ⟨23, .data⟩ (by simp) rfl
    have q1 := K.e3
    have q2 := K.e4
    refine each_of (o := { dst := some 43, op := Go.Op.binOp Go.BinOp.eql 25 (Go.Operand.tmp 40) (Go.Operand.tmp 42) 25, type := 4, pos := "law.go:44", after := #[{ on := 21, ground := Go.Ground.data }, { on := 23, ground := Go.Ground.data }, { on := 20, ground := Go.Ground.guard }], guard := some (20, true) }) rfl hw ?_
    unfold prF
    rw [h21, h23]
    go_simp
    exact ⟨_, by unfold prF; first | (rw [h21, h23]; done) | (rw [h21, h23]; rfl), hS, Below.refl _ _, rfl⟩
  | 25, _ =>
    replace ho : some ({ dst := some 44, op := Go.Op.pick (Go.Operand.tmp 39) (Go.Operand.tmp 43) (Go.Operand.const (Go.Value.bool false)), type := 4, pos := "law.go:44", after := #[{ on := 20, ground := Go.Ground.data }, { on := 24, ground := Go.Ground.data }], guard := none } : Oper) = some o := ho
    cases ho
    have h20 : v 20 = .bool true := hd ⟨20, .data⟩ (by simp) rfl
    have h24 : v 24 = .bool true := hd ⟨24, .data⟩ (by simp) rfl
    refine each_of (o := { dst := some 44, op := Go.Op.pick (Go.Operand.tmp 39) (Go.Operand.tmp 43) (Go.Operand.const (Go.Value.bool false)), type := 4, pos := "law.go:44", after := #[{ on := 20, ground := Go.Ground.data }, { on := 24, ground := Go.Ground.data }], guard := none }) rfl rfl ?_
    unfold prF
    rw [h20, h24]
    go_simp
    exact ⟨_, by unfold prF; first | (rw [h20, h24]; done) | (rw [h20, h24]; rfl), hS, Below.refl _ _, rfl⟩
  | 26, _ =>
    replace ho : some ({ dst := some 45, op := Go.Op.move (Go.Operand.tmp 44), type := 4, pos := "law.go:44", after := #[{ on := 25, ground := Go.Ground.data }, { on := 23, ground := Go.Ground.chain }], guard := none } : Oper) = some o := ho
    cases ho
    have h25 : v 25 = .bool true := hd ⟨25, .data⟩ (by simp) rfl
    refine each_of (o := { dst := some 45, op := Go.Op.move (Go.Operand.tmp 44), type := 4, pos := "law.go:44", after := #[{ on := 25, ground := Go.Ground.data }, { on := 23, ground := Go.Ground.chain }], guard := none }) rfl rfl ?_
    unfold prF
    rw [h25]
    go_simp
    exact ⟨_, by unfold prF; first | (rw [h25]; done) | (rw [h25]; rfl), hS, Below.refl _ _, rfl⟩
  | 27, _ =>
    replace ho : some ({ dst := some 46, op := Go.Op.call { callee := Go.Callee.value (Go.Operand.func 14), args := #[], argTypes := #[] }, type := 4, pos := "law.go:44", after := #[{ on := 26, ground := Go.Ground.chain }, { on := 26, ground := Go.Ground.guard }], guard := some (26, true) } : Oper) = some o := ho
    cases ho
    have h26 : v 26 = .bool true := hd ⟨26, .chain⟩ (by simp) rfl
    have hw : Region.wanted ({ dst := some 46, op := Go.Op.call { callee := Go.Callee.value (Go.Operand.func 14), args := #[], argTypes := #[] }, type := 4, pos := "law.go:44", after := #[{ on := 26, ground := Go.Ground.chain }, { on := 26, ground := Go.Ground.guard }], guard := some (26, true) } : Oper) (yielded props (prF f v).tmps) = true := by
      show ((match (some (v 26)) with | some (.bool b) => some b | _ => none) == some true) = true
      rw [h26]; rfl
    clear h26
    refine each_of (o := { dst := some 46, op := Go.Op.call { callee := Go.Callee.value (Go.Operand.func 14), args := #[], argTypes := #[] }, type := 4, pos := "law.go:44", after := #[{ on := 26, ground := Go.Ground.chain }, { on := 26, ground := Go.Ground.guard }], guard := some (26, true) }) rfl hw ?_
    unfold prF
    go_simp
    refine (wakes_any w hT).mono ?_
    rintro e w' ⟨rfl, hB⟩
    exact ⟨_, by unfold prF; rfl, hS.trans (hB.mono hS.size), hB, rfl⟩
  | 28, _ =>
    replace ho : some ({ dst := some 47, op := Go.Op.pick (Go.Operand.tmp 45) (Go.Operand.tmp 46) (Go.Operand.const (Go.Value.bool false)), type := 4, pos := "law.go:44", after := #[{ on := 26, ground := Go.Ground.data }, { on := 27, ground := Go.Ground.data }], guard := none } : Oper) = some o := ho
    cases ho
    have h26 : v 26 = .bool true := hd ⟨26, .data⟩ (by simp) rfl
    have h27 : v 27 = .bool true := hd ⟨27, .data⟩ (by simp) rfl
    refine each_of (o := { dst := some 47, op := Go.Op.pick (Go.Operand.tmp 45) (Go.Operand.tmp 46) (Go.Operand.const (Go.Value.bool false)), type := 4, pos := "law.go:44", after := #[{ on := 26, ground := Go.Ground.data }, { on := 27, ground := Go.Ground.data }], guard := none }) rfl rfl ?_
    unfold prF
    rw [h26, h27]
    go_simp
    exact ⟨_, by unfold prF; first | (rw [h26, h27]; done) | (rw [h26, h27]; rfl), hS, Below.refl _ _, rfl⟩
  | 29, _ =>
    replace ho : some ({ dst := some 4, op := Go.Op.assign (Go.Operand.tmp 47), type := 4, pos := "law.go:44", after := #[{ on := 28, ground := Go.Ground.data }, { on := 27, ground := Go.Ground.chain }, { on := 0, ground := Go.Ground.phase }, { on := 1, ground := Go.Ground.phase }, { on := 2, ground := Go.Ground.phase }, { on := 3, ground := Go.Ground.phase }, { on := 4, ground := Go.Ground.phase }, { on := 5, ground := Go.Ground.phase }, { on := 6, ground := Go.Ground.phase }, { on := 7, ground := Go.Ground.phase }, { on := 8, ground := Go.Ground.phase }, { on := 9, ground := Go.Ground.phase }, { on := 10, ground := Go.Ground.phase }, { on := 11, ground := Go.Ground.phase }, { on := 12, ground := Go.Ground.phase }, { on := 13, ground := Go.Ground.phase }, { on := 14, ground := Go.Ground.phase }, { on := 15, ground := Go.Ground.phase }, { on := 16, ground := Go.Ground.phase }, { on := 17, ground := Go.Ground.phase }, { on := 18, ground := Go.Ground.phase }, { on := 19, ground := Go.Ground.phase }, { on := 20, ground := Go.Ground.phase }, { on := 21, ground := Go.Ground.phase }, { on := 22, ground := Go.Ground.phase }, { on := 23, ground := Go.Ground.phase }, { on := 24, ground := Go.Ground.phase }, { on := 25, ground := Go.Ground.phase }, { on := 26, ground := Go.Ground.phase }, { on := 27, ground := Go.Ground.phase }, { on := 28, ground := Go.Ground.phase }], guard := none } : Oper) = some o := ho
    cases ho
    have h28 : v 28 = .bool true := hd ⟨28, .data⟩ (by simp) rfl
    refine each_of (o := { dst := some 4, op := Go.Op.assign (Go.Operand.tmp 47), type := 4, pos := "law.go:44", after := #[{ on := 28, ground := Go.Ground.data }, { on := 27, ground := Go.Ground.chain }, { on := 0, ground := Go.Ground.phase }, { on := 1, ground := Go.Ground.phase }, { on := 2, ground := Go.Ground.phase }, { on := 3, ground := Go.Ground.phase }, { on := 4, ground := Go.Ground.phase }, { on := 5, ground := Go.Ground.phase }, { on := 6, ground := Go.Ground.phase }, { on := 7, ground := Go.Ground.phase }, { on := 8, ground := Go.Ground.phase }, { on := 9, ground := Go.Ground.phase }, { on := 10, ground := Go.Ground.phase }, { on := 11, ground := Go.Ground.phase }, { on := 12, ground := Go.Ground.phase }, { on := 13, ground := Go.Ground.phase }, { on := 14, ground := Go.Ground.phase }, { on := 15, ground := Go.Ground.phase }, { on := 16, ground := Go.Ground.phase }, { on := 17, ground := Go.Ground.phase }, { on := 18, ground := Go.Ground.phase }, { on := 19, ground := Go.Ground.phase }, { on := 20, ground := Go.Ground.phase }, { on := 21, ground := Go.Ground.phase }, { on := 22, ground := Go.Ground.phase }, { on := 23, ground := Go.Ground.phase }, { on := 24, ground := Go.Ground.phase }, { on := 25, ground := Go.Ground.phase }, { on := 26, ground := Go.Ground.phase }, { on := 27, ground := Go.Ground.phase }, { on := 28, ground := Go.Ground.phase }], guard := none }) rfl rfl ?_
    unfold prF
    rw [h28]
    go_simp
    exact ⟨_, by unfold prF; first | (rw [h28]; done) | (rw [h28]; rfl), hS, Below.refl _ _, rfl⟩

/-- THE STATEMENT, in whatever order. -/
theorem prend {f v0 : Nat → Value} {w0 : World} {SV : List Value} {SE : List Value} {PSv : Value} {pz : Part} {p1 : Part} {p2 : Part} {T : Nat} {Q : Exit → Act → World → Prop} (K : prK f w0 SV SE PSv pz p1 p2 T)
    (hQ : ∀ v w, Below w0.heap.size w0 w → v 29 = .bool true → Q .normal (prF f v) w) : (Code.region 5 props true).wp Tryd.prog Q (prF f v0) w0 :=
  wp_region_each (F := prF f) (S := fun w => Below w0.heap.size w0 w) (J := prJ SV SE PSv pz p1 p2 T) (R := fun w w' => Below w.heap.size w w') (by kernel_rfl) prback (prput f) prmono
    (prstep K) (fun v w hS hJ => hQ v w hS (hJ 29 (by decide))) v0 ((Below.refl _ _).drew)
theorem prbegin {A0 : Act} {w0 : World} {SV : List Value} {SE : List Value} {PSv : Value} {pz : Part} {p1 : Part} {p2 : Part} {T : Nat} {Q : Exit → Act → World → Prop} (hA : A0 = prF (fun i => A0.tmps.getD i undef) (fun i => A0.tmps.getD (if i = 0 then 19 else if i = 1 then 20 else if i = 2 then 21 else if i = 3 then 22 else if i = 4 then 23 else if i = 5 then 24 else if i = 6 then 25 else if i = 7 then 26 else if i = 8 then 27 else if i = 9 then 28 else if i = 10 then 29 else if i = 11 then 30 else if i = 12 then 31 else if i = 13 then 32 else if i = 14 then 33 else if i = 15 then 34 else if i = 16 then 35 else if i = 17 then 36 else if i = 18 then 37 else if i = 19 then 38 else if i = 20 then 39 else if i = 21 then 40 else if i = 22 then 41 else if i = 23 then 42 else if i = 24 then 43 else if i = 25 then 44 else if i = 26 then 45 else if i = 27 then 46 else if i = 28 then 47 else if i = 29 then 4 else 0) undef))
    (K : prK (fun i => A0.tmps.getD i undef) w0 SV SE PSv pz p1 p2 T) (hQ : ∀ v w, Below w0.heap.size w0 w → v 29 = .bool true → Q .normal (prF (fun i => A0.tmps.getD i undef) v) w) : (Code.region 5 props true).wp Tryd.prog Q A0 w0 := by
  rw [hA]
  exact prend K hQ
end Go.Proofs.YtdpnkdliibccjaaDoor
