/-
  ShaLengths' statement within the loop, in whatever order.
-/
import Derived.Test.YtdpnkdliibccjaaDoorPartsEnd
namespace Go.Proofs.YtdpnkdliibccjaaDoor
open Go.RowKit
set_option linter.unusedVariables false

theorem quo2 (n h : Nat) (hh : h = n / 2) (hn : n ≤ 200) (w : World) : (binOp .quo 3 (.int .i64 (n : Int)) (.int .i64 2)).run Tryd.prog w = .ok (.int .i64 (h : Int)) w := by
  go_simp
  subst hh
  rw [IntKind.wrap_i64]
  omega
theorem id_part {p : Part} {SV : List Value} (w : World) (h : p.ok w) (hl : p.l ≤ 1000000) (hv : shaV p.z = SV) : Calls Tryd.prog 11 #[p.v] w fun e w' => e = .returned (.agg SV.toArray) ∧ Below w.heap.size w w' := by
  rw [← hv]
  exact id_any p.a p.l p.c p.z w h.len hl h.rd h.bts h.nil
/-- Its operations. -/
def lnops : Array Oper := #[{ dst := some 8, op := Go.Op.move (Go.Operand.tmp 1), type := 28, pos := "law.go:30", after := #[], guard := none }, { dst := some 9, op := Go.Op.move (Go.Operand.tmp 2), type := 3, pos := "law.go:30", after := #[], guard := none }, { dst := some 10, op := Go.Op.slice 28 (Go.Operand.tmp 8) none (some (Go.Operand.tmp 9)) none, type := 28, pos := "law.go:30", after := #[{ on := 0, ground := Go.Ground.data }, { on := 1, ground := Go.Ground.data }], guard := none }, { dst := some 11, op := Go.Op.buildSlice 22 1 #[(0, Go.Operand.tmp 10)], type := 22, pos := "law.go:30", after := #[{ on := 2, ground := Go.Ground.data }], guard := none }, { dst := some 12, op := Go.Op.call { callee := Go.Callee.value (Go.Operand.func 10), args := #[Go.Operand.tmp 11], argTypes := #[22] }, type := 25, pos := "law.go:30", after := #[{ on := 3, ground := Go.Ground.data }], guard := none }, { dst := some 13, op := Go.Op.move (Go.Operand.tmp 1), type := 28, pos := "law.go:30", after := #[], guard := none }, { dst := some 14, op := Go.Op.move (Go.Operand.tmp 2), type := 3, pos := "law.go:30", after := #[], guard := none }, { dst := some 15, op := Go.Op.slice 28 (Go.Operand.tmp 13) none (some (Go.Operand.tmp 14)) none, type := 28, pos := "law.go:30", after := #[{ on := 5, ground := Go.Ground.data }, { on := 6, ground := Go.Ground.data }], guard := none }, { dst := some 16, op := Go.Op.call { callee := Go.Callee.value (Go.Operand.func 11), args := #[Go.Operand.tmp 15], argTypes := #[28] }, type := 25, pos := "law.go:30", after := #[{ on := 7, ground := Go.Ground.data }, { on := 4, ground := Go.Ground.chain }], guard := none }, { dst := some 17, op := Go.Op.binOp Go.BinOp.neq 25 (Go.Operand.tmp 12) (Go.Operand.tmp 16) 25, type := 4, pos := "law.go:30", after := #[{ on := 4, ground := Go.Ground.data }, { on := 8, ground := Go.Ground.data }], guard := none }, { dst := some 18, op := Go.Op.move (Go.Operand.tmp 17), type := 4, pos := "law.go:30", after := #[{ on := 9, ground := Go.Ground.data }, { on := 8, ground := Go.Ground.chain }], guard := none }, { dst := some 19, op := Go.Op.move (Go.Operand.tmp 1), type := 28, pos := "law.go:30", after := #[{ on := 10, ground := Go.Ground.guard }], guard := some (10, false) }, { dst := some 20, op := Go.Op.move (Go.Operand.tmp 2), type := 3, pos := "law.go:30", after := #[{ on := 10, ground := Go.Ground.guard }], guard := some (10, false) }, { dst := some 21, op := Go.Op.binOp Go.BinOp.quo 3 (Go.Operand.tmp 20) (Go.Operand.const (Go.Value.int Go.IntKind.i64 2)) 3, type := 3, pos := "law.go:30", after := #[{ on := 12, ground := Go.Ground.data }, { on := 10, ground := Go.Ground.guard }], guard := some (10, false) }, { dst := some 22, op := Go.Op.slice 28 (Go.Operand.tmp 19) none (some (Go.Operand.tmp 21)) none, type := 28, pos := "law.go:30", after := #[{ on := 11, ground := Go.Ground.data }, { on := 13, ground := Go.Ground.data }, { on := 10, ground := Go.Ground.guard }], guard := some (10, false) }, { dst := some 23, op := Go.Op.move (Go.Operand.tmp 1), type := 28, pos := "law.go:30", after := #[{ on := 10, ground := Go.Ground.guard }], guard := some (10, false) }, { dst := some 24, op := Go.Op.move (Go.Operand.tmp 2), type := 3, pos := "law.go:30", after := #[{ on := 10, ground := Go.Ground.guard }], guard := some (10, false) }, { dst := some 25, op := Go.Op.binOp Go.BinOp.quo 3 (Go.Operand.tmp 24) (Go.Operand.const (Go.Value.int Go.IntKind.i64 2)) 3, type := 3, pos := "law.go:30", after := #[{ on := 16, ground := Go.Ground.data }, { on := 10, ground := Go.Ground.guard }], guard := some (10, false) }, { dst := some 26, op := Go.Op.move (Go.Operand.tmp 2), type := 3, pos := "law.go:30", after := #[{ on := 10, ground := Go.Ground.guard }], guard := some (10, false) }, { dst := some 27, op := Go.Op.slice 28 (Go.Operand.tmp 23) (some (Go.Operand.tmp 25)) (some (Go.Operand.tmp 26)) none, type := 28, pos := "law.go:30", after := #[{ on := 15, ground := Go.Ground.data }, { on := 17, ground := Go.Ground.data }, { on := 18, ground := Go.Ground.data }, { on := 10, ground := Go.Ground.guard }], guard := some (10, false) }, { dst := some 28, op := Go.Op.buildSlice 22 2 #[(0, Go.Operand.tmp 22), (1, Go.Operand.tmp 27)], type := 22, pos := "law.go:30", after := #[{ on := 14, ground := Go.Ground.data }, { on := 19, ground := Go.Ground.data }, { on := 10, ground := Go.Ground.guard }], guard := some (10, false) }, { dst := some 29, op := Go.Op.call { callee := Go.Callee.value (Go.Operand.func 10), args := #[Go.Operand.tmp 28], argTypes := #[22] }, type := 25, pos := "law.go:30", after := #[{ on := 20, ground := Go.Ground.data }, { on := 10, ground := Go.Ground.chain }, { on := 10, ground := Go.Ground.guard }], guard := some (10, false) }, { dst := some 30, op := Go.Op.move (Go.Operand.tmp 1), type := 28, pos := "law.go:30", after := #[{ on := 10, ground := Go.Ground.guard }], guard := some (10, false) }, { dst := some 31, op := Go.Op.move (Go.Operand.tmp 2), type := 3, pos := "law.go:30", after := #[{ on := 10, ground := Go.Ground.guard }], guard := some (10, false) }, { dst := some 32, op := Go.Op.slice 28 (Go.Operand.tmp 30) none (some (Go.Operand.tmp 31)) none, type := 28, pos := "law.go:30", after := #[{ on := 22, ground := Go.Ground.data }, { on := 23, ground := Go.Ground.data }, { on := 10, ground := Go.Ground.guard }], guard := some (10, false) }, { dst := some 33, op := Go.Op.buildSlice 22 1 #[(0, Go.Operand.tmp 32)], type := 22, pos := "law.go:30", after := #[{ on := 24, ground := Go.Ground.data }, { on := 10, ground := Go.Ground.guard }], guard := some (10, false) }, { dst := some 34, op := Go.Op.call { callee := Go.Callee.value (Go.Operand.func 10), args := #[Go.Operand.tmp 33], argTypes := #[22] }, type := 25, pos := "law.go:30", after := #[{ on := 25, ground := Go.Ground.data }, { on := 21, ground := Go.Ground.chain }, { on := 10, ground := Go.Ground.guard }], guard := some (10, false) }, { dst := some 35, op := Go.Op.binOp Go.BinOp.neq 25 (Go.Operand.tmp 29) (Go.Operand.tmp 34) 25, type := 4, pos := "law.go:30", after := #[{ on := 21, ground := Go.Ground.data }, { on := 26, ground := Go.Ground.data }, { on := 10, ground := Go.Ground.guard }], guard := some (10, false) }, { dst := some 36, op := Go.Op.pick (Go.Operand.tmp 18) (Go.Operand.const (Go.Value.bool true)) (Go.Operand.tmp 35), type := 4, pos := "law.go:30", after := #[{ on := 10, ground := Go.Ground.data }, { on := 27, ground := Go.Ground.data }], guard := none }]
/-- The frame: what stood there, and what has come up. -/
def lnF (f v : Nat → Value) : Act := ⟨#[f 0, f 1, f 2, f 3, f 4, f 5, f 6, f 7, v 0, v 1, v 2, v 3, v 4, v 5, v 6, v 7, v 8, v 9, v 10, v 11, v 12, v 13, v 14, v 15, v 16, v 17, v 18, v 19, v 20, v 21, v 22, v 23, v 24, v 25, v 26, v 27, v 28, f 37], []⟩
theorem lnback : ∀ (i : Nat) (o : Oper), lnops[i]? = some o → ∀ e ∈ o.after, Region.binds .any e = true → e.on < i := by
  have h : (List.range lnops.size).all (fun i => (lnops[i]?.map fun o => o.after.toList.all fun e => decide (e.on < i)).getD true) = true := by decide +kernel
  intro i o ho e he _
  have hi : i < lnops.size := (Array.getElem?_eq_some_iff.1 ho).1
  have := List.all_eq_true.1 h i (List.mem_range.2 hi)
  rw [ho] at this
  simp only [Option.map_some, Option.getD_some] at this
  have := List.all_eq_true.1 this e (by simpa using he)
  simpa using this
theorem lnat {i : Nat} {o : Oper} (h : lnops[i]? = some o) : i < 29 := (Array.getElem?_eq_some_iff.1 h).1
theorem lnput (f : Nat → Value) : ∀ (i : Nat) (o : Oper), lnops[i]? = some o → ∀ v u, (lnF f v).put o.dst u = lnF f (setAt v i u) := by
  intro i o ho v u
  have hi := lnat ho
  match i, hi with
  | 0, _ => cases ho; rfl
  | 1, _ => cases ho; rfl
  | 2, _ => cases ho; rfl
  | 3, _ => cases ho; rfl
  | 4, _ => cases ho; rfl
  | 5, _ => cases ho; rfl
  | 6, _ => cases ho; rfl
  | 7, _ => cases ho; rfl
  | 8, _ => cases ho; rfl
  | 9, _ => cases ho; rfl
  | 10, _ => cases ho; rfl
  | 11, _ => cases ho; rfl
  | 12, _ => cases ho; rfl
  | 13, _ => cases ho; rfl
  | 14, _ => cases ho; rfl
  | 15, _ => cases ho; rfl
  | 16, _ => cases ho; rfl
  | 17, _ => cases ho; rfl
  | 18, _ => cases ho; rfl
  | 19, _ => cases ho; rfl
  | 20, _ => cases ho; rfl
  | 21, _ => cases ho; rfl
  | 22, _ => cases ho; rfl
  | 23, _ => cases ho; rfl
  | 24, _ => cases ho; rfl
  | 25, _ => cases ho; rfl
  | 26, _ => cases ho; rfl
  | 27, _ => cases ho; rfl
  | 28, _ => cases ho; rfl

/-- What each operation leaves. -/
def lnJ (SV : List Value) (pz : Part) (p1 : Part) (p2 : Part) (p3 : Part) (n : Nat) (nh : Nat) : Nat → Value → World → Prop
  | 0, v, w => v = pz.v
  | 1, v, w => v = .int .i64 (n : Int)
  | 2, v, w => v = p1.v
  | 3, v, w => ∃ g, v = .slice (some ⟨g, 0, none⟩) 1 1 ∧ Ps w (some ⟨g, 0, none⟩) [p1]
  | 4, v, w => v = .agg SV.toArray
  | 5, v, w => v = pz.v
  | 6, v, w => v = .int .i64 (n : Int)
  | 7, v, w => v = p1.v
  | 8, v, w => v = .agg SV.toArray
  | 9, v, w => v = .bool false
  | 10, v, w => v = .bool false
  | 11, v, w => v = pz.v
  | 12, v, w => v = .int .i64 (n : Int)
  | 13, v, w => v = .int .i64 (nh : Int)
  | 14, v, w => v = p2.v
  | 15, v, w => v = pz.v
  | 16, v, w => v = .int .i64 (n : Int)
  | 17, v, w => v = .int .i64 (nh : Int)
  | 18, v, w => v = .int .i64 (n : Int)
  | 19, v, w => v = p3.v
  | 20, v, w => ∃ g, v = .slice (some ⟨g, 0, none⟩) 2 2 ∧ Ps w (some ⟨g, 0, none⟩) [p2, p3]
  | 21, v, w => v = .agg SV.toArray
  | 22, v, w => v = pz.v
  | 23, v, w => v = .int .i64 (n : Int)
  | 24, v, w => v = p1.v
  | 25, v, w => ∃ g, v = .slice (some ⟨g, 0, none⟩) 1 1 ∧ Ps w (some ⟨g, 0, none⟩) [p1]
  | 26, v, w => v = .agg SV.toArray
  | 27, v, w => v = .bool false
  | _, v, w => v = .bool false
theorem lnmono {SV : List Value} {pz : Part} {p1 : Part} {p2 : Part} {p3 : Part} {n : Nat} {nh : Nat} (j : Nat) (v : Value) (w w' : World) (hB : Below w.heap.size w w') (h : lnJ SV pz p1 p2 p3 n nh j v w) : lnJ SV pz p1 p2 p3 n nh j v w' := by
  unfold lnJ at h ⊢
  split at h <;> first | exact h | (obtain ⟨g, h1, h2⟩ := h; exact ⟨g, h1, h2.below hB⟩)
/-- What is known ahead of it. -/
structure lnK (f : Nat → Value) (w0 : World) (SV : List Value) (pz : Part) (p1 : Part) (p2 : Part) (p3 : Part) (n : Nat) (nh : Nat) : Prop where
  t : Tab w0
  f1 : f 1 = pz.v
  f2 : f 2 = .int .i64 (n : Int)
  a : p1.ok w0
  b : p2.ok w0
  c : p3.ok w0
  v0 : shaV p1.z = SV
  v1 : shaV (flat [p1]) = SV
  v2 : shaV (flat [p2, p3]) = SV
  n0 : p1.l ≤ 1000000
  n1 : (flat [p1]).length ≤ 100000000
  n2 : (flat [p2, p3]).length ≤ 100000000
  e1 : ∀ V, (binOp .neq 25 (.agg SV.toArray) (.agg SV.toArray)).run Tryd.prog V = .ok (.bool false) V
  e2 : ∀ V, (Op.equalIn 10000 25 (.agg SV.toArray) (.agg SV.toArray)).run Tryd.prog V = .ok true V
  l1 : ∀ w, (Instr.slice 28 pz.v none (some (.int .i64 (n : Int))) none).run Tryd.prog w = .ok p1.v w
  l2 : ∀ w, (Instr.slice 28 pz.v none (some (.int .i64 (nh : Int))) none).run Tryd.prog w = .ok p2.v w
  l3 : ∀ w, (Instr.slice 28 pz.v (some (.int .i64 (nh : Int))) (some (.int .i64 (n : Int))) none).run Tryd.prog w = .ok p3.v w
  q : ∀ w, (binOp .quo 3 (.int .i64 (n : Int)) (.int .i64 2)).run Tryd.prog w = .ok (.int .i64 (nh : Int)) w
def lnPost (f : Nat → Value) (w0 : World) (SV : List Value) (pz : Part) (p1 : Part) (p2 : Part) (p3 : Part) (n : Nat) (nh : Nat) (v : Nat → Value) (w : World) (i : Nat) (dst : Option Tmp) (a' : Act) (w' : World) : Prop :=
  ∃ u, a' = (lnF f v).put dst u ∧ Below w0.heap.size w0 w' ∧ Below w.heap.size w w' ∧ lnJ SV pz p1 p2 p3 n nh i u w'
set_option maxRecDepth 100000 in
set_option maxHeartbeats 2000000 in
theorem lnstep {f : Nat → Value} {w0 : World} {SV : List Value} {pz : Part} {p1 : Part} {p2 : Part} {p3 : Part} {n : Nat} {nh : Nat} {Q : Exit → Act → World → Prop} (K : lnK f w0 SV pz p1 p2 p3 n nh) :
    ∀ (i : Nat) (o : Oper), lnops[i]? = some o → ∀ v w, Below w0.heap.size w0 w → (∀ e ∈ o.after, Region.binds .any e = true → lnJ SV pz p1 p2 p3 n nh e.on (v e.on) w) →
      wpOp Tryd.prog lnops Q i (lnPost f w0 SV pz p1 p2 p3 n nh v w i o.dst) (lnF f v) w := by
  intro i o ho v w hS hd
  have hi := lnat ho
  have hT := K.t.below hS
  match i, hi with
  | 0, _ =>
    replace ho : some ({ dst := some 8, op := Go.Op.move (Go.Operand.tmp 1), type := 28, pos := "law.go:30", after := #[], guard := none } : Oper) = some o := ho
    cases ho
    refine each_of (o := { dst := some 8, op := Go.Op.move (Go.Operand.tmp 1), type := 28, pos := "law.go:30", after := #[], guard := none }) rfl rfl ?_
    unfold lnF
    rw [K.f1]
    go_simp
    exact ⟨_, by unfold lnF; first | (rw [K.f1]; done) | (rw [K.f1]; rfl), hS, Below.refl _ _, rfl⟩
  | 1, _ =>
    replace ho : some ({ dst := some 9, op := Go.Op.move (Go.Operand.tmp 2), type := 3, pos := "law.go:30", after := #[], guard := none } : Oper) = some o := ho
    cases ho
    refine each_of (o := { dst := some 9, op := Go.Op.move (Go.Operand.tmp 2), type := 3, pos := "law.go:30", after := #[], guard := none }) rfl rfl ?_
    unfold lnF
    rw [K.f2]
    go_simp
    exact ⟨_, by unfold lnF; first | (rw [K.f2]; done) | (rw [K.f2]; rfl), hS, Below.refl _ _, rfl⟩
  | 2, _ =>
    replace ho : some ({ dst := some 10, op := Go.Op.slice 28 (Go.Operand.tmp 8) none (some (Go.Operand.tmp 9)) none, type := 28, pos := "law.go:30", after := #[{ on := 0, ground := Go.Ground.data }, { on := 1, ground := Go.Ground.data }], guard := none } : Oper) = some o := ho
    cases ho
    have h0 : v 0 = pz.v := hd ⟨0, .data⟩ (by simp) rfl
    have h1 : v 1 = .int .i64 (n : Int) := hd ⟨1, .data⟩ (by simp) rfl
    refine each_value (o := { dst := some 10, op := Go.Op.slice 28 (Go.Operand.tmp 8) none (some (Go.Operand.tmp 9)) none, type := 28, pos := "law.go:30", after := #[{ on := 0, ground := Go.Ground.data }, { on := 1, ground := Go.Ground.data }], guard := none }) rfl rfl (u := p1.v) (w' := w) ?_ ⟨_, rfl, hS, Below.refl _ _, rfl⟩
    unfold lnF
    rw [h0, h1]
    exact run_bind_of (K.l1 w)
  | 3, _ =>
    replace ho : some ({ dst := some 11, op := Go.Op.buildSlice 22 1 #[(0, Go.Operand.tmp 10)], type := 22, pos := "law.go:30", after := #[{ on := 2, ground := Go.Ground.data }], guard := none } : Oper) = some o := ho
    cases ho
    have h2 : v 2 = p1.v := hd ⟨2, .data⟩ (by simp) rfl
    refine each_of (o := { dst := some 11, op := Go.Op.buildSlice 22 1 #[(0, Go.Operand.tmp 10)], type := 22, pos := "law.go:30", after := #[{ on := 2, ground := Go.Ground.data }], guard := none }) rfl rfl ?_
    unfold lnF
    rw [h2]
    go_simp
    exact ⟨_, by unfold lnF; first | (rw [h2]; done) | (rw [h2]; rfl), hS.alloc hS.size _, (Below.refl _ _).alloc (Nat.le_refl _) _, ⟨_, rfl, ps_side [p1] (by intro p hp; simp only [List.mem_cons, List.mem_nil_iff, or_false] at hp; rw [hp]; exact K.a.below hS)⟩⟩
  | 4, _ =>
    replace ho : some ({ dst := some 12, op := Go.Op.call { callee := Go.Callee.value (Go.Operand.func 10), args := #[Go.Operand.tmp 11], argTypes := #[22] }, type := 25, pos := "law.go:30", after := #[{ on := 3, ground := Go.Ground.data }], guard := none } : Oper) = some o := ho
    cases ho
    obtain ⟨g, h, hp⟩ : ∃ g, v 3 = .slice (some ⟨g, 0, none⟩) 1 1 ∧ Ps w (some ⟨g, 0, none⟩) [p1] := hd ⟨3, .data⟩ (by simp) rfl
    refine each_of (o := { dst := some 12, op := Go.Op.call { callee := Go.Callee.value (Go.Operand.func 10), args := #[Go.Operand.tmp 11], argTypes := #[22] }, type := 25, pos := "law.go:30", after := #[{ on := 3, ground := Go.Ground.data }], guard := none }) rfl rfl ?_
    unfold lnF
    rw [h]
    go_simp
    refine (sum_side (n := 1) hT hp K.v1 K.n1 rfl (by decide)).mono ?_
    rintro e w' ⟨rfl, hB⟩
    exact ⟨_, by unfold lnF; first | (rw [h]; done) | (rw [h]; rfl), hS.trans (hB.mono hS.size), hB, rfl⟩
  | 5, _ =>
    replace ho : some ({ dst := some 13, op := Go.Op.move (Go.Operand.tmp 1), type := 28, pos := "law.go:30", after := #[], guard := none } : Oper) = some o := ho
    cases ho
    refine each_of (o := { dst := some 13, op := Go.Op.move (Go.Operand.tmp 1), type := 28, pos := "law.go:30", after := #[], guard := none }) rfl rfl ?_
    unfold lnF
    rw [K.f1]
    go_simp
    exact ⟨_, by unfold lnF; first | (rw [K.f1]; done) | (rw [K.f1]; rfl), hS, Below.refl _ _, rfl⟩
  | 6, _ =>
    replace ho : some ({ dst := some 14, op := Go.Op.move (Go.Operand.tmp 2), type := 3, pos := "law.go:30", after := #[], guard := none } : Oper) = some o := ho
    cases ho
    refine each_of (o := { dst := some 14, op := Go.Op.move (Go.Operand.tmp 2), type := 3, pos := "law.go:30", after := #[], guard := none }) rfl rfl ?_
    unfold lnF
    rw [K.f2]
    go_simp
    exact ⟨_, by unfold lnF; first | (rw [K.f2]; done) | (rw [K.f2]; rfl), hS, Below.refl _ _, rfl⟩
  | 7, _ =>
    replace ho : some ({ dst := some 15, op := Go.Op.slice 28 (Go.Operand.tmp 13) none (some (Go.Operand.tmp 14)) none, type := 28, pos := "law.go:30", after := #[{ on := 5, ground := Go.Ground.data }, { on := 6, ground := Go.Ground.data }], guard := none } : Oper) = some o := ho
    cases ho
    have h5 : v 5 = pz.v := hd ⟨5, .data⟩ (by simp) rfl
    have h6 : v 6 = .int .i64 (n : Int) := hd ⟨6, .data⟩ (by simp) rfl
    refine each_value (o := { dst := some 15, op := Go.Op.slice 28 (Go.Operand.tmp 13) none (some (Go.Operand.tmp 14)) none, type := 28, pos := "law.go:30", after := #[{ on := 5, ground := Go.Ground.data }, { on := 6, ground := Go.Ground.data }], guard := none }) rfl rfl (u := p1.v) (w' := w) ?_ ⟨_, rfl, hS, Below.refl _ _, rfl⟩
    unfold lnF
    rw [h5, h6]
    exact run_bind_of (K.l1 w)
  | 8, _ =>
    replace ho : some ({ dst := some 16, op := Go.Op.call { callee := Go.Callee.value (Go.Operand.func 11), args := #[Go.Operand.tmp 15], argTypes := #[28] }, type := 25, pos := "law.go:30", after := #[{ on := 7, ground := Go.Ground.data }, { on := 4, ground := Go.Ground.chain }], guard := none } : Oper) = some o := ho
    cases ho
    have h7 : v 7 = p1.v := hd ⟨7, .data⟩ (by simp) rfl
    refine each_of (o := { dst := some 16, op := Go.Op.call { callee := Go.Callee.value (Go.Operand.func 11), args := #[Go.Operand.tmp 15], argTypes := #[28] }, type := 25, pos := "law.go:30", after := #[{ on := 7, ground := Go.Ground.data }, { on := 4, ground := Go.Ground.chain }], guard := none }) rfl rfl ?_
    unfold lnF
    rw [h7]
    go_simp
    refine (id_part w (K.a.below hS) K.n0 K.v0).mono ?_
    rintro e w' ⟨rfl, hB⟩
    exact ⟨_, by unfold lnF; first | (rw [h7]; done) | (rw [h7]; rfl), hS.trans (hB.mono hS.size), hB, rfl⟩
  | 9, _ =>
    replace ho : some ({ dst := some 17, op := Go.Op.binOp Go.BinOp.neq 25 (Go.Operand.tmp 12) (Go.Operand.tmp 16) 25, type := 4, pos := "law.go:30", after := #[{ on := 4, ground := Go.Ground.data }, { on := 8, ground := Go.Ground.data }], guard := none } : Oper) = some o := ho
    cases ho
    have h4 : v 4 = .agg SV.toArray := hd ⟨4, .data⟩ (by simp) rfl
    have h8 : v 8 = .agg SV.toArray := hd ⟨8, .data⟩ (by simp) rfl
    have q1 := K.e1
    have q2 := K.e2
    refine each_of (o := { dst := some 17, op := Go.Op.binOp Go.BinOp.neq 25 (Go.Operand.tmp 12) (Go.Operand.tmp 16) 25, type := 4, pos := "law.go:30", after := #[{ on := 4, ground := Go.Ground.data }, { on := 8, ground := Go.Ground.data }], guard := none }) rfl rfl ?_
    unfold lnF
    rw [h4, h8]
    go_simp
    exact ⟨_, by unfold lnF; first | (rw [h4, h8]; done) | (rw [h4, h8]; rfl), hS, Below.refl _ _, rfl⟩
  | 10, _ =>
    replace ho : some ({ dst := some 18, op := Go.Op.move (Go.Operand.tmp 17), type := 4, pos := "law.go:30", after := #[{ on := 9, ground := Go.Ground.data }, { on := 8, ground := Go.Ground.chain }], guard := none } : Oper) = some o := ho
    cases ho
    have h9 : v 9 = .bool false := hd ⟨9, .data⟩ (by simp) rfl
    refine each_of (o := { dst := some 18, op := Go.Op.move (Go.Operand.tmp 17), type := 4, pos := "law.go:30", after := #[{ on := 9, ground := Go.Ground.data }, { on := 8, ground := Go.Ground.chain }], guard := none }) rfl rfl ?_
    unfold lnF
    rw [h9]
    go_simp
    exact ⟨_, by unfold lnF; first | (rw [h9]; done) | (rw [h9]; rfl), hS, Below.refl _ _, rfl⟩
  | 11, _ =>
    replace ho : some ({ dst := some 19, op := Go.Op.move (Go.Operand.tmp 1), type := 28, pos := "law.go:30", after := #[{ on := 10, ground := Go.Ground.guard }], guard := some (10, false) } : Oper) = some o := ho
    cases ho
    have h10 : v 10 = .bool false := hd ⟨10, .guard⟩ (by simp) rfl
    have hw : Region.wanted ({ dst := some 19, op := Go.Op.move (Go.Operand.tmp 1), type := 28, pos := "law.go:30", after := #[{ on := 10, ground := Go.Ground.guard }], guard := some (10, false) } : Oper) (yielded lnops (lnF f v).tmps) = true := by
      show ((match (some (v 10)) with | some (.bool b) => some b | _ => none) == some false) = true
      rw [h10]; rfl
    clear h10
    refine each_of (o := { dst := some 19, op := Go.Op.move (Go.Operand.tmp 1), type := 28, pos := "law.go:30", after := #[{ on := 10, ground := Go.Ground.guard }], guard := some (10, false) }) rfl hw ?_
    unfold lnF
    rw [K.f1]
    go_simp
    exact ⟨_, by unfold lnF; first | (rw [K.f1]; done) | (rw [K.f1]; rfl), hS, Below.refl _ _, rfl⟩
  | 12, _ =>
    replace ho : some ({ dst := some 20, op := Go.Op.move (Go.Operand.tmp 2), type := 3, pos := "law.go:30", after := #[{ on := 10, ground := Go.Ground.guard }], guard := some (10, false) } : Oper) = some o := ho
    cases ho
    have h10 : v 10 = .bool false := hd ⟨10, .guard⟩ (by simp) rfl
    have hw : Region.wanted ({ dst := some 20, op := Go.Op.move (Go.Operand.tmp 2), type := 3, pos := "law.go:30", after := #[{ on := 10, ground := Go.Ground.guard }], guard := some (10, false) } : Oper) (yielded lnops (lnF f v).tmps) = true := by
      show ((match (some (v 10)) with | some (.bool b) => some b | _ => none) == some false) = true
      rw [h10]; rfl
    clear h10
    refine each_of (o := { dst := some 20, op := Go.Op.move (Go.Operand.tmp 2), type := 3, pos := "law.go:30", after := #[{ on := 10, ground := Go.Ground.guard }], guard := some (10, false) }) rfl hw ?_
    unfold lnF
    rw [K.f2]
    go_simp
    exact ⟨_, by unfold lnF; first | (rw [K.f2]; done) | (rw [K.f2]; rfl), hS, Below.refl _ _, rfl⟩
  | 13, _ =>
    replace ho : some ({ dst := some 21, op := Go.Op.binOp Go.BinOp.quo 3 (Go.Operand.tmp 20) (Go.Operand.const (Go.Value.int Go.IntKind.i64 2)) 3, type := 3, pos := "law.go:30", after := #[{ on := 12, ground := Go.Ground.data }, { on := 10, ground := Go.Ground.guard }], guard := some (10, false) } : Oper) = some o := ho
    cases ho
    have h10 : v 10 = .bool false := hd ⟨10, .guard⟩ (by simp) rfl
    have hw : Region.wanted ({ dst := some 21, op := Go.Op.binOp Go.BinOp.quo 3 (Go.Operand.tmp 20) (Go.Operand.const (Go.Value.int Go.IntKind.i64 2)) 3, type := 3, pos := "law.go:30", after := #[{ on := 12, ground := Go.Ground.data }, { on := 10, ground := Go.Ground.guard }], guard := some (10, false) } : Oper) (yielded lnops (lnF f v).tmps) = true := by
      show ((match (some (v 10)) with | some (.bool b) => some b | _ => none) == some false) = true
      rw [h10]; rfl
    clear h10
    have h12 : v 12 = .int .i64 (n : Int) := hd ⟨12, .data⟩ (by simp) rfl
    refine each_value (o := { dst := some 21, op := Go.Op.binOp Go.BinOp.quo 3 (Go.Operand.tmp 20) (Go.Operand.const (Go.Value.int Go.IntKind.i64 2)) 3, type := 3, pos := "law.go:30", after := #[{ on := 12, ground := Go.Ground.data }, { on := 10, ground := Go.Ground.guard }], guard := some (10, false) }) rfl hw (u := .int .i64 (nh : Int)) (w' := w) ?_ ⟨_, rfl, hS, Below.refl _ _, rfl⟩
    unfold lnF
    rw [h12]
    exact run_bind_of (K.q w)
  | 14, _ =>
    replace ho : some ({ dst := some 22, op := Go.Op.slice 28 (Go.Operand.tmp 19) none (some (Go.Operand.tmp 21)) none, type := 28, pos := "law.go:30", after := #[{ on := 11, ground := Go.Ground.data }, { on := 13, ground := Go.Ground.data }, { on := 10, ground := Go.Ground.guard }], guard := some (10, false) } : Oper) = some o := ho
    cases ho
    have h10 : v 10 = .bool false := hd ⟨10, .guard⟩ (by simp) rfl
    have hw : Region.wanted ({ dst := some 22, op := Go.Op.slice 28 (Go.Operand.tmp 19) none (some (Go.Operand.tmp 21)) none, type := 28, pos := "law.go:30", after := #[{ on := 11, ground := Go.Ground.data }, { on := 13, ground := Go.Ground.data }, { on := 10, ground := Go.Ground.guard }], guard := some (10, false) } : Oper) (yielded lnops (lnF f v).tmps) = true := by
      show ((match (some (v 10)) with | some (.bool b) => some b | _ => none) == some false) = true
      rw [h10]; rfl
    clear h10
    have h11 : v 11 = pz.v := hd ⟨11, .data⟩ (by simp) rfl
    have h13 : v 13 = .int .i64 (nh : Int) := hd ⟨13, .data⟩ (by simp) rfl
    refine each_value (o := { dst := some 22, op := Go.Op.slice 28 (Go.Operand.tmp 19) none (some (Go.Operand.tmp 21)) none, type := 28, pos := "law.go:30", after := #[{ on := 11, ground := Go.Ground.data }, { on := 13, ground := Go.Ground.data }, { on := 10, ground := Go.Ground.guard }], guard := some (10, false) }) rfl hw (u := p2.v) (w' := w) ?_ ⟨_, rfl, hS, Below.refl _ _, rfl⟩
    unfold lnF
    rw [h11, h13]
    exact run_bind_of (K.l2 w)
  | 15, _ =>
    replace ho : some ({ dst := some 23, op := Go.Op.move (Go.Operand.tmp 1), type := 28, pos := "law.go:30", after := #[{ on := 10, ground := Go.Ground.guard }], guard := some (10, false) } : Oper) = some o := ho
    cases ho
    have h10 : v 10 = .bool false := hd ⟨10, .guard⟩ (by simp) rfl
    have hw : Region.wanted ({ dst := some 23, op := Go.Op.move (Go.Operand.tmp 1), type := 28, pos := "law.go:30", after := #[{ on := 10, ground := Go.Ground.guard }], guard := some (10, false) } : Oper) (yielded lnops (lnF f v).tmps) = true := by
      show ((match (some (v 10)) with | some (.bool b) => some b | _ => none) == some false) = true
      rw [h10]; rfl
    clear h10
    refine each_of (o := { dst := some 23, op := Go.Op.move (Go.Operand.tmp 1), type := 28, pos := "law.go:30", after := #[{ on := 10, ground := Go.Ground.guard }], guard := some (10, false) }) rfl hw ?_
    unfold lnF
    rw [K.f1]
    go_simp
    exact ⟨_, by unfold lnF; first | (rw [K.f1]; done) | (rw [K.f1]; rfl), hS, Below.refl _ _, rfl⟩
  | 16, _ =>
    replace ho : some ({ dst := some 24, op := Go.Op.move (Go.Operand.tmp 2), type := 3, pos := "law.go:30", after := #[{ on := 10, ground := Go.Ground.guard }], guard := some (10, false) } : Oper) = some o := ho
    cases ho
    have h10 : v 10 = .bool false := hd ⟨10, .guard⟩ (by simp) rfl
    have hw : Region.wanted ({ dst := some 24, op := Go.Op.move (Go.Operand.tmp 2), type := 3, pos := "law.go:30", after := #[{ on := 10, ground := Go.Ground.guard }], guard := some (10, false) } : Oper) (yielded lnops (lnF f v).tmps) = true := by
      show ((match (some (v 10)) with | some (.bool b) => some b | _ => none) == some false) = true
      rw [h10]; rfl
    clear h10
    refine each_of (o := { dst := some 24, op := Go.Op.move (Go.Operand.tmp 2), type := 3, pos := "law.go:30", after := #[{ on := 10, ground := Go.Ground.guard }], guard := some (10, false) }) rfl hw ?_
    unfold lnF
    rw [K.f2]
    go_simp
    exact ⟨_, by unfold lnF; first | (rw [K.f2]; done) | (rw [K.f2]; rfl), hS, Below.refl _ _, rfl⟩
  | 17, _ =>
    replace ho : some ({ dst := some 25, op := Go.Op.binOp Go.BinOp.quo 3 (Go.Operand.tmp 24) (Go.Operand.const (Go.Value.int Go.IntKind.i64 2)) 3, type := 3, pos := "law.go:30", after := #[{ on := 16, ground := Go.Ground.data }, { on := 10, ground := Go.Ground.guard }], guard := some (10, false) } : Oper) = some o := ho
    cases ho
    have h10 : v 10 = .bool false := hd ⟨10, .guard⟩ (by simp) rfl
    have hw : Region.wanted ({ dst := some 25, op := Go.Op.binOp Go.BinOp.quo 3 (Go.Operand.tmp 24) (Go.Operand.const (Go.Value.int Go.IntKind.i64 2)) 3, type := 3, pos := "law.go:30", after := #[{ on := 16, ground := Go.Ground.data }, { on := 10, ground := Go.Ground.guard }], guard := some (10, false) } : Oper) (yielded lnops (lnF f v).tmps) = true := by
      show ((match (some (v 10)) with | some (.bool b) => some b | _ => none) == some false) = true
      rw [h10]; rfl
    clear h10
    have h16 : v 16 = .int .i64 (n : Int) := hd ⟨16, .data⟩ (by simp) rfl
    refine each_value (o := { dst := some 25, op := Go.Op.binOp Go.BinOp.quo 3 (Go.Operand.tmp 24) (Go.Operand.const (Go.Value.int Go.IntKind.i64 2)) 3, type := 3, pos := "law.go:30", after := #[{ on := 16, ground := Go.Ground.data }, { on := 10, ground := Go.Ground.guard }], guard := some (10, false) }) rfl hw (u := .int .i64 (nh : Int)) (w' := w) ?_ ⟨_, rfl, hS, Below.refl _ _, rfl⟩
    unfold lnF
    rw [h16]
    exact run_bind_of (K.q w)
  | 18, _ =>
    replace ho : some ({ dst := some 26, op := Go.Op.move (Go.Operand.tmp 2), type := 3, pos := "law.go:30", after := #[{ on := 10, ground := Go.Ground.guard }], guard := some (10, false) } : Oper) = some o := ho
    cases ho
    have h10 : v 10 = .bool false := hd ⟨10, .guard⟩ (by simp) rfl
    have hw : Region.wanted ({ dst := some 26, op := Go.Op.move (Go.Operand.tmp 2), type := 3, pos := "law.go:30", after := #[{ on := 10, ground := Go.Ground.guard }], guard := some (10, false) } : Oper) (yielded lnops (lnF f v).tmps) = true := by
      show ((match (some (v 10)) with | some (.bool b) => some b | _ => none) == some false) = true
      rw [h10]; rfl
    clear h10
    refine each_of (o := { dst := some 26, op := Go.Op.move (Go.Operand.tmp 2), type := 3, pos := "law.go:30", after := #[{ on := 10, ground := Go.Ground.guard }], guard := some (10, false) }) rfl hw ?_
    unfold lnF
    rw [K.f2]
    go_simp
    exact ⟨_, by unfold lnF; first | (rw [K.f2]; done) | (rw [K.f2]; rfl), hS, Below.refl _ _, rfl⟩
  | 19, _ =>
    replace ho : some ({ dst := some 27, op := Go.Op.slice 28 (Go.Operand.tmp 23) (some (Go.Operand.tmp 25)) (some (Go.Operand.tmp 26)) none, type := 28, pos := "law.go:30", after := #[{ on := 15, ground := Go.Ground.data }, { on := 17, ground := Go.Ground.data }, { on := 18, ground := Go.Ground.data }, { on := 10, ground := Go.Ground.guard }], guard := some (10, false) } : Oper) = some o := ho
    cases ho
    have h10 : v 10 = .bool false := hd ⟨10, .guard⟩ (by simp) rfl
    have hw : Region.wanted ({ dst := some 27, op := Go.Op.slice 28 (Go.Operand.tmp 23) (some (Go.Operand.tmp 25)) (some (Go.Operand.tmp 26)) none, type := 28, pos := "law.go:30", after := #[{ on := 15, ground := Go.Ground.data }, { on := 17, ground := Go.Ground.data }, { on := 18, ground := Go.Ground.data }, { on := 10, ground := Go.Ground.guard }], guard := some (10, false) } : Oper) (yielded lnops (lnF f v).tmps) = true := by
      show ((match (some (v 10)) with | some (.bool b) => some b | _ => none) == some false) = true
      rw [h10]; rfl
    clear h10
    have h15 : v 15 = pz.v := hd ⟨15, .data⟩ (by simp) rfl
    have h17 : v 17 = .int .i64 (nh : Int) := hd ⟨17, .data⟩ (by simp) rfl
    have h18 : v 18 = .int .i64 (n : Int) := hd ⟨18, .data⟩ (by simp) rfl
    refine each_value (o := { dst := some 27, op := Go.Op.slice 28 (Go.Operand.tmp 23) (some (Go.Operand.tmp 25)) (some (Go.Operand.tmp 26)) none, type := 28, pos := "law.go:30", after := #[{ on := 15, ground := Go.Ground.data }, { on := 17, ground := Go.Ground.data }, { on := 18, ground := Go.Ground.data }, { on := 10, ground := Go.Ground.guard }], guard := some (10, false) }) rfl hw (u := p3.v) (w' := w) ?_ ⟨_, rfl, hS, Below.refl _ _, rfl⟩
    unfold lnF
    rw [h15, h17, h18]
    exact run_bind_of (K.l3 w)
  | 20, _ =>
    replace ho : some ({ dst := some 28, op := Go.Op.buildSlice 22 2 #[(0, Go.Operand.tmp 22), (1, Go.Operand.tmp 27)], type := 22, pos := "law.go:30", after := #[{ on := 14, ground := Go.Ground.data }, { on := 19, ground := Go.Ground.data }, { on := 10, ground := Go.Ground.guard }], guard := some (10, false) } : Oper) = some o := ho
    cases ho
    have h10 : v 10 = .bool false := hd ⟨10, .guard⟩ (by simp) rfl
    have hw : Region.wanted ({ dst := some 28, op := Go.Op.buildSlice 22 2 #[(0, Go.Operand.tmp 22), (1, Go.Operand.tmp 27)], type := 22, pos := "law.go:30", after := #[{ on := 14, ground := Go.Ground.data }, { on := 19, ground := Go.Ground.data }, { on := 10, ground := Go.Ground.guard }], guard := some (10, false) } : Oper) (yielded lnops (lnF f v).tmps) = true := by
      show ((match (some (v 10)) with | some (.bool b) => some b | _ => none) == some false) = true
      rw [h10]; rfl
    clear h10
    have h14 : v 14 = p2.v := hd ⟨14, .data⟩ (by simp) rfl
    have h19 : v 19 = p3.v := hd ⟨19, .data⟩ (by simp) rfl
    refine each_of (o := { dst := some 28, op := Go.Op.buildSlice 22 2 #[(0, Go.Operand.tmp 22), (1, Go.Operand.tmp 27)], type := 22, pos := "law.go:30", after := #[{ on := 14, ground := Go.Ground.data }, { on := 19, ground := Go.Ground.data }, { on := 10, ground := Go.Ground.guard }], guard := some (10, false) }) rfl hw ?_
    unfold lnF
    rw [h14, h19]
    go_simp
    exact ⟨_, by unfold lnF; first | (rw [h14, h19]; done) | (rw [h14, h19]; rfl), hS.alloc hS.size _, (Below.refl _ _).alloc (Nat.le_refl _) _, ⟨_, rfl, ps_side [p2, p3] (by intro p hp; simp only [List.mem_cons, List.mem_nil_iff, or_false] at hp; rcases hp with rfl | rfl; exact K.b.below hS; exact K.c.below hS)⟩⟩
  | 21, _ =>
    replace ho : some ({ dst := some 29, op := Go.Op.call { callee := Go.Callee.value (Go.Operand.func 10), args := #[Go.Operand.tmp 28], argTypes := #[22] }, type := 25, pos := "law.go:30", after := #[{ on := 20, ground := Go.Ground.data }, { on := 10, ground := Go.Ground.chain }, { on := 10, ground := Go.Ground.guard }], guard := some (10, false) } : Oper) = some o := ho
    cases ho
    have h10 : v 10 = .bool false := hd ⟨10, .chain⟩ (by simp) rfl
    have hw : Region.wanted ({ dst := some 29, op := Go.Op.call { callee := Go.Callee.value (Go.Operand.func 10), args := #[Go.Operand.tmp 28], argTypes := #[22] }, type := 25, pos := "law.go:30", after := #[{ on := 20, ground := Go.Ground.data }, { on := 10, ground := Go.Ground.chain }, { on := 10, ground := Go.Ground.guard }], guard := some (10, false) } : Oper) (yielded lnops (lnF f v).tmps) = true := by
      show ((match (some (v 10)) with | some (.bool b) => some b | _ => none) == some false) = true
      rw [h10]; rfl
    clear h10
    obtain ⟨g, h, hp⟩ : ∃ g, v 20 = .slice (some ⟨g, 0, none⟩) 2 2 ∧ Ps w (some ⟨g, 0, none⟩) [p2, p3] := hd ⟨20, .data⟩ (by simp) rfl
    refine each_of (o := { dst := some 29, op := Go.Op.call { callee := Go.Callee.value (Go.Operand.func 10), args := #[Go.Operand.tmp 28], argTypes := #[22] }, type := 25, pos := "law.go:30", after := #[{ on := 20, ground := Go.Ground.data }, { on := 10, ground := Go.Ground.chain }, { on := 10, ground := Go.Ground.guard }], guard := some (10, false) }) rfl hw ?_
    unfold lnF
    rw [h]
    go_simp
    refine (sum_side (n := 2) hT hp K.v2 K.n2 rfl (by decide)).mono ?_
    rintro e w' ⟨rfl, hB⟩
    exact ⟨_, by unfold lnF; first | (rw [h]; done) | (rw [h]; rfl), hS.trans (hB.mono hS.size), hB, rfl⟩
  | 22, _ =>
    replace ho : some ({ dst := some 30, op := Go.Op.move (Go.Operand.tmp 1), type := 28, pos := "law.go:30", after := #[{ on := 10, ground := Go.Ground.guard }], guard := some (10, false) } : Oper) = some o := ho
    cases ho
    have h10 : v 10 = .bool false := hd ⟨10, .guard⟩ (by simp) rfl
    have hw : Region.wanted ({ dst := some 30, op := Go.Op.move (Go.Operand.tmp 1), type := 28, pos := "law.go:30", after := #[{ on := 10, ground := Go.Ground.guard }], guard := some (10, false) } : Oper) (yielded lnops (lnF f v).tmps) = true := by
      show ((match (some (v 10)) with | some (.bool b) => some b | _ => none) == some false) = true
      rw [h10]; rfl
    clear h10
    refine each_of (o := { dst := some 30, op := Go.Op.move (Go.Operand.tmp 1), type := 28, pos := "law.go:30", after := #[{ on := 10, ground := Go.Ground.guard }], guard := some (10, false) }) rfl hw ?_
    unfold lnF
    rw [K.f1]
    go_simp
    exact ⟨_, by unfold lnF; first | (rw [K.f1]; done) | (rw [K.f1]; rfl), hS, Below.refl _ _, rfl⟩
  | 23, _ =>
    replace ho : some ({ dst := some 31, op := Go.Op.move (Go.Operand.tmp 2), type := 3, pos := "law.go:30", after := #[{ on := 10, ground := Go.Ground.guard }], guard := some (10, false) } : Oper) = some o := ho
    cases ho
    have h10 : v 10 = .bool false := hd ⟨10, .guard⟩ (by simp) rfl
    have hw : Region.wanted ({ dst := some 31, op := Go.Op.move (Go.Operand.tmp 2), type := 3, pos := "law.go:30", after := #[{ on := 10, ground := Go.Ground.guard }], guard := some (10, false) } : Oper) (yielded lnops (lnF f v).tmps) = true := by
      show ((match (some (v 10)) with | some (.bool b) => some b | _ => none) == some false) = true
      rw [h10]; rfl
    clear h10
    refine each_of (o := { dst := some 31, op := Go.Op.move (Go.Operand.tmp 2), type := 3, pos := "law.go:30", after := #[{ on := 10, ground := Go.Ground.guard }], guard := some (10, false) }) rfl hw ?_
    unfold lnF
    rw [K.f2]
    go_simp
    exact ⟨_, by unfold lnF; first | (rw [K.f2]; done) | (rw [K.f2]; rfl), hS, Below.refl _ _, rfl⟩
  | 24, _ =>
    replace ho : some ({ dst := some 32, op := Go.Op.slice 28 (Go.Operand.tmp 30) none (some (Go.Operand.tmp 31)) none, type := 28, pos := "law.go:30", after := #[{ on := 22, ground := Go.Ground.data }, { on := 23, ground := Go.Ground.data }, { on := 10, ground := Go.Ground.guard }], guard := some (10, false) } : Oper) = some o := ho
    cases ho
    have h10 : v 10 = .bool false := hd ⟨10, .guard⟩ (by simp) rfl
    have hw : Region.wanted ({ dst := some 32, op := Go.Op.slice 28 (Go.Operand.tmp 30) none (some (Go.Operand.tmp 31)) none, type := 28, pos := "law.go:30", after := #[{ on := 22, ground := Go.Ground.data }, { on := 23, ground := Go.Ground.data }, { on := 10, ground := Go.Ground.guard }], guard := some (10, false) } : Oper) (yielded lnops (lnF f v).tmps) = true := by
      show ((match (some (v 10)) with | some (.bool b) => some b | _ => none) == some false) = true
      rw [h10]; rfl
    clear h10
    have h22 : v 22 = pz.v := hd ⟨22, .data⟩ (by simp) rfl
    have h23 : v 23 = .int .i64 (n : Int) := hd ⟨23, .data⟩ (by simp) rfl
    refine each_value (o := { dst := some 32, op := Go.Op.slice 28 (Go.Operand.tmp 30) none (some (Go.Operand.tmp 31)) none, type := 28, pos := "law.go:30", after := #[{ on := 22, ground := Go.Ground.data }, { on := 23, ground := Go.Ground.data }, { on := 10, ground := Go.Ground.guard }], guard := some (10, false) }) rfl hw (u := p1.v) (w' := w) ?_ ⟨_, rfl, hS, Below.refl _ _, rfl⟩
    unfold lnF
    rw [h22, h23]
    exact run_bind_of (K.l1 w)
  | 25, _ =>
    replace ho : some ({ dst := some 33, op := Go.Op.buildSlice 22 1 #[(0, Go.Operand.tmp 32)], type := 22, pos := "law.go:30", after := #[{ on := 24, ground := Go.Ground.data }, { on := 10, ground := Go.Ground.guard }], guard := some (10, false) } : Oper) = some o := ho
    cases ho
    have h10 : v 10 = .bool false := hd ⟨10, .guard⟩ (by simp) rfl
    have hw : Region.wanted ({ dst := some 33, op := Go.Op.buildSlice 22 1 #[(0, Go.Operand.tmp 32)], type := 22, pos := "law.go:30", after := #[{ on := 24, ground := Go.Ground.data }, { on := 10, ground := Go.Ground.guard }], guard := some (10, false) } : Oper) (yielded lnops (lnF f v).tmps) = true := by
      show ((match (some (v 10)) with | some (.bool b) => some b | _ => none) == some false) = true
      rw [h10]; rfl
    clear h10
    have h24 : v 24 = p1.v := hd ⟨24, .data⟩ (by simp) rfl
    refine each_of (o := { dst := some 33, op := Go.Op.buildSlice 22 1 #[(0, Go.Operand.tmp 32)], type := 22, pos := "law.go:30", after := #[{ on := 24, ground := Go.Ground.data }, { on := 10, ground := Go.Ground.guard }], guard := some (10, false) }) rfl hw ?_
    unfold lnF
    rw [h24]
    go_simp
    exact ⟨_, by unfold lnF; first | (rw [h24]; done) | (rw [h24]; rfl), hS.alloc hS.size _, (Below.refl _ _).alloc (Nat.le_refl _) _, ⟨_, rfl, ps_side [p1] (by intro p hp; simp only [List.mem_cons, List.mem_nil_iff, or_false] at hp; rw [hp]; exact K.a.below hS)⟩⟩
  | 26, _ =>
    replace ho : some ({ dst := some 34, op := Go.Op.call { callee := Go.Callee.value (Go.Operand.func 10), args := #[Go.Operand.tmp 33], argTypes := #[22] }, type := 25, pos := "law.go:30", after := #[{ on := 25, ground := Go.Ground.data }, { on := 21, ground := Go.Ground.chain }, { on := 10, ground := Go.Ground.guard }], guard := some (10, false) } : Oper) = some o := ho
    cases ho
    have h10 : v 10 = .bool false := hd ⟨10, .guard⟩ (by simp) rfl
    have hw : Region.wanted ({ dst := some 34, op := Go.Op.call { callee := Go.Callee.value (Go.Operand.func 10), args := #[Go.Operand.tmp 33], argTypes := #[22] }, type := 25, pos := "law.go:30", after := #[{ on := 25, ground := Go.Ground.data }, { on := 21, ground := Go.Ground.chain }, { on := 10, ground := Go.Ground.guard }], guard := some (10, false) } : Oper) (yielded lnops (lnF f v).tmps) = true := by
      show ((match (some (v 10)) with | some (.bool b) => some b | _ => none) == some false) = true
      rw [h10]; rfl
    clear h10
    obtain ⟨g, h, hp⟩ : ∃ g, v 25 = .slice (some ⟨g, 0, none⟩) 1 1 ∧ Ps w (some ⟨g, 0, none⟩) [p1] := hd ⟨25, .data⟩ (by simp) rfl
    refine each_of (o := { dst := some 34, op := Go.Op.call { callee := Go.Callee.value (Go.Operand.func 10), args := #[Go.Operand.tmp 33], argTypes := #[22] }, type := 25, pos := "law.go:30", after := #[{ on := 25, ground := Go.Ground.data }, { on := 21, ground := Go.Ground.chain }, { on := 10, ground := Go.Ground.guard }], guard := some (10, false) }) rfl hw ?_
    unfold lnF
    rw [h]
    go_simp
    refine (sum_side (n := 1) hT hp K.v1 K.n1 rfl (by decide)).mono ?_
    rintro e w' ⟨rfl, hB⟩
    exact ⟨_, by unfold lnF; first | (rw [h]; done) | (rw [h]; rfl), hS.trans (hB.mono hS.size), hB, rfl⟩
  | 27, _ =>
    replace ho : some ({ dst := some 35, op := Go.Op.binOp Go.BinOp.neq 25 (Go.Operand.tmp 29) (Go.Operand.tmp 34) 25, type := 4, pos := "law.go:30", after := #[{ on := 21, ground := Go.Ground.data }, { on := 26, ground := Go.Ground.data }, { on := 10, ground := Go.Ground.guard }], guard := some (10, false) } : Oper) = some o := ho
    cases ho
    have h10 : v 10 = .bool false := hd ⟨10, .guard⟩ (by simp) rfl
    have hw : Region.wanted ({ dst := some 35, op := Go.Op.binOp Go.BinOp.neq 25 (Go.Operand.tmp 29) (Go.Operand.tmp 34) 25, type := 4, pos := "law.go:30", after := #[{ on := 21, ground := Go.Ground.data }, { on := 26, ground := Go.Ground.data }, { on := 10, ground := Go.Ground.guard }], guard := some (10, false) } : Oper) (yielded lnops (lnF f v).tmps) = true := by
      show ((match (some (v 10)) with | some (.bool b) => some b | _ => none) == some false) = true
      rw [h10]; rfl
    clear h10
    have h21 : v 21 = .agg SV.toArray := hd ⟨21, .data⟩ (by simp) rfl
    have h26 : v 26 = .agg SV.toArray := hd ⟨26, .data⟩ (by simp) rfl
    have q1 := K.e1
    have q2 := K.e2
    refine each_of (o := { dst := some 35, op := Go.Op.binOp Go.BinOp.neq 25 (Go.Operand.tmp 29) (Go.Operand.tmp 34) 25, type := 4, pos := "law.go:30", after := #[{ on := 21, ground := Go.Ground.data }, { on := 26, ground := Go.Ground.data }, { on := 10, ground := Go.Ground.guard }], guard := some (10, false) }) rfl hw ?_
    unfold lnF
    rw [h21, h26]
    go_simp
    exact ⟨_, by unfold lnF; first | (rw [h21, h26]; done) | (rw [h21, h26]; rfl), hS, Below.refl _ _, rfl⟩
  | 28, _ =>
    replace ho : some ({ dst := some 36, op := Go.Op.pick (Go.Operand.tmp 18) (Go.Operand.const (Go.Value.bool true)) (Go.Operand.tmp 35), type := 4, pos := "law.go:30", after := #[{ on := 10, ground := Go.Ground.data }, { on := 27, ground := Go.Ground.data }], guard := none } : Oper) = some o := ho
    cases ho
    have h10 : v 10 = .bool false := hd ⟨10, .data⟩ (by simp) rfl
    have h27 : v 27 = .bool false := hd ⟨27, .data⟩ (by simp) rfl
    refine each_of (o := { dst := some 36, op := Go.Op.pick (Go.Operand.tmp 18) (Go.Operand.const (Go.Value.bool true)) (Go.Operand.tmp 35), type := 4, pos := "law.go:30", after := #[{ on := 10, ground := Go.Ground.data }, { on := 27, ground := Go.Ground.data }], guard := none }) rfl rfl ?_
    unfold lnF
    rw [h10, h27]
    go_simp
    exact ⟨_, by unfold lnF; first | (rw [h10, h27]; done) | (rw [h10, h27]; rfl), hS, Below.refl _ _, rfl⟩

/-- THE STATEMENT, in whatever order. -/
theorem lnend {f v0 : Nat → Value} {w0 : World} {SV : List Value} {pz : Part} {p1 : Part} {p2 : Part} {p3 : Part} {n : Nat} {nh : Nat} {Q : Exit → Act → World → Prop} (K : lnK f w0 SV pz p1 p2 p3 n nh)
    (hQ : ∀ v w, Below w0.heap.size w0 w → v 28 = .bool false → Q .normal (lnF f v) w) : (Code.region 5 lnops true).wp Tryd.prog Q (lnF f v0) w0 :=
  wp_region_each (F := lnF f) (S := fun w => Below w0.heap.size w0 w) (J := lnJ SV pz p1 p2 p3 n nh) (R := fun w w' => Below w.heap.size w w') (by kernel_rfl) lnback (lnput f) lnmono
    (lnstep K) (fun v w hS hJ => hQ v w hS (hJ 28 (by decide))) v0 ((Below.refl _ _).drew)
theorem lnbegin {A0 : Act} {w0 : World} {SV : List Value} {pz : Part} {p1 : Part} {p2 : Part} {p3 : Part} {n : Nat} {nh : Nat} {Q : Exit → Act → World → Prop} (hA : A0 = lnF (fun i => A0.tmps.getD i undef) (fun i => A0.tmps.getD (if i = 0 then 8 else if i = 1 then 9 else if i = 2 then 10 else if i = 3 then 11 else if i = 4 then 12 else if i = 5 then 13 else if i = 6 then 14 else if i = 7 then 15 else if i = 8 then 16 else if i = 9 then 17 else if i = 10 then 18 else if i = 11 then 19 else if i = 12 then 20 else if i = 13 then 21 else if i = 14 then 22 else if i = 15 then 23 else if i = 16 then 24 else if i = 17 then 25 else if i = 18 then 26 else if i = 19 then 27 else if i = 20 then 28 else if i = 21 then 29 else if i = 22 then 30 else if i = 23 then 31 else if i = 24 then 32 else if i = 25 then 33 else if i = 26 then 34 else if i = 27 then 35 else if i = 28 then 36 else 0) undef))
    (K : lnK (fun i => A0.tmps.getD i undef) w0 SV pz p1 p2 p3 n nh) (hQ : ∀ v w, Below w0.heap.size w0 w → v 28 = .bool false → Q .normal (lnF (fun i => A0.tmps.getD i undef) v) w) : (Code.region 5 lnops true).wp Tryd.prog Q A0 w0 := by
  rw [hA]
  exact lnend K hQ
end Go.Proofs.YtdpnkdliibccjaaDoor
