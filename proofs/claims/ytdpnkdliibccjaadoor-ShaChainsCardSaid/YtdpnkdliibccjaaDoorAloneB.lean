/-
  ShaAlone's last statement, in whatever order: sums that are unlike.
-/
import Derived.Test.YtdpnkdliibccjaaDoorLensEnd
import Derived.Test.YtdpnkdliibccjaaDoorAloneA
namespace Go.Proofs.YtdpnkdliibccjaaDoor
open Go.RowKit
set_option linter.unusedVariables false
/-- Its operations. -/
def abops : Array Oper := #[{ dst := some 27, op := Go.Op.move (Go.Operand.tmp 0), type := 28, pos := "more.go:18", after := #[], guard := none }, { dst := some 28, op := Go.Op.buildSlice 22 1 #[(0, Go.Operand.tmp 27)], type := 22, pos := "more.go:18", after := #[{ on := 0, ground := Go.Ground.data }], guard := none }, { dst := some 29, op := Go.Op.call { callee := Go.Callee.value (Go.Operand.func 10), args := #[Go.Operand.tmp 28], argTypes := #[22] }, type := 25, pos := "more.go:18", after := #[{ on := 1, ground := Go.Ground.data }], guard := none }, { dst := some 30, op := Go.Op.load 25 (Go.Operand.tmp 5), type := 25, pos := "more.go:18", after := #[], guard := none }, { dst := some 31, op := Go.Op.binOp Go.BinOp.eql 25 (Go.Operand.tmp 29) (Go.Operand.tmp 30) 25, type := 4, pos := "more.go:18", after := #[{ on := 2, ground := Go.Ground.data }, { on := 3, ground := Go.Ground.data }], guard := none }, { dst := some 32, op := Go.Op.move (Go.Operand.tmp 31), type := 4, pos := "more.go:18", after := #[{ on := 4, ground := Go.Ground.data }, { on := 2, ground := Go.Ground.chain }], guard := none }, { dst := some 33, op := Go.Op.move (Go.Operand.tmp 1), type := 28, pos := "more.go:18", after := #[{ on := 5, ground := Go.Ground.guard }], guard := some (5, true) }, { dst := some 34, op := Go.Op.buildSlice 22 1 #[(0, Go.Operand.tmp 33)], type := 22, pos := "more.go:18", after := #[{ on := 6, ground := Go.Ground.data }, { on := 5, ground := Go.Ground.guard }], guard := some (5, true) }, { dst := some 35, op := Go.Op.call { callee := Go.Callee.value (Go.Operand.func 10), args := #[Go.Operand.tmp 34], argTypes := #[22] }, type := 25, pos := "more.go:18", after := #[{ on := 7, ground := Go.Ground.data }, { on := 5, ground := Go.Ground.chain }, { on := 5, ground := Go.Ground.guard }], guard := some (5, true) }, { dst := some 36, op := Go.Op.load 25 (Go.Operand.tmp 6), type := 25, pos := "more.go:18", after := #[{ on := 5, ground := Go.Ground.guard }], guard := some (5, true) }, { dst := some 37, op := Go.Op.binOp Go.BinOp.eql 25 (Go.Operand.tmp 35) (Go.Operand.tmp 36) 25, type := 4, pos := "more.go:18", after := #[{ on := 8, ground := Go.Ground.data }, { on := 9, ground := Go.Ground.data }, { on := 5, ground := Go.Ground.guard }], guard := some (5, true) }, { dst := some 38, op := Go.Op.pick (Go.Operand.tmp 32) (Go.Operand.tmp 37) (Go.Operand.const (Go.Value.bool false)), type := 4, pos := "more.go:18", after := #[{ on := 5, ground := Go.Ground.data }, { on := 10, ground := Go.Ground.data }], guard := none }, { dst := some 39, op := Go.Op.move (Go.Operand.tmp 38), type := 4, pos := "more.go:18", after := #[{ on := 11, ground := Go.Ground.data }, { on := 8, ground := Go.Ground.chain }], guard := none }, { dst := some 40, op := Go.Op.load 25 (Go.Operand.tmp 5), type := 25, pos := "more.go:18", after := #[{ on := 12, ground := Go.Ground.guard }], guard := some (12, true) }, { dst := some 41, op := Go.Op.move (Go.Operand.tmp 0), type := 28, pos := "more.go:18", after := #[{ on := 12, ground := Go.Ground.guard }], guard := some (12, true) }, { dst := some 42, op := Go.Op.call { callee := Go.Callee.value (Go.Operand.func 11), args := #[Go.Operand.tmp 41], argTypes := #[28] }, type := 25, pos := "more.go:18", after := #[{ on := 14, ground := Go.Ground.data }, { on := 12, ground := Go.Ground.chain }, { on := 12, ground := Go.Ground.guard }], guard := some (12, true) }, { dst := some 43, op := Go.Op.binOp Go.BinOp.eql 25 (Go.Operand.tmp 40) (Go.Operand.tmp 42) 25, type := 4, pos := "more.go:18", after := #[{ on := 13, ground := Go.Ground.data }, { on := 15, ground := Go.Ground.data }, { on := 12, ground := Go.Ground.guard }], guard := some (12, true) }, { dst := some 44, op := Go.Op.pick (Go.Operand.tmp 39) (Go.Operand.tmp 43) (Go.Operand.const (Go.Value.bool false)), type := 4, pos := "more.go:18", after := #[{ on := 12, ground := Go.Ground.data }, { on := 16, ground := Go.Ground.data }], guard := none }, { dst := some 45, op := Go.Op.move (Go.Operand.tmp 44), type := 4, pos := "more.go:18", after := #[{ on := 17, ground := Go.Ground.data }, { on := 15, ground := Go.Ground.chain }], guard := none }, { dst := some 46, op := Go.Op.load 25 (Go.Operand.tmp 5), type := 25, pos := "more.go:18", after := #[{ on := 18, ground := Go.Ground.guard }], guard := some (18, true) }, { dst := some 47, op := Go.Op.load 25 (Go.Operand.tmp 6), type := 25, pos := "more.go:18", after := #[{ on := 18, ground := Go.Ground.guard }], guard := some (18, true) }, { dst := some 48, op := Go.Op.binOp Go.BinOp.eql 25 (Go.Operand.tmp 46) (Go.Operand.tmp 47) 25, type := 4, pos := "more.go:18", after := #[{ on := 19, ground := Go.Ground.data }, { on := 20, ground := Go.Ground.data }, { on := 18, ground := Go.Ground.guard }], guard := some (18, true) }, { dst := some 49, op := Go.Op.move (Go.Operand.tmp 48), type := 4, pos := "more.go:18", after := #[{ on := 21, ground := Go.Ground.data }, { on := 18, ground := Go.Ground.chain }, { on := 18, ground := Go.Ground.guard }], guard := some (18, true) }, { dst := some 50, op := Go.Op.move (Go.Operand.tmp 0), type := 28, pos := "more.go:18", after := #[{ on := 22, ground := Go.Ground.guard }], guard := some (22, false) }, { dst := some 51, op := Go.Op.move (Go.Operand.tmp 1), type := 28, pos := "more.go:18", after := #[{ on := 22, ground := Go.Ground.guard }], guard := some (22, false) }, { dst := some 52, op := Go.Op.call { callee := Go.Callee.value (Go.Operand.func 15), args := #[Go.Operand.tmp 50, Go.Operand.tmp 51], argTypes := #[28, 28] }, type := 4, pos := "more.go:18", after := #[{ on := 23, ground := Go.Ground.data }, { on := 24, ground := Go.Ground.data }, { on := 22, ground := Go.Ground.chain }, { on := 22, ground := Go.Ground.guard }], guard := some (22, false) }, { dst := some 53, op := Go.Op.unOp Go.UnOp.not 4 (Go.Operand.tmp 52), type := 4, pos := "more.go:18", after := #[{ on := 25, ground := Go.Ground.data }, { on := 22, ground := Go.Ground.guard }], guard := some (22, false) }, { dst := some 54, op := Go.Op.pick (Go.Operand.tmp 49) (Go.Operand.const (Go.Value.bool true)) (Go.Operand.tmp 53), type := 4, pos := "more.go:18", after := #[{ on := 22, ground := Go.Ground.data }, { on := 26, ground := Go.Ground.data }, { on := 18, ground := Go.Ground.guard }], guard := some (18, true) }, { dst := some 55, op := Go.Op.pick (Go.Operand.tmp 45) (Go.Operand.tmp 54) (Go.Operand.const (Go.Value.bool false)), type := 4, pos := "more.go:18", after := #[{ on := 18, ground := Go.Ground.data }, { on := 27, ground := Go.Ground.data }], guard := none }, { dst := some 56, op := Go.Op.move (Go.Operand.tmp 55), type := 4, pos := "more.go:18", after := #[{ on := 28, ground := Go.Ground.data }, { on := 25, ground := Go.Ground.chain }], guard := none }, { dst := some 57, op := Go.Op.call { callee := Go.Callee.value (Go.Operand.func 14), args := #[], argTypes := #[] }, type := 4, pos := "more.go:18", after := #[{ on := 29, ground := Go.Ground.chain }, { on := 29, ground := Go.Ground.guard }], guard := some (29, true) }, { dst := some 58, op := Go.Op.pick (Go.Operand.tmp 56) (Go.Operand.tmp 57) (Go.Operand.const (Go.Value.bool false)), type := 4, pos := "more.go:18", after := #[{ on := 29, ground := Go.Ground.data }, { on := 30, ground := Go.Ground.data }], guard := none }, { dst := some 4, op := Go.Op.assign (Go.Operand.tmp 58), type := 4, pos := "more.go:18", after := #[{ on := 31, ground := Go.Ground.data }, { on := 30, ground := Go.Ground.chain }, { on := 0, ground := Go.Ground.phase }, { on := 1, ground := Go.Ground.phase }, { on := 2, ground := Go.Ground.phase }, { on := 3, ground := Go.Ground.phase }, { on := 4, ground := Go.Ground.phase }, { on := 5, ground := Go.Ground.phase }, { on := 6, ground := Go.Ground.phase }, { on := 7, ground := Go.Ground.phase }, { on := 8, ground := Go.Ground.phase }, { on := 9, ground := Go.Ground.phase }, { on := 10, ground := Go.Ground.phase }, { on := 11, ground := Go.Ground.phase }, { on := 12, ground := Go.Ground.phase }, { on := 13, ground := Go.Ground.phase }, { on := 14, ground := Go.Ground.phase }, { on := 15, ground := Go.Ground.phase }, { on := 16, ground := Go.Ground.phase }, { on := 17, ground := Go.Ground.phase }, { on := 18, ground := Go.Ground.phase }, { on := 19, ground := Go.Ground.phase }, { on := 20, ground := Go.Ground.phase }, { on := 21, ground := Go.Ground.phase }, { on := 22, ground := Go.Ground.phase }, { on := 23, ground := Go.Ground.phase }, { on := 24, ground := Go.Ground.phase }, { on := 25, ground := Go.Ground.phase }, { on := 26, ground := Go.Ground.phase }, { on := 27, ground := Go.Ground.phase }, { on := 28, ground := Go.Ground.phase }, { on := 29, ground := Go.Ground.phase }, { on := 30, ground := Go.Ground.phase }, { on := 31, ground := Go.Ground.phase }], guard := none }]
/-- The frame: what stood there, and what has come up. -/
def abF (f v : Nat → Value) : Act := ⟨#[f 0, f 1, f 2, f 3, v 32, f 5, f 6, f 7, f 8, f 9, f 10, f 11, f 12, f 13, f 14, f 15, f 16, f 17, f 18, f 19, f 20, f 21, f 22, f 23, f 24, f 25, f 26, v 0, v 1, v 2, v 3, v 4, v 5, v 6, v 7, v 8, v 9, v 10, v 11, v 12, v 13, v 14, v 15, v 16, v 17, v 18, v 19, v 20, v 21, v 22, v 23, v 24, v 25, v 26, v 27, v 28, v 29, v 30, v 31], []⟩
theorem abback : ∀ (i : Nat) (o : Oper), abops[i]? = some o → ∀ e ∈ o.after, Region.binds .any e = true → e.on < i := by
  have h : (List.range abops.size).all (fun i => (abops[i]?.map fun o => o.after.toList.all fun e => decide (e.on < i)).getD true) = true := by decide +kernel
  intro i o ho e he _
  have hi : i < abops.size := (Array.getElem?_eq_some_iff.1 ho).1
  have := List.all_eq_true.1 h i (List.mem_range.2 hi)
  rw [ho] at this
  simp only [Option.map_some, Option.getD_some] at this
  have := List.all_eq_true.1 this e (by simpa using he)
  simpa using this
theorem abat {i : Nat} {o : Oper} (h : abops[i]? = some o) : i < 33 := (Array.getElem?_eq_some_iff.1 h).1
theorem abput (f : Nat → Value) : ∀ (i : Nat) (o : Oper), abops[i]? = some o → ∀ v u, (abF f v).put o.dst u = abF f (setAt v i u) := by
  intro i o ho v u
  have hi := abat ho
  match i, hi with
  | 0, _ => cases ho; rfl
  | 1, _ => cases ho; rfl
  | 2, _ => cases ho; rfl
  | 3, _ => cases ho; rfl
  | 4, _ => cases ho; rfl
  | 5, _ => cases ho; rfl
  | 6, _ => cases ho; rfl
  | 7, _ => cases ho; rfl
  | 8, _ => cases ho; rfl
  | 9, _ => cases ho; rfl
  | 10, _ => cases ho; rfl
  | 11, _ => cases ho; rfl
  | 12, _ => cases ho; rfl
  | 13, _ => cases ho; rfl
  | 14, _ => cases ho; rfl
  | 15, _ => cases ho; rfl
  | 16, _ => cases ho; rfl
  | 17, _ => cases ho; rfl
  | 18, _ => cases ho; rfl
  | 19, _ => cases ho; rfl
  | 20, _ => cases ho; rfl
  | 21, _ => cases ho; rfl
  | 22, _ => cases ho; rfl
  | 23, _ => cases ho; rfl
  | 24, _ => cases ho; rfl
  | 25, _ => cases ho; rfl
  | 26, _ => cases ho; rfl
  | 27, _ => cases ho; rfl
  | 28, _ => cases ho; rfl
  | 29, _ => cases ho; rfl
  | 30, _ => cases ho; rfl
  | 31, _ => cases ho; rfl
  | 32, _ => cases ho; rfl

/-- What each operation leaves. -/
def abJ (SA : List Value) (SB : List Value) (pa : Part) (pb : Part) (gx : Nat) (gy : Nat) : Nat → Value → World → Prop
  | 0, v, w => v = pa.v
  | 1, v, w => ∃ g, v = .slice (some ⟨g, 0, none⟩) 1 1 ∧ Ps w (some ⟨g, 0, none⟩) [pa]
  | 2, v, w => v = .agg SA.toArray
  | 3, v, w => v = .agg SA.toArray
  | 4, v, w => v = .bool true
  | 5, v, w => v = .bool true
  | 6, v, w => v = pb.v
  | 7, v, w => ∃ g, v = .slice (some ⟨g, 0, none⟩) 1 1 ∧ Ps w (some ⟨g, 0, none⟩) [pb]
  | 8, v, w => v = .agg SB.toArray
  | 9, v, w => v = .agg SB.toArray
  | 10, v, w => v = .bool true
  | 11, v, w => v = .bool true
  | 12, v, w => v = .bool true
  | 13, v, w => v = .agg SA.toArray
  | 14, v, w => v = pa.v
  | 15, v, w => v = .agg SA.toArray
  | 16, v, w => v = .bool true
  | 17, v, w => v = .bool true
  | 18, v, w => v = .bool true
  | 19, v, w => v = .agg SA.toArray
  | 20, v, w => v = .agg SB.toArray
  | 21, v, w => v = .bool false
  | 22, v, w => v = .bool false
  | 23, v, w => v = pa.v
  | 24, v, w => v = pb.v
  | 25, v, w => v = .bool false
  | 26, v, w => v = .bool true
  | 27, v, w => v = .bool true
  | 28, v, w => v = .bool true
  | 29, v, w => v = .bool true
  | 30, v, w => v = .bool true
  | 31, v, w => v = .bool true
  | _, v, w => v = .bool true
theorem abmono {SA : List Value} {SB : List Value} {pa : Part} {pb : Part} {gx : Nat} {gy : Nat} (j : Nat) (v : Value) (w w' : World) (hB : Below w.heap.size w w') (h : abJ SA SB pa pb gx gy j v w) : abJ SA SB pa pb gx gy j v w' := by
  unfold abJ at h ⊢
  split at h <;> first | exact h | (obtain ⟨g, h1, h2⟩ := h; exact ⟨g, h1, h2.below hB⟩)
/-- What is known ahead of it. -/
structure abK (f : Nat → Value) (w0 : World) (SA : List Value) (SB : List Value) (pa : Part) (pb : Part) (gx : Nat) (gy : Nat) : Prop where
  t : Tab w0
  f0 : f 0 = pa.v
  f1 : f 1 = pb.v
  f5 : f 5 = .pointer (some ⟨gx, 0, none⟩)
  f6 : f 6 = .pointer (some ⟨gy, 0, none⟩)
  a : pa.ok w0
  b : pb.ok w0
  x : Blk w0 gx 25 SA
  y : Blk w0 gy 25 SB
  la : SA.length = 32
  lb : SB.length = 32
  v0 : shaV pa.z = SA
  v1 : shaV (flat [pa]) = SA
  v2 : shaV (flat [pb]) = SB
  n0 : pa.l ≤ 1000000
  n1 : (flat [pa]).length ≤ 100000000
  n2 : (flat [pb]).length ≤ 100000000
  e1 : ∀ V, (binOp .eql 25 (.agg SA.toArray) (.agg SA.toArray)).run Tryd.prog V = .ok (.bool true) V
  e2 : ∀ V, (Op.equalIn 10000 25 (.agg SA.toArray) (.agg SA.toArray)).run Tryd.prog V = .ok true V
  e3 : ∀ V, (binOp .eql 25 (.agg SB.toArray) (.agg SB.toArray)).run Tryd.prog V = .ok (.bool true) V
  e4 : ∀ V, (Op.equalIn 10000 25 (.agg SB.toArray) (.agg SB.toArray)).run Tryd.prog V = .ok true V
  e5 : ∀ V, (binOp .eql 25 (.agg SA.toArray) (.agg SB.toArray)).run Tryd.prog V = .ok (.bool false) V
  e6 : ∀ V, (Op.equalIn 10000 25 (.agg SA.toArray) (.agg SB.toArray)).run Tryd.prog V = .ok false V
  u : ∀ w, Below w0.heap.size w0 w → Calls Tryd.prog 15 #[pa.v, pb.v] w fun e w' => e = .returned (.bool false) ∧ Below w.heap.size w w'
def abPost (f : Nat → Value) (w0 : World) (SA : List Value) (SB : List Value) (pa : Part) (pb : Part) (gx : Nat) (gy : Nat) (v : Nat → Value) (w : World) (i : Nat) (dst : Option Tmp) (a' : Act) (w' : World) : Prop :=
  ∃ u, a' = (abF f v).put dst u ∧ Below w0.heap.size w0 w' ∧ Below w.heap.size w w' ∧ abJ SA SB pa pb gx gy i u w'
set_option maxRecDepth 100000 in
set_option maxHeartbeats 2000000 in
theorem abstep {f : Nat → Value} {w0 : World} {SA : List Value} {SB : List Value} {pa : Part} {pb : Part} {gx : Nat} {gy : Nat} {Q : Exit → Act → World → Prop} (K : abK f w0 SA SB pa pb gx gy) :
    ∀ (i : Nat) (o : Oper), abops[i]? = some o → ∀ v w, Below w0.heap.size w0 w → (∀ e ∈ o.after, Region.binds .any e = true → abJ SA SB pa pb gx gy e.on (v e.on) w) →
      wpOp Tryd.prog abops Q i (abPost f w0 SA SB pa pb gx gy v w i o.dst) (abF f v) w := by
  intro i o ho v w hS hd
  have hi := abat ho
  have hT := K.t.below hS
  match i, hi with
  | 0, _ =>
    replace ho : some ({ dst := some 27, op := Go.Op.move (Go.Operand.tmp 0), type := 28, pos := "more.go:18", after := #[], guard := none } : Oper) = some o := ho
    cases ho
    refine each_of (o := { dst := some 27, op := Go.Op.move (Go.Operand.tmp 0), type := 28, pos := "more.go:18", after := #[], guard := none }) rfl rfl ?_
    unfold abF
    rw [K.f0]
    go_simp
    exact ⟨_, by unfold abF; first | (rw [K.f0]; done) | (rw [K.f0]; rfl), hS, Below.refl _ _, rfl⟩
  | 1, _ =>
    replace ho : some ({ dst := some 28, op := Go.Op.buildSlice 22 1 #[(0, Go.Operand.tmp 27)], type := 22, pos := "more.go:18", after := #[{ on := 0, ground := Go.Ground.data }], guard := none } : Oper) = some o := ho
    cases ho
    have h0 : v 0 = pa.v := hd ⟨0, .data⟩ (by simp) rfl
    refine each_of (o := { dst := some 28, op := Go.Op.buildSlice 22 1 #[(0, Go.Operand.tmp 27)], type := 22, pos := "more.go:18", after := #[{ on := 0, ground := Go.Ground.data }], guard := none }) rfl rfl ?_
    unfold abF
    rw [h0]
    go_simp
    exact ⟨_, by unfold abF; first | (rw [h0]; done) | (rw [h0]; rfl), hS.alloc hS.size _, (Below.refl _ _).alloc (Nat.le_refl _) _, ⟨_, rfl, ps_side [pa] (by intro p hp; simp only [List.mem_cons, List.mem_nil_iff, or_false] at hp; rw [hp]; exact K.a.below hS)⟩⟩
  | 2, _ =>
    replace ho : some ({ dst := some 29, op := Go.Op.call { callee := Go.Callee.value (Go.Operand.func 10), args := #[Go.Operand.tmp 28], argTypes := #[22] }, type := 25, pos := "more.go:18", after := #[{ on := 1, ground := Go.Ground.data }], guard := none } : Oper) = some o := ho
    cases ho
    obtain ⟨g, h, hp⟩ : ∃ g, v 1 = .slice (some ⟨g, 0, none⟩) 1 1 ∧ Ps w (some ⟨g, 0, none⟩) [pa] := hd ⟨1, .data⟩ (by simp) rfl
    refine each_of (o := { dst := some 29, op := Go.Op.call { callee := Go.Callee.value (Go.Operand.func 10), args := #[Go.Operand.tmp 28], argTypes := #[22] }, type := 25, pos := "more.go:18", after := #[{ on := 1, ground := Go.Ground.data }], guard := none }) rfl rfl ?_
    unfold abF
    rw [h]
    go_simp
    refine (sum_side (n := 1) hT hp K.v1 K.n1 rfl (by decide)).mono ?_
    rintro e w' ⟨rfl, hB⟩
    exact ⟨_, by unfold abF; first | (rw [h]; done) | (rw [h]; rfl), hS.trans (hB.mono hS.size), hB, rfl⟩
  | 3, _ =>
    replace ho : some ({ dst := some 30, op := Go.Op.load 25 (Go.Operand.tmp 5), type := 25, pos := "more.go:18", after := #[], guard := none } : Oper) = some o := ho
    cases ho
    refine each_value (o := { dst := some 30, op := Go.Op.load 25 (Go.Operand.tmp 5), type := 25, pos := "more.go:18", after := #[], guard := none }) rfl rfl (u := .agg SA.toArray) (w' := w) ?_ ⟨_, rfl, hS, Below.refl _ _, rfl⟩
    unfold abF
    rw [K.f5]
    exact load_run w (K.x.below hS) K.la
  | 4, _ =>
    replace ho : some ({ dst := some 31, op := Go.Op.binOp Go.BinOp.eql 25 (Go.Operand.tmp 29) (Go.Operand.tmp 30) 25, type := 4, pos := "more.go:18", after := #[{ on := 2, ground := Go.Ground.data }, { on := 3, ground := Go.Ground.data }], guard := none } : Oper) = some o := ho
    cases ho
    have h2 : v 2 = .agg SA.toArray := hd ⟨2, .data⟩ (by simp) rfl
    have h3 : v 3 = .agg SA.toArray := hd ⟨3, .data⟩ (by simp) rfl
    have q1 := K.e1
    have q2 := K.e2
    refine each_of (o := { dst := some 31, op := Go.Op.binOp Go.BinOp.eql 25 (Go.Operand.tmp 29) (Go.Operand.tmp 30) 25, type := 4, pos := "more.go:18", after := #[{ on := 2, ground := Go.Ground.data }, { on := 3, ground := Go.Ground.data }], guard := none }) rfl rfl ?_
    unfold abF
    rw [h2, h3]
    go_simp
    exact ⟨_, by unfold abF; first | (rw [h2, h3]; done) | (rw [h2, h3]; rfl), hS, Below.refl _ _, rfl⟩
  | 5, _ =>
    replace ho : some ({ dst := some 32, op := Go.Op.move (Go.Operand.tmp 31), type := 4, pos := "more.go:18", after := #[{ on := 4, ground := Go.Ground.data }, { on := 2, ground := Go.Ground.chain }], guard := none } : Oper) = some o := ho
    cases ho
    have h4 : v 4 = .bool true := hd ⟨4, .data⟩ (by simp) rfl
    refine each_of (o := { dst := some 32, op := Go.Op.move (Go.Operand.tmp 31), type := 4, pos := "more.go:18", after := #[{ on := 4, ground := Go.Ground.data }, { on := 2, ground := Go.Ground.chain }], guard := none }) rfl rfl ?_
    unfold abF
    rw [h4]
    go_simp
    exact ⟨_, by unfold abF; first | (rw [h4]; done) | (rw [h4]; rfl), hS, Below.refl _ _, rfl⟩
  | 6, _ =>
    replace ho : some ({ dst := some 33, op := Go.Op.move (Go.Operand.tmp 1), type := 28, pos := "more.go:18", after := #[{ on := 5, ground := Go.Ground.guard }], guard := some (5, true) } : Oper) = some o := ho
    cases ho
    have h5 : v 5 = .bool true := hd ⟨5, .guard⟩ (by simp) rfl
    have hw : Region.wanted ({ dst := some 33, op := Go.Op.move (Go.Operand.tmp 1), type := 28, pos := "more.go:18", after := #[{ on := 5, ground := Go.Ground.guard }], guard := some (5, true) } : Oper) (yielded abops (abF f v).tmps) = true := by
      show ((match (some (v 5)) with | some (.bool b) => some b | _ => none) == some true) = true
      rw [h5]; rfl
    clear h5
    refine each_of (o := { dst := some 33, op := Go.Op.move (Go.Operand.tmp 1), type := 28, pos := "more.go:18", after := #[{ on := 5, ground := Go.Ground.guard }], guard := some (5, true) }) rfl hw ?_
    unfold abF
    rw [K.f1]
    go_simp
    exact ⟨_, by unfold abF; first | (rw [K.f1]; done) | (rw [K.f1]; rfl), hS, Below.refl _ _, rfl⟩
  | 7, _ =>
    replace ho : some ({ dst := some 34, op := Go.Op.buildSlice 22 1 #[(0, Go.Operand.tmp 33)], type := 22, pos := "more.go:18", after := #[{ on := 6, ground := Go.Ground.data }, { on := 5, ground := Go.Ground.guard }], guard := some (5, true) } : Oper) = some o := ho
    cases ho
    have h5 : v 5 = .bool true := hd ⟨5, .guard⟩ (by simp) rfl
    have hw : Region.wanted ({ dst := some 34, op := Go.Op.buildSlice 22 1 #[(0, Go.Operand.tmp 33)], type := 22, pos := "more.go:18", after := #[{ on := 6, ground := Go.Ground.data }, { on := 5, ground := Go.Ground.guard }], guard := some (5, true) } : Oper) (yielded abops (abF f v).tmps) = true := by
      show ((match (some (v 5)) with | some (.bool b) => some b | _ => none) == some true) = true
      rw [h5]; rfl
    clear h5
    have h6 : v 6 = pb.v := hd ⟨6, .data⟩ (by simp) rfl
    refine each_of (o := { dst := some 34, op := Go.Op.buildSlice 22 1 #[(0, Go.Operand.tmp 33)], type := 22, pos := "more.go:18", after := #[{ on := 6, ground := Go.Ground.data }, { on := 5, ground := Go.Ground.guard }], guard := some (5, true) }) rfl hw ?_
    unfold abF
    rw [h6]
    go_simp
    exact ⟨_, by unfold abF; first | (rw [h6]; done) | (rw [h6]; rfl), hS.alloc hS.size _, (Below.refl _ _).alloc (Nat.le_refl _) _, ⟨_, rfl, ps_side [pb] (by intro p hp; simp only [List.mem_cons, List.mem_nil_iff, or_false] at hp; rw [hp]; exact K.b.below hS)⟩⟩
  | 8, _ =>
    replace ho : some ({ dst := some 35, op := Go.Op.call { callee := Go.Callee.value (Go.Operand.func 10), args := #[Go.Operand.tmp 34], argTypes := #[22] }, type := 25, pos := "more.go:18", after := #[{ on := 7, ground := Go.Ground.data }, { on := 5, ground := Go.Ground.chain }, { on := 5, ground := Go.Ground.guard }], guard := some (5, true) } : Oper) = some o := ho
    cases ho
    have h5 : v 5 = .bool true := hd ⟨5, .chain⟩ (by simp) rfl
    have hw : Region.wanted ({ dst := some 35, op := Go.Op.call { callee := Go.Callee.value (Go.Operand.func 10), args := #[Go.Operand.tmp 34], argTypes := #[22] }, type := 25, pos := "more.go:18", after := #[{ on := 7, ground := Go.Ground.data }, { on := 5, ground := Go.Ground.chain }, { on := 5, ground := Go.Ground.guard }], guard := some (5, true) } : Oper) (yielded abops (abF f v).tmps) = true := by
      show ((match (some (v 5)) with | some (.bool b) => some b | _ => none) == some true) = true
      rw [h5]; rfl
    clear h5
    obtain ⟨g, h, hp⟩ : ∃ g, v 7 = .slice (some ⟨g, 0, none⟩) 1 1 ∧ Ps w (some ⟨g, 0, none⟩) [pb] := hd ⟨7, .data⟩ (by simp) rfl
    refine each_of (o := { dst := some 35, op := Go.Op.call { callee := Go.Callee.value (Go.Operand.func 10), args := #[Go.Operand.tmp 34], argTypes := #[22] }, type := 25, pos := "more.go:18", after := #[{ on := 7, ground := Go.Ground.data }, { on := 5, ground := Go.Ground.chain }, { on := 5, ground := Go.Ground.guard }], guard := some (5, true) }) rfl hw ?_
    unfold abF
    rw [h]
    go_simp
    refine (sum_side (n := 1) hT hp K.v2 K.n2 rfl (by decide)).mono ?_
    rintro e w' ⟨rfl, hB⟩
    exact ⟨_, by unfold abF; first | (rw [h]; done) | (rw [h]; rfl), hS.trans (hB.mono hS.size), hB, rfl⟩
  | 9, _ =>
    replace ho : some ({ dst := some 36, op := Go.Op.load 25 (Go.Operand.tmp 6), type := 25, pos := "more.go:18", after := #[{ on := 5, ground := Go.Ground.guard }], guard := some (5, true) } : Oper) = some o := ho
    cases ho
    have h5 : v 5 = .bool true := hd ⟨5, .guard⟩ (by simp) rfl
    have hw : Region.wanted ({ dst := some 36, op := Go.Op.load 25 (Go.Operand.tmp 6), type := 25, pos := "more.go:18", after := #[{ on := 5, ground := Go.Ground.guard }], guard := some (5, true) } : Oper) (yielded abops (abF f v).tmps) = true := by
      show ((match (some (v 5)) with | some (.bool b) => some b | _ => none) == some true) = true
      rw [h5]; rfl
    clear h5
    refine each_value (o := { dst := some 36, op := Go.Op.load 25 (Go.Operand.tmp 6), type := 25, pos := "more.go:18", after := #[{ on := 5, ground := Go.Ground.guard }], guard := some (5, true) }) rfl hw (u := .agg SB.toArray) (w' := w) ?_ ⟨_, rfl, hS, Below.refl _ _, rfl⟩
    unfold abF
    rw [K.f6]
    exact load_run w (K.y.below hS) K.lb
  | 10, _ =>
    replace ho : some ({ dst := some 37, op := Go.Op.binOp Go.BinOp.eql 25 (Go.Operand.tmp 35) (Go.Operand.tmp 36) 25, type := 4, pos := "more.go:18", after := #[{ on := 8, ground := Go.Ground.data }, { on := 9, ground := Go.Ground.data }, { on := 5, ground := Go.Ground.guard }], guard := some (5, true) } : Oper) = some o := ho
    cases ho
    have h5 : v 5 = .bool true := hd ⟨5, .guard⟩ (by simp) rfl
    have hw : Region.wanted ({ dst := some 37, op := Go.Op.binOp Go.BinOp.eql 25 (Go.Operand.tmp 35) (Go.Operand.tmp 36) 25, type := 4, pos := "more.go:18", after := #[{ on := 8, ground := Go.Ground.data }, { on := 9, ground := Go.Ground.data }, { on := 5, ground := Go.Ground.guard }], guard := some (5, true) } : Oper) (yielded abops (abF f v).tmps) = true := by
      show ((match (some (v 5)) with | some (.bool b) => some b | _ => none) == some true) = true
      rw [h5]; rfl
    clear h5
    have h8 : v 8 = .agg SB.toArray := hd ⟨8, .data⟩ (by simp) rfl
    have h9 : v 9 = .agg SB.toArray := hd ⟨9, .data⟩ (by simp) rfl
    have q1 := K.e3
    have q2 := K.e4
    refine each_of (o := { dst := some 37, op := Go.Op.binOp Go.BinOp.eql 25 (Go.Operand.tmp 35) (Go.Operand.tmp 36) 25, type := 4, pos := "more.go:18", after := #[{ on := 8, ground := Go.Ground.data }, { on := 9, ground := Go.Ground.data }, { on := 5, ground := Go.Ground.guard }], guard := some (5, true) }) rfl hw ?_
    unfold abF
    rw [h8, h9]
    go_simp
    exact ⟨_, by unfold abF; first | (rw [h8, h9]; done) | (rw [h8, h9]; rfl), hS, Below.refl _ _, rfl⟩
  | 11, _ =>
    replace ho : some ({ dst := some 38, op := Go.Op.pick (Go.Operand.tmp 32) (Go.Operand.tmp 37) (Go.Operand.const (Go.Value.bool false)), type := 4, pos := "more.go:18", after := #[{ on := 5, ground := Go.Ground.data }, { on := 10, ground := Go.Ground.data }], guard := none } : Oper) = some o := ho
    cases ho
    have h5 : v 5 = .bool true := hd ⟨5, .data⟩ (by simp) rfl
    have h10 : v 10 = .bool true := hd ⟨10, .data⟩ (by simp) rfl
    refine each_of (o := { dst := some 38, op := Go.Op.pick (Go.Operand.tmp 32) (Go.Operand.tmp 37) (Go.Operand.const (Go.Value.bool false)), type := 4, pos := "more.go:18", after := #[{ on := 5, ground := Go.Ground.data }, { on := 10, ground := Go.Ground.data }], guard := none }) rfl rfl ?_
    unfold abF
    rw [h5, h10]
    go_simp
    exact ⟨_, by unfold abF; first | (rw [h5, h10]; done) | (rw [h5, h10]; rfl), hS, Below.refl _ _, rfl⟩
  | 12, _ =>
    replace ho : some ({ dst := some 39, op := Go.Op.move (Go.Operand.tmp 38), type := 4, pos := "more.go:18", after := #[{ on := 11, ground := Go.Ground.data }, { on := 8, ground := Go.Ground.chain }], guard := none } : Oper) = some o := ho
    cases ho
    have h11 : v 11 = .bool true := hd ⟨11, .data⟩ (by simp) rfl
    refine each_of (o := { dst := some 39, op := Go.Op.move (Go.Operand.tmp 38), type := 4, pos := "more.go:18", after := #[{ on := 11, ground := Go.Ground.data }, { on := 8, ground := Go.Ground.chain }], guard := none }) rfl rfl ?_
    unfold abF
    rw [h11]
    go_simp
    exact ⟨_, by unfold abF; first | (rw [h11]; done) | (rw [h11]; rfl), hS, Below.refl _ _, rfl⟩
  | 13, _ =>
    replace ho : some ({ dst := some 40, op := Go.Op.load 25 (Go.Operand.tmp 5), type := 25, pos := "more.go:18", after := #[{ on := 12, ground := Go.Ground.guard }], guard := some (12, true) } : Oper) = some o := ho
    cases ho
    have h12 : v 12 = .bool true := hd ⟨12, .guard⟩ (by simp) rfl
    have hw : Region.wanted ({ dst := some 40, op := Go.Op.load 25 (Go.Operand.tmp 5), type := 25, pos := "more.go:18", after := #[{ on := 12, ground := Go.Ground.guard }], guard := some (12, true) } : Oper) (yielded abops (abF f v).tmps) = true := by
      show ((match (some (v 12)) with | some (.bool b) => some b | _ => none) == some true) = true
      rw [h12]; rfl
    clear h12
    refine each_value (o := { dst := some 40, op := Go.Op.load 25 (Go.Operand.tmp 5), type := 25, pos := "more.go:18", after := #[{ on := 12, ground := Go.Ground.guard }], guard := some (12, true) }) rfl hw (u := .agg SA.toArray) (w' := w) ?_ ⟨_, rfl, hS, Below.refl _ _, rfl⟩
    unfold abF
    rw [K.f5]
    exact load_run w (K.x.below hS) K.la
  | 14, _ =>
    replace ho : some ({ dst := some 41, op := Go.Op.move (Go.Operand.tmp 0), type := 28, pos := "more.go:18", after := #[{ on := 12, ground := Go.Ground.guard }], guard := some (12, true) } : Oper) = some o := ho
    cases ho
    have h12 : v 12 = .bool true := hd ⟨12, .guard⟩ (by simp) rfl
    have hw : Region.wanted ({ dst := some 41, op := Go.Op.move (Go.Operand.tmp 0), type := 28, pos := "more.go:18", after := #[{ on := 12, ground := Go.Ground.guard }], guard := some (12, true) } : Oper) (yielded abops (abF f v).tmps) = true := by
      show ((match (some (v 12)) with | some (.bool b) => some b | _ => none) == some true) = true
      rw [h12]; rfl
    clear h12
    refine each_of (o := { dst := some 41, op := Go.Op.move (Go.Operand.tmp 0), type := 28, pos := "more.go:18", after := #[{ on := 12, ground := Go.Ground.guard }], guard := some (12, true) }) rfl hw ?_
    unfold abF
    rw [K.f0]
    go_simp
    exact ⟨_, by unfold abF; first | (rw [K.f0]; done) | (rw [K.f0]; rfl), hS, Below.refl _ _, rfl⟩
  | 15, _ =>
    replace ho : some ({ dst := some 42, op := Go.Op.call { callee := Go.Callee.value (Go.Operand.func 11), args := #[Go.Operand.tmp 41], argTypes := #[28] }, type := 25, pos := "more.go:18", after := #[{ on := 14, ground := Go.Ground.data }, { on := 12, ground := Go.Ground.chain }, { on := 12, ground := Go.Ground.guard }], guard := some (12, true) } : Oper) = some o := ho
    cases ho
    have h12 : v 12 = .bool true := hd ⟨12, .chain⟩ (by simp) rfl
    have hw : Region.wanted ({ dst := some 42, op := Go.Op.call { callee := Go.Callee.value (Go.Operand.func 11), args := #[Go.Operand.tmp 41], argTypes := #[28] }, type := 25, pos := "more.go:18", after := #[{ on := 14, ground := Go.Ground.data }, { on := 12, ground := Go.Ground.chain }, { on := 12, ground := Go.Ground.guard }], guard := some (12, true) } : Oper) (yielded abops (abF f v).tmps) = true := by
      show ((match (some (v 12)) with | some (.bool b) => some b | _ => none) == some true) = true
      rw [h12]; rfl
    clear h12
    have h14 : v 14 = pa.v := hd ⟨14, .data⟩ (by simp) rfl
    refine each_of (o := { dst := some 42, op := Go.Op.call { callee := Go.Callee.value (Go.Operand.func 11), args := #[Go.Operand.tmp 41], argTypes := #[28] }, type := 25, pos := "more.go:18", after := #[{ on := 14, ground := Go.Ground.data }, { on := 12, ground := Go.Ground.chain }, { on := 12, ground := Go.Ground.guard }], guard := some (12, true) }) rfl hw ?_
    unfold abF
    rw [h14]
    go_simp
    refine (id_part w (K.a.below hS) K.n0 K.v0).mono ?_
    rintro e w' ⟨rfl, hB⟩
    exact ⟨_, by unfold abF; first | (rw [h14]; done) | (rw [h14]; rfl), hS.trans (hB.mono hS.size), hB, rfl⟩
  | 16, _ =>
    replace ho : some ({ dst := some 43, op := Go.Op.binOp Go.BinOp.eql 25 (Go.Operand.tmp 40) (Go.Operand.tmp 42) 25, type := 4, pos := "more.go:18", after := #[{ on := 13, ground := Go.Ground.data }, { on := 15, ground := Go.Ground.data }, { on := 12, ground := Go.Ground.guard }], guard := some (12, true) } : Oper) = some o := ho
    cases ho
    have h12 : v 12 = .bool true := hd ⟨12, .guard⟩ (by simp) rfl
    have hw : Region.wanted ({ dst := some 43, op := Go.Op.binOp Go.BinOp.eql 25 (Go.Operand.tmp 40) (Go.Operand.tmp 42) 25, type := 4, pos := "more.go:18", after := #[{ on := 13, ground := Go.Ground.data }, { on := 15, ground := Go.Ground.data }, { on := 12, ground := Go.Ground.guard }], guard := some (12, true) } : Oper) (yielded abops (abF f v).tmps) = true := by
      show ((match (some (v 12)) with | some (.bool b) => some b | _ => none) == some true) = true
      rw [h12]; rfl
    clear h12
    have h13 : v 13 = .agg SA.toArray := hd ⟨13, .data⟩ (by simp) rfl
    have h15 : v 15 = .agg SA.toArray := hd ⟨15, .data⟩ (by simp) rfl
    have q1 := K.e1
    have q2 := K.e2
    refine each_of (o := { dst := some 43, op := Go.Op.binOp Go.BinOp.eql 25 (Go.Operand.tmp 40) (Go.Operand.tmp 42) 25, type := 4, pos := "more.go:18", after := #[{ on := 13, ground := Go.Ground.data }, { on := 15, ground := Go.Ground.data }, { on := 12, ground := Go.Ground.guard }], guard := some (12, true) }) rfl hw ?_
    unfold abF
    rw [h13, h15]
    go_simp
    exact ⟨_, by unfold abF; first | (rw [h13, h15]; done) | (rw [h13, h15]; rfl), hS, Below.refl _ _, rfl⟩
  | 17, _ =>
    replace ho : some ({ dst := some 44, op := Go.Op.pick (Go.Operand.tmp 39) (Go.Operand.tmp 43) (Go.Operand.const (Go.Value.bool false)), type := 4, pos := "more.go:18", after := #[{ on := 12, ground := Go.Ground.data }, { on := 16, ground := Go.Ground.data }], guard := none } : Oper) = some o := ho
    cases ho
    have h12 : v 12 = .bool true := hd ⟨12, .data⟩ (by simp) rfl
    have h16 : v 16 = .bool true := hd ⟨16, .data⟩ (by simp) rfl
    refine each_of (o := { dst := some 44, op := Go.Op.pick (Go.Operand.tmp 39) (Go.Operand.tmp 43) (Go.Operand.const (Go.Value.bool false)), type := 4, pos := "more.go:18", after := #[{ on := 12, ground := Go.Ground.data }, { on := 16, ground := Go.Ground.data }], guard := none }) rfl rfl ?_
    unfold abF
    rw [h12, h16]
    go_simp
    exact ⟨_, by unfold abF; first | (rw [h12, h16]; done) | (rw [h12, h16]; rfl), hS, Below.refl _ _, rfl⟩
  | 18, _ =>
    replace ho : some ({ dst := some 45, op := Go.Op.move (Go.Operand.tmp 44), type := 4, pos := "more.go:18", after := #[{ on := 17, ground := Go.Ground.data }, { on := 15, ground := Go.Ground.chain }], guard := none } : Oper) = some o := ho
    cases ho
    have h17 : v 17 = .bool true := hd ⟨17, .data⟩ (by simp) rfl
    refine each_of (o := { dst := some 45, op := Go.Op.move (Go.Operand.tmp 44), type := 4, pos := "more.go:18", after := #[{ on := 17, ground := Go.Ground.data }, { on := 15, ground := Go.Ground.chain }], guard := none }) rfl rfl ?_
    unfold abF
    rw [h17]
    go_simp
    exact ⟨_, by unfold abF; first | (rw [h17]; done) | (rw [h17]; rfl), hS, Below.refl _ _, rfl⟩
  | 19, _ =>
    replace ho : some ({ dst := some 46, op := Go.Op.load 25 (Go.Operand.tmp 5), type := 25, pos := "more.go:18", after := #[{ on := 18, ground := Go.Ground.guard }], guard := some (18, true) } : Oper) = some o := ho
    cases ho
    have h18 : v 18 = .bool true := hd ⟨18, .guard⟩ (by simp) rfl
    have hw : Region.wanted ({ dst := some 46, op := Go.Op.load 25 (Go.Operand.tmp 5), type := 25, pos := "more.go:18", after := #[{ on := 18, ground := Go.Ground.guard }], guard := some (18, true) } : Oper) (yielded abops (abF f v).tmps) = true := by
      show ((match (some (v 18)) with | some (.bool b) => some b | _ => none) == some true) = true
      rw [h18]; rfl
    clear h18
    refine each_value (o := { dst := some 46, op := Go.Op.load 25 (Go.Operand.tmp 5), type := 25, pos := "more.go:18", after := #[{ on := 18, ground := Go.Ground.guard }], guard := some (18, true) }) rfl hw (u := .agg SA.toArray) (w' := w) ?_ ⟨_, rfl, hS, Below.refl _ _, rfl⟩
    unfold abF
    rw [K.f5]
    exact load_run w (K.x.below hS) K.la
  | 20, _ =>
    replace ho : some ({ dst := some 47, op := Go.Op.load 25 (Go.Operand.tmp 6), type := 25, pos := "more.go:18", after := #[{ on := 18, ground := Go.Ground.guard }], guard := some (18, true) } : Oper) = some o := ho
    cases ho
    have h18 : v 18 = .bool true := hd ⟨18, .guard⟩ (by simp) rfl
    have hw : Region.wanted ({ dst := some 47, op := Go.Op.load 25 (Go.Operand.tmp 6), type := 25, pos := "more.go:18", after := #[{ on := 18, ground := Go.Ground.guard }], guard := some (18, true) } : Oper) (yielded abops (abF f v).tmps) = true := by
      show ((match (some (v 18)) with | some (.bool b) => some b | _ => none) == some true) = true
      rw [h18]; rfl
    clear h18
    refine each_value (o := { dst := some 47, op := Go.Op.load 25 (Go.Operand.tmp 6), type := 25, pos := "more.go:18", after := #[{ on := 18, ground := Go.Ground.guard }], guard := some (18, true) }) rfl hw (u := .agg SB.toArray) (w' := w) ?_ ⟨_, rfl, hS, Below.refl _ _, rfl⟩
    unfold abF
    rw [K.f6]
    exact load_run w (K.y.below hS) K.lb
  | 21, _ =>
    replace ho : some ({ dst := some 48, op := Go.Op.binOp Go.BinOp.eql 25 (Go.Operand.tmp 46) (Go.Operand.tmp 47) 25, type := 4, pos := "more.go:18", after := #[{ on := 19, ground := Go.Ground.data }, { on := 20, ground := Go.Ground.data }, { on := 18, ground := Go.Ground.guard }], guard := some (18, true) } : Oper) = some o := ho
    cases ho
    have h18 : v 18 = .bool true := hd ⟨18, .guard⟩ (by simp) rfl
    have hw : Region.wanted ({ dst := some 48, op := Go.Op.binOp Go.BinOp.eql 25 (Go.Operand.tmp 46) (Go.Operand.tmp 47) 25, type := 4, pos := "more.go:18", after := #[{ on := 19, ground := Go.Ground.data }, { on := 20, ground := Go.Ground.data }, { on := 18, ground := Go.Ground.guard }], guard := some (18, true) } : Oper) (yielded abops (abF f v).tmps) = true := by
      show ((match (some (v 18)) with | some (.bool b) => some b | _ => none) == some true) = true
      rw [h18]; rfl
    clear h18
    have h19 : v 19 = .agg SA.toArray := hd ⟨19, .data⟩ (by simp) rfl
    have h20 : v 20 = .agg SB.toArray := hd ⟨20, .data⟩ (by simp) rfl
    have q1 := K.e5
    have q2 := K.e6
    refine each_of (o := { dst := some 48, op := Go.Op.binOp Go.BinOp.eql 25 (Go.Operand.tmp 46) (Go.Operand.tmp 47) 25, type := 4, pos := "more.go:18", after := #[{ on := 19, ground := Go.Ground.data }, { on := 20, ground := Go.Ground.data }, { on := 18, ground := Go.Ground.guard }], guard := some (18, true) }) rfl hw ?_
    unfold abF
    rw [h19, h20]
    go_simp
    exact ⟨_, by unfold abF; first | (rw [h19, h20]; done) | (rw [h19, h20]; rfl), hS, Below.refl _ _, rfl⟩
  | 22, _ =>
    replace ho : some ({ dst := some 49, op := Go.Op.move (Go.Operand.tmp 48), type := 4, pos := "more.go:18", after := #[{ on := 21, ground := Go.Ground.data }, { on := 18, ground := Go.Ground.chain }, { on := 18, ground := Go.Ground.guard }], guard := some (18, true) } : Oper) = some o := ho
    cases ho
    have h18 : v 18 = .bool true := hd ⟨18, .chain⟩ (by simp) rfl
    have hw : Region.wanted ({ dst := some 49, op := Go.Op.move (Go.Operand.tmp 48), type := 4, pos := "more.go:18", after := #[{ on := 21, ground := Go.Ground.data }, { on := 18, ground := Go.Ground.chain }, { on := 18, ground := Go.Ground.guard }], guard := some (18, true) } : Oper) (yielded abops (abF f v).tmps) = true := by
      show ((match (some (v 18)) with | some (.bool b) => some b | _ => none) == some true) = true
      rw [h18]; rfl
    clear h18
    have h21 : v 21 = .bool false := hd ⟨21, .data⟩ (by simp) rfl
    refine each_of (o := { dst := some 49, op := Go.Op.move (Go.Operand.tmp 48), type := 4, pos := "more.go:18", after := #[{ on := 21, ground := Go.Ground.data }, { on := 18, ground := Go.Ground.chain }, { on := 18, ground := Go.Ground.guard }], guard := some (18, true) }) rfl hw ?_
    unfold abF
    rw [h21]
    go_simp
    exact ⟨_, by unfold abF; first | (rw [h21]; done) | (rw [h21]; rfl), hS, Below.refl _ _, rfl⟩
  | 23, _ =>
    replace ho : some ({ dst := some 50, op := Go.Op.move (Go.Operand.tmp 0), type := 28, pos := "more.go:18", after := #[{ on := 22, ground := Go.Ground.guard }], guard := some (22, false) } : Oper) = some o := ho
    cases ho
    have h22 : v 22 = .bool false := hd ⟨22, .guard⟩ (by simp) rfl
    have hw : Region.wanted ({ dst := some 50, op := Go.Op.move (Go.Operand.tmp 0), type := 28, pos := "more.go:18", after := #[{ on := 22, ground := Go.Ground.guard }], guard := some (22, false) } : Oper) (yielded abops (abF f v).tmps) = true := by
      show ((match (some (v 22)) with | some (.bool b) => some b | _ => none) == some false) = true
      rw [h22]; rfl
    clear h22
    refine each_of (o := { dst := some 50, op := Go.Op.move (Go.Operand.tmp 0), type := 28, pos := "more.go:18", after := #[{ on := 22, ground := Go.Ground.guard }], guard := some (22, false) }) rfl hw ?_
    unfold abF
    rw [K.f0]
    go_simp
    exact ⟨_, by unfold abF; first | (rw [K.f0]; done) | (rw [K.f0]; rfl), hS, Below.refl _ _, rfl⟩
  | 24, _ =>
    replace ho : some ({ dst := some 51, op := Go.Op.move (Go.Operand.tmp 1), type := 28, pos := "more.go:18", after := #[{ on := 22, ground := Go.Ground.guard }], guard := some (22, false) } : Oper) = some o := ho
    cases ho
    have h22 : v 22 = .bool false := hd ⟨22, .guard⟩ (by simp) rfl
    have hw : Region.wanted ({ dst := some 51, op := Go.Op.move (Go.Operand.tmp 1), type := 28, pos := "more.go:18", after := #[{ on := 22, ground := Go.Ground.guard }], guard := some (22, false) } : Oper) (yielded abops (abF f v).tmps) = true := by
      show ((match (some (v 22)) with | some (.bool b) => some b | _ => none) == some false) = true
      rw [h22]; rfl
    clear h22
    refine each_of (o := { dst := some 51, op := Go.Op.move (Go.Operand.tmp 1), type := 28, pos := "more.go:18", after := #[{ on := 22, ground := Go.Ground.guard }], guard := some (22, false) }) rfl hw ?_
    unfold abF
    rw [K.f1]
    go_simp
    exact ⟨_, by unfold abF; first | (rw [K.f1]; done) | (rw [K.f1]; rfl), hS, Below.refl _ _, rfl⟩
  | 25, _ =>
    replace ho : some ({ dst := some 52, op := Go.Op.call { callee := Go.Callee.value (Go.Operand.func 15), args := #[Go.Operand.tmp 50, Go.Operand.tmp 51], argTypes := #[28, 28] }, type := 4, pos := "more.go:18", after := #[{ on := 23, ground := Go.Ground.data }, { on := 24, ground := Go.Ground.data }, { on := 22, ground := Go.Ground.chain }, { on := 22, ground := Go.Ground.guard }], guard := some (22, false) } : Oper) = some o := ho
    cases ho
    have h22 : v 22 = .bool false := hd ⟨22, .chain⟩ (by simp) rfl
    have hw : Region.wanted ({ dst := some 52, op := Go.Op.call { callee := Go.Callee.value (Go.Operand.func 15), args := #[Go.Operand.tmp 50, Go.Operand.tmp 51], argTypes := #[28, 28] }, type := 4, pos := "more.go:18", after := #[{ on := 23, ground := Go.Ground.data }, { on := 24, ground := Go.Ground.data }, { on := 22, ground := Go.Ground.chain }, { on := 22, ground := Go.Ground.guard }], guard := some (22, false) } : Oper) (yielded abops (abF f v).tmps) = true := by
      show ((match (some (v 22)) with | some (.bool b) => some b | _ => none) == some false) = true
      rw [h22]; rfl
    clear h22
    have h23 : v 23 = pa.v := hd ⟨23, .data⟩ (by simp) rfl
    have h24 : v 24 = pb.v := hd ⟨24, .data⟩ (by simp) rfl
    refine each_of (o := { dst := some 52, op := Go.Op.call { callee := Go.Callee.value (Go.Operand.func 15), args := #[Go.Operand.tmp 50, Go.Operand.tmp 51], argTypes := #[28, 28] }, type := 4, pos := "more.go:18", after := #[{ on := 23, ground := Go.Ground.data }, { on := 24, ground := Go.Ground.data }, { on := 22, ground := Go.Ground.chain }, { on := 22, ground := Go.Ground.guard }], guard := some (22, false) }) rfl hw ?_
    unfold abF
    rw [h23, h24]
    go_simp
    refine (K.u w hS).mono ?_
    rintro e w' ⟨rfl, hB⟩
    exact ⟨_, by unfold abF; first | (rw [h23, h24]; done) | (rw [h23, h24]; rfl), hS.trans (hB.mono hS.size), hB, rfl⟩
  | 26, _ =>
    replace ho : some ({ dst := some 53, op := Go.Op.unOp Go.UnOp.not 4 (Go.Operand.tmp 52), type := 4, pos := "more.go:18", after := #[{ on := 25, ground := Go.Ground.data }, { on := 22, ground := Go.Ground.guard }], guard := some (22, false) } : Oper) = some o := ho
    cases ho
    have h22 : v 22 = .bool false := hd ⟨22, .guard⟩ (by simp) rfl
    have hw : Region.wanted ({ dst := some 53, op := Go.Op.unOp Go.UnOp.not 4 (Go.Operand.tmp 52), type := 4, pos := "more.go:18", after := #[{ on := 25, ground := Go.Ground.data }, { on := 22, ground := Go.Ground.guard }], guard := some (22, false) } : Oper) (yielded abops (abF f v).tmps) = true := by
      show ((match (some (v 22)) with | some (.bool b) => some b | _ => none) == some false) = true
      rw [h22]; rfl
    clear h22
    have h25 : v 25 = .bool false := hd ⟨25, .data⟩ (by simp) rfl
    refine each_of (o := { dst := some 53, op := Go.Op.unOp Go.UnOp.not 4 (Go.Operand.tmp 52), type := 4, pos := "more.go:18", after := #[{ on := 25, ground := Go.Ground.data }, { on := 22, ground := Go.Ground.guard }], guard := some (22, false) }) rfl hw ?_
    unfold abF
    rw [h25]
    go_simp
    exact ⟨_, by unfold abF; first | (rw [h25]; done) | (rw [h25]; rfl), hS, Below.refl _ _, rfl⟩
  | 27, _ =>
    replace ho : some ({ dst := some 54, op := Go.Op.pick (Go.Operand.tmp 49) (Go.Operand.const (Go.Value.bool true)) (Go.Operand.tmp 53), type := 4, pos := "more.go:18", after := #[{ on := 22, ground := Go.Ground.data }, { on := 26, ground := Go.Ground.data }, { on := 18, ground := Go.Ground.guard }], guard := some (18, true) } : Oper) = some o := ho
    cases ho
    have h18 : v 18 = .bool true := hd ⟨18, .guard⟩ (by simp) rfl
    have hw : Region.wanted ({ dst := some 54, op := Go.Op.pick (Go.Operand.tmp 49) (Go.Operand.const (Go.Value.bool true)) (Go.Operand.tmp 53), type := 4, pos := "more.go:18", after := #[{ on := 22, ground := Go.Ground.data }, { on := 26, ground := Go.Ground.data }, { on := 18, ground := Go.Ground.guard }], guard := some (18, true) } : Oper) (yielded abops (abF f v).tmps) = true := by
      show ((match (some (v 18)) with | some (.bool b) => some b | _ => none) == some true) = true
      rw [h18]; rfl
    clear h18
    have h22 : v 22 = .bool false := hd ⟨22, .data⟩ (by simp) rfl
    have h26 : v 26 = .bool true := hd ⟨26, .data⟩ (by simp) rfl
    refine each_of (o := { dst := some 54, op := Go.Op.pick (Go.Operand.tmp 49) (Go.Operand.const (Go.Value.bool true)) (Go.Operand.tmp 53), type := 4, pos := "more.go:18", after := #[{ on := 22, ground := Go.Ground.data }, { on := 26, ground := Go.Ground.data }, { on := 18, ground := Go.Ground.guard }], guard := some (18, true) }) rfl hw ?_
    unfold abF
    rw [h22, h26]
    go_simp
    exact ⟨_, by unfold abF; first | (rw [h22, h26]; done) | (rw [h22, h26]; rfl), hS, Below.refl _ _, rfl⟩
  | 28, _ =>
    replace ho : some ({ dst := some 55, op := Go.Op.pick (Go.Operand.tmp 45) (Go.Operand.tmp 54) (Go.Operand.const (Go.Value.bool false)), type := 4, pos := "more.go:18", after := #[{ on := 18, ground := Go.Ground.data }, { on := 27, ground := Go.Ground.data }], guard := none } : Oper) = some o := ho
    cases ho
    have h18 : v 18 = .bool true := hd ⟨18, .data⟩ (by simp) rfl
    have h27 : v 27 = .bool true := hd ⟨27, .data⟩ (by simp) rfl
    refine each_of (o := { dst := some 55, op := Go.Op.pick (Go.Operand.tmp 45) (Go.Operand.tmp 54) (Go.Operand.const (Go.Value.bool false)), type := 4, pos := "more.go:18", after := #[{ on := 18, ground := Go.Ground.data }, { on := 27, ground := Go.Ground.data }], guard := none }) rfl rfl ?_
    unfold abF
    rw [h18, h27]
    go_simp
    exact ⟨_, by unfold abF; first | (rw [h18, h27]; done) | (rw [h18, h27]; rfl), hS, Below.refl _ _, rfl⟩
  | 29, _ =>
    replace ho : some ({ dst := some 56, op := Go.Op.move (Go.Operand.tmp 55), type := 4, pos := "more.go:18", after := #[{ on := 28, ground := Go.Ground.data }, { on := 25, ground := Go.Ground.chain }], guard := none } : Oper) = some o := ho
    cases ho
    have h28 : v 28 = .bool true := hd ⟨28, .data⟩ (by simp) rfl
    refine each_of (o := { dst := some 56, op := Go.Op.move (Go.Operand.tmp 55), type := 4, pos := "more.go:18", after := #[{ on := 28, ground := Go.Ground.data }, { on := 25, ground := Go.Ground.chain }], guard := none }) rfl rfl ?_
    unfold abF
    rw [h28]
    go_simp
    exact ⟨_, by unfold abF; first | (rw [h28]; done) | (rw [h28]; rfl), hS, Below.refl _ _, rfl⟩
  | 30, _ =>
    replace ho : some ({ dst := some 57, op := Go.Op.call { callee := Go.Callee.value (Go.Operand.func 14), args := #[], argTypes := #[] }, type := 4, pos := "more.go:18", after := #[{ on := 29, ground := Go.Ground.chain }, { on := 29, ground := Go.Ground.guard }], guard := some (29, true) } : Oper) = some o := ho
    cases ho
    have h29 : v 29 = .bool true := hd ⟨29, .chain⟩ (by simp) rfl
    have hw : Region.wanted ({ dst := some 57, op := Go.Op.call { callee := Go.Callee.value (Go.Operand.func 14), args := #[], argTypes := #[] }, type := 4, pos := "more.go:18", after := #[{ on := 29, ground := Go.Ground.chain }, { on := 29, ground := Go.Ground.guard }], guard := some (29, true) } : Oper) (yielded abops (abF f v).tmps) = true := by
      show ((match (some (v 29)) with | some (.bool b) => some b | _ => none) == some true) = true
      rw [h29]; rfl
    clear h29
    refine each_of (o := { dst := some 57, op := Go.Op.call { callee := Go.Callee.value (Go.Operand.func 14), args := #[], argTypes := #[] }, type := 4, pos := "more.go:18", after := #[{ on := 29, ground := Go.Ground.chain }, { on := 29, ground := Go.Ground.guard }], guard := some (29, true) }) rfl hw ?_
    unfold abF
    go_simp
    refine (wakes_any w hT).mono ?_
    rintro e w' ⟨rfl, hB⟩
    exact ⟨_, by unfold abF; rfl, hS.trans (hB.mono hS.size), hB, rfl⟩
  | 31, _ =>
    replace ho : some ({ dst := some 58, op := Go.Op.pick (Go.Operand.tmp 56) (Go.Operand.tmp 57) (Go.Operand.const (Go.Value.bool false)), type := 4, pos := "more.go:18", after := #[{ on := 29, ground := Go.Ground.data }, { on := 30, ground := Go.Ground.data }], guard := none } : Oper) = some o := ho
    cases ho
    have h29 : v 29 = .bool true := hd ⟨29, .data⟩ (by simp) rfl
    have h30 : v 30 = .bool true := hd ⟨30, .data⟩ (by simp) rfl
    refine each_of (o := { dst := some 58, op := Go.Op.pick (Go.Operand.tmp 56) (Go.Operand.tmp 57) (Go.Operand.const (Go.Value.bool false)), type := 4, pos := "more.go:18", after := #[{ on := 29, ground := Go.Ground.data }, { on := 30, ground := Go.Ground.data }], guard := none }) rfl rfl ?_
    unfold abF
    rw [h29, h30]
    go_simp
    exact ⟨_, by unfold abF; first | (rw [h29, h30]; done) | (rw [h29, h30]; rfl), hS, Below.refl _ _, rfl⟩
  | 32, _ =>
    replace ho : some ({ dst := some 4, op := Go.Op.assign (Go.Operand.tmp 58), type := 4, pos := "more.go:18", after := #[{ on := 31, ground := Go.Ground.data }, { on := 30, ground := Go.Ground.chain }, { on := 0, ground := Go.Ground.phase }, { on := 1, ground := Go.Ground.phase }, { on := 2, ground := Go.Ground.phase }, { on := 3, ground := Go.Ground.phase }, { on := 4, ground := Go.Ground.phase }, { on := 5, ground := Go.Ground.phase }, { on := 6, ground := Go.Ground.phase }, { on := 7, ground := Go.Ground.phase }, { on := 8, ground := Go.Ground.phase }, { on := 9, ground := Go.Ground.phase }, { on := 10, ground := Go.Ground.phase }, { on := 11, ground := Go.Ground.phase }, { on := 12, ground := Go.Ground.phase }, { on := 13, ground := Go.Ground.phase }, { on := 14, ground := Go.Ground.phase }, { on := 15, ground := Go.Ground.phase }, { on := 16, ground := Go.Ground.phase }, { on := 17, ground := Go.Ground.phase }, { on := 18, ground := Go.Ground.phase }, { on := 19, ground := Go.Ground.phase }, { on := 20, ground := Go.Ground.phase }, { on := 21, ground := Go.Ground.phase }, { on := 22, ground := Go.Ground.phase }, { on := 23, ground := Go.Ground.phase }, { on := 24, ground := Go.Ground.phase }, { on := 25, ground := Go.Ground.phase }, { on := 26, ground := Go.Ground.phase }, { on := 27, ground := Go.Ground.phase }, { on := 28, ground := Go.Ground.phase }, { on := 29, ground := Go.Ground.phase }, { on := 30, ground := Go.Ground.phase }, { on := 31, ground := Go.Ground.phase }], guard := none } : Oper) = some o := ho
    cases ho
    have h31 : v 31 = .bool true := hd ⟨31, .data⟩ (by simp) rfl
    refine each_of (o := { dst := some 4, op := Go.Op.assign (Go.Operand.tmp 58), type := 4, pos := "more.go:18", after := #[{ on := 31, ground := Go.Ground.data }, { on := 30, ground := Go.Ground.chain }, { on := 0, ground := Go.Ground.phase }, { on := 1, ground := Go.Ground.phase }, { on := 2, ground := Go.Ground.phase }, { on := 3, ground := Go.Ground.phase }, { on := 4, ground := Go.Ground.phase }, { on := 5, ground := Go.Ground.phase }, { on := 6, ground := Go.Ground.phase }, { on := 7, ground := Go.Ground.phase }, { on := 8, ground := Go.Ground.phase }, { on := 9, ground := Go.Ground.phase }, { on := 10, ground := Go.Ground.phase }, { on := 11, ground := Go.Ground.phase }, { on := 12, ground := Go.Ground.phase }, { on := 13, ground := Go.Ground.phase }, { on := 14, ground := Go.Ground.phase }, { on := 15, ground := Go.Ground.phase }, { on := 16, ground := Go.Ground.phase }, { on := 17, ground := Go.Ground.phase }, { on := 18, ground := Go.Ground.phase }, { on := 19, ground := Go.Ground.phase }, { on := 20, ground := Go.Ground.phase }, { on := 21, ground := Go.Ground.phase }, { on := 22, ground := Go.Ground.phase }, { on := 23, ground := Go.Ground.phase }, { on := 24, ground := Go.Ground.phase }, { on := 25, ground := Go.Ground.phase }, { on := 26, ground := Go.Ground.phase }, { on := 27, ground := Go.Ground.phase }, { on := 28, ground := Go.Ground.phase }, { on := 29, ground := Go.Ground.phase }, { on := 30, ground := Go.Ground.phase }, { on := 31, ground := Go.Ground.phase }], guard := none }) rfl rfl ?_
    unfold abF
    rw [h31]
    go_simp
    exact ⟨_, by unfold abF; first | (rw [h31]; done) | (rw [h31]; rfl), hS, Below.refl _ _, rfl⟩

/-- THE STATEMENT, in whatever order. -/
theorem abend {f v0 : Nat → Value} {w0 : World} {SA : List Value} {SB : List Value} {pa : Part} {pb : Part} {gx : Nat} {gy : Nat} {Q : Exit → Act → World → Prop} (K : abK f w0 SA SB pa pb gx gy)
    (hQ : ∀ v w, Below w0.heap.size w0 w → v 32 = .bool true → Q .normal (abF f v) w) : (Code.region 7 abops true).wp Tryd.prog Q (abF f v0) w0 :=
  wp_region_each (F := abF f) (S := fun w => Below w0.heap.size w0 w) (J := abJ SA SB pa pb gx gy) (R := fun w w' => Below w.heap.size w w') (by kernel_rfl) abback (abput f) abmono
    (abstep K) (fun v w hS hJ => hQ v w hS (hJ 32 (by decide))) v0 ((Below.refl _ _).drew)
theorem abbegin {A0 : Act} {w0 : World} {SA : List Value} {SB : List Value} {pa : Part} {pb : Part} {gx : Nat} {gy : Nat} {Q : Exit → Act → World → Prop} (hA : A0 = abF (fun i => A0.tmps.getD i undef) (fun i => A0.tmps.getD (if i = 0 then 27 else if i = 1 then 28 else if i = 2 then 29 else if i = 3 then 30 else if i = 4 then 31 else if i = 5 then 32 else if i = 6 then 33 else if i = 7 then 34 else if i = 8 then 35 else if i = 9 then 36 else if i = 10 then 37 else if i = 11 then 38 else if i = 12 then 39 else if i = 13 then 40 else if i = 14 then 41 else if i = 15 then 42 else if i = 16 then 43 else if i = 17 then 44 else if i = 18 then 45 else if i = 19 then 46 else if i = 20 then 47 else if i = 21 then 48 else if i = 22 then 49 else if i = 23 then 50 else if i = 24 then 51 else if i = 25 then 52 else if i = 26 then 53 else if i = 27 then 54 else if i = 28 then 55 else if i = 29 then 56 else if i = 30 then 57 else if i = 31 then 58 else if i = 32 then 4 else 0) undef))
    (K : abK (fun i => A0.tmps.getD i undef) w0 SA SB pa pb gx gy) (hQ : ∀ v w, Below w0.heap.size w0 w → v 32 = .bool true → Q .normal (abF (fun i => A0.tmps.getD i undef) v) w) : (Code.region 7 abops true).wp Tryd.prog Q A0 w0 := by
  rw [hA]
  exact abend K hQ
end Go.Proofs.YtdpnkdliibccjaaDoor
