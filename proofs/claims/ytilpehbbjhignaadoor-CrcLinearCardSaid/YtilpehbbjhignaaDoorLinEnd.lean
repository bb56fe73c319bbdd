/-
  CrcLinear's last statement, in whatever order.
-/
import Derived.Test.YtilpehbbjhignaaDoorAnyOrder
import Derived.Test.YtilpehbbjhignaaDoorSums
namespace Go.Proofs.YtilpehbbjhignaaDoor
open Go.RowKit
set_option linter.unusedVariables false

/-- Its operations. -/
def lops : Array Oper := #[{ dst := some 55, op := Go.Op.move (Go.Operand.tmp 8), type := 25, pos := "law.go:84", after := #[], guard := none }, { dst := some 56, op := Go.Op.buildSlice 22 1 #[(0, Go.Operand.tmp 55)], type := 22, pos := "law.go:84", after := #[{ on := 0, ground := Go.Ground.data }], guard := none }, { dst := some 57, op := Go.Op.call { callee := Go.Callee.value (Go.Operand.func 11), args := #[Go.Operand.tmp 56], argTypes := #[22] }, type := 27, pos := "law.go:84", after := #[{ on := 1, ground := Go.Ground.data }], guard := none }, { dst := some 58, op := Go.Op.move (Go.Operand.tmp 0), type := 25, pos := "law.go:84", after := #[], guard := none }, { dst := some 59, op := Go.Op.move (Go.Operand.tmp 7), type := 3, pos := "law.go:84", after := #[], guard := none }, { dst := some 60, op := Go.Op.slice 25 (Go.Operand.tmp 58) none (some (Go.Operand.tmp 59)) none, type := 25, pos := "law.go:84", after := #[{ on := 3, ground := Go.Ground.data }, { on := 4, ground := Go.Ground.data }], guard := none }, { dst := some 61, op := Go.Op.buildSlice 22 1 #[(0, Go.Operand.tmp 60)], type := 22, pos := "law.go:84", after := #[{ on := 5, ground := Go.Ground.data }], guard := none }, { dst := some 62, op := Go.Op.call { callee := Go.Callee.value (Go.Operand.func 11), args := #[Go.Operand.tmp 61], argTypes := #[22] }, type := 27, pos := "law.go:84", after := #[{ on := 6, ground := Go.Ground.data }, { on := 2, ground := Go.Ground.chain }], guard := none }, { dst := some 63, op := Go.Op.move (Go.Operand.tmp 1), type := 25, pos := "law.go:84", after := #[], guard := none }, { dst := some 64, op := Go.Op.move (Go.Operand.tmp 7), type := 3, pos := "law.go:84", after := #[], guard := none }, { dst := some 65, op := Go.Op.slice 25 (Go.Operand.tmp 63) none (some (Go.Operand.tmp 64)) none, type := 25, pos := "law.go:84", after := #[{ on := 8, ground := Go.Ground.data }, { on := 9, ground := Go.Ground.data }], guard := none }, { dst := some 66, op := Go.Op.buildSlice 22 1 #[(0, Go.Operand.tmp 65)], type := 22, pos := "law.go:84", after := #[{ on := 10, ground := Go.Ground.data }], guard := none }, { dst := some 67, op := Go.Op.call { callee := Go.Callee.value (Go.Operand.func 11), args := #[Go.Operand.tmp 66], argTypes := #[22] }, type := 27, pos := "law.go:84", after := #[{ on := 11, ground := Go.Ground.data }, { on := 7, ground := Go.Ground.chain }], guard := none }, { dst := some 68, op := Go.Op.binOp Go.BinOp.xor 27 (Go.Operand.tmp 62) (Go.Operand.tmp 67) 27, type := 27, pos := "law.go:84", after := #[{ on := 7, ground := Go.Ground.data }, { on := 12, ground := Go.Ground.data }], guard := none }, { dst := some 69, op := Go.Op.move (Go.Operand.tmp 2), type := 25, pos := "law.go:84", after := #[], guard := none }, { dst := some 70, op := Go.Op.move (Go.Operand.tmp 7), type := 3, pos := "law.go:84", after := #[], guard := none }, { dst := some 71, op := Go.Op.slice 25 (Go.Operand.tmp 69) none (some (Go.Operand.tmp 70)) none, type := 25, pos := "law.go:84", after := #[{ on := 14, ground := Go.Ground.data }, { on := 15, ground := Go.Ground.data }], guard := none }, { dst := some 72, op := Go.Op.buildSlice 22 1 #[(0, Go.Operand.tmp 71)], type := 22, pos := "law.go:84", after := #[{ on := 16, ground := Go.Ground.data }], guard := none }, { dst := some 73, op := Go.Op.call { callee := Go.Callee.value (Go.Operand.func 11), args := #[Go.Operand.tmp 72], argTypes := #[22] }, type := 27, pos := "law.go:84", after := #[{ on := 17, ground := Go.Ground.data }, { on := 12, ground := Go.Ground.chain }], guard := none }, { dst := some 74, op := Go.Op.binOp Go.BinOp.xor 27 (Go.Operand.tmp 68) (Go.Operand.tmp 73) 27, type := 27, pos := "law.go:84", after := #[{ on := 13, ground := Go.Ground.data }, { on := 18, ground := Go.Ground.data }], guard := none }, { dst := some 75, op := Go.Op.binOp Go.BinOp.eql 27 (Go.Operand.tmp 57) (Go.Operand.tmp 74) 27, type := 4, pos := "law.go:84", after := #[{ on := 2, ground := Go.Ground.data }, { on := 19, ground := Go.Ground.data }], guard := none }, { dst := some 76, op := Go.Op.move (Go.Operand.tmp 75), type := 4, pos := "law.go:84", after := #[{ on := 20, ground := Go.Ground.data }, { on := 18, ground := Go.Ground.chain }], guard := none }, { dst := some 77, op := Go.Op.call { callee := Go.Callee.value (Go.Operand.func 17), args := #[], argTypes := #[] }, type := 4, pos := "law.go:84", after := #[{ on := 21, ground := Go.Ground.chain }, { on := 21, ground := Go.Ground.guard }], guard := some (21, true) }, { dst := some 78, op := Go.Op.pick (Go.Operand.tmp 76) (Go.Operand.tmp 77) (Go.Operand.const (Go.Value.bool false)), type := 4, pos := "law.go:84", after := #[{ on := 21, ground := Go.Ground.data }, { on := 22, ground := Go.Ground.data }], guard := none }, { dst := some 6, op := Go.Op.assign (Go.Operand.tmp 78), type := 4, pos := "law.go:84", after := #[{ on := 23, ground := Go.Ground.data }, { on := 22, ground := Go.Ground.chain }, { on := 0, ground := Go.Ground.phase }, { on := 1, ground := Go.Ground.phase }, { on := 2, ground := Go.Ground.phase }, { on := 3, ground := Go.Ground.phase }, { on := 4, ground := Go.Ground.phase }, { on := 5, ground := Go.Ground.phase }, { on := 6, ground := Go.Ground.phase }, { on := 7, ground := Go.Ground.phase }, { on := 8, ground := Go.Ground.phase }, { on := 9, ground := Go.Ground.phase }, { on := 10, ground := Go.Ground.phase }, { on := 11, ground := Go.Ground.phase }, { on := 12, ground := Go.Ground.phase }, { on := 13, ground := Go.Ground.phase }, { on := 14, ground := Go.Ground.phase }, { on := 15, ground := Go.Ground.phase }, { on := 16, ground := Go.Ground.phase }, { on := 17, ground := Go.Ground.phase }, { on := 18, ground := Go.Ground.phase }, { on := 19, ground := Go.Ground.phase }, { on := 20, ground := Go.Ground.phase }, { on := 21, ground := Go.Ground.phase }, { on := 22, ground := Go.Ground.phase }, { on := 23, ground := Go.Ground.phase }], guard := none }]
/-- The frame: what stood there, and what has come up. -/
def LF (f v : Nat → Value) : Act := ⟨#[f 0, f 1, f 2, f 3, f 4, f 5, v 24, f 7, f 8, f 9, f 10, f 11, f 12, f 13, f 14, f 15, f 16, f 17, f 18, f 19, f 20, f 21, f 22, f 23, f 24, f 25, f 26, f 27, f 28, f 29, f 30, f 31, f 32, f 33, f 34, f 35, f 36, f 37, f 38, f 39, f 40, f 41, f 42, f 43, f 44, f 45, f 46, f 47, f 48, f 49, f 50, f 51, f 52, f 53, f 54, v 0, v 1, v 2, v 3, v 4, v 5, v 6, v 7, v 8, v 9, v 10, v 11, v 12, v 13, v 14, v 15, v 16, v 17, v 18, v 19, v 20, v 21, v 22, v 23], []⟩
/-- What each operation leaves. -/
def LJ (fA fB fC : Value) (pX pA pB pC : Part) (n : Nat) (sx sa sb sc sab : Int) : Nat → Value → World → Prop
  | 0, v, _ => v = pX.v
  | 1, v, w => ∃ g, v = .slice (some ⟨g, 0, none⟩) 1 1 ∧ Ps w (some ⟨g, 0, none⟩) [pX]
  | 2, v, _ => v = .int .u32 sx
  | 3, v, _ => v = fA
  | 4, v, _ => v = .int .i64 n
  | 5, v, _ => v = pA.v
  | 6, v, w => ∃ g, v = .slice (some ⟨g, 0, none⟩) 1 1 ∧ Ps w (some ⟨g, 0, none⟩) [pA]
  | 7, v, _ => v = .int .u32 sa
  | 8, v, _ => v = fB
  | 9, v, _ => v = .int .i64 n
  | 10, v, _ => v = pB.v
  | 11, v, w => ∃ g, v = .slice (some ⟨g, 0, none⟩) 1 1 ∧ Ps w (some ⟨g, 0, none⟩) [pB]
  | 12, v, _ => v = .int .u32 sb
  | 13, v, _ => v = .int .u32 sab
  | 14, v, _ => v = fC
  | 15, v, _ => v = .int .i64 n
  | 16, v, _ => v = pC.v
  | 17, v, w => ∃ g, v = .slice (some ⟨g, 0, none⟩) 1 1 ∧ Ps w (some ⟨g, 0, none⟩) [pC]
  | 18, v, _ => v = .int .u32 sc
  | 19, v, _ => v = .int .u32 sx
  | _, v, _ => v = .bool true

theorem lj_mono {fA fB fC : Value} {pX pA pB pC : Part} {n : Nat} {sx sa sb sc sab : Int} (j : Nat) (v : Value) (w w' : World) (hB : Below w.heap.size w w') (h : LJ fA fB fC pX pA pB pC n sx sa sb sc sab j v w) : LJ fA fB fC pX pA pB pC n sx sa sb sc sab j v w' := by
  unfold LJ at h ⊢
  split at h <;> first | exact h | (obtain ⟨g, h1, h2⟩ := h; exact ⟨g, h1, h2.below hB⟩)

theorem lops_back : ∀ (i : Nat) (o : Oper), lops[i]? = some o → ∀ e ∈ o.after, Region.binds .any e = true → e.on < i := by
  have h : (List.range lops.size).all (fun i => (lops[i]?.map fun o => o.after.toList.all fun e => decide (e.on < i)).getD true) = true := by decide +kernel
  intro i o ho e he _
  have hi : i < lops.size := (Array.getElem?_eq_some_iff.1 ho).1
  have := List.all_eq_true.1 h i (List.mem_range.2 hi)
  rw [ho] at this
  simp only [Option.map_some, Option.getD_some] at this
  have := List.all_eq_true.1 this e (by simpa using he)
  simpa using this
theorem lops_at {i : Nat} {o : Oper} (h : lops[i]? = some o) : i < 25 := (Array.getElem?_eq_some_iff.1 h).1
theorem lops_put (f : Nat → Value) : ∀ (i : Nat) (o : Oper), lops[i]? = some o → ∀ v u, (LF f v).put o.dst u = LF f (setAt v i u) := by
  intro i o ho v u
  have hi := lops_at ho
  match i, hi with
  | 0, _ => cases ho; rfl
  | 1, _ => cases ho; rfl
  | 2, _ => cases ho; rfl
  | 3, _ => cases ho; rfl
  | 4, _ => cases ho; rfl
  | 5, _ => cases ho; rfl
  | 6, _ => cases ho; rfl
  | 7, _ => cases ho; rfl
  | 8, _ => cases ho; rfl
  | 9, _ => cases ho; rfl
  | 10, _ => cases ho; rfl
  | 11, _ => cases ho; rfl
  | 12, _ => cases ho; rfl
  | 13, _ => cases ho; rfl
  | 14, _ => cases ho; rfl
  | 15, _ => cases ho; rfl
  | 16, _ => cases ho; rfl
  | 17, _ => cases ho; rfl
  | 18, _ => cases ho; rfl
  | 19, _ => cases ho; rfl
  | 20, _ => cases ho; rfl
  | 21, _ => cases ho; rfl
  | 22, _ => cases ho; rfl
  | 23, _ => cases ho; rfl
  | 24, _ => cases ho; rfl


/-- What is known when the statement begins. -/
structure LK (f : Nat → Value) (w0 : World) (fA fB fC : Value) (pX pA pB pC : Part) (n : Nat) (sx sa sb sc sab : Int) : Prop where
  t : Tab w0
  f0 : f 0 = fA
  f1 : f 1 = fB
  f2 : f 2 = fC
  f7 : f 7 = .int .i64 n
  f8 : f 8 = pX.v
  x : pX.ok w0
  a : pA.ok w0
  b : pB.ok w0
  c : pC.ok w0
  zx : ((sumOf pX.z).toNat : Int) = sx
  za : ((sumOf pA.z).toNat : Int) = sa
  zb : ((sumOf pB.z).toNat : Int) = sb
  zc : ((sumOf pC.z).toNat : Int) = sc
  e1 : Go.bits .xor .u32 sa sb = sab
  e2 : Go.bits .xor .u32 sab sc = sx
  la : ∀ w, (Instr.slice 25 fA none (some (.int .i64 n)) none).run Tryd.prog w = .ok pA.v w
  lb : ∀ w, (Instr.slice 25 fB none (some (.int .i64 n)) none).run Tryd.prog w = .ok pB.v w
  lc : ∀ w, (Instr.slice 25 fC none (some (.int .i64 n)) none).run Tryd.prog w = .ok pC.v w

theorem ps_one (w : World) (p : Part) (h : p.ok w) : Ps (w.alloc (.cells #[p.v] 25)) (some ⟨w.heap.size, 0, none⟩) [p] :=
  ps_new w [p] 25 (fun r hr => by
    match r, hr with
    | 0, _ => exact h)
theorem sum_of {w : World} {g : Nat} {p : Part} {s : Int} (hT : Tab w) (h : Ps w (some ⟨g, 0, none⟩) [p]) (hs : ((sumOf p.z).toNat : Int) = s) :
    Calls Tryd.prog 11 #[.slice (some ⟨g, 0, none⟩) 1 1] w fun e w' => e = .returned (.int .u32 s) ∧ w = w' := by
  have := sum_any (some ⟨g, 0, none⟩) 1 1 [p] w rfl (by decide) hT h
  rwa [flat_one, hs] at this

def LPost (f : Nat → Value) (w0 : World) (fA fB fC : Value) (pX pA pB pC : Part) (n : Nat) (sx sa sb sc sab : Int) (v : Nat → Value) (w : World) (i : Nat) (dst : Option Tmp) (a' : Act) (w' : World) : Prop :=
  ∃ u, a' = (LF f v).put dst u ∧ Below w0.heap.size w0 w' ∧ Below w.heap.size w w' ∧ LJ fA fB fC pX pA pB pC n sx sa sb sc sab i u w'
theorem run_bind_of {x : Sem Value} {u : Value} {w : World} (h : x.run Tryd.prog w = .ok u w) : (x >>= fun y => pure (Next.value y)).run Tryd.prog w = .ok (.value u) w := by
  simp [h]
set_option maxRecDepth 100000 in
set_option maxHeartbeats 1000000 in
theorem lops_step {f : Nat → Value} {w0 : World} {fA fB fC : Value} {pX pA pB pC : Part} {n : Nat} {sx sa sb sc sab : Int} {Q : Exit → Act → World → Prop} (K : LK f w0 fA fB fC pX pA pB pC n sx sa sb sc sab) :
    ∀ (i : Nat) (o : Oper), lops[i]? = some o → ∀ v w, Below w0.heap.size w0 w → (∀ e ∈ o.after, Region.binds .any e = true → LJ fA fB fC pX pA pB pC n sx sa sb sc sab e.on (v e.on) w) →
      wpOp Tryd.prog lops Q i (LPost f w0 fA fB fC pX pA pB pC n sx sa sb sc sab v w i o.dst) (LF f v) w := by
  intro i o ho v w hS hd
  have hi := lops_at ho
  have hT := K.t.below hS
  match i, hi with
  | 0, _ =>
    replace ho : some ({ dst := some 55, op := Go.Op.move (Go.Operand.tmp 8), type := 25, pos := "law.go:84", after := #[], guard := none } : Oper) = some o := ho
    cases ho
    refine each_of (o := { dst := some 55, op := Go.Op.move (Go.Operand.tmp 8), type := 25, pos := "law.go:84", after := #[], guard := none }) rfl rfl ?_
    unfold LF
    rw [K.f8]
    go_simp
    exact ⟨_, by unfold LF; first | (rw [K.f8]; done) | (rw [K.f8]; rfl), hS, Below.refl _ _, rfl⟩
  | 1, _ =>
    replace ho : some ({ dst := some 56, op := Go.Op.buildSlice 22 1 #[(0, Go.Operand.tmp 55)], type := 22, pos := "law.go:84", after := #[{ on := 0, ground := Go.Ground.data }], guard := none } : Oper) = some o := ho
    cases ho
    have h0 : v 0 = pX.v := hd ⟨0, .data⟩ (by simp) rfl
    refine each_of (o := { dst := some 56, op := Go.Op.buildSlice 22 1 #[(0, Go.Operand.tmp 55)], type := 22, pos := "law.go:84", after := #[{ on := 0, ground := Go.Ground.data }], guard := none }) rfl rfl ?_
    unfold LF
    rw [h0]
    go_simp
    exact ⟨_, by unfold LF; first | (rw [h0]; done) | (rw [h0]; rfl), hS.alloc hS.size _, (Below.refl _ _).alloc (Nat.le_refl _) _, ⟨_, rfl, ps_one w pX (K.x.below hS)⟩⟩
  | 2, _ =>
    replace ho : some ({ dst := some 57, op := Go.Op.call { callee := Go.Callee.value (Go.Operand.func 11), args := #[Go.Operand.tmp 56], argTypes := #[22] }, type := 27, pos := "law.go:84", after := #[{ on := 1, ground := Go.Ground.data }], guard := none } : Oper) = some o := ho
    cases ho
    obtain ⟨g, h, hp⟩ : ∃ g, v 1 = .slice (some ⟨g, 0, none⟩) 1 1 ∧ Ps w (some ⟨g, 0, none⟩) [pX] := hd ⟨1, .data⟩ (by simp) rfl
    refine each_of (o := { dst := some 57, op := Go.Op.call { callee := Go.Callee.value (Go.Operand.func 11), args := #[Go.Operand.tmp 56], argTypes := #[22] }, type := 27, pos := "law.go:84", after := #[{ on := 1, ground := Go.Ground.data }], guard := none }) rfl rfl ?_
    unfold LF
    rw [h]
    go_simp
    refine (sum_of hT hp K.zx).mono ?_
    rintro e w' ⟨rfl, rfl⟩
    exact ⟨_, by unfold LF; first | (rw [h]; done) | (rw [h]; rfl), hS, Below.refl _ _, rfl⟩
  | 3, _ =>
    replace ho : some ({ dst := some 58, op := Go.Op.move (Go.Operand.tmp 0), type := 25, pos := "law.go:84", after := #[], guard := none } : Oper) = some o := ho
    cases ho
    refine each_of (o := { dst := some 58, op := Go.Op.move (Go.Operand.tmp 0), type := 25, pos := "law.go:84", after := #[], guard := none }) rfl rfl ?_
    unfold LF
    rw [K.f0]
    go_simp
    exact ⟨_, by unfold LF; first | (rw [K.f0]; done) | (rw [K.f0]; rfl), hS, Below.refl _ _, rfl⟩
  | 4, _ =>
    replace ho : some ({ dst := some 59, op := Go.Op.move (Go.Operand.tmp 7), type := 3, pos := "law.go:84", after := #[], guard := none } : Oper) = some o := ho
    cases ho
    refine each_of (o := { dst := some 59, op := Go.Op.move (Go.Operand.tmp 7), type := 3, pos := "law.go:84", after := #[], guard := none }) rfl rfl ?_
    unfold LF
    rw [K.f7]
    go_simp
    exact ⟨_, by unfold LF; first | (rw [K.f7]; done) | (rw [K.f7]; rfl), hS, Below.refl _ _, rfl⟩
  | 5, _ =>
    replace ho : some ({ dst := some 60, op := Go.Op.slice 25 (Go.Operand.tmp 58) none (some (Go.Operand.tmp 59)) none, type := 25, pos := "law.go:84", after := #[{ on := 3, ground := Go.Ground.data }, { on := 4, ground := Go.Ground.data }], guard := none } : Oper) = some o := ho
    cases ho
    have h1 : v 3 = fA := hd ⟨3, .data⟩ (by simp) rfl
    have h2 : v 4 = .int .i64 n := hd ⟨4, .data⟩ (by simp) rfl
    refine each_value (o := { dst := some 60, op := Go.Op.slice 25 (Go.Operand.tmp 58) none (some (Go.Operand.tmp 59)) none, type := 25, pos := "law.go:84", after := #[{ on := 3, ground := Go.Ground.data }, { on := 4, ground := Go.Ground.data }], guard := none }) rfl rfl (u := pA.v) (w' := w) ?_ ⟨_, rfl, hS, Below.refl _ _, rfl⟩
    unfold LF
    rw [h1, h2]
    exact run_bind_of (K.la w)
  | 6, _ =>
    replace ho : some ({ dst := some 61, op := Go.Op.buildSlice 22 1 #[(0, Go.Operand.tmp 60)], type := 22, pos := "law.go:84", after := #[{ on := 5, ground := Go.Ground.data }], guard := none } : Oper) = some o := ho
    cases ho
    have h5 : v 5 = pA.v := hd ⟨5, .data⟩ (by simp) rfl
    refine each_of (o := { dst := some 61, op := Go.Op.buildSlice 22 1 #[(0, Go.Operand.tmp 60)], type := 22, pos := "law.go:84", after := #[{ on := 5, ground := Go.Ground.data }], guard := none }) rfl rfl ?_
    unfold LF
    rw [h5]
    go_simp
    exact ⟨_, by unfold LF; first | (rw [h5]; done) | (rw [h5]; rfl), hS.alloc hS.size _, (Below.refl _ _).alloc (Nat.le_refl _) _, ⟨_, rfl, ps_one w pA (K.a.below hS)⟩⟩
  | 7, _ =>
    replace ho : some ({ dst := some 62, op := Go.Op.call { callee := Go.Callee.value (Go.Operand.func 11), args := #[Go.Operand.tmp 61], argTypes := #[22] }, type := 27, pos := "law.go:84", after := #[{ on := 6, ground := Go.Ground.data }, { on := 2, ground := Go.Ground.chain }], guard := none } : Oper) = some o := ho
    cases ho
    obtain ⟨g, h, hp⟩ : ∃ g, v 6 = .slice (some ⟨g, 0, none⟩) 1 1 ∧ Ps w (some ⟨g, 0, none⟩) [pA] := hd ⟨6, .data⟩ (by simp) rfl
    refine each_of (o := { dst := some 62, op := Go.Op.call { callee := Go.Callee.value (Go.Operand.func 11), args := #[Go.Operand.tmp 61], argTypes := #[22] }, type := 27, pos := "law.go:84", after := #[{ on := 6, ground := Go.Ground.data }, { on := 2, ground := Go.Ground.chain }], guard := none }) rfl rfl ?_
    unfold LF
    rw [h]
    go_simp
    refine (sum_of hT hp K.za).mono ?_
    rintro e w' ⟨rfl, rfl⟩
    exact ⟨_, by unfold LF; first | (rw [h]; done) | (rw [h]; rfl), hS, Below.refl _ _, rfl⟩
  | 8, _ =>
    replace ho : some ({ dst := some 63, op := Go.Op.move (Go.Operand.tmp 1), type := 25, pos := "law.go:84", after := #[], guard := none } : Oper) = some o := ho
    cases ho
    refine each_of (o := { dst := some 63, op := Go.Op.move (Go.Operand.tmp 1), type := 25, pos := "law.go:84", after := #[], guard := none }) rfl rfl ?_
    unfold LF
    rw [K.f1]
    go_simp
    exact ⟨_, by unfold LF; first | (rw [K.f1]; done) | (rw [K.f1]; rfl), hS, Below.refl _ _, rfl⟩
  | 9, _ =>
    replace ho : some ({ dst := some 64, op := Go.Op.move (Go.Operand.tmp 7), type := 3, pos := "law.go:84", after := #[], guard := none } : Oper) = some o := ho
    cases ho
    refine each_of (o := { dst := some 64, op := Go.Op.move (Go.Operand.tmp 7), type := 3, pos := "law.go:84", after := #[], guard := none }) rfl rfl ?_
    unfold LF
    rw [K.f7]
    go_simp
    exact ⟨_, by unfold LF; first | (rw [K.f7]; done) | (rw [K.f7]; rfl), hS, Below.refl _ _, rfl⟩
  | 10, _ =>
    replace ho : some ({ dst := some 65, op := Go.Op.slice 25 (Go.Operand.tmp 63) none (some (Go.Operand.tmp 64)) none, type := 25, pos := "law.go:84", after := #[{ on := 8, ground := Go.Ground.data }, { on := 9, ground := Go.Ground.data }], guard := none } : Oper) = some o := ho
    cases ho
    have h1 : v 8 = fB := hd ⟨8, .data⟩ (by simp) rfl
    have h2 : v 9 = .int .i64 n := hd ⟨9, .data⟩ (by simp) rfl
    refine each_value (o := { dst := some 65, op := Go.Op.slice 25 (Go.Operand.tmp 63) none (some (Go.Operand.tmp 64)) none, type := 25, pos := "law.go:84", after := #[{ on := 8, ground := Go.Ground.data }, { on := 9, ground := Go.Ground.data }], guard := none }) rfl rfl (u := pB.v) (w' := w) ?_ ⟨_, rfl, hS, Below.refl _ _, rfl⟩
    unfold LF
    rw [h1, h2]
    exact run_bind_of (K.lb w)
  | 11, _ =>
    replace ho : some ({ dst := some 66, op := Go.Op.buildSlice 22 1 #[(0, Go.Operand.tmp 65)], type := 22, pos := "law.go:84", after := #[{ on := 10, ground := Go.Ground.data }], guard := none } : Oper) = some o := ho
    cases ho
    have h10 : v 10 = pB.v := hd ⟨10, .data⟩ (by simp) rfl
    refine each_of (o := { dst := some 66, op := Go.Op.buildSlice 22 1 #[(0, Go.Operand.tmp 65)], type := 22, pos := "law.go:84", after := #[{ on := 10, ground := Go.Ground.data }], guard := none }) rfl rfl ?_
    unfold LF
    rw [h10]
    go_simp
    exact ⟨_, by unfold LF; first | (rw [h10]; done) | (rw [h10]; rfl), hS.alloc hS.size _, (Below.refl _ _).alloc (Nat.le_refl _) _, ⟨_, rfl, ps_one w pB (K.b.below hS)⟩⟩
  | 12, _ =>
    replace ho : some ({ dst := some 67, op := Go.Op.call { callee := Go.Callee.value (Go.Operand.func 11), args := #[Go.Operand.tmp 66], argTypes := #[22] }, type := 27, pos := "law.go:84", after := #[{ on := 11, ground := Go.Ground.data }, { on := 7, ground := Go.Ground.chain }], guard := none } : Oper) = some o := ho
    cases ho
    obtain ⟨g, h, hp⟩ : ∃ g, v 11 = .slice (some ⟨g, 0, none⟩) 1 1 ∧ Ps w (some ⟨g, 0, none⟩) [pB] := hd ⟨11, .data⟩ (by simp) rfl
    refine each_of (o := { dst := some 67, op := Go.Op.call { callee := Go.Callee.value (Go.Operand.func 11), args := #[Go.Operand.tmp 66], argTypes := #[22] }, type := 27, pos := "law.go:84", after := #[{ on := 11, ground := Go.Ground.data }, { on := 7, ground := Go.Ground.chain }], guard := none }) rfl rfl ?_
    unfold LF
    rw [h]
    go_simp
    refine (sum_of hT hp K.zb).mono ?_
    rintro e w' ⟨rfl, rfl⟩
    exact ⟨_, by unfold LF; first | (rw [h]; done) | (rw [h]; rfl), hS, Below.refl _ _, rfl⟩
  | 13, _ =>
    replace ho : some ({ dst := some 68, op := Go.Op.binOp Go.BinOp.xor 27 (Go.Operand.tmp 62) (Go.Operand.tmp 67) 27, type := 27, pos := "law.go:84", after := #[{ on := 7, ground := Go.Ground.data }, { on := 12, ground := Go.Ground.data }], guard := none } : Oper) = some o := ho
    cases ho
    have h7 : v 7 = .int .u32 sa := hd ⟨7, .data⟩ (by simp) rfl
    have h12 : v 12 = .int .u32 sb := hd ⟨12, .data⟩ (by simp) rfl
    refine each_of (o := { dst := some 68, op := Go.Op.binOp Go.BinOp.xor 27 (Go.Operand.tmp 62) (Go.Operand.tmp 67) 27, type := 27, pos := "law.go:84", after := #[{ on := 7, ground := Go.Ground.data }, { on := 12, ground := Go.Ground.data }], guard := none }) rfl rfl ?_
    unfold LF
    rw [h7, h12]
    go_simp
    exact ⟨_, by unfold LF; first | (rw [h7, h12]; done) | (rw [h7, h12]; rfl), hS, Below.refl _ _, by rw [K.e1]; rfl⟩
  | 14, _ =>
    replace ho : some ({ dst := some 69, op := Go.Op.move (Go.Operand.tmp 2), type := 25, pos := "law.go:84", after := #[], guard := none } : Oper) = some o := ho
    cases ho
    refine each_of (o := { dst := some 69, op := Go.Op.move (Go.Operand.tmp 2), type := 25, pos := "law.go:84", after := #[], guard := none }) rfl rfl ?_
    unfold LF
    rw [K.f2]
    go_simp
    exact ⟨_, by unfold LF; first | (rw [K.f2]; done) | (rw [K.f2]; rfl), hS, Below.refl _ _, rfl⟩
  | 15, _ =>
    replace ho : some ({ dst := some 70, op := Go.Op.move (Go.Operand.tmp 7), type := 3, pos := "law.go:84", after := #[], guard := none } : Oper) = some o := ho
    cases ho
    refine each_of (o := { dst := some 70, op := Go.Op.move (Go.Operand.tmp 7), type := 3, pos := "law.go:84", after := #[], guard := none }) rfl rfl ?_
    unfold LF
    rw [K.f7]
    go_simp
    exact ⟨_, by unfold LF; first | (rw [K.f7]; done) | (rw [K.f7]; rfl), hS, Below.refl _ _, rfl⟩
  | 16, _ =>
    replace ho : some ({ dst := some 71, op := Go.Op.slice 25 (Go.Operand.tmp 69) none (some (Go.Operand.tmp 70)) none, type := 25, pos := "law.go:84", after := #[{ on := 14, ground := Go.Ground.data }, { on := 15, ground := Go.Ground.data }], guard := none } : Oper) = some o := ho
    cases ho
    have h1 : v 14 = fC := hd ⟨14, .data⟩ (by simp) rfl
    have h2 : v 15 = .int .i64 n := hd ⟨15, .data⟩ (by simp) rfl
    refine each_value (o := { dst := some 71, op := Go.Op.slice 25 (Go.Operand.tmp 69) none (some (Go.Operand.tmp 70)) none, type := 25, pos := "law.go:84", after := #[{ on := 14, ground := Go.Ground.data }, { on := 15, ground := Go.Ground.data }], guard := none }) rfl rfl (u := pC.v) (w' := w) ?_ ⟨_, rfl, hS, Below.refl _ _, rfl⟩
    unfold LF
    rw [h1, h2]
    exact run_bind_of (K.lc w)
  | 17, _ =>
    replace ho : some ({ dst := some 72, op := Go.Op.buildSlice 22 1 #[(0, Go.Operand.tmp 71)], type := 22, pos := "law.go:84", after := #[{ on := 16, ground := Go.Ground.data }], guard := none } : Oper) = some o := ho
    cases ho
    have h16 : v 16 = pC.v := hd ⟨16, .data⟩ (by simp) rfl
    refine each_of (o := { dst := some 72, op := Go.Op.buildSlice 22 1 #[(0, Go.Operand.tmp 71)], type := 22, pos := "law.go:84", after := #[{ on := 16, ground := Go.Ground.data }], guard := none }) rfl rfl ?_
    unfold LF
    rw [h16]
    go_simp
    exact ⟨_, by unfold LF; first | (rw [h16]; done) | (rw [h16]; rfl), hS.alloc hS.size _, (Below.refl _ _).alloc (Nat.le_refl _) _, ⟨_, rfl, ps_one w pC (K.c.below hS)⟩⟩
  | 18, _ =>
    replace ho : some ({ dst := some 73, op := Go.Op.call { callee := Go.Callee.value (Go.Operand.func 11), args := #[Go.Operand.tmp 72], argTypes := #[22] }, type := 27, pos := "law.go:84", after := #[{ on := 17, ground := Go.Ground.data }, { on := 12, ground := Go.Ground.chain }], guard := none } : Oper) = some o := ho
    cases ho
    obtain ⟨g, h, hp⟩ : ∃ g, v 17 = .slice (some ⟨g, 0, none⟩) 1 1 ∧ Ps w (some ⟨g, 0, none⟩) [pC] := hd ⟨17, .data⟩ (by simp) rfl
    refine each_of (o := { dst := some 73, op := Go.Op.call { callee := Go.Callee.value (Go.Operand.func 11), args := #[Go.Operand.tmp 72], argTypes := #[22] }, type := 27, pos := "law.go:84", after := #[{ on := 17, ground := Go.Ground.data }, { on := 12, ground := Go.Ground.chain }], guard := none }) rfl rfl ?_
    unfold LF
    rw [h]
    go_simp
    refine (sum_of hT hp K.zc).mono ?_
    rintro e w' ⟨rfl, rfl⟩
    exact ⟨_, by unfold LF; first | (rw [h]; done) | (rw [h]; rfl), hS, Below.refl _ _, rfl⟩
  | 19, _ =>
    replace ho : some ({ dst := some 74, op := Go.Op.binOp Go.BinOp.xor 27 (Go.Operand.tmp 68) (Go.Operand.tmp 73) 27, type := 27, pos := "law.go:84", after := #[{ on := 13, ground := Go.Ground.data }, { on := 18, ground := Go.Ground.data }], guard := none } : Oper) = some o := ho
    cases ho
    have h13 : v 13 = .int .u32 sab := hd ⟨13, .data⟩ (by simp) rfl
    have h18 : v 18 = .int .u32 sc := hd ⟨18, .data⟩ (by simp) rfl
    refine each_of (o := { dst := some 74, op := Go.Op.binOp Go.BinOp.xor 27 (Go.Operand.tmp 68) (Go.Operand.tmp 73) 27, type := 27, pos := "law.go:84", after := #[{ on := 13, ground := Go.Ground.data }, { on := 18, ground := Go.Ground.data }], guard := none }) rfl rfl ?_
    unfold LF
    rw [h13, h18]
    go_simp
    exact ⟨_, by unfold LF; first | (rw [h13, h18]; done) | (rw [h13, h18]; rfl), hS, Below.refl _ _, by rw [K.e2]; rfl⟩
  | 20, _ =>
    replace ho : some ({ dst := some 75, op := Go.Op.binOp Go.BinOp.eql 27 (Go.Operand.tmp 57) (Go.Operand.tmp 74) 27, type := 4, pos := "law.go:84", after := #[{ on := 2, ground := Go.Ground.data }, { on := 19, ground := Go.Ground.data }], guard := none } : Oper) = some o := ho
    cases ho
    have h2 : v 2 = .int .u32 sx := hd ⟨2, .data⟩ (by simp) rfl
    have h19 : v 19 = .int .u32 sx := hd ⟨19, .data⟩ (by simp) rfl
    refine each_of (o := { dst := some 75, op := Go.Op.binOp Go.BinOp.eql 27 (Go.Operand.tmp 57) (Go.Operand.tmp 74) 27, type := 4, pos := "law.go:84", after := #[{ on := 2, ground := Go.Ground.data }, { on := 19, ground := Go.Ground.data }], guard := none }) rfl rfl ?_
    unfold LF
    rw [h2, h19]
    go_simp
    exact ⟨_, by unfold LF; first | (rw [h2, h19]; done) | (rw [h2, h19]; rfl), hS, Below.refl _ _, rfl⟩
  | 21, _ =>
    replace ho : some ({ dst := some 76, op := Go.Op.move (Go.Operand.tmp 75), type := 4, pos := "law.go:84", after := #[{ on := 20, ground := Go.Ground.data }, { on := 18, ground := Go.Ground.chain }], guard := none } : Oper) = some o := ho
    cases ho
    have h20 : v 20 = .bool true := hd ⟨20, .data⟩ (by simp) rfl
    refine each_of (o := { dst := some 76, op := Go.Op.move (Go.Operand.tmp 75), type := 4, pos := "law.go:84", after := #[{ on := 20, ground := Go.Ground.data }, { on := 18, ground := Go.Ground.chain }], guard := none }) rfl rfl ?_
    unfold LF
    rw [h20]
    go_simp
    exact ⟨_, by unfold LF; first | (rw [h20]; done) | (rw [h20]; rfl), hS, Below.refl _ _, rfl⟩
  | 22, _ =>
    replace ho : some ({ dst := some 77, op := Go.Op.call { callee := Go.Callee.value (Go.Operand.func 17), args := #[], argTypes := #[] }, type := 4, pos := "law.go:84", after := #[{ on := 21, ground := Go.Ground.chain }, { on := 21, ground := Go.Ground.guard }], guard := some (21, true) } : Oper) = some o := ho
    cases ho
    have h21 : v 21 = .bool true := hd ⟨21, .chain⟩ (by simp) rfl
    refine each_of (o := { dst := some 77, op := Go.Op.call { callee := Go.Callee.value (Go.Operand.func 17), args := #[], argTypes := #[] }, type := 4, pos := "law.go:84", after := #[{ on := 21, ground := Go.Ground.chain }, { on := 21, ground := Go.Ground.guard }], guard := some (21, true) }) rfl (by show ((match (some (v 21)) with | some (.bool b) => some b | _ => none) == some true) = true; rw [h21]; rfl) ?_
    unfold LF
    rw [h21]
    go_simp
    refine (wakes_any w hT).mono ?_
    rintro e w' ⟨rfl, hB⟩
    exact ⟨_, by unfold LF; first | (rw [h21]; done) | (rw [h21]; rfl), hS.trans (hB.mono hS.size), hB, rfl⟩
  | 23, _ =>
    replace ho : some ({ dst := some 78, op := Go.Op.pick (Go.Operand.tmp 76) (Go.Operand.tmp 77) (Go.Operand.const (Go.Value.bool false)), type := 4, pos := "law.go:84", after := #[{ on := 21, ground := Go.Ground.data }, { on := 22, ground := Go.Ground.data }], guard := none } : Oper) = some o := ho
    cases ho
    have h21 : v 21 = .bool true := hd ⟨21, .data⟩ (by simp) rfl
    have h22 : v 22 = .bool true := hd ⟨22, .data⟩ (by simp) rfl
    refine each_of (o := { dst := some 78, op := Go.Op.pick (Go.Operand.tmp 76) (Go.Operand.tmp 77) (Go.Operand.const (Go.Value.bool false)), type := 4, pos := "law.go:84", after := #[{ on := 21, ground := Go.Ground.data }, { on := 22, ground := Go.Ground.data }], guard := none }) rfl rfl ?_
    unfold LF
    rw [h21, h22]
    go_simp
    exact ⟨_, by unfold LF; first | (rw [h21, h22]; done) | (rw [h21, h22]; rfl), hS, Below.refl _ _, rfl⟩
  | 24, _ =>
    replace ho : some ({ dst := some 6, op := Go.Op.assign (Go.Operand.tmp 78), type := 4, pos := "law.go:84", after := #[{ on := 23, ground := Go.Ground.data }, { on := 22, ground := Go.Ground.chain }, { on := 0, ground := Go.Ground.phase }, { on := 1, ground := Go.Ground.phase }, { on := 2, ground := Go.Ground.phase }, { on := 3, ground := Go.Ground.phase }, { on := 4, ground := Go.Ground.phase }, { on := 5, ground := Go.Ground.phase }, { on := 6, ground := Go.Ground.phase }, { on := 7, ground := Go.Ground.phase }, { on := 8, ground := Go.Ground.phase }, { on := 9, ground := Go.Ground.phase }, { on := 10, ground := Go.Ground.phase }, { on := 11, ground := Go.Ground.phase }, { on := 12, ground := Go.Ground.phase }, { on := 13, ground := Go.Ground.phase }, { on := 14, ground := Go.Ground.phase }, { on := 15, ground := Go.Ground.phase }, { on := 16, ground := Go.Ground.phase }, { on := 17, ground := Go.Ground.phase }, { on := 18, ground := Go.Ground.phase }, { on := 19, ground := Go.Ground.phase }, { on := 20, ground := Go.Ground.phase }, { on := 21, ground := Go.Ground.phase }, { on := 22, ground := Go.Ground.phase }, { on := 23, ground := Go.Ground.phase }], guard := none } : Oper) = some o := ho
    cases ho
    have h23 : v 23 = .bool true := hd ⟨23, .data⟩ (by simp) rfl
    refine each_of (o := { dst := some 6, op := Go.Op.assign (Go.Operand.tmp 78), type := 4, pos := "law.go:84", after := #[{ on := 23, ground := Go.Ground.data }, { on := 22, ground := Go.Ground.chain }, { on := 0, ground := Go.Ground.phase }, { on := 1, ground := Go.Ground.phase }, { on := 2, ground := Go.Ground.phase }, { on := 3, ground := Go.Ground.phase }, { on := 4, ground := Go.Ground.phase }, { on := 5, ground := Go.Ground.phase }, { on := 6, ground := Go.Ground.phase }, { on := 7, ground := Go.Ground.phase }, { on := 8, ground := Go.Ground.phase }, { on := 9, ground := Go.Ground.phase }, { on := 10, ground := Go.Ground.phase }, { on := 11, ground := Go.Ground.phase }, { on := 12, ground := Go.Ground.phase }, { on := 13, ground := Go.Ground.phase }, { on := 14, ground := Go.Ground.phase }, { on := 15, ground := Go.Ground.phase }, { on := 16, ground := Go.Ground.phase }, { on := 17, ground := Go.Ground.phase }, { on := 18, ground := Go.Ground.phase }, { on := 19, ground := Go.Ground.phase }, { on := 20, ground := Go.Ground.phase }, { on := 21, ground := Go.Ground.phase }, { on := 22, ground := Go.Ground.phase }, { on := 23, ground := Go.Ground.phase }], guard := none }) rfl rfl ?_
    unfold LF
    rw [h23]
    go_simp
    exact ⟨_, by unfold LF; first | (rw [h23]; done) | (rw [h23]; rfl), hS, Below.refl _ _, rfl⟩

/-- THE STATEMENT, in whatever order. -/
theorem linear_end {f v0 : Nat → Value} {w0 : World} {fA fB fC : Value} {pX pA pB pC : Part} {n : Nat} {sx sa sb sc sab : Int} {Q : Exit → Act → World → Prop} (K : LK f w0 fA fB fC pX pA pB pC n sx sa sb sc sab)
    (hQ : ∀ v w, Below w0.heap.size w0 w → v 24 = .bool true → Q .normal (LF f v) w) : (Code.region 9 lops true).wp Tryd.prog Q (LF f v0) w0 :=
  wp_region_each (F := LF f) (S := fun w => Below w0.heap.size w0 w) (J := LJ fA fB fC pX pA pB pC n sx sa sb sc sab) (R := fun w w' => Below w.heap.size w w') (by kernel_rfl) lops_back (lops_put f) lj_mono
    (lops_step K) (fun v w hS hJ => hQ v w hS (hJ 24 (by decide))) v0 ((Below.refl _ _).drew)

theorem linear_at {A0 : Act} {w0 : World} {fA fB fC : Value} {pX pA pB pC : Part} {n : Nat} {sx sa sb sc sab : Int} {Q : Exit → Act → World → Prop} (hA : A0 = LF (fun i => A0.tmps.getD i undef) (fun i => A0.tmps.getD (if i = 24 then 6 else 55 + i) undef))
    (K : LK (fun i => A0.tmps.getD i undef) w0 fA fB fC pX pA pB pC n sx sa sb sc sab)
    (hQ : ∀ v w, Below w0.heap.size w0 w → v 24 = .bool true → Q .normal (LF (fun i => A0.tmps.getD i undef) v) w) : (Code.region 9 lops true).wp Tryd.prog Q A0 w0 := by
  have := linear_end (v0 := fun i => A0.tmps.getD (if i = 24 then 6 else 55 + i) undef) K hQ
  rwa [← hA] at this

theorem slice_to (a : Option Addr) (la ca n : Nat) (h : n ≤ ca) (hm : ca ≤ maxLen) (hn : a = none → ca = 0) (w : World) : (Instr.slice 25 (.slice a la ca) none (some (.int .i64 n)) none).run Tryd.prog w = .ok (.slice a n ca) w := by
  unfold maxLen at hm
  cases a with
  | none =>
    obtain rfl := hn rfl
    obtain rfl : n = 0 := by omega
    simp [go_sem, Tryd.underlying25]
  | some ad =>
    have h1 : (0 : Int) ≤ n := by omega
    have h2 : (n : Int) ≤ ca := by omega
    simp [go_sem, Tryd.underlying25, h]

end Go.Proofs.YtilpehbbjhignaaDoor
