/-
  The sum, plainly.
-/
import Derived.Test.YtilpehbbjhignaaDoorMem
namespace Go.Proofs.YtilpehbbjhignaaDoor
open Go.RowKit
set_option linter.unusedVariables false

/-- The table. -/
def tab : List (BitVec 32) := [0x00000000#32, 0x1db71064#32, 0x3b6e20c8#32, 0x26d930ac#32, 0x76dc4190#32, 0x6b6b51f4#32, 0x4db26158#32, 0x5005713c#32,
  0xedb88320#32, 0xf00f9344#32, 0xd6d6a3e8#32, 0xcb61b38c#32, 0x9b64c2b0#32, 0x86d3d2d4#32, 0xa00ae278#32, 0xbdbdf21c#32]
def tb (k : Nat) : BitVec 32 := tab.getD k 0#32
/-- Four steps of the register. -/
def half (r : BitVec 32) : BitVec 32 := (r >>> 4) ^^^ tb (r.toNat % 16)
/-- A byte. -/
def upd (r : BitVec 32) (c : Int) : BitVec 32 := half (half (r ^^^ BitVec.ofInt 32 c))
def regs (r : BitVec 32) (zs : List Int) : BitVec 32 := zs.foldl upd r
/-- The sum of bytes. -/
def sumOf (zs : List Int) : BitVec 32 := ~~~ regs 0xffffffff#32 zs

theorem regs_nil (r : BitVec 32) : regs r [] = r := rfl
theorem regs_append (r : BitVec 32) (a b : List Int) : regs r (a ++ b) = regs (regs r a) b := by simp [regs]
theorem regs_take (r : BitVec 32) (zs : List Int) (k : Nat) (hk : k < zs.length) : regs r (zs.take (k + 1)) = upd (regs r (zs.take k)) (zs.getD k 0) := by
  rw [List.take_succ_eq_append_getElem hk, regs_append]
  simp [regs, List.getD, hk]
theorem flat_take (ps : List Part) (k : Nat) (hk : k < ps.length) : flat (ps.take (k + 1)) = flat (ps.take k) ++ ps[k].z := by
  rw [List.take_succ_eq_append_getElem hk]; simp only [flat, List.flatMap_append, List.flatMap_cons, List.flatMap_nil, List.append_nil]

theorem xor_u32 (a b : BitVec 32) : Go.bits .xor .u32 (a.toNat : Int) (b.toNat : Int) = ((a ^^^ b).toNat : Int) := by
  have h1 : BitVec.ofInt 32 (a.toNat : Int) = a := by rw [BitVec.ofInt_natCast]; simp
  have h2 : BitVec.ofInt 32 (b.toNat : Int) = b := by rw [BitVec.ofInt_natCast]; simp
  show IntKind.u32.wrap ((BitVec.ofInt 32 (a.toNat : Int) ^^^ BitVec.ofInt 32 (b.toNat : Int)).toNat : Int) = _
  rw [h1, h2, IntKind.wrap_u32]
  have := (a ^^^ b).isLt
  omega
theorem xor_byte (a : BitVec 32) (c : Int) (h0 : 0 ≤ c) (h1 : c ≤ 255) : Go.bits .xor .u32 (a.toNat : Int) c = ((a ^^^ BitVec.ofInt 32 c).toNat : Int) := by
  have e : c = (((BitVec.ofInt 32 c).toNat : Nat) : Int) := by
    rw [BitVec.toNat_ofInt]; omega
  conv => lhs; rw [e]
  exact xor_u32 _ _
theorem shr_u32 (a : BitVec 32) : ((a.toNat : Nat) : Int) / (16 : Int) = (((a >>> 4).toNat : Nat) : Int) := by
  rw [BitVec.toNat_ushiftRight, Nat.shiftRight_eq_div_pow]; omega
theorem and_u32 (a : BitVec 32) : Go.bits .and .u32 (a.toNat : Int) 15 = ((a.toNat % 16 : Nat) : Int) := by
  have h1 : BitVec.ofInt 32 (a.toNat : Int) = a := by rw [BitVec.ofInt_natCast]; simp
  show IntKind.u32.wrap ((BitVec.ofInt 32 (a.toNat : Int) &&& BitVec.ofInt 32 15).toNat : Int) = _
  rw [h1, BitVec.toNat_and, show (BitVec.ofInt 32 15).toNat = 2 ^ 4 - 1 by decide, Nat.and_two_pow_sub_one_eq_mod, IntKind.wrap_u32]
  omega
theorem half_int (a : BitVec 32) : Go.bits .xor .u32 ((a >>> 4).toNat : Int) ((tb (a.toNat % 16)).toNat : Int) = ((half a).toNat : Int) := xor_u32 _ _
theorem not_u32 (a : BitVec 32) : Go.bits .xor .u32 IntKind.u32.max (a.toNat : Int) = ((~~~ a).toNat : Int) := by
  have e : IntKind.u32.max = (((0xffffffff#32 : BitVec 32).toNat : Nat) : Int) := by decide
  rw [e, xor_u32]
  congr 2

/-- The table in memory. -/
def Tab (w : World) : Prop := ∀ k, k < 16 → w.cell? ⟨0, k, none⟩ = some (.int .u32 ((tb k).toNat : Int))
theorem Tab.below {w w' : World} (h : Tab w) (hB : Below w.heap.size w w') : Tab w' := fun k hk => by rw [hB.cell (cell_lt (h k hk))]; exact h k hk

/-- A byte's round, number by number. -/
theorem upd_ints {w : World} (hT : Tab w) (X : BitVec 32) (c : Int) (h0 : 0 ≤ c) (h1 : c ≤ 255) : ∃ (a s t b s' t' : Int) (i i' : Nat),
    Go.bits .xor .u32 (X.toNat : Int) c = a ∧ a / 16 = s ∧ Go.bits .and .u32 a 15 = (i : Int) ∧ i < 16 ∧ w.cell? ⟨0, i, none⟩ = some (.int .u32 t) ∧ Go.bits .xor .u32 s t = b ∧
    b / 16 = s' ∧ Go.bits .and .u32 b 15 = (i' : Int) ∧ i' < 16 ∧ w.cell? ⟨0, i', none⟩ = some (.int .u32 t') ∧ Go.bits .xor .u32 s' t' = ((upd X c).toNat : Int) :=
  ⟨_, _, _, _, _, _, _, _, xor_byte X c h0 h1, shr_u32 _, and_u32 _, Nat.mod_lt _ (by decide), hT _ (Nat.mod_lt _ (by decide)), half_int _, shr_u32 _, and_u32 _, Nat.mod_lt _ (by decide), hT _ (Nat.mod_lt _ (by decide)), half_int _⟩

end Go.Proofs.YtilpehbbjhignaaDoor
