/-
  Cuts of arrays.
-/
import Derived.Test.YtdpnkdliibccjaaDoorRot
import Derived.Deep.MidRow
namespace Go.Proofs.YtdpnkdliibccjaaDoor
open Go.RowKit
set_option linter.unusedVariables false

theorem size5 (w : World) : (sizeOf 5).run Tryd.prog w = .ok 1 w := by
  obtain ⟨i0, hi, hz0, hz1, hz2⟩ := info_parts Tryd.info5
  simp [sizeOf, typeInfo, hi, hz1]
theorem arr39 : Tryd.prog.underlying 39 = some (.array (Tryd.prog.arrayLen 39) (Tryd.prog.elem 39)) ∧ Tryd.prog.arrayLen 39 = 64 ∧ Tryd.prog.elem 39 = 5 := ⟨by kernel_rfl, by kernel_rfl, by kernel_rfl⟩
theorem arr25 : Tryd.prog.underlying 25 = some (.array (Tryd.prog.arrayLen 25) (Tryd.prog.elem 25)) ∧ Tryd.prog.arrayLen 25 = 32 ∧ Tryd.prog.elem 25 = 5 := ⟨by kernel_rfl, by kernel_rfl, by kernel_rfl⟩
theorem arr49 : Tryd.prog.underlying 49 = some (.array (Tryd.prog.arrayLen 49) (Tryd.prog.elem 49)) ∧ Tryd.prog.arrayLen 49 = 8 ∧ Tryd.prog.elem 49 = 5 := ⟨by kernel_rfl, by kernel_rfl, by kernel_rfl⟩
theorem cut_arr {t n : Nat} (ht : Tryd.prog.underlying t = some (.array (Tryd.prog.arrayLen t) (Tryd.prog.elem t)) ∧ Tryd.prog.arrayLen t = n ∧ Tryd.prog.elem t = 5) (w : World) (g o : Nat) (k : Int) (i : Nat) (hk : k = i) (hi : i < n) :
    Sem.run Tryd.prog (Instr.sliceAt t (.pointer (some ⟨g, o, none⟩)) (some (.int .i64 k)) none none) w = .ok (.slice (some ⟨g, o + i, none⟩) (n - i) (n - i)) w := by
  subst hk
  obtain ⟨h1, h2, h3⟩ := ht
  have := run_sliceAt_array_l (P := Tryd.prog) w t ⟨g, o, none⟩ h1 .i64 (i : Int) (by omega) (by rw [h2]; omega)
  rw [this, h3, size5, h2]
  simp [Result.andThen, slicedAt, Addr.add, show ¬ n = i by omega]
theorem cut_all {t n : Nat} (ht : Tryd.prog.underlying t = some (.array (Tryd.prog.arrayLen t) (Tryd.prog.elem t)) ∧ Tryd.prog.arrayLen t = n ∧ Tryd.prog.elem t = 5) (w : World) (g o : Nat) (h0 : 0 < n) :
    Sem.run Tryd.prog (Instr.sliceAt t (.pointer (some ⟨g, o, none⟩)) none none none) w = .ok (.slice (some ⟨g, o, none⟩) n n) w := by
  obtain ⟨h1, h2, h3⟩ := ht
  have := run_sliceAt_array_all (P := Tryd.prog) w t ⟨g, o, none⟩ h1
  rw [this, h3, size5, h2]
  simp [Result.andThen, slicedAt, Addr.add]
theorem only_setRow (g : Nat) (w : World) (cs : Array Value) : Only g w (w.setRow g cs) :=
  ⟨rfl, rfl, rfl, by simp, fun k hk => setRow_other w g k cs hk⟩
/-- A whole array stored. -/
theorem store_blk {ops : Array Oper} {rest : List Oper} {o : Oper} {a : Act} {w : World} {Q : Exit → Act → World → Prop} (hgd : o.guard = none) (ty : TypeId) (x y : Operand) (ho : o.op = .store ty x y)
    (g : Nat) (L L' : List Value) (hx : a.eval x = .pointer (some ⟨g, 0, none⟩)) (hy : a.eval y = .agg L'.toArray) (t : TypeId) (hg : Blk w g t L) (hi : (Tryd.prog.info? ty).map (·.size) = some L'.length) (hl : L.length = L'.length) (h1 : ∀ v ∈ L', v.oneCell' = true)
    (h : ∀ w', Hid (Blk w' g t L') → Hid (Only g w w') → wpList Tryd.prog ops Q rest (a.put o.dst undef) w') : wpList Tryd.prog ops Q (o :: rest) a w := by
  refine wpList_store_row hgd ty x y ho g L'.toArray hx hy t L.toArray hg (by simpa using hi) (by simpa using hl) (all_oneCell_toArray h1) ?_
  exact h _ (setRow_heap w g _ _ t _ hg) (only_setRow g w _)
/-- A whole array, or a part of a block, loaded. -/
theorem load_blk {ops : Array Oper} {rest : List Oper} {o : Oper} {a : Act} {w : World} {Q : Exit → Act → World → Prop} (hgd : o.guard = none) (ty : TypeId) (x : Operand) (ho : o.op = .load ty x)
    (g off : Nat) (L cs : List Value) (hx : a.eval x = .pointer (some ⟨g, off, none⟩)) (t : TypeId) (hg : Blk w g t L) (hc : (L.drop off).take cs.length = cs) (d : TypeDesc) (hu : Tryd.prog.underlying ty = some d) (hd : d.isRow = true) (hi : (Tryd.prog.info? ty).map (·.size) = some cs.length)
    (h : wpList Tryd.prog ops Q rest (a.put o.dst (.agg cs.toArray)) w) : wpList Tryd.prog ops Q (o :: rest) a w := by
  refine wpList_load_mid hgd ty x ho g off hx cs d (fun j v hv => ?_) hu hd hi h
  have hj : j < cs.length := (List.getElem?_eq_some_iff.1 hv).1
  have hg' : w.heap[g]? = some (.cells L.toArray t (0, 0)) := hg
  have e : L[off + j]? = some v := by
    rw [← hc, List.getElem?_take, if_pos hj, List.getElem?_drop] at hv
    exact hv
  simp [World.cell?, hg', e]
theorem one_uv {s : List (BitVec 32)} : ∀ v ∈ s.map (fun x => Value.int .u32 (x.toNat : Int)), v.oneCell' = true := fun v hv => by
  obtain ⟨x, _, rfl⟩ := List.mem_map.1 hv; rfl
theorem info45 : (Tryd.prog.info? 45).map (·.size) = some 64 := by kernel_rfl
theorem info38 : (Tryd.prog.info? 38).map (·.size) = some 8 := by kernel_rfl
theorem info25 : (Tryd.prog.info? 25).map (·.size) = some 32 := by kernel_rfl
end Go.Proofs.YtdpnkdliibccjaaDoor
