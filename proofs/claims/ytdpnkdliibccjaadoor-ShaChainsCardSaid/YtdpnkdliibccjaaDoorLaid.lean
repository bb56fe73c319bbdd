/-
  What the listed table gives the walks.
-/
import Derived.Test.YtdpnkdliibccjaaDoorSum
import Derived.Test.YtdpnkdliibccjaaDoorRows
import Derived.ProofKit
import Derived.LaidMore
import Derived.OpenShut
import Derived.Stop.Joined
namespace Go.Proofs.YtdpnkdliibccjaaDoor
open Go.ChangeShapes Go.WideShapes Go.ChangeAt Go.RowKit
set_option linter.unusedVariables false

def laidL {H : Type} : List (String × DataW H) := [("cellarer/sha.start", Rows.laid_cellarer_sha_start), ("cellarer/sha.constants", Rows.laid_cellarer_sha_constants)]
theorem gStart : Tryd.prog.globalNamed "cellarer/sha.start" = some 0 := by kernel_rfl
theorem tStart : (Tryd.prog.globals[0]?).map (·.type) = some 38 := by kernel_rfl
theorem gConst : Tryd.prog.globalNamed "cellarer/sha.constants" = some 1 := by kernel_rfl
theorem tConst : (Tryd.prog.globals[1]?).map (·.type) = some 45 := by kernel_rfl
theorem door_met (os : Os) (args : Array Value) : laidMetH Tryd.prog laidL ((World.doorLaid Tryd.prog 400 os).forCall (fun _ _ => 0) ⟨#[], args, []⟩).memory :=
  laidMetH_of_parts3 (fuel := 8) (laidMet_of_run' 8 (by kernel_rfl) (by kernel_rfl)) (by kernel_rfl) (by kernel_rfl)
theorem start_eq {H : Type} : Rows.laid_cellarer_sha_start (H := H) = .agg ((List.range 8).map fun k => .lit (.int .u32 ((st0.l.getD k 0#32).toNat : Int))) := rfl
theorem const_eq {H : Type} : Rows.laid_cellarer_sha_constants (H := H) = .agg ((List.range 64).map fun k => .lit (.int .u32 ((kk k).toNat : Int))) := rfl
theorem of_laid {W : World} (h : laidMetH Tryd.prog laidL W) : Tab W := by
  rw [MakeChecks.laidMetH_plain _ _ _ (by kernel_rfl)] at h
  obtain ⟨ps, ⟨g0, t0, cs0, f0, p0, q0, hg0, ht0, hv0, hd0, ⟨g1, t1, cs1, f1, p1, q1, hg1, ht1, hv1, hd1, _, _⟩, _⟩, _, _⟩ := h
  obtain rfl := Option.some.inj (gStart.symm.trans hg0)
  obtain rfl := Option.some.inj (tStart.symm.trans ht0)
  obtain rfl := Option.some.inj (gConst.symm.trans hg1)
  obtain rfl := Option.some.inj (tConst.symm.trans ht1)
  constructor
  · intro k hk
    obtain ⟨xs, m1, rfl, hx1, hlen, hn3, hel⟩ := DataW.trod_array Tryd.underlying38 hd0
    have c3 : Tryd.prog.cellsOf 37 = 1 := by kernel_rfl
    have hk0 := hel k (by omega)
    rw [c3, Nat.mul_one] at hk0
    have hx : Rows.laid_cellarer_sha_start (H := Unit) = DataW.agg (xs.map (·.1)) := congrArg Prod.fst hx1
    rw [start_eq] at hx
    simp only [DataW.agg.injEq] at hx
    have hxk : xs[k]? = some xs[k] := List.getElem?_eq_getElem (by omega)
    have h1 : (xs[k]'(by omega)).1 = .lit (.int .u32 ((st0.l.getD k 0#32).toNat : Int)) := by
      have := congrArg (fun l => l[k]?) hx
      simp only [List.getElem?_map, hxk, Option.map_some] at this
      rw [List.getElem?_range hk] at this
      simpa using this.symm
    rw [hxk] at hk0
    obtain ⟨n, e1, e2, _⟩ := DataW.trod_int Tryd.underlying37 hk0
    rw [e2] at h1
    have hn : n = ((st0.l.getD k 0#32).toNat : Int) := by simpa using h1
    have hcell := World.var?_cell hg0 hv0 k
    rw [hcell]
    have hlt : k < cs0.toList.length := by rw [hlen, show Tryd.prog.cellsOf 38 = 8 by kernel_rfl]; exact hk
    have : cs0.toList[k]? = some (.int .u32 n) := by
      have := congrArg (fun l => l[0]?) e1
      simpa [List.getElem?_take, List.getElem?_drop] using this
    rw [← hn]
    simpa using this
  · intro k hk
    obtain ⟨xs, m1, rfl, hx1, hlen, hn3, hel⟩ := DataW.trod_array Tryd.underlying45 hd1
    have c3 : Tryd.prog.cellsOf 37 = 1 := by kernel_rfl
    have hk0 := hel k (by omega)
    rw [c3, Nat.mul_one] at hk0
    have hx : Rows.laid_cellarer_sha_constants (H := Unit) = DataW.agg (xs.map (·.1)) := congrArg Prod.fst hx1
    rw [const_eq] at hx
    simp only [DataW.agg.injEq] at hx
    have hxk : xs[k]? = some xs[k] := List.getElem?_eq_getElem (by omega)
    have h1 : (xs[k]'(by omega)).1 = .lit (.int .u32 ((kk k).toNat : Int)) := by
      have := congrArg (fun l => l[k]?) hx
      simp only [List.getElem?_map, hxk, Option.map_some] at this
      rw [List.getElem?_range hk] at this
      simpa using this.symm
    rw [hxk] at hk0
    obtain ⟨n, e1, e2, _⟩ := DataW.trod_int Tryd.underlying37 hk0
    rw [e2] at h1
    have hn : n = ((kk k).toNat : Int) := by simpa using h1
    have hcell := World.var?_cell hg1 hv1 k
    rw [hcell]
    have hlt : k < cs1.toList.length := by rw [hlen, show Tryd.prog.cellsOf 45 = 64 by kernel_rfl]; exact hk
    have : cs1.toList[k]? = some (.int .u32 n) := by
      have := congrArg (fun l => l[0]?) e1
      simpa [List.getElem?_take, List.getElem?_drop] using this
    rw [← hn]
    simpa using this
end Go.Proofs.YtdpnkdliibccjaaDoor
