/-
  What the listed table gives the walks.
-/
import Derived.Test.YtilpehbbjhignaaDoorSum
import Derived.Test.YtilpehbbjhignaaDoorRows
import Derived.ProofKit
import Derived.LaidMore
import Derived.OpenShut
import Derived.Stop.Joined
namespace Go.Proofs.YtilpehbbjhignaaDoor
open Go.ChangeShapes Go.WideShapes Go.ChangeAt Go.RowKit
set_option linter.unusedVariables false

def laidL {H : Type} : List (String × DataW H) := [("cellarer/crc.steps", Rows.laid_cellarer_crc_steps)]
theorem gSteps : Tryd.prog.globalNamed "cellarer/crc.steps" = some 0 := by kernel_rfl
theorem tSteps : (Tryd.prog.globals[0]?).map (·.type) = some 40 := by kernel_rfl

theorem door_met (os : Os) (args : Array Value) : laidMetH Tryd.prog laidL ((World.doorLaid Tryd.prog 400 os).forCall (fun _ _ => 0) ⟨#[], args, []⟩).memory :=
  laidMetH_of_parts3 (fuel := 8) (laidMet_of_run' 8 (by kernel_rfl) (by kernel_rfl)) (by kernel_rfl) (by kernel_rfl)

theorem laid_eq {H : Type} : Rows.laid_cellarer_crc_steps (H := H) = .agg ((List.range 16).map fun k => .lit (.int .u32 ((tb k).toNat : Int))) := rfl
theorem of_laid {W : World} (h : laidMetH Tryd.prog laidL W) : Tab W := by
  rw [MakeChecks.laidMetH_plain _ _ _ (by kernel_rfl)] at h
  obtain ⟨ps, ⟨g0, t0, cs0, f0, p0, q0, hg0, ht0, hv0, hd0, _, _⟩, _, _⟩ := h
  obtain rfl := Option.some.inj (gSteps.symm.trans hg0)
  obtain rfl := Option.some.inj (tSteps.symm.trans ht0)
  obtain ⟨xs, m1, rfl, hx1, hlen, hn3, hel⟩ := DataW.trod_array Tryd.underlying40 hd0
  have c3 : Tryd.prog.cellsOf 27 = 1 := by kernel_rfl
  intro k hk
  have hk0 := hel k (by omega)
  rw [c3, Nat.mul_one] at hk0
  have hx : Rows.laid_cellarer_crc_steps (H := Unit) = DataW.agg (xs.map (·.1)) := congrArg Prod.fst hx1
  rw [laid_eq] at hx
  simp only [DataW.agg.injEq] at hx
  have hxk : xs[k]? = some xs[k] := List.getElem?_eq_getElem (by omega)
  have h1 : (xs[k]'(by omega)).1 = .lit (.int .u32 ((tb k).toNat : Int)) := by
    have := congrArg (fun l => l[k]?) hx
    simp only [List.getElem?_map, hxk, Option.map_some] at this
    rw [List.getElem?_range hk] at this
    simpa using this.symm
  rw [hxk] at hk0
  obtain ⟨n, e1, e2, _⟩ := DataW.trod_int Tryd.underlying27 hk0
  rw [e2] at h1
  have hn : n = ((tb k).toNat : Int) := by simpa using h1
  have hcell := World.var?_cell hg0 hv0 k
  rw [hcell]
  have hlt : k < cs0.toList.length := by rw [hlen]; have : Tryd.prog.cellsOf 40 = 16 := by kernel_rfl
                                         omega
  have : cs0.toList[k]? = some (.int .u32 n) := by
    have := congrArg (fun l => l[0]?) e1
    simpa [List.getElem?_take, List.getElem?_drop] using this
  rw [← hn]
  simpa using this
end Go.Proofs.YtilpehbbjhignaaDoor
