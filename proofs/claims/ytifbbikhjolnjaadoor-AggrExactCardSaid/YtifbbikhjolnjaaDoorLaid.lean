/-
  What the listed table gives the walks; what a walk is told of bytes that came in.
-/
import Derived.Test.YtifbbikhjolnjaaDoorRead
import Derived.Test.YtifbbikhjolnjaaDoorRows
import Derived.ProofKit
import Derived.LaidMore
import Derived.OpenShut
import Derived.Stop.Joined
namespace Go.Proofs.YtifbbikhjolnjaaDoor
open Go.ChangeShapes Go.WideShapes Go.ChangeAt Go.RowKit
set_option linter.unusedVariables false

theorem rd_of_ints {w : World} {x : Addr} {len cap : Nat} {zs : List Int} (hz : zs.length = cap) (hl : len ≤ cap) (hc : ∀ i, i < zs.length → w.cell? (x.add i) = some (.int .u8 (zs.getD i 0))) : Rd w (some x) (zs.take len) := by
  obtain ⟨b, off, spot⟩ := x
  by_cases h0 : 0 < zs.length
  · have hspot : spot = none := by simpa [Addr.add] using World.cell?_spot (hc 0 h0)
    subst hspot
    exact Rd.take (.inr ⟨b, off, rfl, fun j hj => by rw [← Addr.add_lit]; exact hc j hj⟩) len
  · exact .inl (by rw [List.eq_nil_of_length_eq_zero (by omega : zs.length = 0)]; simp)
theorem bts_of_wf {zs : List Int} (h : ∀ n ∈ zs, (Lit.int .u8 n).wf = true) : Bts zs := by
  intro j hj
  have := h (zs.getD j 0) (by simp [List.getD, hj])
  simpa [Lit.wf, IntKind.min, IntKind.max, IntKind.signed, IntKind.bits] using this
/-- A slice of numbers: nil, or a row of cap numbers. -/
def IsRow (k : IntKind) (w : World) (a : Option Addr) (len cap : Nat) (zs : List Int) : Prop :=
  (a = none ∧ len = 0 ∧ cap = 0 ∧ zs = []) ∨
  ∃ x, a = some x ∧ len ≤ cap ∧ cap ≤ maxLen ∧ zs.length = cap ∧ (∀ i, i < zs.length → w.cell? (x.add i) = some (.int k (zs.getD i 0))) ∧ ∀ n ∈ zs, (Lit.int k n).wf = true
theorem IsRow.part {w : World} {a : Option Addr} {len cap : Nat} {zs : List Int} (h : IsRow .u8 w a len cap zs) :
    Part.ok w ⟨a, len, cap, zs.take len⟩ ∧ len ≤ cap ∧ cap ≤ maxLen := by
  rcases h with ⟨rfl, rfl, rfl, rfl⟩ | ⟨x, rfl, h1, h2, h3, h4, h5⟩
  · exact ⟨⟨Rd.nil _ _, rfl, Bts.nil, Nat.zero_le _, fun _ => rfl⟩, Nat.le_refl _, Nat.zero_le _⟩
  · exact ⟨⟨rd_of_ints h3 h1 h4, by simp; omega, (bts_of_wf h5).take _, Nat.le_trans h1 h2, fun h => by cases h⟩, h1, h2⟩
def laidL {H : Type} : List (String × DataW H) := [("cellarer/crc.steps", Rows.laid_cellarer_crc_steps)]
theorem gSteps : Tryd.prog.globalNamed "cellarer/crc.steps" = some 0 := by kernel_rfl
theorem tSteps : (Tryd.prog.globals[0]?).map (·.type) = some 72 := by kernel_rfl
theorem door_met (os : Os) (args : Array Value) : laidMetH Tryd.prog laidL ((World.doorLaid Tryd.prog 400 os).forCall (fun _ _ => 0) ⟨#[], args, []⟩).memory :=
  laidMetH_of_parts3 (fuel := 8) (laidMet_of_run' 8 (by kernel_rfl) (by kernel_rfl)) (by kernel_rfl) (by kernel_rfl)
theorem laid_eq {H : Type} : Rows.laid_cellarer_crc_steps (H := H) = .agg ((List.range 16).map fun k => .lit (.int .u32 ((tb k).toNat : Int))) := rfl
theorem of_laid {W : World} (h : laidMetH Tryd.prog laidL W) : Tab W := by
  rw [MakeChecks.laidMetH_plain _ _ _ (by kernel_rfl)] at h
  obtain ⟨ps, ⟨g0, t0, cs0, f0, p0, q0, hg0, ht0, hv0, hd0, _, _⟩, _, _⟩ := h
  obtain rfl := Option.some.inj (gSteps.symm.trans hg0)
  obtain rfl := Option.some.inj (tSteps.symm.trans ht0)
  obtain ⟨xs, m1, rfl, hx1, hlen, hn3, hel⟩ := DataW.trod_array Tryd.underlying72 hd0
  have c3 : Tryd.prog.cellsOf 68 = 1 := by kernel_rfl
  intro k hk
  have hk0 := hel k (by omega)
  rw [c3, Nat.mul_one] at hk0
  have hx : Rows.laid_cellarer_crc_steps (H := Unit) = DataW.agg (xs.map (·.1)) := congrArg Prod.fst hx1
  rw [laid_eq] at hx
  simp only [DataW.agg.injEq] at hx
  have hxk : xs[k]? = some xs[k] := List.getElem?_eq_getElem (by omega)
  have h1 : (xs[k]'(by omega)).1 = .lit (.int .u32 ((tb k).toNat : Int)) := by
    have := congrArg (fun l => l[k]?) hx
    simp only [List.getElem?_map, hxk, Option.map_some] at this
    rw [List.getElem?_range hk] at this
    simpa using this.symm
  rw [hxk] at hk0
  obtain ⟨n, e1, e2, _⟩ := DataW.trod_int Tryd.underlying68 hk0
  rw [e2] at h1
  have hn : n = ((tb k).toNat : Int) := by simpa using h1
  have hcell := World.var?_cell hg0 hv0 k
  rw [hcell]
  have hlt : k < cs0.toList.length := by rw [hlen]; have : Tryd.prog.cellsOf 72 = 16 := by kernel_rfl
                                         omega
  have : cs0.toList[k]? = some (.int .u32 n) := by
    have := congrArg (fun l => l[0]?) e1
    simpa [List.getElem?_take, List.getElem?_drop] using this
  rw [← hn]
  simpa using this

end Go.Proofs.YtifbbikhjolnjaaDoor
