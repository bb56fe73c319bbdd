/-
  NARROWER THAN 'FOR EVERY INPUT', by the rows' own cells (each row's printed sentence says how): AggrExact: laid · AggrCut: laid · AggrSizes: laid · AggrBounds: laid · AggrMore: laid.
  DERIVED. THE GIVEN ROWS OF THIS SEAT. 5 by the template 'for every input the law returns true; each argument reads behind the call as it read before'; 0 by the template 'total and deterministic' (their statements: YtifbbikhjolnjaaDoorTotals.lean).
  GIVEN WITH THE SEED: the statements are not yours to turn. If you find one false, say at which input.
  Laid BY PROGRAM, IN A SANDBOX (cutbox-rows.mjs): the forced cells as the released guide's own fill.sh prints them over the translation f1bd6b890d20aa26… (all of the seat's roots in one cut). By AI agents, Wed Nov 11 2026. No macro, syntax, notation, axiom, sorry.
-/
import Derived.Test.YtifbbikhjolnjaaDoorChecked
import GoSem.Claim
import GoSem.ClaimJoined
import GoSem.ClaimMapViews
import Derived.JoinedTies
import Derived.KernelRfl
namespace Go.Proofs.YtifbbikhjolnjaaDoor
/- THE CELL 'sum', in the pinned program and in every row, IS THE sha256 OF THE DUMP (.gsa) THAT YtifbbikhjolnjaaDoorProg.lean LOADS. Nothing in Lean hashes anything: it is a label: what it is worth is what the hold of that sum in a sandbox is worth. -/
noncomputable def Tryd.pinned : Pinned := { name := "ytifbbikhjolnjaadoor", sum := "f1bd6b890d20aa263c6da4ef5de8c5e6d9b518c0bfe14914c67fdfcf91a18cce", checked := Tryd.checked }
namespace Rows
def none {H : Type} : Left H := { results := [], args := [] }

/- WHAT THE LISTED PACKAGE-LEVEL VARIABLES READ AS WHEN THE CALL BEGINS. Each datum BY PROGRAM (the guide's laid-datum.mjs) off the statement by which the dump's own 'gosem.cut.vars' lays the variable. In a bare row this is a premise. The card (YtifbbikhjolnjaaDoorCards.lean) ties it to the program's text. -/
def laid_cellarer_crc_steps {H : Type} : DataW H := .agg [.lit (.int .u32 0), .lit (.int .u32 498536548), .lit (.int .u32 997073096), .lit (.int .u32 651767980), .lit (.int .u32 1994146192), .lit (.int .u32 1802195444), .lit (.int .u32 1303535960), .lit (.int .u32 1342533948), .lit (.int .u32 3988292384), .lit (.int .u32 4027552580), .lit (.int .u32 3604390888), .lit (.int .u32 3412177804), .lit (.int .u32 2607071920), .lit (.int .u32 2262029012), .lit (.int .u32 2685067896), .lit (.int .u32 3183342108)]

/-- 'cellarerlaw15.AggrExact': WHATEVER THE INPUT: true; the input reads as it did. -/
def aggrExactSpec : ChangeSpec := { name := "aggrExact", fn := fun _ => fun
  | [d1, d2] => { results := [.lit (.bool true)], args := [d1, d2] }
  | _ => none }
def aggrExactRow : OpenClaim := { program := "ytifbbikhjolnjaadoor", sum := "f1bd6b890d20aa263c6da4ef5de8c5e6d9b518c0bfe14914c67fdfcf91a18cce", func := "cellarer/cellarerlaw15.AggrExact", spec := "aggrExact", inPlace := ["internal/bytealg.MakeNoZero"], named := ["cellarer/crc.steps"], apart := false, laid := [("cellarer/crc.steps", laid_cellarer_crc_steps)] }
def AggrExactSaid : Prop := aggrExactRow.holds Tryd.pinned (OpenSpec.ofChange aggrExactSpec)

/-- ITS FALSE NEIGHBOUR: 'it returns false'. Refute it at one input. -/
def aggrExactWrong : ChangeSpec := { name := "aggrExact", fn := fun _ => fun
  | [d1, d2] => { results := [.lit (.bool false)], args := [d1, d2] }
  | _ => none }
def AggrExactWrongFalsely : Prop := aggrExactRow.holds Tryd.pinned (OpenSpec.ofChange aggrExactWrong)

/-- 'cellarerlaw15.AggrCut': WHATEVER THE INPUT: true; the input reads as it did. -/
def aggrCutSpec : ChangeSpec := { name := "aggrCut", fn := fun _ => fun
  | [d1, d2, d3] => { results := [.lit (.bool true)], args := [d1, d2, d3] }
  | _ => none }
def aggrCutRow : OpenClaim := { program := "ytifbbikhjolnjaadoor", sum := "f1bd6b890d20aa263c6da4ef5de8c5e6d9b518c0bfe14914c67fdfcf91a18cce", func := "cellarer/cellarerlaw15.AggrCut", spec := "aggrCut", inPlace := ["internal/bytealg.MakeNoZero"], named := ["cellarer/crc.steps"], apart := false, laid := [("cellarer/crc.steps", laid_cellarer_crc_steps)] }
def AggrCutSaid : Prop := aggrCutRow.holds Tryd.pinned (OpenSpec.ofChange aggrCutSpec)

/-- ITS FALSE NEIGHBOUR: 'it returns false'. Refute it at one input. -/
def aggrCutWrong : ChangeSpec := { name := "aggrCut", fn := fun _ => fun
  | [d1, d2, d3] => { results := [.lit (.bool false)], args := [d1, d2, d3] }
  | _ => none }
def AggrCutWrongFalsely : Prop := aggrCutRow.holds Tryd.pinned (OpenSpec.ofChange aggrCutWrong)

/-- 'cellarerlaw15.AggrSizes': WHATEVER THE INPUT: true; the input reads as it did. -/
def aggrSizesSpec : ChangeSpec := { name := "aggrSizes", fn := fun _ => fun
  | [d1, d2, d3] => { results := [.lit (.bool true)], args := [d1, d2, d3] }
  | _ => none }
def aggrSizesRow : OpenClaim := { program := "ytifbbikhjolnjaadoor", sum := "f1bd6b890d20aa263c6da4ef5de8c5e6d9b518c0bfe14914c67fdfcf91a18cce", func := "cellarer/cellarerlaw15.AggrSizes", spec := "aggrSizes", inPlace := ["internal/bytealg.MakeNoZero"], named := ["cellarer/crc.steps"], apart := false, laid := [("cellarer/crc.steps", laid_cellarer_crc_steps)] }
def AggrSizesSaid : Prop := aggrSizesRow.holds Tryd.pinned (OpenSpec.ofChange aggrSizesSpec)

/-- ITS FALSE NEIGHBOUR: 'it returns false'. Refute it at one input. -/
def aggrSizesWrong : ChangeSpec := { name := "aggrSizes", fn := fun _ => fun
  | [d1, d2, d3] => { results := [.lit (.bool false)], args := [d1, d2, d3] }
  | _ => none }
def AggrSizesWrongFalsely : Prop := aggrSizesRow.holds Tryd.pinned (OpenSpec.ofChange aggrSizesWrong)

/-- 'cellarerlaw15.AggrBounds': WHATEVER THE INPUT: true; the input reads as it did. -/
def aggrBoundsSpec : ChangeSpec := { name := "aggrBounds", fn := fun _ => fun
  | [d1, d2, d3] => { results := [.lit (.bool true)], args := [d1, d2, d3] }
  | _ => none }
def aggrBoundsRow : OpenClaim := { program := "ytifbbikhjolnjaadoor", sum := "f1bd6b890d20aa263c6da4ef5de8c5e6d9b518c0bfe14914c67fdfcf91a18cce", func := "cellarer/cellarerlaw15.AggrBounds", spec := "aggrBounds", inPlace := ["internal/bytealg.MakeNoZero"], named := ["cellarer/crc.steps"], apart := false, laid := [("cellarer/crc.steps", laid_cellarer_crc_steps)] }
def AggrBoundsSaid : Prop := aggrBoundsRow.holds Tryd.pinned (OpenSpec.ofChange aggrBoundsSpec)

/-- ITS FALSE NEIGHBOUR: 'it returns false'. Refute it at one input. -/
def aggrBoundsWrong : ChangeSpec := { name := "aggrBounds", fn := fun _ => fun
  | [d1, d2, d3] => { results := [.lit (.bool false)], args := [d1, d2, d3] }
  | _ => none }
def AggrBoundsWrongFalsely : Prop := aggrBoundsRow.holds Tryd.pinned (OpenSpec.ofChange aggrBoundsWrong)

/-- 'cellarerlaw15.AggrMore': WHATEVER THE INPUT: true; the input reads as it did. -/
def aggrMoreSpec : ChangeSpec := { name := "aggrMore", fn := fun _ => fun
  | [d1, d2, d3, d4] => { results := [.lit (.bool true)], args := [d1, d2, d3, d4] }
  | _ => none }
def aggrMoreRow : OpenClaim := { program := "ytifbbikhjolnjaadoor", sum := "f1bd6b890d20aa263c6da4ef5de8c5e6d9b518c0bfe14914c67fdfcf91a18cce", func := "cellarer/cellarerlaw15.AggrMore", spec := "aggrMore", inPlace := ["internal/bytealg.MakeNoZero"], named := ["cellarer/crc.steps"], apart := false, laid := [("cellarer/crc.steps", laid_cellarer_crc_steps)] }
def AggrMoreSaid : Prop := aggrMoreRow.holds Tryd.pinned (OpenSpec.ofChange aggrMoreSpec)

/-- ITS FALSE NEIGHBOUR: 'it returns false'. Refute it at one input. -/
def aggrMoreWrong : ChangeSpec := { name := "aggrMore", fn := fun _ => fun
  | [d1, d2, d3, d4] => { results := [.lit (.bool false)], args := [d1, d2, d3, d4] }
  | _ => none }
def AggrMoreWrongFalsely : Prop := aggrMoreRow.holds Tryd.pinned (OpenSpec.ofChange aggrMoreWrong)

/- THE SECOND FORM. 'bulk': how many values and letters a reading holds, each counted each time it is reached (what is shared counts as often as it is met; a slice's spare places count too). A statement '..UptoSaid' is the law's where the arguments, and the package variables that the reading takes, are together of bulk at most 1048576: NARROWER than '..Said'. Prove '..Said' where nothing that the law and all that it calls make is longer than what came in: it says more and counts as full. Else prove '..UptoSaid'. A law counts once. -/
mutual
def uptoBulk {H : Type} : DataW H → Nat
  | .lit (.string bytes) => bytes.length + 1
  | .lit _ => 1
  | .nil => 1
  | .ptr d => uptoBulk d + 1
  | .slice elems spare => uptoBulkAll elems + uptoBulkAll spare + 1
  | .agg parts => uptoBulkAll parts + 1
  | .iface _ d => uptoBulk d + 1
  | .map entries => uptoBulkEntries entries + 1
  | .held _ => 1
def uptoBulkAll {H : Type} : List (DataW H) → Nat
  | [] => 0
  | d :: r => uptoBulk d + uptoBulkAll r
def uptoBulkEntries {H : Type} : List (Lit × DataW H) → Nat
  | [] => 0
  | x :: r => uptoBulkEntry x + uptoBulkEntries r
def uptoBulkEntry {H : Type} : Lit × DataW H → Nat
  | (.string bytes, d) => bytes.length + uptoBulk d + 1
  | (_, d) => uptoBulk d + 1
 end
def uptoSmall : (H : Type) → List (DataW H) → Bool := fun _ ds => decide (uptoBulkAll ds ≤ 1048576)
def OpenSpec.upto (s : _root_.Go.ChangeSpec) : _root_.Go.OpenSpec := { _root_.Go.OpenSpec.ofChange s with cond := some uptoSmall }

/-- 'cellarerlaw15.AggrExact', WHERE WHAT IT READS IS OF BULK AT MOST 1048576: true; the input reads as it did. -/
def aggrExactUptoRow : OpenClaim := { program := "ytifbbikhjolnjaadoor", sum := "f1bd6b890d20aa263c6da4ef5de8c5e6d9b518c0bfe14914c67fdfcf91a18cce", func := "cellarer/cellarerlaw15.AggrExact", spec := "aggrExact", inPlace := ["internal/bytealg.MakeNoZero"], named := ["cellarer/crc.steps"], apart := false, laid := [("cellarer/crc.steps", laid_cellarer_crc_steps)], narrowed := true }
def AggrExactUptoSaid : Prop := aggrExactUptoRow.holds Tryd.pinned (OpenSpec.upto aggrExactSpec)

/-- 'cellarerlaw15.AggrCut', WHERE WHAT IT READS IS OF BULK AT MOST 1048576: true; the input reads as it did. -/
def aggrCutUptoRow : OpenClaim := { program := "ytifbbikhjolnjaadoor", sum := "f1bd6b890d20aa263c6da4ef5de8c5e6d9b518c0bfe14914c67fdfcf91a18cce", func := "cellarer/cellarerlaw15.AggrCut", spec := "aggrCut", inPlace := ["internal/bytealg.MakeNoZero"], named := ["cellarer/crc.steps"], apart := false, laid := [("cellarer/crc.steps", laid_cellarer_crc_steps)], narrowed := true }
def AggrCutUptoSaid : Prop := aggrCutUptoRow.holds Tryd.pinned (OpenSpec.upto aggrCutSpec)

/-- 'cellarerlaw15.AggrSizes', WHERE WHAT IT READS IS OF BULK AT MOST 1048576: true; the input reads as it did. -/
def aggrSizesUptoRow : OpenClaim := { program := "ytifbbikhjolnjaadoor", sum := "f1bd6b890d20aa263c6da4ef5de8c5e6d9b518c0bfe14914c67fdfcf91a18cce", func := "cellarer/cellarerlaw15.AggrSizes", spec := "aggrSizes", inPlace := ["internal/bytealg.MakeNoZero"], named := ["cellarer/crc.steps"], apart := false, laid := [("cellarer/crc.steps", laid_cellarer_crc_steps)], narrowed := true }
def AggrSizesUptoSaid : Prop := aggrSizesUptoRow.holds Tryd.pinned (OpenSpec.upto aggrSizesSpec)

/-- 'cellarerlaw15.AggrBounds', WHERE WHAT IT READS IS OF BULK AT MOST 1048576: true; the input reads as it did. -/
def aggrBoundsUptoRow : OpenClaim := { program := "ytifbbikhjolnjaadoor", sum := "f1bd6b890d20aa263c6da4ef5de8c5e6d9b518c0bfe14914c67fdfcf91a18cce", func := "cellarer/cellarerlaw15.AggrBounds", spec := "aggrBounds", inPlace := ["internal/bytealg.MakeNoZero"], named := ["cellarer/crc.steps"], apart := false, laid := [("cellarer/crc.steps", laid_cellarer_crc_steps)], narrowed := true }
def AggrBoundsUptoSaid : Prop := aggrBoundsUptoRow.holds Tryd.pinned (OpenSpec.upto aggrBoundsSpec)

/-- 'cellarerlaw15.AggrMore', WHERE WHAT IT READS IS OF BULK AT MOST 1048576: true; the input reads as it did. -/
def aggrMoreUptoRow : OpenClaim := { program := "ytifbbikhjolnjaadoor", sum := "f1bd6b890d20aa263c6da4ef5de8c5e6d9b518c0bfe14914c67fdfcf91a18cce", func := "cellarer/cellarerlaw15.AggrMore", spec := "aggrMore", inPlace := ["internal/bytealg.MakeNoZero"], named := ["cellarer/crc.steps"], apart := false, laid := [("cellarer/crc.steps", laid_cellarer_crc_steps)], narrowed := true }
def AggrMoreUptoSaid : Prop := aggrMoreUptoRow.holds Tryd.pinned (OpenSpec.upto aggrMoreSpec)

end Rows
end Go.Proofs.YtifbbikhjolnjaaDoor
