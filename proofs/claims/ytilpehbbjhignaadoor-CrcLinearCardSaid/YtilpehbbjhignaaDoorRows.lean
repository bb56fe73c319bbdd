/-
  NARROWER THAN 'FOR EVERY INPUT', by the rows' own cells (each row's printed sentence says how): CrcExact: laid · CrcParts: laid · CrcUnlike: laid · CrcLinear: laid · CrcBytes: laid.
  DERIVED. THE GIVEN ROWS OF THIS SEAT. 5 by the template 'for every input the law returns true; each argument reads behind the call as it read before'; 0 by the template 'total and deterministic' (their statements: YtilpehbbjhignaaDoorTotals.lean).
  GIVEN WITH THE SEED: the statements are not yours to turn. If you find one false, say at which input.
  Laid BY PROGRAM, IN A SANDBOX (cutbox-rows.mjs): the forced cells as the released guide's own fill.sh prints them over the translation a8f4fa331fbb127f… (all of the seat's roots in one cut). By AI agents, Wed Nov 11 2026. No macro, syntax, notation, axiom, sorry.
-/
import Derived.Test.YtilpehbbjhignaaDoorChecked
import GoSem.Claim
import GoSem.ClaimJoined
import GoSem.ClaimMapViews
import Derived.JoinedTies
import Derived.KernelRfl
namespace Go.Proofs.YtilpehbbjhignaaDoor
/- THE CELL 'sum', in the pinned program and in every row, IS THE sha256 OF THE DUMP (.gsa) THAT YtilpehbbjhignaaDoorProg.lean LOADS. Nothing in Lean hashes anything: it is a label: what it is worth is what the hold of that sum in a sandbox is worth. -/
noncomputable def Tryd.pinned : Pinned := { name := "ytilpehbbjhignaadoor", sum := "a8f4fa331fbb127ff48aaf6941198e90e4f8097515ba7308f59995027b9aed16", checked := Tryd.checked }
namespace Rows
def none {H : Type} : Left H := { results := [], args := [] }

/- WHAT THE LISTED PACKAGE-LEVEL VARIABLES READ AS WHEN THE CALL BEGINS. Each datum BY PROGRAM (the guide's laid-datum.mjs) off the statement by which the dump's own 'gosem.cut.vars' lays the variable. In a bare row this is a premise. The card (YtilpehbbjhignaaDoorCards.lean) ties it to the program's text. -/
def laid_cellarer_crc_steps {H : Type} : DataW H := .agg [.lit (.int .u32 0), .lit (.int .u32 498536548), .lit (.int .u32 997073096), .lit (.int .u32 651767980), .lit (.int .u32 1994146192), .lit (.int .u32 1802195444), .lit (.int .u32 1303535960), .lit (.int .u32 1342533948), .lit (.int .u32 3988292384), .lit (.int .u32 4027552580), .lit (.int .u32 3604390888), .lit (.int .u32 3412177804), .lit (.int .u32 2607071920), .lit (.int .u32 2262029012), .lit (.int .u32 2685067896), .lit (.int .u32 3183342108)]

/-- 'cellarerlaw02.CrcExact': WHATEVER THE INPUT: true; the input reads as it did. -/
def crcExactSpec : ChangeSpec := { name := "crcExact", fn := fun _ => fun
  | [d] => { results := [.lit (.bool true)], args := [d] }
  | _ => none }
def crcExactRow : OpenClaim := { program := "ytilpehbbjhignaadoor", sum := "a8f4fa331fbb127ff48aaf6941198e90e4f8097515ba7308f59995027b9aed16", func := "cellarer/cellarerlaw02.CrcExact", spec := "crcExact", named := ["cellarer/crc.steps"], apart := false, laid := [("cellarer/crc.steps", laid_cellarer_crc_steps)] }
def CrcExactSaid : Prop := crcExactRow.holds Tryd.pinned (OpenSpec.ofChange crcExactSpec)

/-- ITS FALSE NEIGHBOUR: 'it returns false'. Refute it at one input. -/
def crcExactWrong : ChangeSpec := { name := "crcExact", fn := fun _ => fun
  | [d] => { results := [.lit (.bool false)], args := [d] }
  | _ => none }
def CrcExactWrongFalsely : Prop := crcExactRow.holds Tryd.pinned (OpenSpec.ofChange crcExactWrong)

/-- 'cellarerlaw02.CrcParts': WHATEVER THE INPUT: true; the input reads as it did. -/
def crcPartsSpec : ChangeSpec := { name := "crcParts", fn := fun _ => fun
  | [d1, d2] => { results := [.lit (.bool true)], args := [d1, d2] }
  | _ => none }
def crcPartsRow : OpenClaim := { program := "ytilpehbbjhignaadoor", sum := "a8f4fa331fbb127ff48aaf6941198e90e4f8097515ba7308f59995027b9aed16", func := "cellarer/cellarerlaw02.CrcParts", spec := "crcParts", named := ["cellarer/crc.steps"], apart := false, laid := [("cellarer/crc.steps", laid_cellarer_crc_steps)] }
def CrcPartsSaid : Prop := crcPartsRow.holds Tryd.pinned (OpenSpec.ofChange crcPartsSpec)

/-- ITS FALSE NEIGHBOUR: 'it returns false'. Refute it at one input. -/
def crcPartsWrong : ChangeSpec := { name := "crcParts", fn := fun _ => fun
  | [d1, d2] => { results := [.lit (.bool false)], args := [d1, d2] }
  | _ => none }
def CrcPartsWrongFalsely : Prop := crcPartsRow.holds Tryd.pinned (OpenSpec.ofChange crcPartsWrong)

/-- 'cellarerlaw02.CrcUnlike': WHATEVER THE INPUT: true; the input reads as it did. -/
def crcUnlikeSpec : ChangeSpec := { name := "crcUnlike", fn := fun _ => fun
  | [d1, d2, d3] => { results := [.lit (.bool true)], args := [d1, d2, d3] }
  | _ => none }
def crcUnlikeRow : OpenClaim := { program := "ytilpehbbjhignaadoor", sum := "a8f4fa331fbb127ff48aaf6941198e90e4f8097515ba7308f59995027b9aed16", func := "cellarer/cellarerlaw02.CrcUnlike", spec := "crcUnlike", named := ["cellarer/crc.steps"], apart := false, laid := [("cellarer/crc.steps", laid_cellarer_crc_steps)] }
def CrcUnlikeSaid : Prop := crcUnlikeRow.holds Tryd.pinned (OpenSpec.ofChange crcUnlikeSpec)

/-- ITS FALSE NEIGHBOUR: 'it returns false'. Refute it at one input. -/
def crcUnlikeWrong : ChangeSpec := { name := "crcUnlike", fn := fun _ => fun
  | [d1, d2, d3] => { results := [.lit (.bool false)], args := [d1, d2, d3] }
  | _ => none }
def CrcUnlikeWrongFalsely : Prop := crcUnlikeRow.holds Tryd.pinned (OpenSpec.ofChange crcUnlikeWrong)

/-- 'cellarerlaw02.CrcLinear': WHATEVER THE INPUT: true; the input reads as it did. -/
def crcLinearSpec : ChangeSpec := { name := "crcLinear", fn := fun _ => fun
  | [d1, d2, d3] => { results := [.lit (.bool true)], args := [d1, d2, d3] }
  | _ => none }
def crcLinearRow : OpenClaim := { program := "ytilpehbbjhignaadoor", sum := "a8f4fa331fbb127ff48aaf6941198e90e4f8097515ba7308f59995027b9aed16", func := "cellarer/cellarerlaw02.CrcLinear", spec := "crcLinear", named := ["cellarer/crc.steps"], apart := false, laid := [("cellarer/crc.steps", laid_cellarer_crc_steps)] }
def CrcLinearSaid : Prop := crcLinearRow.holds Tryd.pinned (OpenSpec.ofChange crcLinearSpec)

/-- ITS FALSE NEIGHBOUR: 'it returns false'. Refute it at one input. -/
def crcLinearWrong : ChangeSpec := { name := "crcLinear", fn := fun _ => fun
  | [d1, d2, d3] => { results := [.lit (.bool false)], args := [d1, d2, d3] }
  | _ => none }
def CrcLinearWrongFalsely : Prop := crcLinearRow.holds Tryd.pinned (OpenSpec.ofChange crcLinearWrong)

/-- 'cellarerlaw02.CrcBytes': WHATEVER THE INPUT: true; the input reads as it did. -/
def crcBytesSpec : ChangeSpec := { name := "crcBytes", fn := fun _ => fun
  | [d] => { results := [.lit (.bool true)], args := [d] }
  | _ => none }
def crcBytesRow : OpenClaim := { program := "ytilpehbbjhignaadoor", sum := "a8f4fa331fbb127ff48aaf6941198e90e4f8097515ba7308f59995027b9aed16", func := "cellarer/cellarerlaw02.CrcBytes", spec := "crcBytes", named := ["cellarer/crc.steps"], apart := false, laid := [("cellarer/crc.steps", laid_cellarer_crc_steps)] }
def CrcBytesSaid : Prop := crcBytesRow.holds Tryd.pinned (OpenSpec.ofChange crcBytesSpec)

/-- ITS FALSE NEIGHBOUR: 'it returns false'. Refute it at one input. -/
def crcBytesWrong : ChangeSpec := { name := "crcBytes", fn := fun _ => fun
  | [d] => { results := [.lit (.bool false)], args := [d] }
  | _ => none }
def CrcBytesWrongFalsely : Prop := crcBytesRow.holds Tryd.pinned (OpenSpec.ofChange crcBytesWrong)

/- THE SECOND FORM. 'bulk': how many values and letters a reading holds, each counted each time it is reached (what is shared counts as often as it is met; a slice's spare places count too). A statement '..UptoSaid' is the law's where the arguments, and the package variables that the reading takes, are together of bulk at most 1048576: NARROWER than '..Said'. Prove '..Said' where nothing that the law and all that it calls make is longer than what came in: it says more and counts as full. Else prove '..UptoSaid'. A law counts once. -/
mutual
def uptoBulk {H : Type} : DataW H → Nat
  | .lit (.string bytes) => bytes.length + 1
  | .lit _ => 1
  | .nil => 1
  | .ptr d => uptoBulk d + 1
  | .slice elems spare => uptoBulkAll elems + uptoBulkAll spare + 1
  | .agg parts => uptoBulkAll parts + 1
  | .iface _ d => uptoBulk d + 1
  | .map entries => uptoBulkEntries entries + 1
  | .held _ => 1
def uptoBulkAll {H : Type} : List (DataW H) → Nat
  | [] => 0
  | d :: r => uptoBulk d + uptoBulkAll r
def uptoBulkEntries {H : Type} : List (Lit × DataW H) → Nat
  | [] => 0
  | x :: r => uptoBulkEntry x + uptoBulkEntries r
def uptoBulkEntry {H : Type} : Lit × DataW H → Nat
  | (.string bytes, d) => bytes.length + uptoBulk d + 1
  | (_, d) => uptoBulk d + 1
 end
def uptoSmall : (H : Type) → List (DataW H) → Bool := fun _ ds => decide (uptoBulkAll ds ≤ 1048576)
def OpenSpec.upto (s : _root_.Go.ChangeSpec) : _root_.Go.OpenSpec := { _root_.Go.OpenSpec.ofChange s with cond := some uptoSmall }

/-- 'cellarerlaw02.CrcExact', WHERE WHAT IT READS IS OF BULK AT MOST 1048576: true; the input reads as it did. -/
def crcExactUptoRow : OpenClaim := { program := "ytilpehbbjhignaadoor", sum := "a8f4fa331fbb127ff48aaf6941198e90e4f8097515ba7308f59995027b9aed16", func := "cellarer/cellarerlaw02.CrcExact", spec := "crcExact", named := ["cellarer/crc.steps"], apart := false, laid := [("cellarer/crc.steps", laid_cellarer_crc_steps)], narrowed := true }
def CrcExactUptoSaid : Prop := crcExactUptoRow.holds Tryd.pinned (OpenSpec.upto crcExactSpec)

/-- 'cellarerlaw02.CrcParts', WHERE WHAT IT READS IS OF BULK AT MOST 1048576: true; the input reads as it did. -/
def crcPartsUptoRow : OpenClaim := { program := "ytilpehbbjhignaadoor", sum := "a8f4fa331fbb127ff48aaf6941198e90e4f8097515ba7308f59995027b9aed16", func := "cellarer/cellarerlaw02.CrcParts", spec := "crcParts", named := ["cellarer/crc.steps"], apart := false, laid := [("cellarer/crc.steps", laid_cellarer_crc_steps)], narrowed := true }
def CrcPartsUptoSaid : Prop := crcPartsUptoRow.holds Tryd.pinned (OpenSpec.upto crcPartsSpec)

/-- 'cellarerlaw02.CrcUnlike', WHERE WHAT IT READS IS OF BULK AT MOST 1048576: true; the input reads as it did. -/
def crcUnlikeUptoRow : OpenClaim := { program := "ytilpehbbjhignaadoor", sum := "a8f4fa331fbb127ff48aaf6941198e90e4f8097515ba7308f59995027b9aed16", func := "cellarer/cellarerlaw02.CrcUnlike", spec := "crcUnlike", named := ["cellarer/crc.steps"], apart := false, laid := [("cellarer/crc.steps", laid_cellarer_crc_steps)], narrowed := true }
def CrcUnlikeUptoSaid : Prop := crcUnlikeUptoRow.holds Tryd.pinned (OpenSpec.upto crcUnlikeSpec)

/-- 'cellarerlaw02.CrcLinear', WHERE WHAT IT READS IS OF BULK AT MOST 1048576: true; the input reads as it did. -/
def crcLinearUptoRow : OpenClaim := { program := "ytilpehbbjhignaadoor", sum := "a8f4fa331fbb127ff48aaf6941198e90e4f8097515ba7308f59995027b9aed16", func := "cellarer/cellarerlaw02.CrcLinear", spec := "crcLinear", named := ["cellarer/crc.steps"], apart := false, laid := [("cellarer/crc.steps", laid_cellarer_crc_steps)], narrowed := true }
def CrcLinearUptoSaid : Prop := crcLinearUptoRow.holds Tryd.pinned (OpenSpec.upto crcLinearSpec)

/-- 'cellarerlaw02.CrcBytes', WHERE WHAT IT READS IS OF BULK AT MOST 1048576: true; the input reads as it did. -/
def crcBytesUptoRow : OpenClaim := { program := "ytilpehbbjhignaadoor", sum := "a8f4fa331fbb127ff48aaf6941198e90e4f8097515ba7308f59995027b9aed16", func := "cellarer/cellarerlaw02.CrcBytes", spec := "crcBytes", named := ["cellarer/crc.steps"], apart := false, laid := [("cellarer/crc.steps", laid_cellarer_crc_steps)], narrowed := true }
def CrcBytesUptoSaid : Prop := crcBytesUptoRow.holds Tryd.pinned (OpenSpec.upto crcBytesSpec)

end Rows
end Go.Proofs.YtilpehbbjhignaaDoor
