/-
  NARROWER THAN 'FOR EVERY INPUT', by the rows' own cells (each row's printed sentence says how): FrameExact: laid · FrameReads: laid · FrameBack: laid · FrameLong: laid · FrameCuts: laid · FrameParts: laid · FrameWalk: laid · LabelExact: laid · LabelReads: laid · LabelSpoilt: laid · LabelUnlike: laid.
  DERIVED. THE GIVEN ROWS OF THIS SEAT. 11 by the template 'for every input the law returns true; each argument reads behind the call as it read before'; 0 by the template 'total and deterministic' (their statements: YtmbkgjiofkggcaaDoorTotals.lean).
  GIVEN WITH THE SEED: the statements are not yours to turn. If you find one false, say at which input.
  Laid BY PROGRAM, IN A SANDBOX (cutbox-rows.mjs): the forced cells as the released guide's own fill.sh prints them over the translation 3a6bdbb6bc8789aa… (all of the seat's roots in one cut). By AI agents, Wed Nov 11 2026. No macro, syntax, notation, axiom, sorry.
-/
import Derived.Test.YtmbkgjiofkggcaaDoorChecked
import GoSem.Claim
import GoSem.ClaimJoined
import GoSem.ClaimMapViews
import Derived.JoinedTies
import Derived.KernelRfl
namespace Go.Proofs.YtmbkgjiofkggcaaDoor
/- THE CELL 'sum', in the pinned program and in every row, IS THE sha256 OF THE DUMP (.gsa) THAT YtmbkgjiofkggcaaDoorProg.lean LOADS. Nothing in Lean hashes anything: it is a label: what it is worth is what the hold of that sum in a sandbox is worth. -/
noncomputable def Tryd.pinned : Pinned := { name := "ytmbkgjiofkggcaadoor", sum := "3a6bdbb6bc8789aa68f387bc737c9bd73ef1efbda3d6c07e0b43af0a909944b8", checked := Tryd.checked }
namespace Rows
def none {H : Type} : Left H := { results := [], args := [] }

/- WHAT THE LISTED PACKAGE-LEVEL VARIABLES READ AS WHEN THE CALL BEGINS. Each datum BY PROGRAM (the guide's laid-datum.mjs) off the statement by which the dump's own 'gosem.cut.vars' lays the variable. In a bare row this is a premise. The card (YtmbkgjiofkggcaaDoorCards.lean) ties it to the program's text. -/
def laid_cellarer_crc_steps {H : Type} : DataW H := .agg [.lit (.int .u32 0), .lit (.int .u32 498536548), .lit (.int .u32 997073096), .lit (.int .u32 651767980), .lit (.int .u32 1994146192), .lit (.int .u32 1802195444), .lit (.int .u32 1303535960), .lit (.int .u32 1342533948), .lit (.int .u32 3988292384), .lit (.int .u32 4027552580), .lit (.int .u32 3604390888), .lit (.int .u32 3412177804), .lit (.int .u32 2607071920), .lit (.int .u32 2262029012), .lit (.int .u32 2685067896), .lit (.int .u32 3183342108)]

/-- 'cellarerlaw06.FrameExact': WHATEVER THE INPUT: true; the input reads as it did. -/
def frameExactSpec : ChangeSpec := { name := "frameExact", fn := fun _ => fun
  | [d] => { results := [.lit (.bool true)], args := [d] }
  | _ => none }
def frameExactRow : OpenClaim := { program := "ytmbkgjiofkggcaadoor", sum := "3a6bdbb6bc8789aa68f387bc737c9bd73ef1efbda3d6c07e0b43af0a909944b8", func := "cellarer/cellarerlaw06.FrameExact", spec := "frameExact", named := ["cellarer/crc.steps"], apart := false, laid := [("cellarer/crc.steps", laid_cellarer_crc_steps)] }
def FrameExactSaid : Prop := frameExactRow.holds Tryd.pinned (OpenSpec.ofChange frameExactSpec)

/-- ITS FALSE NEIGHBOUR: 'it returns false'. Refute it at one input. -/
def frameExactWrong : ChangeSpec := { name := "frameExact", fn := fun _ => fun
  | [d] => { results := [.lit (.bool false)], args := [d] }
  | _ => none }
def FrameExactWrongFalsely : Prop := frameExactRow.holds Tryd.pinned (OpenSpec.ofChange frameExactWrong)

/-- 'cellarerlaw06.FrameReads': WHATEVER THE INPUT: true; the input reads as it did. -/
def frameReadsSpec : ChangeSpec := { name := "frameReads", fn := fun _ => fun
  | [d1, d2] => { results := [.lit (.bool true)], args := [d1, d2] }
  | _ => none }
def frameReadsRow : OpenClaim := { program := "ytmbkgjiofkggcaadoor", sum := "3a6bdbb6bc8789aa68f387bc737c9bd73ef1efbda3d6c07e0b43af0a909944b8", func := "cellarer/cellarerlaw06.FrameReads", spec := "frameReads", named := ["cellarer/crc.steps"], apart := false, laid := [("cellarer/crc.steps", laid_cellarer_crc_steps)] }
def FrameReadsSaid : Prop := frameReadsRow.holds Tryd.pinned (OpenSpec.ofChange frameReadsSpec)

/-- ITS FALSE NEIGHBOUR: 'it returns false'. Refute it at one input. -/
def frameReadsWrong : ChangeSpec := { name := "frameReads", fn := fun _ => fun
  | [d1, d2] => { results := [.lit (.bool false)], args := [d1, d2] }
  | _ => none }
def FrameReadsWrongFalsely : Prop := frameReadsRow.holds Tryd.pinned (OpenSpec.ofChange frameReadsWrong)

/-- 'cellarerlaw06.FrameBack': WHATEVER THE INPUT: true; the input reads as it did. -/
def frameBackSpec : ChangeSpec := { name := "frameBack", fn := fun _ => fun
  | [d1, d2, d3, d4] => { results := [.lit (.bool true)], args := [d1, d2, d3, d4] }
  | _ => none }
def frameBackRow : OpenClaim := { program := "ytmbkgjiofkggcaadoor", sum := "3a6bdbb6bc8789aa68f387bc737c9bd73ef1efbda3d6c07e0b43af0a909944b8", func := "cellarer/cellarerlaw06.FrameBack", spec := "frameBack", named := ["cellarer/crc.steps"], apart := false, laid := [("cellarer/crc.steps", laid_cellarer_crc_steps)] }
def FrameBackSaid : Prop := frameBackRow.holds Tryd.pinned (OpenSpec.ofChange frameBackSpec)

/-- ITS FALSE NEIGHBOUR: 'it returns false'. Refute it at one input. -/
def frameBackWrong : ChangeSpec := { name := "frameBack", fn := fun _ => fun
  | [d1, d2, d3, d4] => { results := [.lit (.bool false)], args := [d1, d2, d3, d4] }
  | _ => none }
def FrameBackWrongFalsely : Prop := frameBackRow.holds Tryd.pinned (OpenSpec.ofChange frameBackWrong)

/-- 'cellarerlaw06.FrameLong': WHATEVER THE INPUT: true; the input reads as it did. -/
def frameLongSpec : ChangeSpec := { name := "frameLong", fn := fun _ => fun
  | [d] => { results := [.lit (.bool true)], args := [d] }
  | _ => none }
def frameLongRow : OpenClaim := { program := "ytmbkgjiofkggcaadoor", sum := "3a6bdbb6bc8789aa68f387bc737c9bd73ef1efbda3d6c07e0b43af0a909944b8", func := "cellarer/cellarerlaw06.FrameLong", spec := "frameLong", named := ["cellarer/crc.steps"], apart := false, laid := [("cellarer/crc.steps", laid_cellarer_crc_steps)] }
def FrameLongSaid : Prop := frameLongRow.holds Tryd.pinned (OpenSpec.ofChange frameLongSpec)

/-- ITS FALSE NEIGHBOUR: 'it returns false'. Refute it at one input. -/
def frameLongWrong : ChangeSpec := { name := "frameLong", fn := fun _ => fun
  | [d] => { results := [.lit (.bool false)], args := [d] }
  | _ => none }
def FrameLongWrongFalsely : Prop := frameLongRow.holds Tryd.pinned (OpenSpec.ofChange frameLongWrong)

/-- 'cellarerlaw06.FrameCuts': WHATEVER THE INPUT: true; the input reads as it did. -/
def frameCutsSpec : ChangeSpec := { name := "frameCuts", fn := fun _ => fun
  | [d1, d2] => { results := [.lit (.bool true)], args := [d1, d2] }
  | _ => none }
def frameCutsRow : OpenClaim := { program := "ytmbkgjiofkggcaadoor", sum := "3a6bdbb6bc8789aa68f387bc737c9bd73ef1efbda3d6c07e0b43af0a909944b8", func := "cellarer/cellarerlaw06.FrameCuts", spec := "frameCuts", named := ["cellarer/crc.steps"], apart := false, laid := [("cellarer/crc.steps", laid_cellarer_crc_steps)] }
def FrameCutsSaid : Prop := frameCutsRow.holds Tryd.pinned (OpenSpec.ofChange frameCutsSpec)

/-- ITS FALSE NEIGHBOUR: 'it returns false'. Refute it at one input. -/
def frameCutsWrong : ChangeSpec := { name := "frameCuts", fn := fun _ => fun
  | [d1, d2] => { results := [.lit (.bool false)], args := [d1, d2] }
  | _ => none }
def FrameCutsWrongFalsely : Prop := frameCutsRow.holds Tryd.pinned (OpenSpec.ofChange frameCutsWrong)

/-- 'cellarerlaw06.FrameParts': WHATEVER THE INPUT: true; the input reads as it did. -/
def framePartsSpec : ChangeSpec := { name := "frameParts", fn := fun _ => fun
  | [d1, d2] => { results := [.lit (.bool true)], args := [d1, d2] }
  | _ => none }
def framePartsRow : OpenClaim := { program := "ytmbkgjiofkggcaadoor", sum := "3a6bdbb6bc8789aa68f387bc737c9bd73ef1efbda3d6c07e0b43af0a909944b8", func := "cellarer/cellarerlaw06.FrameParts", spec := "frameParts", named := ["cellarer/crc.steps"], apart := false, laid := [("cellarer/crc.steps", laid_cellarer_crc_steps)] }
def FramePartsSaid : Prop := framePartsRow.holds Tryd.pinned (OpenSpec.ofChange framePartsSpec)

/-- ITS FALSE NEIGHBOUR: 'it returns false'. Refute it at one input. -/
def framePartsWrong : ChangeSpec := { name := "frameParts", fn := fun _ => fun
  | [d1, d2] => { results := [.lit (.bool false)], args := [d1, d2] }
  | _ => none }
def FramePartsWrongFalsely : Prop := framePartsRow.holds Tryd.pinned (OpenSpec.ofChange framePartsWrong)

/-- 'cellarerlaw06.FrameWalk': WHATEVER THE INPUT: true; the input reads as it did. -/
def frameWalkSpec : ChangeSpec := { name := "frameWalk", fn := fun _ => fun
  | [d] => { results := [.lit (.bool true)], args := [d] }
  | _ => none }
def frameWalkRow : OpenClaim := { program := "ytmbkgjiofkggcaadoor", sum := "3a6bdbb6bc8789aa68f387bc737c9bd73ef1efbda3d6c07e0b43af0a909944b8", func := "cellarer/cellarerlaw06.FrameWalk", spec := "frameWalk", named := ["cellarer/crc.steps"], apart := false, laid := [("cellarer/crc.steps", laid_cellarer_crc_steps)] }
def FrameWalkSaid : Prop := frameWalkRow.holds Tryd.pinned (OpenSpec.ofChange frameWalkSpec)

/-- ITS FALSE NEIGHBOUR: 'it returns false'. Refute it at one input. -/
def frameWalkWrong : ChangeSpec := { name := "frameWalk", fn := fun _ => fun
  | [d] => { results := [.lit (.bool false)], args := [d] }
  | _ => none }
def FrameWalkWrongFalsely : Prop := frameWalkRow.holds Tryd.pinned (OpenSpec.ofChange frameWalkWrong)

/-- 'cellarerlaw14.LabelExact': WHATEVER THE INPUT: true; the input reads as it did. -/
def labelExactSpec : ChangeSpec := { name := "labelExact", fn := fun _ => fun
  | [d] => { results := [.lit (.bool true)], args := [d] }
  | _ => none }
def labelExactRow : OpenClaim := { program := "ytmbkgjiofkggcaadoor", sum := "3a6bdbb6bc8789aa68f387bc737c9bd73ef1efbda3d6c07e0b43af0a909944b8", func := "cellarer/cellarerlaw14.LabelExact", spec := "labelExact", named := ["cellarer/crc.steps"], apart := false, laid := [("cellarer/crc.steps", laid_cellarer_crc_steps)] }
def LabelExactSaid : Prop := labelExactRow.holds Tryd.pinned (OpenSpec.ofChange labelExactSpec)

/-- ITS FALSE NEIGHBOUR: 'it returns false'. Refute it at one input. -/
def labelExactWrong : ChangeSpec := { name := "labelExact", fn := fun _ => fun
  | [d] => { results := [.lit (.bool false)], args := [d] }
  | _ => none }
def LabelExactWrongFalsely : Prop := labelExactRow.holds Tryd.pinned (OpenSpec.ofChange labelExactWrong)

/-- 'cellarerlaw14.LabelReads': WHATEVER THE INPUT: true; the input reads as it did. -/
def labelReadsSpec : ChangeSpec := { name := "labelReads", fn := fun _ => fun
  | [d] => { results := [.lit (.bool true)], args := [d] }
  | _ => none }
def labelReadsRow : OpenClaim := { program := "ytmbkgjiofkggcaadoor", sum := "3a6bdbb6bc8789aa68f387bc737c9bd73ef1efbda3d6c07e0b43af0a909944b8", func := "cellarer/cellarerlaw14.LabelReads", spec := "labelReads", named := ["cellarer/crc.steps"], apart := false, laid := [("cellarer/crc.steps", laid_cellarer_crc_steps)] }
def LabelReadsSaid : Prop := labelReadsRow.holds Tryd.pinned (OpenSpec.ofChange labelReadsSpec)

/-- ITS FALSE NEIGHBOUR: 'it returns false'. Refute it at one input. -/
def labelReadsWrong : ChangeSpec := { name := "labelReads", fn := fun _ => fun
  | [d] => { results := [.lit (.bool false)], args := [d] }
  | _ => none }
def LabelReadsWrongFalsely : Prop := labelReadsRow.holds Tryd.pinned (OpenSpec.ofChange labelReadsWrong)

/-- 'cellarerlaw14.LabelSpoilt': WHATEVER THE INPUT: true; the input reads as it did. -/
def labelSpoiltSpec : ChangeSpec := { name := "labelSpoilt", fn := fun _ => fun
  | [d1, d2, d3, d4] => { results := [.lit (.bool true)], args := [d1, d2, d3, d4] }
  | _ => none }
def labelSpoiltRow : OpenClaim := { program := "ytmbkgjiofkggcaadoor", sum := "3a6bdbb6bc8789aa68f387bc737c9bd73ef1efbda3d6c07e0b43af0a909944b8", func := "cellarer/cellarerlaw14.LabelSpoilt", spec := "labelSpoilt", named := ["cellarer/crc.steps"], apart := false, laid := [("cellarer/crc.steps", laid_cellarer_crc_steps)] }
def LabelSpoiltSaid : Prop := labelSpoiltRow.holds Tryd.pinned (OpenSpec.ofChange labelSpoiltSpec)

/-- ITS FALSE NEIGHBOUR: 'it returns false'. Refute it at one input. -/
def labelSpoiltWrong : ChangeSpec := { name := "labelSpoilt", fn := fun _ => fun
  | [d1, d2, d3, d4] => { results := [.lit (.bool false)], args := [d1, d2, d3, d4] }
  | _ => none }
def LabelSpoiltWrongFalsely : Prop := labelSpoiltRow.holds Tryd.pinned (OpenSpec.ofChange labelSpoiltWrong)

/-- 'cellarerlaw14.LabelUnlike': WHATEVER THE INPUT: true; the input reads as it did. -/
def labelUnlikeSpec : ChangeSpec := { name := "labelUnlike", fn := fun _ => fun
  | [d1, d2] => { results := [.lit (.bool true)], args := [d1, d2] }
  | _ => none }
def labelUnlikeRow : OpenClaim := { program := "ytmbkgjiofkggcaadoor", sum := "3a6bdbb6bc8789aa68f387bc737c9bd73ef1efbda3d6c07e0b43af0a909944b8", func := "cellarer/cellarerlaw14.LabelUnlike", spec := "labelUnlike", named := ["cellarer/crc.steps"], apart := false, laid := [("cellarer/crc.steps", laid_cellarer_crc_steps)] }
def LabelUnlikeSaid : Prop := labelUnlikeRow.holds Tryd.pinned (OpenSpec.ofChange labelUnlikeSpec)

/-- ITS FALSE NEIGHBOUR: 'it returns false'. Refute it at one input. -/
def labelUnlikeWrong : ChangeSpec := { name := "labelUnlike", fn := fun _ => fun
  | [d1, d2] => { results := [.lit (.bool false)], args := [d1, d2] }
  | _ => none }
def LabelUnlikeWrongFalsely : Prop := labelUnlikeRow.holds Tryd.pinned (OpenSpec.ofChange labelUnlikeWrong)

/- THE SECOND FORM. 'bulk': how many values and letters a reading holds, each counted each time it is reached (what is shared counts as often as it is met; a slice's spare places count too). A statement '..UptoSaid' is the law's where the arguments, and the package variables that the reading takes, are together of bulk at most 1048576: NARROWER than '..Said'. Prove '..Said' where nothing that the law and all that it calls make is longer than what came in: it says more and counts as full. Else prove '..UptoSaid'. A law counts once. -/
mutual
def uptoBulk {H : Type} : DataW H → Nat
  | .lit (.string bytes) => bytes.length + 1
  | .lit _ => 1
  | .nil => 1
  | .ptr d => uptoBulk d + 1
  | .slice elems spare => uptoBulkAll elems + uptoBulkAll spare + 1
  | .agg parts => uptoBulkAll parts + 1
  | .iface _ d => uptoBulk d + 1
  | .map entries => uptoBulkEntries entries + 1
  | .held _ => 1
def uptoBulkAll {H : Type} : List (DataW H) → Nat
  | [] => 0
  | d :: r => uptoBulk d + uptoBulkAll r
def uptoBulkEntries {H : Type} : List (Lit × DataW H) → Nat
  | [] => 0
  | x :: r => uptoBulkEntry x + uptoBulkEntries r
def uptoBulkEntry {H : Type} : Lit × DataW H → Nat
  | (.string bytes, d) => bytes.length + uptoBulk d + 1
  | (_, d) => uptoBulk d + 1
 end
def uptoSmall : (H : Type) → List (DataW H) → Bool := fun _ ds => decide (uptoBulkAll ds ≤ 1048576)
def OpenSpec.upto (s : _root_.Go.ChangeSpec) : _root_.Go.OpenSpec := { _root_.Go.OpenSpec.ofChange s with cond := some uptoSmall }

/-- 'cellarerlaw06.FrameExact', WHERE WHAT IT READS IS OF BULK AT MOST 1048576: true; the input reads as it did. -/
def frameExactUptoRow : OpenClaim := { program := "ytmbkgjiofkggcaadoor", sum := "3a6bdbb6bc8789aa68f387bc737c9bd73ef1efbda3d6c07e0b43af0a909944b8", func := "cellarer/cellarerlaw06.FrameExact", spec := "frameExact", named := ["cellarer/crc.steps"], apart := false, laid := [("cellarer/crc.steps", laid_cellarer_crc_steps)], narrowed := true }
def FrameExactUptoSaid : Prop := frameExactUptoRow.holds Tryd.pinned (OpenSpec.upto frameExactSpec)

/-- 'cellarerlaw06.FrameReads', WHERE WHAT IT READS IS OF BULK AT MOST 1048576: true; the input reads as it did. -/
def frameReadsUptoRow : OpenClaim := { program := "ytmbkgjiofkggcaadoor", sum := "3a6bdbb6bc8789aa68f387bc737c9bd73ef1efbda3d6c07e0b43af0a909944b8", func := "cellarer/cellarerlaw06.FrameReads", spec := "frameReads", named := ["cellarer/crc.steps"], apart := false, laid := [("cellarer/crc.steps", laid_cellarer_crc_steps)], narrowed := true }
def FrameReadsUptoSaid : Prop := frameReadsUptoRow.holds Tryd.pinned (OpenSpec.upto frameReadsSpec)

/-- 'cellarerlaw06.FrameBack', WHERE WHAT IT READS IS OF BULK AT MOST 1048576: true; the input reads as it did. -/
def frameBackUptoRow : OpenClaim := { program := "ytmbkgjiofkggcaadoor", sum := "3a6bdbb6bc8789aa68f387bc737c9bd73ef1efbda3d6c07e0b43af0a909944b8", func := "cellarer/cellarerlaw06.FrameBack", spec := "frameBack", named := ["cellarer/crc.steps"], apart := false, laid := [("cellarer/crc.steps", laid_cellarer_crc_steps)], narrowed := true }
def FrameBackUptoSaid : Prop := frameBackUptoRow.holds Tryd.pinned (OpenSpec.upto frameBackSpec)

/-- 'cellarerlaw06.FrameLong', WHERE WHAT IT READS IS OF BULK AT MOST 1048576: true; the input reads as it did. -/
def frameLongUptoRow : OpenClaim := { program := "ytmbkgjiofkggcaadoor", sum := "3a6bdbb6bc8789aa68f387bc737c9bd73ef1efbda3d6c07e0b43af0a909944b8", func := "cellarer/cellarerlaw06.FrameLong", spec := "frameLong", named := ["cellarer/crc.steps"], apart := false, laid := [("cellarer/crc.steps", laid_cellarer_crc_steps)], narrowed := true }
def FrameLongUptoSaid : Prop := frameLongUptoRow.holds Tryd.pinned (OpenSpec.upto frameLongSpec)

/-- 'cellarerlaw06.FrameCuts', WHERE WHAT IT READS IS OF BULK AT MOST 1048576: true; the input reads as it did. -/
def frameCutsUptoRow : OpenClaim := { program := "ytmbkgjiofkggcaadoor", sum := "3a6bdbb6bc8789aa68f387bc737c9bd73ef1efbda3d6c07e0b43af0a909944b8", func := "cellarer/cellarerlaw06.FrameCuts", spec := "frameCuts", named := ["cellarer/crc.steps"], apart := false, laid := [("cellarer/crc.steps", laid_cellarer_crc_steps)], narrowed := true }
def FrameCutsUptoSaid : Prop := frameCutsUptoRow.holds Tryd.pinned (OpenSpec.upto frameCutsSpec)

/-- 'cellarerlaw06.FrameParts', WHERE WHAT IT READS IS OF BULK AT MOST 1048576: true; the input reads as it did. -/
def framePartsUptoRow : OpenClaim := { program := "ytmbkgjiofkggcaadoor", sum := "3a6bdbb6bc8789aa68f387bc737c9bd73ef1efbda3d6c07e0b43af0a909944b8", func := "cellarer/cellarerlaw06.FrameParts", spec := "frameParts", named := ["cellarer/crc.steps"], apart := false, laid := [("cellarer/crc.steps", laid_cellarer_crc_steps)], narrowed := true }
def FramePartsUptoSaid : Prop := framePartsUptoRow.holds Tryd.pinned (OpenSpec.upto framePartsSpec)

/-- 'cellarerlaw06.FrameWalk', WHERE WHAT IT READS IS OF BULK AT MOST 1048576: true; the input reads as it did. -/
def frameWalkUptoRow : OpenClaim := { program := "ytmbkgjiofkggcaadoor", sum := "3a6bdbb6bc8789aa68f387bc737c9bd73ef1efbda3d6c07e0b43af0a909944b8", func := "cellarer/cellarerlaw06.FrameWalk", spec := "frameWalk", named := ["cellarer/crc.steps"], apart := false, laid := [("cellarer/crc.steps", laid_cellarer_crc_steps)], narrowed := true }
def FrameWalkUptoSaid : Prop := frameWalkUptoRow.holds Tryd.pinned (OpenSpec.upto frameWalkSpec)

/-- 'cellarerlaw14.LabelExact', WHERE WHAT IT READS IS OF BULK AT MOST 1048576: true; the input reads as it did. -/
def labelExactUptoRow : OpenClaim := { program := "ytmbkgjiofkggcaadoor", sum := "3a6bdbb6bc8789aa68f387bc737c9bd73ef1efbda3d6c07e0b43af0a909944b8", func := "cellarer/cellarerlaw14.LabelExact", spec := "labelExact", named := ["cellarer/crc.steps"], apart := false, laid := [("cellarer/crc.steps", laid_cellarer_crc_steps)], narrowed := true }
def LabelExactUptoSaid : Prop := labelExactUptoRow.holds Tryd.pinned (OpenSpec.upto labelExactSpec)

/-- 'cellarerlaw14.LabelReads', WHERE WHAT IT READS IS OF BULK AT MOST 1048576: true; the input reads as it did. -/
def labelReadsUptoRow : OpenClaim := { program := "ytmbkgjiofkggcaadoor", sum := "3a6bdbb6bc8789aa68f387bc737c9bd73ef1efbda3d6c07e0b43af0a909944b8", func := "cellarer/cellarerlaw14.LabelReads", spec := "labelReads", named := ["cellarer/crc.steps"], apart := false, laid := [("cellarer/crc.steps", laid_cellarer_crc_steps)], narrowed := true }
def LabelReadsUptoSaid : Prop := labelReadsUptoRow.holds Tryd.pinned (OpenSpec.upto labelReadsSpec)

/-- 'cellarerlaw14.LabelSpoilt', WHERE WHAT IT READS IS OF BULK AT MOST 1048576: true; the input reads as it did. -/
def labelSpoiltUptoRow : OpenClaim := { program := "ytmbkgjiofkggcaadoor", sum := "3a6bdbb6bc8789aa68f387bc737c9bd73ef1efbda3d6c07e0b43af0a909944b8", func := "cellarer/cellarerlaw14.LabelSpoilt", spec := "labelSpoilt", named := ["cellarer/crc.steps"], apart := false, laid := [("cellarer/crc.steps", laid_cellarer_crc_steps)], narrowed := true }
def LabelSpoiltUptoSaid : Prop := labelSpoiltUptoRow.holds Tryd.pinned (OpenSpec.upto labelSpoiltSpec)

/-- 'cellarerlaw14.LabelUnlike', WHERE WHAT IT READS IS OF BULK AT MOST 1048576: true; the input reads as it did. -/
def labelUnlikeUptoRow : OpenClaim := { program := "ytmbkgjiofkggcaadoor", sum := "3a6bdbb6bc8789aa68f387bc737c9bd73ef1efbda3d6c07e0b43af0a909944b8", func := "cellarer/cellarerlaw14.LabelUnlike", spec := "labelUnlike", named := ["cellarer/crc.steps"], apart := false, laid := [("cellarer/crc.steps", laid_cellarer_crc_steps)], narrowed := true }
def LabelUnlikeUptoSaid : Prop := labelUnlikeUptoRow.holds Tryd.pinned (OpenSpec.upto labelUnlikeSpec)

end Rows
end Go.Proofs.YtmbkgjiofkggcaaDoor
