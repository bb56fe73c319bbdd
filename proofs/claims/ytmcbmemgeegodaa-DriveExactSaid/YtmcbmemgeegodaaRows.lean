/-
  No cell of these rows narrows 'for every input' (looked for: loops, veiled, ifaces, maps, wideKeys, modest, calm, conditions, laid).
  DERIVED. THE GIVEN ROWS OF THIS SEAT. 5 by the template 'for every input the law returns true; each argument reads behind the call as it read before'; 0 by the template 'total and deterministic' (their statements: YtmcbmemgeegodaaTotals.lean).
  GIVEN WITH THE SEED: the statements are not yours to turn. If you find one false, say at which input.
  Laid BY PROGRAM, IN A SANDBOX (cutbox-rows.mjs): the forced cells as the released guide's own fill.sh prints them over the translation 08958f4fee519fb3… (all of the seat's roots in one cut). By AI agents, Wed Nov 11 2026. No macro, syntax, notation, axiom, sorry.
-/
import Derived.Test.YtmcbmemgeegodaaChecked
import GoSem.Claim
import GoSem.ClaimJoined
import GoSem.ClaimMapViews
import Derived.JoinedTies
import Derived.KernelRfl
namespace Go.Proofs.Ytmcbmemgeegodaa
/- THE CELL 'sum', in the pinned program and in every row, IS THE sha256 OF THE DUMP (.gsa) THAT YtmcbmemgeegodaaProg.lean LOADS. Nothing in Lean hashes anything: it is a label: what it is worth is what the hold of that sum in a sandbox is worth. -/
noncomputable def Try.pinned : Pinned := { name := "ytmcbmemgeegodaa", sum := "08958f4fee519fb30012604a88543a6904fe02bc8f2d0308fd6f83f4c1a0f9d4", checked := Try.checked }
namespace Rows
def none {H : Type} : Left H := { results := [], args := [] }

/-- 'cellarerlaw12.DriveExact': WHATEVER THE INPUT: true; the input reads as it did. -/
def driveExactSpec : ChangeSpec := { name := "driveExact", fn := fun _ => fun
  | [d1, d2] => { results := [.lit (.bool true)], args := [d1, d2] }
  | _ => none }
def driveExactRow : OpenClaim := { program := "ytmcbmemgeegodaa", sum := "08958f4fee519fb30012604a88543a6904fe02bc8f2d0308fd6f83f4c1a0f9d4", func := "cellarer/cellarerlaw12.DriveExact", spec := "driveExact", apart := false }
def DriveExactSaid : Prop := driveExactRow.holds Try.pinned (OpenSpec.ofChange driveExactSpec)

/-- ITS FALSE NEIGHBOUR: 'it returns false'. Refute it at one input. -/
def driveExactWrong : ChangeSpec := { name := "driveExact", fn := fun _ => fun
  | [d1, d2] => { results := [.lit (.bool false)], args := [d1, d2] }
  | _ => none }
def DriveExactWrongFalsely : Prop := driveExactRow.holds Try.pinned (OpenSpec.ofChange driveExactWrong)

/-- 'cellarerlaw12.DriveTorn': WHATEVER THE INPUT: true; the input reads as it did. -/
def driveTornSpec : ChangeSpec := { name := "driveTorn", fn := fun _ => fun
  | [d1, d2, d3, d4, d5] => { results := [.lit (.bool true)], args := [d1, d2, d3, d4, d5] }
  | _ => none }
def driveTornRow : OpenClaim := { program := "ytmcbmemgeegodaa", sum := "08958f4fee519fb30012604a88543a6904fe02bc8f2d0308fd6f83f4c1a0f9d4", func := "cellarer/cellarerlaw12.DriveTorn", spec := "driveTorn", apart := false }
def DriveTornSaid : Prop := driveTornRow.holds Try.pinned (OpenSpec.ofChange driveTornSpec)

/-- ITS FALSE NEIGHBOUR: 'it returns false'. Refute it at one input. -/
def driveTornWrong : ChangeSpec := { name := "driveTorn", fn := fun _ => fun
  | [d1, d2, d3, d4, d5] => { results := [.lit (.bool false)], args := [d1, d2, d3, d4, d5] }
  | _ => none }
def DriveTornWrongFalsely : Prop := driveTornRow.holds Try.pinned (OpenSpec.ofChange driveTornWrong)

/-- 'cellarerlaw12.DriveMarks': WHATEVER THE INPUT: true; the input reads as it did. -/
def driveMarksSpec : ChangeSpec := { name := "driveMarks", fn := fun _ => fun
  | [d1, d2, d3] => { results := [.lit (.bool true)], args := [d1, d2, d3] }
  | _ => none }
def driveMarksRow : OpenClaim := { program := "ytmcbmemgeegodaa", sum := "08958f4fee519fb30012604a88543a6904fe02bc8f2d0308fd6f83f4c1a0f9d4", func := "cellarer/cellarerlaw12.DriveMarks", spec := "driveMarks", apart := false }
def DriveMarksSaid : Prop := driveMarksRow.holds Try.pinned (OpenSpec.ofChange driveMarksSpec)

/-- ITS FALSE NEIGHBOUR: 'it returns false'. Refute it at one input. -/
def driveMarksWrong : ChangeSpec := { name := "driveMarks", fn := fun _ => fun
  | [d1, d2, d3] => { results := [.lit (.bool false)], args := [d1, d2, d3] }
  | _ => none }
def DriveMarksWrongFalsely : Prop := driveMarksRow.holds Try.pinned (OpenSpec.ofChange driveMarksWrong)

/-- 'cellarerlaw12.DriveReads': WHATEVER THE INPUT: true; the input reads as it did. -/
def driveReadsSpec : ChangeSpec := { name := "driveReads", fn := fun _ => fun
  | [d1, d2, d3] => { results := [.lit (.bool true)], args := [d1, d2, d3] }
  | _ => none }
def driveReadsRow : OpenClaim := { program := "ytmcbmemgeegodaa", sum := "08958f4fee519fb30012604a88543a6904fe02bc8f2d0308fd6f83f4c1a0f9d4", func := "cellarer/cellarerlaw12.DriveReads", spec := "driveReads", apart := false }
def DriveReadsSaid : Prop := driveReadsRow.holds Try.pinned (OpenSpec.ofChange driveReadsSpec)

/-- ITS FALSE NEIGHBOUR: 'it returns false'. Refute it at one input. -/
def driveReadsWrong : ChangeSpec := { name := "driveReads", fn := fun _ => fun
  | [d1, d2, d3] => { results := [.lit (.bool false)], args := [d1, d2, d3] }
  | _ => none }
def DriveReadsWrongFalsely : Prop := driveReadsRow.holds Try.pinned (OpenSpec.ofChange driveReadsWrong)

/-- 'cellarerlaw12.DriveOver': WHATEVER THE INPUT: true; the input reads as it did. -/
def driveOverSpec : ChangeSpec := { name := "driveOver", fn := fun _ => fun
  | [d1, d2, d3] => { results := [.lit (.bool true)], args := [d1, d2, d3] }
  | _ => none }
def driveOverRow : OpenClaim := { program := "ytmcbmemgeegodaa", sum := "08958f4fee519fb30012604a88543a6904fe02bc8f2d0308fd6f83f4c1a0f9d4", func := "cellarer/cellarerlaw12.DriveOver", spec := "driveOver", apart := false }
def DriveOverSaid : Prop := driveOverRow.holds Try.pinned (OpenSpec.ofChange driveOverSpec)

/-- ITS FALSE NEIGHBOUR: 'it returns false'. Refute it at one input. -/
def driveOverWrong : ChangeSpec := { name := "driveOver", fn := fun _ => fun
  | [d1, d2, d3] => { results := [.lit (.bool false)], args := [d1, d2, d3] }
  | _ => none }
def DriveOverWrongFalsely : Prop := driveOverRow.holds Try.pinned (OpenSpec.ofChange driveOverWrong)

/- THE SECOND FORM. 'bulk': how many values and letters a reading holds, each counted each time it is reached (what is shared counts as often as it is met; a slice's spare places count too). A statement '..UptoSaid' is the law's where the arguments, and the package variables that the reading takes, are together of bulk at most 1048576: NARROWER than '..Said'. Prove '..Said' where nothing that the law and all that it calls make is longer than what came in: it says more and counts as full. Else prove '..UptoSaid'. A law counts once. -/
mutual
def uptoBulk {H : Type} : DataW H → Nat
  | .lit (.string bytes) => bytes.length + 1
  | .lit _ => 1
  | .nil => 1
  | .ptr d => uptoBulk d + 1
  | .slice elems spare => uptoBulkAll elems + uptoBulkAll spare + 1
  | .agg parts => uptoBulkAll parts + 1
  | .iface _ d => uptoBulk d + 1
  | .map entries => uptoBulkEntries entries + 1
  | .held _ => 1
def uptoBulkAll {H : Type} : List (DataW H) → Nat
  | [] => 0
  | d :: r => uptoBulk d + uptoBulkAll r
def uptoBulkEntries {H : Type} : List (Lit × DataW H) → Nat
  | [] => 0
  | x :: r => uptoBulkEntry x + uptoBulkEntries r
def uptoBulkEntry {H : Type} : Lit × DataW H → Nat
  | (.string bytes, d) => bytes.length + uptoBulk d + 1
  | (_, d) => uptoBulk d + 1
 end
def uptoSmall : (H : Type) → List (DataW H) → Bool := fun _ ds => decide (uptoBulkAll ds ≤ 1048576)
def OpenSpec.upto (s : _root_.Go.ChangeSpec) : _root_.Go.OpenSpec := { _root_.Go.OpenSpec.ofChange s with cond := some uptoSmall }

/-- 'cellarerlaw12.DriveExact', WHERE WHAT IT READS IS OF BULK AT MOST 1048576: true; the input reads as it did. -/
def driveExactUptoRow : OpenClaim := { program := "ytmcbmemgeegodaa", sum := "08958f4fee519fb30012604a88543a6904fe02bc8f2d0308fd6f83f4c1a0f9d4", func := "cellarer/cellarerlaw12.DriveExact", spec := "driveExact", apart := false, narrowed := true }
def DriveExactUptoSaid : Prop := driveExactUptoRow.holds Try.pinned (OpenSpec.upto driveExactSpec)

/-- 'cellarerlaw12.DriveTorn', WHERE WHAT IT READS IS OF BULK AT MOST 1048576: true; the input reads as it did. -/
def driveTornUptoRow : OpenClaim := { program := "ytmcbmemgeegodaa", sum := "08958f4fee519fb30012604a88543a6904fe02bc8f2d0308fd6f83f4c1a0f9d4", func := "cellarer/cellarerlaw12.DriveTorn", spec := "driveTorn", apart := false, narrowed := true }
def DriveTornUptoSaid : Prop := driveTornUptoRow.holds Try.pinned (OpenSpec.upto driveTornSpec)

/-- 'cellarerlaw12.DriveMarks', WHERE WHAT IT READS IS OF BULK AT MOST 1048576: true; the input reads as it did. -/
def driveMarksUptoRow : OpenClaim := { program := "ytmcbmemgeegodaa", sum := "08958f4fee519fb30012604a88543a6904fe02bc8f2d0308fd6f83f4c1a0f9d4", func := "cellarer/cellarerlaw12.DriveMarks", spec := "driveMarks", apart := false, narrowed := true }
def DriveMarksUptoSaid : Prop := driveMarksUptoRow.holds Try.pinned (OpenSpec.upto driveMarksSpec)

/-- 'cellarerlaw12.DriveReads', WHERE WHAT IT READS IS OF BULK AT MOST 1048576: true; the input reads as it did. -/
def driveReadsUptoRow : OpenClaim := { program := "ytmcbmemgeegodaa", sum := "08958f4fee519fb30012604a88543a6904fe02bc8f2d0308fd6f83f4c1a0f9d4", func := "cellarer/cellarerlaw12.DriveReads", spec := "driveReads", apart := false, narrowed := true }
def DriveReadsUptoSaid : Prop := driveReadsUptoRow.holds Try.pinned (OpenSpec.upto driveReadsSpec)

/-- 'cellarerlaw12.DriveOver', WHERE WHAT IT READS IS OF BULK AT MOST 1048576: true; the input reads as it did. -/
def driveOverUptoRow : OpenClaim := { program := "ytmcbmemgeegodaa", sum := "08958f4fee519fb30012604a88543a6904fe02bc8f2d0308fd6f83f4c1a0f9d4", func := "cellarer/cellarerlaw12.DriveOver", spec := "driveOver", apart := false, narrowed := true }
def DriveOverUptoSaid : Prop := driveOverUptoRow.holds Try.pinned (OpenSpec.upto driveOverSpec)

end Rows
end Go.Proofs.Ytmcbmemgeegodaa
