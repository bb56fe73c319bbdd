/-
  DERIVED. GIVEN WITH THE SEED: THE CARDS: each row of YtmbkgjiofkggcaaDoorRows.lean that lists a variable, with what it lists TIED to the program's text (the seventh form; the later family's looks); each row that meets fmt, with fmt's text TOLD by the authors' own Lean function (tested against real Go, not proved from fmt's source: count such statements apart). THE CARD IS WHAT COUNTS. Prove the row's statement (the work); the ties are given (YtmbkgjiofkggcaaDoorTie.lean); close each card by the builder's one call (the guide's Derived/Test/ToyasCard.lean, 'card_holds'). Laid BY PROGRAM, IN A SANDBOX (cutbox-door.mjs). By AI agents, Wed Nov 11 2026. No macro, syntax, notation, axiom, sorry.
-/
import Derived.Test.YtmbkgjiofkggcaaDoorRows
import GoSem.ClaimSeven
namespace Go.Proofs.YtmbkgjiofkggcaaDoor
namespace Rows

/-- THE TIED CARD OF 'cellarerlaw06.FrameExact'. -/
def frameExactCard : Claim7 := { stood := { row := frameExactRow, standIns := [], harness := (true, "478b833ea566d9c2f44c03e61972fffdcab10d156f927a078f8f5d5e37d9012e"), looks := false }, kinds := [], alts := [], laidByText := true, laidKinds := [.data], laidTests := true, laidLooks := .later }
def FrameExactCardSaid : Prop := Claim7.holds Tryd.pinned (.plain (OpenSpec.ofChange frameExactSpec)) frameExactCard

/-- THE TIED CARD OF 'cellarerlaw06.FrameReads'. -/
def frameReadsCard : Claim7 := { stood := { row := frameReadsRow, standIns := [], harness := (true, "478b833ea566d9c2f44c03e61972fffdcab10d156f927a078f8f5d5e37d9012e"), looks := false }, kinds := [], alts := [], laidByText := true, laidKinds := [.data], laidTests := true, laidLooks := .later }
def FrameReadsCardSaid : Prop := Claim7.holds Tryd.pinned (.plain (OpenSpec.ofChange frameReadsSpec)) frameReadsCard

/-- THE TIED CARD OF 'cellarerlaw06.FrameBack'. -/
def frameBackCard : Claim7 := { stood := { row := frameBackRow, standIns := [], harness := (true, "478b833ea566d9c2f44c03e61972fffdcab10d156f927a078f8f5d5e37d9012e"), looks := false }, kinds := [], alts := [], laidByText := true, laidKinds := [.data], laidTests := true, laidLooks := .later }
def FrameBackCardSaid : Prop := Claim7.holds Tryd.pinned (.plain (OpenSpec.ofChange frameBackSpec)) frameBackCard

/-- THE TIED CARD OF 'cellarerlaw06.FrameLong'. -/
def frameLongCard : Claim7 := { stood := { row := frameLongRow, standIns := [], harness := (true, "478b833ea566d9c2f44c03e61972fffdcab10d156f927a078f8f5d5e37d9012e"), looks := false }, kinds := [], alts := [], laidByText := true, laidKinds := [.data], laidTests := true, laidLooks := .later }
def FrameLongCardSaid : Prop := Claim7.holds Tryd.pinned (.plain (OpenSpec.ofChange frameLongSpec)) frameLongCard

/-- THE TIED CARD OF 'cellarerlaw06.FrameCuts'. -/
def frameCutsCard : Claim7 := { stood := { row := frameCutsRow, standIns := [], harness := (true, "478b833ea566d9c2f44c03e61972fffdcab10d156f927a078f8f5d5e37d9012e"), looks := false }, kinds := [], alts := [], laidByText := true, laidKinds := [.data], laidTests := true, laidLooks := .later }
def FrameCutsCardSaid : Prop := Claim7.holds Tryd.pinned (.plain (OpenSpec.ofChange frameCutsSpec)) frameCutsCard

/-- THE TIED CARD OF 'cellarerlaw06.FrameParts'. -/
def framePartsCard : Claim7 := { stood := { row := framePartsRow, standIns := [], harness := (true, "478b833ea566d9c2f44c03e61972fffdcab10d156f927a078f8f5d5e37d9012e"), looks := false }, kinds := [], alts := [], laidByText := true, laidKinds := [.data], laidTests := true, laidLooks := .later }
def FramePartsCardSaid : Prop := Claim7.holds Tryd.pinned (.plain (OpenSpec.ofChange framePartsSpec)) framePartsCard

/-- THE TIED CARD OF 'cellarerlaw06.FrameWalk'. -/
def frameWalkCard : Claim7 := { stood := { row := frameWalkRow, standIns := [], harness := (true, "478b833ea566d9c2f44c03e61972fffdcab10d156f927a078f8f5d5e37d9012e"), looks := false }, kinds := [], alts := [], laidByText := true, laidKinds := [.data], laidTests := true, laidLooks := .later }
def FrameWalkCardSaid : Prop := Claim7.holds Tryd.pinned (.plain (OpenSpec.ofChange frameWalkSpec)) frameWalkCard

/-- THE TIED CARD OF 'cellarerlaw14.LabelExact'. -/
def labelExactCard : Claim7 := { stood := { row := labelExactRow, standIns := [], harness := (true, "478b833ea566d9c2f44c03e61972fffdcab10d156f927a078f8f5d5e37d9012e"), looks := false }, kinds := [], alts := [], laidByText := true, laidKinds := [.data], laidTests := true, laidLooks := .later }
def LabelExactCardSaid : Prop := Claim7.holds Tryd.pinned (.plain (OpenSpec.ofChange labelExactSpec)) labelExactCard

/-- THE TIED CARD OF 'cellarerlaw14.LabelReads'. -/
def labelReadsCard : Claim7 := { stood := { row := labelReadsRow, standIns := [], harness := (true, "478b833ea566d9c2f44c03e61972fffdcab10d156f927a078f8f5d5e37d9012e"), looks := false }, kinds := [], alts := [], laidByText := true, laidKinds := [.data], laidTests := true, laidLooks := .later }
def LabelReadsCardSaid : Prop := Claim7.holds Tryd.pinned (.plain (OpenSpec.ofChange labelReadsSpec)) labelReadsCard

/-- THE TIED CARD OF 'cellarerlaw14.LabelSpoilt'. -/
def labelSpoiltCard : Claim7 := { stood := { row := labelSpoiltRow, standIns := [], harness := (true, "478b833ea566d9c2f44c03e61972fffdcab10d156f927a078f8f5d5e37d9012e"), looks := false }, kinds := [], alts := [], laidByText := true, laidKinds := [.data], laidTests := true, laidLooks := .later }
def LabelSpoiltCardSaid : Prop := Claim7.holds Tryd.pinned (.plain (OpenSpec.ofChange labelSpoiltSpec)) labelSpoiltCard

/-- THE TIED CARD OF 'cellarerlaw14.LabelUnlike'. -/
def labelUnlikeCard : Claim7 := { stood := { row := labelUnlikeRow, standIns := [], harness := (true, "478b833ea566d9c2f44c03e61972fffdcab10d156f927a078f8f5d5e37d9012e"), looks := false }, kinds := [], alts := [], laidByText := true, laidKinds := [.data], laidTests := true, laidLooks := .later }
def LabelUnlikeCardSaid : Prop := Claim7.holds Tryd.pinned (.plain (OpenSpec.ofChange labelUnlikeSpec)) labelUnlikeCard

/-- THE SECOND FORM's CARD OF 'cellarerlaw06.FrameExact'. -/
def frameExactUptoCard : Claim7 := { stood := { row := frameExactUptoRow, standIns := [], harness := (true, "478b833ea566d9c2f44c03e61972fffdcab10d156f927a078f8f5d5e37d9012e"), looks := false }, kinds := [], alts := [], laidByText := true, laidKinds := [.data], laidTests := true, laidLooks := .later }
def FrameExactUptoCardSaid : Prop := Claim7.holds Tryd.pinned (.plain (OpenSpec.upto frameExactSpec)) frameExactUptoCard

/-- THE SECOND FORM's CARD OF 'cellarerlaw06.FrameReads'. -/
def frameReadsUptoCard : Claim7 := { stood := { row := frameReadsUptoRow, standIns := [], harness := (true, "478b833ea566d9c2f44c03e61972fffdcab10d156f927a078f8f5d5e37d9012e"), looks := false }, kinds := [], alts := [], laidByText := true, laidKinds := [.data], laidTests := true, laidLooks := .later }
def FrameReadsUptoCardSaid : Prop := Claim7.holds Tryd.pinned (.plain (OpenSpec.upto frameReadsSpec)) frameReadsUptoCard

/-- THE SECOND FORM's CARD OF 'cellarerlaw06.FrameBack'. -/
def frameBackUptoCard : Claim7 := { stood := { row := frameBackUptoRow, standIns := [], harness := (true, "478b833ea566d9c2f44c03e61972fffdcab10d156f927a078f8f5d5e37d9012e"), looks := false }, kinds := [], alts := [], laidByText := true, laidKinds := [.data], laidTests := true, laidLooks := .later }
def FrameBackUptoCardSaid : Prop := Claim7.holds Tryd.pinned (.plain (OpenSpec.upto frameBackSpec)) frameBackUptoCard

/-- THE SECOND FORM's CARD OF 'cellarerlaw06.FrameLong'. -/
def frameLongUptoCard : Claim7 := { stood := { row := frameLongUptoRow, standIns := [], harness := (true, "478b833ea566d9c2f44c03e61972fffdcab10d156f927a078f8f5d5e37d9012e"), looks := false }, kinds := [], alts := [], laidByText := true, laidKinds := [.data], laidTests := true, laidLooks := .later }
def FrameLongUptoCardSaid : Prop := Claim7.holds Tryd.pinned (.plain (OpenSpec.upto frameLongSpec)) frameLongUptoCard

/-- THE SECOND FORM's CARD OF 'cellarerlaw06.FrameCuts'. -/
def frameCutsUptoCard : Claim7 := { stood := { row := frameCutsUptoRow, standIns := [], harness := (true, "478b833ea566d9c2f44c03e61972fffdcab10d156f927a078f8f5d5e37d9012e"), looks := false }, kinds := [], alts := [], laidByText := true, laidKinds := [.data], laidTests := true, laidLooks := .later }
def FrameCutsUptoCardSaid : Prop := Claim7.holds Tryd.pinned (.plain (OpenSpec.upto frameCutsSpec)) frameCutsUptoCard

/-- THE SECOND FORM's CARD OF 'cellarerlaw06.FrameParts'. -/
def framePartsUptoCard : Claim7 := { stood := { row := framePartsUptoRow, standIns := [], harness := (true, "478b833ea566d9c2f44c03e61972fffdcab10d156f927a078f8f5d5e37d9012e"), looks := false }, kinds := [], alts := [], laidByText := true, laidKinds := [.data], laidTests := true, laidLooks := .later }
def FramePartsUptoCardSaid : Prop := Claim7.holds Tryd.pinned (.plain (OpenSpec.upto framePartsSpec)) framePartsUptoCard

/-- THE SECOND FORM's CARD OF 'cellarerlaw06.FrameWalk'. -/
def frameWalkUptoCard : Claim7 := { stood := { row := frameWalkUptoRow, standIns := [], harness := (true, "478b833ea566d9c2f44c03e61972fffdcab10d156f927a078f8f5d5e37d9012e"), looks := false }, kinds := [], alts := [], laidByText := true, laidKinds := [.data], laidTests := true, laidLooks := .later }
def FrameWalkUptoCardSaid : Prop := Claim7.holds Tryd.pinned (.plain (OpenSpec.upto frameWalkSpec)) frameWalkUptoCard

/-- THE SECOND FORM's CARD OF 'cellarerlaw14.LabelExact'. -/
def labelExactUptoCard : Claim7 := { stood := { row := labelExactUptoRow, standIns := [], harness := (true, "478b833ea566d9c2f44c03e61972fffdcab10d156f927a078f8f5d5e37d9012e"), looks := false }, kinds := [], alts := [], laidByText := true, laidKinds := [.data], laidTests := true, laidLooks := .later }
def LabelExactUptoCardSaid : Prop := Claim7.holds Tryd.pinned (.plain (OpenSpec.upto labelExactSpec)) labelExactUptoCard

/-- THE SECOND FORM's CARD OF 'cellarerlaw14.LabelReads'. -/
def labelReadsUptoCard : Claim7 := { stood := { row := labelReadsUptoRow, standIns := [], harness := (true, "478b833ea566d9c2f44c03e61972fffdcab10d156f927a078f8f5d5e37d9012e"), looks := false }, kinds := [], alts := [], laidByText := true, laidKinds := [.data], laidTests := true, laidLooks := .later }
def LabelReadsUptoCardSaid : Prop := Claim7.holds Tryd.pinned (.plain (OpenSpec.upto labelReadsSpec)) labelReadsUptoCard

/-- THE SECOND FORM's CARD OF 'cellarerlaw14.LabelSpoilt'. -/
def labelSpoiltUptoCard : Claim7 := { stood := { row := labelSpoiltUptoRow, standIns := [], harness := (true, "478b833ea566d9c2f44c03e61972fffdcab10d156f927a078f8f5d5e37d9012e"), looks := false }, kinds := [], alts := [], laidByText := true, laidKinds := [.data], laidTests := true, laidLooks := .later }
def LabelSpoiltUptoCardSaid : Prop := Claim7.holds Tryd.pinned (.plain (OpenSpec.upto labelSpoiltSpec)) labelSpoiltUptoCard

/-- THE SECOND FORM's CARD OF 'cellarerlaw14.LabelUnlike'. -/
def labelUnlikeUptoCard : Claim7 := { stood := { row := labelUnlikeUptoRow, standIns := [], harness := (true, "478b833ea566d9c2f44c03e61972fffdcab10d156f927a078f8f5d5e37d9012e"), looks := false }, kinds := [], alts := [], laidByText := true, laidKinds := [.data], laidTests := true, laidLooks := .later }
def LabelUnlikeUptoCardSaid : Prop := Claim7.holds Tryd.pinned (.plain (OpenSpec.upto labelUnlikeSpec)) labelUnlikeUptoCard
end Rows
end Go.Proofs.YtmbkgjiofkggcaaDoor
