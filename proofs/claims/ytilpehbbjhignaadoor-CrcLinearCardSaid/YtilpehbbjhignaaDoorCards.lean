/-
  DERIVED. GIVEN WITH THE SEED: THE CARDS: each row of YtilpehbbjhignaaDoorRows.lean that lists a variable, with what it lists TIED to the program's text (the seventh form; the later family's looks); each row that meets fmt, with fmt's text TOLD by the authors' own Lean function (tested against real Go, not proved from fmt's source: count such statements apart). THE CARD IS WHAT COUNTS. Prove the row's statement (the work); the ties are given (YtilpehbbjhignaaDoorTie.lean); close each card by the builder's one call (the guide's Derived/Test/ToyasCard.lean, 'card_holds'). Laid BY PROGRAM, IN A SANDBOX (cutbox-door.mjs). By AI agents, Wed Nov 11 2026. No macro, syntax, notation, axiom, sorry.
-/
import Derived.Test.YtilpehbbjhignaaDoorRows
import GoSem.ClaimSeven
namespace Go.Proofs.YtilpehbbjhignaaDoor
namespace Rows

/-- THE TIED CARD OF 'cellarerlaw02.CrcExact'. -/
def crcExactCard : Claim7 := { stood := { row := crcExactRow, standIns := [], harness := (true, "608561dadec73b8e325319cea066326f34a346d38b60df53e538796512c5f8ee"), looks := false }, kinds := [], alts := [], laidByText := true, laidKinds := [.data], laidTests := true, laidLooks := .later }
def CrcExactCardSaid : Prop := Claim7.holds Tryd.pinned (.plain (OpenSpec.ofChange crcExactSpec)) crcExactCard

/-- THE TIED CARD OF 'cellarerlaw02.CrcParts'. -/
def crcPartsCard : Claim7 := { stood := { row := crcPartsRow, standIns := [], harness := (true, "608561dadec73b8e325319cea066326f34a346d38b60df53e538796512c5f8ee"), looks := false }, kinds := [], alts := [], laidByText := true, laidKinds := [.data], laidTests := true, laidLooks := .later }
def CrcPartsCardSaid : Prop := Claim7.holds Tryd.pinned (.plain (OpenSpec.ofChange crcPartsSpec)) crcPartsCard

/-- THE TIED CARD OF 'cellarerlaw02.CrcUnlike'. -/
def crcUnlikeCard : Claim7 := { stood := { row := crcUnlikeRow, standIns := [], harness := (true, "608561dadec73b8e325319cea066326f34a346d38b60df53e538796512c5f8ee"), looks := false }, kinds := [], alts := [], laidByText := true, laidKinds := [.data], laidTests := true, laidLooks := .later }
def CrcUnlikeCardSaid : Prop := Claim7.holds Tryd.pinned (.plain (OpenSpec.ofChange crcUnlikeSpec)) crcUnlikeCard

/-- THE TIED CARD OF 'cellarerlaw02.CrcLinear'. -/
def crcLinearCard : Claim7 := { stood := { row := crcLinearRow, standIns := [], harness := (true, "608561dadec73b8e325319cea066326f34a346d38b60df53e538796512c5f8ee"), looks := false }, kinds := [], alts := [], laidByText := true, laidKinds := [.data], laidTests := true, laidLooks := .later }
def CrcLinearCardSaid : Prop := Claim7.holds Tryd.pinned (.plain (OpenSpec.ofChange crcLinearSpec)) crcLinearCard

/-- THE TIED CARD OF 'cellarerlaw02.CrcBytes'. -/
def crcBytesCard : Claim7 := { stood := { row := crcBytesRow, standIns := [], harness := (true, "608561dadec73b8e325319cea066326f34a346d38b60df53e538796512c5f8ee"), looks := false }, kinds := [], alts := [], laidByText := true, laidKinds := [.data], laidTests := true, laidLooks := .later }
def CrcBytesCardSaid : Prop := Claim7.holds Tryd.pinned (.plain (OpenSpec.ofChange crcBytesSpec)) crcBytesCard

/-- THE SECOND FORM's CARD OF 'cellarerlaw02.CrcExact'. -/
def crcExactUptoCard : Claim7 := { stood := { row := crcExactUptoRow, standIns := [], harness := (true, "608561dadec73b8e325319cea066326f34a346d38b60df53e538796512c5f8ee"), looks := false }, kinds := [], alts := [], laidByText := true, laidKinds := [.data], laidTests := true, laidLooks := .later }
def CrcExactUptoCardSaid : Prop := Claim7.holds Tryd.pinned (.plain (OpenSpec.upto crcExactSpec)) crcExactUptoCard

/-- THE SECOND FORM's CARD OF 'cellarerlaw02.CrcParts'. -/
def crcPartsUptoCard : Claim7 := { stood := { row := crcPartsUptoRow, standIns := [], harness := (true, "608561dadec73b8e325319cea066326f34a346d38b60df53e538796512c5f8ee"), looks := false }, kinds := [], alts := [], laidByText := true, laidKinds := [.data], laidTests := true, laidLooks := .later }
def CrcPartsUptoCardSaid : Prop := Claim7.holds Tryd.pinned (.plain (OpenSpec.upto crcPartsSpec)) crcPartsUptoCard

/-- THE SECOND FORM's CARD OF 'cellarerlaw02.CrcUnlike'. -/
def crcUnlikeUptoCard : Claim7 := { stood := { row := crcUnlikeUptoRow, standIns := [], harness := (true, "608561dadec73b8e325319cea066326f34a346d38b60df53e538796512c5f8ee"), looks := false }, kinds := [], alts := [], laidByText := true, laidKinds := [.data], laidTests := true, laidLooks := .later }
def CrcUnlikeUptoCardSaid : Prop := Claim7.holds Tryd.pinned (.plain (OpenSpec.upto crcUnlikeSpec)) crcUnlikeUptoCard

/-- THE SECOND FORM's CARD OF 'cellarerlaw02.CrcLinear'. -/
def crcLinearUptoCard : Claim7 := { stood := { row := crcLinearUptoRow, standIns := [], harness := (true, "608561dadec73b8e325319cea066326f34a346d38b60df53e538796512c5f8ee"), looks := false }, kinds := [], alts := [], laidByText := true, laidKinds := [.data], laidTests := true, laidLooks := .later }
def CrcLinearUptoCardSaid : Prop := Claim7.holds Tryd.pinned (.plain (OpenSpec.upto crcLinearSpec)) crcLinearUptoCard

/-- THE SECOND FORM's CARD OF 'cellarerlaw02.CrcBytes'. -/
def crcBytesUptoCard : Claim7 := { stood := { row := crcBytesUptoRow, standIns := [], harness := (true, "608561dadec73b8e325319cea066326f34a346d38b60df53e538796512c5f8ee"), looks := false }, kinds := [], alts := [], laidByText := true, laidKinds := [.data], laidTests := true, laidLooks := .later }
def CrcBytesUptoCardSaid : Prop := Claim7.holds Tryd.pinned (.plain (OpenSpec.upto crcBytesSpec)) crcBytesUptoCard
end Rows
end Go.Proofs.YtilpehbbjhignaaDoor
