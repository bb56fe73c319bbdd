/-
  DERIVED. GIVEN WITH THE SEED: THE CARDS: each row of YtifbbikhjolnjaaDoorRows.lean that lists a variable, with what it lists TIED to the program's text (the seventh form; the later family's looks); each row that meets fmt, with fmt's text TOLD by the authors' own Lean function (tested against real Go, not proved from fmt's source: count such statements apart). THE CARD IS WHAT COUNTS. Prove the row's statement (the work); the ties are given (YtifbbikhjolnjaaDoorTie.lean); close each card by the builder's one call (the guide's Derived/Test/ToyasCard.lean, 'card_holds'). Laid BY PROGRAM, IN A SANDBOX (cutbox-door.mjs). By AI agents, Wed Nov 11 2026. No macro, syntax, notation, axiom, sorry.
-/
import Derived.Test.YtifbbikhjolnjaaDoorRows
import GoSem.ClaimSeven
namespace Go.Proofs.YtifbbikhjolnjaaDoor
namespace Rows

/-- THE TIED CARD OF 'cellarerlaw15.AggrExact'. -/
def aggrExactCard : Claim7 := { stood := { row := aggrExactRow, standIns := [], harness := (true, "335adf557d2558d808da6da5a242b8a520f35e1f531e1dd63c74030710770c17"), looks := false }, kinds := [], alts := [], laidByText := true, laidKinds := [.data], laidTests := true, laidLooks := .later }
def AggrExactCardSaid : Prop := Claim7.holds Tryd.pinned (.plain (OpenSpec.ofChange aggrExactSpec)) aggrExactCard

/-- THE TIED CARD OF 'cellarerlaw15.AggrCut'. -/
def aggrCutCard : Claim7 := { stood := { row := aggrCutRow, standIns := [], harness := (true, "335adf557d2558d808da6da5a242b8a520f35e1f531e1dd63c74030710770c17"), looks := false }, kinds := [], alts := [], laidByText := true, laidKinds := [.data], laidTests := true, laidLooks := .later }
def AggrCutCardSaid : Prop := Claim7.holds Tryd.pinned (.plain (OpenSpec.ofChange aggrCutSpec)) aggrCutCard

/-- THE TIED CARD OF 'cellarerlaw15.AggrSizes'. -/
def aggrSizesCard : Claim7 := { stood := { row := aggrSizesRow, standIns := [], harness := (true, "335adf557d2558d808da6da5a242b8a520f35e1f531e1dd63c74030710770c17"), looks := false }, kinds := [], alts := [], laidByText := true, laidKinds := [.data], laidTests := true, laidLooks := .later }
def AggrSizesCardSaid : Prop := Claim7.holds Tryd.pinned (.plain (OpenSpec.ofChange aggrSizesSpec)) aggrSizesCard

/-- THE TIED CARD OF 'cellarerlaw15.AggrBounds'. -/
def aggrBoundsCard : Claim7 := { stood := { row := aggrBoundsRow, standIns := [], harness := (true, "335adf557d2558d808da6da5a242b8a520f35e1f531e1dd63c74030710770c17"), looks := false }, kinds := [], alts := [], laidByText := true, laidKinds := [.data], laidTests := true, laidLooks := .later }
def AggrBoundsCardSaid : Prop := Claim7.holds Tryd.pinned (.plain (OpenSpec.ofChange aggrBoundsSpec)) aggrBoundsCard

/-- THE TIED CARD OF 'cellarerlaw15.AggrMore'. -/
def aggrMoreCard : Claim7 := { stood := { row := aggrMoreRow, standIns := [], harness := (true, "335adf557d2558d808da6da5a242b8a520f35e1f531e1dd63c74030710770c17"), looks := false }, kinds := [], alts := [], laidByText := true, laidKinds := [.data], laidTests := true, laidLooks := .later }
def AggrMoreCardSaid : Prop := Claim7.holds Tryd.pinned (.plain (OpenSpec.ofChange aggrMoreSpec)) aggrMoreCard

/-- THE SECOND FORM's CARD OF 'cellarerlaw15.AggrExact'. -/
def aggrExactUptoCard : Claim7 := { stood := { row := aggrExactUptoRow, standIns := [], harness := (true, "335adf557d2558d808da6da5a242b8a520f35e1f531e1dd63c74030710770c17"), looks := false }, kinds := [], alts := [], laidByText := true, laidKinds := [.data], laidTests := true, laidLooks := .later }
def AggrExactUptoCardSaid : Prop := Claim7.holds Tryd.pinned (.plain (OpenSpec.upto aggrExactSpec)) aggrExactUptoCard

/-- THE SECOND FORM's CARD OF 'cellarerlaw15.AggrCut'. -/
def aggrCutUptoCard : Claim7 := { stood := { row := aggrCutUptoRow, standIns := [], harness := (true, "335adf557d2558d808da6da5a242b8a520f35e1f531e1dd63c74030710770c17"), looks := false }, kinds := [], alts := [], laidByText := true, laidKinds := [.data], laidTests := true, laidLooks := .later }
def AggrCutUptoCardSaid : Prop := Claim7.holds Tryd.pinned (.plain (OpenSpec.upto aggrCutSpec)) aggrCutUptoCard

/-- THE SECOND FORM's CARD OF 'cellarerlaw15.AggrSizes'. -/
def aggrSizesUptoCard : Claim7 := { stood := { row := aggrSizesUptoRow, standIns := [], harness := (true, "335adf557d2558d808da6da5a242b8a520f35e1f531e1dd63c74030710770c17"), looks := false }, kinds := [], alts := [], laidByText := true, laidKinds := [.data], laidTests := true, laidLooks := .later }
def AggrSizesUptoCardSaid : Prop := Claim7.holds Tryd.pinned (.plain (OpenSpec.upto aggrSizesSpec)) aggrSizesUptoCard

/-- THE SECOND FORM's CARD OF 'cellarerlaw15.AggrBounds'. -/
def aggrBoundsUptoCard : Claim7 := { stood := { row := aggrBoundsUptoRow, standIns := [], harness := (true, "335adf557d2558d808da6da5a242b8a520f35e1f531e1dd63c74030710770c17"), looks := false }, kinds := [], alts := [], laidByText := true, laidKinds := [.data], laidTests := true, laidLooks := .later }
def AggrBoundsUptoCardSaid : Prop := Claim7.holds Tryd.pinned (.plain (OpenSpec.upto aggrBoundsSpec)) aggrBoundsUptoCard

/-- THE SECOND FORM's CARD OF 'cellarerlaw15.AggrMore'. -/
def aggrMoreUptoCard : Claim7 := { stood := { row := aggrMoreUptoRow, standIns := [], harness := (true, "335adf557d2558d808da6da5a242b8a520f35e1f531e1dd63c74030710770c17"), looks := false }, kinds := [], alts := [], laidByText := true, laidKinds := [.data], laidTests := true, laidLooks := .later }
def AggrMoreUptoCardSaid : Prop := Claim7.holds Tryd.pinned (.plain (OpenSpec.upto aggrMoreSpec)) aggrMoreUptoCard
end Rows
end Go.Proofs.YtifbbikhjolnjaaDoor
