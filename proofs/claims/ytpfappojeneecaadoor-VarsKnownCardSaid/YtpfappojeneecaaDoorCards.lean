/-
  DERIVED. GIVEN WITH THE SEED: THE CARDS: each row of YtpfappojeneecaaDoorRows.lean that lists a variable, with what it lists TIED to the program's text (the seventh form; the later family's looks); each row that meets fmt, with fmt's text TOLD by the authors' own Lean function (tested against real Go, not proved from fmt's source: count such statements apart). THE CARD IS WHAT COUNTS. Prove the row's statement (the work); the ties are given (YtpfappojeneecaaDoorTie.lean); close each card by the builder's one call (the guide's Derived/Test/ToyasCard.lean, 'card_holds'). Laid BY PROGRAM, IN A SANDBOX (cutbox-door.mjs). By AI agents, Wed Nov 11 2026. No macro, syntax, notation, axiom, sorry.
-/
import Derived.Test.YtpfappojeneecaaDoorRows
import GoSem.ClaimSeven
namespace Go.Proofs.YtpfappojeneecaaDoor
namespace Rows

/-- THE TIED CARD OF 'censuslaw03.VarsMakes'. -/
def varsMakesCard : Claim7 := { stood := { row := varsMakesRow, standIns := [], harness := (true, "d704d6f64ba88a9b66312ba3f8fefdc9c3aef76c8a23c4653e3361a898097b55"), looks := false }, kinds := [], alts := [], laidByText := true, laidKinds := [.data], laidTests := true, laidLooks := .later }
def VarsMakesCardSaid : Prop := Claim7.holds Tryd.pinned (.plain (OpenSpec.ofChange varsMakesSpec)) varsMakesCard

/-- THE TIED CARD OF 'censuslaw03.VarsChanges'. -/
def varsChangesCard : Claim7 := { stood := { row := varsChangesRow, standIns := [], harness := (true, "d704d6f64ba88a9b66312ba3f8fefdc9c3aef76c8a23c4653e3361a898097b55"), looks := false }, kinds := [], alts := [], laidByText := true, laidKinds := [.data], laidTests := true, laidLooks := .later }
def VarsChangesCardSaid : Prop := Claim7.holds Tryd.pinned (.plain (OpenSpec.ofChange varsChangesSpec)) varsChangesCard

/-- THE TIED CARD OF 'censuslaw03.VarsJoins'. -/
def varsJoinsCard : Claim7 := { stood := { row := varsJoinsRow, standIns := [], harness := (true, "d704d6f64ba88a9b66312ba3f8fefdc9c3aef76c8a23c4653e3361a898097b55"), looks := false }, kinds := [], alts := [], laidByText := true, laidKinds := [.data], laidTests := true, laidLooks := .later }
def VarsJoinsCardSaid : Prop := Claim7.holds Tryd.pinned (.plain (OpenSpec.ofChange varsJoinsSpec)) varsJoinsCard

/-- THE TIED CARD OF 'censuslaw03.VarsLists'. -/
def varsListsCard : Claim7 := { stood := { row := varsListsRow, standIns := [], harness := (true, "d704d6f64ba88a9b66312ba3f8fefdc9c3aef76c8a23c4653e3361a898097b55"), looks := false }, kinds := [], alts := [], laidByText := true, laidKinds := [.data], laidTests := true, laidLooks := .later }
def VarsListsCardSaid : Prop := Claim7.holds Tryd.pinned (.plain (OpenSpec.ofChange varsListsSpec)) varsListsCard

/-- THE TIED CARD OF 'censuslaw03.VarsOrders'. -/
def varsOrdersCard : Claim7 := { stood := { row := varsOrdersRow, standIns := [], harness := (true, "d704d6f64ba88a9b66312ba3f8fefdc9c3aef76c8a23c4653e3361a898097b55"), looks := false }, kinds := [], alts := [], laidByText := true, laidKinds := [.data], laidTests := true, laidLooks := .later }
def VarsOrdersCardSaid : Prop := Claim7.holds Tryd.pinned (.plain (OpenSpec.ofChange varsOrdersSpec)) varsOrdersCard

/-- THE TIED CARD OF 'censuslaw03.VarsLaws'. -/
def varsLawsCard : Claim7 := { stood := { row := varsLawsRow, standIns := [], harness := (true, "d704d6f64ba88a9b66312ba3f8fefdc9c3aef76c8a23c4653e3361a898097b55"), looks := false }, kinds := [], alts := [], laidByText := true, laidKinds := [.data], laidTests := true, laidLooks := .later }
def VarsLawsCardSaid : Prop := Claim7.holds Tryd.pinned (.plain (OpenSpec.ofChange varsLawsSpec)) varsLawsCard

/-- THE TIED CARD OF 'censuslaw03.VarsTotal'. -/
def varsTotalCard : Claim7 := { stood := { row := varsTotalRow, standIns := [], harness := (true, "d704d6f64ba88a9b66312ba3f8fefdc9c3aef76c8a23c4653e3361a898097b55"), looks := false }, kinds := [], alts := [], laidByText := true, laidKinds := [.data], laidTests := true, laidLooks := .later }
def VarsTotalCardSaid : Prop := Claim7.holds Tryd.pinned (.plain (OpenSpec.ofChange varsTotalSpec)) varsTotalCard

/-- THE TIED CARD OF 'censuslaw03.VarsBack'. -/
def varsBackCard : Claim7 := { stood := { row := varsBackRow, standIns := [], harness := (true, "d704d6f64ba88a9b66312ba3f8fefdc9c3aef76c8a23c4653e3361a898097b55"), looks := false }, kinds := [], alts := [], laidByText := true, laidKinds := [.data], laidTests := true, laidLooks := .later }
def VarsBackCardSaid : Prop := Claim7.holds Tryd.pinned (.plain (OpenSpec.ofChange varsBackSpec)) varsBackCard

/-- THE TIED CARD OF 'censuslaw03.VarsOne'. -/
def varsOneCard : Claim7 := { stood := { row := varsOneRow, standIns := [], harness := (true, "d704d6f64ba88a9b66312ba3f8fefdc9c3aef76c8a23c4653e3361a898097b55"), looks := false }, kinds := [], alts := [], laidByText := true, laidKinds := [.data], laidTests := true, laidLooks := .later }
def VarsOneCardSaid : Prop := Claim7.holds Tryd.pinned (.plain (OpenSpec.ofChange varsOneSpec)) varsOneCard

/-- THE TIED CARD OF 'censuslaw03.VarsKnown'. -/
def varsKnownCard : Claim7 := { stood := { row := varsKnownRow, standIns := [], harness := (true, "d704d6f64ba88a9b66312ba3f8fefdc9c3aef76c8a23c4653e3361a898097b55"), looks := false }, kinds := [], alts := [], laidByText := true, laidKinds := [.data], laidTests := true, laidLooks := .later }
def VarsKnownCardSaid : Prop := Claim7.holds Tryd.pinned (.plain (OpenSpec.ofChange varsKnownSpec)) varsKnownCard

/-- THE SECOND FORM's CARD OF 'censuslaw03.VarsMakes'. -/
def varsMakesUptoCard : Claim7 := { stood := { row := varsMakesUptoRow, standIns := [], harness := (true, "d704d6f64ba88a9b66312ba3f8fefdc9c3aef76c8a23c4653e3361a898097b55"), looks := false }, kinds := [], alts := [], laidByText := true, laidKinds := [.data], laidTests := true, laidLooks := .later }
def VarsMakesUptoCardSaid : Prop := Claim7.holds Tryd.pinned (.plain (OpenSpec.upto varsMakesSpec)) varsMakesUptoCard

/-- THE SECOND FORM's CARD OF 'censuslaw03.VarsChanges'. -/
def varsChangesUptoCard : Claim7 := { stood := { row := varsChangesUptoRow, standIns := [], harness := (true, "d704d6f64ba88a9b66312ba3f8fefdc9c3aef76c8a23c4653e3361a898097b55"), looks := false }, kinds := [], alts := [], laidByText := true, laidKinds := [.data], laidTests := true, laidLooks := .later }
def VarsChangesUptoCardSaid : Prop := Claim7.holds Tryd.pinned (.plain (OpenSpec.upto varsChangesSpec)) varsChangesUptoCard

/-- THE SECOND FORM's CARD OF 'censuslaw03.VarsJoins'. -/
def varsJoinsUptoCard : Claim7 := { stood := { row := varsJoinsUptoRow, standIns := [], harness := (true, "d704d6f64ba88a9b66312ba3f8fefdc9c3aef76c8a23c4653e3361a898097b55"), looks := false }, kinds := [], alts := [], laidByText := true, laidKinds := [.data], laidTests := true, laidLooks := .later }
def VarsJoinsUptoCardSaid : Prop := Claim7.holds Tryd.pinned (.plain (OpenSpec.upto varsJoinsSpec)) varsJoinsUptoCard

/-- THE SECOND FORM's CARD OF 'censuslaw03.VarsLists'. -/
def varsListsUptoCard : Claim7 := { stood := { row := varsListsUptoRow, standIns := [], harness := (true, "d704d6f64ba88a9b66312ba3f8fefdc9c3aef76c8a23c4653e3361a898097b55"), looks := false }, kinds := [], alts := [], laidByText := true, laidKinds := [.data], laidTests := true, laidLooks := .later }
def VarsListsUptoCardSaid : Prop := Claim7.holds Tryd.pinned (.plain (OpenSpec.upto varsListsSpec)) varsListsUptoCard

/-- THE SECOND FORM's CARD OF 'censuslaw03.VarsOrders'. -/
def varsOrdersUptoCard : Claim7 := { stood := { row := varsOrdersUptoRow, standIns := [], harness := (true, "d704d6f64ba88a9b66312ba3f8fefdc9c3aef76c8a23c4653e3361a898097b55"), looks := false }, kinds := [], alts := [], laidByText := true, laidKinds := [.data], laidTests := true, laidLooks := .later }
def VarsOrdersUptoCardSaid : Prop := Claim7.holds Tryd.pinned (.plain (OpenSpec.upto varsOrdersSpec)) varsOrdersUptoCard

/-- THE SECOND FORM's CARD OF 'censuslaw03.VarsLaws'. -/
def varsLawsUptoCard : Claim7 := { stood := { row := varsLawsUptoRow, standIns := [], harness := (true, "d704d6f64ba88a9b66312ba3f8fefdc9c3aef76c8a23c4653e3361a898097b55"), looks := false }, kinds := [], alts := [], laidByText := true, laidKinds := [.data], laidTests := true, laidLooks := .later }
def VarsLawsUptoCardSaid : Prop := Claim7.holds Tryd.pinned (.plain (OpenSpec.upto varsLawsSpec)) varsLawsUptoCard

/-- THE SECOND FORM's CARD OF 'censuslaw03.VarsTotal'. -/
def varsTotalUptoCard : Claim7 := { stood := { row := varsTotalUptoRow, standIns := [], harness := (true, "d704d6f64ba88a9b66312ba3f8fefdc9c3aef76c8a23c4653e3361a898097b55"), looks := false }, kinds := [], alts := [], laidByText := true, laidKinds := [.data], laidTests := true, laidLooks := .later }
def VarsTotalUptoCardSaid : Prop := Claim7.holds Tryd.pinned (.plain (OpenSpec.upto varsTotalSpec)) varsTotalUptoCard

/-- THE SECOND FORM's CARD OF 'censuslaw03.VarsBack'. -/
def varsBackUptoCard : Claim7 := { stood := { row := varsBackUptoRow, standIns := [], harness := (true, "d704d6f64ba88a9b66312ba3f8fefdc9c3aef76c8a23c4653e3361a898097b55"), looks := false }, kinds := [], alts := [], laidByText := true, laidKinds := [.data], laidTests := true, laidLooks := .later }
def VarsBackUptoCardSaid : Prop := Claim7.holds Tryd.pinned (.plain (OpenSpec.upto varsBackSpec)) varsBackUptoCard

/-- THE SECOND FORM's CARD OF 'censuslaw03.VarsOne'. -/
def varsOneUptoCard : Claim7 := { stood := { row := varsOneUptoRow, standIns := [], harness := (true, "d704d6f64ba88a9b66312ba3f8fefdc9c3aef76c8a23c4653e3361a898097b55"), looks := false }, kinds := [], alts := [], laidByText := true, laidKinds := [.data], laidTests := true, laidLooks := .later }
def VarsOneUptoCardSaid : Prop := Claim7.holds Tryd.pinned (.plain (OpenSpec.upto varsOneSpec)) varsOneUptoCard

/-- THE SECOND FORM's CARD OF 'censuslaw03.VarsKnown'. -/
def varsKnownUptoCard : Claim7 := { stood := { row := varsKnownUptoRow, standIns := [], harness := (true, "d704d6f64ba88a9b66312ba3f8fefdc9c3aef76c8a23c4653e3361a898097b55"), looks := false }, kinds := [], alts := [], laidByText := true, laidKinds := [.data], laidTests := true, laidLooks := .later }
def VarsKnownUptoCardSaid : Prop := Claim7.holds Tryd.pinned (.plain (OpenSpec.upto varsKnownSpec)) varsKnownUptoCard
end Rows
end Go.Proofs.YtpfappojeneecaaDoor
