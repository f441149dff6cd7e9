/-
  DERIVED. GIVEN WITH THE SEED: THE CARDS: each row of YtflcdpolfimggaaGreatDoorRows.lean that lists a variable, with what it lists TIED to the program's text (the seventh form; the later family's looks); each row that meets fmt, with fmt's text TOLD by the authors' own Lean function (tested against real Go, not proved from fmt's source: count such statements apart). THE CARD IS WHAT COUNTS. Prove the row's statement (the work); the ties are given (YtflcdpolfimggaaGreatDoorTie.lean); close each card by the builder's one call (the guide's Derived/Test/ToyasCard.lean, 'card_holds'). Laid BY PROGRAM, IN A SANDBOX (cutbox-door.mjs). By AI agents, Wed Nov 11 2026. No macro, syntax, notation, axiom, sorry.
-/
import Derived.Test.YtflcdpolfimggaaGreatDoorRows
import GoSem.ClaimSeven
namespace Go.Proofs.YtflcdpolfimggaaGreatDoor
namespace Rows

/-- THE TIED CARD OF 'censuslaw02.RatReads'. -/
def ratReadsCard : Claim7 := { stood := { row := ratReadsRow, standIns := [], harness := (true, "09c088b5269474b9911e2b37e918e6438c2fc9113e9a14259d4589fd84733bce"), looks := false }, kinds := [], alts := [], laidByText := true, laidKinds := [.data, .data, .data], laidTests := true, laidLooks := .later }
def RatReadsCardSaid : Prop := Claim7.holds Tryz.pinned (.plain (OpenSpec.ofChange ratReadsSpec)) ratReadsCard

/-- THE TIED CARD OF 'censuslaw02.RatSums'. -/
def ratSumsCard : Claim7 := { stood := { row := ratSumsRow, standIns := [], harness := (true, "09c088b5269474b9911e2b37e918e6438c2fc9113e9a14259d4589fd84733bce"), looks := false }, kinds := [], alts := [], laidByText := true, laidKinds := [.data, .data, .data], laidTests := true, laidLooks := .later }
def RatSumsCardSaid : Prop := Claim7.holds Tryz.pinned (.plain (OpenSpec.ofChange ratSumsSpec)) ratSumsCard

/-- THE TIED CARD OF 'censuslaw02.RatProducts'. -/
def ratProductsCard : Claim7 := { stood := { row := ratProductsRow, standIns := [], harness := (true, "09c088b5269474b9911e2b37e918e6438c2fc9113e9a14259d4589fd84733bce"), looks := false }, kinds := [], alts := [], laidByText := true, laidKinds := [.data, .data, .data], laidTests := true, laidLooks := .later }
def RatProductsCardSaid : Prop := Claim7.holds Tryz.pinned (.plain (OpenSpec.ofChange ratProductsSpec)) ratProductsCard

/-- THE TIED CARD OF 'censuslaw02.RatZero'. -/
def ratZeroCard : Claim7 := { stood := { row := ratZeroRow, standIns := [], harness := (true, "09c088b5269474b9911e2b37e918e6438c2fc9113e9a14259d4589fd84733bce"), looks := false }, kinds := [], alts := [], laidByText := true, laidKinds := [.data, .data, .data], laidTests := true, laidLooks := .later }
def RatZeroCardSaid : Prop := Claim7.holds Tryz.pinned (.plain (OpenSpec.ofChange ratZeroSpec)) ratZeroCard

/-- THE SECOND FORM's CARD OF 'censuslaw02.RatReads'. -/
def ratReadsUptoCard : Claim7 := { stood := { row := ratReadsUptoRow, standIns := [], harness := (true, "09c088b5269474b9911e2b37e918e6438c2fc9113e9a14259d4589fd84733bce"), looks := false }, kinds := [], alts := [], laidByText := true, laidKinds := [.data, .data, .data], laidTests := true, laidLooks := .later }
def RatReadsUptoCardSaid : Prop := Claim7.holds Tryz.pinned (.plain (OpenSpec.upto ratReadsSpec)) ratReadsUptoCard

/-- THE SECOND FORM's CARD OF 'censuslaw02.RatSums'. -/
def ratSumsUptoCard : Claim7 := { stood := { row := ratSumsUptoRow, standIns := [], harness := (true, "09c088b5269474b9911e2b37e918e6438c2fc9113e9a14259d4589fd84733bce"), looks := false }, kinds := [], alts := [], laidByText := true, laidKinds := [.data, .data, .data], laidTests := true, laidLooks := .later }
def RatSumsUptoCardSaid : Prop := Claim7.holds Tryz.pinned (.plain (OpenSpec.upto ratSumsSpec)) ratSumsUptoCard

/-- THE SECOND FORM's CARD OF 'censuslaw02.RatProducts'. -/
def ratProductsUptoCard : Claim7 := { stood := { row := ratProductsUptoRow, standIns := [], harness := (true, "09c088b5269474b9911e2b37e918e6438c2fc9113e9a14259d4589fd84733bce"), looks := false }, kinds := [], alts := [], laidByText := true, laidKinds := [.data, .data, .data], laidTests := true, laidLooks := .later }
def RatProductsUptoCardSaid : Prop := Claim7.holds Tryz.pinned (.plain (OpenSpec.upto ratProductsSpec)) ratProductsUptoCard

/-- THE SECOND FORM's CARD OF 'censuslaw02.RatZero'. -/
def ratZeroUptoCard : Claim7 := { stood := { row := ratZeroUptoRow, standIns := [], harness := (true, "09c088b5269474b9911e2b37e918e6438c2fc9113e9a14259d4589fd84733bce"), looks := false }, kinds := [], alts := [], laidByText := true, laidKinds := [.data, .data, .data], laidTests := true, laidLooks := .later }
def RatZeroUptoCardSaid : Prop := Claim7.holds Tryz.pinned (.plain (OpenSpec.upto ratZeroSpec)) ratZeroUptoCard
end Rows
end Go.Proofs.YtflcdpolfimggaaGreatDoor
