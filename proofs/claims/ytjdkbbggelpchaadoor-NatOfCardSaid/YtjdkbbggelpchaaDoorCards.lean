/-
  DERIVED. GIVEN WITH THE SEED: THE CARDS: each row of YtjdkbbggelpchaaDoorRows.lean that lists a variable, with what it lists TIED to the program's text (the seventh form; the later family's looks); each row that meets fmt, with fmt's text TOLD by the authors' own Lean function (tested against real Go, not proved from fmt's source: count such statements apart). THE CARD IS WHAT COUNTS. Prove the row's statement (the work); the ties are given (YtjdkbbggelpchaaDoorTie.lean); close each card by the builder's one call (the guide's Derived/Test/ToyasCard.lean, 'card_holds'). Laid BY PROGRAM, IN A SANDBOX (cutbox-door.mjs). By AI agents, Wed Nov 11 2026. No macro, syntax, notation, axiom, sorry.
-/
import Derived.Test.YtjdkbbggelpchaaDoorRows
import GoSem.ClaimSeven
namespace Go.Proofs.YtjdkbbggelpchaaDoor
namespace Rows

/-- THE TIED CARD OF 'censuslaw01.NatSums'. -/
def natSumsCard : Claim7 := { stood := { row := natSumsRow, standIns := [], harness := (true, "3dad11d22c5bcb5b21cfc7ace71249e3e4d9c3fcb75905d1131ead0528a9d631"), looks := false }, kinds := [], alts := [], laidByText := true, laidKinds := [.data, .data, .data], laidTests := true, laidLooks := .later }
def NatSumsCardSaid : Prop := Claim7.holds Tryd.pinned (.plain (OpenSpec.ofChange natSumsSpec)) natSumsCard

/-- THE TIED CARD OF 'censuslaw01.NatProducts'. -/
def natProductsCard : Claim7 := { stood := { row := natProductsRow, standIns := [], harness := (true, "3dad11d22c5bcb5b21cfc7ace71249e3e4d9c3fcb75905d1131ead0528a9d631"), looks := false }, kinds := [], alts := [], laidByText := true, laidKinds := [.data, .data, .data], laidTests := true, laidLooks := .later }
def NatProductsCardSaid : Prop := Claim7.holds Tryd.pinned (.plain (OpenSpec.ofChange natProductsSpec)) natProductsCard

/-- THE TIED CARD OF 'censuslaw01.NatReads'. -/
def natReadsCard : Claim7 := { stood := { row := natReadsRow, standIns := [], harness := (true, "3dad11d22c5bcb5b21cfc7ace71249e3e4d9c3fcb75905d1131ead0528a9d631"), looks := false }, kinds := [], alts := [], laidByText := true, laidKinds := [.data, .data, .data], laidTests := true, laidLooks := .later }
def NatReadsCardSaid : Prop := Claim7.holds Tryd.pinned (.plain (OpenSpec.ofChange natReadsSpec)) natReadsCard

/-- THE TIED CARD OF 'censuslaw01.NatOf'. -/
def natOfCard : Claim7 := { stood := { row := natOfRow, standIns := [], harness := (true, "3dad11d22c5bcb5b21cfc7ace71249e3e4d9c3fcb75905d1131ead0528a9d631"), looks := false }, kinds := [], alts := [], laidByText := true, laidKinds := [.data, .data, .data], laidTests := true, laidLooks := .later }
def NatOfCardSaid : Prop := Claim7.holds Tryd.pinned (.plain (OpenSpec.ofChange natOfSpec)) natOfCard

/-- THE SECOND FORM's CARD OF 'censuslaw01.NatSums'. -/
def natSumsUptoCard : Claim7 := { stood := { row := natSumsUptoRow, standIns := [], harness := (true, "3dad11d22c5bcb5b21cfc7ace71249e3e4d9c3fcb75905d1131ead0528a9d631"), looks := false }, kinds := [], alts := [], laidByText := true, laidKinds := [.data, .data, .data], laidTests := true, laidLooks := .later }
def NatSumsUptoCardSaid : Prop := Claim7.holds Tryd.pinned (.plain (OpenSpec.upto natSumsSpec)) natSumsUptoCard

/-- THE SECOND FORM's CARD OF 'censuslaw01.NatProducts'. -/
def natProductsUptoCard : Claim7 := { stood := { row := natProductsUptoRow, standIns := [], harness := (true, "3dad11d22c5bcb5b21cfc7ace71249e3e4d9c3fcb75905d1131ead0528a9d631"), looks := false }, kinds := [], alts := [], laidByText := true, laidKinds := [.data, .data, .data], laidTests := true, laidLooks := .later }
def NatProductsUptoCardSaid : Prop := Claim7.holds Tryd.pinned (.plain (OpenSpec.upto natProductsSpec)) natProductsUptoCard

/-- THE SECOND FORM's CARD OF 'censuslaw01.NatReads'. -/
def natReadsUptoCard : Claim7 := { stood := { row := natReadsUptoRow, standIns := [], harness := (true, "3dad11d22c5bcb5b21cfc7ace71249e3e4d9c3fcb75905d1131ead0528a9d631"), looks := false }, kinds := [], alts := [], laidByText := true, laidKinds := [.data, .data, .data], laidTests := true, laidLooks := .later }
def NatReadsUptoCardSaid : Prop := Claim7.holds Tryd.pinned (.plain (OpenSpec.upto natReadsSpec)) natReadsUptoCard

/-- THE SECOND FORM's CARD OF 'censuslaw01.NatOf'. -/
def natOfUptoCard : Claim7 := { stood := { row := natOfUptoRow, standIns := [], harness := (true, "3dad11d22c5bcb5b21cfc7ace71249e3e4d9c3fcb75905d1131ead0528a9d631"), looks := false }, kinds := [], alts := [], laidByText := true, laidKinds := [.data, .data, .data], laidTests := true, laidLooks := .later }
def NatOfUptoCardSaid : Prop := Claim7.holds Tryd.pinned (.plain (OpenSpec.upto natOfSpec)) natOfUptoCard
end Rows
end Go.Proofs.YtjdkbbggelpchaaDoor
