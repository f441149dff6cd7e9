/-
  NARROWER THAN 'FOR EVERY INPUT', by the rows' own cells (each row's printed sentence says how): VarsMakes: laid · VarsChanges: laid · VarsJoins: laid · VarsLists: laid · VarsOrders: laid · VarsLaws: laid · VarsTotal: laid · VarsBack: laid · VarsOne: laid · VarsKnown: laid.
  DERIVED. THE GIVEN ROWS OF THIS SEAT. 10 by the template 'for every input the law returns true; each argument reads behind the call as it read before'; 0 by the template 'total and deterministic' (their statements: YtpfappojeneecaaDoorTotals.lean).
  GIVEN WITH THE SEED: the statements are not yours to turn. If you find one false, say at which input.
  Laid BY PROGRAM, IN A SANDBOX (cutbox-rows.mjs): the forced cells as the released guide's own fill.sh prints them over the translation 14ea66ff799cd4ab… (all of the seat's roots in one cut). By AI agents, Wed Nov 11 2026. No macro, syntax, notation, axiom, sorry.
-/
import Derived.Test.YtpfappojeneecaaDoorChecked
import GoSem.Claim
import GoSem.ClaimJoined
import GoSem.ClaimMapViews
import Derived.JoinedTies
import Derived.KernelRfl
namespace Go.Proofs.YtpfappojeneecaaDoor
/- THE CELL 'sum', in the pinned program and in every row, IS THE sha256 OF THE DUMP (.gsa) THAT YtpfappojeneecaaDoorProg.lean LOADS. Nothing in Lean hashes anything: it is a label: what it is worth is what the hold of that sum in a sandbox is worth. -/
noncomputable def Tryd.pinned : Pinned := { name := "ytpfappojeneecaadoor", sum := "14ea66ff799cd4ab0c18c87e851ba6524233ddbf509b8baf2f43c62509a5b183", checked := Tryd.checked }
namespace Rows
def none {H : Type} : Left H := { results := [], args := [] }

/- WHAT THE LISTED PACKAGE-LEVEL VARIABLES READ AS WHEN THE CALL BEGINS. Each datum BY PROGRAM (the guide's laid-datum.mjs) off the statement by which the dump's own 'gosem.cut.vars' lays the variable. In a bare row this is a premise. The card (YtpfappojeneecaaDoorCards.lean) ties it to the program's text. -/
def laid_math_bits_deBruijn64tab {H : Type} : DataW H := .agg [.lit (.int .u8 0), .lit (.int .u8 1), .lit (.int .u8 56), .lit (.int .u8 2), .lit (.int .u8 57), .lit (.int .u8 49), .lit (.int .u8 28), .lit (.int .u8 3), .lit (.int .u8 61), .lit (.int .u8 58), .lit (.int .u8 42), .lit (.int .u8 50), .lit (.int .u8 38), .lit (.int .u8 29), .lit (.int .u8 17), .lit (.int .u8 4), .lit (.int .u8 62), .lit (.int .u8 47), .lit (.int .u8 59), .lit (.int .u8 36), .lit (.int .u8 45), .lit (.int .u8 43), .lit (.int .u8 51), .lit (.int .u8 22), .lit (.int .u8 53), .lit (.int .u8 39), .lit (.int .u8 33), .lit (.int .u8 30), .lit (.int .u8 24), .lit (.int .u8 18), .lit (.int .u8 12), .lit (.int .u8 5), .lit (.int .u8 63), .lit (.int .u8 55), .lit (.int .u8 48), .lit (.int .u8 27), .lit (.int .u8 60), .lit (.int .u8 41), .lit (.int .u8 37), .lit (.int .u8 16), .lit (.int .u8 46), .lit (.int .u8 35), .lit (.int .u8 44), .lit (.int .u8 21), .lit (.int .u8 52), .lit (.int .u8 32), .lit (.int .u8 23), .lit (.int .u8 11), .lit (.int .u8 54), .lit (.int .u8 26), .lit (.int .u8 40), .lit (.int .u8 15), .lit (.int .u8 34), .lit (.int .u8 20), .lit (.int .u8 31), .lit (.int .u8 10), .lit (.int .u8 25), .lit (.int .u8 14), .lit (.int .u8 19), .lit (.int .u8 9), .lit (.int .u8 13), .lit (.int .u8 8), .lit (.int .u8 7), .lit (.int .u8 6)]

/-- 'censuslaw03.VarsMakes': WHATEVER THE INPUT: true; the input reads as it did. -/
def varsMakesSpec : ChangeSpec := { name := "varsMakes", fn := fun _ => fun
  | [d1, d2] => { results := [.lit (.bool true)], args := [d1, d2] }
  | _ => none }
def varsMakesRow : OpenClaim := { program := "ytpfappojeneecaadoor", sum := "14ea66ff799cd4ab0c18c87e851ba6524233ddbf509b8baf2f43c62509a5b183", func := "census/censuslaw03.VarsMakes", spec := "varsMakes", named := ["math/bits.deBruijn64tab"], apart := false, laid := [("math/bits.deBruijn64tab", laid_math_bits_deBruijn64tab)] }
def VarsMakesSaid : Prop := varsMakesRow.holds Tryd.pinned (OpenSpec.ofChange varsMakesSpec)

/-- ITS FALSE NEIGHBOUR: 'it returns false'. Refute it at one input. -/
def varsMakesWrong : ChangeSpec := { name := "varsMakes", fn := fun _ => fun
  | [d1, d2] => { results := [.lit (.bool false)], args := [d1, d2] }
  | _ => none }
def VarsMakesWrongFalsely : Prop := varsMakesRow.holds Tryd.pinned (OpenSpec.ofChange varsMakesWrong)

/-- 'censuslaw03.VarsChanges': WHATEVER THE INPUT: true; the input reads as it did. -/
def varsChangesSpec : ChangeSpec := { name := "varsChanges", fn := fun _ => fun
  | [d1, d2] => { results := [.lit (.bool true)], args := [d1, d2] }
  | _ => none }
def varsChangesRow : OpenClaim := { program := "ytpfappojeneecaadoor", sum := "14ea66ff799cd4ab0c18c87e851ba6524233ddbf509b8baf2f43c62509a5b183", func := "census/censuslaw03.VarsChanges", spec := "varsChanges", named := ["math/bits.deBruijn64tab"], apart := false, laid := [("math/bits.deBruijn64tab", laid_math_bits_deBruijn64tab)] }
def VarsChangesSaid : Prop := varsChangesRow.holds Tryd.pinned (OpenSpec.ofChange varsChangesSpec)

/-- ITS FALSE NEIGHBOUR: 'it returns false'. Refute it at one input. -/
def varsChangesWrong : ChangeSpec := { name := "varsChanges", fn := fun _ => fun
  | [d1, d2] => { results := [.lit (.bool false)], args := [d1, d2] }
  | _ => none }
def VarsChangesWrongFalsely : Prop := varsChangesRow.holds Tryd.pinned (OpenSpec.ofChange varsChangesWrong)

/-- 'censuslaw03.VarsJoins': WHATEVER THE INPUT: true; the input reads as it did. -/
def varsJoinsSpec : ChangeSpec := { name := "varsJoins", fn := fun _ => fun
  | [d1, d2] => { results := [.lit (.bool true)], args := [d1, d2] }
  | _ => none }
def varsJoinsRow : OpenClaim := { program := "ytpfappojeneecaadoor", sum := "14ea66ff799cd4ab0c18c87e851ba6524233ddbf509b8baf2f43c62509a5b183", func := "census/censuslaw03.VarsJoins", spec := "varsJoins", named := ["math/bits.deBruijn64tab"], apart := false, laid := [("math/bits.deBruijn64tab", laid_math_bits_deBruijn64tab)] }
def VarsJoinsSaid : Prop := varsJoinsRow.holds Tryd.pinned (OpenSpec.ofChange varsJoinsSpec)

/-- ITS FALSE NEIGHBOUR: 'it returns false'. Refute it at one input. -/
def varsJoinsWrong : ChangeSpec := { name := "varsJoins", fn := fun _ => fun
  | [d1, d2] => { results := [.lit (.bool false)], args := [d1, d2] }
  | _ => none }
def VarsJoinsWrongFalsely : Prop := varsJoinsRow.holds Tryd.pinned (OpenSpec.ofChange varsJoinsWrong)

/-- 'censuslaw03.VarsLists': WHATEVER THE INPUT: true; the input reads as it did. -/
def varsListsSpec : ChangeSpec := { name := "varsLists", fn := fun _ => fun
  | [d] => { results := [.lit (.bool true)], args := [d] }
  | _ => none }
def varsListsRow : OpenClaim := { program := "ytpfappojeneecaadoor", sum := "14ea66ff799cd4ab0c18c87e851ba6524233ddbf509b8baf2f43c62509a5b183", func := "census/censuslaw03.VarsLists", spec := "varsLists", unfollowed := true, recurses := true, named := ["math/bits.deBruijn64tab"], apart := false, laid := [("math/bits.deBruijn64tab", laid_math_bits_deBruijn64tab)] }
def VarsListsSaid : Prop := varsListsRow.holds Tryd.pinned (OpenSpec.ofChange varsListsSpec)

/-- ITS FALSE NEIGHBOUR: 'it returns false'. Refute it at one input. -/
def varsListsWrong : ChangeSpec := { name := "varsLists", fn := fun _ => fun
  | [d] => { results := [.lit (.bool false)], args := [d] }
  | _ => none }
def VarsListsWrongFalsely : Prop := varsListsRow.holds Tryd.pinned (OpenSpec.ofChange varsListsWrong)

/-- 'censuslaw03.VarsOrders': WHATEVER THE INPUT: true; the input reads as it did. -/
def varsOrdersSpec : ChangeSpec := { name := "varsOrders", fn := fun _ => fun
  | [d1, d2] => { results := [.lit (.bool true)], args := [d1, d2] }
  | _ => none }
def varsOrdersRow : OpenClaim := { program := "ytpfappojeneecaadoor", sum := "14ea66ff799cd4ab0c18c87e851ba6524233ddbf509b8baf2f43c62509a5b183", func := "census/censuslaw03.VarsOrders", spec := "varsOrders", named := ["math/bits.deBruijn64tab"], apart := false, laid := [("math/bits.deBruijn64tab", laid_math_bits_deBruijn64tab)] }
def VarsOrdersSaid : Prop := varsOrdersRow.holds Tryd.pinned (OpenSpec.ofChange varsOrdersSpec)

/-- ITS FALSE NEIGHBOUR: 'it returns false'. Refute it at one input. -/
def varsOrdersWrong : ChangeSpec := { name := "varsOrders", fn := fun _ => fun
  | [d1, d2] => { results := [.lit (.bool false)], args := [d1, d2] }
  | _ => none }
def VarsOrdersWrongFalsely : Prop := varsOrdersRow.holds Tryd.pinned (OpenSpec.ofChange varsOrdersWrong)

/-- 'censuslaw03.VarsLaws': WHATEVER THE INPUT: true; the input reads as it did. -/
def varsLawsSpec : ChangeSpec := { name := "varsLaws", fn := fun _ => fun
  | [d1, d2, d3] => { results := [.lit (.bool true)], args := [d1, d2, d3] }
  | _ => none }
def varsLawsRow : OpenClaim := { program := "ytpfappojeneecaadoor", sum := "14ea66ff799cd4ab0c18c87e851ba6524233ddbf509b8baf2f43c62509a5b183", func := "census/censuslaw03.VarsLaws", spec := "varsLaws", named := ["math/bits.deBruijn64tab"], apart := false, laid := [("math/bits.deBruijn64tab", laid_math_bits_deBruijn64tab)] }
def VarsLawsSaid : Prop := varsLawsRow.holds Tryd.pinned (OpenSpec.ofChange varsLawsSpec)

/-- ITS FALSE NEIGHBOUR: 'it returns false'. Refute it at one input. -/
def varsLawsWrong : ChangeSpec := { name := "varsLaws", fn := fun _ => fun
  | [d1, d2, d3] => { results := [.lit (.bool false)], args := [d1, d2, d3] }
  | _ => none }
def VarsLawsWrongFalsely : Prop := varsLawsRow.holds Tryd.pinned (OpenSpec.ofChange varsLawsWrong)

/-- 'censuslaw03.VarsTotal': WHATEVER THE INPUT: true; the input reads as it did. -/
def varsTotalSpec : ChangeSpec := { name := "varsTotal", fn := fun _ => fun
  | [d1, d2, d3] => { results := [.lit (.bool true)], args := [d1, d2, d3] }
  | _ => none }
def varsTotalRow : OpenClaim := { program := "ytpfappojeneecaadoor", sum := "14ea66ff799cd4ab0c18c87e851ba6524233ddbf509b8baf2f43c62509a5b183", func := "census/censuslaw03.VarsTotal", spec := "varsTotal", named := ["math/bits.deBruijn64tab"], apart := false, laid := [("math/bits.deBruijn64tab", laid_math_bits_deBruijn64tab)] }
def VarsTotalSaid : Prop := varsTotalRow.holds Tryd.pinned (OpenSpec.ofChange varsTotalSpec)

/-- ITS FALSE NEIGHBOUR: 'it returns false'. Refute it at one input. -/
def varsTotalWrong : ChangeSpec := { name := "varsTotal", fn := fun _ => fun
  | [d1, d2, d3] => { results := [.lit (.bool false)], args := [d1, d2, d3] }
  | _ => none }
def VarsTotalWrongFalsely : Prop := varsTotalRow.holds Tryd.pinned (OpenSpec.ofChange varsTotalWrong)

/-- 'censuslaw03.VarsBack': WHATEVER THE INPUT: true; the input reads as it did. -/
def varsBackSpec : ChangeSpec := { name := "varsBack", fn := fun _ => fun
  | [d1, d2] => { results := [.lit (.bool true)], args := [d1, d2] }
  | _ => none }
def varsBackRow : OpenClaim := { program := "ytpfappojeneecaadoor", sum := "14ea66ff799cd4ab0c18c87e851ba6524233ddbf509b8baf2f43c62509a5b183", func := "census/censuslaw03.VarsBack", spec := "varsBack", unfollowed := true, recurses := true, named := ["math/bits.deBruijn64tab"], apart := false, laid := [("math/bits.deBruijn64tab", laid_math_bits_deBruijn64tab)] }
def VarsBackSaid : Prop := varsBackRow.holds Tryd.pinned (OpenSpec.ofChange varsBackSpec)

/-- ITS FALSE NEIGHBOUR: 'it returns false'. Refute it at one input. -/
def varsBackWrong : ChangeSpec := { name := "varsBack", fn := fun _ => fun
  | [d1, d2] => { results := [.lit (.bool false)], args := [d1, d2] }
  | _ => none }
def VarsBackWrongFalsely : Prop := varsBackRow.holds Tryd.pinned (OpenSpec.ofChange varsBackWrong)

/-- 'censuslaw03.VarsOne': WHATEVER THE INPUT: true; the input reads as it did. -/
def varsOneSpec : ChangeSpec := { name := "varsOne", fn := fun _ => fun
  | [d1, d2, d3] => { results := [.lit (.bool true)], args := [d1, d2, d3] }
  | _ => none }
def varsOneRow : OpenClaim := { program := "ytpfappojeneecaadoor", sum := "14ea66ff799cd4ab0c18c87e851ba6524233ddbf509b8baf2f43c62509a5b183", func := "census/censuslaw03.VarsOne", spec := "varsOne", named := ["math/bits.deBruijn64tab"], apart := false, laid := [("math/bits.deBruijn64tab", laid_math_bits_deBruijn64tab)] }
def VarsOneSaid : Prop := varsOneRow.holds Tryd.pinned (OpenSpec.ofChange varsOneSpec)

/-- ITS FALSE NEIGHBOUR: 'it returns false'. Refute it at one input. -/
def varsOneWrong : ChangeSpec := { name := "varsOne", fn := fun _ => fun
  | [d1, d2, d3] => { results := [.lit (.bool false)], args := [d1, d2, d3] }
  | _ => none }
def VarsOneWrongFalsely : Prop := varsOneRow.holds Tryd.pinned (OpenSpec.ofChange varsOneWrong)

/-- 'censuslaw03.VarsKnown': WHATEVER THE INPUT: true; the input reads as it did. -/
def varsKnownSpec : ChangeSpec := { name := "varsKnown", fn := fun _ => fun
  | [] => { results := [.lit (.bool true)], args := [] }
  | _ => none }
def varsKnownRow : OpenClaim := { program := "ytpfappojeneecaadoor", sum := "14ea66ff799cd4ab0c18c87e851ba6524233ddbf509b8baf2f43c62509a5b183", func := "census/censuslaw03.VarsKnown", spec := "varsKnown", unfollowed := true, recurses := true, named := ["math/bits.deBruijn64tab"], apart := false, laid := [("math/bits.deBruijn64tab", laid_math_bits_deBruijn64tab)] }
def VarsKnownSaid : Prop := varsKnownRow.holds Tryd.pinned (OpenSpec.ofChange varsKnownSpec)

/-- ITS FALSE NEIGHBOUR: 'it returns false'. Refute it at one input. -/
def varsKnownWrong : ChangeSpec := { name := "varsKnown", fn := fun _ => fun
  | [] => { results := [.lit (.bool false)], args := [] }
  | _ => none }
def VarsKnownWrongFalsely : Prop := varsKnownRow.holds Tryd.pinned (OpenSpec.ofChange varsKnownWrong)

/- THE SECOND FORM. 'bulk': how many values and letters a reading holds, each counted each time it is reached (what is shared counts as often as it is met; a slice's spare places count too). A statement '..UptoSaid' is the law's where the arguments, and the package variables that the reading takes, are together of bulk at most 1048576: NARROWER than '..Said'. Prove '..Said' where nothing that the law and all that it calls make is longer than what came in: it says more and counts as full. Else prove '..UptoSaid'. A law counts once. -/
mutual
def uptoBulk {H : Type} : DataW H → Nat
  | .lit (.string bytes) => bytes.length + 1
  | .lit _ => 1
  | .nil => 1
  | .ptr d => uptoBulk d + 1
  | .slice elems spare => uptoBulkAll elems + uptoBulkAll spare + 1
  | .agg parts => uptoBulkAll parts + 1
  | .iface _ d => uptoBulk d + 1
  | .map entries => uptoBulkEntries entries + 1
  | .held _ => 1
def uptoBulkAll {H : Type} : List (DataW H) → Nat
  | [] => 0
  | d :: r => uptoBulk d + uptoBulkAll r
def uptoBulkEntries {H : Type} : List (Lit × DataW H) → Nat
  | [] => 0
  | x :: r => uptoBulkEntry x + uptoBulkEntries r
def uptoBulkEntry {H : Type} : Lit × DataW H → Nat
  | (.string bytes, d) => bytes.length + uptoBulk d + 1
  | (_, d) => uptoBulk d + 1
 end
def uptoSmall : (H : Type) → List (DataW H) → Bool := fun _ ds => decide (uptoBulkAll ds ≤ 1048576)
def OpenSpec.upto (s : _root_.Go.ChangeSpec) : _root_.Go.OpenSpec := { _root_.Go.OpenSpec.ofChange s with cond := some uptoSmall }

/-- 'censuslaw03.VarsMakes', WHERE WHAT IT READS IS OF BULK AT MOST 1048576: true; the input reads as it did. -/
def varsMakesUptoRow : OpenClaim := { program := "ytpfappojeneecaadoor", sum := "14ea66ff799cd4ab0c18c87e851ba6524233ddbf509b8baf2f43c62509a5b183", func := "census/censuslaw03.VarsMakes", spec := "varsMakes", named := ["math/bits.deBruijn64tab"], apart := false, laid := [("math/bits.deBruijn64tab", laid_math_bits_deBruijn64tab)], narrowed := true }
def VarsMakesUptoSaid : Prop := varsMakesUptoRow.holds Tryd.pinned (OpenSpec.upto varsMakesSpec)

/-- 'censuslaw03.VarsChanges', WHERE WHAT IT READS IS OF BULK AT MOST 1048576: true; the input reads as it did. -/
def varsChangesUptoRow : OpenClaim := { program := "ytpfappojeneecaadoor", sum := "14ea66ff799cd4ab0c18c87e851ba6524233ddbf509b8baf2f43c62509a5b183", func := "census/censuslaw03.VarsChanges", spec := "varsChanges", named := ["math/bits.deBruijn64tab"], apart := false, laid := [("math/bits.deBruijn64tab", laid_math_bits_deBruijn64tab)], narrowed := true }
def VarsChangesUptoSaid : Prop := varsChangesUptoRow.holds Tryd.pinned (OpenSpec.upto varsChangesSpec)

/-- 'censuslaw03.VarsJoins', WHERE WHAT IT READS IS OF BULK AT MOST 1048576: true; the input reads as it did. -/
def varsJoinsUptoRow : OpenClaim := { program := "ytpfappojeneecaadoor", sum := "14ea66ff799cd4ab0c18c87e851ba6524233ddbf509b8baf2f43c62509a5b183", func := "census/censuslaw03.VarsJoins", spec := "varsJoins", named := ["math/bits.deBruijn64tab"], apart := false, laid := [("math/bits.deBruijn64tab", laid_math_bits_deBruijn64tab)], narrowed := true }
def VarsJoinsUptoSaid : Prop := varsJoinsUptoRow.holds Tryd.pinned (OpenSpec.upto varsJoinsSpec)

/-- 'censuslaw03.VarsLists', WHERE WHAT IT READS IS OF BULK AT MOST 1048576: true; the input reads as it did. -/
def varsListsUptoRow : OpenClaim := { program := "ytpfappojeneecaadoor", sum := "14ea66ff799cd4ab0c18c87e851ba6524233ddbf509b8baf2f43c62509a5b183", func := "census/censuslaw03.VarsLists", spec := "varsLists", unfollowed := true, recurses := true, named := ["math/bits.deBruijn64tab"], apart := false, laid := [("math/bits.deBruijn64tab", laid_math_bits_deBruijn64tab)], narrowed := true }
def VarsListsUptoSaid : Prop := varsListsUptoRow.holds Tryd.pinned (OpenSpec.upto varsListsSpec)

/-- 'censuslaw03.VarsOrders', WHERE WHAT IT READS IS OF BULK AT MOST 1048576: true; the input reads as it did. -/
def varsOrdersUptoRow : OpenClaim := { program := "ytpfappojeneecaadoor", sum := "14ea66ff799cd4ab0c18c87e851ba6524233ddbf509b8baf2f43c62509a5b183", func := "census/censuslaw03.VarsOrders", spec := "varsOrders", named := ["math/bits.deBruijn64tab"], apart := false, laid := [("math/bits.deBruijn64tab", laid_math_bits_deBruijn64tab)], narrowed := true }
def VarsOrdersUptoSaid : Prop := varsOrdersUptoRow.holds Tryd.pinned (OpenSpec.upto varsOrdersSpec)

/-- 'censuslaw03.VarsLaws', WHERE WHAT IT READS IS OF BULK AT MOST 1048576: true; the input reads as it did. -/
def varsLawsUptoRow : OpenClaim := { program := "ytpfappojeneecaadoor", sum := "14ea66ff799cd4ab0c18c87e851ba6524233ddbf509b8baf2f43c62509a5b183", func := "census/censuslaw03.VarsLaws", spec := "varsLaws", named := ["math/bits.deBruijn64tab"], apart := false, laid := [("math/bits.deBruijn64tab", laid_math_bits_deBruijn64tab)], narrowed := true }
def VarsLawsUptoSaid : Prop := varsLawsUptoRow.holds Tryd.pinned (OpenSpec.upto varsLawsSpec)

/-- 'censuslaw03.VarsTotal', WHERE WHAT IT READS IS OF BULK AT MOST 1048576: true; the input reads as it did. -/
def varsTotalUptoRow : OpenClaim := { program := "ytpfappojeneecaadoor", sum := "14ea66ff799cd4ab0c18c87e851ba6524233ddbf509b8baf2f43c62509a5b183", func := "census/censuslaw03.VarsTotal", spec := "varsTotal", named := ["math/bits.deBruijn64tab"], apart := false, laid := [("math/bits.deBruijn64tab", laid_math_bits_deBruijn64tab)], narrowed := true }
def VarsTotalUptoSaid : Prop := varsTotalUptoRow.holds Tryd.pinned (OpenSpec.upto varsTotalSpec)

/-- 'censuslaw03.VarsBack', WHERE WHAT IT READS IS OF BULK AT MOST 1048576: true; the input reads as it did. -/
def varsBackUptoRow : OpenClaim := { program := "ytpfappojeneecaadoor", sum := "14ea66ff799cd4ab0c18c87e851ba6524233ddbf509b8baf2f43c62509a5b183", func := "census/censuslaw03.VarsBack", spec := "varsBack", unfollowed := true, recurses := true, named := ["math/bits.deBruijn64tab"], apart := false, laid := [("math/bits.deBruijn64tab", laid_math_bits_deBruijn64tab)], narrowed := true }
def VarsBackUptoSaid : Prop := varsBackUptoRow.holds Tryd.pinned (OpenSpec.upto varsBackSpec)

/-- 'censuslaw03.VarsOne', WHERE WHAT IT READS IS OF BULK AT MOST 1048576: true; the input reads as it did. -/
def varsOneUptoRow : OpenClaim := { program := "ytpfappojeneecaadoor", sum := "14ea66ff799cd4ab0c18c87e851ba6524233ddbf509b8baf2f43c62509a5b183", func := "census/censuslaw03.VarsOne", spec := "varsOne", named := ["math/bits.deBruijn64tab"], apart := false, laid := [("math/bits.deBruijn64tab", laid_math_bits_deBruijn64tab)], narrowed := true }
def VarsOneUptoSaid : Prop := varsOneUptoRow.holds Tryd.pinned (OpenSpec.upto varsOneSpec)

/-- 'censuslaw03.VarsKnown', WHERE WHAT IT READS IS OF BULK AT MOST 1048576: true; the input reads as it did. -/
def varsKnownUptoRow : OpenClaim := { program := "ytpfappojeneecaadoor", sum := "14ea66ff799cd4ab0c18c87e851ba6524233ddbf509b8baf2f43c62509a5b183", func := "census/censuslaw03.VarsKnown", spec := "varsKnown", unfollowed := true, recurses := true, named := ["math/bits.deBruijn64tab"], apart := false, laid := [("math/bits.deBruijn64tab", laid_math_bits_deBruijn64tab)], narrowed := true }
def VarsKnownUptoSaid : Prop := varsKnownUptoRow.holds Tryd.pinned (OpenSpec.upto varsKnownSpec)

end Rows
end Go.Proofs.YtpfappojeneecaaDoor
