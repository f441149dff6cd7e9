/-
  No cell of these rows narrows 'for every input' (looked for: loops, veiled, ifaces, maps, wideKeys, modest, calm, conditions, laid).
  DERIVED. THE GIVEN ROWS OF THIS SEAT. 12 by the template 'for every input the law returns true; each argument reads behind the call as it read before'; 0 by the template 'total and deterministic' (their statements: YtalpbpcanebbbaaTotals.lean).
  GIVEN WITH THE SEED: the statements are not yours to turn. If you find one false, say at which input.
  Laid BY PROGRAM, IN A SANDBOX (cutbox-rows.mjs): the forced cells as the released guide's own fill.sh prints them over the translation 952ba78fca127878… (all of the seat's roots in one cut). By AI agents, Wed Nov 11 2026. No macro, syntax, notation, axiom, sorry.
-/
import Derived.Test.YtalpbpcanebbbaaChecked
import GoSem.Claim
import GoSem.ClaimJoined
import GoSem.ClaimMapViews
import Derived.JoinedTies
import Derived.KernelRfl
namespace Go.Proofs.Ytalpbpcanebbbaa
/- THE CELL 'sum', in the pinned program and in every row, IS THE sha256 OF THE DUMP (.gsa) THAT YtalpbpcanebbbaaProg.lean LOADS. Nothing in Lean hashes anything: it is a label: what it is worth is what the hold of that sum in a sandbox is worth. -/
noncomputable def Try.pinned : Pinned := { name := "ytalpbpcanebbbaa", sum := "952ba78fca12787896fdc6a15bd1cb97c06010afe5823675dcc9d5507b0953d3", checked := Try.checked }
namespace Rows
def none {H : Type} : Left H := { results := [], args := [] }

/-- 'censuslaw05.TheoryChecks': WHATEVER THE INPUT: true; the input reads as it did. -/
def theoryChecksSpec : ChangeSpec := { name := "theoryChecks", fn := fun _ => fun
  | [d] => { results := [.lit (.bool true)], args := [d] }
  | _ => none }
def theoryChecksRow : OpenClaim := { program := "ytalpbpcanebbbaa", sum := "952ba78fca12787896fdc6a15bd1cb97c06010afe5823675dcc9d5507b0953d3", func := "census/censuslaw05.TheoryChecks", spec := "theoryChecks", unfollowed := true, recurses := true, apart := false }
def TheoryChecksSaid : Prop := theoryChecksRow.holds Try.pinned (OpenSpec.ofChange theoryChecksSpec)

/-- ITS FALSE NEIGHBOUR: 'it returns false'. Refute it at one input. -/
def theoryChecksWrong : ChangeSpec := { name := "theoryChecks", fn := fun _ => fun
  | [d] => { results := [.lit (.bool false)], args := [d] }
  | _ => none }
def TheoryChecksWrongFalsely : Prop := theoryChecksRow.holds Try.pinned (OpenSpec.ofChange theoryChecksWrong)

/-- 'censuslaw05.TheoryNormals': WHATEVER THE INPUT: true; the input reads as it did. -/
def theoryNormalsSpec : ChangeSpec := { name := "theoryNormals", fn := fun _ => fun
  | [d] => { results := [.lit (.bool true)], args := [d] }
  | _ => none }
def theoryNormalsRow : OpenClaim := { program := "ytalpbpcanebbbaa", sum := "952ba78fca12787896fdc6a15bd1cb97c06010afe5823675dcc9d5507b0953d3", func := "census/censuslaw05.TheoryNormals", spec := "theoryNormals", unfollowed := true, recurses := true, apart := false }
def TheoryNormalsSaid : Prop := theoryNormalsRow.holds Try.pinned (OpenSpec.ofChange theoryNormalsSpec)

/-- ITS FALSE NEIGHBOUR: 'it returns false'. Refute it at one input. -/
def theoryNormalsWrong : ChangeSpec := { name := "theoryNormals", fn := fun _ => fun
  | [d] => { results := [.lit (.bool false)], args := [d] }
  | _ => none }
def TheoryNormalsWrongFalsely : Prop := theoryNormalsRow.holds Try.pinned (OpenSpec.ofChange theoryNormalsWrong)

/-- 'censuslaw05.TheoryEvals': WHATEVER THE INPUT: true; the input reads as it did. -/
def theoryEvalsSpec : ChangeSpec := { name := "theoryEvals", fn := fun _ => fun
  | [d1, d2] => { results := [.lit (.bool true)], args := [d1, d2] }
  | _ => none }
def theoryEvalsRow : OpenClaim := { program := "ytalpbpcanebbbaa", sum := "952ba78fca12787896fdc6a15bd1cb97c06010afe5823675dcc9d5507b0953d3", func := "census/censuslaw05.TheoryEvals", spec := "theoryEvals", unfollowed := true, recurses := true, apart := false }
def TheoryEvalsSaid : Prop := theoryEvalsRow.holds Try.pinned (OpenSpec.ofChange theoryEvalsSpec)

/-- ITS FALSE NEIGHBOUR: 'it returns false'. Refute it at one input. -/
def theoryEvalsWrong : ChangeSpec := { name := "theoryEvals", fn := fun _ => fun
  | [d1, d2] => { results := [.lit (.bool false)], args := [d1, d2] }
  | _ => none }
def TheoryEvalsWrongFalsely : Prop := theoryEvalsRow.holds Try.pinned (OpenSpec.ofChange theoryEvalsWrong)

/-- 'censuslaw05.TheoryGivens': WHATEVER THE INPUT: true; the input reads as it did. -/
def theoryGivensSpec : ChangeSpec := { name := "theoryGivens", fn := fun _ => fun
  | [d1, d2] => { results := [.lit (.bool true)], args := [d1, d2] }
  | _ => none }
def theoryGivensRow : OpenClaim := { program := "ytalpbpcanebbbaa", sum := "952ba78fca12787896fdc6a15bd1cb97c06010afe5823675dcc9d5507b0953d3", func := "census/censuslaw05.TheoryGivens", spec := "theoryGivens", unfollowed := true, recurses := true, apart := false }
def TheoryGivensSaid : Prop := theoryGivensRow.holds Try.pinned (OpenSpec.ofChange theoryGivensSpec)

/-- ITS FALSE NEIGHBOUR: 'it returns false'. Refute it at one input. -/
def theoryGivensWrong : ChangeSpec := { name := "theoryGivens", fn := fun _ => fun
  | [d1, d2] => { results := [.lit (.bool false)], args := [d1, d2] }
  | _ => none }
def TheoryGivensWrongFalsely : Prop := theoryGivensRow.holds Try.pinned (OpenSpec.ofChange theoryGivensWrong)

/-- 'censuslaw05.TheoryJoins': WHATEVER THE INPUT: true; the input reads as it did. -/
def theoryJoinsSpec : ChangeSpec := { name := "theoryJoins", fn := fun _ => fun
  | [d1, d2] => { results := [.lit (.bool true)], args := [d1, d2] }
  | _ => none }
def theoryJoinsRow : OpenClaim := { program := "ytalpbpcanebbbaa", sum := "952ba78fca12787896fdc6a15bd1cb97c06010afe5823675dcc9d5507b0953d3", func := "census/censuslaw05.TheoryJoins", spec := "theoryJoins", unfollowed := true, recurses := true, apart := false }
def TheoryJoinsSaid : Prop := theoryJoinsRow.holds Try.pinned (OpenSpec.ofChange theoryJoinsSpec)

/-- ITS FALSE NEIGHBOUR: 'it returns false'. Refute it at one input. -/
def theoryJoinsWrong : ChangeSpec := { name := "theoryJoins", fn := fun _ => fun
  | [d1, d2] => { results := [.lit (.bool false)], args := [d1, d2] }
  | _ => none }
def TheoryJoinsWrongFalsely : Prop := theoryJoinsRow.holds Try.pinned (OpenSpec.ofChange theoryJoinsWrong)

/-- 'censuslaw05.TheoryLimits': WHATEVER THE INPUT: true; the input reads as it did. -/
def theoryLimitsSpec : ChangeSpec := { name := "theoryLimits", fn := fun _ => fun
  | [d1, d2, d3] => { results := [.lit (.bool true)], args := [d1, d2, d3] }
  | _ => none }
def theoryLimitsRow : OpenClaim := { program := "ytalpbpcanebbbaa", sum := "952ba78fca12787896fdc6a15bd1cb97c06010afe5823675dcc9d5507b0953d3", func := "census/censuslaw05.TheoryLimits", spec := "theoryLimits", unfollowed := true, recurses := true, apart := false }
def TheoryLimitsSaid : Prop := theoryLimitsRow.holds Try.pinned (OpenSpec.ofChange theoryLimitsSpec)

/-- ITS FALSE NEIGHBOUR: 'it returns false'. Refute it at one input. -/
def theoryLimitsWrong : ChangeSpec := { name := "theoryLimits", fn := fun _ => fun
  | [d1, d2, d3] => { results := [.lit (.bool false)], args := [d1, d2, d3] }
  | _ => none }
def TheoryLimitsWrongFalsely : Prop := theoryLimitsRow.holds Try.pinned (OpenSpec.ofChange theoryLimitsWrong)

/-- 'censuslaw05.TheorySame': WHATEVER THE INPUT: true; the input reads as it did. -/
def theorySameSpec : ChangeSpec := { name := "theorySame", fn := fun _ => fun
  | [d1, d2] => { results := [.lit (.bool true)], args := [d1, d2] }
  | _ => none }
def theorySameRow : OpenClaim := { program := "ytalpbpcanebbbaa", sum := "952ba78fca12787896fdc6a15bd1cb97c06010afe5823675dcc9d5507b0953d3", func := "census/censuslaw05.TheorySame", spec := "theorySame", unfollowed := true, recurses := true, apart := false }
def TheorySameSaid : Prop := theorySameRow.holds Try.pinned (OpenSpec.ofChange theorySameSpec)

/-- ITS FALSE NEIGHBOUR: 'it returns false'. Refute it at one input. -/
def theorySameWrong : ChangeSpec := { name := "theorySame", fn := fun _ => fun
  | [d1, d2] => { results := [.lit (.bool false)], args := [d1, d2] }
  | _ => none }
def TheorySameWrongFalsely : Prop := theorySameRow.holds Try.pinned (OpenSpec.ofChange theorySameWrong)

/-- 'censuslaw05.TheoryOrder': WHATEVER THE INPUT: true; the input reads as it did. -/
def theoryOrderSpec : ChangeSpec := { name := "theoryOrder", fn := fun _ => fun
  | [d1, d2, d3] => { results := [.lit (.bool true)], args := [d1, d2, d3] }
  | _ => none }
def theoryOrderRow : OpenClaim := { program := "ytalpbpcanebbbaa", sum := "952ba78fca12787896fdc6a15bd1cb97c06010afe5823675dcc9d5507b0953d3", func := "census/censuslaw05.TheoryOrder", spec := "theoryOrder", unfollowed := true, recurses := true, apart := false }
def TheoryOrderSaid : Prop := theoryOrderRow.holds Try.pinned (OpenSpec.ofChange theoryOrderSpec)

/-- ITS FALSE NEIGHBOUR: 'it returns false'. Refute it at one input. -/
def theoryOrderWrong : ChangeSpec := { name := "theoryOrder", fn := fun _ => fun
  | [d1, d2, d3] => { results := [.lit (.bool false)], args := [d1, d2, d3] }
  | _ => none }
def TheoryOrderWrongFalsely : Prop := theoryOrderRow.holds Try.pinned (OpenSpec.ofChange theoryOrderWrong)

/-- 'censuslaw05.TheoryConditions': WHATEVER THE INPUT: true; the input reads as it did. -/
def theoryConditionsSpec : ChangeSpec := { name := "theoryConditions", fn := fun _ => fun
  | [d1, d2, d3, d4] => { results := [.lit (.bool true)], args := [d1, d2, d3, d4] }
  | _ => none }
def theoryConditionsRow : OpenClaim := { program := "ytalpbpcanebbbaa", sum := "952ba78fca12787896fdc6a15bd1cb97c06010afe5823675dcc9d5507b0953d3", func := "census/censuslaw05.TheoryConditions", spec := "theoryConditions", unfollowed := true, recurses := true, apart := false }
def TheoryConditionsSaid : Prop := theoryConditionsRow.holds Try.pinned (OpenSpec.ofChange theoryConditionsSpec)

/-- ITS FALSE NEIGHBOUR: 'it returns false'. Refute it at one input. -/
def theoryConditionsWrong : ChangeSpec := { name := "theoryConditions", fn := fun _ => fun
  | [d1, d2, d3, d4] => { results := [.lit (.bool false)], args := [d1, d2, d3, d4] }
  | _ => none }
def TheoryConditionsWrongFalsely : Prop := theoryConditionsRow.holds Try.pinned (OpenSpec.ofChange theoryConditionsWrong)

/-- 'censuslaw05.TheoryTwice': WHATEVER THE INPUT: true; the input reads as it did. -/
def theoryTwiceSpec : ChangeSpec := { name := "theoryTwice", fn := fun _ => fun
  | [d1, d2, d3, d4] => { results := [.lit (.bool true)], args := [d1, d2, d3, d4] }
  | _ => none }
def theoryTwiceRow : OpenClaim := { program := "ytalpbpcanebbbaa", sum := "952ba78fca12787896fdc6a15bd1cb97c06010afe5823675dcc9d5507b0953d3", func := "census/censuslaw05.TheoryTwice", spec := "theoryTwice", unfollowed := true, recurses := true, apart := false }
def TheoryTwiceSaid : Prop := theoryTwiceRow.holds Try.pinned (OpenSpec.ofChange theoryTwiceSpec)

/-- ITS FALSE NEIGHBOUR: 'it returns false'. Refute it at one input. -/
def theoryTwiceWrong : ChangeSpec := { name := "theoryTwice", fn := fun _ => fun
  | [d1, d2, d3, d4] => { results := [.lit (.bool false)], args := [d1, d2, d3, d4] }
  | _ => none }
def TheoryTwiceWrongFalsely : Prop := theoryTwiceRow.holds Try.pinned (OpenSpec.ofChange theoryTwiceWrong)

/-- 'censuslaw05.TheoryBoth': WHATEVER THE INPUT: true; the input reads as it did. -/
def theoryBothSpec : ChangeSpec := { name := "theoryBoth", fn := fun _ => fun
  | [d1, d2, d3, d4] => { results := [.lit (.bool true)], args := [d1, d2, d3, d4] }
  | _ => none }
def theoryBothRow : OpenClaim := { program := "ytalpbpcanebbbaa", sum := "952ba78fca12787896fdc6a15bd1cb97c06010afe5823675dcc9d5507b0953d3", func := "census/censuslaw05.TheoryBoth", spec := "theoryBoth", unfollowed := true, recurses := true, apart := false }
def TheoryBothSaid : Prop := theoryBothRow.holds Try.pinned (OpenSpec.ofChange theoryBothSpec)

/-- ITS FALSE NEIGHBOUR: 'it returns false'. Refute it at one input. -/
def theoryBothWrong : ChangeSpec := { name := "theoryBoth", fn := fun _ => fun
  | [d1, d2, d3, d4] => { results := [.lit (.bool false)], args := [d1, d2, d3, d4] }
  | _ => none }
def TheoryBothWrongFalsely : Prop := theoryBothRow.holds Try.pinned (OpenSpec.ofChange theoryBothWrong)

/-- 'censuslaw05.TheoryKnown': WHATEVER THE INPUT: true; the input reads as it did. -/
def theoryKnownSpec : ChangeSpec := { name := "theoryKnown", fn := fun _ => fun
  | [] => { results := [.lit (.bool true)], args := [] }
  | _ => none }
def theoryKnownRow : OpenClaim := { program := "ytalpbpcanebbbaa", sum := "952ba78fca12787896fdc6a15bd1cb97c06010afe5823675dcc9d5507b0953d3", func := "census/censuslaw05.TheoryKnown", spec := "theoryKnown", unfollowed := true, recurses := true, apart := false }
def TheoryKnownSaid : Prop := theoryKnownRow.holds Try.pinned (OpenSpec.ofChange theoryKnownSpec)

/-- ITS FALSE NEIGHBOUR: 'it returns false'. Refute it at one input. -/
def theoryKnownWrong : ChangeSpec := { name := "theoryKnown", fn := fun _ => fun
  | [] => { results := [.lit (.bool false)], args := [] }
  | _ => none }
def TheoryKnownWrongFalsely : Prop := theoryKnownRow.holds Try.pinned (OpenSpec.ofChange theoryKnownWrong)

/- THE SECOND FORM. 'bulk': how many values and letters a reading holds, each counted each time it is reached (what is shared counts as often as it is met; a slice's spare places count too). A statement '..UptoSaid' is the law's where the arguments, and the package variables that the reading takes, are together of bulk at most 1048576: NARROWER than '..Said'. Prove '..Said' where nothing that the law and all that it calls make is longer than what came in: it says more and counts as full. Else prove '..UptoSaid'. A law counts once. -/
mutual
def uptoBulk {H : Type} : DataW H → Nat
  | .lit (.string bytes) => bytes.length + 1
  | .lit _ => 1
  | .nil => 1
  | .ptr d => uptoBulk d + 1
  | .slice elems spare => uptoBulkAll elems + uptoBulkAll spare + 1
  | .agg parts => uptoBulkAll parts + 1
  | .iface _ d => uptoBulk d + 1
  | .map entries => uptoBulkEntries entries + 1
  | .held _ => 1
def uptoBulkAll {H : Type} : List (DataW H) → Nat
  | [] => 0
  | d :: r => uptoBulk d + uptoBulkAll r
def uptoBulkEntries {H : Type} : List (Lit × DataW H) → Nat
  | [] => 0
  | x :: r => uptoBulkEntry x + uptoBulkEntries r
def uptoBulkEntry {H : Type} : Lit × DataW H → Nat
  | (.string bytes, d) => bytes.length + uptoBulk d + 1
  | (_, d) => uptoBulk d + 1
 end
def uptoSmall : (H : Type) → List (DataW H) → Bool := fun _ ds => decide (uptoBulkAll ds ≤ 1048576)
def OpenSpec.upto (s : _root_.Go.ChangeSpec) : _root_.Go.OpenSpec := { _root_.Go.OpenSpec.ofChange s with cond := some uptoSmall }

/-- 'censuslaw05.TheoryChecks', WHERE WHAT IT READS IS OF BULK AT MOST 1048576: true; the input reads as it did. -/
def theoryChecksUptoRow : OpenClaim := { program := "ytalpbpcanebbbaa", sum := "952ba78fca12787896fdc6a15bd1cb97c06010afe5823675dcc9d5507b0953d3", func := "census/censuslaw05.TheoryChecks", spec := "theoryChecks", unfollowed := true, recurses := true, apart := false, narrowed := true }
def TheoryChecksUptoSaid : Prop := theoryChecksUptoRow.holds Try.pinned (OpenSpec.upto theoryChecksSpec)

/-- 'censuslaw05.TheoryNormals', WHERE WHAT IT READS IS OF BULK AT MOST 1048576: true; the input reads as it did. -/
def theoryNormalsUptoRow : OpenClaim := { program := "ytalpbpcanebbbaa", sum := "952ba78fca12787896fdc6a15bd1cb97c06010afe5823675dcc9d5507b0953d3", func := "census/censuslaw05.TheoryNormals", spec := "theoryNormals", unfollowed := true, recurses := true, apart := false, narrowed := true }
def TheoryNormalsUptoSaid : Prop := theoryNormalsUptoRow.holds Try.pinned (OpenSpec.upto theoryNormalsSpec)

/-- 'censuslaw05.TheoryEvals', WHERE WHAT IT READS IS OF BULK AT MOST 1048576: true; the input reads as it did. -/
def theoryEvalsUptoRow : OpenClaim := { program := "ytalpbpcanebbbaa", sum := "952ba78fca12787896fdc6a15bd1cb97c06010afe5823675dcc9d5507b0953d3", func := "census/censuslaw05.TheoryEvals", spec := "theoryEvals", unfollowed := true, recurses := true, apart := false, narrowed := true }
def TheoryEvalsUptoSaid : Prop := theoryEvalsUptoRow.holds Try.pinned (OpenSpec.upto theoryEvalsSpec)

/-- 'censuslaw05.TheoryGivens', WHERE WHAT IT READS IS OF BULK AT MOST 1048576: true; the input reads as it did. -/
def theoryGivensUptoRow : OpenClaim := { program := "ytalpbpcanebbbaa", sum := "952ba78fca12787896fdc6a15bd1cb97c06010afe5823675dcc9d5507b0953d3", func := "census/censuslaw05.TheoryGivens", spec := "theoryGivens", unfollowed := true, recurses := true, apart := false, narrowed := true }
def TheoryGivensUptoSaid : Prop := theoryGivensUptoRow.holds Try.pinned (OpenSpec.upto theoryGivensSpec)

/-- 'censuslaw05.TheoryJoins', WHERE WHAT IT READS IS OF BULK AT MOST 1048576: true; the input reads as it did. -/
def theoryJoinsUptoRow : OpenClaim := { program := "ytalpbpcanebbbaa", sum := "952ba78fca12787896fdc6a15bd1cb97c06010afe5823675dcc9d5507b0953d3", func := "census/censuslaw05.TheoryJoins", spec := "theoryJoins", unfollowed := true, recurses := true, apart := false, narrowed := true }
def TheoryJoinsUptoSaid : Prop := theoryJoinsUptoRow.holds Try.pinned (OpenSpec.upto theoryJoinsSpec)

/-- 'censuslaw05.TheoryLimits', WHERE WHAT IT READS IS OF BULK AT MOST 1048576: true; the input reads as it did. -/
def theoryLimitsUptoRow : OpenClaim := { program := "ytalpbpcanebbbaa", sum := "952ba78fca12787896fdc6a15bd1cb97c06010afe5823675dcc9d5507b0953d3", func := "census/censuslaw05.TheoryLimits", spec := "theoryLimits", unfollowed := true, recurses := true, apart := false, narrowed := true }
def TheoryLimitsUptoSaid : Prop := theoryLimitsUptoRow.holds Try.pinned (OpenSpec.upto theoryLimitsSpec)

/-- 'censuslaw05.TheorySame', WHERE WHAT IT READS IS OF BULK AT MOST 1048576: true; the input reads as it did. -/
def theorySameUptoRow : OpenClaim := { program := "ytalpbpcanebbbaa", sum := "952ba78fca12787896fdc6a15bd1cb97c06010afe5823675dcc9d5507b0953d3", func := "census/censuslaw05.TheorySame", spec := "theorySame", unfollowed := true, recurses := true, apart := false, narrowed := true }
def TheorySameUptoSaid : Prop := theorySameUptoRow.holds Try.pinned (OpenSpec.upto theorySameSpec)

/-- 'censuslaw05.TheoryOrder', WHERE WHAT IT READS IS OF BULK AT MOST 1048576: true; the input reads as it did. -/
def theoryOrderUptoRow : OpenClaim := { program := "ytalpbpcanebbbaa", sum := "952ba78fca12787896fdc6a15bd1cb97c06010afe5823675dcc9d5507b0953d3", func := "census/censuslaw05.TheoryOrder", spec := "theoryOrder", unfollowed := true, recurses := true, apart := false, narrowed := true }
def TheoryOrderUptoSaid : Prop := theoryOrderUptoRow.holds Try.pinned (OpenSpec.upto theoryOrderSpec)

/-- 'censuslaw05.TheoryConditions', WHERE WHAT IT READS IS OF BULK AT MOST 1048576: true; the input reads as it did. -/
def theoryConditionsUptoRow : OpenClaim := { program := "ytalpbpcanebbbaa", sum := "952ba78fca12787896fdc6a15bd1cb97c06010afe5823675dcc9d5507b0953d3", func := "census/censuslaw05.TheoryConditions", spec := "theoryConditions", unfollowed := true, recurses := true, apart := false, narrowed := true }
def TheoryConditionsUptoSaid : Prop := theoryConditionsUptoRow.holds Try.pinned (OpenSpec.upto theoryConditionsSpec)

/-- 'censuslaw05.TheoryTwice', WHERE WHAT IT READS IS OF BULK AT MOST 1048576: true; the input reads as it did. -/
def theoryTwiceUptoRow : OpenClaim := { program := "ytalpbpcanebbbaa", sum := "952ba78fca12787896fdc6a15bd1cb97c06010afe5823675dcc9d5507b0953d3", func := "census/censuslaw05.TheoryTwice", spec := "theoryTwice", unfollowed := true, recurses := true, apart := false, narrowed := true }
def TheoryTwiceUptoSaid : Prop := theoryTwiceUptoRow.holds Try.pinned (OpenSpec.upto theoryTwiceSpec)

/-- 'censuslaw05.TheoryBoth', WHERE WHAT IT READS IS OF BULK AT MOST 1048576: true; the input reads as it did. -/
def theoryBothUptoRow : OpenClaim := { program := "ytalpbpcanebbbaa", sum := "952ba78fca12787896fdc6a15bd1cb97c06010afe5823675dcc9d5507b0953d3", func := "census/censuslaw05.TheoryBoth", spec := "theoryBoth", unfollowed := true, recurses := true, apart := false, narrowed := true }
def TheoryBothUptoSaid : Prop := theoryBothUptoRow.holds Try.pinned (OpenSpec.upto theoryBothSpec)

/-- 'censuslaw05.TheoryKnown', WHERE WHAT IT READS IS OF BULK AT MOST 1048576: true; the input reads as it did. -/
def theoryKnownUptoRow : OpenClaim := { program := "ytalpbpcanebbbaa", sum := "952ba78fca12787896fdc6a15bd1cb97c06010afe5823675dcc9d5507b0953d3", func := "census/censuslaw05.TheoryKnown", spec := "theoryKnown", unfollowed := true, recurses := true, apart := false, narrowed := true }
def TheoryKnownUptoSaid : Prop := theoryKnownUptoRow.holds Try.pinned (OpenSpec.upto theoryKnownSpec)

end Rows
end Go.Proofs.Ytalpbpcanebbbaa
