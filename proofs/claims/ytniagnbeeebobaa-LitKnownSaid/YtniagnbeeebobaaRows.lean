/-
  No cell of these rows narrows 'for every input' (looked for: loops, veiled, ifaces, maps, wideKeys, modest, calm, conditions, laid).
  DERIVED. THE GIVEN ROWS OF THIS SEAT. 9 by the template 'for every input the law returns true; each argument reads behind the call as it read before'; 0 by the template 'total and deterministic' (their statements: YtniagnbeeebobaaTotals.lean).
  GIVEN WITH THE SEED: the statements are not yours to turn. If you find one false, say at which input.
  Laid BY PROGRAM, IN A SANDBOX (cutbox-rows.mjs): the forced cells as the released guide's own fill.sh prints them over the translation eaf40193f6343c44… (all of the seat's roots in one cut). By AI agents, Wed Nov 11 2026. No macro, syntax, notation, axiom, sorry.
-/
import Derived.Test.YtniagnbeeebobaaChecked
import GoSem.Claim
import GoSem.ClaimJoined
import GoSem.ClaimMapViews
import Derived.JoinedTies
import Derived.KernelRfl
namespace Go.Proofs.Ytniagnbeeebobaa
/- THE CELL 'sum', in the pinned program and in every row, IS THE sha256 OF THE DUMP (.gsa) THAT YtniagnbeeebobaaProg.lean LOADS. Nothing in Lean hashes anything: it is a label: what it is worth is what the hold of that sum in a sandbox is worth. -/
noncomputable def Try.pinned : Pinned := { name := "ytniagnbeeebobaa", sum := "eaf40193f6343c44c2183a66d713ad79864aa64a7d786a69d45c1f67ca0bbf2f", checked := Try.checked }
namespace Rows
def none {H : Type} : Left H := { results := [], args := [] }

/-- 'censuslaw04.LitForms': WHATEVER THE INPUT: true; the input reads as it did. -/
def litFormsSpec : ChangeSpec := { name := "litForms", fn := fun _ => fun
  | [d1, d2] => { results := [.lit (.bool true)], args := [d1, d2] }
  | _ => none }
def litFormsRow : OpenClaim := { program := "ytniagnbeeebobaa", sum := "eaf40193f6343c44c2183a66d713ad79864aa64a7d786a69d45c1f67ca0bbf2f", func := "census/censuslaw04.LitForms", spec := "litForms", unfollowed := true, recurses := true, apart := false }
def LitFormsSaid : Prop := litFormsRow.holds Try.pinned (OpenSpec.ofChange litFormsSpec)

/-- ITS FALSE NEIGHBOUR: 'it returns false'. Refute it at one input. -/
def litFormsWrong : ChangeSpec := { name := "litForms", fn := fun _ => fun
  | [d1, d2] => { results := [.lit (.bool false)], args := [d1, d2] }
  | _ => none }
def LitFormsWrongFalsely : Prop := litFormsRow.holds Try.pinned (OpenSpec.ofChange litFormsWrong)

/-- 'censuslaw04.LitTerms': WHATEVER THE INPUT: true; the input reads as it did. -/
def litTermsSpec : ChangeSpec := { name := "litTerms", fn := fun _ => fun
  | [d1, d2] => { results := [.lit (.bool true)], args := [d1, d2] }
  | _ => none }
def litTermsRow : OpenClaim := { program := "ytniagnbeeebobaa", sum := "eaf40193f6343c44c2183a66d713ad79864aa64a7d786a69d45c1f67ca0bbf2f", func := "census/censuslaw04.LitTerms", spec := "litTerms", unfollowed := true, recurses := true, apart := false }
def LitTermsSaid : Prop := litTermsRow.holds Try.pinned (OpenSpec.ofChange litTermsSpec)

/-- ITS FALSE NEIGHBOUR: 'it returns false'. Refute it at one input. -/
def litTermsWrong : ChangeSpec := { name := "litTerms", fn := fun _ => fun
  | [d1, d2] => { results := [.lit (.bool false)], args := [d1, d2] }
  | _ => none }
def LitTermsWrongFalsely : Prop := litTermsRow.holds Try.pinned (OpenSpec.ofChange litTermsWrong)

/-- 'censuslaw04.LitTruths': WHATEVER THE INPUT: true; the input reads as it did. -/
def litTruthsSpec : ChangeSpec := { name := "litTruths", fn := fun _ => fun
  | [d1, d2, d3] => { results := [.lit (.bool true)], args := [d1, d2, d3] }
  | _ => none }
def litTruthsRow : OpenClaim := { program := "ytniagnbeeebobaa", sum := "eaf40193f6343c44c2183a66d713ad79864aa64a7d786a69d45c1f67ca0bbf2f", func := "census/censuslaw04.LitTruths", spec := "litTruths", unfollowed := true, recurses := true, apart := false }
def LitTruthsSaid : Prop := litTruthsRow.holds Try.pinned (OpenSpec.ofChange litTruthsSpec)

/-- ITS FALSE NEIGHBOUR: 'it returns false'. Refute it at one input. -/
def litTruthsWrong : ChangeSpec := { name := "litTruths", fn := fun _ => fun
  | [d1, d2, d3] => { results := [.lit (.bool false)], args := [d1, d2, d3] }
  | _ => none }
def LitTruthsWrongFalsely : Prop := litTruthsRow.holds Try.pinned (OpenSpec.ofChange litTruthsWrong)

/-- 'censuslaw04.LitResolves': WHATEVER THE INPUT: true; the input reads as it did. -/
def litResolvesSpec : ChangeSpec := { name := "litResolves", fn := fun _ => fun
  | [d1, d2, d3] => { results := [.lit (.bool true)], args := [d1, d2, d3] }
  | _ => none }
def litResolvesRow : OpenClaim := { program := "ytniagnbeeebobaa", sum := "eaf40193f6343c44c2183a66d713ad79864aa64a7d786a69d45c1f67ca0bbf2f", func := "census/censuslaw04.LitResolves", spec := "litResolves", unfollowed := true, recurses := true, apart := false }
def LitResolvesSaid : Prop := litResolvesRow.holds Try.pinned (OpenSpec.ofChange litResolvesSpec)

/-- ITS FALSE NEIGHBOUR: 'it returns false'. Refute it at one input. -/
def litResolvesWrong : ChangeSpec := { name := "litResolves", fn := fun _ => fun
  | [d1, d2, d3] => { results := [.lit (.bool false)], args := [d1, d2, d3] }
  | _ => none }
def LitResolvesWrongFalsely : Prop := litResolvesRow.holds Try.pinned (OpenSpec.ofChange litResolvesWrong)

/-- 'censuslaw04.LitSubsumes': WHATEVER THE INPUT: true; the input reads as it did. -/
def litSubsumesSpec : ChangeSpec := { name := "litSubsumes", fn := fun _ => fun
  | [d1, d2] => { results := [.lit (.bool true)], args := [d1, d2] }
  | _ => none }
def litSubsumesRow : OpenClaim := { program := "ytniagnbeeebobaa", sum := "eaf40193f6343c44c2183a66d713ad79864aa64a7d786a69d45c1f67ca0bbf2f", func := "census/censuslaw04.LitSubsumes", spec := "litSubsumes", unfollowed := true, recurses := true, apart := false }
def LitSubsumesSaid : Prop := litSubsumesRow.holds Try.pinned (OpenSpec.ofChange litSubsumesSpec)

/-- ITS FALSE NEIGHBOUR: 'it returns false'. Refute it at one input. -/
def litSubsumesWrong : ChangeSpec := { name := "litSubsumes", fn := fun _ => fun
  | [d1, d2] => { results := [.lit (.bool false)], args := [d1, d2] }
  | _ => none }
def LitSubsumesWrongFalsely : Prop := litSubsumesRow.holds Try.pinned (OpenSpec.ofChange litSubsumesWrong)

/-- 'censuslaw04.LitSame': WHATEVER THE INPUT: true; the input reads as it did. -/
def litSameSpec : ChangeSpec := { name := "litSame", fn := fun _ => fun
  | [d1, d2, d3] => { results := [.lit (.bool true)], args := [d1, d2, d3] }
  | _ => none }
def litSameRow : OpenClaim := { program := "ytniagnbeeebobaa", sum := "eaf40193f6343c44c2183a66d713ad79864aa64a7d786a69d45c1f67ca0bbf2f", func := "census/censuslaw04.LitSame", spec := "litSame", unfollowed := true, recurses := true, apart := false }
def LitSameSaid : Prop := litSameRow.holds Try.pinned (OpenSpec.ofChange litSameSpec)

/-- ITS FALSE NEIGHBOUR: 'it returns false'. Refute it at one input. -/
def litSameWrong : ChangeSpec := { name := "litSame", fn := fun _ => fun
  | [d1, d2, d3] => { results := [.lit (.bool false)], args := [d1, d2, d3] }
  | _ => none }
def LitSameWrongFalsely : Prop := litSameRow.holds Try.pinned (OpenSpec.ofChange litSameWrong)

/-- 'censuslaw04.LitFalse': WHATEVER THE INPUT: true; the input reads as it did. -/
def litFalseSpec : ChangeSpec := { name := "litFalse", fn := fun _ => fun
  | [d1, d2] => { results := [.lit (.bool true)], args := [d1, d2] }
  | _ => none }
def litFalseRow : OpenClaim := { program := "ytniagnbeeebobaa", sum := "eaf40193f6343c44c2183a66d713ad79864aa64a7d786a69d45c1f67ca0bbf2f", func := "census/censuslaw04.LitFalse", spec := "litFalse", unfollowed := true, recurses := true, apart := false }
def LitFalseSaid : Prop := litFalseRow.holds Try.pinned (OpenSpec.ofChange litFalseSpec)

/-- ITS FALSE NEIGHBOUR: 'it returns false'. Refute it at one input. -/
def litFalseWrong : ChangeSpec := { name := "litFalse", fn := fun _ => fun
  | [d1, d2] => { results := [.lit (.bool false)], args := [d1, d2] }
  | _ => none }
def LitFalseWrongFalsely : Prop := litFalseRow.holds Try.pinned (OpenSpec.ofChange litFalseWrong)

/-- 'censuslaw04.LitFollows': WHATEVER THE INPUT: true; the input reads as it did. -/
def litFollowsSpec : ChangeSpec := { name := "litFollows", fn := fun _ => fun
  | [d1, d2, d3, d4] => { results := [.lit (.bool true)], args := [d1, d2, d3, d4] }
  | _ => none }
def litFollowsRow : OpenClaim := { program := "ytniagnbeeebobaa", sum := "eaf40193f6343c44c2183a66d713ad79864aa64a7d786a69d45c1f67ca0bbf2f", func := "census/censuslaw04.LitFollows", spec := "litFollows", unfollowed := true, recurses := true, apart := false }
def LitFollowsSaid : Prop := litFollowsRow.holds Try.pinned (OpenSpec.ofChange litFollowsSpec)

/-- ITS FALSE NEIGHBOUR: 'it returns false'. Refute it at one input. -/
def litFollowsWrong : ChangeSpec := { name := "litFollows", fn := fun _ => fun
  | [d1, d2, d3, d4] => { results := [.lit (.bool false)], args := [d1, d2, d3, d4] }
  | _ => none }
def LitFollowsWrongFalsely : Prop := litFollowsRow.holds Try.pinned (OpenSpec.ofChange litFollowsWrong)

/-- 'censuslaw04.LitKnown': WHATEVER THE INPUT: true; the input reads as it did. -/
def litKnownSpec : ChangeSpec := { name := "litKnown", fn := fun _ => fun
  | [] => { results := [.lit (.bool true)], args := [] }
  | _ => none }
def litKnownRow : OpenClaim := { program := "ytniagnbeeebobaa", sum := "eaf40193f6343c44c2183a66d713ad79864aa64a7d786a69d45c1f67ca0bbf2f", func := "census/censuslaw04.LitKnown", spec := "litKnown", unfollowed := true, recurses := true, apart := false }
def LitKnownSaid : Prop := litKnownRow.holds Try.pinned (OpenSpec.ofChange litKnownSpec)

/-- ITS FALSE NEIGHBOUR: 'it returns false'. Refute it at one input. -/
def litKnownWrong : ChangeSpec := { name := "litKnown", fn := fun _ => fun
  | [] => { results := [.lit (.bool false)], args := [] }
  | _ => none }
def LitKnownWrongFalsely : Prop := litKnownRow.holds Try.pinned (OpenSpec.ofChange litKnownWrong)

/- THE SECOND FORM. 'bulk': how many values and letters a reading holds, each counted each time it is reached (what is shared counts as often as it is met; a slice's spare places count too). A statement '..UptoSaid' is the law's where the arguments, and the package variables that the reading takes, are together of bulk at most 1048576: NARROWER than '..Said'. Prove '..Said' where nothing that the law and all that it calls make is longer than what came in: it says more and counts as full. Else prove '..UptoSaid'. A law counts once. -/
mutual
def uptoBulk {H : Type} : DataW H → Nat
  | .lit (.string bytes) => bytes.length + 1
  | .lit _ => 1
  | .nil => 1
  | .ptr d => uptoBulk d + 1
  | .slice elems spare => uptoBulkAll elems + uptoBulkAll spare + 1
  | .agg parts => uptoBulkAll parts + 1
  | .iface _ d => uptoBulk d + 1
  | .map entries => uptoBulkEntries entries + 1
  | .held _ => 1
def uptoBulkAll {H : Type} : List (DataW H) → Nat
  | [] => 0
  | d :: r => uptoBulk d + uptoBulkAll r
def uptoBulkEntries {H : Type} : List (Lit × DataW H) → Nat
  | [] => 0
  | x :: r => uptoBulkEntry x + uptoBulkEntries r
def uptoBulkEntry {H : Type} : Lit × DataW H → Nat
  | (.string bytes, d) => bytes.length + uptoBulk d + 1
  | (_, d) => uptoBulk d + 1
 end
def uptoSmall : (H : Type) → List (DataW H) → Bool := fun _ ds => decide (uptoBulkAll ds ≤ 1048576)
def OpenSpec.upto (s : _root_.Go.ChangeSpec) : _root_.Go.OpenSpec := { _root_.Go.OpenSpec.ofChange s with cond := some uptoSmall }

/-- 'censuslaw04.LitForms', WHERE WHAT IT READS IS OF BULK AT MOST 1048576: true; the input reads as it did. -/
def litFormsUptoRow : OpenClaim := { program := "ytniagnbeeebobaa", sum := "eaf40193f6343c44c2183a66d713ad79864aa64a7d786a69d45c1f67ca0bbf2f", func := "census/censuslaw04.LitForms", spec := "litForms", unfollowed := true, recurses := true, apart := false, narrowed := true }
def LitFormsUptoSaid : Prop := litFormsUptoRow.holds Try.pinned (OpenSpec.upto litFormsSpec)

/-- 'censuslaw04.LitTerms', WHERE WHAT IT READS IS OF BULK AT MOST 1048576: true; the input reads as it did. -/
def litTermsUptoRow : OpenClaim := { program := "ytniagnbeeebobaa", sum := "eaf40193f6343c44c2183a66d713ad79864aa64a7d786a69d45c1f67ca0bbf2f", func := "census/censuslaw04.LitTerms", spec := "litTerms", unfollowed := true, recurses := true, apart := false, narrowed := true }
def LitTermsUptoSaid : Prop := litTermsUptoRow.holds Try.pinned (OpenSpec.upto litTermsSpec)

/-- 'censuslaw04.LitTruths', WHERE WHAT IT READS IS OF BULK AT MOST 1048576: true; the input reads as it did. -/
def litTruthsUptoRow : OpenClaim := { program := "ytniagnbeeebobaa", sum := "eaf40193f6343c44c2183a66d713ad79864aa64a7d786a69d45c1f67ca0bbf2f", func := "census/censuslaw04.LitTruths", spec := "litTruths", unfollowed := true, recurses := true, apart := false, narrowed := true }
def LitTruthsUptoSaid : Prop := litTruthsUptoRow.holds Try.pinned (OpenSpec.upto litTruthsSpec)

/-- 'censuslaw04.LitResolves', WHERE WHAT IT READS IS OF BULK AT MOST 1048576: true; the input reads as it did. -/
def litResolvesUptoRow : OpenClaim := { program := "ytniagnbeeebobaa", sum := "eaf40193f6343c44c2183a66d713ad79864aa64a7d786a69d45c1f67ca0bbf2f", func := "census/censuslaw04.LitResolves", spec := "litResolves", unfollowed := true, recurses := true, apart := false, narrowed := true }
def LitResolvesUptoSaid : Prop := litResolvesUptoRow.holds Try.pinned (OpenSpec.upto litResolvesSpec)

/-- 'censuslaw04.LitSubsumes', WHERE WHAT IT READS IS OF BULK AT MOST 1048576: true; the input reads as it did. -/
def litSubsumesUptoRow : OpenClaim := { program := "ytniagnbeeebobaa", sum := "eaf40193f6343c44c2183a66d713ad79864aa64a7d786a69d45c1f67ca0bbf2f", func := "census/censuslaw04.LitSubsumes", spec := "litSubsumes", unfollowed := true, recurses := true, apart := false, narrowed := true }
def LitSubsumesUptoSaid : Prop := litSubsumesUptoRow.holds Try.pinned (OpenSpec.upto litSubsumesSpec)

/-- 'censuslaw04.LitSame', WHERE WHAT IT READS IS OF BULK AT MOST 1048576: true; the input reads as it did. -/
def litSameUptoRow : OpenClaim := { program := "ytniagnbeeebobaa", sum := "eaf40193f6343c44c2183a66d713ad79864aa64a7d786a69d45c1f67ca0bbf2f", func := "census/censuslaw04.LitSame", spec := "litSame", unfollowed := true, recurses := true, apart := false, narrowed := true }
def LitSameUptoSaid : Prop := litSameUptoRow.holds Try.pinned (OpenSpec.upto litSameSpec)

/-- 'censuslaw04.LitFalse', WHERE WHAT IT READS IS OF BULK AT MOST 1048576: true; the input reads as it did. -/
def litFalseUptoRow : OpenClaim := { program := "ytniagnbeeebobaa", sum := "eaf40193f6343c44c2183a66d713ad79864aa64a7d786a69d45c1f67ca0bbf2f", func := "census/censuslaw04.LitFalse", spec := "litFalse", unfollowed := true, recurses := true, apart := false, narrowed := true }
def LitFalseUptoSaid : Prop := litFalseUptoRow.holds Try.pinned (OpenSpec.upto litFalseSpec)

/-- 'censuslaw04.LitFollows', WHERE WHAT IT READS IS OF BULK AT MOST 1048576: true; the input reads as it did. -/
def litFollowsUptoRow : OpenClaim := { program := "ytniagnbeeebobaa", sum := "eaf40193f6343c44c2183a66d713ad79864aa64a7d786a69d45c1f67ca0bbf2f", func := "census/censuslaw04.LitFollows", spec := "litFollows", unfollowed := true, recurses := true, apart := false, narrowed := true }
def LitFollowsUptoSaid : Prop := litFollowsUptoRow.holds Try.pinned (OpenSpec.upto litFollowsSpec)

/-- 'censuslaw04.LitKnown', WHERE WHAT IT READS IS OF BULK AT MOST 1048576: true; the input reads as it did. -/
def litKnownUptoRow : OpenClaim := { program := "ytniagnbeeebobaa", sum := "eaf40193f6343c44c2183a66d713ad79864aa64a7d786a69d45c1f67ca0bbf2f", func := "census/censuslaw04.LitKnown", spec := "litKnown", unfollowed := true, recurses := true, apart := false, narrowed := true }
def LitKnownUptoSaid : Prop := litKnownUptoRow.holds Try.pinned (OpenSpec.upto litKnownSpec)

end Rows
end Go.Proofs.Ytniagnbeeebobaa
