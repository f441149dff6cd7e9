/- The contract of NatTexts: the cases together. -/
import Derived.Test.YtagbojcoihpgcaaDoorTexts2
namespace Go.Proofs.YtagbojcoihpgcaaDoor
open Go.RowKit

theorem texts_any (u1 u2 : Value) (l1 l2 : List Nat) (w : World) (x1 : In32 w u1 l1) (x2 : In32 w u2 l2) (ht : Tabs w) (h6 : 6 ≤ w.heap.size) :
    Calls Tryd.prog 3 #[u1, u2] w fun e w' => e = .returned (.bool true) ∧ Below w.heap.size w w' := by
  obtain ⟨v1, c1, rfl⟩ := x1.form
  obtain ⟨v2, c2, rfl⟩ := x2.form
  by_cases h : l1.length ≤ 24 ∧ l2.length ≤ 24
  · by_cases hz : v32 l1 = 0
    · exact texts_zero v1 v2 l1 l2 c1 c2 w x1 x2 h.1 h.2 hz ht h6
    · exact texts_pos v1 v2 l1 l2 c1 c2 w x1 x2 h.1 h.2 hz ht h6
  · exact texts_long v1 v2 _ _ c1 c2 w (by omega) ht h6
end Go.Proofs.YtagbojcoihpgcaaDoor
