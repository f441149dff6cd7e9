/- Numbers that differ, and numbers in blocks. -/
import Derived.Test.YtagbojcoihpgcaaDoorFrom
namespace Go.Proofs.YtagbojcoihpgcaaDoor
open Go.RowKit

theorem St.cellAlloc {W : World} {b o : Nat} {v : Value} (h : W.cell? ⟨b, o, none⟩ = some v) (x : Obj) : (W.alloc x).cell? ⟨b, o, none⟩ = some v := St.cell ((Below.refl _ _).alloc (Nat.le_refl _) x) h
theorem bytes_ne {h k : ByteArray} (hne : h ≠ k) : ¬ h.toList = k.toList := by
  intro e
  rw [str_toList, str_toList] at e
  exact hne (ByteArray.ext (Array.ext' e))
/-- Different numbers differ in a part. -/
theorem parts_ne {a b : Nat} (h : a ≠ b) : ¬ ((lo a : Nat) : Int) = ((lo b : Nat) : Int) ∨ ¬ (hi a).toList = (hi b).toList := by
  by_cases h1 : lo a = lo b
  · exact .inr (bytes_ne fun e => h (lohi_inj h1 e))
  · exact .inl (by omega)
/-- Numbers in blocks: the block, and the two parts. -/
def Cs (W : World) (l : List (Nat × Nat × ByteArray)) : Prop :=
  ∀ t ∈ l, W.cell? ⟨t.1, 0, none⟩ = some (.int .u64 ((t.2.1 : Nat) : Int)) ∧ W.cell? ⟨t.1, 1, none⟩ = some (.string t.2.2)
theorem Cs.nil (W : World) : Cs W [] := fun _ h => by cases h
theorem Cs.cons {W : World} {l : List (Nat × Nat × ByteArray)} (h : Cs W l) {p x : Nat} {y : ByteArray} (h0 : W.cell? ⟨p, 0, none⟩ = some (.int .u64 (x : Int))) (h1 : W.cell? ⟨p, 1, none⟩ = some (.string y)) : Cs W ((p, x, y) :: l) := by
  intro t ht
  rcases List.mem_cons.1 ht with rfl | ht
  · exact ⟨h0, h1⟩
  · exact h t ht
theorem Cs.next {W w' : World} {l : List (Nat × Nat × ByteArray)} (h : Cs W l) (hb : Below W.heap.size W w') : Cs w' l := fun t ht => ⟨St.cell hb (h t ht).1, St.cell hb (h t ht).2⟩
theorem Cs.alloc {W : World} {l : List (Nat × Nat × ByteArray)} (h : Cs W l) (o : Obj) : Cs (W.alloc o) l := h.next ((Below.refl _ _).alloc (Nat.le_refl _) o)
theorem Cs.box {W : World} {l : List (Nat × Nat × ByteArray)} (h : Cs W l) (p x : Nat) (y : ByteArray) (hp : p = W.heap.size) : Cs (W.alloc (.cells #[.int .u64 (x : Int), .string y] 26)) ((p, x, y) :: l) := by
  have := At2.new W p x y hp
  exact Cs.cons (h.alloc _) this.1 this.2.1
end Go.Proofs.YtagbojcoihpgcaaDoor
