/- A bit of a set's word; the terms of TheoryConditions, plain. -/
import Derived.Test.YtalpbpcanebbbaaUG
namespace Go.Proofs.Ytalpbpcanebbbaa
open Go.RowKit VM LM TM

theorem bit_has (s : BitVec 128) (p : Nat) (hp : p < 64) : (bits BinOp.and IntKind.u64 (wd (lo s) / 2 ^ p) 1 == 1) = has s ((p : Int) + 1) := by
  have e0 : wd (lo s) / 2 ^ p = (((lo s).toNat / 2 ^ p : Nat) : Int) := by unfold wd; simp
  have h1 : (lo s).toNat / 2 ^ p < 18446744073709551616 := Nat.lt_of_le_of_lt (Nat.div_le_self _ _) (lo s).isLt
  have e1 := bits_and_u64_nat ((lo s).toNat / 2 ^ p) 1 h1 (by omega)
  have e2 : ((1 : Nat) : Int) = 1 := rfl
  rw [e2] at e1
  rw [e0, e1, Nat.and_one_is_mod, has_bit s _ (by omega)]
  have e3 : ((p : Int) + 1 - 1).toNat = p := by omega
  rw [e3]
  have e4 := lo_bit s p
  rw [decide_eq_true hp, Bool.true_and] at e4
  rw [← e4, BitVec.getLsbD, Nat.testBit_eq_decide_div_mod_eq]
  generalize (lo s).toNat / 2 ^ p % 2 = z
  rw [Bool.eq_iff_iff, beq_iff_eq, decide_eq_true_iff]
  omega
theorem holds_up (a : BitVec 128) (p : Nat) (hp : p < 64) : holdsL a ((p : Int) + 1) = (bits BinOp.and IntKind.u64 (wd (lo a) / 2 ^ p) 1 == 1) := by
  rw [bit_has a p hp]
  unfold holdsL
  rw [varL_up (by omega)]
  have h1 : (0 : Int) < (p : Int) + 1 := by omega
  rw [decide_eq_true h1]; simp
theorem holds_down (a : BitVec 128) (p : Nat) (hp : p < 64) : holdsL a (-((p : Int) + 1)) = !(bits BinOp.and IntKind.u64 (wd (lo a) / 2 ^ p) 1 == 1) := by
  rw [holds_neg a (x := (p : Int) + 1) (by rw [varL_up (by omega)]; omega), holds_up a p hp]
/-- Literals whose variables are at most i, none the opposite of another. -/
structure Ta (i : Int) (l : List Int) : Prop where
  r : ∀ x ∈ l, (1 ≤ x ∧ x ≤ i) ∨ (1 ≤ -x ∧ -x ≤ i)
  o : ∀ x ∈ l, -x ∉ l
  len : (l.length : Int) ≤ i
theorem Ta.nil : Ta 0 [] := ⟨fun x h => by simp at h, fun x h => by simp at h, by simp⟩
theorem Ta.more {i : Int} {l : List Int} (h : Ta i l) : Ta (i + 1) l :=
  ⟨fun x hx => by have := h.r x hx; omega, h.o, by have := h.len; omega⟩
theorem Ta.add {i x : Int} {l : List Int} (h : Ta i l) (hi : 0 ≤ i) (hx : x = i + 1 ∨ x = -(i + 1)) : Ta (i + 1) (l ++ [x]) := by
  have key : ∀ y, y ∈ l ++ [x] ↔ y ∈ l ∨ y = x := fun y => by simp
  refine ⟨fun y hy => ?_, fun y hy h2 => ?_, by have := h.len; simp; omega⟩
  · rcases (key y).1 hy with hy | rfl
    · have := h.r y hy; omega
    · omega
  · rcases (key y).1 hy with hy | rfl
    · have h3 := h.r y hy
      rcases (key _).1 h2 with h2 | h2
      · exact h.o y hy h2
      · omega
    · rcases (key _).1 h2 with h2 | h2
      · have h3 := h.r _ h2; omega
      · omega
theorem Ta.tm {i n : Int} {l : List Int} (h : Ta i l) (hv : i ≤ n) (hn : n ≤ 128) : tmB l n = true := by
  rw [tmB_any, Bool.not_eq_true', List.any_eq_false]
  intro x hx
  have h1 := h.r x hx
  have h2 : validL x n = true := (validL_iff hn).2 (by omega)
  have h3 := h.o x hx
  rw [h2]
  simpa using h3
theorem Ta.shape {i : Int} {l : List Int} (h : Ta i l) {x : Int} (hx : x ∈ l) : ∃ p : Nat, (p : Int) + 1 ≤ i ∧ (x = (p : Int) + 1 ∨ x = -((p : Int) + 1)) := by
  have := h.r x hx
  rcases this with ⟨h1, h2⟩ | ⟨h1, h2⟩
  · exact ⟨(x - 1).toNat, by omega, .inl (by omega)⟩
  · exact ⟨(-x - 1).toNat, by omega, .inr (by omega)⟩
end Go.Proofs.Ytalpbpcanebbbaa
