/- Lengths in bits; a disjoint or. -/
import Derived.Test.YtjdkbbggelpchaaDoorM
import Derived.Lib.BitFns
import Derived.WalkKit
namespace Go.Proofs.YtjdkbbggelpchaaDoor

theorem aux_spec : ∀ (f x : Nat), x < 2 ^ f → x < 2 ^ Lib.bitLenAux f x ∧ (x ≠ 0 → 2 ^ (Lib.bitLenAux f x - 1) ≤ x ∧ 1 ≤ Lib.bitLenAux f x) ∧ Lib.bitLenAux f x ≤ f
  | 0, x, h => by
    have : x = 0 := by simpa using h
    subst this
    exact ⟨by simp [Lib.bitLenAux], fun h => absurd rfl h, by simp [Lib.bitLenAux]⟩
  | f + 1, x, h => by
    unfold Lib.bitLenAux
    by_cases h0 : x = 0
    · subst h0; simp
    · rw [if_neg h0]
      have hx : x / 2 < 2 ^ f := by rw [Nat.div_lt_iff_lt_mul (by omega)]; rw [Nat.pow_succ] at h; exact h
      obtain ⟨h1, h2, h3⟩ := aux_spec f (x / 2) hx
      refine ⟨?_, fun _ => ⟨?_, by omega⟩, by omega⟩
      · rw [Nat.add_comm, Nat.pow_succ]; omega
      · by_cases hh : x / 2 = 0
        · have : Lib.bitLenAux f (x / 2) = 0 := by rw [hh]; cases f <;> simp [Lib.bitLenAux]
          rw [this]; simp; omega
        · obtain ⟨h4, h5⟩ := h2 hh
          obtain ⟨k, hk⟩ : ∃ k, Lib.bitLenAux f (x / 2) = k + 1 := ⟨_, (Nat.sub_add_cancel h5).symm⟩
          rw [hk] at h4 ⊢
          simp only [Nat.add_sub_cancel] at h4
          rw [show 1 + (k + 1) - 1 = k + 1 by omega, Nat.pow_succ]; omega

theorem bl_lt (x : Nat) (h : x < 18446744073709551616) : x < 2 ^ Lib.bitLen x := (aux_spec 64 x h).1
theorem bl_le (x : Nat) (h : x < 18446744073709551616) (h0 : x ≠ 0) : 2 ^ (Lib.bitLen x - 1) ≤ x := ((aux_spec 64 x h).2.1 h0).1
theorem bl_pos (x : Nat) (h : x < 18446744073709551616) (h0 : x ≠ 0) : 1 ≤ Lib.bitLen x := ((aux_spec 64 x h).2.1 h0).2
theorem bl_64 (x : Nat) (h : x < 18446744073709551616) : Lib.bitLen x ≤ 64 := (aux_spec 64 x h).2.2
theorem bl_zero : Lib.bitLen 0 = 0 := by simp [Lib.bitLen, Lib.bitLenAux]

/-- The length is the only one. -/
theorem bl_uniq (x k : Nat) (h : x < 18446744073709551616) (h1 : 2 ^ k ≤ x) (h2 : x < 2 ^ (k + 1)) : Lib.bitLen x = k + 1 := by
  have h0 : x ≠ 0 := by have := Nat.two_pow_pos k; omega
  have a := bl_lt x h
  have b := bl_le x h h0
  have c := bl_pos x h h0
  have d1 : Lib.bitLen x ≤ k + 1 := by
    apply Nat.le_of_not_lt; intro hlt
    have := Nat.pow_le_pow_right (show 0 < 2 by omega) (show k + 1 ≤ Lib.bitLen x - 1 by omega)
    omega
  have d2 : k < Lib.bitLen x := by
    apply Nat.lt_of_not_le; intro hle
    have := Nat.pow_le_pow_right (show 0 < 2 by omega) hle
    omega
  omega

theorem or_disjoint (a b s : Nat) (hb : b < 2 ^ s) (ha : 2 ^ s ∣ a) : a ||| b = a + b := by
  obtain ⟨k, rfl⟩ := ha
  rw [Nat.mul_comm, ← Nat.shiftLeft_eq]
  exact (Nat.shiftLeft_add_eq_or_of_lt hb k).symm

end Go.Proofs.YtjdkbbggelpchaaDoor
