/- The order of decimal forms, and how many binary digits a number has: plain lemmas. -/
import Derived.Test.YtjdkbbggelpchaaDoorDec
import Derived.Test.YtjdkbbggelpchaaDoorLen
import Derived.Laws.Strings
namespace Go.Proofs.YtjdkbbggelpchaaDoor
open Go.Lib

theorem less_snoc : ∀ (x y : List UInt8) (c d : UInt8), x.length = y.length → Op.bytesLess (x ++ [c]) (y ++ [d]) = (Op.bytesLess x y || (decide (x = y) && decide (c < d)))
  | [], [], c, d, _ => by simp [Op.bytesLess]
  | a :: x, b :: y, c, d, h => by
    have ih := less_snoc x y c d (by simpa using h)
    simp only [List.cons_append, Op.bytesLess, ih]
    by_cases h1 : a < b
    · simp [h1]
    · by_cases h2 : a = b
      · subst h2; simp [h1]
      · have h3 : (a == b) = false := by simpa using h2
        simp [h1, h2, h3]
  | [], _ :: _, _, _, h => by simp at h
  | _ :: _, [], _, _, h => by simp at h
theorem digit_lt (a b : Nat) (ha : a < 10) (hb : b < 10) : decide (UInt8.ofNat (48 + a) < UInt8.ofNat (48 + b)) = decide (a < b) := by
  rw [Bool.eq_iff_iff, decide_eq_true_eq, decide_eq_true_eq, UInt8.lt_iff_toNat_lt, D.dig_toNat a ha, D.dig_toNat b hb]
  omega
/-- Of as many digits, the bytes decide. -/
theorem dec_less (a b : Nat) (h : nDigits a = nDigits b) : Op.bytesLess (decDigits a) (decDigits b) = decide (a < b) := by
  induction a using Nat.strongRecOn generalizing b with
  | ind a ih =>
    by_cases h1 : a < 10
    · have h2 : b < 10 := by
        apply Nat.lt_of_not_le; intro h2
        rw [nDigits_small h1, nDigits_big (by omega)] at h
        have := nDigits_pos (b / 10); omega
      rw [D.dec_small h1, D.dec_small h2]
      have := less_snoc [] [] (UInt8.ofNat (48 + a)) (UInt8.ofNat (48 + b)) rfl
      simp only [List.nil_append] at this
      rw [this, digit_lt a b h1 h2]
      simp [Op.bytesLess]
    · have h2 : ¬ b < 10 := by
        intro h2
        rw [nDigits_small h2, nDigits_big h1] at h
        have := nDigits_pos (a / 10); omega
      rw [nDigits_big h1, nDigits_big h2] at h
      have h3 : nDigits (a / 10) = nDigits (b / 10) := by omega
      rw [D.dec_big h1, D.dec_big h2, less_snoc _ _ _ _ (by rw [decDigits_length, decDigits_length, h3]), ih (a / 10) (by omega) (b / 10) h3, digit_lt _ _ (by omega) (by omega)]
      have h4 : decide (decDigits (a / 10) = decDigits (b / 10)) = decide (a / 10 = b / 10) := by
        rw [Bool.eq_iff_iff, decide_eq_true_eq, decide_eq_true_eq]
        exact ⟨D.dec_inj, fun e => by rw [e]⟩
      rw [h4, Bool.eq_iff_iff]
      simp only [Bool.or_eq_true, Bool.and_eq_true, decide_eq_true_eq]
      omega
theorem nDigits_mono (a b : Nat) (h : a ≤ b) : nDigits a ≤ nDigits b := by
  have h1 := lt_pow_nDigits b
  obtain ⟨k, hk⟩ : ∃ k, nDigits b = k + 1 := ⟨nDigits b - 1, by have := nDigits_pos b; omega⟩
  rw [hk] at h1 ⊢
  exact D.nDigits_le k a (by omega)
theorem nDigits_lt (a b : Nat) (h : nDigits a < nDigits b) : a < b := by
  apply Nat.lt_of_not_le; intro h1
  have := nDigits_mono b a h1; omega

/-! ### Binary digits -/
theorem getLastD_last : ∀ (l : List Nat) (h : l ≠ []), l.getLastD 0 = l.getLast h
  | [], h => absurd rfl h
  | [a], _ => rfl
  | a :: b :: t, h => by
    rw [List.getLast_cons (by simp)]
    exact (show (a :: b :: t).getLastD 0 = (b :: t).getLastD 0 from rfl).trans (getLastD_last (b :: t) (by simp))
theorem dig_getLastD (n : Nat) (h : n ≠ 0) : 64 * 0 ≤ (M.dig n).length ∧ (M.dig n).getLastD 0 ≠ 0 ∧ (M.dig n).getLastD 0 < M.B ∧
    M.B ^ ((M.dig n).length - 1) * (M.dig n).getLastD 0 ≤ n ∧ n < M.B ^ ((M.dig n).length - 1) * ((M.dig n).getLastD 0 + 1) := by
  have hne : M.dig n ≠ [] := fun e => h (M.dig_eq_nil.1 e)
  have e1 := getLastD_last (M.dig n) hne
  have hd := List.dropLast_concat_getLast hne
  have hv := M.val_dig n
  rw [← hd, M.val_snoc, List.length_dropLast] at hv
  have hok : M.Ok (M.dig n).dropLast := fun x hx => by
    rw [List.dropLast_eq_take] at hx
    exact M.ok_dig n x (List.mem_of_mem_take hx)
  have hlt := M.val_lt hok
  rw [List.length_dropLast] at hlt
  rw [e1]
  refine ⟨by omega, M.dig_last hne, M.ok_dig n _ (List.getLast_mem hne), by omega, ?_⟩
  rw [Nat.mul_add]; omega
theorem lenN_bounds (n : Nat) (h : n ≠ 0) : 1 ≤ lenN n ∧ 2 ^ (lenN n - 1) ≤ n ∧ n < 2 ^ lenN n := by
  obtain ⟨_, h1, h2, h3, h4⟩ := dig_getLastD n h
  unfold lenN
  generalize (M.dig n).length - 1 = k at *
  generalize (M.dig n).getLastD 0 = t at *
  have hB : M.B ^ k = 2 ^ (64 * k) := by rw [Nat.pow_mul]; rfl
  have b1 := bl_lt t h2
  have b2 := bl_le t h2 h1
  have b3 := bl_pos t h2 h1
  rw [hB] at h3 h4
  refine ⟨by omega, ?_, ?_⟩
  · rw [show 64 * k + Lib.bitLen t - 1 = 64 * k + (Lib.bitLen t - 1) by omega, Nat.pow_add]
    exact Nat.le_trans (Nat.mul_le_mul_left _ b2) h3
  · rw [Nat.pow_add]
    exact Nat.lt_of_lt_of_le h4 (Nat.mul_le_mul_left _ b1)
end Go.Proofs.YtjdkbbggelpchaaDoor
