/- Digits, the lowest one first, and decimal forms as strings: plain lemmas. -/
import Derived.Test.YtjdkbbggelpchaaDoorDec
import Derived.Test.YtjdkbbggelpchaaDoorOrd
namespace Go.Proofs.YtjdkbbggelpchaaDoor
open Go.Lib
namespace SD

/-- A number's decimal form. -/
def ds (n : Nat) : ByteArray := ⟨(decDigits n).toArray⟩
theorem ds_list (n : Nat) : (ds n).toList = decDigits n := by rw [ByteArray.toList_eq]; simp [ds]
theorem ds_data (n : Nat) : (ds n).data.toList = decDigits n := by simp [ds]
theorem ds_size (n : Nat) : (ds n).size = nDigits n := by
  rw [← decDigits_length]; simp [ds, ByteArray.size]
theorem ds_inj {a b : Nat} (h : ds a = ds b) : a = b := D.dec_inj (by rw [← ds_data, h, ds_data])
/-- The digit with place i. -/
def dg (n i : Nat) : Nat := n / 10 ^ i % 10
theorem dg_lt (n i : Nat) : dg n i < 10 := Nat.mod_lt _ (by omega)
theorem dg_zero (n i : Nat) (h : nDigits n ≤ i) : dg n i = 0 := by
  unfold dg
  have h1 := lt_pow_nDigits n
  have h2 : 10 ^ nDigits n ≤ 10 ^ i := Nat.pow_le_pow_right (by omega) h
  rw [Nat.div_eq_of_lt (Nat.lt_of_lt_of_le h1 h2)]
theorem dec_get (i : Nat) : ∀ n, (h : i < nDigits n) → (decDigits n)[nDigits n - 1 - i]'(by rw [decDigits_length]; omega) = UInt8.ofNat (48 + dg n i) := by
  induction i with
  | zero =>
    intro n h
    by_cases h1 : n < 10
    · have e := D.dec_small h1
      have : (decDigits n)[nDigits n - 1 - 0]? = some (UInt8.ofNat (48 + dg n 0)) := by
        rw [nDigits_small h1, e]
        simp [dg, Nat.mod_eq_of_lt h1]
      exact (List.getElem?_eq_some_iff.1 this).2
    · have : (decDigits n)[nDigits n - 1 - 0]? = some (UInt8.ofNat (48 + dg n 0)) := by
        rw [D.dec_big h1, nDigits_big h1, Nat.sub_zero, Nat.add_sub_cancel, List.getElem?_append_right (by rw [decDigits_length]; omega), decDigits_length, Nat.sub_self]
        simp [dg]
      exact (List.getElem?_eq_some_iff.1 this).2
  | succ i ih =>
    intro n h
    have h1 : ¬ n < 10 := by intro h1; rw [nDigits_small h1] at h; omega
    have h2 : i < nDigits (n / 10) := by rw [nDigits_big h1] at h; omega
    have : (decDigits n)[nDigits n - 1 - (i + 1)]? = some (UInt8.ofNat (48 + dg n (i + 1))) := by
      rw [D.dec_big h1, nDigits_big h1, show nDigits (n / 10) + 1 - 1 - (i + 1) = nDigits (n / 10) - 1 - i by omega, List.getElem?_append_left (by rw [decDigits_length]; omega), List.getElem?_eq_getElem (by rw [decDigits_length]; omega), ih _ h2]
      unfold dg
      rw [Nat.div_div_eq_div_mul, Nat.pow_succ, Nat.mul_comm 10]
    exact (List.getElem?_eq_some_iff.1 this).2
theorem ds_get (n i : Nat) (h : i < nDigits n) : (ds n)[nDigits n - 1 - i]'(by rw [ds_size]; omega) = UInt8.ofNat (48 + dg n i) := by
  rw [← dec_get i n h]; rfl

/-- The number of digits, the lowest one first. -/
def val : List Nat → Nat
  | [] => 0
  | x :: xs => x + 10 * val xs
theorem val_append (a b : List Nat) : val (a ++ b) = val a + 10 ^ a.length * val b := by
  induction a with
  | nil => simp [val]
  | cons x a ih =>
    simp only [List.cons_append, val, ih, List.length_cons, Nat.pow_succ]
    rw [Nat.mul_add, ← Nat.add_assoc, ← Nat.mul_assoc, Nat.mul_comm (10 ^ a.length) 10]
theorem val_snoc (a : List Nat) (x : Nat) : val (a ++ [x]) = val a + 10 ^ a.length * x := by rw [val_append]; simp [val]
theorem val_lt (l : List Nat) (h : ∀ x ∈ l, x < 10) : val l < 10 ^ l.length := by
  induction l with
  | nil => simp [val]
  | cons x l ih =>
    have h1 := ih (fun y hy => h y (by simp [hy]))
    have h2 := h x (by simp)
    simp only [val, List.length_cons, Nat.pow_succ]
    omega
theorem val_zeros (n : Nat) : val (List.replicate n 0) = 0 := by
  induction n with
  | zero => rfl
  | succ n ih => rw [List.replicate_succ, val, ih]
theorem val_set (l : List Nat) : ∀ (j y x : Nat), l[j]? = some x → val (l.set j y) + 10 ^ j * x = val l + 10 ^ j * y := by
  induction l with
  | nil => intro j y x h; simp at h
  | cons z l ih =>
    intro j y x h
    cases j with
    | zero =>
      simp at h
      subst h
      simp [val]
      omega
    | succ j =>
      simp at h
      have h1 := ih j y x h
      simp only [List.set_cons_succ, val, Nat.pow_succ]
      have e1 : 10 ^ j * 10 * x = 10 * (10 ^ j * x) := by rw [Nat.mul_comm (10 ^ j) 10, Nat.mul_assoc]
      have e2 : 10 ^ j * 10 * y = 10 * (10 ^ j * y) := by rw [Nat.mul_comm (10 ^ j) 10, Nat.mul_assoc]
      rw [e1, e2]
      omega
/-- The bytes of digits, the highest one first. -/
def bs (l : List Nat) : List UInt8 := l.reverse.map fun x => UInt8.ofNat (48 + x)
theorem bs_length (l : List Nat) : (bs l).length = l.length := by simp [bs]
theorem bs_cons (x : Nat) (l : List Nat) : bs (x :: l) = bs l ++ [UInt8.ofNat (48 + x)] := by simp [bs]
theorem val_pos (l : List Nat) (h : ∃ x, l.getLast? = some x ∧ x ≠ 0) : 0 < val l := by
  induction l with
  | nil => obtain ⟨x, hx, _⟩ := h; simp at hx
  | cons y l ih =>
    obtain ⟨x, hx, h0⟩ := h
    cases l with
    | nil =>
      simp at hx
      subst hx
      simp only [val]; omega
    | cons z l =>
      have := ih ⟨x, by simpa using hx, h0⟩
      simp only [val] at this ⊢; omega
theorem dec_bs (l : List Nat) (hd : ∀ x ∈ l, x < 10) (h : (∃ x, l.getLast? = some x ∧ x ≠ 0) ∨ l.length = 1) : decDigits (val l) = bs l := by
  induction l with
  | nil => rcases h with ⟨x, hx, _⟩ | h <;> simp at *
  | cons x l ih =>
    have hx := hd x (by simp)
    cases l with
    | nil => simp only [val, Nat.mul_zero, Nat.add_zero]; rw [D.dec_small hx]; rfl
    | cons z l =>
      have hl : ∃ y, (z :: l).getLast? = some y ∧ y ≠ 0 := by
        rcases h with ⟨y, hy, h0⟩ | h
        · exact ⟨y, by simpa using hy, h0⟩
        · simp at h
      have hp := val_pos _ hl
      rw [bs_cons, ← ih (fun y hy => hd y (by simp [hy])) (.inl hl)]
      have e : val (x :: z :: l) = x + 10 * val (z :: l) := rfl
      rw [e, D.dec_big (by omega), show (x + 10 * val (z :: l)) / 10 = val (z :: l) by omega, show (x + 10 * val (z :: l)) % 10 = x by omega]
/-- What form writes: of the first k digits, behind which there are none but zeros. -/
theorem form_bytes (l : List Nat) (hd : ∀ x ∈ l, x < 10) (k : Nat) (hk : k ≤ l.length) (hv : val (l.take k) = val l) (h1 : 1 ≤ k) (h : k = 1 ∨ ∃ x, l[k - 1]? = some x ∧ x ≠ 0) : bs (l.take k) = decDigits (val l) := by
  rw [← hv]
  symm
  refine dec_bs _ (fun x hx => hd x (List.mem_of_mem_take hx)) ?_
  rcases h with h | ⟨x, hx, h0⟩
  · right; rw [List.length_take]; omega
  · left
    refine ⟨x, ?_, h0⟩
    rw [List.getLast?_eq_getElem?, List.length_take, show min k l.length - 1 = k - 1 by omega, List.getElem?_take_of_lt (by omega)]
    exact hx
theorem val_take_zero (l : List Nat) (k : Nat) (h : l[k]? = some 0) (hv : val (l.take (k + 1)) = val l) : val (l.take k) = val l := by
  rw [List.take_add_one, h] at hv
  simp only [Option.toList_some] at hv
  rw [val_snoc] at hv
  simpa using hv
theorem pow_split (n k : Nat) : n % 10 ^ (k + 1) = n % 10 ^ k + 10 ^ k * dg n k := by
  unfold dg; rw [Nat.pow_succ, Nat.mod_mul]
theorem nd_lt (n k : Nat) (h : nDigits n ≤ k) : n < 10 ^ k := Nat.lt_of_lt_of_le (lt_pow_nDigits n) (Nat.pow_le_pow_right (by omega) h)
theorem mod_all (n k : Nat) (h : nDigits n ≤ k) : n % 10 ^ k = n := Nat.mod_eq_of_lt (nd_lt n k h)
end SD
end Go.Proofs.YtjdkbbggelpchaaDoor
