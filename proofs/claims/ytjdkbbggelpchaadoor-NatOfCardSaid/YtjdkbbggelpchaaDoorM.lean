/- Numbers as lists of words, the lowest one first: plain lemmas, without a program. -/
namespace Go.Proofs.YtjdkbbggelpchaaDoor
namespace M

/-- The base: 2 to the power 64. -/
def B : Nat := 18446744073709551616
theorem B_eq : B = 18446744073709551616 := rfl
theorem B_pos : 0 < B := by unfold B; omega
theorem one_lt_B : 1 < B := by unfold B; omega
theorem B_pow_pos (n : Nat) : 0 < B ^ n := Nat.pow_pos B_pos

/-- The number of a list of words. -/
def val : List Nat → Nat
  | [] => 0
  | x :: xs => x + B * val xs
/-- Each word is one. -/
def Ok (l : List Nat) : Prop := ∀ x ∈ l, x < B

@[simp] theorem val_nil : val [] = 0 := rfl
theorem val_cons (x : Nat) (l : List Nat) : val (x :: l) = x + B * val l := rfl
theorem Ok.nil : Ok [] := by intro x hx; cases hx
theorem Ok.cons {x : Nat} {l : List Nat} (hx : x < B) (h : Ok l) : Ok (x :: l) := by
  intro y hy
  rcases List.mem_cons.1 hy with rfl | hy
  · exact hx
  · exact h y hy
theorem Ok.head {x : Nat} {l : List Nat} (h : Ok (x :: l)) : x < B := h x (by simp)
theorem Ok.tail {x : Nat} {l : List Nat} (h : Ok (x :: l)) : Ok l := fun y hy => h y (by simp [hy])
theorem Ok.append {a b : List Nat} (ha : Ok a) (hb : Ok b) : Ok (a ++ b) := by
  intro y hy
  rcases List.mem_append.1 hy with h | h
  · exact ha y h
  · exact hb y h
theorem Ok.left {a b : List Nat} (h : Ok (a ++ b)) : Ok a := fun y hy => h y (by simp [hy])
theorem Ok.right {a b : List Nat} (h : Ok (a ++ b)) : Ok b := fun y hy => h y (by simp [hy])
theorem Ok.take {l : List Nat} (h : Ok l) (i : Nat) : Ok (l.take i) := fun y hy => h y (List.mem_of_mem_take hy)
theorem Ok.drop {l : List Nat} (h : Ok l) (i : Nat) : Ok (l.drop i) := fun y hy => h y (List.mem_of_mem_drop hy)
theorem Ok.get {l : List Nat} (h : Ok l) {i : Nat} (hi : i < l.length) : l[i] < B := h _ (List.getElem_mem hi)
theorem Ok.zeros (n : Nat) : Ok (List.replicate n 0) := by
  intro y hy; rw [List.eq_of_mem_replicate hy]; exact B_pos

theorem val_append (a b : List Nat) : val (a ++ b) = val a + B ^ a.length * val b := by
  induction a with
  | nil => simp
  | cons x a ih =>
    simp only [List.cons_append, val_cons, ih, List.length_cons, Nat.pow_succ]
    rw [Nat.mul_add, ← Nat.add_assoc, ← Nat.mul_assoc, Nat.mul_comm (B ^ a.length) B]

theorem val_snoc (a : List Nat) (x : Nat) : val (a ++ [x]) = val a + B ^ a.length * x := by
  rw [val_append]; simp [val_cons]

theorem val_zeros (n : Nat) : val (List.replicate n 0) = 0 := by
  induction n with
  | zero => rfl
  | succ n ih => rw [List.replicate_succ, val_cons, ih]; simp

theorem val_take_succ {l : List Nat} {i : Nat} (hi : i < l.length) : val (l.take (i + 1)) = val (l.take i) + B ^ i * l[i] := by
  rw [List.take_succ_eq_append_getElem hi, val_snoc, List.length_take, Nat.min_eq_left (by omega)]

theorem val_take_drop (l : List Nat) (i : Nat) (hi : i ≤ l.length) : val l = val (l.take i) + B ^ i * val (l.drop i) := by
  conv => lhs; rw [← List.take_append_drop i l]
  rw [val_append, List.length_take, Nat.min_eq_left hi]

theorem val_lt {l : List Nat} (h : Ok l) : val l < B ^ l.length := by
  induction l with
  | nil => simp
  | cons x l ih =>
    have h1 := ih h.tail
    have h2 := h.head
    rw [val_cons, List.length_cons, Nat.pow_succ, Nat.mul_comm _ B]
    calc x + B * val l < B + B * val l := by omega
      _ = B * (val l + 1) := by rw [Nat.mul_add]; omega
      _ ≤ B * B ^ l.length := Nat.mul_le_mul_left _ h1

/-- Two lists of as many words with the same number are the same. -/
theorem val_inj {a b : List Nat} (ha : Ok a) (hb : Ok b) (hl : a.length = b.length) (h : val a = val b) : a = b := by
  induction a generalizing b with
  | nil => cases b with
    | nil => rfl
    | cons y b => simp at hl
  | cons x a ih =>
    cases b with
    | nil => simp at hl
    | cons y b =>
      simp only [val_cons] at h
      have hx := ha.head
      have hy := hb.head
      have hm : x = y := by
        have h1 := congrArg (· % B) h
        simp only [Nat.add_mul_mod_self_left] at h1
        rwa [Nat.mod_eq_of_lt hx, Nat.mod_eq_of_lt hy] at h1
      subst hm
      have : val a = val b := Nat.eq_of_mul_eq_mul_left B_pos (by omega)
      rw [ih ha.tail hb.tail (by simpa using hl) this]

/-- The words of a number, none that is 0 at the end. -/
def dig (n : Nat) : List Nat := if _h : n = 0 then [] else (n % B) :: dig (n / B)
termination_by n
decreasing_by exact Nat.div_lt_self (by omega) one_lt_B

theorem dig_zero : dig 0 = [] := by rw [dig]; simp
theorem dig_pos {n : Nat} (h : n ≠ 0) : dig n = (n % B) :: dig (n / B) := by rw [dig]; simp [h]
theorem dig_eq_nil {n : Nat} : dig n = [] ↔ n = 0 := by
  constructor
  · intro h; apply Classical.byContradiction; intro hn; rw [dig_pos hn] at h; cases h
  · rintro rfl; exact dig_zero

theorem val_dig (n : Nat) : val (dig n) = n := by
  induction n using Nat.strongRecOn with
  | ind n ih =>
    by_cases h : n = 0
    · subst h; rw [dig_zero]; rfl
    · rw [dig_pos h, val_cons, ih (n / B) (Nat.div_lt_self (by omega) one_lt_B)]
      have := Nat.mod_add_div n B; exact this

theorem ok_dig (n : Nat) : Ok (dig n) := by
  induction n using Nat.strongRecOn with
  | ind n ih =>
    by_cases h : n = 0
    · subst h; rw [dig_zero]; exact Ok.nil
    · rw [dig_pos h]; exact (ih (n / B) (Nat.div_lt_self (by omega) one_lt_B)).cons (Nat.mod_lt _ B_pos)

/-- A list whose last word is not 0 is the list of the words of its number. -/
theorem dig_val {l : List Nat} (h : Ok l) (hl : ∀ h0 : l ≠ [], l.getLast h0 ≠ 0) : dig (val l) = l := by
  induction l with
  | nil => exact dig_zero
  | cons x l ih =>
    have hx := h.head
    have hne : val (x :: l) ≠ 0 := by
      intro h0
      rw [val_cons] at h0
      have hx0 : x = 0 := by omega
      have hv : val l = 0 := by
        have : B * val l = 0 := by omega
        rcases Nat.mul_eq_zero.1 this with h1 | h1
        · exact absurd h1 (by have := B_pos; omega)
        · exact h1
      by_cases hn : l = []
      · subst hn; exact hl (by simp) (by simpa using hx0)
      · have hi := ih h.tail (fun h0 => by have := hl (by simp); rwa [List.getLast_cons hn] at this)
        rw [hv, dig_zero] at hi; exact hn hi.symm
    rw [dig_pos hne, val_cons]
    have e1 : (x + B * val l) % B = x := by rw [Nat.add_mul_mod_self_left, Nat.mod_eq_of_lt hx]
    have e2 : (x + B * val l) / B = val l := by rw [Nat.add_mul_div_left _ _ B_pos, Nat.div_eq_of_lt hx]; omega
    rw [e1, e2, ih h.tail]
    intro h0
    have := hl (by simp)
    rwa [List.getLast_cons h0] at this

theorem dig_last {n : Nat} (h : dig n ≠ []) : (dig n).getLast h ≠ 0 := by
  induction n using Nat.strongRecOn with
  | ind n ih =>
    by_cases h0 : n = 0
    · subst h0; exact absurd dig_zero h
    · have e := dig_pos h0
      by_cases hn : dig (n / B) = []
      · have hd : n / B = 0 := dig_eq_nil.1 hn
        have hlt : n < B := (Nat.div_eq_zero_iff_lt B_pos).1 hd
        have hg : (dig n).getLast h = n := by
          have : dig n = [n] := by rw [e, hn, Nat.mod_eq_of_lt hlt]
          simp [this]
        rw [hg]; exact h0
      · have := ih (n / B) (Nat.div_lt_self (by omega) one_lt_B) hn
        have hg : (dig n).getLast h = (dig (n / B)).getLast hn := by
          simp only [e, List.getLast_cons hn]
        rw [hg]; exact this

theorem dig_length_le {n k : Nat} : (dig n).length ≤ k ↔ n < B ^ k := by
  induction k generalizing n with
  | zero => simp [dig_eq_nil]
  | succ k ih =>
    by_cases h : n = 0
    · subst h; simp [dig_zero, B_pow_pos]
    · rw [dig_pos h, List.length_cons, Nat.add_le_add_iff_right, ih, Nat.pow_succ, Nat.div_lt_iff_lt_mul B_pos]

theorem dig_small {n : Nat} (h : n ≠ 0) (hB : n < B) : dig n = [n] := by
  rw [dig_pos h, Nat.mod_eq_of_lt hB, Nat.div_eq_of_lt hB, dig_zero]

/-- What is left when the words 0 at the end are cut off. -/
theorem dig_of_append_zero {l : List Nat} : ∀ n, dig (val (l ++ List.replicate n 0)) = dig (val l) := by
  intro n; rw [val_append, val_zeros]; simp

theorem val_dropLast_zero {l : List Nat} (h : l ≠ []) (h0 : l.getLast h = 0) : val l.dropLast = val l := by
  conv => rhs; rw [← List.dropLast_concat_getLast h, h0]
  rw [val_snoc]; simp

theorem le_dig_length {n k : Nat} (h : B ^ k ≤ n) : k < (dig n).length := by
  apply Nat.lt_of_not_le; intro h'
  have := dig_length_le.1 h'; omega

/-- A list has at least as many words as its number needs. -/
theorem dig_length_val {l : List Nat} (h : Ok l) : (dig (val l)).length ≤ l.length := dig_length_le.2 (val_lt h)

theorem val_lower {n : Nat} (h : n ≠ 0) : B ^ ((dig n).length - 1) ≤ n := by
  apply Nat.le_of_not_lt; intro h'
  have h1 := dig_length_le.2 h'
  have h2 : (dig n).length ≠ 0 := by intro h0; exact h (dig_eq_nil.1 (List.length_eq_zero_iff.1 h0))
  omega

/-- The words of a list's number are the list's first ones. -/
theorem dig_take {l : List Nat} (h : Ok l) (k : Nat) (hk : k ≤ l.length) (hv : val (l.take k) = val l) (hn : ∀ h0 : 0 < k, l[k - 1]'(by omega) ≠ 0) : dig (val l) = l.take k := by
  rw [← hv]
  refine dig_val (h.take k) fun h0 => ?_
  have hk0 : 0 < k := by
    rcases Nat.eq_zero_or_pos k with h1 | h1
    · subst h1; simp at h0
    · exact h1
  have := hn hk0
  have e : (l.take k).getLast h0 = l[k - 1]'(by omega) := by
    rw [List.getLast_eq_getElem]
    simp only [List.length_take, Nat.min_eq_left hk, List.getElem_take]
  rw [e]; exact this

theorem dig_prefix {l : List Nat} (h : Ok l) : dig (val l) = l.take (dig (val l)).length := by
  have hle := dig_length_val h
  refine val_inj (ok_dig _) (h.take _) (by simp; omega) ?_
  have h1 := val_take_drop l _ hle
  have h2 : val (l.take (dig (val l)).length) < B ^ (dig (val l)).length := by
    have := val_lt (h.take (dig (val l)).length)
    rwa [List.length_take, Nat.min_eq_left hle] at this
  have h3 := val_lt (ok_dig (val l))
  rw [val_dig] at h3 ⊢
  have h4 : val (l.drop (dig (val l)).length) = 0 := by
    apply Classical.byContradiction; intro hne
    have : B ^ (dig (val l)).length * 1 ≤ B ^ (dig (val l)).length * val (l.drop (dig (val l)).length) := Nat.mul_le_mul_left _ (by omega)
    omega
  rw [h4] at h1; omega

end M
end Go.Proofs.YtjdkbbggelpchaaDoor
