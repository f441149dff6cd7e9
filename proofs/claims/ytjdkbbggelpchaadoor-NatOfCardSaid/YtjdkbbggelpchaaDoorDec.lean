/- Decimal digits: plain lemmas, without a program. -/
import Derived.Lib.ItoaNum
import Derived.Lib.ItoaLen
import Derived.Test.YtjdkbbggelpchaaDoorM
namespace Go.Proofs.YtjdkbbggelpchaaDoor
namespace D
open Go.Lib

/-- The last k decimal digits of v, zeros ahead. -/
def padk : Nat → Nat → List UInt8
  | 0, _ => []
  | k + 1, v => padk k (v / 10) ++ [UInt8.ofNat (48 + v % 10)]
theorem padk_length (k v : Nat) : (padk k v).length = k := by
  induction k generalizing v with
  | zero => rfl
  | succ k ih => simp [padk, ih]
theorem dec_big {u : Nat} (h : ¬ u < 10) : decDigits u = decDigits (u / 10) ++ [UInt8.ofNat (48 + u % 10)] := by rw [decDigits, dif_neg h]
theorem dec_small {u : Nat} (h : u < 10) : decDigits u = [UInt8.ofNat (48 + u)] := by rw [decDigits, dif_pos h]
theorem dec_shift (k : Nat) : ∀ u v, 0 < u → v < 10 ^ k → decDigits (u * 10 ^ k + v) = decDigits u ++ padk k v := by
  induction k with
  | zero => intro u v _ hv; have : v = 0 := by simpa using hv
            subst this; simp [padk]
  | succ k ih =>
    intro u v hu hv
    have hp : 1 ≤ 10 ^ k := Nat.one_le_pow _ _ (by decide)
    have e : u * 10 ^ (k + 1) = (u * 10 ^ k) * 10 := by rw [Nat.pow_succ, Nat.mul_assoc]
    have hle : 1 ≤ u * 10 ^ k := Nat.mul_pos hu hp
    rw [Nat.pow_succ] at hv
    have h10 : ¬ u * 10 ^ (k + 1) + v < 10 := by omega
    rw [dec_big h10]
    have d : (u * 10 ^ (k + 1) + v) / 10 = u * 10 ^ k + v / 10 := by omega
    have m : (u * 10 ^ (k + 1) + v) % 10 = v % 10 := by omega
    rw [d, m, ih u (v / 10) hu (by omega), padk, List.append_assoc]
theorem padk_zero (k : Nat) : padk k 0 = List.replicate k 48 := by
  induction k with
  | zero => rfl
  | succ k ih => rw [padk, show 0 / 10 = 0 from rfl, ih, List.replicate_succ']; rfl
theorem padk_dec : ∀ (k v : Nat), 0 < k → v < 10 ^ k → nDigits v ≤ k ∧ padk k v = List.replicate (k - nDigits v) 48 ++ decDigits v
  | 0, _, h, _ => absurd h (by omega)
  | k + 1, v, _, hv => by
    by_cases h : v < 10
    · rw [nDigits_small h, dec_small h]
      refine ⟨by omega, ?_⟩
      rw [padk, show v / 10 = 0 by omega, padk_zero, show v % 10 = v by omega]
      rfl
    · have hk : 0 < k := by
        rcases Nat.eq_zero_or_pos k with h0 | h0
        · subst h0; simp at hv; omega
        · exact h0
      rw [Nat.pow_succ] at hv
      obtain ⟨h1, h2⟩ := padk_dec k (v / 10) hk (by omega)
      rw [nDigits_big h, dec_big h, padk, h2]
      refine ⟨by omega, ?_⟩
      rw [show k + 1 - (nDigits (v / 10) + 1) = k - nDigits (v / 10) by omega, List.append_assoc]

/-- The base of the parts of a text. -/
def S : Nat := 10000000000000000000
theorem S_pow : S = 10 ^ 19 := rfl
/-- The number of a list of parts, the lowest one first. -/
def v10 : List Nat → Nat
  | [] => 0
  | x :: xs => x + S * v10 xs
theorem v10_append (a b : List Nat) : v10 (a ++ b) = v10 a + S ^ a.length * v10 b := by
  induction a with
  | nil => simp [v10]
  | cons x a ih =>
    simp only [List.cons_append, v10, ih, List.length_cons, Nat.pow_succ]
    rw [Nat.mul_add, ← Nat.add_assoc, ← Nat.mul_assoc, Nat.mul_comm (S ^ a.length) S]
theorem v10_pos {l : List Nat} (h : l ≠ []) (hl : l.getLast h ≠ 0) : 0 < v10 l := by
  have := List.dropLast_concat_getLast h
  rw [← this, v10_append]
  have h1 : 0 < S ^ l.dropLast.length := Nat.pow_pos (by decide)
  have h2 : 0 < S ^ l.dropLast.length * v10 [l.getLast h] := Nat.mul_pos h1 (by simp only [v10]; omega)
  omega
/-- One part more, from above. -/
theorem dec_part (l : List Nat) (k : Nat) (hk : k + 1 < l.length) (hlast : l.getLast (by intro h; subst h; simp at hk) ≠ 0) (p : Nat) (hp : l[k] = p) (hb : p < S) :
    decDigits (v10 (l.drop k)) = decDigits (v10 (l.drop (k + 1))) ++ (List.replicate (19 - nDigits p) 48 ++ decDigits p) := by
  rw [List.drop_eq_getElem_cons (by omega), v10, hp]
  have hne : l.drop (k + 1) ≠ [] := by intro h; have := congrArg List.length h; simp at this; omega
  have hpos := v10_pos hne (by rw [List.getLast_drop]; exact hlast)
  rw [show p + S * v10 (l.drop (k + 1)) = v10 (l.drop (k + 1)) * 10 ^ 19 + p by rw [← S_pow, Nat.mul_comm S]; omega]
  rw [dec_shift 19 _ p hpos hb, (padk_dec 19 p (by omega) hb).2]
theorem nd_part (p : Nat) (hb : p < S) : nDigits p ≤ 19 := (padk_dec 19 p (by omega) hb).1

/-- How long a numeral is. -/
theorem nDigits_le (k n : Nat) (h : n < 10 ^ (k + 1)) : nDigits n ≤ k + 1 := (padk_dec (k + 1) n (by omega) h).1
theorem nDigits_words (k n : Nat) (h : n < M.B ^ k) : nDigits n ≤ 20 * k + 1 := by
  refine nDigits_le _ _ (Nat.lt_of_lt_of_le h ?_)
  have h1 : M.B ≤ 10 ^ 20 := by rw [M.B_eq]; decide
  calc M.B ^ k ≤ (10 ^ 20) ^ k := Nat.pow_le_pow_left h1 k
    _ = 10 ^ (20 * k) := by rw [← Nat.pow_mul]
    _ ≤ 10 ^ (20 * k + 1) := Nat.pow_le_pow_right (by omega) (by omega)

/-! ### Reading -/
/-- The number of decimal digits. -/
def dvAux (acc : Nat) (l : List UInt8) : Nat := l.foldl (fun n c => n * 10 + (c.toNat - 48)) acc
def dv (l : List UInt8) : Nat := dvAux 0 l
/-- A digit. -/
def isDig (c : UInt8) : Bool := decide (48 ≤ c.toNat ∧ c.toNat ≤ 57)
/-- Is it a decimal form of at most 2000 bytes? -/
def isDec (l : List UInt8) : Bool := l ≠ [] && decide (l.length ≤ 2000) && (decide (l.head? ≠ some 48) || decide (l = [48])) && l.all isDig
theorem dvAux_append (acc : Nat) (a b : List UInt8) : dvAux acc (a ++ b) = dvAux (dvAux acc a) b := by simp [dvAux]
theorem dv_append (a b : List UInt8) : dv (a ++ b) = dvAux (dv a) b := dvAux_append 0 a b
theorem dv_snoc (a : List UInt8) (c : UInt8) : dv (a ++ [c]) = dv a * 10 + (c.toNat - 48) := by rw [dv_append]; rfl
theorem dvAux_eq (acc : Nat) (l : List UInt8) : dvAux acc l = acc * 10 ^ l.length + dv l := by
  induction l generalizing acc with
  | nil => simp [dvAux, dv]
  | cons c l ih =>
    have e1 : dvAux acc (c :: l) = dvAux (acc * 10 + (c.toNat - 48)) l := rfl
    have e2 : dv (c :: l) = dvAux (c.toNat - 48) l := by simp [dv, dvAux]
    rw [e1, e2, ih, ih (c.toNat - 48), List.length_cons, Nat.pow_succ, Nat.add_mul, Nat.mul_assoc, Nat.mul_comm 10]
    omega
theorem dv_cat (a b : List UInt8) : dv (a ++ b) = dv a * 10 ^ b.length + dv b := by rw [dv_append, dvAux_eq]
theorem isDig_le {c : UInt8} (h : isDig c = true) : 48 ≤ c.toNat ∧ c.toNat ≤ 57 := by simpa [isDig] using h
theorem dv_lt (l : List UInt8) (h : l.all isDig = true) : dv l < 10 ^ l.length := by
  have aux : ∀ (n : Nat) (l : List UInt8), l.length = n → l.all isDig = true → dv l < 10 ^ n := by
    intro n
    induction n with
    | zero => intro l hl _; rw [List.length_eq_zero_iff.1 hl]; simp [dv, dvAux]
    | succ n ih =>
      intro l hl h
      have hne : l ≠ [] := by intro h0; rw [h0] at hl; simp at hl
      have e := List.dropLast_concat_getLast hne
      rw [← e] at h ⊢
      have h2 := ih l.dropLast (by simp [hl]) (by simp at h ⊢; exact h.1)
      rw [dv_snoc, Nat.pow_succ]
      have h3 : isDig (l.getLast hne) = true := by simp at h; exact h.2
      have := isDig_le h3
      omega
  exact aux _ l rfl h
theorem dig_toNat (d : Nat) (h : d < 10) : (UInt8.ofNat (48 + d)).toNat = 48 + d := by simp [UInt8.toNat_ofNat]; omega
theorem dv_dec (n : Nat) : dv (decDigits n) = n := by
  induction n using Nat.strongRecOn with
  | ind n ih =>
    by_cases h : n < 10
    · rw [dec_small h]; show 0 * 10 + _ = _; rw [dig_toNat n h]; omega
    · rw [dec_big h, dv_snoc, ih _ (by omega), dig_toNat _ (by omega)]; omega
theorem dec_all (n : Nat) : (decDigits n).all isDig = true := by
  induction n using Nat.strongRecOn with
  | ind n ih =>
    have hd : ∀ d, d < 10 → isDig (UInt8.ofNat (48 + d)) = true := fun d h => by simp only [isDig, dig_toNat d h]; simp; omega
    by_cases h : n < 10
    · rw [dec_small h, List.all_cons, hd n h]; rfl
    · rw [dec_big h, List.all_append, ih _ (by omega), List.all_cons, hd (n % 10) (by omega)]; rfl
theorem dec_ne (n : Nat) : decDigits n ≠ [] := by
  intro h; have := decDigits_length n; rw [h] at this; have := nDigits_pos n; simp at *; omega
theorem dec_head (n : Nat) (h0 : n ≠ 0) : (decDigits n).head? ≠ some 48 := by
  induction n using Nat.strongRecOn with
  | ind n ih =>
    by_cases h : n < 10
    · rw [dec_small h]
      simp only [List.head?_cons, ne_eq, Option.some.injEq]
      intro e
      have := congrArg UInt8.toNat e
      rw [dig_toNat n h] at this
      have e48 : (48 : UInt8).toNat = 48 := rfl
      omega
    · rw [dec_big h, List.head?_append]
      have h1 := ih (n / 10) (by omega) (by omega)
      cases e : (decDigits (n / 10)).head? with
      | none => exact absurd (List.head?_eq_none_iff.1 e) (dec_ne _)
      | some c => rw [e] at h1; simpa using h1
theorem isDec_dec (n : Nat) (h : nDigits n ≤ 2000) : isDec (decDigits n) = true := by
  have h1 := dec_ne n
  have h2 := dec_all n
  have h3 : (decDigits n).length ≤ 2000 := by rw [decDigits_length]; exact h
  by_cases h0 : n = 0
  · subst h0
    have : decDigits 0 = [48] := by rw [dec_small (by omega)]; rfl
    rw [this]; decide
  · have h4 := dec_head n h0
    simp [isDec, h1, h2, h3, h4]
/-- A decimal form is that of its number. -/
theorem dec_dv (l : List UInt8) (h : isDec l = true) : decDigits (dv l) = l := by
  have aux : ∀ (n : Nat) (l : List UInt8), l.length = n → l ≠ [] → l.all isDig = true → (l.head? ≠ some 48 ∨ l = [48]) → decDigits (dv l) = l := by
    intro n
    induction n with
    | zero => intro l hl hne; exact absurd (List.length_eq_zero_iff.1 hl) hne
    | succ n ih =>
      intro l hl hne hall hh
      have e := List.dropLast_concat_getLast hne
      generalize hc : l.getLast hne = c at e
      generalize hd : l.dropLast = d at e
      subst e
      have hcd : isDig c = true := by simp at hall; exact hall.2
      have hc2 := isDig_le hcd
      have hda : d.all isDig = true := by simp at hall ⊢; exact hall.1
      have hcc : UInt8.ofNat (48 + (c.toNat - 48)) = c := by
        rw [show 48 + (c.toNat - 48) = c.toNat by omega]; simp
      by_cases hd0 : d = []
      · subst hd0
        have : dv ([] ++ [c]) = c.toNat - 48 := by rw [dv_snoc]; simp [dv, dvAux]
        rw [this, dec_small (by omega), hcc]; rfl
      · have hhd : d.head? ≠ some 48 := by
          rcases hh with hh | hh
          · rw [List.head?_append] at hh
            cases ed : d.head? with
            | none => exact absurd (List.head?_eq_none_iff.1 ed) hd0
            | some x => rw [ed] at hh; simpa using hh
          · have := congrArg List.length hh
            simp at this; exact absurd this hd0
        have hdl : d.length = n := by simpa using hl
        have h1 := ih d hdl hd0 hda (.inl hhd)
        have hpos : 0 < dv d := by
          apply Nat.pos_of_ne_zero; intro h0
          rw [h0, dec_small (by omega)] at h1
          rw [← h1] at hhd
          exact hhd rfl
        rw [dv_snoc, dec_big (by omega), show (dv d * 10 + (c.toNat - 48)) / 10 = dv d by omega, show (dv d * 10 + (c.toNat - 48)) % 10 = c.toNat - 48 by omega, h1, hcc]
  simp only [isDec, Bool.and_eq_true, Bool.or_eq_true, decide_eq_true_eq] at h
  obtain ⟨⟨⟨h1, _⟩, h3⟩, h4⟩ := h
  exact aux _ l rfl (by simpa using h1) h4 (by simpa using h3)
theorem dec_inj {a b : Nat} (h : decDigits a = decDigits b) : a = b := by rw [← dv_dec a, h, dv_dec]
end D
end Go.Proofs.YtjdkbbggelpchaaDoor
