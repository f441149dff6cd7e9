/- The number of bits, as math/bits.OnesCount64 adds it up: plain arithmetic. -/
import Derived.Test.YtpfappojeneecaaDoorVM
namespace Go.Proofs.YtpfappojeneecaaDoor.VM
open Go

/-- The number of ones among the k lowest binary digits. -/
def pop : Nat → Nat → Nat
  | 0, _ => 0
  | k + 1, n => n % 2 + pop k (n / 2)
theorem pop_le (k n : Nat) : pop k n ≤ k := by
  induction k generalizing n with
  | zero => exact Nat.le_refl _
  | succ k ih => have := ih (n / 2); simp only [pop]; omega
theorem pop_add (a b n : Nat) : pop (a + b) n = pop a n + pop b (n / 2 ^ a) := by
  induction a generalizing n with
  | zero => simp [pop]
  | succ a ih =>
    rw [show a + 1 + b = a + b + 1 by omega]
    simp only [pop]
    rw [ih, Nat.pow_succ, Nat.mul_comm (2 ^ a) 2, ← Nat.div_div_eq_div_mul]
    omega
theorem pop8 (b n : Nat) : pop 8 (b + 256 * n) = pop 8 b := by
  simp only [pop]
  omega
theorem pop_byte (k b n : Nat) (hb : b < 256) : pop (8 + k) (b + 256 * n) = pop 8 b + pop k n := by
  rw [pop_add, pop8 b n, show (b + 256 * n) / 2 ^ 8 = n by omega]

theorem and_split (a b c d : Nat) (ha : a < 256) (hc : c < 256) : (a + 256 * b) &&& (c + 256 * d) = (a &&& c) + 256 * (b &&& d) := by
  have hac : a &&& c < 256 := Nat.lt_of_le_of_lt Nat.and_le_left ha
  apply Nat.eq_of_testBit_eq
  intro i
  rw [Nat.testBit_and, Nat.add_comm a, Nat.add_comm c, Nat.add_comm (a &&& c), show (256 : Nat) = 2 ^ 8 from rfl]
  rw [Nat.testBit_two_pow_mul_add _ ha, Nat.testBit_two_pow_mul_add _ hc, Nat.testBit_two_pow_mul_add _ hac]
  by_cases h : i < 8 <;> simp [h]
theorem fin1 : ∀ v, v < 128 → ∀ c, c < 2 → (v + 128 * c) &&& 85 = v &&& 85 := by decide +kernel
theorem fin2 : ∀ v, v < 64 → ∀ c, c < 4 → (v + 64 * c) &&& 51 = v &&& 51 := by decide +kernel
theorem step1 (b n M : Nat) (hb : b < 256) : ((b + 256 * n) / 2 &&& (85 + 256 * M)) + ((b + 256 * n) &&& (85 + 256 * M)) = (b / 2 &&& 85) + (b &&& 85) + 256 * ((n / 2 &&& M) + (n &&& M)) := by
  rw [show (b + 256 * n) / 2 = (b / 2 + 128 * (n % 2)) + 256 * (n / 2) by omega, and_split _ _ _ _ (by omega) (by omega), and_split _ _ _ _ hb (by omega), fin1 _ (by omega) _ (by omega)]
  omega
theorem step2 (b n M : Nat) (hb : b < 256) : ((b + 256 * n) / 4 &&& (51 + 256 * M)) + ((b + 256 * n) &&& (51 + 256 * M)) = (b / 4 &&& 51) + (b &&& 51) + 256 * ((n / 4 &&& M) + (n &&& M)) := by
  rw [show (b + 256 * n) / 4 = (b / 4 + 64 * (n % 4)) + 256 * (n / 4) by omega, and_split _ _ _ _ (by omega) (by omega), and_split _ _ _ _ hb (by omega), fin2 _ (by omega) _ (by omega)]
  omega
theorem and15 (x : Nat) : x &&& 15 = x % 16 := Nat.and_two_pow_sub_one_eq_mod x 4
theorem step3 (b n M : Nat) (hb : b ≤ 68) (hn : n % 16 ≤ 4) : ((b + 256 * n) / 16 + (b + 256 * n)) &&& (15 + 256 * M) = ((b + b / 16) &&& 15) + 256 * ((n / 16 + n) &&& M) := by
  rw [show (b + 256 * n) / 16 + (b + 256 * n) = (b + b / 16 + 16 * (n % 16)) + 256 * (n / 16 + n) by omega, and_split _ _ _ _ (by omega) (by omega), and15, and15]
  omega
def y1 (b : Nat) : Nat := (b / 2 &&& 85) + (b &&& 85)
def y2 (b : Nat) : Nat := (y1 b / 4 &&& 51) + (y1 b &&& 51)
theorem fin3 : ∀ b, b < 256 → y1 b < 256 ∧ y2 b ≤ 68 ∧ y2 b % 16 ≤ 4 ∧ (y2 b + y2 b / 16) &&& 15 = pop 8 b := by decide +kernel
theorem y1_lt {b : Nat} (h : b < 256) : y1 b < 256 := (fin3 b h).1
theorem y2_le {b : Nat} (h : b < 256) : y2 b ≤ 68 := (fin3 b h).2.1
theorem y2_lo {b : Nat} (h : b < 256) : y2 b % 16 ≤ 4 := (fin3 b h).2.2.1
theorem y3_eq {b : Nat} (h : b < 256) : (y2 b + y2 b / 16) &&& 15 = pop 8 b := (fin3 b h).2.2.2

/-- Eight bytes as one number. -/
def by8 (a b c d e f g h : Nat) : Nat := a + 256 * (b + 256 * (c + 256 * (d + 256 * (e + 256 * (f + 256 * (g + 256 * h))))))
theorem by8_of (x : Nat) (hx : x < 18446744073709551616) : ∃ a b c d e f g h, x = by8 a b c d e f g h ∧ a < 256 ∧ b < 256 ∧ c < 256 ∧ d < 256 ∧ e < 256 ∧ f < 256 ∧ g < 256 ∧ h < 256 :=
  ⟨x % 256, x / 256 % 256, x / 65536 % 256, x / 16777216 % 256, x / 4294967296 % 256, x / 1099511627776 % 256, x / 281474976710656 % 256, x / 72057594037927936, by unfold by8; omega, by omega, by omega, by omega, by omega, by omega, by omega, by omega, by omega⟩
section
variable {a b c d e f g h : Nat} (ha : a < 256) (hb : b < 256) (hc : c < 256) (hd : d < 256) (he : e < 256) (hf : f < 256) (hg : g < 256) (hh : h < 256)
include ha hb hc hd he hf hg hh
omit hh in
theorem all1 : (by8 a b c d e f g h / 2 &&& 6148914691236517205) + (by8 a b c d e f g h &&& 6148914691236517205) = by8 (y1 a) (y1 b) (y1 c) (y1 d) (y1 e) (y1 f) (y1 g) (y1 h) := by
  unfold by8 y1
  rw [show (6148914691236517205 : Nat) = 85 + 256 * (85 + 256 * (85 + 256 * (85 + 256 * (85 + 256 * (85 + 256 * (85 + 256 * 85)))))) by decide]
  rw [step1 _ _ _ ha, step1 _ _ _ hb, step1 _ _ _ hc, step1 _ _ _ hd, step1 _ _ _ he, step1 _ _ _ hf, step1 _ _ _ hg]
omit hh in
theorem all2 : (by8 (y1 a) (y1 b) (y1 c) (y1 d) (y1 e) (y1 f) (y1 g) (y1 h) / 4 &&& 3689348814741910323) + (by8 (y1 a) (y1 b) (y1 c) (y1 d) (y1 e) (y1 f) (y1 g) (y1 h) &&& 3689348814741910323) = by8 (y2 a) (y2 b) (y2 c) (y2 d) (y2 e) (y2 f) (y2 g) (y2 h) := by
  unfold by8 y2
  rw [show (3689348814741910323 : Nat) = 51 + 256 * (51 + 256 * (51 + 256 * (51 + 256 * (51 + 256 * (51 + 256 * (51 + 256 * 51)))))) by decide]
  rw [step2 _ _ _ (y1_lt ha), step2 _ _ _ (y1_lt hb), step2 _ _ _ (y1_lt hc), step2 _ _ _ (y1_lt hd), step2 _ _ _ (y1_lt he), step2 _ _ _ (y1_lt hf), step2 _ _ _ (y1_lt hg)]
theorem all3 : (by8 (y2 a) (y2 b) (y2 c) (y2 d) (y2 e) (y2 f) (y2 g) (y2 h) / 16 + by8 (y2 a) (y2 b) (y2 c) (y2 d) (y2 e) (y2 f) (y2 g) (y2 h)) &&& 1085102592571150095 = by8 (pop 8 a) (pop 8 b) (pop 8 c) (pop 8 d) (pop 8 e) (pop 8 f) (pop 8 g) (pop 8 h) := by
  have l1 := y2_lo hb; have l2 := y2_lo hc; have l3 := y2_lo hd; have l4 := y2_lo he; have l5 := y2_lo hf; have l6 := y2_lo hg; have l7 := y2_lo hh
  unfold by8
  rw [show (1085102592571150095 : Nat) = 15 + 256 * (15 + 256 * (15 + 256 * (15 + 256 * (15 + 256 * (15 + 256 * (15 + 256 * 15)))))) by decide]
  rw [step3 _ _ _ (y2_le ha) (by omega), step3 _ _ _ (y2_le hb) (by omega), step3 _ _ _ (y2_le hc) (by omega), step3 _ _ _ (y2_le hd) (by omega), step3 _ _ _ (y2_le he) (by omega), step3 _ _ _ (y2_le hf) (by omega), step3 _ _ _ (y2_le hg) l7, Nat.add_comm (y2 h / 16)]
  rw [y3_eq ha, y3_eq hb, y3_eq hc, y3_eq hd, y3_eq he, y3_eq hf, y3_eq hg, y3_eq hh]
omit hh in
theorem all_pop : pop 64 (by8 a b c d e f g h) = pop 8 a + (pop 8 b + (pop 8 c + (pop 8 d + (pop 8 e + (pop 8 f + (pop 8 g + pop 8 h)))))) := by
  unfold by8
  rw [pop_byte 56 _ _ ha, pop_byte 48 _ _ hb, pop_byte 40 _ _ hc, pop_byte 32 _ _ hd, pop_byte 24 _ _ he, pop_byte 16 _ _ hf, pop_byte 8 _ _ hg]
end
theorem by8_lt {a b c d e f g h : Nat} (ha : a ≤ 136) (hb : b ≤ 136) (hc : c ≤ 136) (hd : d ≤ 136) (he : e ≤ 136) (hf : f ≤ 136) (hg : g ≤ 136) (hh : h ≤ 136) : by8 a b c d e f g h < 10000000000000000000 := by unfold by8; omega
theorem all4 {a b c d e f g h : Nat} (ha : a ≤ 8) (hb : b ≤ 8) (hc : c ≤ 8) (hd : d ≤ 8) (he : e ≤ 8) (hf : f ≤ 8) (hg : g ≤ 8) (hh : h ≤ 8) :
    ∃ x4 x5 x6 : Nat, x4 = by8 a b c d e f g h + by8 a b c d e f g h / 256 ∧ x5 = x4 + x4 / 65536 ∧ x6 = x5 + x5 / 4294967296 ∧ x6 < 4611686018427387904 ∧ x6 % 128 = a + (b + (c + (d + (e + (f + (g + h)))))) := by
  have e4 : by8 a b c d e f g h + by8 a b c d e f g h / 256 = by8 (a + b) (b + c) (c + d) (d + e) (e + f) (f + g) (g + h) h := by unfold by8; omega
  have e5 : by8 (a + b) (b + c) (c + d) (d + e) (e + f) (f + g) (g + h) h + by8 (a + b) (b + c) (c + d) (d + e) (e + f) (f + g) (g + h) h / 65536 = by8 (a + b + (c + d)) (b + c + (d + e)) (c + d + (e + f)) (d + e + (f + g)) (e + f + (g + h)) (f + g + h) (g + h) h := by unfold by8; omega
  have e6 : by8 (a + b + (c + d)) (b + c + (d + e)) (c + d + (e + f)) (d + e + (f + g)) (e + f + (g + h)) (f + g + h) (g + h) h + by8 (a + b + (c + d)) (b + c + (d + e)) (c + d + (e + f)) (d + e + (f + g)) (e + f + (g + h)) (f + g + h) (g + h) h / 4294967296 = by8 (a + b + (c + d) + (e + f + (g + h))) (b + c + (d + e) + (f + g + h)) (c + d + (e + f) + (g + h)) (d + e + (f + g) + h) (e + f + (g + h)) (f + g + h) (g + h) h := by unfold by8; omega
  refine ⟨_, _, _, rfl, rfl, rfl, ?_, ?_⟩
  · rw [e4, e5, e6]; unfold by8; omega
  · rw [e4, e5, e6]; unfold by8; omega

/-- The number of variables of a set. -/
def card (s : BitVec 128) : Nat := (List.range 128).countP fun i => s.getLsbD i
theorem countP_split (p : Nat → Bool) (a b : Nat) : (List.range (a + b)).countP p = (List.range a).countP p + (List.range b).countP (fun i => p (a + i)) := by
  rw [List.range_add, List.countP_append, List.countP_map]; rfl
theorem pop_count (k n : Nat) : pop k n = (List.range k).countP fun i => n.testBit i := by
  induction k generalizing n with
  | zero => rfl
  | succ k ih =>
    rw [Nat.add_comm k 1, countP_split, Nat.add_comm 1 k]
    simp only [pop, ih]
    congr 1
    · simp only [List.range, List.range.loop, Nat.testBit_zero, List.countP_cons, List.countP_nil, Nat.zero_add, decide_eq_true_eq]
      split <;> omega
    · congr 1
      funext i
      rw [Nat.add_comm 1 i, Nat.testBit_succ]
theorem card_pop (s : BitVec 128) : card s = pop 64 (lo s).toNat + pop 64 (hi s).toNat := by
  unfold card
  have e := countP_split (fun i => s.getLsbD i) 64 64
  rw [show (64 + 64 : Nat) = 128 from rfl] at e
  rw [e, pop_count, pop_count]
  congr 1
  · refine List.countP_congr fun i hi' => ?_
    have h : i < 64 := by simpa using hi'
    rw [show (lo s).toNat.testBit i = (lo s).getLsbD i from rfl, lo_bit]
    simp only [h, decide_true, Bool.true_and]
  · refine List.countP_congr fun i hi' => ?_
    have h : i < 64 := by simpa using hi'
    rw [show (hi s).toNat.testBit i = (hi s).getLsbD i from rfl, hi_bit]
    simp only [h, decide_true, Bool.true_and]
theorem countP_laws (l : List Nat) (p q : Nat → Bool) : l.countP p + l.countP q = l.countP (fun i => p i || q i) + l.countP (fun i => p i && q i) := by
  induction l with
  | nil => rfl
  | cons a l ih =>
    simp only [List.countP_cons]
    cases p a <;> cases q a <;> simp <;> omega
theorem card_laws (a b : BitVec 128) : card a + card b = card (a ||| b) + card (a &&& b) := by
  unfold card
  rw [countP_laws]
  simp only [BitVec.getLsbD_or, BitVec.getLsbD_and]
theorem card_le (s : BitVec 128) : card s ≤ 128 := by
  unfold card
  have := List.countP_le_length (p := fun i => s.getLsbD i) (l := List.range 128)
  rwa [List.length_range] at this
end Go.Proofs.YtpfappojeneecaaDoor.VM
