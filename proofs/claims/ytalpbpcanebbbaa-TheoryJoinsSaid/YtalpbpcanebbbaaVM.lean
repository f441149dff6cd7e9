/- Sets of variables as numbers of 128 bits: plain arithmetic of bits. -/
import Derived.Laws.BitsAllLaws
import Derived.Laws.Bits64b
namespace Go.Proofs.Ytalpbpcanebbbaa.VM
open Go

/-- A word as the model has it. -/
def wd (x : BitVec 64) : Int := (x.toNat : Int)
theorem wd_lo (x : BitVec 64) : 0 ≤ wd x := by unfold wd; omega
theorem wd_hi (x : BitVec 64) : wd x < 18446744073709551616 := by
  unfold wd; have := x.isLt; omega
theorem wd_inj {x y : BitVec 64} : wd x = wd y ↔ x = y := by
  unfold wd
  constructor
  · intro h; exact BitVec.eq_of_toNat_eq (by omega)
  · rintro rfl; rfl
theorem wd_zero : wd 0#64 = 0 := rfl
theorem wd_eq0 (x : BitVec 64) : (wd x = 0) ↔ x = 0#64 := by rw [← wd_zero, wd_inj]
theorem dz (x : BitVec 64) : decide (x = 0#64) = decide (wd x = 0) := by rw [decide_eq_decide]; exact (wd_eq0 x).symm
theorem wd_ofNat (n : Nat) (h : n < 18446744073709551616) : wd (BitVec.ofNat 64 n) = (n : Int) := by
  unfold wd; rw [BitVec.toNat_ofNat]; omega
theorem of_wd (n : Int) (h0 : 0 ≤ n) (h1 : n < 18446744073709551616) : ∃ x : BitVec 64, n = wd x :=
  ⟨BitVec.ofNat 64 n.toNat, by rw [wd_ofNat _ (by omega)]; omega⟩

theorem and_wd (x y : BitVec 64) : bits .and .u64 (wd x) (wd y) = wd (x &&& y) := by
  unfold wd; rw [bits_and_u64_nat _ _ x.isLt y.isLt, BitVec.toNat_and]
theorem or_wd (x y : BitVec 64) : bits .or .u64 (wd x) (wd y) = wd (x ||| y) := by
  unfold wd; rw [bits_or_u64_nat _ _ x.isLt y.isLt, BitVec.toNat_or]
theorem xor_wd (x y : BitVec 64) : bits .xor .u64 (wd x) (wd y) = wd (x ^^^ y) := by
  unfold wd; rw [bits_xor_u64_nat _ _ x.isLt y.isLt, BitVec.toNat_xor]
theorem andNot_wd (x y : BitVec 64) : bits .andNot .u64 (wd x) (wd y) = wd (x &&& ~~~y) := by
  unfold wd; rw [u64_andNot_nat _ _ x.isLt y.isLt, BitVec.toNat_and, BitVec.toNat_not]
theorem neg_wd (x : BitVec 64) : IntKind.u64.wrap (-(wd x)) = wd (-x) := by
  unfold wd
  rw [BitVec.toNat_neg, IntKind.wrap_u64]
  have := x.isLt
  omega
theorem sub_wd (x y : BitVec 64) : IntKind.u64.wrap (wd x - wd y) = wd (x - y) := by
  unfold wd
  rw [BitVec.toNat_sub, IntKind.wrap_u64]
  have := x.isLt
  have := y.isLt
  omega
theorem add_wd (x y : BitVec 64) : IntKind.u64.wrap (wd x + wd y) = wd (x + y) := by
  unfold wd
  rw [BitVec.toNat_add, IntKind.wrap_u64]
  omega

/-- The two words of a set. -/
def lo (s : BitVec 128) : BitVec 64 := s.extractLsb' 0 64
def hi (s : BitVec 128) : BitVec 64 := s.extractLsb' 64 64
theorem lo_bit (s : BitVec 128) (i : Nat) : (lo s).getLsbD i = (decide (i < 64) && s.getLsbD i) := by simp [lo, BitVec.getLsbD_extractLsb']
theorem hi_bit (s : BitVec 128) (i : Nat) : (hi s).getLsbD i = (decide (i < 64) && s.getLsbD (64 + i)) := by simp [hi, BitVec.getLsbD_extractLsb']
theorem ext_lohi {a b : BitVec 128} (h : lo a = lo b) (k : hi a = hi b) : a = b := by
  refine BitVec.eq_of_getLsbD_eq fun i hi' => ?_
  by_cases h64 : i < 64
  · have := congrArg (fun x => x.getLsbD i) h
    simpa only [lo_bit, h64, decide_true, Bool.true_and] using this
  · have := congrArg (fun x => x.getLsbD (i - 64)) k
    have e : 64 + (i - 64) = i := by omega
    have e2 : i - 64 < 64 := by omega
    simpa only [hi_bit, e, e2, decide_true, Bool.true_and] using this
def mk (x y : BitVec 64) : BitVec 128 := y ++ x
theorem lo_mk (x y : BitVec 64) : lo (mk x y) = x := by
  refine BitVec.eq_of_getLsbD_eq fun i hi' => ?_
  simp only [lo_bit, mk, BitVec.getLsbD_append, hi', decide_true, Bool.true_and, if_true]
theorem hi_mk (x y : BitVec 64) : hi (mk x y) = y := by
  refine BitVec.eq_of_getLsbD_eq fun i hi' => ?_
  have e : ¬ 64 + i < 64 := by omega
  simp only [hi_bit, mk, BitVec.getLsbD_append, hi', decide_true, Bool.true_and, e, if_false, Nat.add_sub_cancel_left]
theorem mk_lohi (s : BitVec 128) : mk (lo s) (hi s) = s := ext_lohi (lo_mk _ _) (hi_mk _ _)
theorem lo_zero : lo 0#128 = 0#64 := by decide
theorem hi_zero : hi 0#128 = 0#64 := by decide
theorem lo_or (a b : BitVec 128) : lo (a ||| b) = lo a ||| lo b := BitVec.extractLsb'_or
theorem hi_or (a b : BitVec 128) : hi (a ||| b) = hi a ||| hi b := BitVec.extractLsb'_or
theorem lo_and (a b : BitVec 128) : lo (a &&& b) = lo a &&& lo b := BitVec.extractLsb'_and
theorem hi_and (a b : BitVec 128) : hi (a &&& b) = hi a &&& hi b := BitVec.extractLsb'_and
theorem lo_minus (a b : BitVec 128) : lo (a &&& ~~~b) = lo a &&& ~~~lo b := by
  refine BitVec.eq_of_getLsbD_eq fun i h => ?_
  have : i < 128 := by omega
  simp only [lo_bit, BitVec.getLsbD_and, BitVec.getLsbD_not, h, this, decide_true, Bool.true_and]
theorem hi_minus (a b : BitVec 128) : hi (a &&& ~~~b) = hi a &&& ~~~hi b := by
  refine BitVec.eq_of_getLsbD_eq fun i h => ?_
  have : 64 + i < 128 := by omega
  simp only [hi_bit, BitVec.getLsbD_and, BitVec.getLsbD_not, h, this, decide_true, Bool.true_and]

/-- The set of v alone; nothing if v is no variable. -/
def bit (v : Int) : BitVec 128 := if 1 ≤ v ∧ v ≤ 128 then BitVec.twoPow 128 (v - 1).toNat else 0#128
def has (s : BitVec 128) (v : Int) : Bool := decide (1 ≤ v ∧ v ≤ 128) && s.getLsbD (v - 1).toNat
def withV (s : BitVec 128) (v : Int) : BitVec 128 := s ||| bit v
def without (s : BitVec 128) (v : Int) : BitVec 128 := s &&& ~~~bit v
def all (n : Int) : BitVec 128 := BitVec.ofNat 128 (2 ^ (min n 128).toNat - 1)
def ofL (l : List Int) : BitVec 128 := l.foldl withV 0#128

theorem bit_bit (v : Int) (i : Nat) : (bit v).getLsbD i = decide (1 ≤ v ∧ v ≤ 128 ∧ (i : Int) = v - 1) := by
  unfold bit
  by_cases h : 1 ≤ v ∧ v ≤ 128
  · rw [if_pos h, BitVec.getLsbD_twoPow, Bool.eq_iff_iff]
    simp
    omega
  · rw [if_neg h]
    simp
    omega
theorem has_bit (s : BitVec 128) (v : Int) (h : 1 ≤ v ∧ v ≤ 128) : has s v = s.getLsbD (v - 1).toNat := by simp [has, h]
theorem has_none (s : BitVec 128) (v : Int) (h : ¬ (1 ≤ v ∧ v ≤ 128)) : has s v = false := by simp only [has, h, decide_false, Bool.false_and]
theorem has_or (a b : BitVec 128) (v : Int) : has (a ||| b) v = (has a v || has b v) := by
  unfold has; simp only [BitVec.getLsbD_or]; cases decide (1 ≤ v ∧ v ≤ 128) <;> rfl
theorem has_and (a b : BitVec 128) (v : Int) : has (a &&& b) v = (has a v && has b v) := by
  unfold has; simp only [BitVec.getLsbD_and]; cases decide (1 ≤ v ∧ v ≤ 128) <;> simp
theorem has_minus (a b : BitVec 128) (v : Int) : has (a &&& ~~~b) v = (has a v && !has b v) := by
  by_cases h : 1 ≤ v ∧ v ≤ 128
  · have : (v - 1).toNat < 128 := by omega
    simp only [has_bit _ _ h, BitVec.getLsbD_and, BitVec.getLsbD_not, this, decide_true, Bool.true_and]
  · simp only [has_none _ _ h, Bool.false_and]
theorem has_one (v w : Int) : has (bit v) w = decide (1 ≤ v ∧ v ≤ 128 ∧ w = v) := by
  by_cases h : 1 ≤ w ∧ w ≤ 128
  · rw [has_bit _ _ h, bit_bit, decide_eq_decide]; omega
  · rw [has_none _ _ h]; symm; rw [decide_eq_false_iff_not]; omega
theorem has_empty (v : Int) : has 0#128 v = false := by simp [has]
theorem has_with (s : BitVec 128) (v w : Int) : has (withV s v) w = (has s w || decide (1 ≤ v ∧ v ≤ 128 ∧ w = v)) := by
  unfold withV; rw [has_or, has_one]
theorem has_without (s : BitVec 128) (v w : Int) : has (without s v) w = (has s w && !decide (1 ≤ v ∧ v ≤ 128 ∧ w = v)) := by
  unfold without; rw [has_minus, has_one]
theorem ext_has {a b : BitVec 128} (h : ∀ v : Int, 1 ≤ v → v ≤ 128 → has a v = has b v) : a = b := by
  refine BitVec.eq_of_getLsbD_eq fun i hi' => ?_
  have := h ((i : Int) + 1) (by omega) (by omega)
  rw [has_bit _ _ (by omega), has_bit _ _ (by omega)] at this
  have e : ((i : Int) + 1 - 1).toNat = i := by omega
  rwa [e] at this
theorem has_all (n v : Int) : has (all n) v = decide (1 ≤ v ∧ v ≤ 128 ∧ v ≤ n) := by
  by_cases h : 1 ≤ v ∧ v ≤ 128
  · have e : (v - 1).toNat < 128 := by omega
    rw [has_bit _ _ h, all, BitVec.getLsbD_ofNat, Nat.testBit_two_pow_sub_one, Bool.eq_iff_iff]
    simp only [Bool.and_eq_true, decide_eq_true_eq]
    omega
  · rw [has_none _ _ h]; symm; rw [decide_eq_false_iff_not]; omega
theorem ofL_snoc (l : List Int) (v : Int) : ofL (l ++ [v]) = withV (ofL l) v := by simp [ofL]
theorem has_foldl (l : List Int) (v : Int) : ∀ s : BitVec 128, has (l.foldl withV s) v = (has s v || decide (1 ≤ v ∧ v ≤ 128 ∧ v ∈ l)) := by
  induction l with
  | nil => intro s; simp
  | cons a l ih =>
    intro s
    rw [List.foldl_cons, ih, has_with, Bool.or_assoc]
    congr 1
    rw [Bool.eq_iff_iff]
    simp only [Bool.or_eq_true, decide_eq_true_eq, List.mem_cons]
    constructor
    · rintro (⟨h1, h2, rfl⟩ | ⟨h1, h2, h3⟩)
      · exact ⟨h1, h2, .inl rfl⟩
      · exact ⟨h1, h2, .inr h3⟩
    · rintro ⟨h1, h2, rfl | h3⟩
      · exact .inl ⟨h1, h2, rfl⟩
      · exact .inr ⟨h1, h2, h3⟩
theorem has_ofL (l : List Int) (v : Int) : has (ofL l) v = decide (1 ≤ v ∧ v ≤ 128 ∧ v ∈ l) := by
  unfold ofL; rw [has_foldl, has_empty, Bool.false_or]

/-- The order of models, of numbers of any width: at the lowest bit that differs y has it. -/
def lessW {w : Nat} (x y : BitVec w) : Bool := !((y &&& (x ^^^ y) &&& -(x ^^^ y)) == 0#w)
theorem ne_zero_iff {w : Nat} (x : BitVec w) : (!(x == 0#w)) = true ↔ ∃ i, i < w ∧ x.getLsbD i = true := by
  constructor
  · intro h
    apply Classical.byContradiction
    intro hn
    have : x = 0#w := BitVec.eq_of_getLsbD_eq fun i hi' => by
      cases e : x.getLsbD i
      · simp
      · exact absurd ⟨i, hi', e⟩ hn
    simp [this] at h
  · rintro ⟨i, h, k⟩
    simp only [Bool.not_eq_true', beq_eq_false_iff_ne, ne_eq]
    rintro rfl
    simp at k
theorem lessW_iff {w : Nat} (x y : BitVec w) : lessW x y = true ↔ ∃ i, i < w ∧ x.getLsbD i = false ∧ y.getLsbD i = true ∧ ∀ j, j < i → x.getLsbD j = y.getLsbD j := by
  unfold lessW
  rw [ne_zero_iff]
  constructor
  · rintro ⟨i, hi', h⟩
    rw [BitVec.getLsbD_and, BitVec.getLsbD_and, BitVec.getLsbD_neg, BitVec.getLsbD_xor] at h
    simp only [hi', decide_true, Bool.true_and, Bool.and_eq_true] at h
    obtain ⟨⟨hy, hd⟩, hn⟩ := h
    rw [hd] at hn
    simp only [Bool.true_bne, Bool.not_eq_true', decide_eq_false_iff_not, not_exists, not_and, BitVec.getLsbD_xor] at hn
    refine ⟨i, hi', ?_, hy, fun j hj => ?_⟩
    · rw [hy] at hd; simpa using hd
    · have := hn j hj; simpa using this
  · rintro ⟨i, hi', hx, hy, he⟩
    refine ⟨i, hi', ?_⟩
    rw [BitVec.getLsbD_and, BitVec.getLsbD_and, BitVec.getLsbD_neg, BitVec.getLsbD_xor, hx, hy]
    have : ¬ ∃ j, j < i ∧ (x ^^^ y).getLsbD j = true := by
      rintro ⟨j, hj, h⟩
      rw [BitVec.getLsbD_xor, he j hj] at h
      simp at h
    simp only [this, decide_false]
    simp

def less (a b : BitVec 128) : Bool := lessW a b
theorem less_iff (a b : BitVec 128) : less a b = true ↔ ∃ v : Int, 1 ≤ v ∧ v ≤ 128 ∧ has a v = false ∧ has b v = true ∧ ∀ u, 1 ≤ u → u < v → has a u = has b u := by
  unfold less
  rw [lessW_iff]
  constructor
  · rintro ⟨i, hi', h1, h2, h3⟩
    have e : ((i : Int) + 1 - 1).toNat = i := by omega
    refine ⟨(i : Int) + 1, by omega, by omega, ?_, ?_, fun u hu hv => ?_⟩
    · rw [has_bit _ _ (by omega), e]; exact h1
    · rw [has_bit _ _ (by omega), e]; exact h2
    · rw [has_bit _ _ (by omega), has_bit _ _ (by omega)]; exact h3 _ (by omega)
  · rintro ⟨v, h0, h128, h1, h2, h3⟩
    rw [has_bit _ _ (by omega)] at h1 h2
    refine ⟨(v - 1).toNat, by omega, h1, h2, fun j hj => ?_⟩
    have := h3 ((j : Int) + 1) (by omega) (by omega)
    rw [has_bit _ _ (by omega), has_bit _ _ (by omega)] at this
    have e : ((j : Int) + 1 - 1).toNat = j := by omega
    rwa [e] at this
theorem less_low (a b : BitVec 128) (h : lo a ≠ lo b) : less a b = lessW (lo a) (lo b) := by
  rw [Bool.eq_iff_iff]; unfold less; rw [lessW_iff, lessW_iff]
  constructor
  · rintro ⟨i, hi', h1, h2, h3⟩
    have hlt : i < 64 := by
      apply Classical.byContradiction
      intro hn
      apply h
      refine BitVec.eq_of_getLsbD_eq fun j hj => ?_
      rw [lo_bit, lo_bit, h3 j (by omega)]
    refine ⟨i, hlt, ?_, ?_, fun j hj => ?_⟩
    · rw [lo_bit, h1]; simp
    · rw [lo_bit, h2]; simp [hlt]
    · rw [lo_bit, lo_bit, h3 j hj]
  · rintro ⟨i, hi', h1, h2, h3⟩
    rw [lo_bit] at h1 h2
    simp only [hi', decide_true, Bool.true_and] at h1 h2
    refine ⟨i, by omega, h1, h2, fun j hj => ?_⟩
    have := h3 j hj
    have hj' : j < 64 := by omega
    rw [lo_bit, lo_bit] at this
    simpa only [hj', decide_true, Bool.true_and] using this
theorem less_high (a b : BitVec 128) (h : lo a = lo b) : less a b = lessW (hi a) (hi b) := by
  have hl : ∀ j, j < 64 → a.getLsbD j = b.getLsbD j := fun j hj => by
    have := congrArg (fun x => x.getLsbD j) h
    simpa only [lo_bit, hj, decide_true, Bool.true_and] using this
  rw [Bool.eq_iff_iff]; unfold less; rw [lessW_iff, lessW_iff]
  constructor
  · rintro ⟨i, hi', h1, h2, h3⟩
    have hlt : 64 ≤ i := by
      apply Classical.byContradiction
      intro hn
      have := hl i (by omega)
      rw [h1, h2] at this
      cases this
    have e : 64 + (i - 64) = i := by omega
    refine ⟨i - 64, by omega, ?_, ?_, fun j hj => ?_⟩
    · rw [hi_bit, e, h1]; simp
    · rw [hi_bit, e, h2]; simp; omega
    · rw [hi_bit, hi_bit, h3 (64 + j) (by omega)]
  · rintro ⟨i, hi', h1, h2, h3⟩
    rw [hi_bit] at h1 h2
    simp only [hi', decide_true, Bool.true_and] at h1 h2
    refine ⟨64 + i, by omega, h1, h2, fun j hj => ?_⟩
    by_cases hj' : j < 64
    · exact hl j hj'
    · have := h3 (j - 64) (by omega)
      have e : 64 + (j - 64) = j := by omega
      have e2 : j - 64 < 64 := by omega
      rw [hi_bit, hi_bit, e] at this
      simpa only [e2, decide_true, Bool.true_and] using this

theorem less_irrefl (a : BitVec 128) : less a a = false := by
  cases e : less a a
  · rfl
  · obtain ⟨v, _, _, h1, h2, _⟩ := (less_iff a a).1 e
    rw [h1] at h2; cases h2
theorem less_trans {a b c : BitVec 128} (h : less a b = true) (k : less b c = true) : less a c = true := by
  obtain ⟨v, v1, v2, v3, v4, v5⟩ := (less_iff a b).1 h
  obtain ⟨u, u1, u2, u3, u4, u5⟩ := (less_iff b c).1 k
  rw [less_iff]
  by_cases hc : v < u
  · exact ⟨v, v1, v2, v3, by rw [← u5 v v1 hc]; exact v4, fun t t1 t2 => (v5 t t1 t2).trans (u5 t t1 (by omega))⟩
  · by_cases he : u = v
    · subst he; rw [v4] at u3; cases u3
    · exact ⟨u, u1, u2, by rw [v5 u u1 (by omega)]; exact u3, u4, fun t t1 t2 => (v5 t t1 (by omega)).trans (u5 t t1 t2)⟩
theorem less_first : ∀ (n : Nat) (p : Nat → Bool), (∃ i, i < n ∧ p i = true) → ∃ i, i < n ∧ p i = true ∧ ∀ j, j < i → p j = false := by
  intro n p
  induction n with
  | zero => rintro ⟨i, h, _⟩; omega
  | succ n ih =>
    rintro ⟨i, h, hp⟩
    by_cases hn : ∃ i, i < n ∧ p i = true
    · obtain ⟨j, h1, h2, h3⟩ := ih hn
      exact ⟨j, by omega, h2, h3⟩
    · have : i = n := by
        apply Classical.byContradiction
        intro hne
        exact hn ⟨i, by omega, hp⟩
      subst this
      exact ⟨i, by omega, hp, fun j hj => by
        cases e : p j
        · rfl
        · exact absurd ⟨j, hj, e⟩ hn⟩
theorem less_total {a b : BitVec 128} (h : a ≠ b) : (less a b = true ∧ less b a = false) ∨ (less a b = false ∧ less b a = true) := by
  have hd : ∃ i, i < 128 ∧ (a.getLsbD i != b.getLsbD i) = true := by
    apply Classical.byContradiction
    intro hn
    apply h
    refine BitVec.eq_of_getLsbD_eq fun i hi' => ?_
    apply Classical.byContradiction
    intro hne
    exact hn ⟨i, hi', by simpa using hne⟩
  obtain ⟨i, h1, h2, h3⟩ := less_first 128 _ hd
  have h3' : ∀ j, j < i → a.getLsbD j = b.getLsbD j := fun j hj => by simpa using h3 j hj
  have hex : less a b = true ∨ less b a = true := by
    unfold less
    rw [lessW_iff, lessW_iff]
    cases ea : a.getLsbD i
    · exact .inl ⟨i, h1, ea, by rw [ea] at h2; simpa using h2, h3'⟩
    · exact .inr ⟨i, h1, by rw [ea] at h2; simpa using h2, ea, fun j hj => (h3' j hj).symm⟩
  rcases hex with e | e
  · refine .inl ⟨e, ?_⟩
    cases k : less b a
    · rfl
    · have := less_trans e k; rw [less_irrefl] at this; cases this
  · refine .inr ⟨?_, e⟩
    cases k : less a b
    · rfl
    · have := less_trans e k; rw [less_irrefl] at this; cases this
theorem less_cut {a b : BitVec 128} (h : a &&& b ≠ a) : less (a &&& b) a = true := by
  have hd : ∃ i, i < 128 ∧ ((a &&& b).getLsbD i != a.getLsbD i) = true := by
    apply Classical.byContradiction
    intro hn
    apply h
    refine BitVec.eq_of_getLsbD_eq fun i hi' => ?_
    apply Classical.byContradiction
    intro hne
    exact hn ⟨i, hi', by simpa using hne⟩
  obtain ⟨i, h1, h2, h3⟩ := less_first 128 _ hd
  unfold less
  rw [lessW_iff]
  refine ⟨i, h1, ?_, ?_, fun j hj => by simpa using h3 j hj⟩
  · rw [BitVec.getLsbD_and] at h2 ⊢
    cases ea : a.getLsbD i <;> cases eb : b.getLsbD i <;> simp_all
  · rw [BitVec.getLsbD_and] at h2
    cases ea : a.getLsbD i <;> cases eb : b.getLsbD i <;> simp_all
/-- k ones, as the program makes them. -/
theorem ones (k : Nat) (h : k ≤ 64) : IntKind.u64.wrap (IntKind.u64.wrap (2 ^ k) - 1) = wd (BitVec.ofNat 64 (2 ^ k - 1)) := by
  have h1 : 1 ≤ 2 ^ k := Nat.one_le_two_pow
  have h2 : 2 ^ k ≤ 2 ^ 64 := Nat.pow_le_pow_right (by omega) h
  have e : (2 : Int) ^ k = ((2 ^ k : Nat) : Int) := by simp
  rw [e]
  generalize 2 ^ k = m at *
  rw [wd_ofNat _ (by omega), IntKind.wrap_u64, IntKind.wrap_u64]
  omega
theorem lo_all (n : Int) : lo (all n) = BitVec.ofNat 64 (2 ^ (min n.toNat 64) - 1) := by
  refine BitVec.eq_of_getLsbD_eq fun i h => ?_
  rw [lo_bit, all, BitVec.getLsbD_ofNat, BitVec.getLsbD_ofNat, Nat.testBit_two_pow_sub_one, Nat.testBit_two_pow_sub_one, Bool.eq_iff_iff]
  simp only [Bool.and_eq_true, decide_eq_true_eq]
  omega
theorem hi_all (n : Int) : hi (all n) = BitVec.ofNat 64 (2 ^ (min (n - 64).toNat 64) - 1) := by
  refine BitVec.eq_of_getLsbD_eq fun i h => ?_
  rw [hi_bit, all, BitVec.getLsbD_ofNat, BitVec.getLsbD_ofNat, Nat.testBit_two_pow_sub_one, Nat.testBit_two_pow_sub_one, Bool.eq_iff_iff]
  simp only [Bool.and_eq_true, decide_eq_true_eq]
  omega
/-- Where the bit of v lies. -/
theorem hi_low (v : Int) (h : ¬ (65 ≤ v ∧ v ≤ 128)) : hi (bit v) = 0#64 := by
  refine BitVec.eq_of_getLsbD_eq fun i hi' => ?_
  rw [hi_bit, bit_bit, BitVec.getLsbD_zero]
  simp only [hi', decide_true, Bool.true_and, decide_eq_false_iff_not]
  omega
theorem lo_high (v : Int) (h : 65 ≤ v) : lo (bit v) = 0#64 := by
  refine BitVec.eq_of_getLsbD_eq fun i hi' => ?_
  rw [lo_bit, bit_bit, BitVec.getLsbD_zero]
  simp only [hi', decide_true, Bool.true_and, decide_eq_false_iff_not]
  omega
theorem bit_none (v : Int) (h : ¬ (1 ≤ v ∧ v ≤ 128)) : bit v = 0#128 := by unfold bit; rw [if_neg h]
theorem lo_low (v : Int) (h : 1 ≤ v) (h2 : v ≤ 64) : wd (lo (bit v)) = 2 ^ (v - 1).toNat := by
  have e : lo (bit v) = BitVec.twoPow 64 (v - 1).toNat := by
    refine BitVec.eq_of_getLsbD_eq fun i hi' => ?_
    rw [lo_bit, bit_bit, BitVec.getLsbD_twoPow, Bool.eq_iff_iff]
    simp only [Bool.and_eq_true, decide_eq_true_eq]
    omega
  have h3 : (v - 1).toNat < 64 := by omega
  have h4 : 2 ^ (v - 1).toNat < 2 ^ 64 := Nat.pow_lt_pow_right (by omega) h3
  rw [e, wd, BitVec.toNat_twoPow, Nat.mod_eq_of_lt h4]
  simp
theorem hi_high (v : Int) (h : 65 ≤ v) (h2 : v ≤ 128) : wd (hi (bit v)) = 2 ^ (v - 65).toNat := by
  have e : hi (bit v) = BitVec.twoPow 64 (v - 65).toNat := by
    refine BitVec.eq_of_getLsbD_eq fun i hi' => ?_
    rw [hi_bit, bit_bit, BitVec.getLsbD_twoPow, Bool.eq_iff_iff]
    simp only [Bool.and_eq_true, decide_eq_true_eq]
    omega
  have h3 : (v - 65).toNat < 64 := by omega
  have h4 : 2 ^ (v - 65).toNat < 2 ^ 64 := Nat.pow_lt_pow_right (by omega) h3
  rw [e, wd, BitVec.toNat_twoPow, Nat.mod_eq_of_lt h4]
  simp
theorem or_zero (x : BitVec 64) : x ||| 0#64 = x := BitVec.or_zero
theorem minus_zero (x : BitVec 64) : x &&& ~~~0#64 = x := by
  refine BitVec.eq_of_getLsbD_eq fun i h => ?_
  simp only [BitVec.getLsbD_and, BitVec.getLsbD_not, h, BitVec.getLsbD_zero, decide_true, Bool.not_false, Bool.and_true]
theorem lo_with (s : BitVec 128) (v : Int) : lo (withV s v) = lo s ||| lo (bit v) := lo_or _ _
theorem hi_with (s : BitVec 128) (v : Int) : hi (withV s v) = hi s ||| hi (bit v) := hi_or _ _
theorem lo_without (s : BitVec 128) (v : Int) : lo (without s v) = lo s &&& ~~~lo (bit v) := lo_minus _ _
theorem hi_without (s : BitVec 128) (v : Int) : hi (without s v) = hi s &&& ~~~hi (bit v) := hi_minus _ _
theorem has_mask (s : BitVec 128) (v : Int) : has s v = !((s &&& bit v) == 0#128) := by
  rw [Bool.eq_iff_iff, ne_zero_iff]
  constructor
  · intro h
    have hv : 1 ≤ v ∧ v ≤ 128 := by
      apply Classical.byContradiction
      intro hn
      rw [has_none _ _ hn] at h; cases h
    rw [has_bit _ _ hv] at h
    refine ⟨(v - 1).toNat, by omega, ?_⟩
    rw [BitVec.getLsbD_and, h, bit_bit]
    simp only [Bool.true_and, decide_eq_true_eq]
    omega
  · rintro ⟨i, _, h⟩
    rw [BitVec.getLsbD_and, bit_bit] at h
    simp only [Bool.and_eq_true, decide_eq_true_eq] at h
    rw [has_bit _ _ (by omega)]
    have e : (v - 1).toNat = i := by omega
    rw [e]; exact h.1
theorem zero_lohi (s : BitVec 128) : (s == 0#128) = (decide (lo s = 0#64) && decide (hi s = 0#64)) := by
  rw [Bool.eq_iff_iff]
  simp only [beq_iff_eq, Bool.and_eq_true, decide_eq_true_eq]
  constructor
  · rintro rfl; exact ⟨lo_zero, hi_zero⟩
  · rintro ⟨h, k⟩; exact ext_lohi (h.trans lo_zero.symm) (k.trans hi_zero.symm)
theorem has_low (s : BitVec 128) (v : Int) (h : ¬ (65 ≤ v ∧ v ≤ 128)) : has s v = !decide (lo s &&& lo (bit v) = 0#64) := by
  rw [has_mask, zero_lohi, lo_and, hi_and, hi_low v h]
  simp
theorem has_high (s : BitVec 128) (v : Int) (h : 65 ≤ v) : has s v = !decide (hi s &&& hi (bit v) = 0#64) := by
  rw [has_mask, zero_lohi, lo_and, hi_and, lo_high v h]
  simp
end Go.Proofs.Ytalpbpcanebbbaa.VM
