/- The variables of a set one by one: which bits are still to come. -/
import Derived.Test.YtpfappojeneecaaDoorVList
namespace Go.Proofs.YtpfappojeneecaaDoor
open Go.RowKit VM

/-- r has the bits of X from p on. -/
def From (X r : BitVec 64) (p : Nat) : Prop := ∀ j, r.getLsbD j = (decide (p ≤ j) && X.getLsbD j)
theorem From.start (X : BitVec 64) : From X X 0 := fun j => by simp
theorem From.bit {X r : BitVec 64} {p : Nat} (h : From X r p) (hr : r ≠ 0#64) : p ≤ low r ∧ low r < 64 ∧ X.getLsbD (low r) = true ∧ ∀ j, p ≤ j → j < low r → X.getLsbD j = false := by
  obtain ⟨h1, h2, h3⟩ := low_spec r hr
  have h4 := h (low r)
  rw [h2] at h4
  have h5 : p ≤ low r ∧ X.getLsbD (low r) = true := by
    have := h4.symm
    simpa only [Bool.and_eq_true, decide_eq_true_eq] using this
  refine ⟨h5.1, h1, h5.2, fun j hp hj => ?_⟩
  have h6 := h j
  rw [h3 j hj] at h6
  simpa only [hp, decide_true, Bool.true_and] using h6.symm
theorem From.next {X r : BitVec 64} {p : Nat} (h : From X r p) (hr : r ≠ 0#64) : From X (r &&& (r - 1#64)) (low r + 1) := by
  obtain ⟨h1, h2, h3⟩ := low_spec r hr
  obtain ⟨g1, _, _, _⟩ := h.bit hr
  intro j
  by_cases hj : j < 64
  · rw [BitVec.getLsbD_and, ← BitVec.not_neg, BitVec.getLsbD_not, BitVec.getLsbD_neg]
    by_cases hq : low r < j
    · have hex : ∃ i, i < j ∧ r.getLsbD i = true := ⟨low r, hq, h2⟩
      have e1 : decide (low r + 1 ≤ j) = true := by rw [decide_eq_true_eq]; omega
      simp only [hj, decide_true, Bool.true_and, hex, e1]
      rw [h j]
      have e2 : decide (p ≤ j) = true := by rw [decide_eq_true_eq]; omega
      rw [e2]
      cases X.getLsbD j <;> rfl
    · have e1 : decide (low r + 1 ≤ j) = false := by rw [decide_eq_false_iff_not]; omega
      have hno : ¬ ∃ i, i < j ∧ r.getLsbD i = true := by
        rintro ⟨i, hi, hb⟩
        rw [h3 i (by omega)] at hb; cases hb
      simp only [hj, decide_true, Bool.true_and, hno, decide_false, e1, Bool.false_and]
      cases r.getLsbD j <;> rfl
  · rw [BitVec.getLsbD_of_ge _ _ (by omega), BitVec.getLsbD_of_ge _ _ (by omega), Bool.and_false]
theorem From.end {X : BitVec 64} {p : Nat} (h : From X 0#64 p) : ∀ j, p ≤ j → X.getLsbD j = false := fun j hp => by
  have := h j
  rw [BitVec.getLsbD_zero] at this
  simpa only [hp, decide_true, Bool.true_and] using this.symm

theorem lst_skip (s : BitVec 128) (a : Nat) : ∀ d, (∀ j : Nat, a ≤ j → j < a + d → has s ((j : Int) + 1) = false) → lst s (a + d) = lst s a
  | 0, _ => rfl
  | d + 1, h => by
    rw [show a + (d + 1) = (a + d) + 1 by omega, lst_no s (a + d) (h (a + d) (by omega) (by omega))]
    exact lst_skip s a d fun j h1 h2 => h j h1 (by omega)
theorem lst_prefix (s : BitVec 128) (a : Nat) : ∀ d, lst s a <+: lst s (a + d)
  | 0 => List.prefix_refl _
  | d + 1 => by
    have ih := lst_prefix s a d
    rw [show a + (d + 1) = (a + d) + 1 by omega]
    cases h : has s (((a + d : Nat) : Int) + 1)
    · rw [lst_no s _ h]; exact ih
    · rw [lst_yes s _ h]; exact ih.trans (List.prefix_append _ _)
/-- Word i of a set. -/
def word (s : BitVec 128) (i : Nat) : BitVec 64 := if i = 0 then lo s else hi s
theorem has_word (s : BitVec 128) (i j : Nat) (hi' : i < 2) (hj : j < 64) : has s (((64 * i + j : Nat) : Int) + 1) = (word s i).getLsbD j := by
  have e : (((64 * i + j : Nat) : Int) + 1 - 1).toNat = 64 * i + j := by omega
  rw [has_bit _ _ (by omega), e]
  unfold word
  by_cases h0 : i = 0
  · subst h0
    rw [if_pos rfl, lo_bit]
    simp only [hj, decide_true, Bool.true_and, Nat.mul_zero, Nat.zero_add]
  · rw [if_neg h0, hi_bit]
    have : i = 1 := by omega
    subst this
    simp only [hj, decide_true, Bool.true_and, Nat.mul_one]
/-- One round: the variable that comes, and what has come then. -/
theorem each_step {s : BitVec 128} {i p : Nat} {r : BitVec 64} (hi' : i < 2) (h : From (word s i) r p) (hr : r ≠ 0#64) :
    lst s (64 * i + low r + 1) = lst s (64 * i + p) ++ [((i : Int) * 64 + (low r : Nat) + 1)] ∧ low r < 64 := by
  obtain ⟨g1, g2, g3, g4⟩ := h.bit hr
  have e1 : lst s (64 * i + low r) = lst s (64 * i + p) := by
    have := lst_skip s (64 * i + p) (low r - p) (fun j h1 h2 => by
      have := has_word s i (j - 64 * i) hi' (by omega)
      rw [show 64 * i + (j - 64 * i) = j by omega] at this
      rw [this]; exact g4 _ (by omega) (by omega))
    rwa [show 64 * i + p + (low r - p) = 64 * i + low r by omega] at this
  have hb := has_word s i (low r) hi' g2
  rw [g3] at hb
  rw [lst_yes s _ hb, e1]
  refine ⟨by congr 2; omega, g2⟩
theorem each_end {s : BitVec 128} {i p : Nat} (hi' : i < 2) (hp : p ≤ 64) (h : From (word s i) 0#64 p) : lst s (64 * i + p) = lst s (64 * (i + 1)) := by
  have := lst_skip s (64 * i + p) (64 - p) (fun j h1 h2 => by
    have e := has_word s i (j - 64 * i) hi' (by omega)
    rw [show 64 * i + (j - 64 * i) = j by omega] at e
    rw [e]; exact h.end _ (by omega))
  rw [← this]
  congr 1
  omega
end Go.Proofs.YtpfappojeneecaaDoor
