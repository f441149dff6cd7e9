/- Assignments of few variables, conjunctions: for TheoryBoth. -/
import Derived.Test.YtalpbpcanebbbaaUE
import Derived.Test.YtalpbpcanebbbaaUH
import Derived.Deep.CutRange
namespace Go.Proofs.Ytalpbpcanebbbaa
open Go.RowKit VM LM TM

/-- What an assignment has. -/
theorem has_asg (k n : Nat) (p : Nat) (hp : p < 64) : has (asg k n) ((p : Int) + 1) = (decide (p < n) && k.testBit p) := by
  rw [has_bit _ _ (by omega)]
  have e3 : ((p : Int) + 1 - 1).toNat = p := by omega
  rw [e3]
  unfold asg
  rw [BitVec.getLsbD_ofNat, Nat.testBit_mod_two_pow]
  rw [decide_eq_true (show p < 128 by omega), Bool.true_and]
theorem asg_sub (k n : Nat) : asg k n &&& ~~~all (n : Int) = 0#128 := by
  rw [sub_all_iff]
  intro v h1 h2 h3
  rw [has_bit _ _ (by omega)]
  unfold asg
  rw [BitVec.getLsbD_ofNat, Nat.testBit_mod_two_pow, decide_eq_false (show ¬ (v - 1).toNat < n by omega)]
  simp
theorem holds_asg {k n m : Nat} (hn : n ≤ 20) (hm : m ≤ 20) (hnm : n ≤ m) {x : Int} (hx : validL x (n : Int) = true) : holdsL (asg k m) x = holdsL (asg k n) x := by
  have h := (validL_iff (by omega)).1 hx
  have key : ∀ p : Nat, p < n → holdsL (asg k m) ((p : Int) + 1) = holdsL (asg k n) ((p : Int) + 1) := by
    intro p hp
    unfold holdsL
    rw [varL_up (by omega), has_asg k m p (by omega), has_asg k n p (by omega), decide_eq_true hp, decide_eq_true (show p < m by omega)]
  rcases Int.lt_or_gt_of_ne h.1 with hneg | hpos
  · obtain ⟨p, rfl⟩ : ∃ p : Nat, x = -((p : Int) + 1) := ⟨(-x - 1).toNat, by omega⟩
    rw [holds_neg _ (by rw [varL_up (by omega)]; omega), holds_neg _ (by rw [varL_up (by omega)]; omega), key p (by omega)]
  · obtain ⟨p, rfl⟩ : ∃ p : Nat, x = (p : Int) + 1 := ⟨(x - 1).toNat, by omega⟩
    exact key p (by omega)
theorem any_asg {k n m : Nat} (hn : n ≤ 20) (hm : m ≤ 20) (hnm : n ≤ m) {c : List Int} (hc : validAll c (n : Int) = true) : anyL (asg k m) c = anyL (asg k n) c := by
  rw [Bool.eq_iff_iff, any_iff, any_iff]
  constructor
  · rintro ⟨x, hx, h⟩; exact ⟨x, hx, by rw [← holds_asg hn hm hnm (of_valid hc x hx)]; exact h⟩
  · rintro ⟨x, hx, h⟩; exact ⟨x, hx, by rw [holds_asg hn hm hnm (of_valid hc x hx)]; exact h⟩
theorem all_asg {k n m : Nat} (hn : n ≤ 20) (hm : m ≤ 20) (hnm : n ≤ m) {L : List (List Int)} (h : ckT (n : Int) L = 0) : L.all (anyL (asg k m)) = L.all (anyL (asg k n)) := by
  rw [Bool.eq_iff_iff, List.all_eq_true, List.all_eq_true]
  have h3 := (ckT_zero.1 h).2.2
  constructor
  · intro g c hc; rw [← any_asg hn hm hnm (h3 c hc).2]; exact g c hc
  · intro g c hc; rw [any_asg hn hm hnm (h3 c hc).2]; exact g c hc
/-- A conjunction is true where both theories are. -/
theorem evT_both {n m k : Nat} (hn : n ≤ 20) (hm : m ≤ 20) {L K : List (List Int)} (h1 : ckT (n : Int) L = 0) (h2 : ckT (m : Int) K = 0) (hl : L.length + K.length ≤ 4096) :
    evT ((max n m : Nat) : Int) (L ++ K) (asg k (max n m)) = (evT (n : Int) L (asg k n) && evT (m : Int) K (asg k m)) := by
  have hj : ckT ((max n m : Nat) : Int) (L ++ K) = 0 := by
    have := ckT_join h1 h2 hl
    rwa [show max (n : Int) (m : Int) = ((max n m : Nat) : Int) by omega] at this
  unfold evT
  rw [hj, h1, h2, asg_sub k n, asg_sub k m, asg_sub k (max n m), List.all_append, all_asg hn (by omega) (Nat.le_max_left _ _) h1, all_asg hm (by omega) (Nat.le_max_right _ _) h2]
  simp
theorem join_ok (n m : Nat) (v u : Value) (L K : List (List Int)) (w : World) (h : Cls w v L) (k : Cls w u K) (h1 : ckT (n : Int) L = 0) (h2 : ckT (m : Int) K = 0) (hl : L.length + K.length ≤ 4096) :
    Calls Try.prog 28 #[.agg #[.int .i64 (n : Int), v], .agg #[.int .i64 (m : Int), u]] w fun e w' => ∃ x, e = .returned (.tuple #[.agg #[.int .i64 ((max n m : Nat) : Int), x], .int .i64 0]) ∧ Hid (OwnC w' w.heap.size x (L ++ K) ∧ Below w.heap.size w w') := by
  have := join_any (n : Int) (m : Int) v u L K w (ck_th h1 h) (ck_th h2 k)
  have e : jnE (n : Int) L (m : Int) K = 0 := by unfold jnE; rw [if_pos h1, if_pos h2, if_neg (by omega)]
  rw [e, if_pos rfl, if_pos rfl, show max (n : Int) (m : Int) = ((max n m : Nat) : Int) by omega] at this
  exact this
/-- The two theories in boxes. -/
structure JB (w W : World) (n m : Int) (v u : Value) : Prop where
  t : TB W w.heap.size n v
  s : TB W (w.heap.size + 1) m u
  b : Below w.heap.size w W
theorem JB.next {w W W' : World} {n m : Int} {v u : Value} (H : JB w W n m v u) (hb : Below W.heap.size W W') : JB w W' n m v u := ⟨H.t.grows hb, H.s.grows hb, bnx H.b hb⟩
theorem JB.drew {w W : World} {n m : Int} {v u : Value} (H : JB w W n m v u) : JB w W.drew n m v u := H.next (Below.refl _ _).drew
/-- What few has made of both. -/
structure JF (n m : Nat) (K M : List (List Int)) : Prop where
  k : ckT (n : Int) K = 0
  m : ckT (m : Int) M = 0
  lk : K.length ≤ 60
  lm : M.length ≤ 60
end Go.Proofs.Ytalpbpcanebbbaa
