/- Contracts: Var, Valid, Holds, has, All1 and their likes, of the program and of the specification. -/
import Derived.Test.YtniagnbeeebobaaLW
import Derived.Test.YtniagnbeeebobaaLM
namespace Go.Proofs.Ytniagnbeeebobaa
open Go.RowKit VM LM

set_option maxRecDepth 100000 in
set_option maxHeartbeats 1000000 in
/-- Var, for all integers (a sort's comparison asks it of all). -/
theorem varW_any (l : Int) (w : World) :
    Calls Try.prog 12 #[.int .i64 l] w fun e w' => e = .returned (.int .i64 (varW l)) ∧ w' = w := by
  unfold varW absW
  by_cases h : l < 0
  · rw [if_pos h]
    generalize hw : IntKind.i64.wrap (-l) = v
    by_cases h1 : v < 1
    · rw [if_pos (.inl h1)]
      go_enter Try.func12, Try.ntmps12
      go_wp2
      go_ret
      exact ⟨rfl, rfl⟩
    · by_cases h2 : 128 < v
      · rw [if_pos (.inr h2)]
        go_enter Try.func12, Try.ntmps12
        go_wp2
        go_ret
        exact ⟨rfl, rfl⟩
      · rw [if_neg (by omega)]
        go_enter Try.func12, Try.ntmps12
        go_wp2
        go_ret
        exact ⟨rfl, rfl⟩
  · rw [if_neg h]
    by_cases h1 : l < 1
    · rw [if_pos (.inl h1)]
      go_enter Try.func12, Try.ntmps12
      go_wp2
      go_ret
      exact ⟨rfl, rfl⟩
    · by_cases h2 : 128 < l
      · rw [if_pos (.inr h2)]
        go_enter Try.func12, Try.ntmps12
        go_wp2
        go_ret
        exact ⟨rfl, rfl⟩
      · rw [if_neg (by omega)]
        go_enter Try.func12, Try.ntmps12
        go_wp2
        go_ret
        exact ⟨rfl, rfl⟩
theorem var_any (l : Int) (w : World) (h : In64 l) :
    Calls Try.prog 12 #[.int .i64 l] w fun e w' => e = .returned (.int .i64 (varL l)) ∧ w' = w := by
  rw [← varW_eq h]; exact varW_any l w

set_option maxRecDepth 100000 in
set_option maxHeartbeats 1000000 in
theorem rvar_any (l : Int) (w : World) :
    Calls Try.prog 13 #[.int .i64 l] w fun e w' => e = .returned (.int .i64 (varL l)) ∧ w' = w := by
  unfold varL
  by_cases h1 : 1 ≤ l
  · by_cases h2 : l ≤ 128
    · rw [if_pos ⟨h1, h2⟩]
      go_enter Try.func13, Try.ntmps13
      go_wp2
      go_ret
      exact ⟨rfl, rfl⟩
    · rw [if_neg (by omega), if_neg (by omega)]
      have h3 : -128 ≤ l := by omega
      have h4 : ¬ l ≤ -1 := by omega
      go_enter Try.func13, Try.ntmps13
      go_wp2
      go_ret
      exact ⟨rfl, rfl⟩
  · rw [if_neg (by omega)]
    by_cases h3 : -128 ≤ l
    · by_cases h4 : l ≤ -1
      · rw [if_pos ⟨h3, h4⟩]
        have e : IntKind.i64.wrap (-l) = -l := IntWalk.i64_in _ (by omega)
        go_enter Try.func13, Try.ntmps13
        go_wp2
        go_ret
        exact ⟨rfl, rfl⟩
      · rw [if_neg (by omega)]
        go_enter Try.func13, Try.ntmps13
        go_wp2
        go_ret
        exact ⟨rfl, rfl⟩
    · rw [if_neg (by omega)]
      go_enter Try.func13, Try.ntmps13
      go_wp2
      go_ret
      exact ⟨rfl, rfl⟩

set_option maxRecDepth 100000 in
set_option maxHeartbeats 1000000 in
theorem valid_any (l n : Int) (w : World) (h : In64 l) :
    Calls Try.prog 14 #[.int .i64 l, .int .i64 n] w fun e w' => e = .returned (.bool (validL l n)) ∧ w' = w := by
  have C := mkHid (fun W => var_any l W h)
  unfold validL
  clear h
  generalize varL l = v at *
  by_cases h1 : 0 < v
  · go_enter Try.func14, Try.ntmps14
    go_wp2_with (go_at_call 12; refine (C.out _).mono ?_; rintro e w2 ⟨rfl, rfl⟩)
    go_ret
    exact ⟨by simp [h1], rfl⟩
  · go_enter Try.func14, Try.ntmps14
    go_wp2_with (go_at_call 12; refine (C.out _).mono ?_; rintro e w2 ⟨rfl, rfl⟩)
    go_ret
    exact ⟨by simp; omega, rfl⟩
set_option maxRecDepth 100000 in
set_option maxHeartbeats 1000000 in
theorem rvalid_any (l n : Int) (w : World) :
    Calls Try.prog 15 #[.int .i64 l, .int .i64 n] w fun e w' => e = .returned (.bool (validL l n)) ∧ w' = w := by
  have C := mkHid (fun W => rvar_any l W)
  unfold validL
  generalize varL l = v at *
  by_cases h1 : 0 < v
  · go_enter Try.func15, Try.ntmps15
    go_wp2_with (go_at_call 13; refine (C.out _).mono ?_; rintro e w2 ⟨rfl, rfl⟩)
    go_ret
    exact ⟨by simp [h1], rfl⟩
  · go_enter Try.func15, Try.ntmps15
    go_wp2_with (go_at_call 13; refine (C.out _).mono ?_; rintro e w2 ⟨rfl, rfl⟩)
    go_ret
    exact ⟨by simp; omega, rfl⟩

set_option maxRecDepth 100000 in
set_option maxHeartbeats 1000000 in
theorem holds_any (a : BitVec 128) (l : Int) (w : World) (h : In64 l) :
    Calls Try.prog 23 #[sv a, .int .i64 l] w fun e w' => e = .returned (.bool (holdsL a l)) ∧ Below w.heap.size w w' := by
  have C := mkHid (fun W => var_any l W h)
  have CH := mkHid (fun W => has_any a (varL l) W)
  unfold holdsL
  clear h
  generalize varL l = v at *
  generalize has a v = b at *
  unfold sv at *
  generalize wd (lo a) = al at *
  generalize wd (hi a) = ah at *
  by_cases h1 : 0 < v
  · go_enter Try.func23, Try.ntmps23
    go_wp2_with (first | (go_at_call 12; refine (C.out _).mono ?_; rintro e w2 ⟨rfl, rfl⟩) | (go_at_call 39; refine (CH.out _).mono ?_; rintro e w3 ⟨rfl, hb⟩))
    go_ret
    exact ⟨by simp [h1], bnx (bal (Below.refl _ _) _) hb⟩
  · go_enter Try.func23, Try.ntmps23
    go_wp2_with (first | (go_at_call 12; refine (C.out _).mono ?_; rintro e w2 ⟨rfl, rfl⟩))
    go_ret
    exact ⟨by rw [decide_eq_false (by omega : ¬ 0 < v)]; rfl, bal (Below.refl _ _) _⟩
end Go.Proofs.Ytniagnbeeebobaa
