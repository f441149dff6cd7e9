/- Contracts of lit: Var, Valid, Holds, the comparison of literals. -/
import Derived.Test.YtalpbpcanebbbaaLW
import Derived.Test.YtalpbpcanebbbaaLM
import Derived.Test.YtalpbpcanebbbaaShelf
import Derived.Lib.OwnBridge
import Derived.Sort.OwnSortedInts
namespace Go.Proofs.Ytalpbpcanebbbaa
open Go.RowKit VM LM Go.Lib Go.Sort Go.Shelf

set_option maxRecDepth 100000 in
set_option maxHeartbeats 1000000 in
/-- Var, for all integers (a sort's comparison asks it of all). -/
theorem varW_any (l : Int) (w : World) :
    Calls Try.prog 62 #[.int .i64 l] w fun e w' => e = .returned (.int .i64 (varW l)) ∧ w' = w := by
  unfold varW absW
  by_cases h : l < 0
  · rw [if_pos h]
    generalize hw : IntKind.i64.wrap (-l) = v
    by_cases h1 : v < 1
    · rw [if_pos (.inl h1)]
      go_enter Try.func62, Try.ntmps62
      go_wp2
      go_ret
      exact ⟨rfl, rfl⟩
    · by_cases h2 : 128 < v
      · rw [if_pos (.inr h2)]
        go_enter Try.func62, Try.ntmps62
        go_wp2
        go_ret
        exact ⟨rfl, rfl⟩
      · rw [if_neg (by omega)]
        go_enter Try.func62, Try.ntmps62
        go_wp2
        go_ret
        exact ⟨rfl, rfl⟩
  · rw [if_neg h]
    by_cases h1 : l < 1
    · rw [if_pos (.inl h1)]
      go_enter Try.func62, Try.ntmps62
      go_wp2
      go_ret
      exact ⟨rfl, rfl⟩
    · by_cases h2 : 128 < l
      · rw [if_pos (.inr h2)]
        go_enter Try.func62, Try.ntmps62
        go_wp2
        go_ret
        exact ⟨rfl, rfl⟩
      · rw [if_neg (by omega)]
        go_enter Try.func62, Try.ntmps62
        go_wp2
        go_ret
        exact ⟨rfl, rfl⟩
theorem var_any (l : Int) (w : World) (h : In64 l) :
    Calls Try.prog 62 #[.int .i64 l] w fun e w' => e = .returned (.int .i64 (varL l)) ∧ w' = w := by
  rw [← varW_eq h]; exact varW_any l w
set_option maxRecDepth 100000 in
set_option maxHeartbeats 1000000 in
theorem valid_any (l n : Int) (w : World) (h : In64 l) :
    Calls Try.prog 75 #[.int .i64 l, .int .i64 n] w fun e w' => e = .returned (.bool (validL l n)) ∧ w' = w := by
  have C := mkHid (fun W => var_any l W h)
  unfold validL
  clear h
  generalize varL l = v at *
  by_cases h1 : 0 < v
  · go_enter Try.func75, Try.ntmps75
    go_wp2_with (go_at_call 62; refine (C.out _).mono ?_; rintro e w2 ⟨rfl, rfl⟩)
    go_ret
    exact ⟨by simp [h1], rfl⟩
  · go_enter Try.func75, Try.ntmps75
    go_wp2_with (go_at_call 62; refine (C.out _).mono ?_; rintro e w2 ⟨rfl, rfl⟩)
    go_ret
    exact ⟨by simp; omega, rfl⟩
set_option maxRecDepth 100000 in
set_option maxHeartbeats 1000000 in
theorem holds_any (a : BitVec 128) (l : Int) (w : World) (h : In64 l) :
    Calls Try.prog 54 #[sv a, .int .i64 l] w fun e w' => e = .returned (.bool (holdsL a l)) ∧ Below w.heap.size w w' := by
  have C := mkHid (fun W => var_any l W h)
  have CH := mkHid (fun W => has_any a (varL l) W)
  unfold holdsL
  clear h
  generalize varL l = v at *
  generalize has a v = b at *
  unfold sv at *
  generalize wd (lo a) = al at *
  generalize wd (hi a) = ah at *
  by_cases h1 : 0 < v
  · go_enter Try.func54, Try.ntmps54
    go_wp2_with (first | (go_at_call 62; refine (C.out _).mono ?_; rintro e w2 ⟨rfl, rfl⟩) | (go_at_call 61; refine (CH.out _).mono ?_; rintro e w3 ⟨rfl, hb⟩))
    go_ret
    exact ⟨by simp [h1], bnx (bal (Below.refl _ _) _) hb⟩
  · go_enter Try.func54, Try.ntmps54
    go_wp2_with (first | (go_at_call 62; refine (C.out _).mono ?_; rintro e w2 ⟨rfl, rfl⟩))
    go_ret
    exact ⟨by rw [decide_eq_false (by omega : ¬ 0 < v)]; rfl, bal (Below.refl _ _) _⟩
theorem Ints.uni {w : World} {v : Value} {l : List Int} (h : Ints w v l) : ∃ ao cap, v = .slice ao l.length cap ∧ ∀ j (x : Int), l[j]? = some x → ∃ b off, ao = some ⟨b, off, none⟩ ∧ w.cell? ⟨b, off + j, none⟩ = some (.int .i64 x) := by
  rcases h with ⟨rfl, ao, cap, rfl⟩ | ⟨b, off, cap, rfl, h3⟩
  · exact ⟨ao, cap, rfl, fun j x hj => by simp at hj⟩
  · exact ⟨_, cap, rfl, fun j x hj => ⟨b, off, rfl, h3 j x hj⟩⟩
section
variable {α : Type} {l : List α} {P : α → Bool} {k : Nat} {x : α}
theorem any_found (hx : l[k]? = some x) (hp : P x = true) : l.any P = true := List.any_eq_true.2 ⟨x, List.mem_of_getElem? hx, hp⟩
theorem any_none (h : ∀ y ∈ l.take k, P y = false) (hk : k = l.length) : l.any P = false := by
  subst hk
  rw [List.take_length] at h
  rw [List.any_eq_false]
  intro y hy
  rw [h y hy]; simp
theorem any_start : ∀ y ∈ l.take 0, P y = false := by simp
theorem any_step (h : ∀ y ∈ l.take k, P y = false) (hx : l[k]? = some x) (hp : P x = false) : ∀ y ∈ l.take (k + 1), P y = false := by
  intro y hy
  rw [List.take_add_one, hx] at hy
  rcases List.mem_append.1 hy with hy | hy
  · exact h y hy
  · simp at hy; rw [hy]; exact hp
end
def orV (a b : Int) : Int := if a ≠ 0 then a else b
def cf (x y : Int) : Int := orV (Lib.compareInt (varW x) (varW y)) (Lib.compareInt x y)
theorem cf_lt (x y : Int) : ltOf cf x y = true ↔ lt x y := by
  unfold ltOf cf orV Lib.compareInt lt
  rw [decide_eq_true_eq]
  by_cases h1 : varW x < varW y
  · simp [h1]
  · by_cases h2 : varW x > varW y
    · simp [h1, h2]; omega
    · have : varW x = varW y := by omega
      simp [this]
      by_cases h3 : x < y
      · simp [h3]
      · by_cases h4 : y < x <;> simp [h3, h4]
theorem cf_swo : SWO (ltOf cf) where
  irrefl x := by rw [Bool.eq_false_iff]; intro h; exact lt_irrefl _ ((cf_lt x x).1 h)
  trans x y z h1 h2 := (cf_lt x z).2 (lt_trans ((cf_lt x y).1 h1) ((cf_lt y z).1 h2))
  ntrans x y z h1 h2 := by
    have a : ¬ lt x y := fun h => by rw [(cf_lt x y).2 h] at h1; cases h1
    have b : ¬ lt y z := fun h => by rw [(cf_lt y z).2 h] at h2; cases h2
    rw [Bool.eq_false_iff]
    intro h
    have c := (cf_lt x z).1 h
    unfold lt at a b c; omega
theorem cf_total (x y : Int) (h1 : ltOf cf x y = false) (h2 : ltOf cf y x = false) : x = y := by
  have a : ¬ lt x y := fun h => by rw [(cf_lt x y).2 h] at h1; cases h1
  have b : ¬ lt y x := fun h => by rw [(cf_lt y x).2 h] at h2; cases h2
  unfold lt at a b; omega
/-- The list in order, with repetitions. -/
def sortL (l : List Int) : List Int := l.mergeSort fun x y => !(ltOf cf) y x
theorem sortL_length (l : List Int) : (sortL l).length = l.length := by unfold sortL; rw [List.length_mergeSort]
theorem mem_sortL (l : List Int) (x : Int) : x ∈ sortL l ↔ x ∈ l := by unfold sortL; exact List.mem_mergeSort
theorem sortL_sorted (l : List Int) : (sortL l).Pairwise fun x y => x = y ∨ lt x y := by
  have h := List.pairwise_mergeSort (le := fun x y => !(ltOf cf) y x)
    (fun a b c h1 h2 => by
      rw [Bool.not_eq_true'] at h1 h2 ⊢
      exact cf_swo.ntrans _ _ _ h2 h1)
    (fun a b => by
      rw [Bool.or_eq_true, Bool.not_eq_true', Bool.not_eq_true']
      cases h : ltOf cf b a
      · exact .inl rfl
      · refine .inr ?_
        rw [Bool.eq_false_iff]; intro k
        exact lt_irrefl _ (lt_trans ((cf_lt _ _).1 h) ((cf_lt _ _).1 k))) l
  refine List.Pairwise.imp (fun {a b} k => ?_) h
  rw [Bool.not_eq_true'] at k
  rcases lt_total a b with c | c | c
  · exact .inr c
  · exact .inl c
  · rw [(cf_lt _ _).2 c] at k; cases k
def inOrd (l : List Int) : List Int := Lib.compact (sortL l)
theorem inOrd_spec (l : List Int) : (inOrd l).Pairwise lt ∧ ∀ x, x ∈ inOrd l ↔ x ∈ l := by
  unfold inOrd Lib.compact
  have hs := List.pairwise_iff_getElem.1 (sortL_sorted l)
  have h := compact_sorted (sortL l).toArray (fun i j hij hj => by
    simp only [List.size_toArray] at hj
    rw [getElem!_pos _ _ (by simp; omega), getElem!_pos _ _ (by simpa using hj)]
    simpa using hs i j (by omega) hj hij) (sortL l).length (by simp)
  refine ⟨h.1, fun x => ?_⟩
  rw [h.2, ← mem_sortL]
  constructor
  · rintro ⟨j, hj, rfl⟩
    rw [getElem!_pos _ _ (by simpa using hj)]
    simp
  · intro hx
    obtain ⟨j, hj, e⟩ := List.getElem_of_mem hx
    exact ⟨j, hj, by rw [getElem!_pos _ _ (by simpa using hj)]; simpa using e⟩
theorem inOrd_order (l : List Int) (h : ∀ x ∈ l, 0 < varL x) : inOrd l = order l :=
  sorted_ext (inOrd_spec l).1 (order_sorted l) fun x => by
    rw [(inOrd_spec l).2, mem_order]
    exact ⟨fun k => ⟨k, h x k⟩, fun k => k.1⟩
set_option maxRecDepth 100000 in
set_option maxHeartbeats 1000000 in
theorem or_any (c1 c2 : Int) (b : Nat) (w : World) (h0 : w.cell? ⟨b, 0, none⟩ = some (.int .i64 c1)) (h1 : w.cell? ⟨b, 1, none⟩ = some (.int .i64 c2)) :
    Calls Try.prog 41 #[.slice (some ⟨b, 0, none⟩) 2 2] w fun e w' => e = .returned (.int .i64 (orV c1 c2)) ∧ w' = w := by
  unfold orV
  by_cases k1 : c1 = 0
  · subst k1
    rw [if_neg (by simp)]
    by_cases k2 : c2 = 0
    · subst k2
      go_enter Try.func41, Try.ntmps41
      go_wp2
      refine wp_loop_rounds 3 ?_
      rw [rounds_succ]
      go_wp2
      rw [rounds_succ]
      go_wp2
      rw [rounds_succ]
      go_wp2
      go_ret
      exact ⟨rfl, rfl⟩
    · go_enter Try.func41, Try.ntmps41
      go_wp2
      refine wp_loop_rounds 3 ?_
      rw [rounds_succ]
      go_wp2
      rw [rounds_succ]
      go_wp2
      go_ret
      exact ⟨rfl, rfl⟩
  · rw [if_pos k1]
    go_enter Try.func41, Try.ntmps41
    go_wp2
    refine wp_loop_rounds 3 ?_
    rw [rounds_succ]
    go_wp2
    go_ret
    exact ⟨rfl, rfl⟩
theorem new2 (w : World) (u v : Value) (t : TypeId) : (w.alloc (.cells #[u, v] t)).cell? ⟨w.heap.size, 0, none⟩ = some u ∧ (w.alloc (.cells #[u, v] t)).cell? ⟨w.heap.size, 1, none⟩ = some v := by
  have hb : (w.alloc (.cells #[u, v] t)).heap[w.heap.size]? = some (.cells #[u, v] t (0, 0)) := heap_alloc_new w _
  exact ⟨by simp only [World.cell?, hb]; rfl, by simp only [World.cell?, hb]; rfl⟩
theorem or_new (c1 c2 : Int) (w : World) (t : TypeId) :
    Calls Try.prog 41 #[.slice (some ⟨w.heap.size, 0, none⟩) 2 2] (w.alloc (.cells #[.int .i64 c1, .int .i64 c2] t)) fun e w' => e = .returned (.int .i64 (orV c1 c2)) ∧ w' = w.alloc (.cells #[.int .i64 c1, .int .i64 c2] t) :=
  or_any c1 c2 _ _ (new2 w _ _ t).1 (new2 w _ _ t).2
set_option maxRecDepth 100000 in
set_option maxHeartbeats 1000000 in
theorem cmp_any (x y : Int) (w : World) :
    Calls Try.prog 100 #[.int .i64 x, .int .i64 y] w fun e w' => e = .returned (.int .i64 (cf x y)) ∧ ∃ q os', w' = grow (w.drewN q) os' := by
  have CV := mkHid (fun l W => varW_any l W)
  have CC := mkHid (fun a b W => Try.cmp_Compare_int a b W)
  have CO := mkHid (fun c1 c2 W t => or_new c1 c2 W t)
  unfold cf
  generalize hvx : varW x = vx
  generalize hvy : varW y = vy
  have HX := mkHid hvx
  have HY := mkHid hvy
  clear hvx hvy
  go_enter Try.func100, Try.ntmps100
  go_wp2_with (first
    | (go_at_call 62; refine (CV.out _ _).mono ?_; rintro e w2 ⟨rfl, rfl⟩)
    | (go_at_call 42; refine (CC.out _ _ _).mono ?_; rintro e w2 ⟨rfl, rfl⟩)
    | (go_at_call 41; refine (CO.out _ _ _ _).mono ?_; rintro e w2 ⟨rfl, rfl⟩))
  go_ret
  exact ⟨by rw [← HX.out, ← HY.out]; rfl, 0, _, alloc_eq_grow _ _⟩
end Go.Proofs.Ytalpbpcanebbbaa
