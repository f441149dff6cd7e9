/- The contract of Resolve. -/
import Derived.Test.YtniagnbeeebobaaLS
namespace Go.Proofs.Ytniagnbeeebobaa
open Go.RowKit VM LM

theorem valid_rest (c : List Int) (x : Int) (h : 0 < varL x) : validAll (rest c x) 128 = validAll c 128 := by
  unfold validAll
  rw [Bool.eq_iff_iff, List.all_eq_true, List.all_eq_true]
  constructor
  · intro k y hy
    by_cases e : y = x
    · subst e
      unfold validL
      have := varL_hi y
      simp [h, this]
    · exact k y ((mem_rest _ _ _).2 ⟨hy, e⟩)
  · intro k y hy
    exact k y ((mem_rest _ _ _).1 hy).1
theorem valid_append (a b : List Int) (n : Int) : validAll (a ++ b) n = (validAll a n && validAll b n) := by
  unfold validAll; rw [List.all_append]
theorem valid_both (c d : List Int) (v : Int) (h : 1 ≤ v ∧ v ≤ 128) : validAll (rest c v ++ rest d (-v)) 128 = (validAll c 128 && validAll d 128) := by
  rw [valid_append, valid_rest _ _ (by rw [varL_up h]; omega), valid_rest _ _ (by rw [varL_neg, varL_up h]; omega)]
theorem rsB_no1 (c d : List Int) {v : Int} (h : ¬ (1 ≤ v ∧ v ≤ 128)) : rsB c d v = false := by unfold rsB; rw [decide_eq_false h]; rfl
theorem rsB_no2 {c : List Int} (d : List Int) {v : Int} (h : c.contains v = false) : rsB c d v = false := by unfold rsB; rw [h]; simp
theorem rsB_no3 (c : List Int) {d : List Int} {v : Int} (h : d.contains (-v) = false) : rsB c d v = false := by unfold rsB; rw [h]; simp
theorem rsL_no {c d : List Int} {v : Int} (h : rsB c d v = false) : rsL c d v = [] := by unfold rsL; rw [h]; rfl
theorem rsB_yes {c d : List Int} {v : Int} (h1 : 1 ≤ v ∧ v ≤ 128) (h2 : c.contains v = true) (h3 : d.contains (-v) = true) : rsB c d v = (validAll c 128 && validAll d 128) := by
  unfold rsB; rw [decide_eq_true h1, h2, h3]; simp
theorem rest_length (c : List Int) (v : Int) : (rest c v).length ≤ c.length := List.length_filter_le _ _
theorem mem_both {c d : List Int} {v : Int} (h1 : ∀ x ∈ c, In64 x) (h2 : ∀ x ∈ d, In64 x) : ∀ x ∈ rest c v ++ rest d (-v), In64 x := by
  intro x hx
  rcases List.mem_append.1 hx with h | h
  · exact h1 x ((mem_rest _ _ _).1 h).1
  · exact h2 x ((mem_rest _ _ _).1 h).1

set_option maxRecDepth 100000 in
set_option maxHeartbeats 2000000 in
theorem resolve_any (cv dv : Value) (c d : List Int) (v : Int) (w : World) (hc : Ints w cv c) (hd : Ints w dv d) (hcl : c.length ≤ 100000) (hdl : d.length ≤ 100000) (hc64 : ∀ x ∈ c, In64 x) (hd64 : ∀ x ∈ d, In64 x) :
    Calls Try.prog 29 #[cv, dv, .int .i64 v] w fun e w' => ∃ u, e = .returned (.tuple #[u, .bool (rsB c d v)]) ∧ Hid (Own w' w.heap.size u (rsL c d v)) ∧ Below w.heap.size w w' := by
  have CC := mkHid (contains_cells cv c v w hc (by omega))
  have CD := mkHid (contains_cells dv d (-v) w hd (by omega))
  obtain ⟨ao, cap, rfl⟩ := hc.form
  obtain ⟨ao2, cap2, rfl⟩ := hd.form
  by_cases h1 : 1 ≤ v
  · have g1 : ¬ v < 1 := by omega
    by_cases h2 : v ≤ 128
    · have g2 : ¬ 128 < v := by omega
      have e1 : IntKind.i64.wrap (-v) = -v := IntWalk.i64_in _ (by omega)
      cases k1 : c.contains v
      · have HN := mkHid (rsB_no2 d k1)
        rw [HN.out, rsL_no HN.out]
        rw [k1] at CC
        clear hc hd hc64 hd64 k1 CD
        go_enter Try.func29, Try.ntmps29
        go_wp2_with (go_at_call 44; with_reducible refine CC.out.mono ?_; rintro e w2 ⟨rfl, rfl⟩)
        refine bodyPost_ret (v := .tuple #[.slice none 0 0, .bool false]) (by simp [results, Try.results29, go_sem]) rfl ?_
        exact ⟨_, rfl, mkHid (Own.nil _ _), Below.refl _ _⟩
      · cases k2 : d.contains (-v)
        · have HN := mkHid (rsB_no3 c k2)
          rw [HN.out, rsL_no HN.out]
          rw [k1] at CC
          rw [k2] at CD
          clear hc hd hc64 hd64 k1 k2
          go_enter Try.func29, Try.ntmps29
          go_wp2_with (first
            | (go_at_call 44; with_reducible refine CC.out.mono ?_; rintro e w2 ⟨rfl, rfl⟩)
            | (go_at_call 44; with_reducible refine CD.out.mono ?_; rintro e w2 ⟨rfl, rfl⟩))
          refine bodyPost_ret (v := .tuple #[.slice none 0 0, .bool false]) (by simp [results, Try.results29, go_sem]) rfl ?_
          exact ⟨_, rfl, mkHid (Own.nil _ _), Below.refl _ _⟩
        · have HY := mkHid (rsB_yes ⟨h1, h2⟩ k1 k2)
          have HB := mkHid (valid_both c d v ⟨h1, h2⟩)
          rw [k1] at CC
          rw [k2] at CD
          have hlen : (rest c v).length + (rest d (-v)).length ≤ 1000000 := by
            have := rest_length c v
            have := rest_length d (-v)
            omega
          have C1 := mkHid (without_any _ c v w hc (by omega))
          have C2 := mkHid (fun W (h : Below w.heap.size w W) => without_any _ d (-v) W (hd.next h) (by omega))
          have C3 := mkHid (fun W u (h : Ints W u (rest c v ++ rest d (-v))) => clause_any u _ 128 W h (by rw [List.length_append]; omega) (mem_both hc64 hd64))
          have HL := mkHid hlen
          have EL : Hid (rsL c d v = clL (rest c v ++ rest d (-v)) 128) := mkHid (by unfold rsL clL; rw [HY.out, HB.out])
          rw [EL.out, HY.out, ← HB.out]
          clear hc hd hc64 hd64 k1 k2 hlen HY HB EL
          generalize rest c v = r1 at *
          generalize rest d (-v) = r2 at *
          cases kv : validAll (r1 ++ r2) 128
          · have E2 : clE (r1 ++ r2) 128 = 1 := by unfold clE; rw [kv]; rfl
            rw [E2] at C3
            clear E2 kv
            generalize hr : clL (r1 ++ r2) 128 = r at *
            generalize clB (r1 ++ r2) 128 = o at *
            clear hr
            go_enter Try.func29, Try.ntmps29
            go_wp2_with (first
              | (go_at_call 44; with_reducible refine CC.out.mono ?_; rintro e w2 ⟨rfl, rfl⟩)
              | (go_at_call 44; with_reducible refine CD.out.mono ?_; rintro e w2 ⟨rfl, rfl⟩)
              | (go_at_call 45; with_reducible refine C1.out.mono ?_; rintro e w3 ⟨u3, rfl, ho, hb⟩; have HO3 : Hid (Own w3 w2.heap.size u3 r1) := mkHid ho; have HB3 := mkHid hb; clear ho hb)
              | (go_at_call 45; with_reducible refine (C2.out _ HB3.out).mono ?_; rintro e w4 ⟨u4, rfl, ho, hb⟩; have HO4 : Hid (Own w4 w3.heap.size u4 r2) := mkHid ho; have HO5 := mkHid (HO3.out.below hb); have HB4 := mkHid (bnx HB3.out hb); clear ho hb)
              | (at_builtin; refine wpList_app rfl (.tmp 33) (.tmp 37) rfl rfl rfl HO5.out HO4.out.ints (by have := HL.out; omega) HB4.out.size ?_; intro v6 w6 hown hgrow; have HO6 : Hid (Own w6 w2.heap.size v6 (r1 ++ r2)) := mkHid hown; have HB6 := mkHid (Own.bel HB4.out HB4.out.size HO5.out hgrow); clear hown hgrow)
              | (go_at_call 20; refine (C3.out _ _ HO6.out.ints).mono ?_; rintro e w7 ⟨u7, rfl, ho, hb⟩; have HO7 := mkHid (ho.weaken HB6.out.size); have HB7 := mkHid (bnx HB6.out hb); clear ho hb))
            refine bodyPost_ret (v := .tuple #[u7, .bool false]) (by simp [results, Try.results29, go_sem]) rfl ?_
            exact ⟨_, rfl, HO7, HB7.out⟩
          · have E2 : clE (r1 ++ r2) 128 = 0 := by unfold clE; rw [kv]; rfl
            rw [E2] at C3
            clear E2 kv
            generalize hr : clL (r1 ++ r2) 128 = r at *
            generalize clB (r1 ++ r2) 128 = o at *
            clear hr
            go_enter Try.func29, Try.ntmps29
            go_wp2_with (first
              | (go_at_call 44; with_reducible refine CC.out.mono ?_; rintro e w2 ⟨rfl, rfl⟩)
              | (go_at_call 44; with_reducible refine CD.out.mono ?_; rintro e w2 ⟨rfl, rfl⟩)
              | (go_at_call 45; with_reducible refine C1.out.mono ?_; rintro e w3 ⟨u3, rfl, ho, hb⟩; have HO3 : Hid (Own w3 w2.heap.size u3 r1) := mkHid ho; have HB3 := mkHid hb; clear ho hb)
              | (go_at_call 45; with_reducible refine (C2.out _ HB3.out).mono ?_; rintro e w4 ⟨u4, rfl, ho, hb⟩; have HO4 : Hid (Own w4 w3.heap.size u4 r2) := mkHid ho; have HO5 := mkHid (HO3.out.below hb); have HB4 := mkHid (bnx HB3.out hb); clear ho hb)
              | (at_builtin; refine wpList_app rfl (.tmp 33) (.tmp 37) rfl rfl rfl HO5.out HO4.out.ints (by have := HL.out; omega) HB4.out.size ?_; intro v6 w6 hown hgrow; have HO6 : Hid (Own w6 w2.heap.size v6 (r1 ++ r2)) := mkHid hown; have HB6 := mkHid (Own.bel HB4.out HB4.out.size HO5.out hgrow); clear hown hgrow)
              | (go_at_call 20; refine (C3.out _ _ HO6.out.ints).mono ?_; rintro e w7 ⟨u7, rfl, ho, hb⟩; have HO7 := mkHid (ho.weaken HB6.out.size); have HB7 := mkHid (bnx HB6.out hb); clear ho hb))
            refine bodyPost_ret (v := .tuple #[u7, .bool true]) (by simp [results, Try.results29, go_sem]) rfl ?_
            exact ⟨_, rfl, HO7, HB7.out⟩
    · have g2 : 128 < v := by omega
      have HN := mkHid (rsB_no1 c d (v := v) (by omega))
      rw [HN.out, rsL_no HN.out]
      clear hc hd hc64 hd64 CC CD
      go_enter Try.func29, Try.ntmps29
      go_wp2
      refine bodyPost_ret (v := .tuple #[.slice none 0 0, .bool false]) (by simp [results, Try.results29, go_sem]) rfl ?_
      exact ⟨_, rfl, mkHid (Own.nil _ _), Below.refl _ _⟩
  · have g1 : v < 1 := by omega
    have HN := mkHid (rsB_no1 c d (v := v) (by omega))
    rw [HN.out, rsL_no HN.out]
    clear hc hd hc64 hd64 CC CD
    go_enter Try.func29, Try.ntmps29
    go_wp2
    refine bodyPost_ret (v := .tuple #[.slice none 0 0, .bool false]) (by simp [results, Try.results29, go_sem]) rfl ?_
    exact ⟨_, rfl, mkHid (Own.nil _ _), Below.refl _ _⟩
end Go.Proofs.Ytniagnbeeebobaa
