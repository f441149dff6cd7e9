/- Contracts: hasOpposite, Clause, Term. -/
import Derived.Test.YtniagnbeeebobaaLI
import Derived.Test.YtniagnbeeebobaaLR
namespace Go.Proofs.Ytniagnbeeebobaa
open Go.RowKit VM LM

theorem side_found {s : List Int} {p : Nat} {x y : Int} (h1 : s[p]? = some x) (h2 : s[p + 1]? = some y) (e : y = -x) : side s = true := by
  have l1 := (List.getElem?_eq_some_iff.1 h1).1
  obtain ⟨l2, e2⟩ := List.getElem?_eq_some_iff.1 h2
  refine (side_iff s).2 ⟨p, l2, ?_⟩
  rw [e2, (List.getElem?_eq_some_iff.1 h1).2]; exact e
theorem side_none {s : List Int} {k : Nat} (h : ∀ j, j < k → ∀ x y, s[j]? = some x → s[j + 1]? = some y → y ≠ -x) (hk : ¬ k + 1 < s.length) : side s = false := by
  rw [Bool.eq_false_iff]
  intro hs
  obtain ⟨i, l2, e⟩ := (side_iff s).1 hs
  exact h i (by omega) _ _ (List.getElem?_eq_getElem (by omega)) (List.getElem?_eq_getElem l2) e

set_option maxRecDepth 100000 in
set_option maxHeartbeats 2000000 in
theorem hasOpp_any (v : Value) (s : List Int) (w : World) (hv : Ints w v s) (hlen : s.length ≤ 1000000) (hs : ∀ x ∈ s, -1000 ≤ x ∧ x ≤ 1000) :
    Calls Try.prog 38 #[v] w fun e w' => e = .returned (.bool (side s)) ∧ Below w.heap.size w w' := by
  obtain ⟨ao, cap, rfl, hc⟩ := hv.uni
  have HC := mkHid hc
  have HS := mkHid hs
  clear hc hv hs
  generalize hres : side s = res
  have HRES := mkHid hres
  clear hres
  go_enter Try.func38, Try.ntmps38
  go_wp2
  go_loopw [3] (fun iv wr => ∃ q m : Nat, m = q + 1 ∧ q ≤ s.length ∧ iv = .int .i64 (m : Int) ∧ Hid ((∀ j, j < q → ∀ x y, s[j]? = some x → s[j + 1]? = some y → y ≠ -x) ∧ Below w.heap.size w wr)) (fun iv _ => s.length + 1 - (intOf iv).toNat)
  case atStart => exact ⟨0, 1, rfl, Nat.zero_le _, rfl, mkHid ⟨fun j hj => by omega, Below.refl _ _⟩⟩
  case round =>
    obtain ⟨q, m, hm, hq, rfl, H⟩ := hrel
    by_cases hlt : m < s.length
    · obtain ⟨x, hx⟩ : ∃ x, s[q]? = some x := ⟨s[q], List.getElem?_eq_getElem (by omega)⟩
      obtain ⟨y, hy⟩ : ∃ y, s[m]? = some y := ⟨s[m], List.getElem?_eq_getElem hlt⟩
      obtain ⟨b, off, rfl, hcx⟩ := HC.out q x hx
      obtain ⟨b2, off2, e0, hcy⟩ := HC.out m y hy
      simp only [Option.some.injEq, Addr.mk.injEq, and_true] at e0
      obtain ⟨rfl, rfl⟩ := e0
      have g1 := cell_grows H.out.2 hcx
      have g2 := cell_grows H.out.2 hcy
      have hk1 : (m : Int) < (s.length : Int) := by omega
      have hk0 : (0 : Int) ≤ (m : Int) := by omega
      have hk2 : (q : Int) < (s.length : Int) := by omega
      have hk3 : (0 : Int) ≤ (q : Int) := by omega
      have e1 : IntKind.i64.wrap ((m : Int) - 1) = (q : Int) := by rw [IntWalk.i64_in _ (by omega)]; omega
      have hbx := HS.out x (List.mem_of_getElem? hx)
      have e2 : IntKind.i64.wrap (-x) = -x := IntWalk.i64_in _ (by omega)
      have HX := mkHid hx
      have HY := mkHid (show s[q + 1]? = some y by rw [← hm]; exact hy)
      have HM := mkHid hm
      clear hx hy hcx hcy hbx
      by_cases hxy : y = -x
      · have HF := mkHid (side_found HX.out HY.out hxy)
        clear hm
        go_wp2
        go_quiet (fail)
        go_wp2
        go_ret
        exact ⟨by rw [← HRES.out, HF.out]; rfl, bdr H.out.2 _⟩
      · have HN : Hid (∀ j, j < q + 1 → ∀ x y, s[j]? = some x → s[j + 1]? = some y → y ≠ -x) := mkHid (fun j hj x' y' h1 h2 => by
          by_cases hjq : j = q
          · subst hjq
            rw [HX.out] at h1
            rw [HY.out] at h2
            obtain rfl := Option.some.inj h1
            obtain rfl := Option.some.inj h2
            exact hxy
          · exact H.out.1 j (by omega) x' y' h1 h2)
        clear hm
        go_wp2
        go_quiet (fail)
        go_wp2
        go_roundw
        case rel => exact ⟨q + 1, m + 1, by rw [HM.out], by omega, by go_num, mkHid ⟨HN.out, bdr H.out.2 _⟩⟩
        case measure => simp [intOf]; omega
    · have hk1 : ¬ (m : Int) < (s.length : Int) := by omega
      have HF := mkHid (side_none H.out.1 (by omega))
      clear hm
      go_wp2
      go_ret
      exact ⟨by rw [← HRES.out, HF.out]; rfl, H.out.2⟩

theorem cl_good {l : List Int} {n : Int} (h : l.any (fun y => !validL y n) = false) : validAll l n = true := by
  unfold validAll; rw [List.all_eq_not_any_not, h]; rfl
theorem cl_bad {l : List Int} {n : Int} (h : l.any (fun y => !validL y n) = true) : validAll l n = false := by
  unfold validAll; rw [List.all_eq_not_any_not, h]; rfl

set_option maxRecDepth 100000 in
set_option maxHeartbeats 2000000 in
theorem clause_any (v : Value) (l : List Int) (n : Int) (w : World) (hv : Ints w v l) (hlen : l.length ≤ 1000000) (h64 : ∀ x ∈ l, In64 x) :
    Calls Try.prog 20 #[v, .int .i64 n] w fun e w' => ∃ u, e = .returned (.tuple #[u, .bool (clB l n), .int .i64 (clE l n)]) ∧ Own w' w.heap.size u (clL l n) ∧ Below w.heap.size w w' := by
  have CI := mkHid (inOrder_any v l w hv hlen)
  obtain ⟨ao, cap, rfl, hc⟩ := hv.uni
  have HC := mkHid hc
  have CV := mkHid (fun y hy W => valid_any y n W (h64 y hy))
  clear hc hv h64
  go_enter Try.func20, Try.ntmps20
  go_wp2
  go_loopw [11] (fun iv wr => ∃ k : Nat, k ≤ l.length ∧ iv = .int .i64 (k : Int) ∧ Hid (∀ y ∈ l.take k, (fun y => !validL y n) y = false) ∧ wr = w) (fun iv _ => l.length - (intOf iv).toNat)
  case atStart => exact ⟨0, Nat.zero_le _, rfl, mkHid any_start, rfl⟩
  case round =>
    obtain ⟨k, hk, rfl, H, rfl⟩ := hrel
    by_cases hlt : k < l.length
    · obtain ⟨y, hy⟩ : ∃ y, l[k]? = some y := ⟨l[k], List.getElem?_eq_getElem hlt⟩
      obtain ⟨b, off, rfl, hcx⟩ := HC.out k y hy
      have hk1 : (k : Int) < (l.length : Int) := by omega
      have HY := mkHid hy
      have C := mkHid (CV.out y (List.mem_of_getElem? hy))
      clear hy CV
      cases hp : validL y n
      · have HF := mkHid (cl_bad (any_found (P := fun y => !validL y n) HY.out (by simp [hp])))
        rw [hp] at C
        clear hp
        go_wp2_with (go_at_call 14; refine (C.out _).mono ?_; rintro e w2 ⟨rfl, rfl⟩)
        refine bodyPost_ret (v := .tuple #[.slice none 0 0, .bool false, .int .i64 1]) (by simp [results, Try.results20, go_sem]) rfl ?_
        exact ⟨_, by unfold clB clE; rw [HF.out]; rfl, by unfold clL; rw [HF.out]; exact Own.nil _ _, Below.refl _ _⟩
      · have HP := mkHid hp
        rw [hp] at C
        clear hp
        go_wp2_with (go_at_call 14; refine (C.out _).mono ?_; rintro e w2 ⟨rfl, rfl⟩)
        go_roundw
        case rel => exact ⟨k + 1, by omega, by go_num, mkHid (any_step H.out HY.out (by simp [HP.out])), trivial⟩
        case measure => simp [intOf]; omega
    · have hk1 : ¬ (k : Int) < (l.length : Int) := by omega
      have hg := cl_good (any_none H.out (by omega))
      have HF := mkHid hg
      have he := inOrd_order l (valid_all hg)
      rw [he] at CI
      have CO := mkHid (fun W u (h : Ints W u (order l)) => hasOpp_any u (order l) W h (by have := order_length l; omega) (fun x hx => by
        have := ((mem_order l x).1 hx).2
        rcases varL_pos this with k | k <;> omega))
      rw [side_order] at CO
      have E1 : Hid (clB l n = opp l) := mkHid (by unfold clB; rw [hg]; rfl)
      have E2 : Hid (clE l n = 0) := mkHid (by unfold clE; rw [hg]; rfl)
      have E3 : Hid (clL l n = order l) := mkHid (by unfold clL; rw [hg]; rfl)
      clear hg he CV
      generalize opp l = o at *
      generalize order l = r at *
      go_wp2_with (first
        | (go_at_call 37; refine CI.out.mono ?_; rintro e w2 ⟨u, rfl, ho, hb⟩; have HO : Hid (Own w2 wr.heap.size u r) := mkHid ho; have HB := mkHid hb; clear ho hb)
        | (go_at_call 38; refine (CO.out _ _ HO.out.ints).mono ?_; rintro e w3 ⟨rfl, hb⟩; have HO3 := mkHid (HO.out.below hb); have HB3 := mkHid (bnx HB.out hb); clear hb))
      go_ret3
      exact ⟨_, by rw [E1.out, E2.out]; rfl, by rw [E3.out]; exact HO3.out, HB3.out⟩

set_option maxRecDepth 100000 in
set_option maxHeartbeats 2000000 in
theorem term_any (v : Value) (l : List Int) (n : Int) (w : World) (hv : Ints w v l) (hlen : l.length ≤ 1000000) (h64 : ∀ x ∈ l, In64 x) :
    Calls Try.prog 18 #[v, .int .i64 n] w fun e w' => ∃ u, e = .returned (.tuple #[u, .bool (tmB l n)]) ∧ Own w' w.heap.size u (tmL l n) ∧ Below w.heap.size w w' := by
  have CI := mkHid (clause_any v l n w hv hlen h64)
  obtain ⟨ao, cap, rfl⟩ := hv.form
  clear hv h64
  cases hg : validAll l n
  · have e1 : clB l n = false := by unfold clB; rw [hg]; rfl
    have e2 : clE l n = 1 := by unfold clE; rw [hg]; rfl
    have e3 : Hid (tmB l n = false) := mkHid (by unfold tmB; rw [hg]; rfl)
    have e4 : Hid (tmL l n = []) := mkHid (by unfold tmL; rw [e3.out]; rfl)
    rw [e1, e2] at CI
    rw [e3.out, e4.out]
    clear e1 e2 e3 e4 hg
    generalize clL l n = r at *
    go_enter Try.func18, Try.ntmps18
    go_wp2_with (go_at_call 20; refine CI.out.mono ?_; rintro e w2 ⟨u, rfl, ho, hb⟩; have HB := mkHid hb; clear ho hb)
    refine bodyPost_ret (v := .tuple #[.slice none 0 0, .bool false]) (by simp [results, Try.results18, go_sem]) rfl ?_
    exact ⟨_, rfl, Own.nil _ _, HB.out⟩
  · have e1 : clB l n = opp l := by unfold clB; rw [hg]; rfl
    have e2 : clE l n = 0 := by unfold clE; rw [hg]; rfl
    have e5 : clL l n = order l := by unfold clL; rw [hg]; rfl
    rw [e1, e2, e5] at CI
    cases ho : opp l
    · have e3 : Hid (tmB l n = true) := mkHid (by unfold tmB; rw [hg, ho]; rfl)
      have e4 : Hid (tmL l n = order l) := mkHid (by unfold tmL; rw [e3.out]; rfl)
      rw [ho] at CI
      rw [e3.out, e4.out]
      clear e1 e2 e3 e4 e5 hg ho
      generalize order l = r at *
      go_enter Try.func18, Try.ntmps18
      go_wp2_with (go_at_call 20; refine CI.out.mono ?_; rintro e w2 ⟨u, rfl, ho, hb⟩; have HO := mkHid ho; have HB := mkHid hb; clear ho hb)
      refine bodyPost_ret (v := .tuple #[u, .bool true]) (by simp [results, Try.results18, go_sem]) rfl ?_
      exact ⟨_, rfl, HO.out, HB.out⟩
    · have e3 : Hid (tmB l n = false) := mkHid (by unfold tmB; rw [hg, ho]; rfl)
      have e4 : Hid (tmL l n = []) := mkHid (by unfold tmL; rw [e3.out]; rfl)
      rw [ho] at CI
      rw [e3.out, e4.out]
      clear e1 e2 e3 e4 e5 hg ho
      generalize order l = r at *
      go_enter Try.func18, Try.ntmps18
      go_wp2_with (go_at_call 20; refine CI.out.mono ?_; rintro e w2 ⟨u, rfl, ho, hb⟩; have HB := mkHid hb; clear ho hb)
      refine bodyPost_ret (v := .tuple #[.slice none 0 0, .bool false]) (by simp [results, Try.results18, go_sem]) rfl ?_
      exact ⟨_, rfl, Own.nil _ _, HB.out⟩
end Go.Proofs.Ytniagnbeeebobaa
