/- Contracts of lit: inOrder, hasOpposite, Clause, Term; IndexFunc and ContainsFunc at a predicate that may make memory. -/
import Derived.Test.YtalpbpcanebbbaaTL
namespace Go.Proofs.Ytalpbpcanebbbaa
open Go.RowKit VM LM Go.Lib Go.Sort Go.Shelf

theorem clone_any (v : Value) (l : List Int) (w : World) (hv : Ints w v l) (hlen : l.length ≤ 1000000) :
    Calls Try.prog 64 #[v] w fun e w' => ∃ u, e = .returned u ∧ Own w' w.heap.size u l ∧ Below w.heap.size w w' := by
  rcases hv with ⟨rfl, ao, cap, rfl⟩ | ⟨b, off, cap, rfl, h3⟩
  · cases ao with
    | none => exact (Try.slices_Clone_int_nil 0 cap w).mono fun e w' ⟨he, hw⟩ => ⟨_, he, Own.nil _ _, by rw [hw]; exact Below.refl _ _⟩
    | some a => exact (Try.slices_Clone_int_zero a cap w).mono fun e w' ⟨u, he, ho, _, hb⟩ => ⟨u, he, ho, hb⟩
  · refine (Try.slices_Clone_int b off l.length cap l w (Nat.le_refl _) (by omega) (fun j hj => by
      rw [h3 j l[j] (List.getElem?_eq_getElem hj)]; simp [List.getD, List.getElem?_eq_getElem hj])).mono fun e w' ⟨u, he, ho, _, hb⟩ => ⟨u, he, ?_, hb⟩
    rw [List.take_length] at ho
    exact ho
theorem own_cases {W : World} {base : Nat} {u : Value} {l : List Int} (h : Own W base u l) : (u = .slice none 0 0 ∧ l = []) ∨ ∃ g cap, u = .slice (some ⟨g, 0, none⟩) l.length cap ∧ base ≤ g ∧ g < W.heap.size ∧ l.length ≤ cap ∧ Holds (Value.int .i64) W g 0 l.toArray := by
  by_cases hn : u = .slice none 0 0
  · subst hn
    left
    refine ⟨rfl, ?_⟩
    rcases h.2 with ⟨_, h0⟩ | ⟨g, cap, cur, e, _⟩
    · exact List.eq_nil_of_length_eq_zero h0
    · cases e
  · obtain ⟨g, cap, e, hb, hg, hc, _, _, hH⟩ := Lib.holds_of_ownsRow h hn
    exact .inr ⟨g, cap, e, hb, hg, hc, hH⟩
theorem sort_own {W : World} {base : Nat} {u : Value} {l : List Int} (h : Own W base u l) (hB : base ≤ W.heap.size) (hlen : l.length ≤ 1000000) :
    Calls Try.prog 99 #[u, .func (.func 100) #[] #[]] W fun e w' => e = .returned (.tuple #[]) ∧ Own w' base u (sortL l) ∧ Below base W w' := by
  rcases own_cases h with ⟨rfl, rfl⟩ | ⟨g, cap, rfl, hg, hlt, hc, hH⟩
  · exact (Try.slices_SortFunc_none_f99 (α := Int) none 0 _ W).mono fun e w' ⟨he, hw⟩ => ⟨he, by rw [hw, show sortL [] = [] by simp [sortL]]; exact Own.nil _ _, by rw [hw]; exact Below.refl _ _⟩
  · have eg : ∀ args w, (callFunc 100 args).run Try.prog w = .ok (.enter 100 args) w := enters_of Try.func100 (by kernel_rfl) rfl
    have hcon := Try.slices_SortFunc_total_f99 (Value.int .i64) (fun _ => rfl) cf cf_swo 100 #[] g 0 cap l.toArray W eg
      (fun m os dk hs x y => by
        have := cmp_any x y (sortWorld (Value.int .i64) W g 0 m dk os)
        exact this) hH hlt (by simp; omega) cf_total
    rw [List.size_toArray] at hcon
    refine hcon.mono fun e w' ⟨he, n, os, hw'⟩ => ⟨he, ?_, ?_⟩
    all_goals have hw : w' = sortWorld (Value.int .i64) W g 0 n (sortL l).toArray os := hw'
    · have hown := Lib.ownsRow_putRow (q := n) (k := l.length) (ys := sortL l) h (sortL_length l) (Nat.le_refl _)
      rw [show (sortL l).take l.length = sortL l by rw [← sortL_length l, List.take_length]] at hown
      rw [hw]
      unfold Own
      rw [sortL_length]
      refine ⟨hown.1, hown.2.imp id ?_⟩
      rintro ⟨g', cp, cur, hv, hg', hcur, h1, h2, h3, h4⟩
      refine ⟨g', cp, cur, hv, hg', ?_, h1, h2, h3, h4⟩
      unfold sortWorld
      rw [heap_grow_old _ _ (Array.getElem?_eq_some_iff.1 hcur).1]
      exact hcur
    · have hb := Lib.below_putRow (enc := Value.int .i64) (q := n) (d := (sortL l).toArray) (Below.refl base W) hg
      rw [hw]
      unfold sortWorld
      exact ⟨hb.os, hb.tape, hb.output, by have := hb.size; simp at this ⊢; first | done | omega, fun k hk => by
        rw [heap_grow_old _ _ (by have := hb.size; omega)]; exact hb.block k hk⟩
theorem compact_own {W : World} {base : Nat} {u : Value} {l : List Int} (h : Own W base u l) (hlen : l.length ≤ 1000000) :
    Calls Try.prog 101 #[u] W fun e w' => ∃ u', e = .returned u' ∧ Own w' base u' (Lib.compact l) ∧ Below base W w' := by
  rcases own_cases h with ⟨rfl, rfl⟩ | ⟨g, cap, rfl, hg, hlt, hc, hH⟩
  · exact (Try.slices_Compact_int_empty none 0 W).mono fun e w' ⟨he, hw⟩ => ⟨_, he, by rw [hw]; exact Own.nil _ _, by rw [hw]; exact Below.refl _ _⟩
  · have hle := Lib.compact_length_le l
    refine (Try.slices_Compact_int g 0 cap l W hH (by omega) hc).mono fun e w' ⟨he, q, hw⟩ => ⟨_, he, ?_, ?_⟩
    · have hown := Lib.ownsRow_putRow (q := q) (k := (Lib.compact l).length) (ys := Lib.compact l ++ List.replicate (l.length - (Lib.compact l).length) 0) h (by simp; omega) hle
      rw [List.take_left] at hown
      rw [hw]; exact hown
    · rw [hw]; exact Lib.below_putRow (Below.refl base W) hg
set_option maxRecDepth 100000 in
set_option maxHeartbeats 1000000 in
theorem inOrder_any (v : Value) (l : List Int) (w : World) (hv : Ints w v l) (hlen : l.length ≤ 1000000) :
    Calls Try.prog 87 #[v] w fun e w' => ∃ u, e = .returned u ∧ Own w' w.heap.size u (inOrd l) ∧ Below w.heap.size w w' := by
  have C1 := mkHid (clone_any v l w hv hlen)
  have C2 := mkHid (fun W u (h : Own W w.heap.size u l) hB => sort_own h hB hlen)
  have C3 := mkHid (fun W u (h : Own W w.heap.size u (sortL l)) => compact_own h (by rw [sortL_length]; exact hlen))
  unfold inOrd
  obtain ⟨ao, cap, rfl⟩ := hv.form
  clear hv
  generalize Lib.compact (sortL l) = r at *
  go_enter Try.func87, Try.ntmps87
  go_wp2_with (first
    | (go_at_call 64; refine C1.out.mono ?_; rintro e w1 ⟨u1, rfl, ho, hb⟩; have HO1 := mkHid ho; have HB1 := mkHid hb; clear ho hb)
    | (go_at_call 99; refine (C2.out _ _ HO1.out HB1.out.size).mono ?_; rintro e w2 ⟨rfl, ho, hb⟩; have HO2 := mkHid ho; have HB2 := mkHid (HB1.out.trans hb); clear ho hb)
    | (go_at_call 101; refine (C3.out _ _ HO2.out).mono ?_; rintro e w3 ⟨u3, rfl, ho, hb⟩; have HO3 := mkHid ho; have HB3 := mkHid (HB2.out.trans hb); clear ho hb))
  go_ret
  exact ⟨_, rfl, HO3.out, HB3.out⟩
theorem Own.weaken {W : World} {base b2 : Nat} {u : Value} {l : List Int} (h : Own W base u l) (hb : b2 ≤ base) : Own W b2 u l :=
  ⟨h.1, h.2.imp id fun ⟨g, cap, cur, hv, hg, r⟩ => ⟨g, cap, cur, hv, by omega, r⟩⟩
set_option maxRecDepth 100000 in
set_option maxHeartbeats 1000000 in
theorem delete_nil (fv : Value) (w : World) : Calls Try.prog 63 #[.slice none 0 0, fv] w fun e w' => e = .returned (.slice none 0 0) ∧ w' = w := by
  have C := mkHid (fun W => Try.slices_IndexFunc_empty (α := Int) none 0 fv W)
  go_enter Try.func63, Try.ntmps63
  go_wp2_with (go_at_call 85; refine (C.out _).mono ?_; rintro e w2 ⟨rfl, rfl⟩)
  go_ret
  exact ⟨rfl, rfl⟩
/-- What is asked of a predicate: it answers P, and turns nothing that lay in w. -/
def PredG (g : Nat) (lb : Array Value) (P : Int → Bool) (l : List Int) (w : World) : Prop :=
  ∀ W x, Below w.heap.size w W → x ∈ l → Calls Try.prog g (#[.int .i64 x] ++ lb) W fun e w' => e = .returned (.bool (P x)) ∧ Below w.heap.size w w'
set_option maxRecDepth 100000 in
set_option maxHeartbeats 2000000 in
theorem index_any (g : Nat) (lb : Array Value) (eg : ∀ args w, (callFunc g args).run Try.prog w = .ok (.enter g args) w) (P : Int → Bool) (v : Value) (l : List Int) (w : World) (hv : Ints w v l) (hlen : l.length ≤ 1000000) (hP : PredG g lb P l w) :
    Calls Try.prog 85 #[v, .func (.func g) #[] lb] w fun e w' => ∃ i : Int, e = .returned (.int .i64 i) ∧ decide (0 ≤ i) = l.any P ∧ Below w.heap.size w w' := by
  obtain ⟨ao, cap, rfl, hc⟩ := hv.uni
  have HC := mkHid hc
  have HP := mkHid hP
  clear hc hv hP
  go_enter Try.func85, Try.ntmps85
  go_wp2
  go_loopw [8] (fun iv wr => ∃ k : Nat, k ≤ l.length ∧ iv = .int .i64 (k : Int) ∧ Hid ((∀ y ∈ l.take k, P y = false) ∧ Below w.heap.size w wr)) (fun iv _ => l.length - (intOf iv).toNat)
  case atStart => exact ⟨0, Nat.zero_le _, rfl, mkHid ⟨any_start, Below.refl _ _⟩⟩
  case round =>
    obtain ⟨k, hk, rfl, H⟩ := hrel
    by_cases hlt : k < l.length
    · obtain ⟨y, hy⟩ : ∃ y, l[k]? = some y := ⟨l[k], List.getElem?_eq_getElem hlt⟩
      obtain ⟨b, off, rfl, hcx0⟩ := HC.out k y hy
      have hcx := cell_grows H.out.2 hcx0
      have hk1 : (k : Int) < (l.length : Int) := by omega
      have HY := mkHid hy
      have hcall := HP.out wr y H.out.2 (List.mem_of_getElem? hy)
      clear hy hcx0
      cases hp : P y
      · have HPF := mkHid hp
        rw [hp] at hcall
        clear hp
        go_wp2_with (go_at_fn g; refine hcall.mono ?_; rintro e w' ⟨rfl, hb'⟩)
        have HB := mkHid hb'
        clear hb'
        go_roundw
        case rel => exact ⟨k + 1, by omega, by go_num, mkHid ⟨any_step H.out.1 HY.out HPF.out, HB.out⟩⟩
        case measure => simp [intOf]; omega
      · have HF := mkHid (any_found (P := P) HY.out hp)
        rw [hp] at hcall
        clear hp
        go_wp2_with (go_at_fn g; refine hcall.mono ?_; rintro e w' ⟨rfl, hb'⟩)
        go_ret
        exact ⟨_, rfl, by rw [HF.out]; simp, hb'⟩
    · have hk1 : ¬ (k : Int) < (l.length : Int) := by omega
      have HF := mkHid (any_none H.out.1 (by omega))
      go_wp2
      go_ret
      exact ⟨_, rfl, by rw [HF.out]; simp, H.out.2⟩
set_option maxRecDepth 100000 in
set_option maxHeartbeats 2000000 in
theorem contains_any (g : Nat) (lb : Array Value) (eg : ∀ args w, (callFunc g args).run Try.prog w = .ok (.enter g args) w) (P : Int → Bool) (v : Value) (l : List Int) (w : World) (hv : Ints w v l) (hlen : l.length ≤ 1000000) (hP : PredG g lb P l w) :
    Calls Try.prog 73 #[v, .func (.func g) #[] lb] w fun e w' => e = .returned (.bool (l.any P)) ∧ Below w.heap.size w w' := by
  have C := mkHid (index_any g lb eg P v l w hv hlen hP)
  obtain ⟨ao, cap, rfl⟩ := hv.form
  clear hv hP eg
  generalize l.any P = r at *
  go_enter Try.func73, Try.ntmps73
  go_wp2_with (go_at_call 85; refine C.out.mono ?_; rintro e w2 ⟨i, rfl, hi, hb⟩; have HI := mkHid hi; clear hi)
  go_ret
  exact ⟨by rw [← HI.out]; rfl, hb⟩
theorem side_found {s : List Int} {p : Nat} {x y : Int} (h1 : s[p]? = some x) (h2 : s[p + 1]? = some y) (e : y = -x) : side s = true := by
  have l1 := (List.getElem?_eq_some_iff.1 h1).1
  obtain ⟨l2, e2⟩ := List.getElem?_eq_some_iff.1 h2
  refine (side_iff s).2 ⟨p, l2, ?_⟩
  rw [e2, (List.getElem?_eq_some_iff.1 h1).2]; exact e
theorem side_none {s : List Int} {k : Nat} (h : ∀ j, j < k → ∀ x y, s[j]? = some x → s[j + 1]? = some y → y ≠ -x) (hk : ¬ k + 1 < s.length) : side s = false := by
  rw [Bool.eq_false_iff]
  intro hs
  obtain ⟨i, l2, e⟩ := (side_iff s).1 hs
  exact h i (by omega) _ _ (List.getElem?_eq_getElem (by omega)) (List.getElem?_eq_getElem l2) e
set_option maxRecDepth 100000 in
set_option maxHeartbeats 2000000 in
theorem hasOpp_any (v : Value) (s : List Int) (w : World) (hv : Ints w v s) (hlen : s.length ≤ 1000000) (hs : ∀ x ∈ s, -1000 ≤ x ∧ x ≤ 1000) :
    Calls Try.prog 88 #[v] w fun e w' => e = .returned (.bool (side s)) ∧ Below w.heap.size w w' := by
  obtain ⟨ao, cap, rfl, hc⟩ := hv.uni
  have HC := mkHid hc
  have HS := mkHid hs
  clear hc hv hs
  generalize hres : side s = res
  have HRES := mkHid hres
  clear hres
  go_enter Try.func88, Try.ntmps88
  go_wp2
  go_loopw [3] (fun iv wr => ∃ q m : Nat, m = q + 1 ∧ q ≤ s.length ∧ iv = .int .i64 (m : Int) ∧ Hid ((∀ j, j < q → ∀ x y, s[j]? = some x → s[j + 1]? = some y → y ≠ -x) ∧ Below w.heap.size w wr)) (fun iv _ => s.length + 1 - (intOf iv).toNat)
  case atStart => exact ⟨0, 1, rfl, Nat.zero_le _, rfl, mkHid ⟨fun j hj => by omega, Below.refl _ _⟩⟩
  case round =>
    obtain ⟨q, m, hm, hq, rfl, H⟩ := hrel
    by_cases hlt : m < s.length
    · obtain ⟨x, hx⟩ : ∃ x, s[q]? = some x := ⟨s[q], List.getElem?_eq_getElem (by omega)⟩
      obtain ⟨y, hy⟩ : ∃ y, s[m]? = some y := ⟨s[m], List.getElem?_eq_getElem hlt⟩
      obtain ⟨b, off, rfl, hcx⟩ := HC.out q x hx
      obtain ⟨b2, off2, e0, hcy⟩ := HC.out m y hy
      simp only [Option.some.injEq, Addr.mk.injEq, and_true] at e0
      obtain ⟨rfl, rfl⟩ := e0
      have g1 := cell_grows H.out.2 hcx
      have g2 := cell_grows H.out.2 hcy
      have hk1 : (m : Int) < (s.length : Int) := by omega
      have hk0 : (0 : Int) ≤ (m : Int) := by omega
      have hk2 : (q : Int) < (s.length : Int) := by omega
      have hk3 : (0 : Int) ≤ (q : Int) := by omega
      have e1 : IntKind.i64.wrap ((m : Int) - 1) = (q : Int) := by rw [IntWalk.i64_in _ (by omega)]; omega
      have hbx := HS.out x (List.mem_of_getElem? hx)
      have e2 : IntKind.i64.wrap (-x) = -x := IntWalk.i64_in _ (by omega)
      have HX := mkHid hx
      have HY := mkHid (show s[q + 1]? = some y by rw [← hm]; exact hy)
      have HM := mkHid hm
      clear hx hy hcx hcy hbx
      by_cases hxy : y = -x
      · have HF := mkHid (side_found HX.out HY.out hxy)
        clear hm
        go_wp2
        go_quiet (fail)
        go_wp2
        go_ret
        exact ⟨by rw [← HRES.out, HF.out]; rfl, bdr H.out.2 _⟩
      · have HN : Hid (∀ j, j < q + 1 → ∀ x y, s[j]? = some x → s[j + 1]? = some y → y ≠ -x) := mkHid (fun j hj x' y' h1 h2 => by
          by_cases hjq : j = q
          · subst hjq
            rw [HX.out] at h1
            rw [HY.out] at h2
            obtain rfl := Option.some.inj h1
            obtain rfl := Option.some.inj h2
            exact hxy
          · exact H.out.1 j (by omega) x' y' h1 h2)
        clear hm
        go_wp2
        go_quiet (fail)
        go_wp2
        go_roundw
        case rel => exact ⟨q + 1, m + 1, by rw [HM.out], by omega, by go_num, mkHid ⟨HN.out, bdr H.out.2 _⟩⟩
        case measure => simp [intOf]; omega
    · have hk1 : ¬ (m : Int) < (s.length : Int) := by omega
      have HF := mkHid (side_none H.out.1 (by omega))
      clear hm
      go_wp2
      go_ret
      exact ⟨by rw [← HRES.out, HF.out]; rfl, H.out.2⟩
theorem cl_good {l : List Int} {n : Int} (h : l.any (fun y => !validL y n) = false) : validAll l n = true := by
  unfold validAll; rw [List.all_eq_not_any_not, h]; rfl
theorem cl_bad {l : List Int} {n : Int} (h : l.any (fun y => !validL y n) = true) : validAll l n = false := by
  unfold validAll; rw [List.all_eq_not_any_not, h]; rfl
set_option maxRecDepth 100000 in
set_option maxHeartbeats 2000000 in
theorem clause_any (v : Value) (l : List Int) (n : Int) (w : World) (hv : Ints w v l) (hlen : l.length ≤ 1000000) (h64 : ∀ x ∈ l, In64 x) :
    Calls Try.prog 76 #[v, .int .i64 n] w fun e w' => ∃ u, e = .returned (.tuple #[u, .bool (clB l n), .int .i64 (clE l n)]) ∧ Own w' w.heap.size u (clL l n) ∧ Below w.heap.size w w' := by
  have CI := mkHid (inOrder_any v l w hv hlen)
  obtain ⟨ao, cap, rfl, hc⟩ := hv.uni
  have HC := mkHid hc
  have CV := mkHid (fun y hy W => valid_any y n W (h64 y hy))
  clear hc hv h64
  go_enter Try.func76, Try.ntmps76
  go_wp2
  go_loopw [11] (fun iv wr => ∃ k : Nat, k ≤ l.length ∧ iv = .int .i64 (k : Int) ∧ Hid (∀ y ∈ l.take k, (fun y => !validL y n) y = false) ∧ wr = w) (fun iv _ => l.length - (intOf iv).toNat)
  case atStart => exact ⟨0, Nat.zero_le _, rfl, mkHid any_start, rfl⟩
  case round =>
    obtain ⟨k, hk, rfl, H, rfl⟩ := hrel
    by_cases hlt : k < l.length
    · obtain ⟨y, hy⟩ : ∃ y, l[k]? = some y := ⟨l[k], List.getElem?_eq_getElem hlt⟩
      obtain ⟨b, off, rfl, hcx⟩ := HC.out k y hy
      have hk1 : (k : Int) < (l.length : Int) := by omega
      have HY := mkHid hy
      have C := mkHid (CV.out y (List.mem_of_getElem? hy))
      clear hy CV
      cases hp : validL y n
      · have HF := mkHid (cl_bad (any_found (P := fun y => !validL y n) HY.out (by simp [hp])))
        rw [hp] at C
        clear hp
        go_wp2_with (go_at_call 75; refine (C.out _).mono ?_; rintro e w2 ⟨rfl, rfl⟩)
        refine bodyPost_ret (v := .tuple #[.slice none 0 0, .bool false, .int .i64 1]) (by simp [results, Try.results76, go_sem]) rfl ?_
        exact ⟨_, by unfold clB clE; rw [HF.out]; rfl, by unfold clL; rw [HF.out]; exact Own.nil _ _, Below.refl _ _⟩
      · have HP := mkHid hp
        rw [hp] at C
        clear hp
        go_wp2_with (go_at_call 75; refine (C.out _).mono ?_; rintro e w2 ⟨rfl, rfl⟩)
        go_roundw
        case rel => exact ⟨k + 1, by omega, by go_num, mkHid (any_step H.out HY.out (by simp [HP.out])), trivial⟩
        case measure => simp [intOf]; omega
    · have hk1 : ¬ (k : Int) < (l.length : Int) := by omega
      have hg := cl_good (any_none H.out (by omega))
      have HF := mkHid hg
      have he := inOrd_order l (valid_all hg)
      rw [he] at CI
      have CO := mkHid (fun W u (h : Ints W u (order l)) => hasOpp_any u (order l) W h (by have := order_length l; omega) (fun x hx => by
        have := ((mem_order l x).1 hx).2
        rcases varL_pos this with k | k <;> omega))
      rw [side_order] at CO
      have E1 : Hid (clB l n = opp l) := mkHid (by unfold clB; rw [hg]; rfl)
      have E2 : Hid (clE l n = 0) := mkHid (by unfold clE; rw [hg]; rfl)
      have E3 : Hid (clL l n = order l) := mkHid (by unfold clL; rw [hg]; rfl)
      clear hg he CV
      generalize opp l = o at *
      generalize order l = r at *
      go_wp2_with (first
        | (go_at_call 87; refine CI.out.mono ?_; rintro e w2 ⟨u, rfl, ho, hb⟩; have HO : Hid (Own w2 wr.heap.size u r) := mkHid ho; have HB := mkHid hb; clear ho hb)
        | (go_at_call 88; refine (CO.out _ _ HO.out.ints).mono ?_; rintro e w3 ⟨rfl, hb⟩; have HO3 := mkHid (HO.out.below hb); have HB3 := mkHid (bnx HB.out hb); clear hb))
      go_ret3
      exact ⟨_, by rw [E1.out, E2.out]; rfl, by rw [E3.out]; exact HO3.out, HB3.out⟩
set_option maxRecDepth 100000 in
set_option maxHeartbeats 2000000 in
theorem term_any (v : Value) (l : List Int) (n : Int) (w : World) (hv : Ints w v l) (hlen : l.length ≤ 1000000) (h64 : ∀ x ∈ l, In64 x) :
    Calls Try.prog 57 #[v, .int .i64 n] w fun e w' => ∃ u, e = .returned (.tuple #[u, .bool (tmB l n)]) ∧ Own w' w.heap.size u (tmL l n) ∧ Below w.heap.size w w' := by
  have CI := mkHid (clause_any v l n w hv hlen h64)
  obtain ⟨ao, cap, rfl⟩ := hv.form
  clear hv h64
  cases hg : validAll l n
  · have e1 : clB l n = false := by unfold clB; rw [hg]; rfl
    have e2 : clE l n = 1 := by unfold clE; rw [hg]; rfl
    have e3 : Hid (tmB l n = false) := mkHid (by unfold tmB; rw [hg]; rfl)
    have e4 : Hid (tmL l n = []) := mkHid (by unfold tmL; rw [e3.out]; rfl)
    rw [e1, e2] at CI
    rw [e3.out, e4.out]
    clear e1 e2 e3 e4 hg
    generalize clL l n = r at *
    go_enter Try.func57, Try.ntmps57
    go_wp2_with (go_at_call 76; refine CI.out.mono ?_; rintro e w2 ⟨u, rfl, ho, hb⟩; have HB := mkHid hb; clear ho hb)
    refine bodyPost_ret (v := .tuple #[.slice none 0 0, .bool false]) (by simp [results, Try.results57, go_sem]) rfl ?_
    exact ⟨_, rfl, Own.nil _ _, HB.out⟩
  · have e1 : clB l n = opp l := by unfold clB; rw [hg]; rfl
    have e2 : clE l n = 0 := by unfold clE; rw [hg]; rfl
    have e5 : clL l n = order l := by unfold clL; rw [hg]; rfl
    rw [e1, e2, e5] at CI
    cases ho : opp l
    · have e3 : Hid (tmB l n = true) := mkHid (by unfold tmB; rw [hg, ho]; rfl)
      have e4 : Hid (tmL l n = order l) := mkHid (by unfold tmL; rw [e3.out]; rfl)
      rw [ho] at CI
      rw [e3.out, e4.out]
      clear e1 e2 e3 e4 e5 hg ho
      generalize order l = r at *
      go_enter Try.func57, Try.ntmps57
      go_wp2_with (go_at_call 76; refine CI.out.mono ?_; rintro e w2 ⟨u, rfl, ho, hb⟩; have HO := mkHid ho; have HB := mkHid hb; clear ho hb)
      refine bodyPost_ret (v := .tuple #[u, .bool true]) (by simp [results, Try.results57, go_sem]) rfl ?_
      exact ⟨_, rfl, HO.out, HB.out⟩
    · have e3 : Hid (tmB l n = false) := mkHid (by unfold tmB; rw [hg, ho]; rfl)
      have e4 : Hid (tmL l n = []) := mkHid (by unfold tmL; rw [e3.out]; rfl)
      rw [ho] at CI
      rw [e3.out, e4.out]
      clear e1 e2 e3 e4 e5 hg ho
      generalize order l = r at *
      go_enter Try.func57, Try.ntmps57
      go_wp2_with (go_at_call 76; refine CI.out.mono ?_; rintro e w2 ⟨u, rfl, ho, hb⟩; have HB := mkHid hb; clear ho hb)
      refine bodyPost_ret (v := .tuple #[.slice none 0 0, .bool false]) (by simp [results, Try.results57, go_sem]) rfl ?_
      exact ⟨_, rfl, Own.nil _ _, HB.out⟩
end Go.Proofs.Ytalpbpcanebbbaa
