/- Contracts of the specification: Clause, Term, Resolve; of the laws: copied. -/
import Derived.Test.YtniagnbeeebobaaLK
import Derived.Test.YtniagnbeeebobaaLV
namespace Go.Proofs.Ytniagnbeeebobaa
open Go.RowKit VM LM

set_option maxRecDepth 100000 in
set_option maxHeartbeats 2000000 in
theorem copied_any (v : Value) (l : List Int) (w : World) (hv : Ints w v l) (hlen : l.length ≤ 1000000) :
    Calls Try.prog 17 #[v] w fun e w' => ∃ u, e = .returned u ∧ Hid (Own w' w.heap.size u l ∧ Below w.heap.size w w') := by
  have HB := mkHid (bal (Below.refl _ w) (.cells #[] 3))
  have HOWN : Hid (Own (w.alloc (.cells #[] 3)) w.heap.size (.slice (some ⟨w.heap.size, 0, none⟩) 0 0) []) := mkHid (World.ownsRow_made w #[] 0 (Nat.le_refl _) (by decide) rfl)
  have HV := mkHid hv
  obtain ⟨ao, cap, rfl⟩ := hv.form
  clear hv
  go_enter Try.func17, Try.ntmps17
  go_wp2_with (at_builtin; refine wpList_app rfl (.tmp 3) (.tmp 4) rfl rfl rfl HOWN.out (HV.out.next HB.out) (by simp; omega) (by simp) ?_; intro v5 w2 hown hgrow; have HN : Hid (Own w2 w.heap.size v5 l) := mkHid (by simpa using hown); have HB2 := mkHid (Own.bel HB.out (by simp) HOWN.out hgrow); clear hown hgrow)
  go_ret
  exact ⟨_, rfl, mkHid ⟨HN.out, HB2.out⟩⟩

set_option maxRecDepth 100000 in
set_option maxHeartbeats 2000000 in
theorem rclause_any (v : Value) (l : List Int) (n : Int) (w : World) (hv : Ints w v l) (hlen : l.length ≤ 1000000) :
    Calls Try.prog 21 #[v, .int .i64 n] w fun e w' => ∃ u, e = .returned (.tuple #[u, .bool (clB l n), .int .i64 (clE l n)]) ∧ Hid (Own w' w.heap.size u (clL l n) ∧ Below w.heap.size w w') := by
  have CA := mkHid (rall1_any v l n w hv (by omega))
  have CO := mkHid (rorder_any v l w hv hlen)
  have CP := mkHid (fun W (h : Below w.heap.size w W) => ropp_any v l W (hv.next h) (by omega))
  obtain ⟨ao, cap, rfl⟩ := hv.form
  clear hv
  unfold clB clE clL
  cases hg : validAll l n
  · rw [hg] at CA
    clear CO CP hg
    go_enter Try.func21, Try.ntmps21
    go_wp2_with (go_at_call 34; refine CA.out.mono ?_; rintro e w2 ⟨rfl, rfl⟩)
    refine bodyPost_ret (v := .tuple #[.slice none 0 0, .bool false, .int .i64 1]) (by simp [results, Try.results21, go_sem]) rfl ?_
    exact ⟨_, rfl, mkHid ⟨Own.nil _ _, Below.refl _ _⟩⟩
  · rw [hg] at CA
    clear hg
    generalize opp l = o at *
    generalize order l = r at *
    go_enter Try.func21, Try.ntmps21
    go_wp2_with (first
      | (go_at_call 34; refine CA.out.mono ?_; rintro e w2 ⟨rfl, rfl⟩)
      | (go_at_call 36; refine CO.out.mono ?_; rintro e w3 ⟨u, rfl, H⟩)
      | (go_at_call 35; refine (CP.out _ H.out.2).mono ?_; rintro e w4 ⟨rfl, rfl⟩))
    refine bodyPost_ret (v := .tuple #[u, .bool o, .int .i64 0]) (by simp [results, Try.results21, go_sem]) rfl ?_
    exact ⟨_, rfl, H⟩

set_option maxRecDepth 100000 in
set_option maxHeartbeats 2000000 in
theorem rterm_any (v : Value) (l : List Int) (n : Int) (w : World) (hv : Ints w v l) (hlen : l.length ≤ 1000000) :
    Calls Try.prog 19 #[v, .int .i64 n] w fun e w' => ∃ u, e = .returned (.tuple #[u, .bool (tmB l n)]) ∧ Hid (Own w' w.heap.size u (tmL l n) ∧ Below w.heap.size w w') := by
  have CA := mkHid (rall1_any v l n w hv (by omega))
  have CO := mkHid (rorder_any v l w hv hlen)
  have CP := mkHid (ropp_any v l w hv (by omega))
  obtain ⟨ao, cap, rfl⟩ := hv.form
  clear hv
  unfold tmL tmB
  cases hg : validAll l n
  · rw [hg] at CA
    clear CO CP hg
    go_enter Try.func19, Try.ntmps19
    go_wp2_with (go_at_call 34; refine CA.out.mono ?_; rintro e w2 ⟨rfl, rfl⟩)
    refine bodyPost_ret (v := .tuple #[.slice none 0 0, .bool false]) (by simp [results, Try.results19, go_sem]) rfl ?_
    exact ⟨_, rfl, mkHid ⟨Own.nil _ _, Below.refl _ _⟩⟩
  · rw [hg] at CA
    clear hg
    cases ho : opp l
    · rw [ho] at CP
      clear ho
      generalize order l = r at *
      go_enter Try.func19, Try.ntmps19
      go_wp2_with (first
        | (go_at_call 34; refine CA.out.mono ?_; rintro e w2 ⟨rfl, rfl⟩)
        | (go_at_call 35; refine CP.out.mono ?_; rintro e w4 ⟨rfl, rfl⟩)
        | (go_at_call 36; refine CO.out.mono ?_; rintro e w3 ⟨u, rfl, H⟩))
      refine bodyPost_ret (v := .tuple #[u, .bool true]) (by simp [results, Try.results19, go_sem]) rfl ?_
      exact ⟨_, rfl, H⟩
    · rw [ho] at CP
      clear ho CO
      go_enter Try.func19, Try.ntmps19
      go_wp2_with (first
        | (go_at_call 34; refine CA.out.mono ?_; rintro e w2 ⟨rfl, rfl⟩)
        | (go_at_call 35; refine CP.out.mono ?_; rintro e w4 ⟨rfl, rfl⟩))
      refine bodyPost_ret (v := .tuple #[.slice none 0 0, .bool false]) (by simp [results, Try.results19, go_sem]) rfl ?_
      exact ⟨_, rfl, mkHid ⟨Own.nil _ _, Below.refl _ _⟩⟩

theorem rest_yes {c : List Int} {v x : Int} {k : Nat} (hx : c[k]? = some x) (h : x ≠ v) : rest (c.take (k + 1)) v = rest (c.take k) v ++ [x] := by
  rw [List.take_add_one, hx]
  unfold rest
  rw [List.filter_append]
  simp [h]
theorem rest_no {c : List Int} {v x : Int} {k : Nat} (hx : c[k]? = some x) (h : x = v) : rest (c.take (k + 1)) v = rest (c.take k) v := by
  rw [List.take_add_one, hx]
  unfold rest
  rw [List.filter_append]
  simp [h]
theorem rest_take_length (c : List Int) (v : Int) (k : Nat) : (rest (c.take k) v).length ≤ c.length := by
  have := rest_length (c.take k) v
  rw [List.length_take] at this
  omega
theorem rsB_split (c d : List Int) (v : Int) (h : 1 ≤ v ∧ v ≤ 128) : rsB c d v = (validAll c 128 && (validAll d 128 && (c.contains v && d.contains (-v)))) := by
  unfold rsB; rw [decide_eq_true h]; rfl

set_option maxRecDepth 100000 in
set_option maxHeartbeats 4000000 in
theorem rresolve_any (cv dv : Value) (c d : List Int) (v : Int) (w : World) (hc : Ints w cv c) (hd : Ints w dv d) (hcl : c.length ≤ 100000) (hdl : d.length ≤ 100000) :
    Calls Try.prog 30 #[cv, dv, .int .i64 v] w fun e w' => ∃ u, e = .returned (.tuple #[u, .bool (rsB c d v)]) ∧ Hid (Own w' w.heap.size u (rsL c d v) ∧ Below w.heap.size w w') := by
  have CA := mkHid (rall1_any cv c 128 w hc (by omega))
  have CB := mkHid (rall1_any dv d 128 w hd (by omega))
  have CH := mkHid (rhas_any cv c v w hc (by omega))
  have CI := mkHid (rhas_any dv d (-v) w hd (by omega))
  obtain ⟨ao, cap, rfl, hcu⟩ := hc.uni
  obtain ⟨ao2, cap2, rfl, hdu⟩ := hd.uni
  by_cases hv1 : 1 ≤ v
  · have g1 : ¬ v < 1 := by omega
    by_cases hv2 : v ≤ 128
    · have g2 : ¬ 128 < v := by omega
      have e1 : IntKind.i64.wrap (-v) = -v := IntWalk.i64_in _ (by omega)
      have ES := mkHid (rsB_split c d v ⟨hv1, hv2⟩)
      by_cases hgood : (validAll c 128 && (validAll d 128 && (c.contains v && d.contains (-v)))) = true
      · have EB : Hid (rsB c d v = true) := mkHid (by rw [ES.out]; exact hgood)
        have EL : Hid (rsL c d v = order (rest c v ++ rest d (-v))) := mkHid (by unfold rsL; rw [EB.out]; rfl)
        simp only [Bool.and_eq_true] at hgood
        obtain ⟨k1, k2, k3, k4⟩ := hgood
        rw [k1] at CA
        rw [k2] at CB
        rw [k3] at CH
        rw [k4] at CI
        have CO := mkHid (fun W u (h : Ints W u (rest c v ++ rest d (-v))) => rorder_any u _ W h (by
          have := rest_length c v
          have := rest_length d (-v)
          rw [List.length_append]; omega))
        rw [EB.out, EL.out]
        have HC := mkHid hcu
        have HD := mkHid hdu
        have HLc := mkHid (rest_take_length c v)
        have HLr := mkHid (rest_length c v)
        have HLd := mkHid (rest_take_length d (-v))
        generalize hord : order (rest c v ++ rest d (-v)) = r at *
        clear hord
        clear k1 k2 k3 k4 EB EL ES hcu hdu hc hd
        go_enter Try.func30, Try.ntmps30
        go_wp2_with (first
          | (go_at_call 34; with_reducible refine CA.out.mono ?_; rintro e w2 ⟨rfl, rfl⟩)
          | (go_at_call 34; with_reducible refine CB.out.mono ?_; rintro e w2 ⟨rfl, rfl⟩)
          | (go_at_call 46; with_reducible refine CH.out.mono ?_; rintro e w2 ⟨rfl, rfl⟩)
          | (go_at_call 46; with_reducible refine CI.out.mono ?_; rintro e w2 ⟨rfl, rfl⟩))
        clear CA CB CH CI
        go_loopw [8, 9] (fun ov iv wr => ∃ k : Nat, k ≤ c.length ∧ iv = .int .i64 (k : Int) ∧ Hid (Own wr w2.heap.size ov (rest (c.take k) v) ∧ Below w2.heap.size w2 wr)) (fun _ iv _ => c.length - (intOf iv).toNat)
        case atStart => exact ⟨0, Nat.zero_le _, rfl, mkHid ⟨Own.nil _ _, Below.refl _ _⟩⟩
        case round =>
          obtain ⟨k, hk, rfl, H⟩ := hrel
          by_cases hlt : k < c.length
          · obtain ⟨x, hx⟩ : ∃ x, c[k]? = some x := ⟨c[k], List.getElem?_eq_getElem hlt⟩
            obtain ⟨b, off, rfl, hcx0⟩ := HC.out k x hx
            have hcx := cell_grows H.out.2 hcx0
            have hk1' : (k : Int) < (c.length : Int) := by omega
            have HL := mkHid (HLc.out k)
            by_cases hxv : x = v
            · have HE := mkHid (rest_no hx hxv)
              clear hx hcx0
              go_wp2
              go_roundw
              case rel => exact ⟨k + 1, by omega, by go_num, mkHid ⟨by rw [HE.out]; exact H.out.1, H.out.2⟩⟩
              case measure => simp [intOf]; omega
            · have HE := mkHid (rest_yes hx hxv)
              clear hx hcx0
              go_wp2_with (at_builtin; refine wpList_app1 rfl (.tmp 52) (.tmp 57) rfl rfl rfl H.out.1 (by have := HL.out; omega) H.out.2.size H.out.2 ?_; intro v7 w7 H7)
              go_roundw
              case rel => exact ⟨k + 1, by omega, by go_num, mkHid ⟨by rw [HE.out]; exact H7.out.1, H7.out.2⟩⟩
              case measure => simp [intOf]; omega
          · have hk1' : ¬ (k : Int) < (c.length : Int) := by omega
            have HW : Hid (Own wr w2.heap.size u8 (rest c v) ∧ Below w2.heap.size w2 wr) := mkHid (by
              have := H.out
              rwa [show c.take k = c by rw [show k = c.length by omega, List.take_length]] at this)
            clear H HC
            go_wp2
            obtain ⟨wo, rfl⟩ : ∃ wo : World, wo = wr := ⟨_, rfl⟩
            go_loopw [8, 10] (fun ov iv wr => ∃ k : Nat, k ≤ d.length ∧ iv = .int .i64 (k : Int) ∧ Hid (Own wr w2.heap.size ov (rest c v ++ rest (d.take k) (-v)) ∧ Below w2.heap.size w2 wr)) (fun _ iv _ => d.length - (intOf iv).toNat)
            case atStart => exact ⟨0, Nat.zero_le _, rfl, mkHid ⟨by rw [List.take_zero, show rest [] (-v) = [] from rfl, List.append_nil]; exact HW.out.1, HW.out.2⟩⟩
            case round =>
              obtain ⟨k2, hk2, rfl, H⟩ := hrel
              clear HW
              by_cases hlt2 : k2 < d.length
              · obtain ⟨x, hx⟩ : ∃ x, d[k2]? = some x := ⟨d[k2], List.getElem?_eq_getElem hlt2⟩
                obtain ⟨b, off, rfl, hcx0⟩ := HD.out k2 x hx
                have hcx := cell_grows H.out.2 hcx0
                have hk2' : (k2 : Int) < (d.length : Int) := by omega
                have HL := mkHid (HLd.out k2)
                by_cases hxv : x = -v
                · have HE := mkHid (rest_no hx hxv)
                  clear hx hcx0
                  go_wp2
                  go_roundw
                  case rel => exact ⟨k2 + 1, by omega, by go_num, mkHid ⟨by rw [HE.out]; exact H.out.1, H.out.2⟩⟩
                  case measure => simp [intOf]; omega
                · have HE := mkHid (rest_yes hx hxv)
                  clear hx hcx0
                  go_wp2_with (at_builtin; refine wpList_app1 rfl (.tmp 72) (.tmp 77) rfl rfl rfl H.out.1 (by have := HL.out; have := HLr.out; simp; omega) H.out.2.size H.out.2 ?_; intro v7 w7 H7)
                  go_roundw
                  case rel => exact ⟨k2 + 1, by omega, by go_num, mkHid ⟨by rw [HE.out, ← List.append_assoc]; exact H7.out.1, H7.out.2⟩⟩
                  case measure => simp [intOf]; omega
              · have hk2' : ¬ (k2 : Int) < (d.length : Int) := by omega
                have HW : Hid (Own wr w2.heap.size u8 (rest c v ++ rest d (-v)) ∧ Below w2.heap.size w2 wr) := mkHid (by
                  have := H.out
                  rwa [show d.take k2 = d by rw [show k2 = d.length by omega, List.take_length]] at this)
                clear H HD
                go_wp2_with (go_at_call 36; refine (CO.out _ _ HW.out.1.ints).mono ?_; rintro e w9 ⟨u9, rfl, H9⟩; have HO9 := mkHid (H9.out.1.weaken HW.out.2.size); have HB9 := mkHid (bnx HW.out.2 H9.out.2))
                refine bodyPost_ret (v := .tuple #[u9, .bool true]) (by simp [results, Try.results30, go_sem]) rfl ?_
                exact ⟨_, rfl, mkHid ⟨HO9.out, HB9.out⟩⟩
      · have HN : Hid (rsB c d v = false) := mkHid (by rw [ES.out, Bool.eq_false_iff]; exact hgood)
        rw [HN.out, rsL_no HN.out]
        clear hc hd hcu hdu ES HN
        cases k0 : validAll c 128
        · rw [k0] at CA
          clear k0 hgood
          go_enter Try.func30, Try.ntmps30
          go_wp2_with (first
            | (go_at_call 34; with_reducible refine CA.out.mono ?_; rintro e w2 ⟨rfl, rfl⟩))
          refine bodyPost_ret (v := .tuple #[.slice none 0 0, .bool false]) (by simp [results, Try.results30, go_sem]) rfl ?_
          exact ⟨_, rfl, mkHid ⟨Own.nil _ _, Below.refl _ _⟩⟩
        · rw [k0] at CA
          cases k1 : validAll d 128
          · rw [k1] at CB
            clear k1
            go_enter Try.func30, Try.ntmps30
            go_wp2_with (first
              | (go_at_call 34; with_reducible refine CA.out.mono ?_; rintro e w2 ⟨rfl, rfl⟩)
              | (go_at_call 34; with_reducible refine CB.out.mono ?_; rintro e w2 ⟨rfl, rfl⟩))
            refine bodyPost_ret (v := .tuple #[.slice none 0 0, .bool false]) (by simp [results, Try.results30, go_sem]) rfl ?_
            exact ⟨_, rfl, mkHid ⟨Own.nil _ _, Below.refl _ _⟩⟩
          · rw [k1] at CB
            cases k2 : c.contains v
            · rw [k2] at CH
              clear k2
              go_enter Try.func30, Try.ntmps30
              go_wp2_with (first
                | (go_at_call 34; with_reducible refine CA.out.mono ?_; rintro e w2 ⟨rfl, rfl⟩)
                | (go_at_call 34; with_reducible refine CB.out.mono ?_; rintro e w2 ⟨rfl, rfl⟩)
                | (go_at_call 46; with_reducible refine CH.out.mono ?_; rintro e w2 ⟨rfl, rfl⟩))
              refine bodyPost_ret (v := .tuple #[.slice none 0 0, .bool false]) (by simp [results, Try.results30, go_sem]) rfl ?_
              exact ⟨_, rfl, mkHid ⟨Own.nil _ _, Below.refl _ _⟩⟩
            · rw [k2] at CH
              cases k3 : d.contains (-v)
              · rw [k3] at CI
                clear k3
                go_enter Try.func30, Try.ntmps30
                go_wp2_with (first
                  | (go_at_call 34; with_reducible refine CA.out.mono ?_; rintro e w2 ⟨rfl, rfl⟩)
                  | (go_at_call 34; with_reducible refine CB.out.mono ?_; rintro e w2 ⟨rfl, rfl⟩)
                  | (go_at_call 46; with_reducible refine CH.out.mono ?_; rintro e w2 ⟨rfl, rfl⟩)
                  | (go_at_call 46; with_reducible refine CI.out.mono ?_; rintro e w2 ⟨rfl, rfl⟩))
                refine bodyPost_ret (v := .tuple #[.slice none 0 0, .bool false]) (by simp [results, Try.results30, go_sem]) rfl ?_
                exact ⟨_, rfl, mkHid ⟨Own.nil _ _, Below.refl _ _⟩⟩
              · rw [k3] at CI
                exact absurd (by rw [k0, k1, k2, k3]; rfl) hgood
    · have g2 : 128 < v := by omega
      have HN := mkHid (rsB_no1 c d (v := v) (by omega))
      rw [HN.out, rsL_no HN.out]
      clear hc hd hcu hdu CA CB CH CI
      go_enter Try.func30, Try.ntmps30
      go_wp2
      refine bodyPost_ret (v := .tuple #[.slice none 0 0, .bool false]) (by simp [results, Try.results30, go_sem]) rfl ?_
      exact ⟨_, rfl, mkHid ⟨Own.nil _ _, Below.refl _ _⟩⟩
  · have g1 : v < 1 := by omega
    have HN := mkHid (rsB_no1 c d (v := v) (by omega))
    rw [HN.out, rsL_no HN.out]
    clear hc hd hcu hdu CA CB CH CI
    go_enter Try.func30, Try.ntmps30
    go_wp2
    refine bodyPost_ret (v := .tuple #[.slice none 0 0, .bool false]) (by simp [results, Try.results30, go_sem]) rfl ?_
    exact ⟨_, rfl, mkHid ⟨Own.nil _ _, Below.refl _ _⟩⟩
end Go.Proofs.Ytniagnbeeebobaa
