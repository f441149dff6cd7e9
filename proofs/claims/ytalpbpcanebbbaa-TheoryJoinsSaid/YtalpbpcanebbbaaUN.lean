/- Contract of the specification's Join. -/
import Derived.Test.YtalpbpcanebbbaaUE
namespace Go.Proofs.Ytalpbpcanebbbaa
open Go.RowKit VM LM TM

/-- The conjunction that is being made, as the specification makes it. -/
structure RJ (w W : World) (n m : Int) (v u : Value) (b3 : Nat) (p : Int) (v3 : Value) (ys : List Value) (M : List (List Int)) : Prop where
  j : JS w W n m v u
  o : TB W b3 p v3
  l : OwnV W w.heap.size v3 ys
  k : RowsO W w.heap.size ys M
  h : w.heap.size + 1 + 1 < b3
theorem RJ.next {w W W' : World} {n m : Int} {v u : Value} {b3 : Nat} {p : Int} {v3 : Value} {ys : List Value} {M : List (List Int)} (H : RJ w W n m v u b3 p v3 ys M) (hb : Below W.heap.size W W') : RJ w W' n m v u b3 p v3 ys M :=
  ⟨H.j.next hb, H.o.grows hb, H.l.below hb, H.k.below hb, H.h⟩
theorem RJ.app {w W w8 : World} {n m : Int} {v u : Value} {b3 : Nat} {p : Int} {v3 v8 x : Value} {ys : List Value} {M : List (List Int)} {c : List Int} (H : RJ w W n m v u b3 p v3 ys M) (hx : Own W w.heap.size x c)
    (h8 : OwnV w8 w.heap.size v8 (ys ++ [x]) ∧ (W.alloc (.cells #[x] 38)).grownBy w8 v3.ownBlock ∧ Below w.heap.size w w8) : RJ w (w8.setCell ⟨b3, 1, none⟩ v8) n m v u b3 p v8 (ys ++ [x]) (M ++ [c]) := by
  have t8 := H.o.app H.l h8.2.1
  have hh := H.h
  exact ⟨⟨(H.j.t.app H.l h8.2.1).off (by omega) _, (H.j.s.app H.l h8.2.1).off (by omega) _, (H.j.r.app H.l h8.2.1).off (by omega) _, bst h8.2.2 (by show w.heap.size ≤ b3; omega) _⟩, t8.set1 _, h8.1.set t8, (H.k.app H.l hx h8.2.1).setT t8, hh⟩
set_option maxRecDepth 100000 in
set_option maxHeartbeats 8000000 in
theorem rjoin_any (n m : Int) (v u : Value) (L K : List (List Int)) (w : World) (h : Th w v L) (k : Th w u K) :
    Calls Try.prog 29 #[.agg #[.int .i64 n, v], .agg #[.int .i64 m, u]] w fun e w' => ∃ x, e = .returned (.tuple #[.agg #[.int .i64 (if jnE n L m K = 0 then max n m else 0), x], .int .i64 (jnE n L m K)]) ∧
      Hid (OwnC w' w.heap.size x (if jnE n L m K = 0 then L ++ K else []) ∧ Below w.heap.size w w') := by
  have CA := mkHid (fun W (hb : Below w.heap.size w W) => rcheck_any n v L W (h.next hb))
  have CB := mkHid (fun W (hb : Below w.heap.size w W) => rcheck_any m u K W (k.next hb))
  have H0 : Hid (JS w (((w.alloc (.cells #[.int .i64 n, v] 24)).alloc (.cells #[.int .i64 m, u] 24)).alloc (.cells #[.int .i64 0, .slice none 0 0] 24)) n m v u) := mkHid
    ⟨((TB.new w w.heap.size n v rfl).grows (bal (Below.refl _ _) _)).grows (bal (Below.refl _ _) _), (TB.new _ _ _ _ (by simp)).grows (bal (Below.refl _ _) _), TB.new _ _ _ _ (by simp), bal (bal (bal (Below.refl _ w) _) _) _⟩
  obtain ⟨ao, cap, rfl, hcl0⟩ := h.cls
  obtain ⟨bo, dap, rfl, hck0⟩ := k.cls
  have HCL := mkHid hcl0
  have HCK := mkHid hck0
  have hlen := h.len
  have klen := k.len
  obtain ⟨t0, t1⟩ := H0.out.t.at
  have HC1 := mkHid (@ckT_zero n L)
  have HC2 := mkHid (@ckT_zero m K)
  have HJ : Hid (jnE n L m K = if ckT n L = 0 then (if ckT m K = 0 then (if 4096 < L.length + K.length then 2 else 0) else ckT m K) else ckT n L) := mkHid rfl
  generalize jnE n L m K = q at *
  generalize hN : (if q = 0 then max n m else 0) = N
  generalize hM : (if q = 0 then L ++ K else []) = M
  have HN := mkHid hN
  have HM := mkHid hM
  clear hN hM h k hcl0 hck0
  generalize ckT n L = q1 at *
  generalize ckT m K = q2 at *
  by_cases h1 : q1 = 0
  · by_cases h2 : q2 = 0
    · have hb1 : (L.length : Int) ≤ 4096 := by have := (HC1.out.1 h1).2.1; omega
      have hb2 : (K.length : Int) ≤ 4096 := by have := (HC2.out.1 h2).2.1; omega
      by_cases hbig : 4096 < (L.length : Int) + (K.length : Int)
      · have HF : Hid (q = 2 ∧ N = 0 ∧ M = []) := mkHid (by
          have e : q = 2 := by rw [HJ.out, if_pos h1, if_pos h2, if_pos (by omega)]
          subst e
          exact ⟨rfl, by rw [← HN.out, if_neg (by omega)], by rw [← HM.out, if_neg (by omega)]⟩)
        clear HJ HC1 HC2 HN HM
        go_enter Try.func29, Try.ntmps29
        go_wp2_with (first
          | (go_at_call 18; (with_reducible refine (CA.out _ H0.out.b).mono ?_); rintro e w6 ⟨rfl, hw⟩; have H1 := mkHid (H0.out.next hw); obtain ⟨s0, s1⟩ := H1.out.s.at; clear hw)
          | (go_at_call 18; (with_reducible refine (CB.out _ H1.out.b).mono ?_); rintro e w7 ⟨rfl, hw⟩; have H2 := mkHid (H1.out.next hw); obtain ⟨r0, r1⟩ := H2.out.r.at; obtain ⟨rf0, rf1⟩ := H2.out.r.free; obtain ⟨x0, x1⟩ := H2.out.t.at; obtain ⟨y0, y1⟩ := H2.out.s.at; clear hw))
        refine bodyPost_ret (v := .tuple #[.agg #[.int .i64 0, .slice none 0 0], .int .i64 2]) (by simp [results, Try.results29, go_sem, r0, r1]) rfl ?_
        exact ⟨_, by rw [HF.out.1, HF.out.2.1], mkHid ⟨by rw [HF.out.2.2]; exact OwnC.nil _ _, bst2 H2.out.b _ (by omega) _ _⟩⟩
      · have HF : Hid (q = 0 ∧ N = max n m ∧ M = L ++ K) := mkHid (by
          have e : q = 0 := by rw [HJ.out, if_pos h1, if_pos h2, if_neg (by omega)]
          subst e
          exact ⟨rfl, by rw [← HN.out, if_pos rfl], by rw [← HM.out, if_pos rfl]⟩)
        have HB : Hid (L.length + K.length ≤ 4096) := mkHid (by omega)
        have HV : Hid (∀ c ∈ L ++ K, c.length ≤ 128) := mkHid (by
          intro c hc
          rcases List.mem_append.1 hc with hc | hc
          · exact ((HC1.out.1 h1).2.2 c hc).1
          · exact ((HC2.out.1 h2).2.2 c hc).1)
        clear HJ HC1 HC2 HN HM
        go_enter Try.func29, Try.ntmps29
        go_wp2_with (first
          | (go_at_call 18; (with_reducible refine (CA.out _ H0.out.b).mono ?_); rintro e w6 ⟨rfl, hw⟩; have H1 := mkHid (H0.out.next hw); obtain ⟨s0, s1⟩ := H1.out.s.at; clear hw)
          | (go_at_call 18; (with_reducible refine (CB.out _ H1.out.b).mono ?_); rintro e w7 ⟨rfl, hw⟩; have H2 := mkHid (H1.out.next hw); obtain ⟨x0, x1⟩ := H2.out.t.at; obtain ⟨y0, y1⟩ := H2.out.s.at; clear hw))
        have HST : Hid (∃ v3 ys, RJ w (w7.alloc (.cells #[.int .i64 (max n m), .slice none 0 0] 24)) n m (.slice ao L.length cap) (.slice bo K.length dap) w7.heap.size (max n m) v3 ys (L.take 0)) := mkHid ⟨_, _, H2.out.alloc _, TB.new _ _ _ _ rfl, OwnV.nil _ _, RowsO.nil _ _, H2.out.r.lt⟩
        have hb3 := H2.out.r.lt
        generalize w7.heap.size = b3 at *
        clear t0 t1 s0 s1 x0 x1 y0 y1 H0 H1 H2 CA CB
        go_loopw [8] (fun iv wr => ∃ k : Nat, k ≤ L.length ∧ iv = .int .i64 (k : Int) ∧ Hid (∃ v3 ys, RJ w wr n m (.slice ao L.length cap) (.slice bo K.length dap) b3 (max n m) v3 ys (L.take k))) (fun iv _ => L.length - (intOf iv).toNat)
        case atStart => exact ⟨0, Nat.zero_le _, rfl, HST⟩
        case round =>
          obtain ⟨k, hk, rfl, H⟩ := hrel
          obtain ⟨v3, xs, hci⟩ := H.out
          have HH := mkHid hci
          clear H HST hci
          obtain ⟨q0, q1⟩ := HH.out.j.t.at
          by_cases hlt : k < L.length
          · obtain ⟨c, hc⟩ : ∃ c, L[k]? = some c := ⟨L[k], List.getElem?_eq_getElem hlt⟩
            obtain ⟨b, off, x, e1, hx, hi⟩ := HCL.out k c hc
            subst e1
            have p1 := cell_grows HH.out.j.b hx
            have hk1 : (k : Int) < (L.length : Int) := by omega
            have hk0 : (0 : Int) ≤ (k : Int) := by omega
            have hb := HB.out
            have hcl := HV.out c (List.mem_append.2 (.inl (List.mem_of_getElem? hc)))
            have HE : Hid (L.take (k + 1) = L.take k ++ [c]) := mkHid (by rw [List.take_add_one, hc]; simp)
            have HXL : Hid (xs.length ≤ 4096) := mkHid (by rw [HH.out.k.1]; simp; omega)
            obtain ⟨ac, cc, rfl⟩ := hi.form
            have HI := mkHid (hi.next HH.out.j.b)
            obtain ⟨o0, o1⟩ := HH.out.o.at
            have e0 := (own_empty wr w.heap.size wr.heap.size rfl HH.out.j.b.size).below (Below.refl _ _).drew
            have HE0 := mkHid e0
            have ba : Below wr.heap.size wr (wr.alloc (.cells #[] 3)) := bal (Below.refl _ _) _
            obtain ⟨l0, l1⟩ := (HH.out.o.grows ba).at
            obtain ⟨g0, g1⟩ := (HH.out.j.t.grows ba).at
            have p2 := cell_grows ba p1
            clear hc hx hi e0 ba
            go_wp2
            go_region_law (first
              | (refine step_app rfl (.tmp 47) (.tmp 52) rfl (by simp [Act.eval]) (by simp [Act.eval]) (base := w.heap.size) (l := []) (l2 := c) HE0.out (HI.out.next (bal (Below.refl _ wr) (.cells #[] 3)).drew) (by simp; omega) (by have := HH.out.j.b.size; simp; omega) ?_; intro v6 w6 hown6 hg6; have B6 := mkHid (((bal (Below.refl _ wr) (.cells #[] 3)).drew.grown hg6 (by simp) (fun j hj => Nat.le_of_eq (by simpa [Value.ownBlock] using hj)))); have hown7 := hown6; rw [List.nil_append] at hown7; have O6 := mkHid hown7; obtain ⟨a6, c6, rfl⟩ := hown7.ints.form; have N6 := mkHid (HH.out.next B6.out); obtain ⟨u0, u1⟩ := N6.out.o.at; obtain ⟨m0, m1⟩ := (N6.out.o.grows (bal (Below.refl _ w6) (.cells #[.slice a6 c.length c6] 38))).at; clear hown6 hown7 hg6)
              | (refine step_appV rfl (.tmp 46) (.tmp 54) rfl (by simp [Act.eval]) (by simp [Act.eval]) (x := .slice a6 c.length c6) N6.out.l (oneCell_slice _ _ _) (by have := HXL.out; omega) N6.out.j.b.size N6.out.j.b ?_; intro v8 w8 H8; have T8 := mkHid (N6.out.o.app N6.out.l H8.out.2.1); have R8 := mkHid (N6.out.app O6.out H8.out); obtain ⟨a8, c8, e8⟩ := H8.out.1.vals.form; rw [List.length_append] at e8; subst e8; obtain ⟨y0, y1⟩ := T8.out.at; obtain ⟨yf0, yf1⟩ := T8.out.free))
            all_goals
              go_wp2
              go_roundw
              case rel =>
                refine ⟨k + 1, by omega, by go_num, mkHid ⟨_, _, by rw [HE.out]; exact R8.out⟩⟩
              case measure => simp [intOf]; omega
          · have hk1 : ¬ (k : Int) < (L.length : Int) := by omega
            have HE : Hid (L.take k = L) := mkHid (by rw [List.take_of_length_le (by omega)])
            obtain ⟨a3, c3, e3⟩ : ∃ a3 c3, v3 = .slice a3 xs.length c3 := HH.out.l.vals.form
            subst e3
            have HST : Hid (∃ v3 ys, RJ w wr n m (.slice ao L.length cap) (.slice bo K.length dap) b3 (max n m) v3 ys (L ++ K.take 0)) := mkHid ⟨_, _, by rw [List.take_zero, List.append_nil]; have := HH.out; rw [HE.out] at this; exact this⟩
            go_wp2
            clear HH q0 q1 HE
            go_loopw [9] (fun iv wr => ∃ k : Nat, k ≤ K.length ∧ iv = .int .i64 (k : Int) ∧ Hid (∃ v3 ys, RJ w wr n m (.slice ao L.length cap) (.slice bo K.length dap) b3 (max n m) v3 ys (L ++ K.take k))) (fun iv _ => K.length - (intOf iv).toNat)
            case atStart => exact ⟨0, Nat.zero_le _, rfl, HST⟩
            case round =>
              obtain ⟨k, hk, rfl, H⟩ := hrel
              obtain ⟨v3, xs, hci⟩ := H.out
              have HH := mkHid hci
              clear H HST hci
              obtain ⟨q0, q1⟩ := HH.out.j.s.at
              by_cases hlt : k < K.length
              · obtain ⟨c, hc⟩ : ∃ c, K[k]? = some c := ⟨K[k], List.getElem?_eq_getElem hlt⟩
                obtain ⟨b, off, x, e1, hx, hi⟩ := HCK.out k c hc
                subst e1
                have p1 := cell_grows HH.out.j.b hx
                have hk1 : (k : Int) < (K.length : Int) := by omega
                have hk0 : (0 : Int) ≤ (k : Int) := by omega
                have hb := HB.out
                have hcl := HV.out c (List.mem_append.2 (.inr (List.mem_of_getElem? hc)))
                have HE : Hid (L ++ K.take (k + 1) = L ++ K.take k ++ [c]) := mkHid (by rw [List.take_add_one, hc]; simp)
                have HXL : Hid (xs.length ≤ 4096) := mkHid (by rw [HH.out.k.1]; simp; omega)
                obtain ⟨ac, cc, rfl⟩ := hi.form
                have HI := mkHid (hi.next HH.out.j.b)
                obtain ⟨o0, o1⟩ := HH.out.o.at
                have e0 := (own_empty wr w.heap.size wr.heap.size rfl HH.out.j.b.size).below (Below.refl _ _).drew
                have HE0 := mkHid e0
                have ba : Below wr.heap.size wr (wr.alloc (.cells #[] 3)) := bal (Below.refl _ _) _
                obtain ⟨l0, l1⟩ := (HH.out.o.grows ba).at
                obtain ⟨g0, g1⟩ := (HH.out.j.s.grows ba).at
                have p2 := cell_grows ba p1
                clear hc hx hi e0 ba
                go_wp2
                go_region_law (first
                  | (refine step_app rfl (.tmp 66) (.tmp 71) rfl (by simp [Act.eval]) (by simp [Act.eval]) (base := w.heap.size) (l := []) (l2 := c) HE0.out (HI.out.next (bal (Below.refl _ wr) (.cells #[] 3)).drew) (by simp; omega) (by have := HH.out.j.b.size; simp; omega) ?_; intro v6 w6 hown6 hg6; have B6 := mkHid (((bal (Below.refl _ wr) (.cells #[] 3)).drew.grown hg6 (by simp) (fun j hj => Nat.le_of_eq (by simpa [Value.ownBlock] using hj)))); have hown7 := hown6; rw [List.nil_append] at hown7; have O6 := mkHid hown7; obtain ⟨a6, c6, rfl⟩ := hown7.ints.form; have N6 := mkHid (HH.out.next B6.out); obtain ⟨u0, u1⟩ := N6.out.o.at; obtain ⟨m0, m1⟩ := (N6.out.o.grows (bal (Below.refl _ w6) (.cells #[.slice a6 c.length c6] 38))).at; clear hown6 hown7 hg6)
                  | (refine step_appV rfl (.tmp 65) (.tmp 73) rfl (by simp [Act.eval]) (by simp [Act.eval]) (x := .slice a6 c.length c6) N6.out.l (oneCell_slice _ _ _) (by have := HXL.out; omega) N6.out.j.b.size N6.out.j.b ?_; intro v8 w8 H8; have T8 := mkHid (N6.out.o.app N6.out.l H8.out.2.1); have R8 := mkHid (N6.out.app O6.out H8.out); obtain ⟨a8, c8, e8⟩ := H8.out.1.vals.form; rw [List.length_append] at e8; subst e8; obtain ⟨y0, y1⟩ := T8.out.at; obtain ⟨yf0, yf1⟩ := T8.out.free))
                all_goals
                  go_wp2
                  go_roundw
                  case rel =>
                    refine ⟨k + 1, by omega, by go_num, mkHid ⟨_, _, by rw [HE.out]; exact R8.out⟩⟩
                  case measure => simp [intOf]; omega
              · have hk1 : ¬ (k : Int) < (K.length : Int) := by omega
                have HE : Hid (L ++ K.take k = L ++ K) := mkHid (by rw [List.take_of_length_le (by omega)])
                obtain ⟨a3, c3, e3⟩ : ∃ a3 c3, v3 = .slice a3 xs.length c3 := HH.out.l.vals.form
                subst e3
                obtain ⟨o0, o1⟩ := HH.out.o.at
                obtain ⟨r0, r1⟩ := HH.out.j.r.at
                obtain ⟨rf0, rf1⟩ := HH.out.j.r.free
                go_wp2
                refine bodyPost_ret (v := .tuple #[.agg #[.int .i64 (max n m), .slice a3 xs.length c3], .int .i64 0]) (by simp [results, Try.results29, go_sem, r0, r1]) rfl ?_
                have hoc : OwnC wr w.heap.size (.slice a3 xs.length c3) (L ++ K) := ⟨xs, HH.out.l, by rw [← HE.out]; exact HH.out.k⟩
                exact ⟨_, by rw [HF.out.1, HF.out.2.1], mkHid ⟨by rw [HF.out.2.2]; exact hoc.setB HH.out.j.r _, bst2 HH.out.j.b _ (by omega) _ _⟩⟩
    · have HF : Hid (q = q2 ∧ N = 0 ∧ M = []) := mkHid (by
        have e : q = q2 := by rw [HJ.out, if_pos h1, if_neg h2]
        subst e
        exact ⟨rfl, by rw [← HN.out, if_neg h2], by rw [← HM.out, if_neg h2]⟩)
      clear HJ HC1 HC2 HN HM
      go_enter Try.func29, Try.ntmps29
      go_wp2_with (first
        | (go_at_call 18; (with_reducible refine (CA.out _ H0.out.b).mono ?_); rintro e w6 ⟨rfl, hw⟩; have H1 := mkHid (H0.out.next hw); obtain ⟨s0, s1⟩ := H1.out.s.at; clear hw)
        | (go_at_call 18; (with_reducible refine (CB.out _ H1.out.b).mono ?_); rintro e w7 ⟨rfl, hw⟩; have H2 := mkHid (H1.out.next hw); obtain ⟨r0, r1⟩ := H2.out.r.at; obtain ⟨rf0, rf1⟩ := H2.out.r.free; clear hw))
      refine bodyPost_ret (v := .tuple #[.agg #[.int .i64 0, .slice none 0 0], .int .i64 q2]) (by simp [results, Try.results29, go_sem, r0, r1]) rfl ?_
      exact ⟨_, by rw [HF.out.1, HF.out.2.1], mkHid ⟨by rw [HF.out.2.2]; exact OwnC.nil _ _, bst2 H2.out.b _ (by omega) _ _⟩⟩
  · have HF : Hid (q = q1 ∧ N = 0 ∧ M = []) := mkHid (by
      have e : q = q1 := by rw [HJ.out, if_neg h1]
      subst e
      exact ⟨rfl, by rw [← HN.out, if_neg h1], by rw [← HM.out, if_neg h1]⟩)
    clear HJ HC1 HC2 HN HM
    go_enter Try.func29, Try.ntmps29
    go_wp2_with (first
      | (go_at_call 18; (with_reducible refine (CA.out _ H0.out.b).mono ?_); rintro e w6 ⟨rfl, hw⟩; have H1 := mkHid (H0.out.next hw); obtain ⟨r0, r1⟩ := H1.out.r.at; obtain ⟨rf0, rf1⟩ := H1.out.r.free; clear hw))
    refine bodyPost_ret (v := .tuple #[.agg #[.int .i64 0, .slice none 0 0], .int .i64 q1]) (by simp [results, Try.results29, go_sem, r0, r1]) rfl ?_
    exact ⟨_, by rw [HF.out.1, HF.out.2.1], mkHid ⟨by rw [HF.out.2.2]; exact OwnC.nil _ _, bst2 H1.out.b _ (by omega) _ _⟩⟩
end Go.Proofs.Ytalpbpcanebbbaa
