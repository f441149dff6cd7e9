/- The law TheoryKnown. -/
import Derived.Test.YtalpbpcanebbbaaUP
namespace Go.Proofs.Ytalpbpcanebbbaa
open Go.RowKit VM LM TM

theorem len5 : (smp ++ [[4]] : List (List Int)).length = 5 := rfl
/-- The example's theory in its box. -/
structure KN (w W : World) (b1 : Nat) (v1 : Value) : Prop where
  t : TB W b1 3 v1
  k : Cls W v1 smp
  b : Below w.heap.size w W
theorem KN.next {w W W' : World} {b1 : Nat} {v1 : Value} (H : KN w W b1 v1) (hb : Below W.heap.size W W') : KN w W' b1 v1 := ⟨H.t.grows hb, H.k.next hb, bnx H.b hb⟩
/-- What the law holds when all is made. -/
structure KX (w W : World) (b1 b2 b7 b9 : Nat) (v1 v2 v7 v9 : Value) : Prop where
  n : KN w W b1 v1
  u : TB W b2 3 v2
  g : Cls W v2 []
  j : TB W b7 4 v7
  x : TB W b9 3 v9
  y : Cls W v9 [[4]]
theorem KX.next {w W W' : World} {b1 b2 b7 b9 : Nat} {v1 v2 v7 v9 : Value} (H : KX w W b1 b2 b7 b9 v1 v2 v7 v9) (hb : Below W.heap.size W W') : KX w W' b1 b2 b7 b9 v1 v2 v7 v9 :=
  ⟨H.n.next hb, H.u.grows hb, H.g.next hb, H.j.grows hb, H.x.grows hb, H.y.next hb⟩
set_option maxRecDepth 100000 in
set_option maxHeartbeats 8000000 in
theorem known_law (w : World) : Calls Try.prog 14 #[] w fun e w' => e = .returned (.bool true) ∧ Below w.heap.size w w' := by
  have CS := mkHid (fun W => sample_any W)
  have CW := mkHid (fun W => works_any W)
  have E : ∀ w, (Op.equalIn 10000 36 (.agg #[.int .u64 0, .int .u64 0]) (.agg #[.int .u64 0, .int .u64 0])).run Try.prog w = .ok true w := fun w => by
    have := eq_sets 0#128 0#128 w
    rw [sv_empty] at this
    simpa using this
  go_enter Try.func14, Try.ntmps14
  go_wp2_with (first
      | (go_at_call 35; (with_reducible refine (CS.out _).mono ?_); rintro e w1 ⟨u1, rfl, h1⟩; obtain ⟨a1, c1, rfl⟩ := h1.out.1.form;
          have K1 : Hid (KN w (w1.alloc (.cells #[.int .i64 3, .slice a1 smp.length c1] 24)) w1.heap.size (.slice a1 smp.length c1)) := mkHid ⟨TB.new _ _ _ _ rfl, h1.out.1.next (bal (Below.refl _ _) _), bal h1.out.2 _⟩;
          have G1 := mkHid (given1_smp (.slice a1 smp.length c1) (.slice (some ⟨w1.heap.size + 1, 0, none⟩) 2 2) ((w1.alloc (.cells #[.int .i64 3, .slice a1 smp.length c1] 24)).alloc (.cells #[.int .i64 (-1), .int .i64 3] 3)) (K1.out.k.next (bal (Below.refl _ _) _)) (ints_new (w1.alloc (.cells #[.int .i64 3, .slice a1 smp.length c1] 24)) [-1, 3] 3 (w1.heap.size + 1) 2 (by simp) rfl));
          have L1 := mkHid (bal (Below.refl _ _) (.cells #[.int .i64 (-1), .int .i64 3] 3) : Below (w1.alloc (.cells #[.int .i64 3, .slice a1 smp.length c1] 24)).heap.size (w1.alloc (.cells #[.int .i64 3, .slice a1 smp.length c1] 24)) ((w1.alloc (.cells #[.int .i64 3, .slice a1 smp.length c1] 24)).alloc (.cells #[.int .i64 (-1), .int .i64 3] 3))); obtain ⟨p0, p1⟩ := K1.out.t.at; clear h1)
      | (go_at_call 26; (with_reducible refine (G1.out).mono ?_); rintro e w2 ⟨u2, rfl, h2⟩; obtain ⟨a2, c2, e2⟩ := h2.out.1.form; simp only [List.length_nil] at e2; subst e2;
          have b2 : Below w2.heap.size w2 (w2.alloc (.cells #[.int .i64 3, .slice a2 0 c2] 24)) := (bal (Below.refl _ _) _);
          have K2 : Hid (KN w (w2.alloc (.cells #[.int .i64 3, .slice a2 0 c2] 24)) w1.heap.size (.slice a1 smp.length c1)) := mkHid (((K1.out.next L1.out).next h2.out.2).next b2);
          have T2 := mkHid (TB.new w2 w2.heap.size 3 (.slice a2 0 c2) rfl); have C2 := mkHid (h2.out.1.cls.next b2);
          have G2 := mkHid (given2_smp (.slice a1 smp.length c1) (.slice (some ⟨w2.heap.size + 1, 0, none⟩) 2 2) ((w2.alloc (.cells #[.int .i64 3, .slice a2 0 c2] 24)).alloc (.cells #[.int .i64 1, .int .i64 (-1)] 3)) (K2.out.k.next (bal (Below.refl _ _) _)) (ints_new (w2.alloc (.cells #[.int .i64 3, .slice a2 0 c2] 24)) [1, -1] 3 (w2.heap.size + 1) 2 (by simp) rfl));
          have L2 := mkHid (bal (Below.refl _ _) (.cells #[.int .i64 1, .int .i64 (-1)] 3) : Below (w2.alloc (.cells #[.int .i64 3, .slice a2 0 c2] 24)).heap.size (w2.alloc (.cells #[.int .i64 3, .slice a2 0 c2] 24)) ((w2.alloc (.cells #[.int .i64 3, .slice a2 0 c2] 24)).alloc (.cells #[.int .i64 1, .int .i64 (-1)] 3))); obtain ⟨q0, q1⟩ := K2.out.t.at; clear h2 b2)
      | (go_at_call 26; (with_reducible refine (G2.out).mono ?_); rintro e w3 ⟨u3, rfl, h3⟩; obtain ⟨a3, c3, e3⟩ := h3.out.1.form; simp only [List.length_nil] at e3; subst e3;
          have b3 : Below w3.heap.size w3 ((((w3.alloc (.cells #[.int .i64 0, .slice a3 0 c3] 24)).alloc (.cells #[.int .i64 4] 3)).alloc (.cells #[.slice (some ⟨w3.heap.size + 1, 0, none⟩) 1 1] 38)).alloc (.cells #[.int .i64 4, .slice (some ⟨w3.heap.size + 1 + 1, 0, none⟩) 1 1] 24)) := bal (bal (bal (bal (Below.refl _ _) _) _) _) _;
          have L3 := mkHid (bnx L2.out (bnx h3.out.2 b3));
          have K3 : Hid (KN w ((((w3.alloc (.cells #[.int .i64 0, .slice a3 0 c3] 24)).alloc (.cells #[.int .i64 4] 3)).alloc (.cells #[.slice (some ⟨w3.heap.size + 1, 0, none⟩) 1 1] 38)).alloc (.cells #[.int .i64 4, .slice (some ⟨w3.heap.size + 1 + 1, 0, none⟩) 1 1] 24)) w1.heap.size (.slice a1 smp.length c1)) := mkHid (K2.out.next L3.out);
          have T6 : Hid (TB ((((w3.alloc (.cells #[.int .i64 0, .slice a3 0 c3] 24)).alloc (.cells #[.int .i64 4] 3)).alloc (.cells #[.slice (some ⟨w3.heap.size + 1, 0, none⟩) 1 1] 38)).alloc (.cells #[.int .i64 4, .slice (some ⟨w3.heap.size + 1 + 1, 0, none⟩) 1 1] 24)) (w3.heap.size + 1 + 1 + 1) 4 (.slice (some ⟨w3.heap.size + 1 + 1, 0, none⟩) 1 1)) := mkHid (TB.new _ _ _ _ (by simp));
          have C6 : Hid (Cls ((((w3.alloc (.cells #[.int .i64 0, .slice a3 0 c3] 24)).alloc (.cells #[.int .i64 4] 3)).alloc (.cells #[.slice (some ⟨w3.heap.size + 1, 0, none⟩) 1 1] 38)).alloc (.cells #[.int .i64 4, .slice (some ⟨w3.heap.size + 1 + 1, 0, none⟩) 1 1] 24)) (.slice (some ⟨w3.heap.size + 1 + 1, 0, none⟩) 1 1) [[4]]) := mkHid ((cls1 ((w3.alloc (.cells #[.int .i64 0, .slice a3 0 c3] 24)).alloc (.cells #[.int .i64 4] 3)) (w3.heap.size + 1 + 1) (by simp) [4] _ (ints_new (w3.alloc (.cells #[.int .i64 0, .slice a3 0 c3] 24)) [4] 3 (w3.heap.size + 1) 1 (by simp) rfl)).next (bal (Below.refl _ _) _));
          have T23 := mkHid (T2.out.grows L3.out); have C23 := mkHid (C2.out.next L3.out);
          have G3 := mkHid (join_smp (.slice a1 smp.length c1) (.slice (some ⟨w3.heap.size + 1 + 1, 0, none⟩) 1 1) ((((w3.alloc (.cells #[.int .i64 0, .slice a3 0 c3] 24)).alloc (.cells #[.int .i64 4] 3)).alloc (.cells #[.slice (some ⟨w3.heap.size + 1, 0, none⟩) 1 1] 38)).alloc (.cells #[.int .i64 4, .slice (some ⟨w3.heap.size + 1 + 1, 0, none⟩) 1 1] 24)) K3.out.k C6.out);
          obtain ⟨r0, r1⟩ := K3.out.t.at; obtain ⟨s0, s1⟩ := T6.out.at; clear h3 b3)
      | (go_at_call 28; (with_reducible refine (G3.out).mono ?_); rintro e w4 ⟨u4, rfl, h4⟩; obtain ⟨a4, c4, e4⟩ := h4.out.1.form; rw [len5] at e4; subst e4;
          have b4 : Below w4.heap.size w4 (w4.alloc (.cells #[.int .i64 4, .slice a4 5 c4] 24)) := (bal (Below.refl _ _) _);
          have b5 : Below (w4.alloc (.cells #[.int .i64 4, .slice a4 5 c4] 24)).heap.size (w4.alloc (.cells #[.int .i64 4, .slice a4 5 c4] 24)) ((((w4.alloc (.cells #[.int .i64 4, .slice a4 5 c4] 24)).alloc (.cells #[.int .i64 4] 3)).alloc (.cells #[.slice (some ⟨w4.heap.size + 1, 0, none⟩) 1 1] 38)).alloc (.cells #[.int .i64 3, .slice (some ⟨w4.heap.size + 1 + 1, 0, none⟩) 1 1] 24)) := bal (bal (bal (Below.refl _ _) _) _) _;
          have L4 := mkHid (bnx h4.out.2 (bnx b4 b5));
          have X0 : Hid (KX w ((((w4.alloc (.cells #[.int .i64 4, .slice a4 5 c4] 24)).alloc (.cells #[.int .i64 4] 3)).alloc (.cells #[.slice (some ⟨w4.heap.size + 1, 0, none⟩) 1 1] 38)).alloc (.cells #[.int .i64 3, .slice (some ⟨w4.heap.size + 1 + 1, 0, none⟩) 1 1] 24)) w1.heap.size w2.heap.size w4.heap.size (w4.heap.size + 1 + 1 + 1) (.slice a1 smp.length c1) (.slice a2 0 c2) (.slice a4 5 c4) (.slice (some ⟨w4.heap.size + 1 + 1, 0, none⟩) 1 1)) := mkHid ⟨K3.out.next L4.out, T23.out.grows L4.out, C23.out.next L4.out, (TB.new w4 w4.heap.size 4 (.slice a4 5 c4) rfl).grows b5, TB.new _ _ _ _ (by simp), (cls1 ((w4.alloc (.cells #[.int .i64 4, .slice a4 5 c4] 24)).alloc (.cells #[.int .i64 4] 3)) (w4.heap.size + 1 + 1) (by simp) [4] _ (ints_new (w4.alloc (.cells #[.int .i64 4, .slice a4 5 c4] 24)) [4] 3 (w4.heap.size + 1) 1 (by simp) rfl)).next (bal (Below.refl _ _) _)⟩;
          have CE := mkHid (same_nil (.slice a2 0 c2) _ X0.out.g);
          obtain ⟨t0, t1⟩ := X0.out.u.at; obtain ⟨v0, v1⟩ := X0.out.j.at; obtain ⟨y0, y1⟩ := X0.out.x.at; obtain ⟨z0, z1⟩ := X0.out.n.t.at; clear h4 b4 b5)
      | (go_at_call 33; (with_reducible refine (CE.out).mono ?_); rintro e wx1 ⟨rfl, hb⟩; have X1 := mkHid (X0.out.next hb); clear hb; obtain ⟨m1, n1⟩ := X1.out.j.at; obtain ⟨f1, g1⟩ := X1.out.x.at; obtain ⟨k1, l1⟩ := X1.out.n.t.at)
      | (go_at_call 30; (with_reducible refine (vars_four _ _ X1.out.y).mono ?_); rintro e wx2 ⟨rfl, hb⟩; have X2 := mkHid (X1.out.next hb); clear hb; obtain ⟨m2, n2⟩ := X2.out.j.at; obtain ⟨f2, g2⟩ := X2.out.x.at; obtain ⟨k2, l2⟩ := X2.out.n.t.at)
      | (go_at_call 17; (with_reducible refine (check_is (q := 1) (L := [[4]]) (by kernel_rfl) four_tiny _ X2.out.y).mono ?_); rintro e wx3 ⟨rfl, hb⟩; have X3 := mkHid (X2.out.next hb); clear hb; obtain ⟨m3, n3⟩ := X3.out.j.at; obtain ⟨f3, g3⟩ := X3.out.x.at; obtain ⟨k3, l3⟩ := X3.out.n.t.at)
      | (go_at_call 24; (with_reducible refine (eval_is sv_empty e_smp0 smp_tiny _ X3.out.n.k).mono ?_); rintro e wx4 ⟨rfl, hb⟩; have X4 := mkHid (X3.out.next hb); clear hb; obtain ⟨m4, n4⟩ := X4.out.j.at; obtain ⟨f4, g4⟩ := X4.out.x.at; obtain ⟨k4, l4⟩ := X4.out.n.t.at)
      | (go_at_call 24; (with_reducible refine (eval_is sv12 e_smp12 smp_tiny _ X4.out.n.k).mono ?_); rintro e wx5 ⟨rfl, hb⟩; have X5 := mkHid (X4.out.next hb); clear hb; obtain ⟨m5, n5⟩ := X5.out.j.at; obtain ⟨f5, g5⟩ := X5.out.x.at; obtain ⟨k5, l5⟩ := X5.out.n.t.at)
      | (go_at_call 24; (with_reducible refine (eval_is sv8 e_wrong four_tiny _ X5.out.y).mono ?_); rintro e wx6 ⟨rfl, hb⟩; have X6 := mkHid (X5.out.next hb); clear hb)
      | (go_at_call 24; (with_reducible refine (eval_is sv_empty e_none tiny_nil _ (cls_nil _)).mono ?_); rintro e wx7 ⟨rfl, hb⟩; have X7 := mkHid (X6.out.next hb); clear hb)
      | (go_at_call 24; (with_reducible refine (eval_is sv1 e_none1 tiny_nil _ (cls_nil _)).mono ?_); rintro e wx8 ⟨rfl, hb⟩; have X8 := mkHid (X7.out.next hb); have CV := mkHid (cls1 (wx8.alloc (.cells #[] 3)) (wx8.heap.size + 1) (by simp) [] (.slice (some ⟨wx8.heap.size, 0, none⟩) 0 0) (.inl ⟨rfl, _, _, rfl⟩)); have X8b := mkHid ((X8.out.next (bal (Below.refl _ _) (.cells #[] 3))).next (bal (Below.refl _ _) (.cells #[.slice (some ⟨wx8.heap.size, 0, none⟩) 0 0] 38))); clear hb)
      | (go_at_call 24; (with_reducible refine (eval_is sv_empty e_empty (tiny_one [] (by decide)) _ CV.out).mono ?_); rintro e wx9 ⟨rfl, hb⟩; have X9 := mkHid (X8b.out.next hb); clear hb)
      | (go_at_call 17; (with_reducible refine (check_is (n := 128) (q := 0) (L := []) (by kernel_rfl) tiny_nil _ (cls_nil _)).mono ?_); rintro e wx10 ⟨rfl, hb⟩; have X10 := mkHid (X9.out.next hb); clear hb)
      | (go_at_call 17; (with_reducible refine (check_is (n := 129) (q := 6) (L := []) (by kernel_rfl) tiny_nil _ (cls_nil _)).mono ?_); rintro e wx11 ⟨rfl, hb⟩; have X11 := mkHid (X10.out.next hb); clear hb)
      | (go_at_call 17; (with_reducible refine (check_is (n := -1) (q := 6) (L := []) (by kernel_rfl) tiny_nil _ (cls_nil _)).mono ?_); rintro e wx12 ⟨rfl, hb⟩; have X12 := mkHid (X11.out.next hb); have CU := mkHid (cls1 (wx12.alloc (.cells #[.int .i64 0] 3)) (wx12.heap.size + 1) (by simp) [0] (.slice (some ⟨wx12.heap.size, 0, none⟩) 1 1) (ints_new wx12 [0] 3 wx12.heap.size 1 rfl rfl)); have X12b := mkHid ((X12.out.next (bal (Below.refl _ _) (.cells #[.int .i64 0] 3))).next (bal (Below.refl _ _) (.cells #[.slice (some ⟨wx12.heap.size, 0, none⟩) 1 1] 38))); clear hb)
      | (go_at_call 17; (with_reducible refine (check_is (n := 1) (q := 1) (L := [[0]]) (by kernel_rfl) (tiny_one [0] (by decide)) _ CU.out).mono ?_); rintro e wx13 ⟨rfl, hb⟩; have X13 := mkHid (X12b.out.next hb); clear hb)
      | (go_at_call 16; (with_reducible refine (CW.out _).mono ?_); rintro e wx14 ⟨rfl, hb⟩; have X14 := mkHid (X13.out.next hb); clear hb))
  go_ret
  exact ⟨rfl, X14.out.n.b⟩
end Go.Proofs.Ytalpbpcanebbbaa
