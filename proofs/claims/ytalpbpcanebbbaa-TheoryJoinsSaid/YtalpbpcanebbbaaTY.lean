/- Contract of works; Light. -/
import Derived.Test.YtalpbpcanebbbaaTX
namespace Go.Proofs.Ytalpbpcanebbbaa
open Go.RowKit VM LM TM

theorem normal_smp (u : Value) (W : World) (h : Cls W u smp) : Calls Try.prog 20 #[.agg #[.int .i64 3, u]] W fun e w' => ∃ u2, e = .returned (.tuple #[.agg #[.int .i64 3, u2], .int .i64 0]) ∧ Hid (OwnC w' W.heap.size u2 [[3], [-1, 2]] ∧ Below W.heap.size W w') := by
  have := normal_any 3 u smp W (smp_th h)
  rw [smp_ck, smp_nm] at this
  rw [if_pos rfl, if_pos rfl] at this
  exact this
theorem given_smp (u tv : Value) (W : World) (h : Cls W u smp) (ht : Ints W tv [1]) : Calls Try.prog 26 #[.agg #[.int .i64 3, u], tv] W fun e w' => ∃ u2, e = .returned (.tuple #[.agg #[.int .i64 3, u2], .int .i64 0]) ∧ Hid (OwnC w' W.heap.size u2 [[2, 2], [3], [2]] ∧ Below W.heap.size W w') := by
  have := given_calls 3 u tv smp [1] W (smp_th h) ht (by decide) (by unfold In64; decide)
  rw [smp_ge, smp_gv] at this
  rw [if_pos rfl, if_pos rfl] at this
  exact this
theorem eval4_smp (u : Value) (W : World) (h : Cls W u smp) : Calls Try.prog 24 #[.agg #[.int .i64 3, u], .agg #[.int .u64 4, .int .u64 0]] W fun e w' => e = .returned (.bool true) ∧ Below W.heap.size W w' := by
  have := eval_any 3 u smp 4#128 W (smp_th h)
  rw [smp_e4, sv4] at this
  exact this
theorem eval5_smp (u : Value) (W : World) (h : Cls W u smp) : Calls Try.prog 24 #[.agg #[.int .i64 3, u], .agg #[.int .u64 5, .int .u64 0]] W fun e w' => e = .returned (.bool false) ∧ Below W.heap.size W w' := by
  have := eval_any 3 u smp 5#128 W (smp_th h)
  rw [smp_e5, sv5] at this
  exact this
theorem vars_smp (u : Value) (W : World) (h : Cls W u smp) : Calls Try.prog 30 #[.agg #[.int .i64 3, u]] W fun e w' => e = .returned (.agg #[.int .u64 7, .int .u64 0]) ∧ Below W.heap.size W w' := by
  have := Vars_any 3 u smp W (smp_th h)
  rw [smp_vr, sv7] at this
  exact this
theorem same_lit (v u : Value) (L : List (List Int)) (W : World) (h1 : Cls W v L) (h2 : Cls W u L) (hl : L.length ≤ 1000000) (hs : ∀ c ∈ L, c.length ≤ 1000000) : Calls Try.prog 33 #[.agg #[.int .i64 3, v], .int .i64 3, u] W fun e w' => e = .returned (.bool true) ∧ Below W.heap.size W w' := by
  have := same_any 3 3 v u L L W h1 h2 hl hs
  rw [decide_eq_true ⟨rfl, rfl⟩] at this
  exact this
theorem cls2 (W : World) (c d : List Int) (x y : Value) (hx : Ints W x c) (hy : Ints W y d) : Cls (W.alloc (.cells #[x, y] 38)) (.slice (some ⟨W.heap.size, 0, none⟩) 2 2) [c, d] :=
  cls_new W [x, y] [c, d] _ (.cons hx (.cons hy (.nil _))) _ _ rfl rfl
theorem cls3 (W : World) (c d f : List Int) (x y z : Value) (hx : Ints W x c) (hy : Ints W y d) (hz : Ints W z f) : Cls (W.alloc (.cells #[x, y, z] 38)) (.slice (some ⟨W.heap.size, 0, none⟩) 3 3) [c, d, f] :=
  cls_new W [x, y, z] [c, d, f] _ (.cons hx (.cons hy (.cons hz (.nil _)))) _ _ rfl rfl
set_option maxRecDepth 100000 in
set_option maxHeartbeats 2500000 in
theorem works_any (w : World) : Calls Try.prog 16 #[] w fun e w' => e = .returned (.bool true) ∧ Below w.heap.size w w' := by
  have CS := mkHid (fun W => sample_any W)
  have E : ∀ w, (Op.equalIn 10000 36 (.agg #[.int .u64 7, .int .u64 0]) (.agg #[.int .u64 7, .int .u64 0])).run Try.prog w = .ok true w := fun w => by
    have := eq_sets 7#128 7#128 w
    rw [sv7] at this
    simpa using this
  go_enter Try.func16, Try.ntmps16
  go_wp2_with (first
    | (go_at_call 35; refine (CS.out _).mono ?_; rintro e w1 ⟨u1, rfl, h1⟩; obtain ⟨a1, c1, rfl⟩ := h1.out.1.form; have B1 := mkHid (bal h1.out.2 (.cells #[.int .i64 3, .slice a1 smp.length c1] 24)); have T1 := mkHid (TB.new w1 w1.heap.size 3 (.slice a1 smp.length c1) rfl); have K1 := mkHid (h1.out.1.next (bal (Below.refl _ _) (.cells #[.int .i64 3, .slice a1 smp.length c1] 24))); obtain ⟨p0, p1⟩ := T1.out.at; have CN := mkHid (normal_smp _ _ K1.out); clear h1)
    | (go_at_call 20; (with_reducible refine CN.out.mono ?_); rintro e w2 ⟨u2, rfl, h2⟩; obtain ⟨a2, c2, rfl⟩ := h2.out.1.form;
        have b2 : Below w2.heap.size w2 (w2.alloc (.cells #[.int .i64 3, .slice a2 2 c2] 24)) := bal (Below.refl _ _) _;
        have B2 := mkHid (bal (bnx B1.out h2.out.2) (.cells #[.int .i64 3, .slice a2 2 c2] 24)); have T12 := mkHid ((T1.out.grows h2.out.2).grows b2); have K12 := mkHid ((K1.out.next h2.out.2).next b2); have T2 := mkHid (TB.new w2 w2.heap.size 3 (.slice a2 2 c2) rfl); have K2 := mkHid (h2.out.1.cls.next b2); obtain ⟨q0, q1⟩ := T12.out.at;
        have b3 : Below (w2.alloc (.cells #[.int .i64 3, .slice a2 2 c2] 24)).heap.size (w2.alloc (.cells #[.int .i64 3, .slice a2 2 c2] 24)) ((w2.alloc (.cells #[.int .i64 3, .slice a2 2 c2] 24)).alloc (.cells #[.int .i64 1] 3)) := bal (Below.refl _ _) _;
        have CG := mkHid (given_smp (.slice a1 smp.length c1) (.slice (some ⟨w2.heap.size + 1, 0, none⟩) 1 1) _ (K12.out.next b3) (ints_new (w2.alloc (.cells #[.int .i64 3, .slice a2 2 c2] 24)) [1] 3 (w2.heap.size + 1) 1 (by simp) rfl)); have B3 := mkHid (bnx B2.out b3); have T13 := mkHid (T12.out.grows b3); have K13 := mkHid (K12.out.next b3); have T23 := mkHid (T2.out.grows b3); have K23 := mkHid (K2.out.next b3); clear h2 b2 b3 p0 p1)
    | (go_at_call 26; (with_reducible refine CG.out.mono ?_); rintro e w3 ⟨u3, rfl, h3⟩; obtain ⟨a3, c3, rfl⟩ := h3.out.1.form;
        have b4 : Below w3.heap.size w3 (w3.alloc (.cells #[.int .i64 3, .slice a3 3 c3] 24)) := bal (Below.refl _ _) _;
        have B4 := mkHid (bnx (bnx B3.out h3.out.2) b4); have T14 := mkHid ((T13.out.grows h3.out.2).grows b4); have K14 := mkHid ((K13.out.next h3.out.2).next b4); have T24 := mkHid ((T23.out.grows h3.out.2).grows b4); have K24 := mkHid ((K23.out.next h3.out.2).next b4); have T4 := mkHid (TB.new w3 w3.heap.size 3 (.slice a3 3 c3) rfl); have K4 := mkHid (h3.out.1.cls.next b4); obtain ⟨r0, r1⟩ := T24.out.at;
        have b5 : Below (w3.alloc (.cells #[.int .i64 3, .slice a3 3 c3] 24)).heap.size (w3.alloc (.cells #[.int .i64 3, .slice a3 3 c3] 24)) ((((w3.alloc (.cells #[.int .i64 3, .slice a3 3 c3] 24)).alloc (.cells #[.int .i64 3] 3)).alloc (.cells #[.int .i64 (-1), .int .i64 2] 3)).alloc (.cells #[.slice (some ⟨w3.heap.size + 1, 0, none⟩) 1 1, .slice (some ⟨w3.heap.size + 1 + 1, 0, none⟩) 2 2] 38)) := bal (bal (bal (Below.refl _ _) _) _) _;
        have i1 : Ints (((w3.alloc (.cells #[.int .i64 3, .slice a3 3 c3] 24)).alloc (.cells #[.int .i64 3] 3)).alloc (.cells #[.int .i64 (-1), .int .i64 2] 3)) (.slice (some ⟨w3.heap.size + 1, 0, none⟩) 1 1) [3] := (ints_new (w3.alloc (.cells #[.int .i64 3, .slice a3 3 c3] 24)) [3] 3 _ 1 (by simp) rfl).next (bal (Below.refl _ _) _);
        have i2 : Ints (((w3.alloc (.cells #[.int .i64 3, .slice a3 3 c3] 24)).alloc (.cells #[.int .i64 3] 3)).alloc (.cells #[.int .i64 (-1), .int .i64 2] 3)) (.slice (some ⟨w3.heap.size + 1 + 1, 0, none⟩) 2 2) [-1, 2] := ints_new ((w3.alloc (.cells #[.int .i64 3, .slice a3 3 c3] 24)).alloc (.cells #[.int .i64 3] 3)) [-1, 2] 3 _ 2 (by simp) rfl;
        have i3 : Cls ((((w3.alloc (.cells #[.int .i64 3, .slice a3 3 c3] 24)).alloc (.cells #[.int .i64 3] 3)).alloc (.cells #[.int .i64 (-1), .int .i64 2] 3)).alloc (.cells #[.slice (some ⟨w3.heap.size + 1, 0, none⟩) 1 1, .slice (some ⟨w3.heap.size + 1 + 1, 0, none⟩) 2 2] 38)) (.slice (some ⟨w3.heap.size + 1 + 1 + 1, 0, none⟩) 2 2) [[3], [-1, 2]] := cls_new (((w3.alloc (.cells #[.int .i64 3, .slice a3 3 c3] 24)).alloc (.cells #[.int .i64 3] 3)).alloc (.cells #[.int .i64 (-1), .int .i64 2] 3)) [_, _] _ 38 (.cons i1 (.cons i2 (.nil _))) _ _ (by simp) rfl;
        have C5 := mkHid (same_lit (.slice a2 2 c2) _ _ _ (K24.out.next b5) i3 (by decide) (by decide)); have B5 := mkHid (bnx B4.out b5); have T15 := mkHid (T14.out.grows b5); have K15 := mkHid (K14.out.next b5); have T45 := mkHid (T4.out.grows b5); have K45 := mkHid (K4.out.next b5); clear h3 b4 b5 i1 i2 i3 q0 q1)
    | (go_at_call 33; (with_reducible refine C5.out.mono ?_); rintro e w4 ⟨rfl, hb⟩; have B6 := mkHid (bnx B5.out hb); have T16 := mkHid (T15.out.grows hb); have K16 := mkHid (K15.out.next hb); have T46 := mkHid (T45.out.grows hb); have K46 := mkHid (K45.out.next hb); obtain ⟨s0, s1⟩ := T46.out.at;
        have b7 : Below w4.heap.size w4 ((((w4.alloc (.cells #[.int .i64 2, .int .i64 2] 3)).alloc (.cells #[.int .i64 3] 3)).alloc (.cells #[.int .i64 2] 3)).alloc (.cells #[.slice (some ⟨w4.heap.size, 0, none⟩) 2 2, .slice (some ⟨w4.heap.size + 1, 0, none⟩) 1 1, .slice (some ⟨w4.heap.size + 1 + 1, 0, none⟩) 1 1] 38)) := bal (bal (bal (bal (Below.refl _ _) _) _) _) _;
        have i1 : Ints (((w4.alloc (.cells #[.int .i64 2, .int .i64 2] 3)).alloc (.cells #[.int .i64 3] 3)).alloc (.cells #[.int .i64 2] 3)) (.slice (some ⟨w4.heap.size, 0, none⟩) 2 2) [2, 2] := ((ints_new w4 [2, 2] 3 _ 2 rfl rfl).next (bal (Below.refl _ _) _)).next (bal (Below.refl _ _) _);
        have i2 : Ints (((w4.alloc (.cells #[.int .i64 2, .int .i64 2] 3)).alloc (.cells #[.int .i64 3] 3)).alloc (.cells #[.int .i64 2] 3)) (.slice (some ⟨w4.heap.size + 1, 0, none⟩) 1 1) [3] := (ints_new (w4.alloc (.cells #[.int .i64 2, .int .i64 2] 3)) [3] 3 _ 1 (by simp) rfl).next (bal (Below.refl _ _) _);
        have i3 : Ints (((w4.alloc (.cells #[.int .i64 2, .int .i64 2] 3)).alloc (.cells #[.int .i64 3] 3)).alloc (.cells #[.int .i64 2] 3)) (.slice (some ⟨w4.heap.size + 1 + 1, 0, none⟩) 1 1) [2] := ints_new ((w4.alloc (.cells #[.int .i64 2, .int .i64 2] 3)).alloc (.cells #[.int .i64 3] 3)) [2] 3 _ 1 (by simp) rfl;
        have i4 : Cls ((((w4.alloc (.cells #[.int .i64 2, .int .i64 2] 3)).alloc (.cells #[.int .i64 3] 3)).alloc (.cells #[.int .i64 2] 3)).alloc (.cells #[.slice (some ⟨w4.heap.size, 0, none⟩) 2 2, .slice (some ⟨w4.heap.size + 1, 0, none⟩) 1 1, .slice (some ⟨w4.heap.size + 1 + 1, 0, none⟩) 1 1] 38)) (.slice (some ⟨w4.heap.size + 1 + 1 + 1, 0, none⟩) 3 3) [[2, 2], [3], [2]] := cls_new (((w4.alloc (.cells #[.int .i64 2, .int .i64 2] 3)).alloc (.cells #[.int .i64 3] 3)).alloc (.cells #[.int .i64 2] 3)) [_, _, _] _ 38 (.cons i1 (.cons i2 (.cons i3 (.nil _)))) _ _ (by simp) rfl;
        have C7 := mkHid (same_lit (.slice a3 3 c3) _ _ _ (K46.out.next b7) i4 (by decide) (by decide)); have B7 := mkHid (bnx B6.out b7); have T17 := mkHid (T16.out.grows b7); have K17 := mkHid (K16.out.next b7); clear hb b7 i1 i2 i3 i4 r0 r1)
    | (go_at_call 33; (with_reducible refine C7.out.mono ?_); rintro e w5 ⟨rfl, hb⟩; have B8 := mkHid (bnx B7.out hb); have T18 := mkHid (T17.out.grows hb); have K18 := mkHid (K17.out.next hb); obtain ⟨x0, x1⟩ := T18.out.at; have C8 := mkHid (eval4_smp _ _ K18.out); clear hb s0 s1)
    | (go_at_call 24; (with_reducible refine C8.out.mono ?_); rintro e w6 ⟨rfl, hb⟩; have B9 := mkHid (bnx B8.out hb); have T19 := mkHid (T18.out.grows hb); have K19 := mkHid (K18.out.next hb); obtain ⟨y0, y1⟩ := T19.out.at; have C9 := mkHid (eval5_smp _ _ K19.out); clear hb x0 x1)
    | (go_at_call 24; (with_reducible refine C9.out.mono ?_); rintro e w7 ⟨rfl, hb⟩; have B10 := mkHid (bnx B9.out hb); have T20 := mkHid (T19.out.grows hb); have K20 := mkHid (K19.out.next hb); obtain ⟨z0, z1⟩ := T20.out.at; have C10 := mkHid (vars_smp _ _ K20.out); clear hb y0 y1)
    | (go_at_call 30; (with_reducible refine C10.out.mono ?_); rintro e w8 ⟨rfl, hb⟩; have B11 := mkHid (bnx B10.out hb); clear hb))
  go_ret
  exact ⟨rfl, B11.out⟩
end Go.Proofs.Ytalpbpcanebbbaa
