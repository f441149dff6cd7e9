/- The law TheoryTwice. -/
import Derived.Test.YtalpbpcanebbbaaUF
namespace Go.Proofs.Ytalpbpcanebbbaa
open Go.RowKit VM LM TM

/-- The boxes of a law with a theory and two sets. -/
structure PS (w W : World) (n : Int) (v : Value) (pl ph sl sh : Int) : Prop where
  t : TB W w.heap.size n v
  p : AtS W (w.heap.size + 1) pl ph
  s : AtS W (w.heap.size + 1 + 1) sl sh
  b : Below w.heap.size w W
theorem PS.next {w W W' : World} {n : Int} {v : Value} {pl ph sl sh : Int} (H : PS w W n v pl ph sl sh) (hb : Below W.heap.size W W') : PS w W' n v pl ph sl sh :=
  ⟨H.t.grows hb, H.p.grows hb, H.s.grows hb, bnx H.b hb⟩
theorem PS.set {w W : World} {n : Int} {v : Value} {pl ph sl sh : Int} (H : PS w W n v pl ph sl sh) (n' : Int) (v' : Value) : PS w ((W.setCell ⟨w.heap.size, 0, none⟩ (.int .i64 n')).setCell ⟨w.heap.size, 1, none⟩ v') n' v' pl ph sl sh :=
  ⟨H.t.set n' v', H.p.setOff (by omega) _ _, H.s.setOff (by omega) _ _, bst2 H.b _ (Nat.le_refl _) _ _⟩
theorem gv_light {n : Nat} {K : List (List Int)} {l : List Int} (h : ckT n K = 0) : (gvL l K).length ≤ 1000000 ∧ ∀ c ∈ gvL l K, c.length ≤ 1000000 := by
  obtain ⟨h1, h2, h3⟩ := ckT_zero.1 (ckT_gvL l h)
  exact ⟨by omega, fun c hc => by have := (h3 c hc).1; omega⟩
set_option maxRecDepth 100000 in
set_option maxHeartbeats 8000000 in
theorem twice_law (n0 : Int) (v : Value) (L : List (List Int)) (q : Int) (pk sg : BitVec 128) (w : World) (_ : In64 n0) (h : Th w v L) (hq : 0 ≤ q ∧ q ≤ 255) :
    Calls Try.prog 12 #[.agg #[.int .i64 n0, v], .int .u8 q, sv pk, sv sg] w fun e w' => e = .returned (.bool true) ∧ Below w.heap.size w w' := by
  obtain ⟨n, hn⟩ : ∃ n : Nat, q % 21 = (n : Int) := ⟨(q % 21).toNat, by omega⟩
  have hn20 : n ≤ 20 := by omega
  have eq : IntKind.u8.wrap (q.tmod 21) = (n : Int) := by rw [Int.tmod_eq_emod_of_nonneg hq.1, hn, IntKind.wrap_u8]; omega
  have CL := mkHid (fun W (hb : Below w.heap.size w W) => light_any n0 v L W (h.next hb))
  have CW := mkHid (fun W => works_any W)
  unfold sv
  generalize wd (lo pk) = pl at *
  generalize wd (hi pk) = ph at *
  generalize wd (lo sg) = sl at *
  generalize wd (hi sg) = sh at *
  have H0 : Hid (PS w (((w.alloc (.cells #[.int .i64 n0, v] 24)).alloc (.cells #[.int .u64 pl, .int .u64 ph] 36)).alloc (.cells #[.int .u64 sl, .int .u64 sh] 36)) n0 v pl ph sl sh) := mkHid
    ⟨((TB.new w w.heap.size n0 v rfl).grows (bal (Below.refl _ _) _)).grows (bal (Below.refl _ _) _), (AtS.new _ _ _ _ _ (by simp)).alloc _, AtS.new _ _ _ _ _ (by simp), bal (bal (bal (Below.refl _ w) _) _) _⟩
  obtain ⟨a0, a1⟩ := H0.out.t.at
  obtain ⟨ao, cap, rfl⟩ := h.cls.form
  cases hl : lightB L
  · simp only [hl] at CL
    clear h
    go_enter Try.func12, Try.ntmps12
    go_wp2_with (first
      | (go_at_call 15; refine (CL.out _ H0.out.b).mono ?_; rintro e w1 ⟨rfl, hb⟩; have H1 := mkHid (H0.out.next hb); clear hb)
      | (go_at_call 16; refine (CW.out _).mono ?_; rintro e w2 ⟨rfl, hb⟩; have H2 := mkHid (H1.out.next hb); clear hb))
    go_ret
    exact ⟨rfl, H2.out.b⟩
  · simp only [hl] at CL
    have LB := mkHid (light_spec hl)
    have CF := mkHid (fun W (hb : Below w.heap.size w W) => few_any n0 n (by omega) _ L W (h.next hb) LB.out.1 LB.out.2)
    clear h hl
    go_enter Try.func12, Try.ntmps12
    go_wp2_with (first
      | (go_at_call 15; refine (CL.out _ H0.out.b).mono ?_; rintro e w1 ⟨rfl, hb⟩; have H1 := mkHid (H0.out.next hb); obtain ⟨b0, b1⟩ := H1.out.t.at; clear hb)
      | (go_at_call 32; (with_reducible refine (CF.out _ H1.out.b).mono ?_); rintro e w2 ⟨u2, rfl, h2⟩; obtain ⟨K, h2c, h2l, h2f, h2b⟩ := h2.out; obtain ⟨a2, c2, rfl⟩ := h2c.form;
          have H2 := mkHid (H1.out.next h2b); obtain ⟨d0, d1⟩ := H2.out.t.at; obtain ⟨df0, df1⟩ := H2.out.t.free; obtain ⟨x0, x1⟩ := (H2.out.t.set0 (n : Int)).at; obtain ⟨xf0, xf1⟩ := (H2.out.t.set0 (n : Int)).free; have S2 := mkHid (H2.out.set (n : Int) (.slice a2 K.length c2)); have K2 := mkHid ((h2c.setB H2.out.t (v' := .slice a2 K.length c2) (n : Int)).cls); have HK : Hid (ckT (n : Int) K = 0) := mkHid (h2f.ck (by omega) (by have := LB.out.1; omega));
          obtain ⟨e0, e1⟩ := S2.out.t.at; clear h2 h2c h2l h2f h2b b0 b1))
    generalize (w2.setCell ⟨w.heap.size, 0, none⟩ (.int .i64 (n : Int))).setCell ⟨w.heap.size, 1, none⟩ (.slice a2 K.length c2) = W0 at *
    clear a0 a1 d0 d1 df0 df1 x0 x1 xf0 xf1 H2 H1 H0 CL CF
    go_loopw [9, 10, 11, 12] (fun v1 v2 v3 iv wr => ∃ (i : Nat) (l1 l2 l3 : List Int), i ≤ n ∧ iv = .int .i64 (i : Int) ∧ Hid (Tw n i l1 l2 l3 ∧ Own wr W0.heap.size v1 l1 ∧ Own wr W0.heap.size v2 l2 ∧ Own wr W0.heap.size v3 l3 ∧ Sep v1 v2 ∧ Sep v1 v3 ∧ Sep v2 v3 ∧ Below W0.heap.size W0 wr)) (fun _ _ _ iv _ => (intOf iv).toNat)
    case atStart => exact ⟨n, [], [], [], Nat.le_refl _, rfl, mkHid ⟨.nil, Own.nil _ _, Own.nil _ _, Own.nil _ _, .nil _, .nil _, .nil _, Below.refl _ _⟩⟩
    case round =>
      obtain ⟨i, l1, l2, l3, hi, rfl, H⟩ := hrel
      obtain ⟨g1, g2, g3, g4, g5, g6, g7, g8⟩ := H.out
      have HTw := mkHid g1
      have HO1 := mkHid g2
      have HO2 := mkHid g3
      have HO3 := mkHid g4
      have HS := mkHid (And.intro g5 (And.intro g6 g7))
      have HB := mkHid g8
      have HP := mkHid (S2.out.next g8)
      clear H g1 g5 g6 g7 g8 e0 e1
      obtain ⟨a3, c3, rfl⟩ := g2.ints.form
      obtain ⟨a4, c4, rfl⟩ := g3.ints.form
      obtain ⟨a5, c5, rfl⟩ := g4.ints.form
      clear g2 g3 g4
      by_cases hlt : 1 ≤ i
      · have hi1 : (1 : Int) ≤ (i : Int) := by omega
        obtain ⟨p0, p1, -, -⟩ := HP.out.p
        obtain ⟨s0, s1, -, -⟩ := HP.out.s
        have ei : Hid (((i - 1 : Nat) : Int) = (i : Int) - 1) := mkHid (by omega)
        have hl1 := mkHid HTw.out.a.len
        have hl2 := mkHid HTw.out.b.len
        have hl3 := mkHid HTw.out.c.len
        cases hsg : (bits BinOp.and IntKind.u64 (sl / 2 ^ i) 1 == 1)
        all_goals
          cases hp0 : (bits BinOp.and IntKind.u64 (pl / 2 ^ i) 1 == 1)
          · cases hp1 : (bits BinOp.and IntKind.u64 (ph / 2 ^ i) 1 == 1)
            · go_wp2
              go_roundw
              case rel => exact ⟨i - 1, l1, l2, l3, by omega, by go_num, mkHid ⟨by rw [ei.out]; exact HTw.out.less, HO1.out, HO2.out, HO3.out, HS.out.1, HS.out.2.1, HS.out.2.2, HB.out⟩⟩
              case measure => simp [intOf]; omega
            · go_wp2_with (first
                | (at_builtin; refine wpList_appS2 rfl (.tmp 66) (.tmp 69) rfl rfl rfl HO2.out (by have := hl2.out; omega) HB.out HB.out.size ?_; intro v7 w7 H7; have X1 := mkHid (H7.out.2.2 _ _ HO1.out HS.out.1.symm); have X3 := mkHid (H7.out.2.2 _ _ HO3.out HS.out.2.2); have P7 := mkHid (S2.out.next H7.out.2.1))
                | (at_builtin; refine wpList_appS1 rfl (.tmp 71) (.tmp 73) rfl rfl rfl X3.out.1 (by have := hl3.out; omega) H7.out.2.1 H7.out.2.1.size ?_; intro v8 w8 H8; have Y1 := mkHid (H8.out.2.2 _ _ X1.out.1 HS.out.2.1.symm); have Y2 := mkHid (H8.out.2.2 _ _ H7.out.1 X3.out.2.symm)))
              go_roundw
              case rel => exact ⟨i - 1, _, _, _, by omega, by go_num, mkHid ⟨by rw [ei.out]; exact HTw.out.two (by omega) (by simp), Y1.out.1, Y2.out.1, H8.out.1, X1.out.2.symm, Y1.out.2.symm, Y2.out.2.symm, H8.out.2.1⟩⟩
              case measure => simp [intOf]; omega
          · go_wp2_with (first
              | (at_builtin; refine wpList_appS1 rfl (.tmp 51) (.tmp 53) rfl rfl rfl HO1.out (by have := hl1.out; omega) HB.out HB.out.size ?_; intro v7 w7 H7; have X2 := mkHid (H7.out.2.2 _ _ HO2.out HS.out.1); have X3 := mkHid (H7.out.2.2 _ _ HO3.out HS.out.2.1); have P7 := mkHid (S2.out.next H7.out.2.1))
              | (at_builtin; refine wpList_appS1 rfl (.tmp 55) (.tmp 57) rfl rfl rfl X3.out.1 (by have := hl3.out; omega) H7.out.2.1 H7.out.2.1.size ?_; intro v8 w8 H8; have Y1 := mkHid (H8.out.2.2 _ _ H7.out.1 X3.out.2.symm); have Y2 := mkHid (H8.out.2.2 _ _ X2.out.1 HS.out.2.2.symm)))
            go_roundw
            case rel => exact ⟨i - 1, _, _, _, by omega, by go_num, mkHid ⟨by rw [ei.out]; exact HTw.out.one (by omega) (by simp), Y1.out.1, Y2.out.1, H8.out.1, X2.out.2, Y1.out.2.symm, Y2.out.2.symm, H8.out.2.1⟩⟩
            case measure => simp [intOf]; omega
      · obtain rfl : i = 0 := by omega
        have hi1 : ¬ (1 : Int) ≤ 0 := by omega
        have HG := mkHid (HTw.out.gv K)
        have HLn := mkHid (gv_light (l := l3) HK.out)
        have G1 := mkHid (given_ok (n : Int) (.slice a2 K.length c2) (.slice a3 l1.length c3) K l1 wr (K2.out.next HB.out) HK.out HO1.out.ints (by have := HTw.out.a.len; omega) (HTw.out.a.in64 (by omega) (by omega)) (HTw.out.a.tm (by omega) (by omega)))
        have TM2 := mkHid (And.intro (show l2.length ≤ 1000000 by have := HTw.out.b.len; omega) (And.intro (HTw.out.b.in64 (by omega) (by omega)) (HTw.out.b.tm (by omega) (by omega))))
        have TM3 := mkHid (And.intro (show l3.length ≤ 1000000 by have := HTw.out.c.len; omega) (And.intro (HTw.out.c.in64 (by omega) (by omega)) (HTw.out.c.tm (by omega) (by omega))))
        clear HTw
        obtain ⟨t0, t1⟩ := HP.out.t.at
        go_wp2_with (first
          | (go_at_call 26; (with_reducible refine G1.out.mono ?_); rintro e w7 ⟨u7, rfl, h7⟩; obtain ⟨a7, c7, rfl⟩ := h7.out.1.form;
              have b7 : Below w7.heap.size w7 (w7.alloc (.cells #[.int .i64 (n : Int), .slice a7 (gvL l1 K).length c7] 24)) := bal (Below.refl _ _) _;
              have B7 := mkHid (bnx h7.out.2 b7); have A7 := mkHid (TB.new w7 w7.heap.size (n : Int) (.slice a7 (gvL l1 K).length c7) rfl); have G2 := mkHid (given_ok (n : Int) (.slice a7 (gvL l1 K).length c7) (.slice a4 l2.length c4) (gvL l1 K) l2 _ (h7.out.1.cls.next b7) (ckT_gvL l1 HK.out) (HO2.out.below B7.out).ints TM2.out.1 TM2.out.2.1 TM2.out.2.2); have hz7 := h7.out.2.size; obtain ⟨b0, b1⟩ := A7.out.at; clear h7 b7)
          | (go_at_call 26; (with_reducible refine G2.out.mono ?_); rintro e w8 ⟨u8, rfl, h8⟩; obtain ⟨a8, c8, rfl⟩ := h8.out.1.form;
              have A8 := mkHid (A7.out.grows h8.out.2); obtain ⟨d0, d1⟩ := A8.out.at; obtain ⟨df0, df1⟩ := A8.out.free; obtain ⟨x0, x1⟩ := (A8.out.set0 (n : Int)).at; obtain ⟨xf0, xf1⟩ := (A8.out.set0 (n : Int)).free;
              have A9 := mkHid (A8.out.set (n : Int) (.slice a8 (gvL l2 (gvL l1 K)).length c8)); have C9 := mkHid (h8.out.1.setB A8.out (v' := .slice a8 (gvL l2 (gvL l1 K)).length c8) (n : Int)).cls;
              have B9 := mkHid (bst2 (bnx B7.out h8.out.2) w7.heap.size hz7 (.int .i64 (n : Int)) (.slice a8 (gvL l2 (gvL l1 K)).length c8));
              have P9 := mkHid (HP.out.next B9.out); obtain ⟨k0, k1⟩ := P9.out.t.at; obtain ⟨m0, m1⟩ := A9.out.at;
              have G3 := mkHid (given_ok (n : Int) (.slice a2 K.length c2) (.slice a5 l3.length c5) K l3 _ ((K2.out.next HB.out).next B9.out) HK.out (HO3.out.below B9.out).ints TM3.out.1 TM3.out.2.1 TM3.out.2.2); clear h8)
          | (go_at_call 26; (with_reducible refine G3.out.mono ?_); rintro e w10 ⟨u10, rfl, h10⟩; obtain ⟨a10, c10, rfl⟩ := h10.out.1.form;
              have b10 : Below w10.heap.size w10 (w10.alloc (.cells #[.int .i64 (n : Int), .slice a10 (gvL l3 K).length c10] 24)) := bal (Below.refl _ _) _;
              have A10 := mkHid (TB.new w10 w10.heap.size (n : Int) (.slice a10 (gvL l3 K).length c10) rfl); have A11 := mkHid ((A9.out.grows h10.out.2).grows b10); have P11 := mkHid ((P9.out.next h10.out.2).next b10);
              have CE := mkHid (same_yes (n : Int) (.slice a8 (gvL l2 (gvL l1 K)).length c8) (.slice a10 (gvL l3 K).length c10) (gvL l3 K) _ (by have := (C9.out.next h10.out.2).next b10; rwa [HG.out] at this ⊢) (h10.out.1.cls.next b10) HLn.out.1 HLn.out.2); obtain ⟨j0, j1⟩ := A10.out.at; obtain ⟨q0, q1⟩ := A11.out.at; clear h10 b10)
          | (go_at_call 33; (with_reducible refine CE.out.mono ?_); rintro e w12 ⟨rfl, hb⟩; have P12 := mkHid (P11.out.next hb); clear hb)
          | (go_at_call 16; (with_reducible refine (CW.out _).mono ?_); rintro e w13 ⟨rfl, hb⟩; have P13 := mkHid (P12.out.next hb); clear hb))
        go_ret
        exact ⟨rfl, P13.out.b⟩
end Go.Proofs.Ytalpbpcanebbbaa
