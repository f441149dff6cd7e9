/- The law TheorySame. -/
import Derived.Test.YtalpbpcanebbbaaUA
import Derived.Test.YtalpbpcanebbbaaUB
namespace Go.Proofs.Ytalpbpcanebbbaa
open Go.RowKit VM LM TM

theorem same_yes (n : Int) (v u : Value) (L : List (List Int)) (W : World) (h1 : Cls W v L) (h2 : Cls W u L) (hl : L.length ≤ 1000000) (hs : ∀ c ∈ L, c.length ≤ 1000000) : Calls Try.prog 33 #[.agg #[.int .i64 n, v], .int .i64 n, u] W fun e w' => e = .returned (.bool true) ∧ Below W.heap.size W w' := by
  have := same_any n n v u L L W h1 h2 hl hs
  rw [decide_eq_true ⟨rfl, rfl⟩] at this
  exact this
theorem Few.th {n : Int} {K : List (List Int)} {w : World} {v : Value} (h : Few n K) (hn : 0 ≤ n ∧ n ≤ 128) (hl : K.length ≤ 4096) (hc : Cls w v K) : Th w v K :=
  ⟨hc, by omega, fun c hm => by have := (h c hm).1; omega, fun c hm x hx => by
    have := (validL_iff (by omega)).1 (of_valid (h c hm).2 x hx)
    unfold In64; omega⟩
theorem ck_th {n : Int} {K : List (List Int)} {w : World} {v : Value} (h : ckT n K = 0) (hc : Cls w v K) : Th w v K := by
  obtain ⟨h1, h2, h3⟩ := ckT_zero.1 h
  exact ⟨hc, by omega, fun c hm => by have := (h3 c hm).1; omega, fun c hm x hx => by
    have := (validL_iff (by omega)).1 (of_valid (h3 c hm).2 x hx)
    unfold In64; omega⟩
theorem normal_ck (n : Int) (v : Value) (L : List (List Int)) (w : World) (h : Cls w v L) (hk : ckT n L = 0) :
    Calls Try.prog 20 #[.agg #[.int .i64 n, v]] w fun e w' => ∃ u, e = .returned (.tuple #[.agg #[.int .i64 n, u], .int .i64 0]) ∧ Hid (OwnC w' w.heap.size u (nmK L) ∧ Below w.heap.size w w') := by
  have := normal_any n v L w (ck_th hk h)
  rw [hk, if_pos rfl, if_pos rfl] at this
  exact this
theorem nm_short (K : List (List Int)) : ∀ c ∈ nmK K, c.length ≤ 1000000 := by
  intro c hc
  obtain ⟨d, hd, _, e⟩ := (mem_nmK K c).1 hc
  rw [e]
  have := order_length d
  omega
theorem shl_small {n : Nat} (hn : n ≤ 20) : IntKind.i64.wrap (2 ^ n) = ((2 ^ n : Nat) : Int) := by
  have h := pow20 hn
  have e0 : ((2 : Int) ^ n) = ((2 ^ n : Nat) : Int) := by simp
  rw [e0]
  exact IntWalk.i64_in _ (by omega)
theorem TB.set0 {w : World} {b : Nat} {n : Int} {v : Value} (h : TB w b n v) (n' : Int) : TB (w.setCell ⟨b, 0, none⟩ (.int .i64 n')) b n' v := by
  unfold TB at h ⊢
  simp [World.setCell, Array.getElem?_modify, h]
theorem OwnC.setB {w : World} {base b : Nat} {m : Int} {v u v' : Value} {L : List (List Int)} (h : OwnC w base v L) (k : TB w b m u) (n' : Int) : OwnC ((w.setCell ⟨b, 0, none⟩ (.int .i64 n')).setCell ⟨b, 1, none⟩ v') base v L :=
  (h.setT k).setT (k.set0 n')
/-- Two theories in boxes. -/
structure SI (w W : World) (n : Int) (b1 b2 : Nat) (v1 v2 : Value) (K M : List (List Int)) : Prop where
  t : TB W b1 n v1
  u : TB W b2 n v2
  k : Cls W v1 K
  m : Cls W v2 M
  b : Below w.heap.size w W
theorem SI.next {w W W' : World} {n : Int} {b1 b2 : Nat} {v1 v2 : Value} {K M : List (List Int)} (H : SI w W n b1 b2 v1 v2 K M) (hb : Below W.heap.size W W') : SI w W' n b1 b2 v1 v2 K M :=
  ⟨H.t.grows hb, H.u.grows hb, H.k.next hb, H.m.next hb, bnx H.b hb⟩
theorem SI.drew {w W : World} {n : Int} {b1 b2 : Nat} {v1 v2 : Value} {K M : List (List Int)} (H : SI w W n b1 b2 v1 v2 K M) : SI w W.drew n b1 b2 v1 v2 K M :=
  H.next (Below.refl _ _).drew
set_option maxRecDepth 100000 in
set_option maxHeartbeats 8000000 in
theorem same_law (n0 : Int) (v : Value) (L : List (List Int)) (q : Int) (w : World) (_ : In64 n0) (h : Th w v L) (hq : 0 ≤ q ∧ q ≤ 255) :
    Calls Try.prog 9 #[.agg #[.int .i64 n0, v], .int .u8 q] w fun e w' => e = .returned (.bool true) ∧ Below w.heap.size w w' := by
  obtain ⟨n, hn⟩ : ∃ n : Nat, q % 9 = (n : Int) := ⟨(q % 9).toNat, by omega⟩
  have hn8 : n ≤ 8 := by omega
  obtain ⟨N, hN⟩ : ∃ N : Nat, 2 ^ n = N := ⟨_, rfl⟩
  have hN2 : N ≤ 1048576 := by rw [← hN]; exact (pow20 (by omega)).1
  have hsh : IntKind.i64.wrap (2 ^ n) = (N : Int) := by rw [← hN]; exact shl_small (by omega)
  have eq : IntKind.u8.wrap (q.tmod 9) = (n : Int) := by rw [Int.tmod_eq_emod_of_nonneg hq.1, hn, IntKind.wrap_u8]; omega
  have CL := mkHid (fun W (hb : Below w.heap.size w W) => light_any n0 v L W (h.next hb))
  have CW := mkHid (fun W => works_any W)
  have H0 : Hid (BT w (w.alloc (.cells #[.int .i64 n0, v] 24)) n0 v) := mkHid ⟨TB.new w _ n0 v rfl, bal (Below.refl _ w) _⟩
  obtain ⟨a0, a1⟩ := H0.out.t.at
  obtain ⟨ao, cap, rfl⟩ := h.cls.form
  cases hl : lightB L
  · simp only [hl] at CL
    clear h
    go_enter Try.func9, Try.ntmps9
    go_wp2_with (first
      | (go_at_call 15; refine (CL.out _ H0.out.b).mono ?_; rintro e w1 ⟨rfl, hb⟩; have H1 := mkHid (H0.out.next hb); clear hb)
      | (go_at_call 16; refine (CW.out _).mono ?_; rintro e w2 ⟨rfl, hb⟩; have H2 := mkHid (H1.out.next hb); clear hb))
    go_ret
    exact ⟨rfl, H2.out.b⟩
  · simp only [hl] at CL
    have LB := mkHid (light_spec hl)
    have CF := mkHid (fun W (hb : Below w.heap.size w W) => few_any n0 n (by omega) _ L W (h.next hb) LB.out.1 LB.out.2)
    clear h hl hN
    go_enter Try.func9, Try.ntmps9
    go_wp2_with (first
      | (go_at_call 15; refine (CL.out _ H0.out.b).mono ?_; rintro e w1 ⟨rfl, hb⟩; have H1 := mkHid (H0.out.next hb); obtain ⟨b0, b1⟩ := H1.out.t.at; clear hb)
      | (go_at_call 32; (with_reducible refine (CF.out _ H1.out.b).mono ?_); rintro e w2 ⟨u2, rfl, h2⟩; obtain ⟨K, h2c, h2l, h2f, h2b⟩ := h2.out; obtain ⟨a2, c2, rfl⟩ := h2c.form;
          have H2 := mkHid (H1.out.next h2b); obtain ⟨d0, d1⟩ := H2.out.t.at; obtain ⟨df0, df1⟩ := H2.out.t.free; obtain ⟨x0, x1⟩ := (H2.out.t.set0 (n : Int)).at; obtain ⟨xf0, xf1⟩ := (H2.out.t.set0 (n : Int)).free; have T2 := mkHid (H2.out.t.set (n : Int) (.slice a2 K.length c2)); have K2 := mkHid ((h2c.setB H2.out.t (v' := .slice a2 K.length c2) (n : Int)).cls); have B2 := mkHid (bst2 H2.out.b w.heap.size (Nat.le_refl _) (.int .i64 (n : Int)) (.slice a2 K.length c2)); have HK : Hid (ckT (n : Int) K = 0) := mkHid (h2f.ck (by omega) (by have := LB.out.1; omega));
          have HNL : Hid ((nmK K).length ≤ K.length ∧ K.length ≤ 60) := mkHid ⟨nmK_length K, by have := LB.out.1; omega⟩; have hnl : ¬ (K.length : Int) < ((nmK K).length : Int) := (by have := HNL.out; omega); have hnm : ¬ K.length < (nmK K).length := (by have := HNL.out; omega); have hnd : decide (K.length < (nmK K).length) = false := decide_eq_false hnm; have HNS : Hid (∀ c ∈ nmK K, c.length ≤ 1000000) := mkHid (nm_short K);
          have CN := mkHid (normal_ck (n : Int) _ K _ K2.out HK.out); obtain ⟨e0, e1⟩ := T2.out.at; clear h2 h2c h2l h2f h2b b0 b1)
      | (go_at_call 20; (with_reducible refine CN.out.mono ?_); rintro e w4 ⟨u4, rfl, h4⟩; obtain ⟨a4, c4, rfl⟩ := h4.out.1.form;
          have b4 : Below w4.heap.size w4 (w4.alloc (.cells #[.int .i64 (n : Int), .slice a4 (nmK K).length c4] 24)) := bal (Below.refl _ _) _;
          have S4 : Hid (SI w (w4.alloc (.cells #[.int .i64 (n : Int), .slice a4 (nmK K).length c4] 24)) (n : Int) w.heap.size w4.heap.size (.slice a2 K.length c2) (.slice a4 (nmK K).length c4) K (nmK K)) := mkHid ⟨(T2.out.grows h4.out.2).grows b4, TB.new _ _ _ _ rfl, (K2.out.next h4.out.2).next b4, h4.out.1.cls.next b4, bnx (bnx B2.out h4.out.2) b4⟩;
          have CM := mkHid (normal_ck (n : Int) _ (nmK K) _ S4.out.m (ckT_nmK HK.out)); obtain ⟨f0, f1⟩ := S4.out.u.at; clear h4 b4)
      | (go_at_call 20; (with_reducible refine CM.out.mono ?_); rintro e w5 ⟨u5, rfl, h5⟩; obtain ⟨a5, c5, rfl⟩ := h5.out.1.form;
          have b5 : Below w5.heap.size w5 (w5.alloc (.cells #[.int .i64 (n : Int), .slice a5 (nmK (nmK K)).length c5] 24)) := bal (Below.refl _ _) _;
          have S5 := mkHid ((S4.out.next h5.out.2).next b5); have T5 := mkHid (TB.new w5 w5.heap.size (n : Int) (.slice a5 (nmK (nmK K)).length c5) rfl);
          have CE := mkHid (same_yes (n : Int) (.slice a5 (nmK (nmK K)).length c5) (.slice a4 (nmK K).length c4) (nmK K) _ (by have := h5.out.1.cls.next b5; rwa [nmK_nmK] at this ⊢) S5.out.m (by have := HNL.out; omega) HNS.out); obtain ⟨g0, g1⟩ := T5.out.at; obtain ⟨i0, i1⟩ := S5.out.u.at; obtain ⟨j0, j1⟩ := S5.out.t.at; clear h5 b5)
      | (go_at_call 33; (with_reducible refine CE.out.mono ?_); rintro e w6 ⟨rfl, h6⟩; have S6 := mkHid (S5.out.next h6); obtain ⟨k0, k1⟩ := S6.out.t.at; obtain ⟨l0, l1⟩ := S6.out.u.at; clear h6))
    clear a0 a1 d0 d1 df0 df1 x0 x1 xf0 xf1 e0 e1 f0 f1 g0 g1 i0 i1 j0 j1 k0 k1 l0 l1 CE CM CN T5 S5 S4 K2 B2 T2 H2 H1 H0 CL CF
    clear hnl hnm hnd
    go_loopw [9] (fun kv wr => ∃ k : Nat, k ≤ N ∧ kv = .int .i64 (k : Int) ∧ Hid (SI w wr (n : Int) w.heap.size w4.heap.size (.slice a2 K.length c2) (.slice a4 (nmK K).length c4) K (nmK K))) (fun kv _ => N - (intOf kv).toNat)
    case atStart => exact ⟨0, Nat.zero_le _, rfl, S6⟩
    case round =>
      obtain ⟨k, hk, rfl, H⟩ := hrel
      clear S6
      obtain ⟨p0, p1⟩ := H.out.t.at
      obtain ⟨r0, r1⟩ := H.out.u.at
      by_cases hlt : k < N
      · have hk1 : (k : Int) < (N : Int) := by omega
        have CA := mkHid (fun W => assignment_any k n (by omega) (by omega) W)
        have CK := mkHid (fun W (hs : SI w W (n : Int) w.heap.size w4.heap.size (.slice a2 K.length c2) (.slice a4 (nmK K).length c4) K (nmK K)) => eval_any (n : Int) (.slice a2 K.length c2) K (asg k n) W (ck_th HK.out hs.k))
        have CM := mkHid (fun W (hs : SI w W (n : Int) w.heap.size w4.heap.size (.slice a2 K.length c2) (.slice a4 (nmK K).length c4) K (nmK K)) => eval_any (n : Int) (.slice a4 (nmK K).length c4) (nmK K) (asg k n) W (ck_th (ckT_nmK HK.out) hs.m))
        have hev := evT_nmK HK.out (asg k n)
        simp only [hev] at CM
        clear hev
        generalize evT (n : Int) K (asg k n) = q1 at *
        unfold sv at *
        generalize wd (lo (asg k n)) = al at *
        generalize wd (hi (asg k n)) = ah at *
        cases q1
        all_goals
          go_wp2_with (go_at_call 34; refine (CA.out _).mono ?_; rintro e w7 ⟨rfl, h7⟩; have S7 := mkHid ((H.out.next h7).next (bal (Below.refl _ _) (.cells #[.int .u64 al, .int .u64 ah] 36))))
          have hs0 := S7.out.drew
          obtain ⟨t0, t1⟩ := S7.out.t.at
          obtain ⟨v0, v1⟩ := S7.out.u.at
          obtain ⟨s0, s1, -, -⟩ := AtS.new w7 w7.heap.size al ah 36 rfl
          clear p0 p1 r0 r1
          go_region_held3 (fun W => SI w W (n : Int) w.heap.size w4.heap.size (.slice a2 K.length c2) (.slice a4 (nmK K).length c4) K (nmK K) ∧ W.cell? ⟨w.heap.size, 0, none⟩ = some (.int .i64 (n : Int)) ∧ W.cell? ⟨w.heap.size, 1, none⟩ = some (.slice a2 K.length c2) ∧ W.cell? ⟨w4.heap.size, 0, none⟩ = some (.int .i64 (n : Int)) ∧ W.cell? ⟨w4.heap.size, 1, none⟩ = some (.slice a4 (nmK K).length c4) ∧ W.cell? ⟨w7.heap.size, 0, none⟩ = some (.int .u64 al) ∧ W.cell? ⟨w7.heap.size, 1, none⟩ = some (.int .u64 ah))
            (first
              | (with_reducible exact ⟨hS.1.next hw, cell_grows hw hS.2.1, cell_grows hw hS.2.2.1, cell_grows hw hS.2.2.2.1, cell_grows hw hS.2.2.2.2.1, cell_grows hw hS.2.2.2.2.2.1, cell_grows hw hS.2.2.2.2.2.2⟩)
              | exact ⟨hs0, t0, t1, v0, v1, s0, s1⟩)
            (first
              | (go_at_call 24; have hS : SI w _ _ _ _ _ _ _ _ ∧ _ := (by assumption); ((with_reducible refine (CK.out _ hS.1).mono ?_); rintro e w8 ⟨rfl, hw⟩))
              | (go_at_call 24; have hS : SI w _ _ _ _ _ _ _ _ ∧ _ := (by assumption); ((with_reducible refine (CM.out _ hS.1).mono ?_); rintro e w8 ⟨rfl, hw⟩)))
          all_goals
            have hT' : SI w _ _ _ _ _ _ _ _ ∧ _ := (by assumption)
            go_wp2
            go_roundw
            case rel => exact ⟨k + 1, by omega, by go_num, mkHid hT'.1⟩
            case measure => simp [intOf]; omega
      · have hk1 : ¬ (k : Int) < (N : Int) := by omega
        go_wp2_with (go_at_call 16; refine (CW.out _).mono ?_; rintro e w9 ⟨rfl, hb⟩; have H9 := mkHid (H.out.next hb); clear hb)
        go_ret
        exact ⟨rfl, H9.out.b⟩
end Go.Proofs.Ytalpbpcanebbbaa
