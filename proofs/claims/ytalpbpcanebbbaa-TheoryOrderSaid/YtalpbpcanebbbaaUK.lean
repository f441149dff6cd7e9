/- The law TheoryOrder. -/
import Derived.Test.YtalpbpcanebbbaaUJ
namespace Go.Proofs.Ytalpbpcanebbbaa
open Go.RowKit VM LM TM

set_option maxRecDepth 100000 in
set_option maxHeartbeats 8000000 in
theorem order_law (n0 : Int) (v : Value) (L : List (List Int)) (q : Int) (r : Int) (w : World) (_ : In64 n0) (h : Th w v L) (hq : 0 ≤ q ∧ q ≤ 255) (hr : 0 ≤ r ∧ r ≤ 255) :
    Calls Try.prog 10 #[.agg #[.int .i64 n0, v], .int .u8 q, .int .u8 r] w fun e w' => e = .returned (.bool true) ∧ Below w.heap.size w w' := by
  obtain ⟨tn, rfl⟩ : ∃ tn : Nat, r = (tn : Int) := ⟨r.toNat, by omega⟩
  obtain ⟨n, hn⟩ : ∃ n : Nat, q % 21 = (n : Int) := ⟨(q % 21).toNat, by omega⟩
  have hn20 : n ≤ 20 := by omega
  have htn : tn ≤ 255 := by omega
  have eq : IntKind.u8.wrap (q.tmod 21) = (n : Int) := by rw [Int.tmod_eq_emod_of_nonneg hq.1, hn, IntKind.wrap_u8]; omega
  have CL := mkHid (fun W (hb : Below w.heap.size w W) => light_any n0 v L W (h.next hb))
  have CW := mkHid (fun W => works_any W)
  have H0 : Hid (BT w (w.alloc (.cells #[.int .i64 n0, v] 24)) n0 v) := mkHid ⟨TB.new w _ n0 v rfl, bal (Below.refl _ w) _⟩
  obtain ⟨a0, a1⟩ := H0.out.t.at
  obtain ⟨ao, cap, rfl⟩ := h.cls.form
  cases hl : lightB L
  · simp only [hl] at CL
    clear h
    go_enter Try.func10, Try.ntmps10
    go_wp2_with (first
      | (go_at_call 15; refine (CL.out _ H0.out.b).mono ?_; rintro e w1 ⟨rfl, hb⟩; have H1 := mkHid (H0.out.next hb); clear hb)
      | (go_at_call 16; refine (CW.out _).mono ?_; rintro e w2 ⟨rfl, hb⟩; have H2 := mkHid (H1.out.next hb); clear hb))
    go_ret
    exact ⟨rfl, H2.out.b⟩
  · simp only [hl] at CL
    by_cases hbig : 30 < L.length
    · have hbg : (30 : Int) < (L.length : Int) := by omega
      clear h
      go_enter Try.func10, Try.ntmps10
      go_wp2_with (first
        | (go_at_call 15; refine (CL.out _ H0.out.b).mono ?_; rintro e w1 ⟨rfl, hb⟩; have H1 := mkHid (H0.out.next hb); obtain ⟨b0, b1⟩ := H1.out.t.at; clear hb)
        | (go_at_call 16; refine (CW.out _).mono ?_; rintro e w2 ⟨rfl, hb⟩; have H2 := mkHid (H1.out.next hb); clear hb))
      go_ret
      exact ⟨rfl, H2.out.b⟩
    · have hbg : ¬ (30 : Int) < (L.length : Int) := by omega
      have LB := mkHid (light_spec hl)
      have CF := mkHid (fun W (hb : Below w.heap.size w W) => few_any n0 n (by omega) _ L W (h.next hb) LB.out.1 LB.out.2)
      clear h hl
      go_enter Try.func10, Try.ntmps10
      go_wp2_with (first
        | (go_at_call 15; refine (CL.out _ H0.out.b).mono ?_; rintro e w1 ⟨rfl, hb⟩; have H1 := mkHid (H0.out.next hb); obtain ⟨b0, b1⟩ := H1.out.t.at; clear hb)
        | (go_at_call 32; (with_reducible refine (CF.out _ H1.out.b).mono ?_); rintro e w2 ⟨u2, rfl, h2⟩; obtain ⟨K, h2c, h2l, h2f, h2b⟩ := h2.out; obtain ⟨a2, c2, rfl⟩ := h2c.form;
            have H2 := mkHid (H1.out.next h2b); obtain ⟨d0, d1⟩ := H2.out.t.at; obtain ⟨df0, df1⟩ := H2.out.t.free; obtain ⟨x0, x1⟩ := (H2.out.t.set0 (n : Int)).at; obtain ⟨xf0, xf1⟩ := (H2.out.t.set0 (n : Int)).free; have T2 := mkHid (H2.out.t.set (n : Int) (.slice a2 K.length c2)); have K2 := mkHid ((h2c.setB H2.out.t (v' := .slice a2 K.length c2) (n : Int)).cls); have B2 := mkHid (bst2 H2.out.b w.heap.size (Nat.le_refl _) (.int .i64 (n : Int)) (.slice a2 K.length c2)); have HK : Hid (ckT (n : Int) K = 0) := mkHid (h2f.ck (by omega) (by have := LB.out.1; omega)); have HFw := mkHid h2f; have HKL : Hid (K.length ≤ 30) := mkHid (by omega);
            have hz : ((w2.setCell ⟨w.heap.size, 0, none⟩ (.int .i64 (n : Int))).setCell ⟨w.heap.size, 1, none⟩ (.slice a2 K.length c2)).heap.size = w2.heap.size := (by simp);
            have O0 : Hid (OI ((w2.setCell ⟨w.heap.size, 0, none⟩ (.int .i64 (n : Int))).setCell ⟨w.heap.size, 1, none⟩ (.slice a2 K.length c2)) (((w2.setCell ⟨w.heap.size, 0, none⟩ (.int .i64 (n : Int))).setCell ⟨w.heap.size, 1, none⟩ (.slice a2 K.length c2)).alloc (.cells #[.int .i64 (n : Int), .slice none 0 0] 24)) (n : Int) (.slice none 0 0) [] []) := mkHid ⟨bal (Below.refl _ _) _, TB.new _ _ _ _ rfl, OwnV.nil _ _, rfl, fun j x c hx => by simp at hx⟩;
            obtain ⟨o0, o1⟩ := (T2.out.grows (bal (Below.refl _ _) (.cells #[.int .i64 (n : Int), .slice none 0 0] 24))).at;
            obtain ⟨e0, e1⟩ := T2.out.at; clear h2 h2c h2l h2f h2b b0 b1))
      generalize (w2.setCell ⟨w.heap.size, 0, none⟩ (.int .i64 (n : Int))).setCell ⟨w.heap.size, 1, none⟩ (.slice a2 K.length c2) = Wk at *
      generalize w2.heap.size = z at *
      subst hz
      clear a0 a1 d0 d1 df0 df1 x0 x1 xf0 xf1 H2 H1 H0 CL CF hbig hbg o0 o1 e0 e1
      go_loopw [37] (fun iv wr => ∃ i : Nat, i ≤ K.length ∧ iv = .int .i64 (i : Int) ∧ Hid (∃ v3 xs M, OI Wk wr (n : Int) v3 xs M ∧ OM (n : Int) K tn i M)) (fun iv _ => K.length - (intOf iv).toNat)
      case atStart => exact ⟨0, Nat.zero_le _, rfl, mkHid ⟨_, _, _, O0.out, OM.nil _ _ _⟩⟩
      case round =>
        obtain ⟨i, hle, rfl, H⟩ := hrel
        obtain ⟨v3, xs, M, hoi, hom⟩ := H.out
        have HO := mkHid hoi
        have HM := mkHid hom
        clear H O0 hoi hom
        obtain ⟨w3, hw3⟩ : ∃ w3, w3 = wr := ⟨_, rfl⟩
        subst hw3
        have T3 := mkHid (T2.out.grows HO.out.b)
        obtain ⟨o0, o1⟩ := T3.out.at
        by_cases hlt : i < K.length
        · obtain ⟨m, hm⟩ : ∃ m, (i + tn) % K.length = m := ⟨_, rfl⟩
          have hmlt : m < K.length := by rw [← hm]; exact Nat.mod_lt _ (by omega)
          obtain ⟨c, hc⟩ : ∃ c, K[m]? = some c := ⟨K[m], List.getElem?_eq_getElem hmlt⟩
          obtain ⟨ak, ck, ek, hcells⟩ := K2.out
          obtain ⟨b, off, x, eb, hx, hi⟩ := hcells m c hc
          obtain ⟨rfl, _, rfl⟩ : a2 = ak ∧ K.length = K.length ∧ c2 = ck := by simpa using ek
          subst eb
          have p1 := cell_grows HO.out.b hx
          have hfc := HFw.out c (List.mem_of_getElem? hc)
          have hcl := hfc.1
          have HI0 := mkHid hi
          have HI := mkHid (hi.next HO.out.b)
          have HC : Hid (K[(i + tn) % K.length]? = some c) := mkHid (by rw [hm]; exact hc)
          have hk1 : (i : Int) < (K.length : Int) := by omega
          have hkl := HKL.out
          have htm : ((i : Int) + (tn : Int)).tmod (K.length : Int) = (m : Int) := by
            rw [Int.tmod_eq_emod_of_nonneg (by omega), ← hm]; simp
          have hm1 : (m : Int) < (K.length : Int) := by omega
          have hm0 : (0 : Int) ≤ (m : Int) := by omega
          have hk0 : ¬ (K.length : Int) = 0 := by omega
          obtain ⟨ac, cc, rfl⟩ := hi.form
          clear hx hi hc hcells ek hm hlt hfc
          go_wp2
          go_quiet (fail)
          have B4 : Below w3.heap.size w3 (w3.drewN nq) := bdr (Below.refl _ _) _
          have HO4 := mkHid (HO.out.next B4)
          have HI4 := mkHid (HI.out.next B4)
          clear HO HI B4 p1 o0 o1 T3
          generalize w3.drewN nq = W4 at *
          have T4 := mkHid (T2.out.grows HO4.out.b)
          have E4 := mkHid (own_empty W4 W4.heap.size W4.heap.size rfl (Nat.le_refl _))
          go_wp2_with (first
            | (at_builtin; refine wpList_app rfl (.tmp 52) (.tmp 53) rfl rfl rfl E4.out (HI4.out.next (bal (Below.refl _ _) _)) (by simp; omega) (by simp) ?_; intro v10 w10 ho10 hg10; have B10 := mkHid (Own.bel (bal (Below.refl _ _) _) (by simp) E4.out hg10); rw [List.nil_append] at ho10; have D10 := mkHid ho10; obtain ⟨a10, c10, rfl⟩ := ho10.ints.form; clear ho10 hg10))
          go_loopw [57] (fun jv wr => ∃ k : Nat, k ≤ c.length ∧ jv = .int .i64 (k : Int) ∧ Hid (Own wr W4.heap.size (.slice a10 c.length c10) (rvK c k) ∧ Below W4.heap.size W4 wr)) (fun jv _ => c.length - (intOf jv).toNat)
          case atStart => exact ⟨0, Nat.zero_le _, rfl, mkHid ⟨by rw [rvK_zero]; exact D10.out, B10.out⟩⟩
          case round =>
            obtain ⟨k, hk, rfl, H⟩ := hrel
            clear D10 B10 E4
            by_cases hkt : k < c.length
            · obtain ⟨x, hx⟩ : ∃ x, c[k]? = some x := ⟨c[k], List.getElem?_eq_getElem hkt⟩
              obtain ⟨ax, cx, ex, hcx⟩ := HI4.out.uni
              obtain ⟨b5, off5, eb5, hx5⟩ := hcx k x hx
              obtain ⟨rfl, _, rfl⟩ : ac = ax ∧ c.length = c.length ∧ cc = cx := by simpa using ex
              subst eb5
              have q1 := cell_grows H.out.2 hx5
              have hrl := rvK_length (c := c) (k := k) hk
              obtain ⟨g, rfl⟩ : ∃ g, a10 = some ⟨g, 0, none⟩ := by
                rcases own_cases H.out.1 with ⟨e, e2⟩ | ⟨g, cp, e, _⟩
                · rw [e2] at hrl; simp at hrl; omega
                · exact ⟨g, by simpa using (Value.slice.inj e).1⟩
              obtain ⟨m2, hm2⟩ : ∃ m2 : Nat, c.length - 1 - k = m2 := ⟨_, rfl⟩
              have em : (c.length : Int) - 1 - (k : Int) = (m2 : Int) := by omega
              have em1 : (m2 : Int) < (c.length : Int) := by omega
              have em0 : (0 : Int) ≤ (m2 : Int) := by omega
              have hO := H.out.1
              rw [← hrl] at hO
              obtain ⟨r1, r2, r3, r4, r5⟩ := hO.at
              have fz := r5 m2 (by rw [hrl]; omega)
              obtain ⟨z, hz⟩ : ∃ z, (rvK c k)[m2]? = some z := ⟨_, List.getElem?_eq_getElem (by rw [hrl]; omega)⟩
              have cz := r4 m2 z hz
              have HN := mkHid (hO.set m2 x)
              have HS : Hid ((rvK c k).set m2 x = rvK c (k + 1)) := mkHid (by rw [← hm2]; exact rvK_set hx)
              have HG := mkHid r1
              have hk1 : (k : Int) < (c.length : Int) := by omega
              have hk0 : (0 : Int) ≤ (k : Int) := by omega
              have HRL := mkHid hrl
              clear hz r1 r2 r3 r4 r5 hO hx hx5 hcx ex hrl
              go_wp2
              go_roundw
              case rel => exact ⟨k + 1, by omega, by go_num, mkHid ⟨by have := HN.out; rw [HS.out, rvK_length (by omega)] at this; exact this, H.out.2.setCell (p := ⟨g, m2, none⟩) HG.out _⟩⟩
              case measure => simp [intOf]; omega
            · obtain rfl : k = c.length := by omega
              have hk1 : ¬ (c.length : Int) < (c.length : Int) := by omega
              have HD : Hid (Own wr W4.heap.size (.slice a10 c.length c10) c.reverse) := mkHid (by have := H.out.1; rwa [rvK_all] at this)
              have HO5 := mkHid (HO4.out.next H.out.2)
              obtain ⟨o0, o1⟩ := HO5.out.o.at
              obtain ⟨m0, m1⟩ := (HO5.out.o.grows (bal (Below.refl _ wr) (.cells #[.slice a10 c.length c10, .slice ac c.length cc] 38))).at
              have hrev : c.reverse.length = c.length := List.length_reverse
              obtain ⟨a3, c3, rfl⟩ : ∃ a3 c3, v3 = .slice a3 xs.length c3 := HO4.out.l.vals.form
              by_cases hz : c.length = 0
              · have hz1 : ¬ (0 : Int) < (c.length : Int) := by omega
                clear hz
                go_wp2_with (at_builtin; refine wpList_appV2 rfl (.tmp 92) (.tmp 95) rfl rfl rfl (x := .slice a10 c.length c10) (z := .slice ac c.length cc) HO5.out.l (oneCell_slice _ _ _) (oneCell_slice _ _ _) (by have := HO5.out.e; have := HM.out.len; omega) HO5.out.b.size ?_; intro v8 w8 H8; obtain ⟨a9, c9, e9⟩ := H8.out.1.vals.form; simp only [List.length_append, List.length_cons, List.length_nil, Nat.zero_add, Nat.reduceAdd] at e9; subst e9; obtain ⟨T8, HO8⟩ := HO5.out.app (HD.out.wk HO4.out.b.size) HI0.out H8.out; obtain ⟨y0, y1⟩ := T8.at; obtain ⟨yf0, yf1⟩ := T8.free)
                go_roundw
                case rel => exact ⟨i + 1, by omega, by go_num, mkHid ⟨_, _, _, HO8, HM.out.step HFw.out HC.out (by rw [hrev]; exact hcl) (by simp)⟩⟩
                case measure => simp [intOf]; omega
              · have hz1 : (0 : Int) < (c.length : Int) := by omega
                by_cases hbig : c.length < 100
                · have hz2 : (c.length : Int) < 100 := by omega
                  obtain ⟨p, hp⟩ : ∃ p, tn % c.length = p := ⟨_, rfl⟩
                  have hplt : p < c.length := by rw [← hp]; exact Nat.mod_lt _ (by omega)
                  have htp : ((tn : Nat) : Int).tmod (c.length : Int) = (p : Int) := by
                    rw [Int.tmod_eq_emod_of_nonneg (by omega), ← hp]; simp
                  have hp1 : (p : Int) < (c.length : Int) := by omega
                  have hp0 : (0 : Int) ≤ (p : Int) := by omega
                  have hk0 : ¬ (c.length : Int) = 0 := by omega
                  obtain ⟨y, hy⟩ : ∃ y, c.reverse[p]? = some y := ⟨_, List.getElem?_eq_getElem (by rw [hrev]; exact hplt)⟩
                  obtain ⟨ax, cx, ex, hcx⟩ := HD.out.ints.uni
                  obtain ⟨b5, off5, eb5, hx5⟩ := hcx p y hy
                  rw [hrev] at ex
                  obtain ⟨rfl, _, rfl⟩ : a10 = ax ∧ c.length = c.length ∧ c10 = cx := by simpa using ex
                  subst eb5
                  have HY := mkHid (List.mem_of_getElem? hy)
                  have HR1 : Hid ((c.reverse ++ [y]).length = c.length + 1) := mkHid (by simp)
                  clear hy hcx ex hp hz
                  go_wp2_with (first
                    | (at_builtin; refine wpList_app1 rfl (.tmp 80) (.tmp 89) rfl rfl rfl (l := c.reverse) HD.out (by rw [hrev]; omega) H.out.2.size H.out.2 ?_; intro v11 w11 H11; have HO6 := mkHid (HO4.out.next H11.out.2); have D11 := mkHid H11.out.1; obtain ⟨a11, c11, e11⟩ := H11.out.1.ints.form; rw [HR1.out] at e11; subst e11; obtain ⟨g0, g1⟩ := HO6.out.o.at; obtain ⟨f0, f1⟩ := (HO6.out.o.grows (bal (Below.refl _ w11) (.cells #[.slice a11 (c.length + 1) c11, .slice ac c.length cc] 38))).at)
                    | (at_builtin; refine wpList_appV2 rfl (.tmp 92) (.tmp 95) rfl rfl rfl (x := .slice a11 (c.length + 1) c11) (z := .slice ac c.length cc) HO6.out.l (oneCell_slice _ _ _) (oneCell_slice _ _ _) (by have := HO6.out.e; have := HM.out.len; omega) HO6.out.b.size ?_; intro v8 w8 H8; obtain ⟨a9, c9, e9⟩ := H8.out.1.vals.form; simp only [List.length_append, List.length_cons, List.length_nil, Nat.zero_add, Nat.reduceAdd] at e9; subst e9; obtain ⟨T8, HO8⟩ := HO6.out.app (D11.out.wk HO4.out.b.size) HI0.out H8.out; obtain ⟨y0, y1⟩ := T8.at; obtain ⟨yf0, yf1⟩ := T8.free))
                  go_roundw
                  case rel => exact ⟨i + 1, by omega, by go_num, mkHid ⟨_, _, _, HO8, HM.out.step HFw.out HC.out (by rw [HR1.out]; omega) (fun x => by
                    have h1 := HY.out
                    rw [List.mem_reverse] at h1
                    rw [List.mem_append, List.mem_reverse, List.mem_singleton]
                    constructor
                    · rintro (h | rfl)
                      · exact h
                      · exact h1
                    · exact fun h => .inl h)⟩⟩
                  case measure => simp [intOf]; omega
                · have hz2 : ¬ (c.length : Int) < 100 := by omega
                  clear hz
                  go_wp2_with (at_builtin; refine wpList_appV2 rfl (.tmp 92) (.tmp 95) rfl rfl rfl (x := .slice a10 c.length c10) (z := .slice ac c.length cc) HO5.out.l (oneCell_slice _ _ _) (oneCell_slice _ _ _) (by have := HO5.out.e; have := HM.out.len; omega) HO5.out.b.size ?_; intro v8 w8 H8; obtain ⟨a9, c9, e9⟩ := H8.out.1.vals.form; simp only [List.length_append, List.length_cons, List.length_nil, Nat.zero_add, Nat.reduceAdd] at e9; subst e9; obtain ⟨T8, HO8⟩ := HO5.out.app (HD.out.wk HO4.out.b.size) HI0.out H8.out; obtain ⟨y0, y1⟩ := T8.at; obtain ⟨yf0, yf1⟩ := T8.free)
                  go_roundw
                  case rel => exact ⟨i + 1, by omega, by go_num, mkHid ⟨_, _, _, HO8, HM.out.step HFw.out HC.out (by rw [hrev]; exact hcl) (by simp)⟩⟩
                  case measure => simp [intOf]; omega
        · have hie : i = K.length := by omega
          subst hie
          have hk1 : ¬ (K.length : Int) < (K.length : Int) := by omega
          have HDn := mkHid HM.out.done
          have HCM : Hid (ckT (n : Int) M = 0) := mkHid (HM.out.few.ck (by omega) (by have := HM.out.len; have := HKL.out; omega))
          obtain ⟨a3, c3, rfl⟩ : ∃ a3 c3, v3 = .slice a3 M.length c3 := HO.out.cls.form
          have CN := mkHid (normal_ck (n : Int) _ K _ (K2.out.next HO.out.b) HK.out)
          have HU := mkHid HO.out.o
          have HB3 := mkHid (B2.out.trans (HO.out.b.mono B2.out.size))
          have HSZ : Hid (∀ c ∈ nmK K, c.length ≤ 1000000) := mkHid (nm_short K)
          have HNL : Hid ((nmK K).length ≤ 1000000) := mkHid (by have := nmK_length K; have := HKL.out; omega)
          obtain ⟨u0, u1⟩ := HU.out.at
          go_wp2_with (first
            | (go_at_call 20; (with_reducible refine CN.out.mono ?_); rintro e w4 ⟨u4, rfl, h4⟩; obtain ⟨a4, c4, rfl⟩ := h4.out.1.form;
                have b4 : Below w4.heap.size w4 (w4.alloc (.cells #[.int .i64 (n : Int), .slice a4 (nmK K).length c4] 24)) := bal (Below.refl _ _) _;
                have B4 := mkHid (bnx h4.out.2 b4); have A4 := mkHid (TB.new w4 w4.heap.size (n : Int) (.slice a4 (nmK K).length c4) rfl); have C4 := mkHid (h4.out.1.cls.next b4); have U4 := mkHid (HU.out.grows B4.out); have T4 := mkHid (T3.out.grows B4.out);
                have CM : Hid (Calls Try.prog 20 #[.agg #[.int .i64 (n : Int), .slice a3 M.length c3]] (w4.alloc (.cells #[.int .i64 (n : Int), .slice a4 (nmK K).length c4] 24)) _) := mkHid (normal_ck (n : Int) (.slice a3 M.length c3) M _ ((HO.out.next B4.out).cls) HCM.out);
                obtain ⟨g0, g1⟩ := U4.out.at; clear h4 b4)
            | (go_at_call 20; (with_reducible refine CM.out.mono ?_); rintro e w5 ⟨u5, rfl, h5⟩; rw [← HDn.out] at h5; obtain ⟨a5, c5, rfl⟩ := h5.out.1.form;
                have b5 : Below w5.heap.size w5 (w5.alloc (.cells #[.int .i64 (n : Int), .slice a5 (nmK K).length c5] 24)) := bal (Below.refl _ _) _;
                have B5 := mkHid (bnx B4.out (bnx h5.out.2 b5)); have A5 := mkHid (TB.new w5 w5.heap.size (n : Int) (.slice a5 (nmK K).length c5) rfl); have C5 := mkHid (h5.out.1.cls.next b5); have A45 := mkHid ((A4.out.grows h5.out.2).grows b5); have C45 := mkHid ((C4.out.next h5.out.2).next b5); have T5 := mkHid (T3.out.grows B5.out);
                have CC := mkHid (check_any (n : Int) (.slice a2 K.length c2) K _ (ck_th HK.out ((K2.out.next HO.out.b).next B5.out)));
                obtain ⟨q0, q1⟩ := T5.out.at; clear h5 b5)
            | (go_at_call 17; (with_reducible refine CC.out.mono ?_); rw [HK.out]; rintro e w6 ⟨rfl, h6⟩; have B6 := mkHid (bnx B5.out h6); have A46 := mkHid (A45.out.grows h6); have A56 := mkHid (A5.out.grows h6); have CE := mkHid (same_yes (n : Int) (.slice a4 (nmK K).length c4) (.slice a5 (nmK K).length c5) (nmK K) _ (C45.out.next h6) (C5.out.next h6) HNL.out HSZ.out); obtain ⟨r0, r1⟩ := A46.out.at; obtain ⟨s0, s1⟩ := A56.out.at; clear h6)
            | (go_at_call 33; (with_reducible refine CE.out.mono ?_); rintro e w7 ⟨rfl, h7⟩; have B7 := mkHid (bnx B6.out h7); clear h7)
            | (go_at_call 16; (with_reducible refine (CW.out _).mono ?_); rintro e w8 ⟨rfl, h8⟩; have B8 := mkHid (bnx B7.out h8); clear h8))
          go_ret
          exact ⟨rfl, bnx HB3.out B8.out⟩
end Go.Proofs.Ytalpbpcanebbbaa
