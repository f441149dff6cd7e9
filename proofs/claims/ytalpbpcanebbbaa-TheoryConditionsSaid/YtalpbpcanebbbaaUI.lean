/- The law TheoryConditions. -/
import Derived.Test.YtalpbpcanebbbaaUH
namespace Go.Proofs.Ytalpbpcanebbbaa
open Go.RowKit VM LM TM

set_option maxRecDepth 100000 in
set_option maxHeartbeats 8000000 in
theorem conditions_law (n0 : Int) (v : Value) (L : List (List Int)) (q : Int) (pk sg : BitVec 128) (w : World) (_ : In64 n0) (h : Th w v L) (hq : 0 ≤ q ∧ q ≤ 255) :
    Calls Try.prog 11 #[.agg #[.int .i64 n0, v], .int .u8 q, sv pk, sv sg] w fun e w' => e = .returned (.bool true) ∧ Below w.heap.size w w' := by
  obtain ⟨n, hn⟩ : ∃ n : Nat, q % 9 = (n : Int) := ⟨(q % 9).toNat, by omega⟩
  have hn8 : n ≤ 8 := by omega
  obtain ⟨N, hN⟩ : ∃ N : Nat, 2 ^ n = N := ⟨_, rfl⟩
  have hN2 : N ≤ 1048576 := by rw [← hN]; exact (pow20 (by omega)).1
  have hsh : IntKind.i64.wrap (2 ^ n) = (N : Int) := by rw [← hN]; exact shl_small (by omega)
  have eq : IntKind.u8.wrap (q.tmod 9) = (n : Int) := by rw [Int.tmod_eq_emod_of_nonneg hq.1, hn, IntKind.wrap_u8]; omega
  have CL := mkHid (fun W (hb : Below w.heap.size w W) => light_any n0 v L W (h.next hb))
  have CW := mkHid (fun W => works_any W)
  unfold sv
  generalize wd (lo pk) = pl at *
  generalize wd (hi pk) = ph at *
  generalize wd (lo sg) = sl at *
  generalize wd (hi sg) = sh at *
  have H0 : Hid (PS w (((w.alloc (.cells #[.int .i64 n0, v] 24)).alloc (.cells #[.int .u64 pl, .int .u64 ph] 36)).alloc (.cells #[.int .u64 sl, .int .u64 sh] 36)) n0 v pl ph sl sh) := mkHid
    ⟨((TB.new w w.heap.size n0 v rfl).grows (bal (Below.refl _ _) _)).grows (bal (Below.refl _ _) _), (AtS.new _ _ _ _ _ (by simp)).alloc _, AtS.new _ _ _ _ _ (by simp), bal (bal (bal (Below.refl _ w) _) _) _⟩
  obtain ⟨a0, a1⟩ := H0.out.t.at
  obtain ⟨ao, cap, rfl⟩ := h.cls.form
  cases hl : lightB L
  · simp only [hl] at CL
    clear h
    go_enter Try.func11, Try.ntmps11
    go_wp2_with (first
      | (go_at_call 15; refine (CL.out _ H0.out.b).mono ?_; rintro e w1 ⟨rfl, hb⟩; have H1 := mkHid (H0.out.next hb); clear hb)
      | (go_at_call 16; refine (CW.out _).mono ?_; rintro e w2 ⟨rfl, hb⟩; have H2 := mkHid (H1.out.next hb); clear hb))
    go_ret
    exact ⟨rfl, H2.out.b⟩
  · simp only [hl] at CL
    have LB := mkHid (light_spec hl)
    have CF := mkHid (fun W (hb : Below w.heap.size w W) => few_any n0 n (by omega) _ L W (h.next hb) LB.out.1 LB.out.2)
    clear h hl hN
    go_enter Try.func11, Try.ntmps11
    go_wp2_with (first
      | (go_at_call 15; refine (CL.out _ H0.out.b).mono ?_; rintro e w1 ⟨rfl, hb⟩; have H1 := mkHid (H0.out.next hb); obtain ⟨b0, b1⟩ := H1.out.t.at; clear hb)
      | (go_at_call 32; (with_reducible refine (CF.out _ H1.out.b).mono ?_); rintro e w2 ⟨u2, rfl, h2⟩; obtain ⟨K, h2c, h2l, h2f, h2b⟩ := h2.out; obtain ⟨a2, c2, rfl⟩ := h2c.form;
          have H2 := mkHid (H1.out.next h2b); obtain ⟨d0, d1⟩ := H2.out.t.at; obtain ⟨df0, df1⟩ := H2.out.t.free; obtain ⟨x0, x1⟩ := (H2.out.t.set0 (n : Int)).at; obtain ⟨xf0, xf1⟩ := (H2.out.t.set0 (n : Int)).free; have S2 := mkHid (H2.out.set (n : Int) (.slice a2 K.length c2)); have K2 := mkHid ((h2c.setB H2.out.t (v' := .slice a2 K.length c2) (n : Int)).cls); have HK : Hid (ckT (n : Int) K = 0) := mkHid (h2f.ck (by omega) (by have := LB.out.1; omega));
          obtain ⟨e0, e1⟩ := S2.out.t.at; clear h2 h2c h2l h2f h2b b0 b1))
    generalize (w2.setCell ⟨w.heap.size, 0, none⟩ (.int .i64 (n : Int))).setCell ⟨w.heap.size, 1, none⟩ (.slice a2 K.length c2) = W0 at *
    clear a0 a1 d0 d1 df0 df1 x0 x1 xf0 xf1 H2 H1 H0 CL CF
    go_loopw [9, 10] (fun tv iv wr => ∃ (i : Nat) (l : List Int), i ≤ n ∧ iv = .int .i64 ((i : Int) + 1) ∧ Hid (Ta i l ∧ Own wr W0.heap.size tv l ∧ Below W0.heap.size W0 wr)) (fun _ iv _ => n + 1 - (intOf iv).toNat)
    case atStart => exact ⟨0, [], Nat.zero_le _, rfl, mkHid ⟨.nil, Own.nil _ _, Below.refl _ _⟩⟩
    case round =>
      obtain ⟨i, l, hle, rfl, H⟩ := hrel
      obtain ⟨g1, g2, g8⟩ := H.out
      have HTa := mkHid g1
      have HO := mkHid g2
      have HB := mkHid g8
      have HP := mkHid (S2.out.next g8)
      clear H g1 g8 e0 e1
      obtain ⟨a3, c3, rfl⟩ := g2.ints.form
      clear g2
      obtain ⟨t0, t1⟩ := HP.out.t.at
      by_cases hlt : i < n
      · have hi1 : (i : Int) + 1 ≤ (n : Int) := by omega
        obtain ⟨p0, p1, -, -⟩ := HP.out.p
        obtain ⟨s0, s1, -, -⟩ := HP.out.s
        have ei : Hid (((i + 1 : Nat) : Int) = (i : Int) + 1) := mkHid (by omega)
        have hl1 := mkHid HTa.out.len
        cases hp0 : (bits BinOp.and IntKind.u64 (pl / 2 ^ (i + 1)) 1 == 1)
        · go_wp2
          go_roundw
          case rel => exact ⟨i + 1, l, by omega, by go_num, mkHid ⟨by rw [ei.out]; exact HTa.out.more, HO.out, HB.out⟩⟩
          case measure => simp [intOf]; omega
        · cases hsg : (bits BinOp.and IntKind.u64 (sl / 2 ^ (i + 1)) 1 == 1)
          all_goals
            go_wp2_with (at_builtin; refine wpList_app1 rfl (.tmp 54) (.tmp 56) rfl rfl rfl HO.out (by have := hl1.out; omega) HB.out.size HB.out ?_; intro v7 w7 H7)
            go_roundw
            case rel => exact ⟨i + 1, _, by omega, by go_num, mkHid ⟨by rw [ei.out]; exact HTa.out.add (by omega) (by simp), H7.out.1, H7.out.2⟩⟩
            case measure => simp [intOf]; omega
      · have hin : n = i := by omega
        subst hin
        obtain ⟨w3, hw3⟩ : ∃ w3, w3 = wr := ⟨_, rfl⟩
        subst hw3
        have hi1 : ¬ (n : Int) + 1 ≤ (n : Int) := by omega
        have G1 := mkHid (given_ok (n : Int) (.slice a2 K.length c2) (.slice a3 l.length c3) K l w3 (K2.out.next HB.out) HK.out HO.out.ints (by have := HTa.out.len; omega) (fun x hx => by have := HTa.out.r x hx; unfold In64; omega) (HTa.out.tm (by omega) (by omega)))
        have KW := mkHid (K2.out.next HB.out)
        have HLl : Hid (l.length ≤ 8) := mkHid (by have := HTa.out.len; omega)
        go_wp2_with (first
          | (go_at_call 26; (with_reducible refine G1.out.mono ?_); rintro e w7 ⟨u7, rfl, h7⟩; obtain ⟨a7, c7, rfl⟩ := h7.out.1.form;
              have b7 : Below w7.heap.size w7 (w7.alloc (.cells #[.int .i64 (n : Int), .slice a7 (gvL l K).length c7] 24)) := bal (Below.refl _ _) _;
              have S7 : Hid (SI w (w7.alloc (.cells #[.int .i64 (n : Int), .slice a7 (gvL l K).length c7] 24)) (n : Int) w.heap.size w7.heap.size (.slice a2 K.length c2) (.slice a7 (gvL l K).length c7) K (gvL l K) ∧ Ints (w7.alloc (.cells #[.int .i64 (n : Int), .slice a7 (gvL l K).length c7] 24)) (.slice a3 l.length c3) l) := mkHid ⟨⟨(HP.out.t.grows h7.out.2).grows b7, TB.new _ _ _ _ rfl, (KW.out.next h7.out.2).next b7, h7.out.1.cls.next b7, bnx (bnx HP.out.b h7.out.2) b7⟩, (HO.out.ints.next h7.out.2).next b7⟩;
              obtain ⟨f0, f1⟩ := S7.out.1.u.at; obtain ⟨j0, j1⟩ := S7.out.1.t.at; clear h7 b7))
        clear t0 t1 f0 f1 j0 j1 G1 KW HP HO HB K2 S2
        go_loopw [14] (fun kv wr => ∃ k : Nat, k ≤ N ∧ kv = .int .i64 (k : Int) ∧ Hid (SI w wr (n : Int) w.heap.size w7.heap.size (.slice a2 K.length c2) (.slice a7 (gvL l K).length c7) K (gvL l K) ∧ Ints wr (.slice a3 l.length c3) l)) (fun kv _ => N - (intOf kv).toNat)
        case atStart => exact ⟨0, Nat.zero_le _, rfl, S7⟩
        case round =>
          obtain ⟨k, hk, rfl, H⟩ := hrel
          clear S7
          obtain ⟨p0, p1⟩ := H.out.1.t.at
          obtain ⟨r0, r1⟩ := H.out.1.u.at
          by_cases hlt : k < N
          · have hk1 : (k : Int) < (N : Int) := by omega
            have CA := mkHid (fun W => assignment_any k n (by omega) (by omega) W)
            have CK := mkHid (fun W (hs : SI w W (n : Int) w.heap.size w7.heap.size (.slice a2 K.length c2) (.slice a7 (gvL l K).length c7) K (gvL l K)) => eval_any (n : Int) (.slice a2 K.length c2) K (asg k n) W (ck_th HK.out hs.k))
            have CM := mkHid (fun W (hs : SI w W (n : Int) w.heap.size w7.heap.size (.slice a2 K.length c2) (.slice a7 (gvL l K).length c7) K (gvL l K)) => eval_any (n : Int) (.slice a7 (gvL l K).length c7) (gvL l K) (asg k n) W (ck_th (ckT_gvL l HK.out) hs.m))
            have HEV := mkHid (fun hs => evT_gvL (n := (n : Int)) (a := asg k n) (s := l) hs HK.out)
            have HUP := mkHid (fun p hp => holds_up (asg k n) p hp)
            have HDN := mkHid (fun p hp => holds_down (asg k n) p hp)
            generalize evT (n : Int) K (asg k n) = q1 at *
            generalize evT (n : Int) (gvL l K) (asg k n) = q2 at *
            unfold sv at *
            generalize asg k n = ak at *
            generalize wd (lo ak) = al at *
            generalize wd (hi ak) = ah at *
            go_wp2_with (go_at_call 34; refine (CA.out _).mono ?_; rintro e w8 ⟨rfl, h8⟩)
            have b9 : Below w8.heap.size w8 (w8.alloc (.cells #[.int .u64 al, .int .u64 ah] 36)) := bal (Below.refl _ _) _
            have S9 := mkHid (And.intro ((H.out.1.next h8).next b9) ((H.out.2.next h8).next b9))
            have A9 := mkHid (AtS.new w8 w8.heap.size al ah 36 rfl)
            clear p0 p1 r0 r1 H CA b9 h8
            generalize w8.alloc (.cells #[.int .u64 al, .int .u64 ah] 36) = W9 at *
            generalize w8.heap.size = b9 at *
            go_loopw [16, 87] (fun bv jv wr => ∃ j : Nat, j ≤ l.length ∧ jv = .int .i64 (j : Int) ∧ bv = .bool ((l.take j).all (holdsL ak)) ∧ Hid (wr = W9)) (fun _ jv _ => l.length - (intOf jv).toNat)
            case atStart => exact ⟨0, Nat.zero_le _, rfl, rfl, mkHid (by trivial)⟩
            case round =>
              obtain ⟨j, hj, rfl, rfl, H⟩ := hrel
              have hw := H.out
              subst hw
              obtain ⟨s0, s1, -, -⟩ := A9.out
              by_cases hjt : j < l.length
              · obtain ⟨x, hx⟩ : ∃ x, l[j]? = some x := ⟨l[j], List.getElem?_eq_getElem hjt⟩
                obtain ⟨a4, c4, e4, hc4⟩ := S9.out.2.uni
                obtain ⟨b, off, e5, hcx⟩ := hc4 j x hx
                obtain ⟨p, hp, hxp⟩ := HTa.out.shape (List.mem_of_getElem? hx)
                have hj1 : (j : Int) < (l.length : Int) := by omega
                have hj0 : (0 : Int) ≤ (j : Int) := by omega
                obtain ⟨rfl, _, rfl⟩ : a3 = a4 ∧ l.length = l.length ∧ c3 = c4 := by simpa using e4
                subst e5
                have HE : Hid ((l.take (j + 1)).all (holdsL ak) = ((l.take j).all (holdsL ak) && holdsL ak x)) := mkHid (by rw [List.take_add_one, hx, List.all_append]; simp)
                have HU := mkHid (HUP.out p (by omega))
                have HD := mkHid (HDN.out p (by omega))
                clear hx e4 hc4
                have hm1 : (max ((p : Int) + 1) (-((p : Int) + 1))).toNat - 1 = p := by omega
                have hm2 : (max (-((p : Int) + 1)) ((p : Int) + 1)).toNat - 1 = p := by omega
                have hll := HLl.out
                cases hall : (l.take j).all (holdsL ak)
                · go_wp2
                  go_roundw
                  case rel => exact ⟨j + 1, by omega, by go_num, by rw [HE.out, hall]; rfl, mkHid (by trivial)⟩
                  case measure => simp [intOf]; omega
                · rcases hxp with rfl | rfl
                  · go_wp2
                    go_roundw
                    case rel => exact ⟨j + 1, by omega, by go_num, by rw [HE.out, hall, HU.out]; simp, mkHid (by trivial)⟩
                    case measure => simp [intOf]; omega
                  · go_wp2
                    go_roundw
                    case rel => exact ⟨j + 1, by omega, by go_num, by rw [HE.out, hall, HD.out]; have h0 : ¬ ((p : Int) + 1 < 0) := (by omega); simp [h0], mkHid (by trivial)⟩
                    case measure => simp [intOf]; omega
              · have hj1 : ¬ (j : Int) < (l.length : Int) := by omega
                have hal : (l.take j).all (holdsL ak) = allL ak l := by rw [List.take_of_length_le (by omega)]; rfl
                rw [hal]
                clear hal
                obtain ⟨t0, t1⟩ := S9.out.1.t.at
                obtain ⟨v0, v1⟩ := S9.out.1.u.at
                cases hall : allL ak l
                · go_wp2
                  go_quiet (fail)
                  have S10 := mkHid (And.intro (S9.out.1.next (bdr (Below.refl _ _) nq)) (S9.out.2.next (bdr (Below.refl _ _) nq)))
                  go_wp2
                  go_roundw
                  case rel => exact ⟨k + 1, by omega, by go_num, S10⟩
                  case measure => simp [intOf]; omega
                · have hqe := HEV.out hall
                  subst hqe
                  have hs0 := S9.out.1.drew
                  have hs1 := S9.out.2.next (Below.refl _ _).drew
                  cases q2
                  all_goals
                    go_wp2
                    go_region_held3 (fun W => SI w W (n : Int) w.heap.size w7.heap.size (.slice a2 K.length c2) (.slice a7 (gvL l K).length c7) K (gvL l K) ∧ W.cell? ⟨w.heap.size, 0, none⟩ = some (.int .i64 (n : Int)) ∧ W.cell? ⟨w.heap.size, 1, none⟩ = some (.slice a2 K.length c2) ∧ W.cell? ⟨w7.heap.size, 0, none⟩ = some (.int .i64 (n : Int)) ∧ W.cell? ⟨w7.heap.size, 1, none⟩ = some (.slice a7 (gvL l K).length c7) ∧ W.cell? ⟨b9, 0, none⟩ = some (.int .u64 al) ∧ W.cell? ⟨b9, 1, none⟩ = some (.int .u64 ah) ∧ Ints W (.slice a3 l.length c3) l)
                      (first
                        | (with_reducible exact ⟨hS.1.next hw, cell_grows hw hS.2.1, cell_grows hw hS.2.2.1, cell_grows hw hS.2.2.2.1, cell_grows hw hS.2.2.2.2.1, cell_grows hw hS.2.2.2.2.2.1, cell_grows hw hS.2.2.2.2.2.2.1, hS.2.2.2.2.2.2.2.next hw⟩)
                        | exact ⟨hs0, t0, t1, v0, v1, s0, s1, hs1⟩)
                      (first
                        | (go_at_call 24; have hS : SI w _ _ _ _ _ _ _ _ ∧ _ := (by assumption); ((with_reducible refine (CK.out _ hS.1).mono ?_); rintro e w12 ⟨rfl, hw⟩))
                        | (go_at_call 24; have hS : SI w _ _ _ _ _ _ _ _ ∧ _ := (by assumption); ((with_reducible refine (CM.out _ hS.1).mono ?_); rintro e w12 ⟨rfl, hw⟩)))
                    all_goals
                      have hT' : SI w _ _ _ _ _ _ _ _ ∧ _ := (by assumption)
                      have S10 := mkHid (And.intro hT'.1 hT'.2.2.2.2.2.2.2)
                      clear hT'
                      go_wp2
                      go_roundw
                      case rel => exact ⟨k + 1, by omega, by go_num, S10⟩
                      case measure => simp [intOf]; omega
          · have hk1 : ¬ (k : Int) < (N : Int) := by omega
            have CV := mkHid (fun W (hs : SI w W (n : Int) w.heap.size w7.heap.size (.slice a2 K.length c2) (.slice a7 (gvL l K).length c7) K (gvL l K)) => Vars_any (n : Int) (.slice a7 (gvL l K).length c7) (gvL l K) W (ck_th (ckT_gvL l HK.out) hs.m))
            have HV : Hid (∀ p : Nat, p < 64 → ((p : Int) + 1 ∈ l ∨ -((p : Int) + 1) ∈ l) → (bits BinOp.and IntKind.u64 (wd (lo (vrT (n : Int) (gvL l K))) / 2 ^ p) 1 == 1) = false) := mkHid (by
              intro p hp hx
              rw [bit_has _ p hp]
              unfold vrT
              rw [if_pos (ckT_gvL l HK.out)]
              rcases hx with hx | hx
              · have := vrL_gvL (L := K) hx (by rw [varL_up (by omega)]; omega)
                rwa [varL_up (by omega)] at this
              · have := vrL_gvL (L := K) hx (by rw [varL_down (by omega)]; omega)
                rwa [varL_down (by omega), Int.neg_neg] at this)
            unfold sv at *
            generalize vrT (n : Int) (gvL l K) = V at *
            generalize wd (lo V) = vl at *
            generalize wd (VM.hi V) = vh at *
            go_wp2_with (go_at_call 30; refine (CV.out _ H.out.1).mono ?_; rintro e w8 ⟨rfl, h8⟩)
            have b9 : Below w8.heap.size w8 (w8.alloc (.cells #[.int .u64 vl, .int .u64 vh] 36)) := bal (Below.refl _ _) _
            have S9 := mkHid (And.intro ((H.out.1.next h8).next b9) ((H.out.2.next h8).next b9))
            have A9 := mkHid (AtS.new w8 w8.heap.size vl vh 36 rfl)
            clear p0 p1 r0 r1 H CV b9 h8
            generalize w8.alloc (.cells #[.int .u64 vl, .int .u64 vh] 36) = W9 at *
            generalize w8.heap.size = b9 at *
            go_loopw [123] (fun jv wr => ∃ j : Nat, j ≤ l.length ∧ jv = .int .i64 (j : Int) ∧ Hid (wr = W9)) (fun jv _ => l.length - (intOf jv).toNat)
            case atStart => exact ⟨0, Nat.zero_le _, rfl, mkHid (by trivial)⟩
            case round =>
              obtain ⟨j, hj, rfl, H⟩ := hrel
              have hw := H.out
              subst hw
              obtain ⟨s0, s1, -, -⟩ := A9.out
              by_cases hjt : j < l.length
              · obtain ⟨x, hx⟩ : ∃ x, l[j]? = some x := ⟨l[j], List.getElem?_eq_getElem hjt⟩
                obtain ⟨a4, c4, e4, hc4⟩ := S9.out.2.uni
                obtain ⟨b, off, e5, hcx⟩ := hc4 j x hx
                have hxm := List.mem_of_getElem? hx
                obtain ⟨p, hp, hxp⟩ := HTa.out.shape hxm
                have hj1 : (j : Int) < (l.length : Int) := by omega
                have hj0 : (0 : Int) ≤ (j : Int) := by omega
                obtain ⟨rfl, _, rfl⟩ : a3 = a4 ∧ l.length = l.length ∧ c3 = c4 := by simpa using e4
                subst e5
                have hbit := HV.out p (by omega) (by rcases hxp with e | e <;> rw [← e] <;> simp [hxm])
                have hm1 : (max ((p : Int) + 1) (-((p : Int) + 1))).toNat - 1 = p := by omega
                have hm2 : (max (-((p : Int) + 1)) ((p : Int) + 1)).toNat - 1 = p := by omega
                have hll := HLl.out
                clear hx hxm e4 hc4
                rcases hxp with rfl | rfl
                all_goals
                  go_wp2
                  go_roundw
                  case rel => exact ⟨j + 1, by omega, by go_num, mkHid (by trivial)⟩
                  case measure => simp [intOf]; omega
              · have hj1 : ¬ (j : Int) < (l.length : Int) := by omega
                go_wp2_with (go_at_call 16; refine (CW.out _).mono ?_; rintro e w13 ⟨rfl, hb⟩; have S13 := mkHid (S9.out.1.next hb); clear hb)
                go_ret
                exact ⟨rfl, S13.out.b⟩
end Go.Proofs.Ytalpbpcanebbbaa
