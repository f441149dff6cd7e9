/- The law TheoryLimits. -/
import Derived.Test.YtalpbpcanebbbaaUR
import Derived.Test.YtalpbpcanebbbaaUN
import Derived.OwnWalk
namespace Go.Proofs.Ytalpbpcanebbbaa
open Go.RowKit VM LM TM

/-- The theory and both conjunctions, in boxes. -/
structure LL (w W : World) (b1 b2 b3 : Nat) (p : Int) (v1 v2 v3 : Value) (R : List (List Int)) : Prop where
  t : TB W b1 1 v1
  a : TB W b2 p v2
  b : TB W b3 p v3
  c : Cls W v2 R
  d : Cls W v3 R
  w : Below w.heap.size w W
theorem LL.next {w W W' : World} {b1 b2 b3 : Nat} {p : Int} {v1 v2 v3 : Value} {R : List (List Int)} (H : LL w W b1 b2 b3 p v1 v2 v3 R) (hb : Below W.heap.size W W') : LL w W' b1 b2 b3 p v1 v2 v3 R :=
  ⟨H.t.grows hb, H.a.grows hb, H.b.grows hb, H.c.next hb, H.d.next hb, bnx H.w hb⟩
theorem LL.drew {w W : World} {b1 b2 b3 : Nat} {p : Int} {v1 v2 v3 : Value} {R : List (List Int)} (H : LL w W b1 b2 b3 p v1 v2 v3 R) : LL w W.drew b1 b2 b3 p v1 v2 v3 R := H.next (Below.refl _ _).drew
theorem rsame_yes (n : Int) (v u : Value) (L : List (List Int)) (w : World) (hL : Cls w v L) (hK : Cls w u L) (lL : L.length ≤ 1000000) (sL : ∀ c ∈ L, c.length ≤ 1000000) :
    Calls Try.prog 22 #[.agg #[.int .i64 n, v], .agg #[.int .i64 n, u]] w fun e w' => e = .returned (.bool true) ∧ Below w.heap.size w w' := by
  have := rsame_any n n v u L L w hL hK lL sL sL
  rw [decide_eq_true ⟨rfl, rfl⟩] at this
  exact this
set_option maxRecDepth 100000 in
set_option maxHeartbeats 8000000 in
theorem limits_law (a b c : Int) (w : World) (ha : 0 ≤ a ∧ a ≤ 65535) (hb : 0 ≤ b ∧ b ≤ 65535) (hc : 0 ≤ c ∧ c ≤ 65535) :
    Calls Try.prog 8 #[.int .u16 a, .int .u16 b, .int .u16 c] w fun e w' => e = .returned (.bool true) ∧ Below w.heap.size w w' := by
  obtain ⟨n1, hn1⟩ : ∃ n : Nat, a.tmod 4200 = (n : Int) ∧ n ≤ 4199 := ⟨(a % 4200).toNat, by rw [Int.tmod_eq_emod_of_nonneg ha.1]; omega, by omega⟩
  obtain ⟨n2, hn2⟩ : ∃ n : Nat, b.tmod 140 = (n : Int) ∧ n ≤ 139 := ⟨(b % 140).toNat, by rw [Int.tmod_eq_emod_of_nonneg hb.1]; omega, by omega⟩
  obtain ⟨n3, hn3⟩ : ∃ n : Nat, c.tmod 4200 = (n : Int) ∧ n ≤ 4199 := ⟨(c % 4200).toNat, by rw [Int.tmod_eq_emod_of_nonneg hc.1]; omega, by omega⟩
  obtain ⟨e1, l1⟩ := hn1
  obtain ⟨e2, l2⟩ := hn2
  obtain ⟨e3, l3⟩ := hn3
  have f1 : IntKind.u16.wrap (n1 : Int) = n1 := by rw [IntKind.wrap_u16]; omega
  have f2 : IntKind.u16.wrap (n2 : Int) = n2 := by rw [IntKind.wrap_u16]; omega
  have f3 : IntKind.u16.wrap (n3 : Int) = n3 := by rw [IntKind.wrap_u16]; omega
  have CW := mkHid (fun W => works_any W)
  have O0 : Hid (OI w (w.alloc (.cells #[.int .i64 1, .slice none 0 0] 24)) 1 (.slice none 0 0) [] []) := mkHid ⟨bal (Below.refl _ _) _, TB.new _ _ _ _ rfl, OwnV.nil _ _, rfl, fun j x c hx => by simp at hx⟩
  obtain ⟨i0, hi, hz0, hz1, hz2⟩ := info_parts infoI
  have hi' := mkHid hi
  have hz0' := mkHid hz0
  have hz1' := mkHid hz1
  have hz2' := mkHid hz2
  clear hi hz0 hz1 hz2
  go_enter Try.func8, Try.ntmps8
  go_wp2
  go_loopw [18] (fun iv wr => ∃ k : Nat, k ≤ n1 ∧ iv = .int .u16 (k : Int) ∧ Hid (∃ v3 xs M, OI w wr 1 v3 xs M ∧ LC k M)) (fun iv _ => n1 - (intOf iv).toNat)
  case atStart => exact ⟨0, Nat.zero_le _, rfl, mkHid ⟨_, _, _, O0.out, .nil⟩⟩
  case round =>
    obtain ⟨k, hk, rfl, H⟩ := hrel
    obtain ⟨v3, xs, M, hoi, hlc⟩ := H.out
    have HO := mkHid hoi
    have HL := mkHid hlc
    clear H hoi hlc O0
    obtain ⟨a3, c3, rfl⟩ : ∃ a3 c3, v3 = .slice a3 xs.length c3 := HO.out.l.vals.form
    by_cases hlt : k < n1
    · have hk1 : (k : Int) < (n1 : Int) := by omega
      obtain ⟨o0, o1⟩ := HO.out.o.at
      have HW := mkHid (own_new wr w.heap.size [1] HO.out.b.size (by decide))
      have HO1 := mkHid (HO.out.next (bal (Below.refl _ wr) (.cells #[.int .i64 1] 3)))
      have HXL : Hid (xs.length ≤ 1000000) := mkHid (by rw [HO.out.e, HL.out.len]; omega)
      go_wp2_with (at_builtin; refine wpList_appV rfl (.tmp 21) (.tmp 23) rfl (by simp [Act.eval]) (by simp [Act.eval]) (W := wr.alloc (.cells #[.int .i64 1] 3)) (x := .slice (some ⟨wr.heap.size, 0, none⟩) 1 1) HO1.out.l (oneCell_slice _ _ _) HXL.out HO1.out.b.size HO1.out.b ?_; intro v8 w8 H8; obtain ⟨a9, c9, e9⟩ := H8.out.1.vals.form; simp only [List.length_append, List.length_cons, List.length_nil, Nat.zero_add] at e9; subst e9; obtain ⟨T8, HO8⟩ := HO1.out.app1 HW.out H8.out; obtain ⟨y0, y1⟩ := T8.at; obtain ⟨yf0, yf1⟩ := T8.free)
      go_roundw
      case rel => exact ⟨k + 1, by omega, by go_num, mkHid ⟨_, _, _, HO8, HL.out.snoc (by unfold In64; decide)⟩⟩
      case measure => simp [intOf]; omega
    · obtain rfl : k = n1 := by omega
      have hk1 : ¬ (k : Int) < (k : Int) := by omega
      obtain ⟨w3, hw3⟩ : ∃ w3, w3 = wr := ⟨_, rfl⟩
      subst hw3
      go_wp2_with (at_make; refine wpList_make_full _ rfl _ _ 38 rfl w3.heap.size 3 i0 (.int .i64 0) 1 Try.underlying38 hi'.out hz0'.out hz1'.out _ _ _ _ n2 rfl rfl (by omega) (by omega) ?bytes ?maxl (Nat.le_refl _) ?_)
      case bytes => rw [hz2'.out]; omega
      case maxl => unfold maxLen; omega
      intro w4 hown hgrow
      have D0 : Hid (Own w4 w3.heap.size (.slice (some ⟨w3.heap.size, 0, none⟩) n2 n2) (List.replicate n2 0)) := mkHid (by
        have := own_made (n := n2) (by simpa [Value.cells] using hown)
        exact this)
      have B4 : Hid (Below w3.heap.size w3 w4) := mkHid ⟨hgrow.os, hgrow.tape, hgrow.output, hgrow.size, fun j hj => hgrow.block j hj (by simp)⟩
      clear hown hgrow
      go_wp2
      go_loopw [33] (fun jv wr => ∃ j : Nat, j ≤ n2 ∧ jv = .int .i64 (j : Int) ∧ Hid (∃ d : List Int, d.length = n2 ∧ (∀ x ∈ d, In64 x) ∧ Own wr w3.heap.size (.slice (some ⟨w3.heap.size, 0, none⟩) n2 n2) d ∧ Below w3.heap.size w3 wr)) (fun jv _ => n2 - (intOf jv).toNat)
      case atStart => exact ⟨0, Nat.zero_le _, rfl, mkHid ⟨_, by simp, fun x hx => by have := (List.mem_replicate.1 hx).2; rw [this]; unfold In64; omega, D0.out, B4.out⟩⟩
      case round =>
        obtain ⟨j, hj, rfl, H⟩ := hrel
        obtain ⟨d, hdl, hd64, hdo, hdb⟩ := H.out
        clear H D0 B4
        have HD64 := mkHid hd64
        have HDB := mkHid hdb
        have HDL := mkHid hdl
        by_cases hjt : j < n2
        · have hO : Own wr w3.heap.size (.slice (some ⟨w3.heap.size, 0, none⟩) d.length n2) d := by rw [hdl]; exact hdo
          obtain ⟨r1, r2, r3, r4, r5⟩ := hO.at
          obtain ⟨z, hz⟩ : ∃ z, d[j]? = some z := ⟨_, List.getElem?_eq_getElem (by rw [hdl]; exact hjt)⟩
          have fz := r5 j (by rw [hdl]; exact hjt)
          have cz := r4 j z hz
          have HN := mkHid (hO.set j (-1))
          have hj1 : (j : Int) < (n2 : Int) := by omega
          have hj0 : (0 : Int) ≤ (j : Int) := by omega
          clear hO r1 r2 r3 r4 r5 hz hdo hdb hd64 hdl
          go_wp2
          go_roundw
          case rel => exact ⟨j + 1, by omega, by go_num, mkHid ⟨d.set j (-1), by rw [List.length_set]; exact HDL.out, fun x hx => by
            rcases List.mem_or_eq_of_mem_set hx with h | h
            · exact HD64.out x h
            · rw [h]; unfold In64; omega, by have := HN.out; rw [List.length_set, HDL.out] at this; exact this, HDB.out.setCell (p := ⟨w3.heap.size, j, none⟩) (Nat.le_refl _) _⟩⟩
          case measure => simp [intOf]; omega
        · obtain rfl : j = n2 := by omega
          have hj1 : ¬ (j : Int) < (j : Int) := by omega
          have HO5 := mkHid (HO.out.next HDB.out)
          have D5 : Hid (Own wr w.heap.size (.slice (some ⟨w3.heap.size, 0, none⟩) j j) d) := mkHid (Own.wk hdo HO.out.b.size)
          have HL5 := mkHid (HL.out.snoc (c := d) ⟨by rw [hdl]; omega, hd64⟩)
          obtain ⟨o0, o1⟩ := HO5.out.o.at
          obtain ⟨p0, p1⟩ := (HO5.out.o.grows (bal (Below.refl _ wr) (.cells #[.slice (some ⟨w3.heap.size, 0, none⟩) j j] 38))).at
          have HXL : Hid (xs.length ≤ 1000000) := mkHid (by rw [HO.out.e, HL.out.len]; omega)
          clear hdo hdb hd64 hdl
          go_wp2_with (at_builtin; refine wpList_appV rfl (.tmp 41) (.tmp 43) rfl (by simp [Act.eval]) (by simp [Act.eval]) (W := wr) (x := .slice (some ⟨w3.heap.size, 0, none⟩) j j) HO5.out.l (oneCell_slice _ _ _) HXL.out HO5.out.b.size HO5.out.b ?_; intro v8 w8 H8; obtain ⟨a9, c9, e9⟩ := H8.out.1.vals.form; simp only [List.length_append, List.length_cons, List.length_nil, Nat.zero_add] at e9; subst e9; obtain ⟨T8, HO8⟩ := HO5.out.app1 D5.out H8.out; obtain ⟨y0, y1⟩ := T8.at; obtain ⟨yf0, yf1⟩ := T8.free; have HO9 := mkHid HO8; have hz : (w8.setCell ⟨w.heap.size, 1, none⟩ (.slice a9 (xs.length + 1) c9)).heap.size = w8.heap.size := (by simp); have O10 : Hid (OI (w8.setCell ⟨w.heap.size, 1, none⟩ (.slice a9 (xs.length + 1) c9)) ((w8.setCell ⟨w.heap.size, 1, none⟩ (.slice a9 (xs.length + 1) c9)).alloc (.cells #[.int .i64 2, .slice none 0 0] 24)) 2 (.slice none 0 0) [] []) := mkHid ⟨bal (Below.refl _ _) _, TB.new _ _ _ _ rfl, OwnV.nil _ _, rfl, fun j x c hx => by simp at hx⟩; clear T8 HO8 H8)
          generalize w8.setCell ⟨w.heap.size, 1, none⟩ (.slice a9 (xs.length + 1) c9) = Wk at *
          generalize w8.heap.size = zk at *
          subst hz
          have HM1 := mkHid HL5.out
          have HE9 := mkHid HO9.out.e
          generalize hM1 : M ++ [d] = M1 at *
          clear hM1 o0 o1 p0 p1 y0 y1 yf0 yf1 HO5 D5 HO HL HD64 HDB HDL HXL HL5 hi' hz0' hz1' hz2'
          go_loopw [49] (fun iv wr => ∃ i : Nat, i ≤ n3 ∧ iv = .int .u16 (i : Int) ∧ Hid (∃ v3 ys M2, OI Wk wr 2 v3 ys M2 ∧ LC i M2)) (fun iv _ => n3 - (intOf iv).toNat)
          case atStart => exact ⟨0, Nat.zero_le _, rfl, mkHid ⟨_, _, _, O10.out, .nil⟩⟩
          case round =>
            obtain ⟨i, hi, rfl, H⟩ := hrel
            obtain ⟨v3, ys, M2, hoi, hlc⟩ := H.out
            have HO := mkHid hoi
            have HL := mkHid hlc
            clear H hoi hlc O10
            obtain ⟨a3', c3', rfl⟩ : ∃ a3 c3, v3 = .slice a3 ys.length c3 := HO.out.l.vals.form
            by_cases hlt : i < n3
            · have hk2 : (i : Int) < (n3 : Int) := by omega
              obtain ⟨o0, o1⟩ := HO.out.o.at
              have HW := mkHid (own_new wr Wk.heap.size [-2] HO.out.b.size (by decide))
              have HO1 := mkHid (HO.out.next (bal (Below.refl _ wr) (.cells #[.int .i64 (-2)] 3)))
              have HXL : Hid (ys.length ≤ 1000000) := mkHid (by rw [HO.out.e, HL.out.len]; omega)
              go_wp2_with (at_builtin; refine wpList_appV rfl (.tmp 52) (.tmp 54) rfl (by simp [Act.eval]) (by simp [Act.eval]) (W := wr.alloc (.cells #[.int .i64 (-2)] 3)) (x := .slice (some ⟨wr.heap.size, 0, none⟩) 1 1) HO1.out.l (oneCell_slice _ _ _) HXL.out HO1.out.b.size HO1.out.b ?_; intro v8 w8 H8; obtain ⟨a9', c9', e9⟩ := H8.out.1.vals.form; simp only [List.length_append, List.length_cons, List.length_nil, Nat.zero_add] at e9; subst e9; obtain ⟨T8, HO8⟩ := HO1.out.app1 HW.out H8.out; obtain ⟨y0, y1⟩ := T8.at; obtain ⟨yf0, yf1⟩ := T8.free)
              go_roundw
              case rel => exact ⟨i + 1, by omega, by go_num, mkHid ⟨_, _, _, HO8, HL.out.snoc (by unfold In64; decide)⟩⟩
              case measure => simp [intOf]; omega
            · obtain rfl : i = n3 := by omega
              have hk2 : ¬ (i : Int) < (i : Int) := by omega
              obtain ⟨w10, hw10⟩ : ∃ w10, w10 = wr := ⟨_, rfl⟩
              subst hw10
              have hel : xs.length + 1 = M1.length := by have := HE9.out; simpa using this
              have HT := mkHid (HO9.out.o.grows HO.out.b)
              have HC1 : Hid (Cls w10 (.slice a9 M1.length c9) M1) := mkHid (by have := HO9.out.cls.next HO.out.b; rw [hel] at this; exact this)
              have HTB : Hid (TB w10 w.heap.size 1 (.slice a9 M1.length c9)) := mkHid (by have := HT.out; rw [hel] at this; exact this)
              have hel2 : ys.length = M2.length := HO.out.e
              have HU : Hid (TB w10 Wk.heap.size 2 (.slice a3' M2.length c3')) := mkHid (by have := HO.out.o; rw [hel2] at this; exact this)
              have HC2 : Hid (Cls w10 (.slice a3' M2.length c3') M2) := mkHid (by have := HO.out.cls; rw [hel2] at this; exact this)
              have HB10 := mkHid (bnx HO9.out.b HO.out.b)
              have TH1 : Hid (∀ W, Below w10.heap.size w10 W → Th W (.slice a9 M1.length c9) M1) := mkHid (fun W hb => HM1.out.th (by omega) (HC1.out.next hb))
              have TH2 : Hid (∀ W, Below w10.heap.size w10 W → Th W (.slice a3' M2.length c3') M2) := mkHid (fun W hb => HL.out.th (by omega) (HC2.out.next hb))
              have CJ := mkHid (fun W (hb : Below w10.heap.size w10 W) => join_any 1 2 (.slice a9 M1.length c9) (.slice a3' M2.length c3') M1 M2 W (TH1.out W hb) (TH2.out W hb))
              have CR := mkHid (fun W (hb : Below w10.heap.size w10 W) => rjoin_any 1 2 (.slice a9 M1.length c9) (.slice a3' M2.length c3') M1 M2 W (TH1.out W hb) (TH2.out W hb))
              have CK := mkHid (fun W (hb : Below w10.heap.size w10 W) => check_any 1 (.slice a9 M1.length c9) M1 W (TH1.out W hb))
              have CS := mkHid (fun W (hb : Below w10.heap.size w10 W) => rcheck_any 1 (.slice a9 M1.length c9) M1 W (TH1.out W hb))
              have HRs : Hid ((if jnE 1 M1 2 M2 = 0 then M1 ++ M2 else []).length ≤ 1000000 ∧ ∀ c ∈ (if jnE 1 M1 2 M2 = 0 then M1 ++ M2 else []), c.length ≤ 1000000) := mkHid (by
                split
                · refine ⟨by rw [List.length_append, HM1.out.len, HL.out.len]; omega, fun c hc => ?_⟩
                  rcases List.mem_append.1 hc with hc | hc
                  · have := (HM1.out.c c hc).1; omega
                  · have := (HL.out.c c hc).1; omega
                · exact ⟨by simp, fun c hc => by simp at hc⟩)
              generalize (if jnE 1 M1 2 M2 = 0 then max (1 : Int) 2 else 0) = pn at *
              generalize (if jnE 1 M1 2 M2 = 0 then M1 ++ M2 else []) = R at *
              generalize jnE 1 M1 2 M2 = qe at *
              generalize ckT 1 M1 = qk at *
              obtain ⟨t0, t1⟩ := HTB.out.at
              obtain ⟨u0, u1⟩ := HU.out.at
              clear hel hel2 HT HO9 HO HL HM1 HE9
              go_wp2_with (first
                | (go_at_call 28; (with_reducible refine (CJ.out _ (Below.refl _ _)).mono ?_); rintro e w11 ⟨x11, rfl, h11⟩; obtain ⟨a11, c11, rfl⟩ := h11.out.1.form;
                    have b11 : Below w11.heap.size w11 (w11.alloc (.cells #[.int .i64 pn, .slice a11 R.length c11] 24)) := bal (Below.refl _ _) _;
                    have B11 := mkHid (bnx h11.out.2 b11); have T11 := mkHid (TB.new w11 w11.heap.size pn (.slice a11 R.length c11) rfl); have C11 := mkHid (h11.out.1.cls.next b11); have TT11 := mkHid (HTB.out.grows B11.out); have TU11 := mkHid (HU.out.grows B11.out); obtain ⟨v0, v1⟩ := TT11.out.at; obtain ⟨x0, x1⟩ := TU11.out.at; clear h11 b11)
                | (go_at_call 29; (with_reducible refine (CR.out _ B11.out).mono ?_); rintro e w13 ⟨x13, rfl, h13⟩; obtain ⟨a13, c13, rfl⟩ := h13.out.1.form;
                    have b13 : Below w13.heap.size w13 (w13.alloc (.cells #[.int .i64 pn, .slice a13 R.length c13] 24)) := bal (Below.refl _ _) _;
                    have S13 : Hid (LL w10 (w13.alloc (.cells #[.int .i64 pn, .slice a13 R.length c13] 24)) w.heap.size w11.heap.size w13.heap.size pn (.slice a9 M1.length c9) (.slice a11 R.length c11) (.slice a13 R.length c13) R) := mkHid ⟨(TT11.out.grows h13.out.2).grows b13, (T11.out.grows h13.out.2).grows b13, TB.new _ _ _ _ rfl, (C11.out.next h13.out.2).next b13, h13.out.1.cls.next b13, bnx B11.out (bnx h13.out.2 b13)⟩; clear h13 b13))
              have hs0 := S13.out.drew
              obtain ⟨m0, m1⟩ := S13.out.t.at
              obtain ⟨g0, g1⟩ := S13.out.a.at
              obtain ⟨k0, k1⟩ := S13.out.b.at
              clear t0 t1 u0 u1 v0 v1 x0 x1
              go_region_held3 (fun W => LL w10 W w.heap.size w11.heap.size w13.heap.size pn (.slice a9 M1.length c9) (.slice a11 R.length c11) (.slice a13 R.length c13) R ∧ W.cell? ⟨w.heap.size, 0, none⟩ = some (.int .i64 1) ∧ W.cell? ⟨w.heap.size, 1, none⟩ = some (.slice a9 M1.length c9) ∧ W.cell? ⟨w11.heap.size, 0, none⟩ = some (.int .i64 pn) ∧ W.cell? ⟨w11.heap.size, 1, none⟩ = some (.slice a11 R.length c11) ∧ W.cell? ⟨w13.heap.size, 0, none⟩ = some (.int .i64 pn) ∧ W.cell? ⟨w13.heap.size, 1, none⟩ = some (.slice a13 R.length c13))
                (first
                  | (with_reducible exact ⟨hS.1.next hw, cell_grows hw hS.2.1, cell_grows hw hS.2.2.1, cell_grows hw hS.2.2.2.1, cell_grows hw hS.2.2.2.2.1, cell_grows hw hS.2.2.2.2.2.1, cell_grows hw hS.2.2.2.2.2.2⟩)
                  | exact ⟨hs0, m0, m1, g0, g1, k0, k1⟩)
                (first
                  | (go_at_call 17; have hS : LL w10 _ _ _ _ _ _ _ _ _ ∧ _ := (by assumption); ((with_reducible refine (CK.out _ hS.1.w).mono ?_); rintro e w14 ⟨rfl, hw⟩))
                  | (go_at_call 18; have hS : LL w10 _ _ _ _ _ _ _ _ _ ∧ _ := (by assumption); ((with_reducible refine (CS.out _ hS.1.w).mono ?_); rintro e w14 ⟨rfl, hw⟩))
                  | (go_at_call 22; have hS : LL w10 _ _ _ _ _ _ _ _ _ ∧ _ := (by assumption); ((with_reducible refine (rsame_yes pn _ _ R _ hS.1.c hS.1.d HRs.out.1 HRs.out.2).mono ?_); rintro e w14 ⟨rfl, hw⟩))
                  | (go_at_call 16; have hS : LL w10 _ _ _ _ _ _ _ _ _ ∧ _ := (by assumption); ((with_reducible refine (CW.out _).mono ?_); rintro e w14 ⟨rfl, hw⟩)))
              all_goals
                have hT' : LL w10 _ _ _ _ _ _ _ _ _ ∧ _ := (by assumption)
                go_wp2
                go_ret
                exact ⟨by simp, bnx HB10.out hT'.1.w⟩
end Go.Proofs.Ytalpbpcanebbbaa
