/- Contract of Join. -/
import Derived.Test.YtalpbpcanebbbaaUD
import Derived.Test.YtalpbpcanebbbaaTGb
namespace Go.Proofs.Ytalpbpcanebbbaa
open Go.RowKit VM LM TM

theorem orE_new (a b : Int) (W : World) :
    Calls Try.prog 68 #[.slice (some ⟨W.heap.size, 0, none⟩) 2 2] (W.alloc (.cells #[.int .i64 a, .int .i64 b] 27)) fun e w' => e = .returned (.int .i64 (orE a b)) ∧ Below (W.alloc (.cells #[.int .i64 a, .int .i64 b] 27)).heap.size (W.alloc (.cells #[.int .i64 a, .int .i64 b] 27)) w' :=
  (orE_any a b _ _ (new2 W _ _ _).1 (new2 W _ _ _).2).mono fun e w' ⟨h1, h2⟩ => ⟨h1, by rw [h2]; exact Below.refl _ _⟩
theorem cell_gr {w : World} {b off : Nat} {v : Value} (h : w.cell? ⟨b, off, none⟩ = some v) (o : Obj) : (w.alloc o).cell? ⟨b, off, none⟩ = some v := cell_grows (bal (Below.refl _ _) o) h
theorem jnE_or (n : Int) (L : List (List Int)) (m : Int) (K : List (List Int)) : jnE n L m K = if orE (ckT n L) (ckT m K) = 0 then (if 4096 < L.length + K.length then 2 else 0) else orE (ckT n L) (ckT m K) := by
  unfold jnE orE
  by_cases h : ckT n L = 0
  · rw [if_pos h, if_pos h]
  · rw [if_neg h, if_neg h, if_neg h]
theorem orE_zero {a b : Int} : orE a b = 0 ↔ a = 0 ∧ b = 0 := by
  unfold orE
  by_cases h : a = 0
  · rw [if_pos h]; simp [h]
  · rw [if_neg h]; simp [h]
/-- The two theories and the result, in boxes. -/
structure JS (w W : World) (n m : Int) (v u : Value) : Prop where
  t : TB W w.heap.size n v
  s : TB W (w.heap.size + 1) m u
  r : TB W (w.heap.size + 1 + 1) 0 (.slice none 0 0)
  b : Below w.heap.size w W
theorem JS.next {w W W' : World} {n m : Int} {v u : Value} (H : JS w W n m v u) (hb : Below W.heap.size W W') : JS w W' n m v u := ⟨H.t.grows hb, H.s.grows hb, H.r.grows hb, bnx H.b hb⟩
theorem JS.drew {w W : World} {n m : Int} {v u : Value} (H : JS w W n m v u) : JS w W.drew n m v u := H.next (Below.refl _ _).drew
theorem JS.alloc {w W : World} {n m : Int} {v u : Value} (H : JS w W n m v u) (o : Obj) : JS w (W.alloc o) n m v u := H.next (bal (Below.refl _ _) o)
theorem OwnV.cells {W : World} {base : Nat} {v : Value} {xs : List Value} (h : OwnV W base v xs) : ∃ ao cap, v = .slice ao xs.length cap ∧ ∀ j x, xs[j]? = some x → ∃ b off, ao = some ⟨b, off, none⟩ ∧ W.cell? ⟨b, off + j, none⟩ = some x ∧ base ≤ b ∧ b < W.heap.size := by
  obtain ⟨ao, cap, e, hc⟩ := h.vals
  refine ⟨ao, cap, e, fun j x hj => ?_⟩
  obtain ⟨b, off, e1, h1⟩ := hc j x hj
  refine ⟨b, off, e1, h1, (h.block (k := b) (by rw [e, e1]; rfl)).1, World.block_lt_of_cell? W _ h1⟩
theorem Rows.append {w : World} {xs ys : List Value} {L K : List (List Int)} (h : Rows w xs L) (k : Rows w ys K) : Rows w (xs ++ ys) (L ++ K) := by
  refine ⟨by simp [h.1, k.1], fun j x c h1 h2 => ?_⟩
  rcases Nat.lt_or_ge j xs.length with hl | hl
  · rw [List.getElem?_append_left hl] at h1
    rw [List.getElem?_append_left (by have := h.1; omega)] at h2
    exact h.2 j x c h1 h2
  · rw [List.getElem?_append_right hl] at h1
    rw [List.getElem?_append_right (by have := h.1; omega), ← h.1] at h2
    exact k.2 _ x c h1 h2
theorem concat_new (x y : Value) (xs ys : List Value) (W : World) (k : Nat) (t : TypeId) (hk : k = W.heap.size) (hx : Vals W x xs) (hy : Vals W y ys)
    (ox : ∀ u ∈ xs, u.oneCell' = true) (oy : ∀ u ∈ ys, u.oneCell' = true) (hl : xs.length + ys.length ≤ 1000000) :
    Calls Try.prog 69 #[.slice (some ⟨k, 0, none⟩) 2 2] (W.alloc (.cells #[x, y] t)) fun e w' => ∃ v, e = .returned v ∧ Hid (OwnV w' (k + 1) v (xs ++ ys) ∧ Below (W.alloc (.cells #[x, y] t)).heap.size (W.alloc (.cells #[x, y] t)) w') := by
  subst hk
  have := concat_any x y xs ys W.heap.size (W.alloc (.cells #[x, y] t)) (new2 W x y t).1 (new2 W x y t).2 (hx.next (bal (Below.refl _ _) _)) (hy.next (bal (Below.refl _ _) _)) ox oy hl
  simpa using this
/-- The conjunction that is being made. -/
structure KI (w2 W : World) (b3 : Nat) (n : Int) (v3 : Value) (ys : List Value) (M : List (List Int)) : Prop where
  x : BX w2.heap.size b3 w2 W
  o : TB W b3 n v3
  l : OwnV W w2.heap.size v3 ys
  k : RowsO W w2.heap.size ys M
theorem KI.next {w2 W W' : World} {b3 : Nat} {n : Int} {v3 : Value} {ys : List Value} {M : List (List Int)} (H : KI w2 W b3 n v3 ys M) (hb : Below W.heap.size W W') : KI w2 W' b3 n v3 ys M :=
  ⟨H.x.next H.x.size hb, H.o.grows hb, H.l.below hb, H.k.below hb⟩
set_option maxRecDepth 100000 in
set_option maxHeartbeats 8000000 in
theorem join_any (n m : Int) (v u : Value) (L K : List (List Int)) (w : World) (h : Th w v L) (k : Th w u K) :
    Calls Try.prog 28 #[.agg #[.int .i64 n, v], .agg #[.int .i64 m, u]] w fun e w' => ∃ x, e = .returned (.tuple #[.agg #[.int .i64 (if jnE n L m K = 0 then max n m else 0), x], .int .i64 (jnE n L m K)]) ∧
      Hid (OwnC w' w.heap.size x (if jnE n L m K = 0 then L ++ K else []) ∧ Below w.heap.size w w') := by
  have CA := mkHid (fun W (hb : Below w.heap.size w W) => check_any n v L W (h.next hb))
  have CB := mkHid (fun W (hb : Below w.heap.size w W) => check_any m u K W (k.next hb))
  have H0 : Hid (JS w (((w.alloc (.cells #[.int .i64 n, v] 24)).alloc (.cells #[.int .i64 m, u] 24)).alloc (.cells #[.int .i64 0, .slice none 0 0] 24)) n m v u) := mkHid
    ⟨((TB.new w w.heap.size n v rfl).grows (bal (Below.refl _ _) _)).grows (bal (Below.refl _ _) _), (TB.new _ _ _ _ (by simp)).grows (bal (Below.refl _ _) _), TB.new _ _ _ _ (by simp), bal (bal (bal (Below.refl _ w) _) _) _⟩
  have HT := mkHid h
  have HK := mkHid k
  obtain ⟨ao, cap, rfl⟩ := h.cls.form
  obtain ⟨bo, dap, rfl⟩ := k.cls.form
  have hlen := h.len
  have klen := k.len
  obtain ⟨t0, t1⟩ := H0.out.t.at
  obtain ⟨s0, s1⟩ := H0.out.s.at
  have hs0 := H0.out.drew
  have HJ := mkHid (jnE_or n L m K)
  have HZ := mkHid (@orE_zero (ckT n L) (ckT m K))
  have HC1 := mkHid (@ckT_zero n L)
  have HC2 := mkHid (@ckT_zero m K)
  generalize jnE n L m K = q at *
  generalize hN : (if q = 0 then max n m else 0) = N
  generalize hM : (if q = 0 then L ++ K else []) = M
  have HN := mkHid hN
  have HM := mkHid hM
  clear hN hM
  clear h k
  generalize ckT n L = q1 at *
  generalize ckT m K = q2 at *
  have CO := mkHid (fun W => orE_new q1 q2 W)
  generalize orE q1 q2 = q0 at *
  go_enter Try.func28, Try.ntmps28
  go_wp2
  go_region_held3 (fun W => JS w W n m (.slice ao L.length cap) (.slice bo K.length dap) ∧ W.cell? ⟨w.heap.size, 0, none⟩ = some (.int .i64 n) ∧ W.cell? ⟨w.heap.size, 1, none⟩ = some (.slice ao L.length cap) ∧ W.cell? ⟨w.heap.size + 1, 0, none⟩ = some (.int .i64 m) ∧ W.cell? ⟨w.heap.size + 1, 1, none⟩ = some (.slice bo K.length dap))
    (first
      | (with_reducible exact ⟨hS.1.next hw, cell_grows hw hS.2.1, cell_grows hw hS.2.2.1, cell_grows hw hS.2.2.2.1, cell_grows hw hS.2.2.2.2⟩)
      | (have hT : JS w _ _ _ _ _ ∧ _ := (by assumption); with_reducible exact ⟨hT.1.alloc _, cell_gr hT.2.1 _, cell_gr hT.2.2.1 _, cell_gr hT.2.2.2.1 _, cell_gr hT.2.2.2.2 _⟩)
      | (with_reducible exact ⟨(hS.1.next hw).alloc _, cell_gr (cell_grows hw hS.2.1) _, cell_gr (cell_grows hw hS.2.2.1) _, cell_gr (cell_grows hw hS.2.2.2.1) _, cell_gr (cell_grows hw hS.2.2.2.2) _⟩)
      | exact ⟨hs0, t0, t1, s0, s1⟩)
    (first
      | (go_at_call 17; have hS : JS w _ _ _ _ _ ∧ _ := (by assumption); ((with_reducible refine (CA.out _ hS.1.b).mono ?_); rintro e w6 ⟨rfl, hw⟩))
      | (go_at_call 17; have hS : JS w _ _ _ _ _ ∧ _ := (by assumption); ((with_reducible refine (CB.out _ hS.1.b).mono ?_); rintro e w6 ⟨rfl, hw⟩))
      | (go_at_call 68; have hS : JS w _ _ _ _ _ ∧ _ := (by assumption); ((with_reducible refine (CO.out _).mono ?_); rintro e w6 ⟨rfl, hw⟩)))
  all_goals
    have hT' : JS w _ _ _ _ _ ∧ _ := (by assumption)
    have H6 := mkHid hT'.1
    clear hT'
    obtain ⟨r0, r1⟩ := H6.out.r.at
    obtain ⟨rf0, rf1⟩ := H6.out.r.free
    by_cases hq : q0 = 0
    · have HQ : Hid (q = if 4096 < L.length + K.length then 2 else 0) := mkHid (by rw [HJ.out, if_pos hq])
      have HQ2 := mkHid (HZ.out.1 hq)
      by_cases hbig : 4096 < (L.length : Int) + (K.length : Int)
      · have hb1 : (L.length : Int) ≤ 4096 := by have := (HC1.out.1 HQ2.out.1).2.1; omega
        have hb2 : (K.length : Int) ≤ 4096 := by have := (HC2.out.1 HQ2.out.2).2.1; omega
        have HF : Hid (q = 2 ∧ N = 0 ∧ M = []) := mkHid (by
          have e : q = 2 := by rw [HQ.out, if_pos (by omega)]
          subst e
          exact ⟨rfl, by rw [← HN.out, if_neg (by omega)], by rw [← HM.out, if_neg (by omega)]⟩)
        clear HJ HQ HC1 HC2 HZ CA CB CO HQ2 HN HM
        go_wp2
        refine bodyPost_ret (v := .tuple #[.agg #[.int .i64 0, .slice none 0 0], .int .i64 2]) (by simp [results, Try.results28, go_sem, r0, r1]) rfl ?_
        exact ⟨_, by rw [HF.out.1, HF.out.2.1], mkHid ⟨by rw [HF.out.2.2]; exact OwnC.nil _ _, bst2 H6.out.b _ (by omega) _ _⟩⟩
      · have HF : Hid (q = 0 ∧ N = max n m ∧ M = L ++ K) := mkHid (by
          have e : q = 0 := by rw [HQ.out, if_neg (by omega)]
          subst e
          exact ⟨rfl, by rw [← HN.out, if_pos rfl], by rw [← HM.out, if_pos rfl]⟩)
        have HSM : Hid (L.length + K.length ≤ 4096) := mkHid (by omega)
        have HV : Hid (∀ c ∈ L ++ K, c.length ≤ 128) := mkHid (by
          intro c hc
          rcases List.mem_append.1 hc with hc | hc
          · exact ((HC1.out.1 HQ2.out.1).2.2 c hc).1
          · exact ((HC2.out.1 HQ2.out.2).2.2 c hc).1)
        have hb1 : (L.length : Int) ≤ 4096 := by omega
        have hb2 : (K.length : Int) ≤ 4096 := by omega
        clear HJ HQ HC1 HC2 HZ CA CB CO HQ2 HN HM
        obtain ⟨xs, hxv, hxr⟩ := HT.out.cls.vals
        obtain ⟨ys, hyv, hyr⟩ := HK.out.cls.vals
        have B7 : Below w.heap.size w (w6.alloc (.cells #[.int .i64 (max n m), .slice none 0 0] 24)) := bal H6.out.b _
        have CC := mkHid (concat_new (.slice ao L.length cap) (.slice bo K.length dap) xs ys (w6.alloc (.cells #[.int .i64 (max n m), .slice none 0 0] 24)) (w6.heap.size + 1) 22 (by simp) (hxv.next B7) (hyv.next B7) hxr.one hyr.one (by have := hxr.1; have := hyr.1; have := HSM.out; omega))
        have HR := mkHid (hxr.append hyr)
        have O7 := mkHid (TB.new w6 w6.heap.size (max n m) (.slice none 0 0) rfl)
        have J7 := mkHid (H6.out.alloc (.cells #[.int .i64 (max n m), .slice none 0 0] 24))
        obtain ⟨p0, p1⟩ := J7.out.t.at
        obtain ⟨v0, v1⟩ := J7.out.s.at
        clear hxv hyv hxr hyr B7
        have LZ : Hid ((xs ++ ys).length ≤ 4096) := mkHid (by rw [HR.out.1, List.length_append]; exact HSM.out)
        generalize xs ++ ys = Z at *
        generalize L ++ K = LK at *
        have HRL := mkHid HR.out.1
        have hb3 := H6.out.r.lt
        go_wp2_with (go_at_call 69; refine CC.out.mono ?_; rintro e w7 ⟨v7, rfl, h7⟩; obtain ⟨a7, c7, rfl, hc7⟩ := h7.out.1.cells)
        have HC7 := mkHid hc7
        have O8 := mkHid ((O7.out.grows (bal (Below.refl _ _) _)).grows h7.out.2)
        have J8 := mkHid ((J7.out.alloc _).next h7.out.2)
        have K8 : Hid (KI w7 w7 w6.heap.size (max n m) (.slice none 0 0) [] []) := mkHid ⟨BX.of (Below.refl _ _), O8.out, OwnV.nil _ _, RowsO.nil _ _⟩
        have hb4 := O8.out.lt
        generalize w6.heap.size = b3 at *
        clear hc7 p0 p1 v0 v1 r0 r1 rf0 rf1 t0 t1 s0 s1 hs0 CC O7 J7 h7
        go_loopw [42] (fun iv wr => ∃ k : Nat, k ≤ Z.length ∧ iv = .int .i64 (k : Int) ∧ Hid (∃ v3 zs, KI w7 wr b3 (max n m) v3 zs (LK.take k))) (fun iv _ => Z.length - (intOf iv).toNat)
        case atStart => exact ⟨0, Nat.zero_le _, rfl, mkHid ⟨_, _, K8.out⟩⟩
        case round =>
          obtain ⟨k, hk, rfl, H⟩ := hrel
          obtain ⟨v3, zs, hki⟩ := H.out
          have HH := mkHid hki
          clear H hki K8
          by_cases hlt : k < Z.length
          · obtain ⟨x, hx⟩ : ∃ x, Z[k]? = some x := ⟨Z[k], List.getElem?_eq_getElem hlt⟩
            obtain ⟨c, hc⟩ : ∃ c, LK[k]? = some c := ⟨LK[k]'(by rw [← HRL.out]; exact hlt), List.getElem?_eq_getElem _⟩
            obtain ⟨b, off, rfl, hcx, hbb, hbl⟩ := HC7.out k x hx
            have q1 := HH.out.x.cell hcx hbl (by omega)
            have hi := HR.out.2 k x c hx hc
            have hcl := HV.out c (List.mem_of_getElem? hc)
            have hk1 : (k : Int) < (Z.length : Int) := by omega
            have hk0 : (0 : Int) ≤ (k : Int) := by omega
            have HE : Hid (LK.take (k + 1) = LK.take k ++ [c]) := mkHid (by rw [List.take_add_one, hc]; rfl)
            have hlz := LZ.out
            have HXL : Hid (zs.length ≤ 4096) := mkHid (by rw [HH.out.k.1, List.length_take]; have := LZ.out; omega)
            have HBw := mkHid (HH.out.x.below J8.out.b J8.out.b.size (by omega))
            have HI := mkHid (hi.next HBw.out)
            obtain ⟨ac, cc, rfl⟩ := hi.form
            obtain ⟨a3, c3, e3⟩ : ∃ a3 c3, v3 = .slice a3 zs.length c3 := HH.out.l.vals.form
            subst e3
            obtain ⟨o0, o1⟩ := HH.out.o.at
            have CL := mkHid (fun W (hb : Below wr.heap.size wr W) => clone_any (.slice ac c.length cc) c W (HI.out.next hb) (by omega))
            clear hx hc hi hcx
            go_wp2
            go_region_law (first
              | (go_simp; go_at_call 64; refine (CL.out wr.drew (Below.refl _ _).drew).mono ?_; rintro e w8 ⟨u8, rfl, ho8, hb8⟩; have N8 := mkHid ((HH.out.next (Below.refl _ _).drew).next hb8); have O8' := mkHid (ho8.wk (base' := w7.heap.size) HH.out.x.size); obtain ⟨a8, c8, rfl⟩ := ho8.ints.form; obtain ⟨u0, u1⟩ := N8.out.o.at; obtain ⟨m0, m1⟩ := (N8.out.o.grows (bal (Below.refl _ w8) (.cells #[.slice a8 c.length c8] 38))).at; clear ho8 hb8)
              | (refine step_appV rfl (.tmp 47) (.tmp 50) rfl (by simp [Act.eval]) (by simp [Act.eval]) (x := .slice a8 c.length c8) (w := w8) N8.out.l (oneCell_slice _ _ _) (by have := HXL.out; omega) N8.out.x.size (Below.refl _ _) ?_; intro v9 w9 H9; have T9 := mkHid (N8.out.o.app N8.out.l H9.out.2.1); obtain ⟨a9, c9, rfl⟩ := H9.out.1.vals.form; obtain ⟨y0, y1⟩ := T9.out.at; obtain ⟨yf0, yf1⟩ := T9.out.free))
            all_goals
              go_wp2
              go_roundw
              case rel =>
                refine ⟨k + 1, by omega, by go_num, mkHid ⟨_, zs ++ [Value.slice a8 c.length c8], ⟨(N8.out.x.trans (BX.of H9.out.2.2)).set _, T9.out.set1 _, ?_, ?_⟩⟩⟩
                · have := H9.out.1.set (o := 1) (u' := .slice a9 (zs ++ [Value.slice a8 c.length c8]).length c9) T9.out
                  rw [List.length_append] at this
                  exact this
                · rw [HE.out]; exact (N8.out.k.app N8.out.l O8'.out H9.out.2.1).setT T9.out
              case measure => simp [intOf]; omega
          · have hk1 : ¬ (k : Int) < (Z.length : Int) := by omega
            have HE : Hid (LK.take k = LK) := mkHid (by rw [List.take_of_length_le (by have := HRL.out; omega)])
            obtain ⟨a3, c3, e3⟩ : ∃ a3 c3, v3 = .slice a3 zs.length c3 := HH.out.l.vals.form
            subst e3
            obtain ⟨o0, o1⟩ := HH.out.o.at
            have RR := mkHid (HH.out.x.tb J8.out.r (by have := J8.out.r.lt; omega) (by omega))
            obtain ⟨r0, r1⟩ := RR.out.at
            obtain ⟨rf0, rf1⟩ := RR.out.free
            go_wp2
            refine bodyPost_ret (v := .tuple #[.agg #[.int .i64 (max n m), .slice a3 zs.length c3], .int .i64 0]) (by simp [results, Try.results28, go_sem, r0, r1]) rfl ?_
            have hoc : OwnC wr w.heap.size (.slice a3 zs.length c3) LK := ⟨zs, HH.out.l.weaken J8.out.b.size, by rw [← HE.out]; exact HH.out.k.weaken J8.out.b.size⟩
            exact ⟨_, by rw [HF.out.1, HF.out.2.1], mkHid ⟨by rw [HF.out.2.2]; exact hoc.setB RR.out _, bst2 (HH.out.x.below J8.out.b J8.out.b.size (by omega)) _ (by omega) _ _⟩⟩
    · have HF : Hid (q = q0 ∧ N = 0 ∧ M = []) := mkHid (by
        have e : q = q0 := by rw [HJ.out, if_neg hq]
        subst e
        exact ⟨rfl, by rw [← HN.out, if_neg hq], by rw [← HM.out, if_neg hq]⟩)
      clear HJ HC1 HC2 HZ CA CB CO HN HM
      go_wp2
      refine bodyPost_ret (v := .tuple #[.agg #[.int .i64 0, .slice none 0 0], .int .i64 q0]) (by simp [results, Try.results28, go_sem, r0, r1]) rfl ?_
      exact ⟨_, by rw [HF.out.1, HF.out.2.1], mkHid ⟨by rw [HF.out.2.2]; exact OwnC.nil _ _, bst2 H6.out.b _ (by omega) _ _⟩⟩
end Go.Proofs.Ytalpbpcanebbbaa
