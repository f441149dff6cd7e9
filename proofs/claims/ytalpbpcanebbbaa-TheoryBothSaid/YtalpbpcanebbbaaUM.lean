/- The law TheoryBoth. -/
import Derived.Test.YtalpbpcanebbbaaUL
namespace Go.Proofs.Ytalpbpcanebbbaa
open Go.RowKit VM LM TM

/-- The two theories and their conjunction. -/
structure JK (w W : World) (n m p : Int) (b3 : Nat) (v u x : Value) (K M Q : List (List Int)) : Prop where
  j : JB w W n m v u
  o : TB W b3 p x
  k : Cls W v K
  m : Cls W u M
  l : Cls W x Q
theorem JK.next {w W W' : World} {n m p : Int} {b3 : Nat} {v u x : Value} {K M Q : List (List Int)} (H : JK w W n m p b3 v u x K M Q) (hb : Below W.heap.size W W') : JK w W' n m p b3 v u x K M Q :=
  ⟨H.j.next hb, H.o.grows hb, H.k.next hb, H.m.next hb, H.l.next hb⟩
theorem JK.drew {w W : World} {n m p : Int} {b3 : Nat} {v u x : Value} {K M Q : List (List Int)} (H : JK w W n m p b3 v u x K M Q) : JK w W.drew n m p b3 v u x K M Q := H.next (Below.refl _ _).drew
set_option maxRecDepth 100000 in
set_option maxHeartbeats 8000000 in
theorem both_law (n0 : Int) (v : Value) (L : List (List Int)) (m0 : Int) (u : Value) (R : List (List Int)) (q r : Int) (w : World) (_ : In64 n0) (h : Th w v L) (_ : In64 m0) (g : Th w u R) (hq : 0 ≤ q ∧ q ≤ 255) (hr : 0 ≤ r ∧ r ≤ 255) :
    Calls Try.prog 13 #[.agg #[.int .i64 n0, v], .agg #[.int .i64 m0, u], .int .u8 q, .int .u8 r] w fun e w' => e = .returned (.bool true) ∧ Below w.heap.size w w' := by
  obtain ⟨n, hn⟩ : ∃ n : Nat, q % 8 = (n : Int) := ⟨(q % 8).toNat, by omega⟩
  obtain ⟨m, hm⟩ : ∃ m : Nat, r % 8 = (m : Int) := ⟨(r % 8).toNat, by omega⟩
  have hn8 : n ≤ 8 := by omega
  have hm8 : m ≤ 8 := by omega
  have eq0 : q.tmod 8 = (n : Int) := by rw [Int.tmod_eq_emod_of_nonneg hq.1, hn]
  have er0 : r.tmod 8 = (m : Int) := by rw [Int.tmod_eq_emod_of_nonneg hr.1, hm]
  have en1 : IntKind.u8.wrap (n : Int) = n := by rw [IntKind.wrap_u8]; omega
  have em1 : IntKind.u8.wrap (m : Int) = m := by rw [IntKind.wrap_u8]; omega
  have en2 : IntKind.i64.wrap (n : Int) = n := IntWalk.i64_in _ (by omega)
  have em2 : IntKind.i64.wrap (m : Int) = m := IntWalk.i64_in _ (by omega)
  have CL := mkHid (fun W (hb : Below w.heap.size w W) => light_any n0 v L W (h.next hb))
  have CR := mkHid (fun W (hb : Below w.heap.size w W) => light_any m0 u R W (g.next hb))
  have CW := mkHid (fun W => works_any W)
  have H0 : Hid (JB w ((w.alloc (.cells #[.int .i64 n0, v] 24)).alloc (.cells #[.int .i64 m0, u] 24)) n0 m0 v u) := mkHid ⟨(TB.new w _ n0 v rfl).grows (bal (Below.refl _ _) _), TB.new _ _ _ _ (by simp), bal (bal (Below.refl _ w) _) _⟩
  obtain ⟨a0, a1⟩ := H0.out.t.at
  obtain ⟨s0, s1⟩ := H0.out.s.at
  obtain ⟨ao, cap, rfl⟩ := h.cls.form
  obtain ⟨bo, dap, rfl⟩ := g.cls.form
  cases hl : lightB L
  · simp only [hl] at CL
    clear h g
    go_enter Try.func13, Try.ntmps13
    go_wp2_with (first
      | (go_at_call 15; (with_reducible refine (CL.out _ H0.out.b).mono ?_); rintro e w1 ⟨rfl, hb⟩; have H1 := mkHid (H0.out.next hb); clear hb)
      | (go_at_call 16; refine (CW.out _).mono ?_; rintro e w2 ⟨rfl, hb⟩; have H2 := mkHid (H1.out.next hb); clear hb))
    go_ret
    exact ⟨rfl, H2.out.b⟩
  · simp only [hl] at CL
    cases hl2 : lightB R
    · simp only [hl2] at CR
      clear h g
      go_enter Try.func13, Try.ntmps13
      go_wp2_with (first
        | (go_at_call 15; (with_reducible refine (CL.out _ H0.out.b).mono ?_); rintro e w1 ⟨rfl, hb⟩; have H1 := mkHid (H0.out.next hb); obtain ⟨b0, b1⟩ := H1.out.s.at; clear hb)
        | (go_at_call 15; (with_reducible refine (CR.out _ H1.out.b).mono ?_); rintro e w3 ⟨rfl, hb⟩; have H3 := mkHid (H1.out.next hb); clear hb)
        | (go_at_call 16; refine (CW.out _).mono ?_; rintro e w2 ⟨rfl, hb⟩; have H2 := mkHid (H3.out.next hb); clear hb))
      go_ret
      exact ⟨rfl, H2.out.b⟩
    · simp only [hl2] at CR
      have LB := mkHid (light_spec hl)
      have RB := mkHid (light_spec hl2)
      have CF := mkHid (fun W (hb : Below w.heap.size w W) => few_any n0 n (by omega) _ L W (h.next hb) LB.out.1 LB.out.2)
      have CG := mkHid (fun W (hb : Below w.heap.size w W) => few_any m0 m (by omega) _ R W (g.next hb) RB.out.1 RB.out.2)
      clear h g hl hl2
      go_enter Try.func13, Try.ntmps13
      go_wp2_with (first
        | (go_at_call 15; (with_reducible refine (CL.out _ H0.out.b).mono ?_); rintro e w1 ⟨rfl, hb⟩; have H1 := mkHid (H0.out.next hb); obtain ⟨b0, b1⟩ := H1.out.s.at; clear hb)
        | (go_at_call 15; (with_reducible refine (CR.out _ H1.out.b).mono ?_); rintro e w3 ⟨rfl, hb⟩; have H3 := mkHid (H1.out.next hb); clear hb))
      clear a0 a1 s0 s1 b0 b1
      obtain ⟨a0, a1⟩ := H3.out.t.at
      obtain ⟨s0, s1⟩ := H3.out.s.at
      have H3d := mkHid H3.out.drew
      go_cut [25] from 21 to 30 (fun v25 wx => ∃ (K M : List (List Int)) (a2 a3 : Option Addr) (c2 c3 : Nat), v25 = .agg #[.int .i64 (n : Int), .slice a2 K.length c2] ∧ Hid (JB w wx (n : Int) (m : Int) (.slice a2 K.length c2) (.slice a3 M.length c3) ∧ Cls wx (.slice a2 K.length c2) K ∧ Cls wx (.slice a3 M.length c3) M ∧ JF n m K M))
      case first =>
        go_region_law (first
          | (go_simp; go_at_call 32; (with_reducible refine (CF.out _ H3d.out.b).mono ?_); rintro e w5 ⟨u5, rfl, h5⟩; obtain ⟨K, h5c, h5l, h5f, h5b⟩ := h5.out; obtain ⟨a2, c2, rfl⟩ := h5c.form; have HA := mkHid (H3d.out.next h5b); have FA := mkHid h5c; have JA := mkHid (And.intro h5l h5f); obtain ⟨p0, p1⟩ := HA.out.s.at; clear h5 h5c h5l h5f h5b)
          | (go_simp; go_at_call 32; (with_reducible refine (CG.out _ H3d.out.b).mono ?_); rintro e w5 ⟨u5, rfl, h5⟩; obtain ⟨M, h5c, h5l, h5f, h5b⟩ := h5.out; obtain ⟨a3, c3, rfl⟩ := h5c.form; have HB := mkHid (H3d.out.next h5b); have FB := mkHid h5c; have JB' := mkHid (And.intro h5l h5f); obtain ⟨p0, p1⟩ := HB.out.t.at; clear h5 h5c h5l h5f h5b)
          | (go_simp; go_at_call 32; (with_reducible refine (CF.out _ HB.out.b).mono ?_); rintro e w6 ⟨u5, rfl, h5⟩; obtain ⟨K, h5c, h5l, h5f, h5b⟩ := h5.out; obtain ⟨a2, c2, rfl⟩ := h5c.form; have HE := mkHid (HB.out.next h5b); have FAE := mkHid h5c; have FBE := mkHid (FB.out.below h5b); have JA := mkHid (And.intro h5l h5f); clear h5 h5c h5l h5f h5b; have SW := mkHid ((HE.out.s.off (b' := w.heap.size) (o := 0) (by omega) (.int .i64 (n : Int))).off (b' := w.heap.size) (o := 1) (by omega) (.slice a2 K.length c2)); obtain ⟨e0, e1⟩ := HE.out.t.at; obtain ⟨f0, f1⟩ := HE.out.t.free; obtain ⟨x0, x1⟩ := (HE.out.t.set0 (n : Int)).at; obtain ⟨xf0, xf1⟩ := (HE.out.t.set0 (n : Int)).free; obtain ⟨y0, y1⟩ := SW.out.at; obtain ⟨yf0, yf1⟩ := SW.out.free; obtain ⟨z0, z1⟩ := (SW.out.set0 (m : Int)).at; obtain ⟨zf0, zf1⟩ := (SW.out.set0 (m : Int)).free)
          | (go_simp; go_at_call 32; (with_reducible refine (CG.out _ HA.out.b).mono ?_); rintro e w6 ⟨u5, rfl, h5⟩; obtain ⟨M, h5c, h5l, h5f, h5b⟩ := h5.out; obtain ⟨a3, c3, rfl⟩ := h5c.form; have HE := mkHid (HA.out.next h5b); have FBE := mkHid h5c; have FAE := mkHid (FA.out.below h5b); have JB' := mkHid (And.intro h5l h5f); clear h5 h5c h5l h5f h5b; have SW := mkHid ((HE.out.s.off (b' := w.heap.size) (o := 0) (by omega) (.int .i64 (n : Int))).off (b' := w.heap.size) (o := 1) (by omega) (.slice a2 K.length c2)); obtain ⟨e0, e1⟩ := HE.out.t.at; obtain ⟨f0, f1⟩ := HE.out.t.free; obtain ⟨x0, x1⟩ := (HE.out.t.set0 (n : Int)).at; obtain ⟨xf0, xf1⟩ := (HE.out.t.set0 (n : Int)).free; obtain ⟨y0, y1⟩ := SW.out.at; obtain ⟨yf0, yf1⟩ := SW.out.free; obtain ⟨z0, z1⟩ := (SW.out.set0 (m : Int)).at; obtain ⟨zf0, zf1⟩ := (SW.out.set0 (m : Int)).free))
        all_goals
          go_wp2_with fail
          go_meet
          refine ⟨K, M, a2, a3, c2, c3, rfl, mkHid ⟨⟨((HE.out.t.set (n : Int) (.slice a2 K.length c2)).off (by omega) _).off (by omega) _, SW.out.set (m : Int) (.slice a3 M.length c3), ?_⟩, ?_, ?_, ⟨JA.out.2.ck (by omega) (by have := JA.out.1; have := LB.out.1; omega), JB'.out.2.ck (by omega) (by have := JB'.out.1; have := RB.out.1; omega), by have := JA.out.1; have := LB.out.1; omega, by have := JB'.out.1; have := RB.out.1; omega⟩⟩⟩
          · exact bst2 (bst2 HE.out.b w.heap.size (Nat.le_refl _) _ _) (w.heap.size + 1) (by omega) _ _
          · exact ((FAE.out.setB HE.out.t (v' := .slice a2 K.length c2) (n : Int)).setB SW.out (v' := .slice a3 M.length c3) (m : Int)).cls
          · exact ((FBE.out.setB HE.out.t (v' := .slice a2 K.length c2) (n : Int)).setB SW.out (v' := .slice a3 M.length c3) (m : Int)).cls
      case rest =>
        obtain ⟨K, M, a2, a3, c2, c3, rfl, HC⟩ := hcut
        have HJ := mkHid HC.out.2.2.2
        obtain ⟨p, hp⟩ : ∃ p : Nat, max n m = p := ⟨_, rfl⟩
        have hp8 : p ≤ 8 := by omega
        have hpm : max (n : Int) (m : Int) = (p : Int) := by omega
        have HEV := mkHid (fun k => evT_both (k := k) (n := n) (m := m) (by omega) (by omega) HJ.out.k HJ.out.m (by have := HJ.out.lk; have := HJ.out.lm; omega))
        have CJ := mkHid (join_ok n m (.slice a2 K.length c2) (.slice a3 M.length c3) K M wc HC.out.2.1 HC.out.2.2.1 HJ.out.k HJ.out.m (by have := HJ.out.lk; have := HJ.out.lm; omega))
        have HJC : Hid (ckT (p : Int) (K ++ M) = 0) := mkHid (by
          have := ckT_join HJ.out.k HJ.out.m (by have := HJ.out.lk; have := HJ.out.lm; omega)
          rwa [hpm] at this)
        rw [hp] at CJ HEV
        obtain ⟨N, hN⟩ : ∃ N : Nat, 2 ^ p = N := ⟨_, rfl⟩
        have hN2 : N ≤ 1048576 := by rw [← hN]; exact (pow20 (by omega)).1
        have hsh : IntKind.i64.wrap (2 ^ p) = (N : Int) := by rw [← hN]; exact shl_small (by omega)
        clear a0 a1 s0 s1 H3d H3 H0 CL CR CF CG LB RB hp hN
        obtain ⟨a0, a1⟩ := HC.out.1.t.at
        obtain ⟨s0, s1⟩ := HC.out.1.s.at
        generalize hLK : K ++ M = Q at *
        clear hLK
        go_wp2_with (first
          | (go_at_call 28; (with_reducible refine CJ.out.mono ?_); rintro e w7 ⟨u7, rfl, h7⟩; obtain ⟨a7, c7, rfl⟩ := h7.out.1.form;
              have b7 : Below w7.heap.size w7 (w7.alloc (.cells #[.int .i64 (p : Int), .slice a7 Q.length c7] 24)) := bal (Below.refl _ _) _;
              have B7 := mkHid (bnx h7.out.2 b7);
              have S7 : Hid (JK w (w7.alloc (.cells #[.int .i64 (p : Int), .slice a7 Q.length c7] 24)) (n : Int) (m : Int) (p : Int) w7.heap.size (.slice a2 K.length c2) (.slice a3 M.length c3) (.slice a7 Q.length c7) K M Q) := mkHid ⟨HC.out.1.next B7.out, TB.new _ _ _ _ rfl, HC.out.2.1.next B7.out, HC.out.2.2.1.next B7.out, h7.out.1.cls.next b7⟩;
              obtain ⟨o0, o1⟩ := S7.out.o.at; obtain ⟨e0, e1⟩ := S7.out.j.t.at; obtain ⟨f0, f1⟩ := S7.out.j.s.at; clear h7 b7))
        clear a0 a1 s0 s1 o0 o1 e0 e1 f0 f1 CJ HC B7
        go_loopw [11] (fun kv wr => ∃ k : Nat, k ≤ N ∧ kv = .int .i64 (k : Int) ∧ Hid (JK w wr (n : Int) (m : Int) (p : Int) w7.heap.size (.slice a2 K.length c2) (.slice a3 M.length c3) (.slice a7 Q.length c7) K M Q)) (fun kv _ => N - (intOf kv).toNat)
        case atStart => exact ⟨0, Nat.zero_le _, rfl, S7⟩
        case round =>
          obtain ⟨k, hk, rfl, H⟩ := hrel
          clear S7
          obtain ⟨o0, o1⟩ := H.out.o.at
          obtain ⟨e0, e1⟩ := H.out.j.t.at
          obtain ⟨f0, f1⟩ := H.out.j.s.at
          by_cases hlt : k < N
          · have hk1 : (k : Int) < (N : Int) := by omega
            have HEK := mkHid (HEV.out k)
            have AN := mkHid (fun W => assignment_any k n (by omega) (by omega) W)
            have AM := mkHid (fun W => assignment_any k m (by omega) (by omega) W)
            have AP := mkHid (fun W => assignment_any k p (by omega) (by omega) W)
            have EN := mkHid (fun W (hs : JK w W (n : Int) (m : Int) (p : Int) w7.heap.size (.slice a2 K.length c2) (.slice a3 M.length c3) (.slice a7 Q.length c7) K M Q) => eval_any (n : Int) (.slice a2 K.length c2) K (asg k n) W (ck_th HJ.out.k hs.k))
            have EM := mkHid (fun W (hs : JK w W (n : Int) (m : Int) (p : Int) w7.heap.size (.slice a2 K.length c2) (.slice a3 M.length c3) (.slice a7 Q.length c7) K M Q) => eval_any (m : Int) (.slice a3 M.length c3) M (asg k m) W (ck_th HJ.out.m hs.m))
            have EP := mkHid (fun W (hs : JK w W (n : Int) (m : Int) (p : Int) w7.heap.size (.slice a2 K.length c2) (.slice a3 M.length c3) (.slice a7 Q.length c7) K M Q) => eval_any (p : Int) (.slice a7 Q.length c7) Q (asg k p) W (ck_th HJC.out hs.l))
            generalize evT (n : Int) K (asg k n) = q1 at *
            generalize evT (m : Int) M (asg k m) = q2 at *
            generalize evT (p : Int) Q (asg k p) = q3 at *
            obtain rfl := HEK.out
            generalize asg k n = gn at *
            generalize asg k m = gm at *
            generalize asg k p = gp at *
            unfold sv at *
            generalize wd (lo gn) = nl at *
            generalize wd (VM.hi gn) = nh at *
            generalize wd (lo gm) = ml at *
            generalize wd (VM.hi gm) = mh at *
            generalize wd (lo gp) = pl at *
            generalize wd (VM.hi gp) = ph at *
            have hs0 := H.out.drew
            cases q1
            · go_wp2
              refine wp_region_held_drew (S := (fun W => JK w W (n : Int) (m : Int) (p : Int) w7.heap.size (.slice a2 K.length c2) (.slice a3 M.length c3) (.slice a7 Q.length c7) K M Q ∧ W.cell? ⟨w7.heap.size, 0, none⟩ = some (.int .i64 (p : Int)) ∧ W.cell? ⟨w7.heap.size, 1, none⟩ = some (.slice a7 Q.length c7) ∧ W.cell? ⟨w.heap.size, 0, none⟩ = some (.int .i64 (n : Int)) ∧ W.cell? ⟨w.heap.size, 1, none⟩ = some (.slice a2 K.length c2) ∧ W.cell? ⟨w.heap.size + 1, 0, none⟩ = some (.int .i64 (m : Int)) ∧ W.cell? ⟨w.heap.size + 1, 1, none⟩ = some (.slice a3 M.length c3))) (by kernel_rfl) (by (try dsimp only); exact ⟨hs0, o0, o1, e0, e1, f0, f1⟩) (fun hHeld => ?_)
              refine wpAnyH_take (i := 0) (oi := { dst := some 57, op := Op.load 24 (Operand.tmp 9), type := 24, pos := "outright.go:181", after := #[], guard := none }) (v := ?_) rfl (by kernel_rfl) (by kernel_rfl) (by kernel_rfl) (fun _ _ _ h => h) (Or.inl ⟨by rfl, ?_⟩) (by assumption) ?_
              rotate_left
              · intro w' hSw; (try dsimp only at hSw); (go_simp <;> with_reducible rfl)
              try simp only [Act.put, List.setIfInBounds_toArray, List.set_cons_zero, List.set_cons_succ]
              refine wpAnyH_take (i := 1) (oi := { dst := some 58, op := Op.move (Operand.tmp 11), type := 3, pos := "outright.go:181", after := #[], guard := none }) (v := ?_) rfl (by kernel_rfl) (by kernel_rfl) (by kernel_rfl) (fun _ _ _ h => h) (Or.inl ⟨by rfl, ?_⟩) (by assumption) ?_
              rotate_left
              · intro w' hSw; (try dsimp only at hSw); (go_simp <;> with_reducible rfl)
              try simp only [Act.put, List.setIfInBounds_toArray, List.set_cons_zero, List.set_cons_succ]
              refine wpAnyH_take (i := 2) (oi := { dst := some 59, op := Op.fieldAddr 24 (Operand.tmp 9) 0, type := 0, pos := "outright.go:181", after := #[], guard := none }) (v := ?_) rfl (by kernel_rfl) (by kernel_rfl) (by kernel_rfl) (fun _ _ _ h => h) (Or.inl ⟨by rfl, ?_⟩) (by assumption) ?_
              rotate_left
              · intro w' hSw; (try dsimp only at hSw); (go_simp <;> with_reducible rfl)
              try simp only [Act.put, List.setIfInBounds_toArray, List.set_cons_zero, List.set_cons_succ]
              refine wpAnyH_take (i := 3) (oi := { dst := some 60, op := Op.load 3 (Operand.tmp 59), type := 3, pos := "outright.go:181", after := #[{ on := 2, ground := Ground.data }], guard := none }) (v := ?_) rfl (by kernel_rfl) (by kernel_rfl) (by kernel_rfl) (fun _ _ _ h => h) (Or.inl ⟨by rfl, ?_⟩) (by assumption) ?_
              rotate_left
              · intro w' hSw; (try dsimp only at hSw); (go_simp <;> with_reducible rfl)
              try simp only [Act.put, List.setIfInBounds_toArray, List.set_cons_zero, List.set_cons_succ]
              refine wpAnyH_take (i := 6) (oi := { dst := some 63, op := Op.load 24 (Operand.tmp 4), type := 24, pos := "outright.go:181", after := #[], guard := none }) (v := ?_) rfl (by kernel_rfl) (by kernel_rfl) (by kernel_rfl) (fun _ _ _ h => h) (Or.inl ⟨by rfl, ?_⟩) (by assumption) ?_
              rotate_left
              · intro w' hSw; (try dsimp only at hSw); (go_simp <;> with_reducible rfl)
              try simp only [Act.put, List.setIfInBounds_toArray, List.set_cons_zero, List.set_cons_succ]
              refine wpAnyH_take (i := 7) (oi := { dst := some 64, op := Op.move (Operand.tmp 11), type := 3, pos := "outright.go:181", after := #[], guard := none }) (v := ?_) rfl (by kernel_rfl) (by kernel_rfl) (by kernel_rfl) (fun _ _ _ h => h) (Or.inl ⟨by rfl, ?_⟩) (by assumption) ?_
              rotate_left
              · intro w' hSw; (try dsimp only at hSw); (go_simp <;> with_reducible rfl)
              try simp only [Act.put, List.setIfInBounds_toArray, List.set_cons_zero, List.set_cons_succ]
              refine wpAnyH_take (i := 8) (oi := { dst := some 65, op := Op.fieldAddr 24 (Operand.tmp 4) 0, type := 0, pos := "outright.go:181", after := #[], guard := none }) (v := ?_) rfl (by kernel_rfl) (by kernel_rfl) (by kernel_rfl) (fun _ _ _ h => h) (Or.inl ⟨by rfl, ?_⟩) (by assumption) ?_
              rotate_left
              · intro w' hSw; (try dsimp only at hSw); (go_simp <;> with_reducible rfl)
              try simp only [Act.put, List.setIfInBounds_toArray, List.set_cons_zero, List.set_cons_succ]
              refine wpAnyH_take (i := 9) (oi := { dst := some 66, op := Op.load 3 (Operand.tmp 65), type := 3, pos := "outright.go:181", after := #[{ on := 8, ground := Ground.data }], guard := none }) (v := ?_) rfl (by kernel_rfl) (by kernel_rfl) (by kernel_rfl) (fun _ _ _ h => h) (Or.inl ⟨by rfl, ?_⟩) (by assumption) ?_
              rotate_left
              · intro w' hSw; (try dsimp only at hSw); (go_simp <;> with_reducible rfl)
              try simp only [Act.put, List.setIfInBounds_toArray, List.set_cons_zero, List.set_cons_succ]
              refine wpAnyH_ready (rs := [4]) (by kernel_rfl) (by simp) ?_
              refine AllReadyH.cons (o := { dst := some 61, op := Op.call { callee := Callee.value (Operand.func 34), args := #[Operand.tmp 58, Operand.tmp 60], argTypes := #[3, 3] }, type := 36, pos := "outright.go:181", after := #[{ on := 1, ground := Ground.data }, { on := 3, ground := Ground.data }], guard := none }) rfl (fun K hK => ?_) ?_
              · (first | (go_at_call 34; have hS : JK w _ _ _ _ _ _ _ _ _ _ _ ∧ _ := (by assumption); ((with_reducible refine (AP.out _).mono ?_); rintro e w8 ⟨rfl, hw⟩)) | (go_simp; go_at_call 34; have hS : JK w _ _ _ _ _ _ _ _ _ _ _ ∧ _ := (by assumption); ((with_reducible refine (AP.out _).mono ?_); rintro e w8 ⟨rfl, hw⟩)))
                (first | (refine hK.out _ _ (by (try dsimp only); exact ⟨hS.1.next hw, cell_grows hw hS.2.1, cell_grows hw hS.2.2.1, cell_grows hw hS.2.2.2.1, cell_grows hw hS.2.2.2.2.1, cell_grows hw hS.2.2.2.2.2.1, cell_grows hw hS.2.2.2.2.2.2⟩) (fun hNew => ?_)) | (go_wp2_with fail; refine hK.out _ _ (by (try dsimp only); exact ⟨hS.1.next hw, cell_grows hw hS.2.1, cell_grows hw hS.2.2.1, cell_grows hw hS.2.2.2.1, cell_grows hw hS.2.2.2.2.1, cell_grows hw hS.2.2.2.2.2.1, cell_grows hw hS.2.2.2.2.2.2⟩) (fun hNew => ?_)))
                clear hK K hHeld
                have hHeld := hNew
                clear hNew
                try simp only [Act.put, List.setIfInBounds_toArray, List.set_cons_zero, List.set_cons_succ]
                refine wpAnyH_ready (rs := [5]) (by kernel_rfl) (by simp) ?_
                refine AllReadyH.cons (o := { dst := some 62, op := Op.call { callee := Callee.value (Operand.func 24), args := #[Operand.tmp 57, Operand.tmp 61], argTypes := #[24, 36] }, type := 4, pos := "outright.go:181", after := #[{ on := 0, ground := Ground.data }, { on := 4, ground := Ground.data }, { on := 4, ground := Ground.chain }], guard := none }) rfl (fun K hK => ?_) ?_
                · (first | (go_at_call 24; have hS : JK w _ _ _ _ _ _ _ _ _ _ _ ∧ _ := (by assumption); ((with_reducible refine (EP.out _ hS.1).mono ?_); rintro e w8 ⟨rfl, hw⟩)) | (go_simp; go_at_call 24; have hS : JK w _ _ _ _ _ _ _ _ _ _ _ ∧ _ := (by assumption); ((with_reducible refine (EP.out _ hS.1).mono ?_); rintro e w8 ⟨rfl, hw⟩)))
                  (first | (refine hK.out _ _ (by (try dsimp only); exact ⟨hS.1.next hw, cell_grows hw hS.2.1, cell_grows hw hS.2.2.1, cell_grows hw hS.2.2.2.1, cell_grows hw hS.2.2.2.2.1, cell_grows hw hS.2.2.2.2.2.1, cell_grows hw hS.2.2.2.2.2.2⟩) (fun hNew => ?_)) | (go_wp2_with fail; refine hK.out _ _ (by (try dsimp only); exact ⟨hS.1.next hw, cell_grows hw hS.2.1, cell_grows hw hS.2.2.1, cell_grows hw hS.2.2.2.1, cell_grows hw hS.2.2.2.2.1, cell_grows hw hS.2.2.2.2.2.1, cell_grows hw hS.2.2.2.2.2.2⟩) (fun hNew => ?_)))
                  clear hK K hHeld
                  have hHeld := hNew
                  clear hNew
                  try simp only [Act.put, List.setIfInBounds_toArray, List.set_cons_zero, List.set_cons_succ]
                  refine wpAnyH_ready (rs := [10]) (by kernel_rfl) (by simp) ?_
                  refine AllReadyH.cons (o := { dst := some 67, op := Op.call { callee := Callee.value (Operand.func 34), args := #[Operand.tmp 64, Operand.tmp 66], argTypes := #[3, 3] }, type := 36, pos := "outright.go:181", after := #[{ on := 7, ground := Ground.data }, { on := 9, ground := Ground.data }, { on := 5, ground := Ground.chain }], guard := none }) rfl (fun K hK => ?_) ?_
                  · (first | (go_at_call 34; have hS : JK w _ _ _ _ _ _ _ _ _ _ _ ∧ _ := (by assumption); ((with_reducible refine (AN.out _).mono ?_); rintro e w8 ⟨rfl, hw⟩)) | (go_simp; go_at_call 34; have hS : JK w _ _ _ _ _ _ _ _ _ _ _ ∧ _ := (by assumption); ((with_reducible refine (AN.out _).mono ?_); rintro e w8 ⟨rfl, hw⟩)))
                    (first | (refine hK.out _ _ (by (try dsimp only); exact ⟨hS.1.next hw, cell_grows hw hS.2.1, cell_grows hw hS.2.2.1, cell_grows hw hS.2.2.2.1, cell_grows hw hS.2.2.2.2.1, cell_grows hw hS.2.2.2.2.2.1, cell_grows hw hS.2.2.2.2.2.2⟩) (fun hNew => ?_)) | (go_wp2_with fail; refine hK.out _ _ (by (try dsimp only); exact ⟨hS.1.next hw, cell_grows hw hS.2.1, cell_grows hw hS.2.2.1, cell_grows hw hS.2.2.2.1, cell_grows hw hS.2.2.2.2.1, cell_grows hw hS.2.2.2.2.2.1, cell_grows hw hS.2.2.2.2.2.2⟩) (fun hNew => ?_)))
                    clear hK K hHeld
                    have hHeld := hNew
                    clear hNew
                    try simp only [Act.put, List.setIfInBounds_toArray, List.set_cons_zero, List.set_cons_succ]
                    refine wpAnyH_ready (rs := [11]) (by kernel_rfl) (by simp) ?_
                    refine AllReadyH.cons (o := { dst := some 68, op := Op.call { callee := Callee.value (Operand.func 24), args := #[Operand.tmp 63, Operand.tmp 67], argTypes := #[24, 36] }, type := 4, pos := "outright.go:181", after := #[{ on := 6, ground := Ground.data }, { on := 10, ground := Ground.data }, { on := 10, ground := Ground.chain }], guard := none }) rfl (fun K hK => ?_) ?_
                    · (first | (go_at_call 24; have hS : JK w _ _ _ _ _ _ _ _ _ _ _ ∧ _ := (by assumption); ((with_reducible refine (EN.out _ hS.1).mono ?_); rintro e w8 ⟨rfl, hw⟩)) | (go_simp; go_at_call 24; have hS : JK w _ _ _ _ _ _ _ _ _ _ _ ∧ _ := (by assumption); ((with_reducible refine (EN.out _ hS.1).mono ?_); rintro e w8 ⟨rfl, hw⟩)))
                      (first | (refine hK.out _ _ (by (try dsimp only); exact ⟨hS.1.next hw, cell_grows hw hS.2.1, cell_grows hw hS.2.2.1, cell_grows hw hS.2.2.2.1, cell_grows hw hS.2.2.2.2.1, cell_grows hw hS.2.2.2.2.2.1, cell_grows hw hS.2.2.2.2.2.2⟩) (fun hNew => ?_)) | (go_wp2_with fail; refine hK.out _ _ (by (try dsimp only); exact ⟨hS.1.next hw, cell_grows hw hS.2.1, cell_grows hw hS.2.2.1, cell_grows hw hS.2.2.2.1, cell_grows hw hS.2.2.2.2.1, cell_grows hw hS.2.2.2.2.2.1, cell_grows hw hS.2.2.2.2.2.2⟩) (fun hNew => ?_)))
                      clear hK K hHeld
                      have hHeld := hNew
                      clear hNew
                      try simp only [Act.put, List.setIfInBounds_toArray, List.set_cons_zero, List.set_cons_succ]
                      refine wpAnyH_take (i := 12) (oi := { dst := some 69, op := Op.move (Operand.tmp 68), type := 4, pos := "outright.go:181", after := #[{ on := 11, ground := Ground.data }, { on := 11, ground := Ground.chain }], guard := none }) (v := ?_) rfl (by kernel_rfl) (by kernel_rfl) (by kernel_rfl) (fun _ _ _ h => h) (Or.inl ⟨by rfl, ?_⟩) (by assumption) ?_
                      rotate_left
                      · intro w' hSw; (try dsimp only at hSw); (go_simp <;> with_reducible rfl)
                      try simp only [Act.put, List.setIfInBounds_toArray, List.set_cons_zero, List.set_cons_succ]
                      refine wpAnyH_take (i := 13) (oi := { dst := some 70, op := Op.load 24 (Operand.tmp 5), type := 24, pos := "outright.go:181", after := #[{ on := 12, ground := Ground.guard }], guard := some (12, true) }) (v := undef) rfl (by kernel_rfl) (by kernel_rfl) (by kernel_rfl) (fun _ _ _ h => h) (Or.inr ⟨by rfl, rfl⟩) (by assumption) ?_
                      try simp only [Act.put, List.setIfInBounds_toArray, List.set_cons_zero, List.set_cons_succ]
                      refine wpAnyH_take (i := 14) (oi := { dst := some 71, op := Op.move (Operand.tmp 11), type := 3, pos := "outright.go:181", after := #[{ on := 12, ground := Ground.guard }], guard := some (12, true) }) (v := undef) rfl (by kernel_rfl) (by kernel_rfl) (by kernel_rfl) (fun _ _ _ h => h) (Or.inr ⟨by rfl, rfl⟩) (by assumption) ?_
                      try simp only [Act.put, List.setIfInBounds_toArray, List.set_cons_zero, List.set_cons_succ]
                      refine wpAnyH_take (i := 15) (oi := { dst := some 72, op := Op.fieldAddr 24 (Operand.tmp 5) 0, type := 0, pos := "outright.go:181", after := #[{ on := 12, ground := Ground.guard }], guard := some (12, true) }) (v := undef) rfl (by kernel_rfl) (by kernel_rfl) (by kernel_rfl) (fun _ _ _ h => h) (Or.inr ⟨by rfl, rfl⟩) (by assumption) ?_
                      try simp only [Act.put, List.setIfInBounds_toArray, List.set_cons_zero, List.set_cons_succ]
                      refine wpAnyH_take (i := 16) (oi := { dst := some 73, op := Op.load 3 (Operand.tmp 72), type := 3, pos := "outright.go:181", after := #[{ on := 15, ground := Ground.data }, { on := 12, ground := Ground.guard }], guard := some (12, true) }) (v := undef) rfl (by kernel_rfl) (by kernel_rfl) (by kernel_rfl) (fun _ _ _ h => h) (Or.inr ⟨by rfl, rfl⟩) (by assumption) ?_
                      try simp only [Act.put, List.setIfInBounds_toArray, List.set_cons_zero, List.set_cons_succ]
                      refine wpAnyH_take (i := 17) (oi := { dst := some 74, op := Op.call { callee := Callee.value (Operand.func 34), args := #[Operand.tmp 71, Operand.tmp 73], argTypes := #[3, 3] }, type := 36, pos := "outright.go:181", after := #[{ on := 14, ground := Ground.data }, { on := 16, ground := Ground.data }, { on := 12, ground := Ground.chain }, { on := 12, ground := Ground.guard }], guard := some (12, true) }) (v := undef) rfl (by kernel_rfl) (by kernel_rfl) (by kernel_rfl) (fun _ _ _ h => h) (Or.inr ⟨by rfl, rfl⟩) (by assumption) ?_
                      try simp only [Act.put, List.setIfInBounds_toArray, List.set_cons_zero, List.set_cons_succ]
                      refine wpAnyH_take (i := 18) (oi := { dst := some 75, op := Op.call { callee := Callee.value (Operand.func 24), args := #[Operand.tmp 70, Operand.tmp 74], argTypes := #[24, 36] }, type := 4, pos := "outright.go:181", after := #[{ on := 13, ground := Ground.data }, { on := 17, ground := Ground.data }, { on := 17, ground := Ground.chain }, { on := 12, ground := Ground.guard }], guard := some (12, true) }) (v := undef) rfl (by kernel_rfl) (by kernel_rfl) (by kernel_rfl) (fun _ _ _ h => h) (Or.inr ⟨by rfl, rfl⟩) (by assumption) ?_
                      try simp only [Act.put, List.setIfInBounds_toArray, List.set_cons_zero, List.set_cons_succ]
                      refine wpAnyH_take (i := 19) (oi := { dst := some 76, op := Op.pick (Operand.tmp 69) (Operand.tmp 75) (Operand.const (Value.bool false)), type := 4, pos := "outright.go:181", after := #[{ on := 12, ground := Ground.data }, { on := 18, ground := Ground.data }], guard := none }) (v := ?_) rfl (by kernel_rfl) (by kernel_rfl) (by kernel_rfl) (fun _ _ _ h => h) (Or.inl ⟨by rfl, ?_⟩) (by assumption) ?_
                      rotate_left
                      · intro w' hSw; (try dsimp only at hSw); (go_simp <;> with_reducible rfl)
                      try simp only [Act.put, List.setIfInBounds_toArray, List.set_cons_zero, List.set_cons_succ]
                      refine wpAnyH_take (i := 20) (oi := { dst := some 77, op := Op.binOp BinOp.neq 4 (Operand.tmp 62) (Operand.tmp 76) 4, type := 4, pos := "outright.go:181", after := #[{ on := 5, ground := Ground.data }, { on := 19, ground := Ground.data }], guard := none }) (v := ?_) rfl (by kernel_rfl) (by kernel_rfl) (by kernel_rfl) (fun _ _ _ h => h) (Or.inl ⟨by rfl, ?_⟩) (by assumption) ?_
                      rotate_left
                      · intro w' hSw; (try dsimp only at hSw); (go_simp <;> with_reducible rfl)
                      try simp only [Act.put, List.setIfInBounds_toArray, List.set_cons_zero, List.set_cons_succ]
                      refine wpAnyH_done (by kernel_rfl) ?_ _
                      have hHH := hHeld
                      have HZ := mkHid hHH.1
                      clear hHH hHeld hs0
                      go_wp2
                      go_roundw
                      case rel => exact ⟨k + 1, by omega, by go_num, HZ⟩
                      case measure => simp [intOf]; omega
                    exact AllReadyH.nil
                  exact AllReadyH.nil
                exact AllReadyH.nil
              exact AllReadyH.nil
            · cases q2
              all_goals
                go_wp2
                go_region_held3 (fun W => JK w W (n : Int) (m : Int) (p : Int) w7.heap.size (.slice a2 K.length c2) (.slice a3 M.length c3) (.slice a7 Q.length c7) K M Q ∧ W.cell? ⟨w7.heap.size, 0, none⟩ = some (.int .i64 (p : Int)) ∧ W.cell? ⟨w7.heap.size, 1, none⟩ = some (.slice a7 Q.length c7) ∧ W.cell? ⟨w.heap.size, 0, none⟩ = some (.int .i64 (n : Int)) ∧ W.cell? ⟨w.heap.size, 1, none⟩ = some (.slice a2 K.length c2) ∧ W.cell? ⟨w.heap.size + 1, 0, none⟩ = some (.int .i64 (m : Int)) ∧ W.cell? ⟨w.heap.size + 1, 1, none⟩ = some (.slice a3 M.length c3))
                  (first
                    | (with_reducible exact ⟨hS.1.next hw, cell_grows hw hS.2.1, cell_grows hw hS.2.2.1, cell_grows hw hS.2.2.2.1, cell_grows hw hS.2.2.2.2.1, cell_grows hw hS.2.2.2.2.2.1, cell_grows hw hS.2.2.2.2.2.2⟩)
                    | exact ⟨hs0, o0, o1, e0, e1, f0, f1⟩)
                  (first
                    | (go_at_call 34; have hS : JK w _ _ _ _ _ _ _ _ _ _ _ ∧ _ := (by assumption); ((with_reducible refine (AN.out _).mono ?_); rintro e w8 ⟨rfl, hw⟩))
                    | (go_at_call 34; have hS : JK w _ _ _ _ _ _ _ _ _ _ _ ∧ _ := (by assumption); ((with_reducible refine (AM.out _).mono ?_); rintro e w8 ⟨rfl, hw⟩))
                    | (go_at_call 34; have hS : JK w _ _ _ _ _ _ _ _ _ _ _ ∧ _ := (by assumption); ((with_reducible refine (AP.out _).mono ?_); rintro e w8 ⟨rfl, hw⟩))
                    | (go_at_call 24; have hS : JK w _ _ _ _ _ _ _ _ _ _ _ ∧ _ := (by assumption); ((with_reducible refine (EN.out _ hS.1).mono ?_); rintro e w8 ⟨rfl, hw⟩))
                    | (go_at_call 24; have hS : JK w _ _ _ _ _ _ _ _ _ _ _ ∧ _ := (by assumption); ((with_reducible refine (EM.out _ hS.1).mono ?_); rintro e w8 ⟨rfl, hw⟩))
                    | (go_at_call 24; have hS : JK w _ _ _ _ _ _ _ _ _ _ _ ∧ _ := (by assumption); ((with_reducible refine (EP.out _ hS.1).mono ?_); rintro e w8 ⟨rfl, hw⟩)))
                all_goals
                  have hT' : JK w _ _ _ _ _ _ _ _ _ _ _ ∧ _ := (by assumption)
                  go_wp2
                  go_roundw
                  case rel => exact ⟨k + 1, by omega, by go_num, mkHid hT'.1⟩
                  case measure => simp [intOf]; omega
          · have hk1 : ¬ (k : Int) < (N : Int) := by omega
            go_wp2_with (go_at_call 16; refine (CW.out _).mono ?_; rintro e w9 ⟨rfl, hb⟩; have H9 := mkHid (H.out.next hb); clear hb)
            go_ret
            exact ⟨rfl, H9.out.j.b⟩
end Go.Proofs.Ytalpbpcanebbbaa
