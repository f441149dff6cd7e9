/- The law TheoryJoins. -/
import Derived.Test.YtalpbpcanebbbaaUL
import Derived.Test.YtalpbpcanebbbaaUN
import Derived.Test.YtalpbpcanebbbaaUO
namespace Go.Proofs.Ytalpbpcanebbbaa
open Go.RowKit VM LM TM

theorem cell_off2 {w : World} {b b' o : Nat} {v : Value} (h : w.cell? ⟨b, o, none⟩ = some v) (hne : b ≠ b') (x y : Value) : ((w.setCell ⟨b', 0, none⟩ x).setCell ⟨b', 1, none⟩ y).cell? ⟨b, o, none⟩ = some v := by
  have e : ((w.setCell ⟨b', 0, none⟩ x).setCell ⟨b', 1, none⟩ y).heap[b]? = w.heap[b]? := by
    rw [Below.heap_setCell _ _ _ _ (by show b ≠ b'; exact hne), Below.heap_setCell _ _ _ _ (by show b ≠ b'; exact hne)]
  exact (World.cell?_of_block (a := ⟨b, o, none⟩) e).trans h
theorem JB.off2 {w W : World} {n m : Int} {v u : Value} {b : Nat} (H : JB w W n m v u) (hb : w.heap.size + 1 < b) (x y : Value) : JB w ((W.setCell ⟨b, 0, none⟩ x).setCell ⟨b, 1, none⟩ y) n m v u :=
  ⟨(H.t.off (by omega) _).off (by omega) _, (H.s.off (by omega) _).off (by omega) _, bst2 H.b b (by omega) _ _⟩
/-- Both theories and their copies. -/
structure JX (w W : World) (n m : Int) (v u : Value) (b5 b6 : Nat) (vx vy : Value) (L R : List (List Int)) : Prop where
  j : JB w W n m v u
  x : TB W b5 n vx
  y : TB W b6 m vy
  p : Cls W vx L
  q : Cls W vy R
theorem JX.next {w W W' : World} {n m : Int} {v u : Value} {b5 b6 : Nat} {vx vy : Value} {L R : List (List Int)} (H : JX w W n m v u b5 b6 vx vy L R) (hb : Below W.heap.size W W') : JX w W' n m v u b5 b6 vx vy L R :=
  ⟨H.j.next hb, H.x.grows hb, H.y.grows hb, H.p.next hb, H.q.next hb⟩
/-- Both conjunctions besides. -/
structure JY (w wc W : World) (n m : Int) (v u : Value) (b7 b9 : Nat) (p : Int) (v7 v9 : Value) (M : List (List Int)) : Prop where
  j : JB w W n m v u
  c : TB W b7 p v7
  o : OwnC W wc.heap.size v7 M
  d : TB W b9 p v9
  e : Cls W v9 M
  b : Below wc.heap.size wc W
theorem JY.next {w wc W W' : World} {n m : Int} {v u : Value} {b7 b9 : Nat} {p : Int} {v7 v9 : Value} {M : List (List Int)} (H : JY w wc W n m v u b7 b9 p v7 v9 M) (hb : Below W.heap.size W W') : JY w wc W' n m v u b7 b9 p v7 v9 M :=
  ⟨H.j.next hb, H.c.grows hb, H.o.below hb, H.d.grows hb, H.e.next hb, bnx H.b hb⟩
theorem JY.drew {w wc W : World} {n m : Int} {v u : Value} {b7 b9 : Nat} {p : Int} {v7 v9 : Value} {M : List (List Int)} (H : JY w wc W n m v u b7 b9 p v7 v9 M) : JY w wc W.drew n m v u b7 b9 p v7 v9 M := H.next (Below.refl _ _).drew
theorem rsame_yesJ (n : Int) (v u : Value) (L : List (List Int)) (w : World) (hL : Cls w v L) (hK : Cls w u L) (lL : L.length ≤ 1000000) (sL : ∀ c ∈ L, c.length ≤ 1000000) :
    Calls Try.prog 22 #[.agg #[.int .i64 n, v], .agg #[.int .i64 n, u]] w fun e w' => e = .returned (.bool true) ∧ Below w.heap.size w w' := by
  have := rsame_any n n v u L L w hL hK lL sL sL
  rw [decide_eq_true ⟨rfl, rfl⟩] at this
  exact this
set_option maxRecDepth 100000 in
set_option maxHeartbeats 16000000 in
theorem joins_law (n0 : Int) (v : Value) (L : List (List Int)) (m0 : Int) (u : Value) (R : List (List Int)) (w : World) (_ : In64 n0) (h : Th w v L) (_ : In64 m0) (g : Th w u R) :
    Calls Try.prog 7 #[.agg #[.int .i64 n0, v], .agg #[.int .i64 m0, u]] w fun e w' => e = .returned (.bool true) ∧ Below w.heap.size w w' := by
  have CL := mkHid (fun W (hb : Below w.heap.size w W) => light_any n0 v L W (h.next hb))
  have CR := mkHid (fun W (hb : Below w.heap.size w W) => light_any m0 u R W (g.next hb))
  have CW := mkHid (fun W => works_any W)
  have H0 : Hid (JB w ((w.alloc (.cells #[.int .i64 n0, v] 24)).alloc (.cells #[.int .i64 m0, u] 24)) n0 m0 v u) := mkHid ⟨(TB.new w _ n0 v rfl).grows (bal (Below.refl _ _) _), TB.new _ _ _ _ (by simp), bal (bal (Below.refl _ w) _) _⟩
  obtain ⟨a0, a1⟩ := H0.out.t.at
  obtain ⟨s0, s1⟩ := H0.out.s.at
  obtain ⟨ao, cap, rfl⟩ := h.cls.form
  obtain ⟨bo, dap, rfl⟩ := g.cls.form
  cases hl : lightB L
  · simp only [hl] at CL
    clear h g
    go_enter Try.func7, Try.ntmps7
    go_wp2_with (first
      | (go_at_call 15; (with_reducible refine (CL.out _ H0.out.b).mono ?_); rintro e w1 ⟨rfl, hb⟩; have H1 := mkHid (H0.out.next hb); clear hb)
      | (go_at_call 16; refine (CW.out _).mono ?_; rintro e w2 ⟨rfl, hb⟩; have H2 := mkHid (H1.out.next hb); clear hb))
    go_ret
    exact ⟨rfl, H2.out.b⟩
  · simp only [hl] at CL
    cases hl2 : lightB R
    · simp only [hl2] at CR
      clear h g
      go_enter Try.func7, Try.ntmps7
      go_wp2_with (first
        | (go_at_call 15; (with_reducible refine (CL.out _ H0.out.b).mono ?_); rintro e w1 ⟨rfl, hb⟩; have H1 := mkHid (H0.out.next hb); obtain ⟨b0, b1⟩ := H1.out.s.at; clear hb)
        | (go_at_call 15; (with_reducible refine (CR.out _ H1.out.b).mono ?_); rintro e w3 ⟨rfl, hb⟩; have H3 := mkHid (H1.out.next hb); clear hb)
        | (go_at_call 16; refine (CW.out _).mono ?_; rintro e w2 ⟨rfl, hb⟩; have H2 := mkHid (H3.out.next hb); clear hb))
      go_ret
      exact ⟨rfl, H2.out.b⟩
    · simp only [hl2] at CR
      have LB := mkHid (light_spec hl)
      have RB := mkHid (light_spec hl2)
      have CPA := mkHid (fun W (hb : Below w.heap.size w W) => copy_any n0 _ L W (h.next hb) LB.out.1 LB.out.2)
      have CPB := mkHid (fun W (hb : Below w.heap.size w W) => copy_any m0 _ R W (g.next hb) RB.out.1 RB.out.2)
      have CJ := mkHid (fun W (hb : Below w.heap.size w W) => join_any n0 m0 _ _ L R W (h.next hb) (g.next hb))
      have CRJ := mkHid (fun W (hb : Below w.heap.size w W) => rjoin_any n0 m0 _ _ L R W (h.next hb) (g.next hb))
      have CV := mkHid (fun W (hb : Below w.heap.size w W) => Vars_any n0 _ L W (h.next hb))
      have CRV := mkHid (fun W (hb : Below w.heap.size w W) => rvars_any n0 _ L W (h.next hb))
      have HTL := mkHid (fun W (hb : Below w.heap.size w W) => (h.next hb).cls)
      have HTR := mkHid (fun W (hb : Below w.heap.size w W) => (g.next hb).cls)
      have LM : Hid ((if jnE n0 L m0 R = 0 then L ++ R else []).length ≤ 1000000 ∧ ∀ c ∈ (if jnE n0 L m0 R = 0 then L ++ R else []), c.length ≤ 1000000) := mkHid (by
        have h1 := LB.out; have h2 := RB.out
        split
        · refine ⟨by rw [List.length_append]; omega, fun c hc => ?_⟩
          rcases List.mem_append.1 hc with hc | hc
          · have := h1.2 c hc; omega
          · have := h2.2 c hc; omega
        · exact ⟨by simp, fun c hc => by simp at hc⟩)
      have HQ := mkHid (fun w => eq_sets (vrT n0 L) (vrT n0 L) w)
      generalize (if jnE n0 L m0 R = 0 then max n0 m0 else 0) = p at *
      generalize (if jnE n0 L m0 R = 0 then L ++ R else []) = M at *
      generalize jnE n0 L m0 R = q at *
      generalize vrT n0 L = V at *
      unfold sv at CV CRV HQ
      generalize wd (lo V) = vl at *
      generalize wd (VM.hi V) = vh at *
      have E : ∀ w, (Op.equalIn 10000 36 (.agg #[.int .u64 vl, .int .u64 vh]) (.agg #[.int .u64 vl, .int .u64 vh])).run Try.prog w = .ok true w := fun w => by
        have := HQ.out w
        simpa using this
      clear h g hl hl2 HQ
      go_enter Try.func7, Try.ntmps7
      go_wp2_with (first
        | (go_at_call 15; (with_reducible refine (CL.out _ H0.out.b).mono ?_); rintro e w1 ⟨rfl, hb⟩; have H1 := mkHid (H0.out.next hb); obtain ⟨b0, b1⟩ := H1.out.s.at; clear hb)
        | (go_at_call 15; (with_reducible refine (CR.out _ H1.out.b).mono ?_); rintro e w3 ⟨rfl, hb⟩; have H3 := mkHid (H1.out.next hb); clear hb))
      clear a0 a1 s0 s1 b0 b1 H1
      obtain ⟨a0, a1⟩ := H3.out.t.at
      obtain ⟨s0, s1⟩ := H3.out.s.at
      have H3d := mkHid H3.out.drew
      go_cut [5, 6] from 20 to 23 (fun v5 v6 wx => ∃ (b5 b6 : Nat) (a5 : Option Addr) (c5 : Nat) (a6 : Option Addr) (c6 : Nat), v5 = .pointer (some ⟨b5, 0, none⟩) ∧ v6 = .pointer (some ⟨b6, 0, none⟩) ∧ Hid (JX w wx n0 m0 (.slice ao L.length cap) (.slice bo R.length dap) b5 b6 (.slice a5 L.length c5) (.slice a6 R.length c6) L R))
      case first =>
        refine wp_region_held_drew (S := (fun W => JB w W n0 m0 (.slice ao L.length cap) (.slice bo R.length dap) ∧ W.cell? ⟨w.heap.size, 0, none⟩ = some (.int .i64 n0) ∧ W.cell? ⟨w.heap.size, 1, none⟩ = some (.slice ao L.length cap) ∧ W.cell? ⟨w.heap.size + 1, 0, none⟩ = some (.int .i64 m0) ∧ W.cell? ⟨w.heap.size + 1, 1, none⟩ = some (.slice bo R.length dap))) (by kernel_rfl) (by (try dsimp only); exact ⟨H3d.out, a0, a1, s0, s1⟩) (fun hHeld => ?_)
        generalize w3.drew = wz at *
        refine wpAnyH_take (i := 0) (oi := { dst := some 20, op := Op.load 24 (Operand.tmp 2), type := 24, pos := "law.go:91", after := #[], guard := none }) (v := ?_) rfl (by kernel_rfl) (by kernel_rfl) (by kernel_rfl) (fun _ _ _ h => h) (Or.inl ⟨by rfl, ?_⟩) (by assumption) ?_
        rotate_left
        · intro w' hSw; (try dsimp only at hSw); (go_simp <;> with_reducible rfl)
        try simp only [Act.put, List.setIfInBounds_toArray, List.set_cons_zero, List.set_cons_succ]
        refine wpAnyH_take (i := 2) (oi := { dst := some 22, op := Op.load 24 (Operand.tmp 3), type := 24, pos := "law.go:91", after := #[], guard := none }) (v := ?_) rfl (by kernel_rfl) (by kernel_rfl) (by kernel_rfl) (fun _ _ _ h => h) (Or.inl ⟨by rfl, ?_⟩) (by assumption) ?_
        rotate_left
        · intro w' hSw; (try dsimp only at hSw); (go_simp <;> with_reducible rfl)
        try simp only [Act.put, List.setIfInBounds_toArray, List.set_cons_zero, List.set_cons_succ]
        refine wpAnyH_ready (rs := [1, 4, 5]) (by kernel_rfl) (by simp) ?_
        refine AllReadyH.cons (o := { dst := some 21, op := Op.call { callee := Callee.value (Operand.func 19), args := #[Operand.tmp 20], argTypes := #[24] }, type := 24, pos := "law.go:91", after := #[{ on := 0, ground := Ground.data }], guard := none }) rfl (fun K hK => ?_) ?_
        · (first | (go_at_call 19; ((with_reducible refine (CPA.out _ hHeld.1.b).mono ?_); rintro e wA ⟨u5, rfl, h5⟩; obtain ⟨a5, c5, rfl⟩ := h5.out.1.form)) | (go_simp; go_at_call 19; ((with_reducible refine (CPA.out _ hHeld.1.b).mono ?_); rintro e wA ⟨u5, rfl, h5⟩; obtain ⟨a5, c5, rfl⟩ := h5.out.1.form)))
          have hw := h5.out.2
          (first | (refine hK.out _ _ (by (try dsimp only); exact ⟨hHeld.1.next hw, cell_grows hw hHeld.2.1, cell_grows hw hHeld.2.2.1, cell_grows hw hHeld.2.2.2.1, cell_grows hw hHeld.2.2.2.2⟩) (fun hNew => ?_)) | (go_wp2_with fail; refine hK.out _ _ (by (try dsimp only); exact ⟨hHeld.1.next hw, cell_grows hw hHeld.2.1, cell_grows hw hHeld.2.2.1, cell_grows hw hHeld.2.2.2.1, cell_grows hw hHeld.2.2.2.2⟩) (fun hNew => ?_)))
          have F1 := mkHid h5.out.1
          clear hw h5
          clear hK K hHeld
          have hHeld := hNew
          clear hNew
          try simp only [Act.put, List.setIfInBounds_toArray, List.set_cons_zero, List.set_cons_succ]
          refine wpAnyH_ready (rs := [3, 4, 5]) (by kernel_rfl) (by simp) ?_
          refine AllReadyH.cons (o := { dst := some 23, op := Op.call { callee := Callee.value (Operand.func 19), args := #[Operand.tmp 22], argTypes := #[24] }, type := 24, pos := "law.go:91", after := #[{ on := 2, ground := Ground.data }, { on := 1, ground := Ground.chain }], guard := none }) rfl (fun K hK => ?_) ?_
          · (first | (go_at_call 19; ((with_reducible refine (CPB.out _ hHeld.1.b).mono ?_); rintro e wB ⟨u6, rfl, h6⟩; obtain ⟨a6, c6, rfl⟩ := h6.out.1.form)) | (go_simp; go_at_call 19; ((with_reducible refine (CPB.out _ hHeld.1.b).mono ?_); rintro e wB ⟨u6, rfl, h6⟩; obtain ⟨a6, c6, rfl⟩ := h6.out.1.form)))
            have hw := h6.out.2
            (first | (refine hK.out _ _ (by (try dsimp only); exact ⟨hHeld.1.next hw, cell_grows hw hHeld.2.1, cell_grows hw hHeld.2.2.1, cell_grows hw hHeld.2.2.2.1, cell_grows hw hHeld.2.2.2.2⟩) (fun hNew => ?_)) | (go_wp2_with fail; refine hK.out _ _ (by (try dsimp only); exact ⟨hHeld.1.next hw, cell_grows hw hHeld.2.1, cell_grows hw hHeld.2.2.1, cell_grows hw hHeld.2.2.2.1, cell_grows hw hHeld.2.2.2.2⟩) (fun hNew => ?_)))
            have F2 := mkHid (F1.out.below hw)
            have F3 := mkHid h6.out.1
            clear hw h6
            clear hK K hHeld
            have hHeld := hNew
            clear hNew
            try simp only [Act.put, List.setIfInBounds_toArray, List.set_cons_zero, List.set_cons_succ]
            refine wpAnyH_ready (rs := [4, 5]) (by kernel_rfl) (by simp) ?_
            refine AllReadyH.cons (o := { dst := some 5, op := Op.alloc 24, type := 0, pos := "law.go:91", after := #[], guard := none }) rfl (fun K hK => ?_) ?_
            · have hb5 : w.heap.size + 1 < wB.heap.size := by (have := hHeld.1.s.lt; first | exact this | (simp at this; omega))
              have al : Below wB.heap.size wB (wB.alloc (.cells #[.int .i64 0, .slice none 0 0] 24)) := bal (Below.refl _ _) _
              go_simp
              (first | (refine hK.out _ _ (by (try dsimp only); exact ⟨hHeld.1.next al, cell_grows al hHeld.2.1, cell_grows al hHeld.2.2.1, cell_grows al hHeld.2.2.2.1, cell_grows al hHeld.2.2.2.2⟩) (fun hNew => ?_)) | (go_wp2_with fail; refine hK.out _ _ (by (try dsimp only); exact ⟨hHeld.1.next al, cell_grows al hHeld.2.1, cell_grows al hHeld.2.2.1, cell_grows al hHeld.2.2.2.1, cell_grows al hHeld.2.2.2.2⟩) (fun hNew => ?_)))
              have X4 : Hid (TB (wB.alloc (.cells #[.int .i64 0, .slice none 0 0] 24)) (wB.heap.size) 0 (.slice none 0 0)) := mkHid (TB.new _ _ _ _ (by simp))
              have F5 := mkHid (F2.out.below al)
              have F6 := mkHid (F3.out.below al)
              clear al
              clear hK K hHeld
              have hHeld := hNew
              clear hNew
              try simp only [Act.put, List.setIfInBounds_toArray, List.set_cons_zero, List.set_cons_succ]
              refine wpAnyH_ready (rs := [5]) (by kernel_rfl) (by simp) ?_
              refine AllReadyH.cons (o := { dst := some 6, op := Op.alloc 24, type := 0, pos := "law.go:91", after := #[], guard := none }) rfl (fun K hK => ?_) ?_
              · have hb6 : w.heap.size + 1 < wB.heap.size + 1 := by (have := hHeld.1.s.lt; first | exact this | (simp at this; omega))
                have h56 : wB.heap.size < wB.heap.size + 1 := by (have := X4.out.lt; first | exact this | (simp at this; omega) | (simp; omega))
                have al : Below (wB.alloc (.cells #[.int .i64 0, .slice none 0 0] 24)).heap.size (wB.alloc (.cells #[.int .i64 0, .slice none 0 0] 24)) ((wB.alloc (.cells #[.int .i64 0, .slice none 0 0] 24)).alloc (.cells #[.int .i64 0, .slice none 0 0] 24)) := bal (Below.refl _ _) _
                go_simp
                (first | (refine hK.out _ _ (by (try dsimp only); exact ⟨hHeld.1.next al, cell_grows al hHeld.2.1, cell_grows al hHeld.2.2.1, cell_grows al hHeld.2.2.2.1, cell_grows al hHeld.2.2.2.2⟩) (fun hNew => ?_)) | (go_wp2_with fail; refine hK.out _ _ (by (try dsimp only); exact ⟨hHeld.1.next al, cell_grows al hHeld.2.1, cell_grows al hHeld.2.2.1, cell_grows al hHeld.2.2.2.1, cell_grows al hHeld.2.2.2.2⟩) (fun hNew => ?_)))
                have X7 := mkHid (X4.out.grows al)
                have X8 : Hid (TB ((wB.alloc (.cells #[.int .i64 0, .slice none 0 0] 24)).alloc (.cells #[.int .i64 0, .slice none 0 0] 24)) (wB.heap.size + 1) 0 (.slice none 0 0)) := mkHid (TB.new _ _ _ _ (by simp))
                have F9 := mkHid (F5.out.below al)
                have F10 := mkHid (F6.out.below al)
                clear al
                clear hK K hHeld
                have hHeld := hNew
                clear hNew
                try simp only [Act.put, List.setIfInBounds_toArray, List.set_cons_zero, List.set_cons_succ]
                refine wpAnyH_ready (rs := [6]) (by kernel_rfl) (by simp) ?_
                refine AllReadyH.cons (o := { dst := none, op := Op.store 24 (Operand.tmp 5) (Operand.tmp 21), type := 0, pos := "law.go:91", after := #[{ on := 4, ground := Ground.data }, { on := 1, ground := Ground.data }, { on := 3, ground := Ground.chain }, { on := 0, ground := Ground.phase }, { on := 1, ground := Ground.phase }, { on := 2, ground := Ground.textOnly Departure.lateStores }, { on := 3, ground := Ground.textOnly Departure.lateStoresUnsure }, { on := 4, ground := Ground.phase }, { on := 5, ground := Ground.phase }], guard := none }) rfl (fun K hK => ?_) ?_
                · generalize ((wB.alloc (.cells #[.int .i64 0, .slice none 0 0] 24)).alloc (.cells #[.int .i64 0, .slice none 0 0] 24)) = wg at *
                  have hJ := hHeld.1
                  obtain ⟨e0, e1⟩ := X7.out.at
                  obtain ⟨f0, f1⟩ := X7.out.free
                  obtain ⟨x0, x1⟩ := (X7.out.set0 n0).at
                  obtain ⟨xf0, xf1⟩ := (X7.out.set0 n0).free
                  go_simp
                  (first | (refine hK.out _ _ (by (try dsimp only); exact ⟨hJ.off2 hb5 _ _, cell_off2 hHeld.2.1 (by omega) _ _, cell_off2 hHeld.2.2.1 (by omega) _ _, cell_off2 hHeld.2.2.2.1 (by omega) _ _, cell_off2 hHeld.2.2.2.2 (by omega) _ _⟩) (fun hNew => ?_)) | (go_wp2_with fail; refine hK.out _ _ (by (try dsimp only); exact ⟨hJ.off2 hb5 _ _, cell_off2 hHeld.2.1 (by omega) _ _, cell_off2 hHeld.2.2.1 (by omega) _ _, cell_off2 hHeld.2.2.2.1 (by omega) _ _, cell_off2 hHeld.2.2.2.2 (by omega) _ _⟩) (fun hNew => ?_)))
                  have X11 := mkHid (X7.out.set n0 (.slice a5 L.length c5))
                  have X12 := mkHid ((X8.out.off (b' := wB.heap.size) (o := 0) (by omega) (.int .i64 n0)).off (b' := wB.heap.size) (o := 1) (by omega) (.slice a5 L.length c5))
                  have F13 := mkHid (F9.out.setB X7.out (v' := .slice a5 L.length c5) n0)
                  have F14 := mkHid (F10.out.setB X7.out (v' := .slice a5 L.length c5) n0)
                  have J15 := mkHid (hJ.off2 hb5 (.int .i64 n0) (.slice a5 L.length c5))
                  clear hJ e0 e1 f0 f1 x0 x1 xf0 xf1
                  clear hK K hHeld
                  have hHeld := hNew
                  clear hNew
                  try simp only [Act.put, List.setIfInBounds_toArray, List.set_cons_zero, List.set_cons_succ]
                  refine wpAnyH_ready (rs := [7]) (by kernel_rfl) (by simp) ?_
                  refine AllReadyH.cons (o := { dst := none, op := Op.store 24 (Operand.tmp 6) (Operand.tmp 23), type := 0, pos := "law.go:91", after := #[{ on := 5, ground := Ground.data }, { on := 3, ground := Ground.data }, { on := 6, ground := Ground.chain }, { on := 0, ground := Ground.phase }, { on := 1, ground := Ground.phase }, { on := 2, ground := Ground.phase }, { on := 3, ground := Ground.phase }, { on := 4, ground := Ground.phase }, { on := 5, ground := Ground.phase }, { on := 6, ground := Ground.phase }], guard := none }) rfl (fun K hK => ?_) ?_
                  · have hJ := hHeld.1
                    obtain ⟨e0, e1⟩ := X12.out.at
                    obtain ⟨f0, f1⟩ := X12.out.free
                    obtain ⟨x0, x1⟩ := (X12.out.set0 m0).at
                    obtain ⟨xf0, xf1⟩ := (X12.out.set0 m0).free
                    go_simp
                    (first | (refine hK.out _ _ (by (try dsimp only); exact ⟨hJ.off2 hb6 _ _, cell_off2 hHeld.2.1 (by omega) _ _, cell_off2 hHeld.2.2.1 (by omega) _ _, cell_off2 hHeld.2.2.2.1 (by omega) _ _, cell_off2 hHeld.2.2.2.2 (by omega) _ _⟩) (fun hNew => ?_)) | (go_wp2_with fail; refine hK.out _ _ (by (try dsimp only); exact ⟨hJ.off2 hb6 _ _, cell_off2 hHeld.2.1 (by omega) _ _, cell_off2 hHeld.2.2.1 (by omega) _ _, cell_off2 hHeld.2.2.2.1 (by omega) _ _, cell_off2 hHeld.2.2.2.2 (by omega) _ _⟩) (fun hNew => ?_)))
                    have X16 := mkHid (X12.out.set m0 (.slice a6 R.length c6))
                    have X17 := mkHid ((X11.out.off (b' := wB.heap.size + 1) (o := 0) (by omega) (.int .i64 m0)).off (b' := wB.heap.size + 1) (o := 1) (by omega) (.slice a6 R.length c6))
                    have F18 := mkHid (F13.out.setB X12.out (v' := .slice a6 R.length c6) m0)
                    have F19 := mkHid (F14.out.setB X12.out (v' := .slice a6 R.length c6) m0)
                    have J20 := mkHid (hJ.off2 hb6 (.int .i64 m0) (.slice a6 R.length c6))
                    clear hJ e0 e1 f0 f1 x0 x1 xf0 xf1
                    clear hK K hHeld
                    have hHeld := hNew
                    clear hNew
                    try simp only [Act.put, List.setIfInBounds_toArray, List.set_cons_zero, List.set_cons_succ]
                    refine wpAnyH_done (by kernel_rfl) ?_ _
                    clear hHeld
                    go_wp2_with fail
                    go_meet
                    exact ⟨_, _, a5, c5, a6, c6, rfl, rfl, mkHid ⟨J20.out, X17.out, X16.out, F18.out.cls, F19.out.cls⟩⟩
                  exact AllReadyH.nil
                exact AllReadyH.nil
              exact AllReadyH.nil
            refine AllReadyH.cons (o := { dst := some 6, op := Op.alloc 24, type := 0, pos := "law.go:91", after := #[], guard := none }) rfl (fun K hK => ?_) ?_
            · have hb6 : w.heap.size + 1 < wB.heap.size := by (have := hHeld.1.s.lt; first | exact this | (simp at this; omega))
              have al : Below wB.heap.size wB (wB.alloc (.cells #[.int .i64 0, .slice none 0 0] 24)) := bal (Below.refl _ _) _
              go_simp
              (first | (refine hK.out _ _ (by (try dsimp only); exact ⟨hHeld.1.next al, cell_grows al hHeld.2.1, cell_grows al hHeld.2.2.1, cell_grows al hHeld.2.2.2.1, cell_grows al hHeld.2.2.2.2⟩) (fun hNew => ?_)) | (go_wp2_with fail; refine hK.out _ _ (by (try dsimp only); exact ⟨hHeld.1.next al, cell_grows al hHeld.2.1, cell_grows al hHeld.2.2.1, cell_grows al hHeld.2.2.2.1, cell_grows al hHeld.2.2.2.2⟩) (fun hNew => ?_)))
              have X21 : Hid (TB (wB.alloc (.cells #[.int .i64 0, .slice none 0 0] 24)) (wB.heap.size) 0 (.slice none 0 0)) := mkHid (TB.new _ _ _ _ (by simp))
              have F22 := mkHid (F2.out.below al)
              have F23 := mkHid (F3.out.below al)
              clear al
              clear hK K hHeld
              have hHeld := hNew
              clear hNew
              try simp only [Act.put, List.setIfInBounds_toArray, List.set_cons_zero, List.set_cons_succ]
              refine wpAnyH_ready (rs := [4]) (by kernel_rfl) (by simp) ?_
              refine AllReadyH.cons (o := { dst := some 5, op := Op.alloc 24, type := 0, pos := "law.go:91", after := #[], guard := none }) rfl (fun K hK => ?_) ?_
              · have hb5 : w.heap.size + 1 < wB.heap.size + 1 := by (have := hHeld.1.s.lt; first | exact this | (simp at this; omega))
                have h56 : wB.heap.size < wB.heap.size + 1 := by (have := X21.out.lt; first | exact this | (simp at this; omega) | (simp; omega))
                have al : Below (wB.alloc (.cells #[.int .i64 0, .slice none 0 0] 24)).heap.size (wB.alloc (.cells #[.int .i64 0, .slice none 0 0] 24)) ((wB.alloc (.cells #[.int .i64 0, .slice none 0 0] 24)).alloc (.cells #[.int .i64 0, .slice none 0 0] 24)) := bal (Below.refl _ _) _
                go_simp
                (first | (refine hK.out _ _ (by (try dsimp only); exact ⟨hHeld.1.next al, cell_grows al hHeld.2.1, cell_grows al hHeld.2.2.1, cell_grows al hHeld.2.2.2.1, cell_grows al hHeld.2.2.2.2⟩) (fun hNew => ?_)) | (go_wp2_with fail; refine hK.out _ _ (by (try dsimp only); exact ⟨hHeld.1.next al, cell_grows al hHeld.2.1, cell_grows al hHeld.2.2.1, cell_grows al hHeld.2.2.2.1, cell_grows al hHeld.2.2.2.2⟩) (fun hNew => ?_)))
                have X24 := mkHid (X21.out.grows al)
                have X25 : Hid (TB ((wB.alloc (.cells #[.int .i64 0, .slice none 0 0] 24)).alloc (.cells #[.int .i64 0, .slice none 0 0] 24)) (wB.heap.size + 1) 0 (.slice none 0 0)) := mkHid (TB.new _ _ _ _ (by simp))
                have F26 := mkHid (F22.out.below al)
                have F27 := mkHid (F23.out.below al)
                clear al
                clear hK K hHeld
                have hHeld := hNew
                clear hNew
                try simp only [Act.put, List.setIfInBounds_toArray, List.set_cons_zero, List.set_cons_succ]
                refine wpAnyH_ready (rs := [6]) (by kernel_rfl) (by simp) ?_
                refine AllReadyH.cons (o := { dst := none, op := Op.store 24 (Operand.tmp 5) (Operand.tmp 21), type := 0, pos := "law.go:91", after := #[{ on := 4, ground := Ground.data }, { on := 1, ground := Ground.data }, { on := 3, ground := Ground.chain }, { on := 0, ground := Ground.phase }, { on := 1, ground := Ground.phase }, { on := 2, ground := Ground.textOnly Departure.lateStores }, { on := 3, ground := Ground.textOnly Departure.lateStoresUnsure }, { on := 4, ground := Ground.phase }, { on := 5, ground := Ground.phase }], guard := none }) rfl (fun K hK => ?_) ?_
                · generalize ((wB.alloc (.cells #[.int .i64 0, .slice none 0 0] 24)).alloc (.cells #[.int .i64 0, .slice none 0 0] 24)) = wg at *
                  have hJ := hHeld.1
                  obtain ⟨e0, e1⟩ := X25.out.at
                  obtain ⟨f0, f1⟩ := X25.out.free
                  obtain ⟨x0, x1⟩ := (X25.out.set0 n0).at
                  obtain ⟨xf0, xf1⟩ := (X25.out.set0 n0).free
                  go_simp
                  (first | (refine hK.out _ _ (by (try dsimp only); exact ⟨hJ.off2 hb5 _ _, cell_off2 hHeld.2.1 (by omega) _ _, cell_off2 hHeld.2.2.1 (by omega) _ _, cell_off2 hHeld.2.2.2.1 (by omega) _ _, cell_off2 hHeld.2.2.2.2 (by omega) _ _⟩) (fun hNew => ?_)) | (go_wp2_with fail; refine hK.out _ _ (by (try dsimp only); exact ⟨hJ.off2 hb5 _ _, cell_off2 hHeld.2.1 (by omega) _ _, cell_off2 hHeld.2.2.1 (by omega) _ _, cell_off2 hHeld.2.2.2.1 (by omega) _ _, cell_off2 hHeld.2.2.2.2 (by omega) _ _⟩) (fun hNew => ?_)))
                  have X28 := mkHid (X25.out.set n0 (.slice a5 L.length c5))
                  have X29 := mkHid ((X24.out.off (b' := wB.heap.size + 1) (o := 0) (by omega) (.int .i64 n0)).off (b' := wB.heap.size + 1) (o := 1) (by omega) (.slice a5 L.length c5))
                  have F30 := mkHid (F26.out.setB X25.out (v' := .slice a5 L.length c5) n0)
                  have F31 := mkHid (F27.out.setB X25.out (v' := .slice a5 L.length c5) n0)
                  have J32 := mkHid (hJ.off2 hb5 (.int .i64 n0) (.slice a5 L.length c5))
                  clear hJ e0 e1 f0 f1 x0 x1 xf0 xf1
                  clear hK K hHeld
                  have hHeld := hNew
                  clear hNew
                  try simp only [Act.put, List.setIfInBounds_toArray, List.set_cons_zero, List.set_cons_succ]
                  refine wpAnyH_ready (rs := [7]) (by kernel_rfl) (by simp) ?_
                  refine AllReadyH.cons (o := { dst := none, op := Op.store 24 (Operand.tmp 6) (Operand.tmp 23), type := 0, pos := "law.go:91", after := #[{ on := 5, ground := Ground.data }, { on := 3, ground := Ground.data }, { on := 6, ground := Ground.chain }, { on := 0, ground := Ground.phase }, { on := 1, ground := Ground.phase }, { on := 2, ground := Ground.phase }, { on := 3, ground := Ground.phase }, { on := 4, ground := Ground.phase }, { on := 5, ground := Ground.phase }, { on := 6, ground := Ground.phase }], guard := none }) rfl (fun K hK => ?_) ?_
                  · have hJ := hHeld.1
                    obtain ⟨e0, e1⟩ := X29.out.at
                    obtain ⟨f0, f1⟩ := X29.out.free
                    obtain ⟨x0, x1⟩ := (X29.out.set0 m0).at
                    obtain ⟨xf0, xf1⟩ := (X29.out.set0 m0).free
                    go_simp
                    (first | (refine hK.out _ _ (by (try dsimp only); exact ⟨hJ.off2 hb6 _ _, cell_off2 hHeld.2.1 (by omega) _ _, cell_off2 hHeld.2.2.1 (by omega) _ _, cell_off2 hHeld.2.2.2.1 (by omega) _ _, cell_off2 hHeld.2.2.2.2 (by omega) _ _⟩) (fun hNew => ?_)) | (go_wp2_with fail; refine hK.out _ _ (by (try dsimp only); exact ⟨hJ.off2 hb6 _ _, cell_off2 hHeld.2.1 (by omega) _ _, cell_off2 hHeld.2.2.1 (by omega) _ _, cell_off2 hHeld.2.2.2.1 (by omega) _ _, cell_off2 hHeld.2.2.2.2 (by omega) _ _⟩) (fun hNew => ?_)))
                    have X33 := mkHid (X29.out.set m0 (.slice a6 R.length c6))
                    have X34 := mkHid ((X28.out.off (b' := wB.heap.size) (o := 0) (by omega) (.int .i64 m0)).off (b' := wB.heap.size) (o := 1) (by omega) (.slice a6 R.length c6))
                    have F35 := mkHid (F30.out.setB X29.out (v' := .slice a6 R.length c6) m0)
                    have F36 := mkHid (F31.out.setB X29.out (v' := .slice a6 R.length c6) m0)
                    have J37 := mkHid (hJ.off2 hb6 (.int .i64 m0) (.slice a6 R.length c6))
                    clear hJ e0 e1 f0 f1 x0 x1 xf0 xf1
                    clear hK K hHeld
                    have hHeld := hNew
                    clear hNew
                    try simp only [Act.put, List.setIfInBounds_toArray, List.set_cons_zero, List.set_cons_succ]
                    refine wpAnyH_done (by kernel_rfl) ?_ _
                    clear hHeld
                    go_wp2_with fail
                    go_meet
                    exact ⟨_, _, a5, c5, a6, c6, rfl, rfl, mkHid ⟨J37.out, X34.out, X33.out, F35.out.cls, F36.out.cls⟩⟩
                  exact AllReadyH.nil
                exact AllReadyH.nil
              exact AllReadyH.nil
            exact AllReadyH.nil
          refine AllReadyH.cons (o := { dst := some 5, op := Op.alloc 24, type := 0, pos := "law.go:91", after := #[], guard := none }) rfl (fun K hK => ?_) ?_
          · have hb5 : w.heap.size + 1 < wA.heap.size := by (have := hHeld.1.s.lt; first | exact this | (simp at this; omega))
            have al : Below wA.heap.size wA (wA.alloc (.cells #[.int .i64 0, .slice none 0 0] 24)) := bal (Below.refl _ _) _
            go_simp
            (first | (refine hK.out _ _ (by (try dsimp only); exact ⟨hHeld.1.next al, cell_grows al hHeld.2.1, cell_grows al hHeld.2.2.1, cell_grows al hHeld.2.2.2.1, cell_grows al hHeld.2.2.2.2⟩) (fun hNew => ?_)) | (go_wp2_with fail; refine hK.out _ _ (by (try dsimp only); exact ⟨hHeld.1.next al, cell_grows al hHeld.2.1, cell_grows al hHeld.2.2.1, cell_grows al hHeld.2.2.2.1, cell_grows al hHeld.2.2.2.2⟩) (fun hNew => ?_)))
            have X38 : Hid (TB (wA.alloc (.cells #[.int .i64 0, .slice none 0 0] 24)) (wA.heap.size) 0 (.slice none 0 0)) := mkHid (TB.new _ _ _ _ (by simp))
            have F39 := mkHid (F1.out.below al)
            clear al
            clear hK K hHeld
            have hHeld := hNew
            clear hNew
            try simp only [Act.put, List.setIfInBounds_toArray, List.set_cons_zero, List.set_cons_succ]
            refine wpAnyH_ready (rs := [3, 5]) (by kernel_rfl) (by simp) ?_
            refine AllReadyH.cons (o := { dst := some 23, op := Op.call { callee := Callee.value (Operand.func 19), args := #[Operand.tmp 22], argTypes := #[24] }, type := 24, pos := "law.go:91", after := #[{ on := 2, ground := Ground.data }, { on := 1, ground := Ground.chain }], guard := none }) rfl (fun K hK => ?_) ?_
            · (first | (go_at_call 19; ((with_reducible refine (CPB.out _ hHeld.1.b).mono ?_); rintro e wB ⟨u6, rfl, h6⟩; obtain ⟨a6, c6, rfl⟩ := h6.out.1.form)) | (go_simp; go_at_call 19; ((with_reducible refine (CPB.out _ hHeld.1.b).mono ?_); rintro e wB ⟨u6, rfl, h6⟩; obtain ⟨a6, c6, rfl⟩ := h6.out.1.form)))
              have hw := h6.out.2
              (first | (refine hK.out _ _ (by (try dsimp only); exact ⟨hHeld.1.next hw, cell_grows hw hHeld.2.1, cell_grows hw hHeld.2.2.1, cell_grows hw hHeld.2.2.2.1, cell_grows hw hHeld.2.2.2.2⟩) (fun hNew => ?_)) | (go_wp2_with fail; refine hK.out _ _ (by (try dsimp only); exact ⟨hHeld.1.next hw, cell_grows hw hHeld.2.1, cell_grows hw hHeld.2.2.1, cell_grows hw hHeld.2.2.2.1, cell_grows hw hHeld.2.2.2.2⟩) (fun hNew => ?_)))
              have X40 := mkHid (X38.out.grows hw)
              have F41 := mkHid (F39.out.below hw)
              have F42 := mkHid h6.out.1
              clear hw h6
              clear hK K hHeld
              have hHeld := hNew
              clear hNew
              try simp only [Act.put, List.setIfInBounds_toArray, List.set_cons_zero, List.set_cons_succ]
              refine wpAnyH_ready (rs := [5]) (by kernel_rfl) (by simp) ?_
              refine AllReadyH.cons (o := { dst := some 6, op := Op.alloc 24, type := 0, pos := "law.go:91", after := #[], guard := none }) rfl (fun K hK => ?_) ?_
              · have hb6 : w.heap.size + 1 < wB.heap.size := by (have := hHeld.1.s.lt; first | exact this | (simp at this; omega))
                have h56 : wA.heap.size < wB.heap.size := by (have := X40.out.lt; first | exact this | (simp at this; omega) | (simp; omega))
                have al : Below wB.heap.size wB (wB.alloc (.cells #[.int .i64 0, .slice none 0 0] 24)) := bal (Below.refl _ _) _
                go_simp
                (first | (refine hK.out _ _ (by (try dsimp only); exact ⟨hHeld.1.next al, cell_grows al hHeld.2.1, cell_grows al hHeld.2.2.1, cell_grows al hHeld.2.2.2.1, cell_grows al hHeld.2.2.2.2⟩) (fun hNew => ?_)) | (go_wp2_with fail; refine hK.out _ _ (by (try dsimp only); exact ⟨hHeld.1.next al, cell_grows al hHeld.2.1, cell_grows al hHeld.2.2.1, cell_grows al hHeld.2.2.2.1, cell_grows al hHeld.2.2.2.2⟩) (fun hNew => ?_)))
                have X43 := mkHid (X40.out.grows al)
                have X44 : Hid (TB (wB.alloc (.cells #[.int .i64 0, .slice none 0 0] 24)) (wB.heap.size) 0 (.slice none 0 0)) := mkHid (TB.new _ _ _ _ (by simp))
                have F45 := mkHid (F41.out.below al)
                have F46 := mkHid (F42.out.below al)
                clear al
                clear hK K hHeld
                have hHeld := hNew
                clear hNew
                try simp only [Act.put, List.setIfInBounds_toArray, List.set_cons_zero, List.set_cons_succ]
                refine wpAnyH_ready (rs := [6]) (by kernel_rfl) (by simp) ?_
                refine AllReadyH.cons (o := { dst := none, op := Op.store 24 (Operand.tmp 5) (Operand.tmp 21), type := 0, pos := "law.go:91", after := #[{ on := 4, ground := Ground.data }, { on := 1, ground := Ground.data }, { on := 3, ground := Ground.chain }, { on := 0, ground := Ground.phase }, { on := 1, ground := Ground.phase }, { on := 2, ground := Ground.textOnly Departure.lateStores }, { on := 3, ground := Ground.textOnly Departure.lateStoresUnsure }, { on := 4, ground := Ground.phase }, { on := 5, ground := Ground.phase }], guard := none }) rfl (fun K hK => ?_) ?_
                · generalize (wB.alloc (.cells #[.int .i64 0, .slice none 0 0] 24)) = wg at *
                  have hJ := hHeld.1
                  obtain ⟨e0, e1⟩ := X43.out.at
                  obtain ⟨f0, f1⟩ := X43.out.free
                  obtain ⟨x0, x1⟩ := (X43.out.set0 n0).at
                  obtain ⟨xf0, xf1⟩ := (X43.out.set0 n0).free
                  go_simp
                  (first | (refine hK.out _ _ (by (try dsimp only); exact ⟨hJ.off2 hb5 _ _, cell_off2 hHeld.2.1 (by omega) _ _, cell_off2 hHeld.2.2.1 (by omega) _ _, cell_off2 hHeld.2.2.2.1 (by omega) _ _, cell_off2 hHeld.2.2.2.2 (by omega) _ _⟩) (fun hNew => ?_)) | (go_wp2_with fail; refine hK.out _ _ (by (try dsimp only); exact ⟨hJ.off2 hb5 _ _, cell_off2 hHeld.2.1 (by omega) _ _, cell_off2 hHeld.2.2.1 (by omega) _ _, cell_off2 hHeld.2.2.2.1 (by omega) _ _, cell_off2 hHeld.2.2.2.2 (by omega) _ _⟩) (fun hNew => ?_)))
                  have X47 := mkHid (X43.out.set n0 (.slice a5 L.length c5))
                  have X48 := mkHid ((X44.out.off (b' := wA.heap.size) (o := 0) (by omega) (.int .i64 n0)).off (b' := wA.heap.size) (o := 1) (by omega) (.slice a5 L.length c5))
                  have F49 := mkHid (F45.out.setB X43.out (v' := .slice a5 L.length c5) n0)
                  have F50 := mkHid (F46.out.setB X43.out (v' := .slice a5 L.length c5) n0)
                  have J51 := mkHid (hJ.off2 hb5 (.int .i64 n0) (.slice a5 L.length c5))
                  clear hJ e0 e1 f0 f1 x0 x1 xf0 xf1
                  clear hK K hHeld
                  have hHeld := hNew
                  clear hNew
                  try simp only [Act.put, List.setIfInBounds_toArray, List.set_cons_zero, List.set_cons_succ]
                  refine wpAnyH_ready (rs := [7]) (by kernel_rfl) (by simp) ?_
                  refine AllReadyH.cons (o := { dst := none, op := Op.store 24 (Operand.tmp 6) (Operand.tmp 23), type := 0, pos := "law.go:91", after := #[{ on := 5, ground := Ground.data }, { on := 3, ground := Ground.data }, { on := 6, ground := Ground.chain }, { on := 0, ground := Ground.phase }, { on := 1, ground := Ground.phase }, { on := 2, ground := Ground.phase }, { on := 3, ground := Ground.phase }, { on := 4, ground := Ground.phase }, { on := 5, ground := Ground.phase }, { on := 6, ground := Ground.phase }], guard := none }) rfl (fun K hK => ?_) ?_
                  · have hJ := hHeld.1
                    obtain ⟨e0, e1⟩ := X48.out.at
                    obtain ⟨f0, f1⟩ := X48.out.free
                    obtain ⟨x0, x1⟩ := (X48.out.set0 m0).at
                    obtain ⟨xf0, xf1⟩ := (X48.out.set0 m0).free
                    go_simp
                    (first | (refine hK.out _ _ (by (try dsimp only); exact ⟨hJ.off2 hb6 _ _, cell_off2 hHeld.2.1 (by omega) _ _, cell_off2 hHeld.2.2.1 (by omega) _ _, cell_off2 hHeld.2.2.2.1 (by omega) _ _, cell_off2 hHeld.2.2.2.2 (by omega) _ _⟩) (fun hNew => ?_)) | (go_wp2_with fail; refine hK.out _ _ (by (try dsimp only); exact ⟨hJ.off2 hb6 _ _, cell_off2 hHeld.2.1 (by omega) _ _, cell_off2 hHeld.2.2.1 (by omega) _ _, cell_off2 hHeld.2.2.2.1 (by omega) _ _, cell_off2 hHeld.2.2.2.2 (by omega) _ _⟩) (fun hNew => ?_)))
                    have X52 := mkHid (X48.out.set m0 (.slice a6 R.length c6))
                    have X53 := mkHid ((X47.out.off (b' := wB.heap.size) (o := 0) (by omega) (.int .i64 m0)).off (b' := wB.heap.size) (o := 1) (by omega) (.slice a6 R.length c6))
                    have F54 := mkHid (F49.out.setB X48.out (v' := .slice a6 R.length c6) m0)
                    have F55 := mkHid (F50.out.setB X48.out (v' := .slice a6 R.length c6) m0)
                    have J56 := mkHid (hJ.off2 hb6 (.int .i64 m0) (.slice a6 R.length c6))
                    clear hJ e0 e1 f0 f1 x0 x1 xf0 xf1
                    clear hK K hHeld
                    have hHeld := hNew
                    clear hNew
                    try simp only [Act.put, List.setIfInBounds_toArray, List.set_cons_zero, List.set_cons_succ]
                    refine wpAnyH_done (by kernel_rfl) ?_ _
                    clear hHeld
                    go_wp2_with fail
                    go_meet
                    exact ⟨_, _, a5, c5, a6, c6, rfl, rfl, mkHid ⟨J56.out, X53.out, X52.out, F54.out.cls, F55.out.cls⟩⟩
                  exact AllReadyH.nil
                exact AllReadyH.nil
              exact AllReadyH.nil
            refine AllReadyH.cons (o := { dst := some 6, op := Op.alloc 24, type := 0, pos := "law.go:91", after := #[], guard := none }) rfl (fun K hK => ?_) ?_
            · have hb6 : w.heap.size + 1 < wA.heap.size + 1 := by (have := hHeld.1.s.lt; first | exact this | (simp at this; omega))
              have h56 : wA.heap.size < wA.heap.size + 1 := by (have := X38.out.lt; first | exact this | (simp at this; omega) | (simp; omega))
              have al : Below (wA.alloc (.cells #[.int .i64 0, .slice none 0 0] 24)).heap.size (wA.alloc (.cells #[.int .i64 0, .slice none 0 0] 24)) ((wA.alloc (.cells #[.int .i64 0, .slice none 0 0] 24)).alloc (.cells #[.int .i64 0, .slice none 0 0] 24)) := bal (Below.refl _ _) _
              go_simp
              (first | (refine hK.out _ _ (by (try dsimp only); exact ⟨hHeld.1.next al, cell_grows al hHeld.2.1, cell_grows al hHeld.2.2.1, cell_grows al hHeld.2.2.2.1, cell_grows al hHeld.2.2.2.2⟩) (fun hNew => ?_)) | (go_wp2_with fail; refine hK.out _ _ (by (try dsimp only); exact ⟨hHeld.1.next al, cell_grows al hHeld.2.1, cell_grows al hHeld.2.2.1, cell_grows al hHeld.2.2.2.1, cell_grows al hHeld.2.2.2.2⟩) (fun hNew => ?_)))
              have X57 := mkHid (X38.out.grows al)
              have X58 : Hid (TB ((wA.alloc (.cells #[.int .i64 0, .slice none 0 0] 24)).alloc (.cells #[.int .i64 0, .slice none 0 0] 24)) (wA.heap.size + 1) 0 (.slice none 0 0)) := mkHid (TB.new _ _ _ _ (by simp))
              have F59 := mkHid (F39.out.below al)
              clear al
              clear hK K hHeld
              have hHeld := hNew
              clear hNew
              try simp only [Act.put, List.setIfInBounds_toArray, List.set_cons_zero, List.set_cons_succ]
              refine wpAnyH_ready (rs := [3]) (by kernel_rfl) (by simp) ?_
              refine AllReadyH.cons (o := { dst := some 23, op := Op.call { callee := Callee.value (Operand.func 19), args := #[Operand.tmp 22], argTypes := #[24] }, type := 24, pos := "law.go:91", after := #[{ on := 2, ground := Ground.data }, { on := 1, ground := Ground.chain }], guard := none }) rfl (fun K hK => ?_) ?_
              · (first | (go_at_call 19; ((with_reducible refine (CPB.out _ hHeld.1.b).mono ?_); rintro e wB ⟨u6, rfl, h6⟩; obtain ⟨a6, c6, rfl⟩ := h6.out.1.form)) | (go_simp; go_at_call 19; ((with_reducible refine (CPB.out _ hHeld.1.b).mono ?_); rintro e wB ⟨u6, rfl, h6⟩; obtain ⟨a6, c6, rfl⟩ := h6.out.1.form)))
                have hw := h6.out.2
                (first | (refine hK.out _ _ (by (try dsimp only); exact ⟨hHeld.1.next hw, cell_grows hw hHeld.2.1, cell_grows hw hHeld.2.2.1, cell_grows hw hHeld.2.2.2.1, cell_grows hw hHeld.2.2.2.2⟩) (fun hNew => ?_)) | (go_wp2_with fail; refine hK.out _ _ (by (try dsimp only); exact ⟨hHeld.1.next hw, cell_grows hw hHeld.2.1, cell_grows hw hHeld.2.2.1, cell_grows hw hHeld.2.2.2.1, cell_grows hw hHeld.2.2.2.2⟩) (fun hNew => ?_)))
                have X60 := mkHid (X57.out.grows hw)
                have X61 := mkHid (X58.out.grows hw)
                have F62 := mkHid (F59.out.below hw)
                have F63 := mkHid h6.out.1
                clear hw h6
                clear hK K hHeld
                have hHeld := hNew
                clear hNew
                try simp only [Act.put, List.setIfInBounds_toArray, List.set_cons_zero, List.set_cons_succ]
                refine wpAnyH_ready (rs := [6]) (by kernel_rfl) (by simp) ?_
                refine AllReadyH.cons (o := { dst := none, op := Op.store 24 (Operand.tmp 5) (Operand.tmp 21), type := 0, pos := "law.go:91", after := #[{ on := 4, ground := Ground.data }, { on := 1, ground := Ground.data }, { on := 3, ground := Ground.chain }, { on := 0, ground := Ground.phase }, { on := 1, ground := Ground.phase }, { on := 2, ground := Ground.textOnly Departure.lateStores }, { on := 3, ground := Ground.textOnly Departure.lateStoresUnsure }, { on := 4, ground := Ground.phase }, { on := 5, ground := Ground.phase }], guard := none }) rfl (fun K hK => ?_) ?_
                · have hJ := hHeld.1
                  obtain ⟨e0, e1⟩ := X60.out.at
                  obtain ⟨f0, f1⟩ := X60.out.free
                  obtain ⟨x0, x1⟩ := (X60.out.set0 n0).at
                  obtain ⟨xf0, xf1⟩ := (X60.out.set0 n0).free
                  go_simp
                  (first | (refine hK.out _ _ (by (try dsimp only); exact ⟨hJ.off2 hb5 _ _, cell_off2 hHeld.2.1 (by omega) _ _, cell_off2 hHeld.2.2.1 (by omega) _ _, cell_off2 hHeld.2.2.2.1 (by omega) _ _, cell_off2 hHeld.2.2.2.2 (by omega) _ _⟩) (fun hNew => ?_)) | (go_wp2_with fail; refine hK.out _ _ (by (try dsimp only); exact ⟨hJ.off2 hb5 _ _, cell_off2 hHeld.2.1 (by omega) _ _, cell_off2 hHeld.2.2.1 (by omega) _ _, cell_off2 hHeld.2.2.2.1 (by omega) _ _, cell_off2 hHeld.2.2.2.2 (by omega) _ _⟩) (fun hNew => ?_)))
                  have X64 := mkHid (X60.out.set n0 (.slice a5 L.length c5))
                  have X65 := mkHid ((X61.out.off (b' := wA.heap.size) (o := 0) (by omega) (.int .i64 n0)).off (b' := wA.heap.size) (o := 1) (by omega) (.slice a5 L.length c5))
                  have F66 := mkHid (F62.out.setB X60.out (v' := .slice a5 L.length c5) n0)
                  have F67 := mkHid (F63.out.setB X60.out (v' := .slice a5 L.length c5) n0)
                  have J68 := mkHid (hJ.off2 hb5 (.int .i64 n0) (.slice a5 L.length c5))
                  clear hJ e0 e1 f0 f1 x0 x1 xf0 xf1
                  clear hK K hHeld
                  have hHeld := hNew
                  clear hNew
                  try simp only [Act.put, List.setIfInBounds_toArray, List.set_cons_zero, List.set_cons_succ]
                  refine wpAnyH_ready (rs := [7]) (by kernel_rfl) (by simp) ?_
                  refine AllReadyH.cons (o := { dst := none, op := Op.store 24 (Operand.tmp 6) (Operand.tmp 23), type := 0, pos := "law.go:91", after := #[{ on := 5, ground := Ground.data }, { on := 3, ground := Ground.data }, { on := 6, ground := Ground.chain }, { on := 0, ground := Ground.phase }, { on := 1, ground := Ground.phase }, { on := 2, ground := Ground.phase }, { on := 3, ground := Ground.phase }, { on := 4, ground := Ground.phase }, { on := 5, ground := Ground.phase }, { on := 6, ground := Ground.phase }], guard := none }) rfl (fun K hK => ?_) ?_
                  · have hJ := hHeld.1
                    obtain ⟨e0, e1⟩ := X65.out.at
                    obtain ⟨f0, f1⟩ := X65.out.free
                    obtain ⟨x0, x1⟩ := (X65.out.set0 m0).at
                    obtain ⟨xf0, xf1⟩ := (X65.out.set0 m0).free
                    go_simp
                    (first | (refine hK.out _ _ (by (try dsimp only); exact ⟨hJ.off2 hb6 _ _, cell_off2 hHeld.2.1 (by omega) _ _, cell_off2 hHeld.2.2.1 (by omega) _ _, cell_off2 hHeld.2.2.2.1 (by omega) _ _, cell_off2 hHeld.2.2.2.2 (by omega) _ _⟩) (fun hNew => ?_)) | (go_wp2_with fail; refine hK.out _ _ (by (try dsimp only); exact ⟨hJ.off2 hb6 _ _, cell_off2 hHeld.2.1 (by omega) _ _, cell_off2 hHeld.2.2.1 (by omega) _ _, cell_off2 hHeld.2.2.2.1 (by omega) _ _, cell_off2 hHeld.2.2.2.2 (by omega) _ _⟩) (fun hNew => ?_)))
                    have X69 := mkHid (X65.out.set m0 (.slice a6 R.length c6))
                    have X70 := mkHid ((X64.out.off (b' := wA.heap.size + 1) (o := 0) (by omega) (.int .i64 m0)).off (b' := wA.heap.size + 1) (o := 1) (by omega) (.slice a6 R.length c6))
                    have F71 := mkHid (F66.out.setB X65.out (v' := .slice a6 R.length c6) m0)
                    have F72 := mkHid (F67.out.setB X65.out (v' := .slice a6 R.length c6) m0)
                    have J73 := mkHid (hJ.off2 hb6 (.int .i64 m0) (.slice a6 R.length c6))
                    clear hJ e0 e1 f0 f1 x0 x1 xf0 xf1
                    clear hK K hHeld
                    have hHeld := hNew
                    clear hNew
                    try simp only [Act.put, List.setIfInBounds_toArray, List.set_cons_zero, List.set_cons_succ]
                    refine wpAnyH_done (by kernel_rfl) ?_ _
                    clear hHeld
                    go_wp2_with fail
                    go_meet
                    exact ⟨_, _, a5, c5, a6, c6, rfl, rfl, mkHid ⟨J73.out, X70.out, X69.out, F71.out.cls, F72.out.cls⟩⟩
                  exact AllReadyH.nil
                exact AllReadyH.nil
              exact AllReadyH.nil
            exact AllReadyH.nil
          refine AllReadyH.cons (o := { dst := some 6, op := Op.alloc 24, type := 0, pos := "law.go:91", after := #[], guard := none }) rfl (fun K hK => ?_) ?_
          · have hb6 : w.heap.size + 1 < wA.heap.size := by (have := hHeld.1.s.lt; first | exact this | (simp at this; omega))
            have al : Below wA.heap.size wA (wA.alloc (.cells #[.int .i64 0, .slice none 0 0] 24)) := bal (Below.refl _ _) _
            go_simp
            (first | (refine hK.out _ _ (by (try dsimp only); exact ⟨hHeld.1.next al, cell_grows al hHeld.2.1, cell_grows al hHeld.2.2.1, cell_grows al hHeld.2.2.2.1, cell_grows al hHeld.2.2.2.2⟩) (fun hNew => ?_)) | (go_wp2_with fail; refine hK.out _ _ (by (try dsimp only); exact ⟨hHeld.1.next al, cell_grows al hHeld.2.1, cell_grows al hHeld.2.2.1, cell_grows al hHeld.2.2.2.1, cell_grows al hHeld.2.2.2.2⟩) (fun hNew => ?_)))
            have X74 : Hid (TB (wA.alloc (.cells #[.int .i64 0, .slice none 0 0] 24)) (wA.heap.size) 0 (.slice none 0 0)) := mkHid (TB.new _ _ _ _ (by simp))
            have F75 := mkHid (F1.out.below al)
            clear al
            clear hK K hHeld
            have hHeld := hNew
            clear hNew
            try simp only [Act.put, List.setIfInBounds_toArray, List.set_cons_zero, List.set_cons_succ]
            refine wpAnyH_ready (rs := [3, 4]) (by kernel_rfl) (by simp) ?_
            refine AllReadyH.cons (o := { dst := some 23, op := Op.call { callee := Callee.value (Operand.func 19), args := #[Operand.tmp 22], argTypes := #[24] }, type := 24, pos := "law.go:91", after := #[{ on := 2, ground := Ground.data }, { on := 1, ground := Ground.chain }], guard := none }) rfl (fun K hK => ?_) ?_
            · (first | (go_at_call 19; ((with_reducible refine (CPB.out _ hHeld.1.b).mono ?_); rintro e wB ⟨u6, rfl, h6⟩; obtain ⟨a6, c6, rfl⟩ := h6.out.1.form)) | (go_simp; go_at_call 19; ((with_reducible refine (CPB.out _ hHeld.1.b).mono ?_); rintro e wB ⟨u6, rfl, h6⟩; obtain ⟨a6, c6, rfl⟩ := h6.out.1.form)))
              have hw := h6.out.2
              (first | (refine hK.out _ _ (by (try dsimp only); exact ⟨hHeld.1.next hw, cell_grows hw hHeld.2.1, cell_grows hw hHeld.2.2.1, cell_grows hw hHeld.2.2.2.1, cell_grows hw hHeld.2.2.2.2⟩) (fun hNew => ?_)) | (go_wp2_with fail; refine hK.out _ _ (by (try dsimp only); exact ⟨hHeld.1.next hw, cell_grows hw hHeld.2.1, cell_grows hw hHeld.2.2.1, cell_grows hw hHeld.2.2.2.1, cell_grows hw hHeld.2.2.2.2⟩) (fun hNew => ?_)))
              have X76 := mkHid (X74.out.grows hw)
              have F77 := mkHid (F75.out.below hw)
              have F78 := mkHid h6.out.1
              clear hw h6
              clear hK K hHeld
              have hHeld := hNew
              clear hNew
              try simp only [Act.put, List.setIfInBounds_toArray, List.set_cons_zero, List.set_cons_succ]
              refine wpAnyH_ready (rs := [4]) (by kernel_rfl) (by simp) ?_
              refine AllReadyH.cons (o := { dst := some 5, op := Op.alloc 24, type := 0, pos := "law.go:91", after := #[], guard := none }) rfl (fun K hK => ?_) ?_
              · have hb5 : w.heap.size + 1 < wB.heap.size := by (have := hHeld.1.s.lt; first | exact this | (simp at this; omega))
                have h56 : wA.heap.size < wB.heap.size := by (have := X76.out.lt; first | exact this | (simp at this; omega) | (simp; omega))
                have al : Below wB.heap.size wB (wB.alloc (.cells #[.int .i64 0, .slice none 0 0] 24)) := bal (Below.refl _ _) _
                go_simp
                (first | (refine hK.out _ _ (by (try dsimp only); exact ⟨hHeld.1.next al, cell_grows al hHeld.2.1, cell_grows al hHeld.2.2.1, cell_grows al hHeld.2.2.2.1, cell_grows al hHeld.2.2.2.2⟩) (fun hNew => ?_)) | (go_wp2_with fail; refine hK.out _ _ (by (try dsimp only); exact ⟨hHeld.1.next al, cell_grows al hHeld.2.1, cell_grows al hHeld.2.2.1, cell_grows al hHeld.2.2.2.1, cell_grows al hHeld.2.2.2.2⟩) (fun hNew => ?_)))
                have X79 := mkHid (X76.out.grows al)
                have X80 : Hid (TB (wB.alloc (.cells #[.int .i64 0, .slice none 0 0] 24)) (wB.heap.size) 0 (.slice none 0 0)) := mkHid (TB.new _ _ _ _ (by simp))
                have F81 := mkHid (F77.out.below al)
                have F82 := mkHid (F78.out.below al)
                clear al
                clear hK K hHeld
                have hHeld := hNew
                clear hNew
                try simp only [Act.put, List.setIfInBounds_toArray, List.set_cons_zero, List.set_cons_succ]
                refine wpAnyH_ready (rs := [6]) (by kernel_rfl) (by simp) ?_
                refine AllReadyH.cons (o := { dst := none, op := Op.store 24 (Operand.tmp 5) (Operand.tmp 21), type := 0, pos := "law.go:91", after := #[{ on := 4, ground := Ground.data }, { on := 1, ground := Ground.data }, { on := 3, ground := Ground.chain }, { on := 0, ground := Ground.phase }, { on := 1, ground := Ground.phase }, { on := 2, ground := Ground.textOnly Departure.lateStores }, { on := 3, ground := Ground.textOnly Departure.lateStoresUnsure }, { on := 4, ground := Ground.phase }, { on := 5, ground := Ground.phase }], guard := none }) rfl (fun K hK => ?_) ?_
                · generalize (wB.alloc (.cells #[.int .i64 0, .slice none 0 0] 24)) = wg at *
                  have hJ := hHeld.1
                  obtain ⟨e0, e1⟩ := X80.out.at
                  obtain ⟨f0, f1⟩ := X80.out.free
                  obtain ⟨x0, x1⟩ := (X80.out.set0 n0).at
                  obtain ⟨xf0, xf1⟩ := (X80.out.set0 n0).free
                  go_simp
                  (first | (refine hK.out _ _ (by (try dsimp only); exact ⟨hJ.off2 hb5 _ _, cell_off2 hHeld.2.1 (by omega) _ _, cell_off2 hHeld.2.2.1 (by omega) _ _, cell_off2 hHeld.2.2.2.1 (by omega) _ _, cell_off2 hHeld.2.2.2.2 (by omega) _ _⟩) (fun hNew => ?_)) | (go_wp2_with fail; refine hK.out _ _ (by (try dsimp only); exact ⟨hJ.off2 hb5 _ _, cell_off2 hHeld.2.1 (by omega) _ _, cell_off2 hHeld.2.2.1 (by omega) _ _, cell_off2 hHeld.2.2.2.1 (by omega) _ _, cell_off2 hHeld.2.2.2.2 (by omega) _ _⟩) (fun hNew => ?_)))
                  have X83 := mkHid (X80.out.set n0 (.slice a5 L.length c5))
                  have X84 := mkHid ((X79.out.off (b' := wB.heap.size) (o := 0) (by omega) (.int .i64 n0)).off (b' := wB.heap.size) (o := 1) (by omega) (.slice a5 L.length c5))
                  have F85 := mkHid (F81.out.setB X80.out (v' := .slice a5 L.length c5) n0)
                  have F86 := mkHid (F82.out.setB X80.out (v' := .slice a5 L.length c5) n0)
                  have J87 := mkHid (hJ.off2 hb5 (.int .i64 n0) (.slice a5 L.length c5))
                  clear hJ e0 e1 f0 f1 x0 x1 xf0 xf1
                  clear hK K hHeld
                  have hHeld := hNew
                  clear hNew
                  try simp only [Act.put, List.setIfInBounds_toArray, List.set_cons_zero, List.set_cons_succ]
                  refine wpAnyH_ready (rs := [7]) (by kernel_rfl) (by simp) ?_
                  refine AllReadyH.cons (o := { dst := none, op := Op.store 24 (Operand.tmp 6) (Operand.tmp 23), type := 0, pos := "law.go:91", after := #[{ on := 5, ground := Ground.data }, { on := 3, ground := Ground.data }, { on := 6, ground := Ground.chain }, { on := 0, ground := Ground.phase }, { on := 1, ground := Ground.phase }, { on := 2, ground := Ground.phase }, { on := 3, ground := Ground.phase }, { on := 4, ground := Ground.phase }, { on := 5, ground := Ground.phase }, { on := 6, ground := Ground.phase }], guard := none }) rfl (fun K hK => ?_) ?_
                  · have hJ := hHeld.1
                    obtain ⟨e0, e1⟩ := X84.out.at
                    obtain ⟨f0, f1⟩ := X84.out.free
                    obtain ⟨x0, x1⟩ := (X84.out.set0 m0).at
                    obtain ⟨xf0, xf1⟩ := (X84.out.set0 m0).free
                    go_simp
                    (first | (refine hK.out _ _ (by (try dsimp only); exact ⟨hJ.off2 hb6 _ _, cell_off2 hHeld.2.1 (by omega) _ _, cell_off2 hHeld.2.2.1 (by omega) _ _, cell_off2 hHeld.2.2.2.1 (by omega) _ _, cell_off2 hHeld.2.2.2.2 (by omega) _ _⟩) (fun hNew => ?_)) | (go_wp2_with fail; refine hK.out _ _ (by (try dsimp only); exact ⟨hJ.off2 hb6 _ _, cell_off2 hHeld.2.1 (by omega) _ _, cell_off2 hHeld.2.2.1 (by omega) _ _, cell_off2 hHeld.2.2.2.1 (by omega) _ _, cell_off2 hHeld.2.2.2.2 (by omega) _ _⟩) (fun hNew => ?_)))
                    have X88 := mkHid (X84.out.set m0 (.slice a6 R.length c6))
                    have X89 := mkHid ((X83.out.off (b' := wA.heap.size) (o := 0) (by omega) (.int .i64 m0)).off (b' := wA.heap.size) (o := 1) (by omega) (.slice a6 R.length c6))
                    have F90 := mkHid (F85.out.setB X84.out (v' := .slice a6 R.length c6) m0)
                    have F91 := mkHid (F86.out.setB X84.out (v' := .slice a6 R.length c6) m0)
                    have J92 := mkHid (hJ.off2 hb6 (.int .i64 m0) (.slice a6 R.length c6))
                    clear hJ e0 e1 f0 f1 x0 x1 xf0 xf1
                    clear hK K hHeld
                    have hHeld := hNew
                    clear hNew
                    try simp only [Act.put, List.setIfInBounds_toArray, List.set_cons_zero, List.set_cons_succ]
                    refine wpAnyH_done (by kernel_rfl) ?_ _
                    clear hHeld
                    go_wp2_with fail
                    go_meet
                    exact ⟨_, _, a5, c5, a6, c6, rfl, rfl, mkHid ⟨J92.out, X89.out, X88.out, F90.out.cls, F91.out.cls⟩⟩
                  exact AllReadyH.nil
                exact AllReadyH.nil
              exact AllReadyH.nil
            refine AllReadyH.cons (o := { dst := some 5, op := Op.alloc 24, type := 0, pos := "law.go:91", after := #[], guard := none }) rfl (fun K hK => ?_) ?_
            · have hb5 : w.heap.size + 1 < wA.heap.size + 1 := by (have := hHeld.1.s.lt; first | exact this | (simp at this; omega))
              have h56 : wA.heap.size < wA.heap.size + 1 := by (have := X74.out.lt; first | exact this | (simp at this; omega) | (simp; omega))
              have al : Below (wA.alloc (.cells #[.int .i64 0, .slice none 0 0] 24)).heap.size (wA.alloc (.cells #[.int .i64 0, .slice none 0 0] 24)) ((wA.alloc (.cells #[.int .i64 0, .slice none 0 0] 24)).alloc (.cells #[.int .i64 0, .slice none 0 0] 24)) := bal (Below.refl _ _) _
              go_simp
              (first | (refine hK.out _ _ (by (try dsimp only); exact ⟨hHeld.1.next al, cell_grows al hHeld.2.1, cell_grows al hHeld.2.2.1, cell_grows al hHeld.2.2.2.1, cell_grows al hHeld.2.2.2.2⟩) (fun hNew => ?_)) | (go_wp2_with fail; refine hK.out _ _ (by (try dsimp only); exact ⟨hHeld.1.next al, cell_grows al hHeld.2.1, cell_grows al hHeld.2.2.1, cell_grows al hHeld.2.2.2.1, cell_grows al hHeld.2.2.2.2⟩) (fun hNew => ?_)))
              have X93 := mkHid (X74.out.grows al)
              have X94 : Hid (TB ((wA.alloc (.cells #[.int .i64 0, .slice none 0 0] 24)).alloc (.cells #[.int .i64 0, .slice none 0 0] 24)) (wA.heap.size + 1) 0 (.slice none 0 0)) := mkHid (TB.new _ _ _ _ (by simp))
              have F95 := mkHid (F75.out.below al)
              clear al
              clear hK K hHeld
              have hHeld := hNew
              clear hNew
              try simp only [Act.put, List.setIfInBounds_toArray, List.set_cons_zero, List.set_cons_succ]
              refine wpAnyH_ready (rs := [3]) (by kernel_rfl) (by simp) ?_
              refine AllReadyH.cons (o := { dst := some 23, op := Op.call { callee := Callee.value (Operand.func 19), args := #[Operand.tmp 22], argTypes := #[24] }, type := 24, pos := "law.go:91", after := #[{ on := 2, ground := Ground.data }, { on := 1, ground := Ground.chain }], guard := none }) rfl (fun K hK => ?_) ?_
              · (first | (go_at_call 19; ((with_reducible refine (CPB.out _ hHeld.1.b).mono ?_); rintro e wB ⟨u6, rfl, h6⟩; obtain ⟨a6, c6, rfl⟩ := h6.out.1.form)) | (go_simp; go_at_call 19; ((with_reducible refine (CPB.out _ hHeld.1.b).mono ?_); rintro e wB ⟨u6, rfl, h6⟩; obtain ⟨a6, c6, rfl⟩ := h6.out.1.form)))
                have hw := h6.out.2
                (first | (refine hK.out _ _ (by (try dsimp only); exact ⟨hHeld.1.next hw, cell_grows hw hHeld.2.1, cell_grows hw hHeld.2.2.1, cell_grows hw hHeld.2.2.2.1, cell_grows hw hHeld.2.2.2.2⟩) (fun hNew => ?_)) | (go_wp2_with fail; refine hK.out _ _ (by (try dsimp only); exact ⟨hHeld.1.next hw, cell_grows hw hHeld.2.1, cell_grows hw hHeld.2.2.1, cell_grows hw hHeld.2.2.2.1, cell_grows hw hHeld.2.2.2.2⟩) (fun hNew => ?_)))
                have X96 := mkHid (X93.out.grows hw)
                have X97 := mkHid (X94.out.grows hw)
                have F98 := mkHid (F95.out.below hw)
                have F99 := mkHid h6.out.1
                clear hw h6
                clear hK K hHeld
                have hHeld := hNew
                clear hNew
                try simp only [Act.put, List.setIfInBounds_toArray, List.set_cons_zero, List.set_cons_succ]
                refine wpAnyH_ready (rs := [6]) (by kernel_rfl) (by simp) ?_
                refine AllReadyH.cons (o := { dst := none, op := Op.store 24 (Operand.tmp 5) (Operand.tmp 21), type := 0, pos := "law.go:91", after := #[{ on := 4, ground := Ground.data }, { on := 1, ground := Ground.data }, { on := 3, ground := Ground.chain }, { on := 0, ground := Ground.phase }, { on := 1, ground := Ground.phase }, { on := 2, ground := Ground.textOnly Departure.lateStores }, { on := 3, ground := Ground.textOnly Departure.lateStoresUnsure }, { on := 4, ground := Ground.phase }, { on := 5, ground := Ground.phase }], guard := none }) rfl (fun K hK => ?_) ?_
                · have hJ := hHeld.1
                  obtain ⟨e0, e1⟩ := X97.out.at
                  obtain ⟨f0, f1⟩ := X97.out.free
                  obtain ⟨x0, x1⟩ := (X97.out.set0 n0).at
                  obtain ⟨xf0, xf1⟩ := (X97.out.set0 n0).free
                  go_simp
                  (first | (refine hK.out _ _ (by (try dsimp only); exact ⟨hJ.off2 hb5 _ _, cell_off2 hHeld.2.1 (by omega) _ _, cell_off2 hHeld.2.2.1 (by omega) _ _, cell_off2 hHeld.2.2.2.1 (by omega) _ _, cell_off2 hHeld.2.2.2.2 (by omega) _ _⟩) (fun hNew => ?_)) | (go_wp2_with fail; refine hK.out _ _ (by (try dsimp only); exact ⟨hJ.off2 hb5 _ _, cell_off2 hHeld.2.1 (by omega) _ _, cell_off2 hHeld.2.2.1 (by omega) _ _, cell_off2 hHeld.2.2.2.1 (by omega) _ _, cell_off2 hHeld.2.2.2.2 (by omega) _ _⟩) (fun hNew => ?_)))
                  have X100 := mkHid (X97.out.set n0 (.slice a5 L.length c5))
                  have X101 := mkHid ((X96.out.off (b' := wA.heap.size + 1) (o := 0) (by omega) (.int .i64 n0)).off (b' := wA.heap.size + 1) (o := 1) (by omega) (.slice a5 L.length c5))
                  have F102 := mkHid (F98.out.setB X97.out (v' := .slice a5 L.length c5) n0)
                  have F103 := mkHid (F99.out.setB X97.out (v' := .slice a5 L.length c5) n0)
                  have J104 := mkHid (hJ.off2 hb5 (.int .i64 n0) (.slice a5 L.length c5))
                  clear hJ e0 e1 f0 f1 x0 x1 xf0 xf1
                  clear hK K hHeld
                  have hHeld := hNew
                  clear hNew
                  try simp only [Act.put, List.setIfInBounds_toArray, List.set_cons_zero, List.set_cons_succ]
                  refine wpAnyH_ready (rs := [7]) (by kernel_rfl) (by simp) ?_
                  refine AllReadyH.cons (o := { dst := none, op := Op.store 24 (Operand.tmp 6) (Operand.tmp 23), type := 0, pos := "law.go:91", after := #[{ on := 5, ground := Ground.data }, { on := 3, ground := Ground.data }, { on := 6, ground := Ground.chain }, { on := 0, ground := Ground.phase }, { on := 1, ground := Ground.phase }, { on := 2, ground := Ground.phase }, { on := 3, ground := Ground.phase }, { on := 4, ground := Ground.phase }, { on := 5, ground := Ground.phase }, { on := 6, ground := Ground.phase }], guard := none }) rfl (fun K hK => ?_) ?_
                  · have hJ := hHeld.1
                    obtain ⟨e0, e1⟩ := X101.out.at
                    obtain ⟨f0, f1⟩ := X101.out.free
                    obtain ⟨x0, x1⟩ := (X101.out.set0 m0).at
                    obtain ⟨xf0, xf1⟩ := (X101.out.set0 m0).free
                    go_simp
                    (first | (refine hK.out _ _ (by (try dsimp only); exact ⟨hJ.off2 hb6 _ _, cell_off2 hHeld.2.1 (by omega) _ _, cell_off2 hHeld.2.2.1 (by omega) _ _, cell_off2 hHeld.2.2.2.1 (by omega) _ _, cell_off2 hHeld.2.2.2.2 (by omega) _ _⟩) (fun hNew => ?_)) | (go_wp2_with fail; refine hK.out _ _ (by (try dsimp only); exact ⟨hJ.off2 hb6 _ _, cell_off2 hHeld.2.1 (by omega) _ _, cell_off2 hHeld.2.2.1 (by omega) _ _, cell_off2 hHeld.2.2.2.1 (by omega) _ _, cell_off2 hHeld.2.2.2.2 (by omega) _ _⟩) (fun hNew => ?_)))
                    have X105 := mkHid (X101.out.set m0 (.slice a6 R.length c6))
                    have X106 := mkHid ((X100.out.off (b' := wA.heap.size) (o := 0) (by omega) (.int .i64 m0)).off (b' := wA.heap.size) (o := 1) (by omega) (.slice a6 R.length c6))
                    have F107 := mkHid (F102.out.setB X101.out (v' := .slice a6 R.length c6) m0)
                    have F108 := mkHid (F103.out.setB X101.out (v' := .slice a6 R.length c6) m0)
                    have J109 := mkHid (hJ.off2 hb6 (.int .i64 m0) (.slice a6 R.length c6))
                    clear hJ e0 e1 f0 f1 x0 x1 xf0 xf1
                    clear hK K hHeld
                    have hHeld := hNew
                    clear hNew
                    try simp only [Act.put, List.setIfInBounds_toArray, List.set_cons_zero, List.set_cons_succ]
                    refine wpAnyH_done (by kernel_rfl) ?_ _
                    clear hHeld
                    go_wp2_with fail
                    go_meet
                    exact ⟨_, _, a5, c5, a6, c6, rfl, rfl, mkHid ⟨J109.out, X106.out, X105.out, F107.out.cls, F108.out.cls⟩⟩
                  exact AllReadyH.nil
                exact AllReadyH.nil
              exact AllReadyH.nil
            exact AllReadyH.nil
          exact AllReadyH.nil
        refine AllReadyH.cons (o := { dst := some 5, op := Op.alloc 24, type := 0, pos := "law.go:91", after := #[], guard := none }) rfl (fun K hK => ?_) ?_
        · have hb5 : w.heap.size + 1 < wz.heap.size := by (have := hHeld.1.s.lt; first | exact this | (simp at this; omega))
          have al : Below wz.heap.size wz (wz.alloc (.cells #[.int .i64 0, .slice none 0 0] 24)) := bal (Below.refl _ _) _
          go_simp
          (first | (refine hK.out _ _ (by (try dsimp only); exact ⟨hHeld.1.next al, cell_grows al hHeld.2.1, cell_grows al hHeld.2.2.1, cell_grows al hHeld.2.2.2.1, cell_grows al hHeld.2.2.2.2⟩) (fun hNew => ?_)) | (go_wp2_with fail; refine hK.out _ _ (by (try dsimp only); exact ⟨hHeld.1.next al, cell_grows al hHeld.2.1, cell_grows al hHeld.2.2.1, cell_grows al hHeld.2.2.2.1, cell_grows al hHeld.2.2.2.2⟩) (fun hNew => ?_)))
          have X110 : Hid (TB (wz.alloc (.cells #[.int .i64 0, .slice none 0 0] 24)) (wz.heap.size) 0 (.slice none 0 0)) := mkHid (TB.new _ _ _ _ (by simp))
          clear al
          clear hK K hHeld
          have hHeld := hNew
          clear hNew
          try simp only [Act.put, List.setIfInBounds_toArray, List.set_cons_zero, List.set_cons_succ]
          refine wpAnyH_ready (rs := [1, 5]) (by kernel_rfl) (by simp) ?_
          refine AllReadyH.cons (o := { dst := some 21, op := Op.call { callee := Callee.value (Operand.func 19), args := #[Operand.tmp 20], argTypes := #[24] }, type := 24, pos := "law.go:91", after := #[{ on := 0, ground := Ground.data }], guard := none }) rfl (fun K hK => ?_) ?_
          · (first | (go_at_call 19; ((with_reducible refine (CPA.out _ hHeld.1.b).mono ?_); rintro e wA ⟨u5, rfl, h5⟩; obtain ⟨a5, c5, rfl⟩ := h5.out.1.form)) | (go_simp; go_at_call 19; ((with_reducible refine (CPA.out _ hHeld.1.b).mono ?_); rintro e wA ⟨u5, rfl, h5⟩; obtain ⟨a5, c5, rfl⟩ := h5.out.1.form)))
            have hw := h5.out.2
            (first | (refine hK.out _ _ (by (try dsimp only); exact ⟨hHeld.1.next hw, cell_grows hw hHeld.2.1, cell_grows hw hHeld.2.2.1, cell_grows hw hHeld.2.2.2.1, cell_grows hw hHeld.2.2.2.2⟩) (fun hNew => ?_)) | (go_wp2_with fail; refine hK.out _ _ (by (try dsimp only); exact ⟨hHeld.1.next hw, cell_grows hw hHeld.2.1, cell_grows hw hHeld.2.2.1, cell_grows hw hHeld.2.2.2.1, cell_grows hw hHeld.2.2.2.2⟩) (fun hNew => ?_)))
            have X111 := mkHid (X110.out.grows hw)
            have F112 := mkHid h5.out.1
            clear hw h5
            clear hK K hHeld
            have hHeld := hNew
            clear hNew
            try simp only [Act.put, List.setIfInBounds_toArray, List.set_cons_zero, List.set_cons_succ]
            refine wpAnyH_ready (rs := [3, 5]) (by kernel_rfl) (by simp) ?_
            refine AllReadyH.cons (o := { dst := some 23, op := Op.call { callee := Callee.value (Operand.func 19), args := #[Operand.tmp 22], argTypes := #[24] }, type := 24, pos := "law.go:91", after := #[{ on := 2, ground := Ground.data }, { on := 1, ground := Ground.chain }], guard := none }) rfl (fun K hK => ?_) ?_
            · (first | (go_at_call 19; ((with_reducible refine (CPB.out _ hHeld.1.b).mono ?_); rintro e wB ⟨u6, rfl, h6⟩; obtain ⟨a6, c6, rfl⟩ := h6.out.1.form)) | (go_simp; go_at_call 19; ((with_reducible refine (CPB.out _ hHeld.1.b).mono ?_); rintro e wB ⟨u6, rfl, h6⟩; obtain ⟨a6, c6, rfl⟩ := h6.out.1.form)))
              have hw := h6.out.2
              (first | (refine hK.out _ _ (by (try dsimp only); exact ⟨hHeld.1.next hw, cell_grows hw hHeld.2.1, cell_grows hw hHeld.2.2.1, cell_grows hw hHeld.2.2.2.1, cell_grows hw hHeld.2.2.2.2⟩) (fun hNew => ?_)) | (go_wp2_with fail; refine hK.out _ _ (by (try dsimp only); exact ⟨hHeld.1.next hw, cell_grows hw hHeld.2.1, cell_grows hw hHeld.2.2.1, cell_grows hw hHeld.2.2.2.1, cell_grows hw hHeld.2.2.2.2⟩) (fun hNew => ?_)))
              have X113 := mkHid (X111.out.grows hw)
              have F114 := mkHid (F112.out.below hw)
              have F115 := mkHid h6.out.1
              clear hw h6
              clear hK K hHeld
              have hHeld := hNew
              clear hNew
              try simp only [Act.put, List.setIfInBounds_toArray, List.set_cons_zero, List.set_cons_succ]
              refine wpAnyH_ready (rs := [5]) (by kernel_rfl) (by simp) ?_
              refine AllReadyH.cons (o := { dst := some 6, op := Op.alloc 24, type := 0, pos := "law.go:91", after := #[], guard := none }) rfl (fun K hK => ?_) ?_
              · have hb6 : w.heap.size + 1 < wB.heap.size := by (have := hHeld.1.s.lt; first | exact this | (simp at this; omega))
                have h56 : wz.heap.size < wB.heap.size := by (have := X113.out.lt; first | exact this | (simp at this; omega) | (simp; omega))
                have al : Below wB.heap.size wB (wB.alloc (.cells #[.int .i64 0, .slice none 0 0] 24)) := bal (Below.refl _ _) _
                go_simp
                (first | (refine hK.out _ _ (by (try dsimp only); exact ⟨hHeld.1.next al, cell_grows al hHeld.2.1, cell_grows al hHeld.2.2.1, cell_grows al hHeld.2.2.2.1, cell_grows al hHeld.2.2.2.2⟩) (fun hNew => ?_)) | (go_wp2_with fail; refine hK.out _ _ (by (try dsimp only); exact ⟨hHeld.1.next al, cell_grows al hHeld.2.1, cell_grows al hHeld.2.2.1, cell_grows al hHeld.2.2.2.1, cell_grows al hHeld.2.2.2.2⟩) (fun hNew => ?_)))
                have X116 := mkHid (X113.out.grows al)
                have X117 : Hid (TB (wB.alloc (.cells #[.int .i64 0, .slice none 0 0] 24)) (wB.heap.size) 0 (.slice none 0 0)) := mkHid (TB.new _ _ _ _ (by simp))
                have F118 := mkHid (F114.out.below al)
                have F119 := mkHid (F115.out.below al)
                clear al
                clear hK K hHeld
                have hHeld := hNew
                clear hNew
                try simp only [Act.put, List.setIfInBounds_toArray, List.set_cons_zero, List.set_cons_succ]
                refine wpAnyH_ready (rs := [6]) (by kernel_rfl) (by simp) ?_
                refine AllReadyH.cons (o := { dst := none, op := Op.store 24 (Operand.tmp 5) (Operand.tmp 21), type := 0, pos := "law.go:91", after := #[{ on := 4, ground := Ground.data }, { on := 1, ground := Ground.data }, { on := 3, ground := Ground.chain }, { on := 0, ground := Ground.phase }, { on := 1, ground := Ground.phase }, { on := 2, ground := Ground.textOnly Departure.lateStores }, { on := 3, ground := Ground.textOnly Departure.lateStoresUnsure }, { on := 4, ground := Ground.phase }, { on := 5, ground := Ground.phase }], guard := none }) rfl (fun K hK => ?_) ?_
                · generalize (wB.alloc (.cells #[.int .i64 0, .slice none 0 0] 24)) = wg at *
                  have hJ := hHeld.1
                  obtain ⟨e0, e1⟩ := X116.out.at
                  obtain ⟨f0, f1⟩ := X116.out.free
                  obtain ⟨x0, x1⟩ := (X116.out.set0 n0).at
                  obtain ⟨xf0, xf1⟩ := (X116.out.set0 n0).free
                  go_simp
                  (first | (refine hK.out _ _ (by (try dsimp only); exact ⟨hJ.off2 hb5 _ _, cell_off2 hHeld.2.1 (by omega) _ _, cell_off2 hHeld.2.2.1 (by omega) _ _, cell_off2 hHeld.2.2.2.1 (by omega) _ _, cell_off2 hHeld.2.2.2.2 (by omega) _ _⟩) (fun hNew => ?_)) | (go_wp2_with fail; refine hK.out _ _ (by (try dsimp only); exact ⟨hJ.off2 hb5 _ _, cell_off2 hHeld.2.1 (by omega) _ _, cell_off2 hHeld.2.2.1 (by omega) _ _, cell_off2 hHeld.2.2.2.1 (by omega) _ _, cell_off2 hHeld.2.2.2.2 (by omega) _ _⟩) (fun hNew => ?_)))
                  have X120 := mkHid (X116.out.set n0 (.slice a5 L.length c5))
                  have X121 := mkHid ((X117.out.off (b' := wz.heap.size) (o := 0) (by omega) (.int .i64 n0)).off (b' := wz.heap.size) (o := 1) (by omega) (.slice a5 L.length c5))
                  have F122 := mkHid (F118.out.setB X116.out (v' := .slice a5 L.length c5) n0)
                  have F123 := mkHid (F119.out.setB X116.out (v' := .slice a5 L.length c5) n0)
                  have J124 := mkHid (hJ.off2 hb5 (.int .i64 n0) (.slice a5 L.length c5))
                  clear hJ e0 e1 f0 f1 x0 x1 xf0 xf1
                  clear hK K hHeld
                  have hHeld := hNew
                  clear hNew
                  try simp only [Act.put, List.setIfInBounds_toArray, List.set_cons_zero, List.set_cons_succ]
                  refine wpAnyH_ready (rs := [7]) (by kernel_rfl) (by simp) ?_
                  refine AllReadyH.cons (o := { dst := none, op := Op.store 24 (Operand.tmp 6) (Operand.tmp 23), type := 0, pos := "law.go:91", after := #[{ on := 5, ground := Ground.data }, { on := 3, ground := Ground.data }, { on := 6, ground := Ground.chain }, { on := 0, ground := Ground.phase }, { on := 1, ground := Ground.phase }, { on := 2, ground := Ground.phase }, { on := 3, ground := Ground.phase }, { on := 4, ground := Ground.phase }, { on := 5, ground := Ground.phase }, { on := 6, ground := Ground.phase }], guard := none }) rfl (fun K hK => ?_) ?_
                  · have hJ := hHeld.1
                    obtain ⟨e0, e1⟩ := X121.out.at
                    obtain ⟨f0, f1⟩ := X121.out.free
                    obtain ⟨x0, x1⟩ := (X121.out.set0 m0).at
                    obtain ⟨xf0, xf1⟩ := (X121.out.set0 m0).free
                    go_simp
                    (first | (refine hK.out _ _ (by (try dsimp only); exact ⟨hJ.off2 hb6 _ _, cell_off2 hHeld.2.1 (by omega) _ _, cell_off2 hHeld.2.2.1 (by omega) _ _, cell_off2 hHeld.2.2.2.1 (by omega) _ _, cell_off2 hHeld.2.2.2.2 (by omega) _ _⟩) (fun hNew => ?_)) | (go_wp2_with fail; refine hK.out _ _ (by (try dsimp only); exact ⟨hJ.off2 hb6 _ _, cell_off2 hHeld.2.1 (by omega) _ _, cell_off2 hHeld.2.2.1 (by omega) _ _, cell_off2 hHeld.2.2.2.1 (by omega) _ _, cell_off2 hHeld.2.2.2.2 (by omega) _ _⟩) (fun hNew => ?_)))
                    have X125 := mkHid (X121.out.set m0 (.slice a6 R.length c6))
                    have X126 := mkHid ((X120.out.off (b' := wB.heap.size) (o := 0) (by omega) (.int .i64 m0)).off (b' := wB.heap.size) (o := 1) (by omega) (.slice a6 R.length c6))
                    have F127 := mkHid (F122.out.setB X121.out (v' := .slice a6 R.length c6) m0)
                    have F128 := mkHid (F123.out.setB X121.out (v' := .slice a6 R.length c6) m0)
                    have J129 := mkHid (hJ.off2 hb6 (.int .i64 m0) (.slice a6 R.length c6))
                    clear hJ e0 e1 f0 f1 x0 x1 xf0 xf1
                    clear hK K hHeld
                    have hHeld := hNew
                    clear hNew
                    try simp only [Act.put, List.setIfInBounds_toArray, List.set_cons_zero, List.set_cons_succ]
                    refine wpAnyH_done (by kernel_rfl) ?_ _
                    clear hHeld
                    go_wp2_with fail
                    go_meet
                    exact ⟨_, _, a5, c5, a6, c6, rfl, rfl, mkHid ⟨J129.out, X126.out, X125.out, F127.out.cls, F128.out.cls⟩⟩
                  exact AllReadyH.nil
                exact AllReadyH.nil
              exact AllReadyH.nil
            refine AllReadyH.cons (o := { dst := some 6, op := Op.alloc 24, type := 0, pos := "law.go:91", after := #[], guard := none }) rfl (fun K hK => ?_) ?_
            · have hb6 : w.heap.size + 1 < wA.heap.size := by (have := hHeld.1.s.lt; first | exact this | (simp at this; omega))
              have h56 : wz.heap.size < wA.heap.size := by (have := X111.out.lt; first | exact this | (simp at this; omega) | (simp; omega))
              have al : Below wA.heap.size wA (wA.alloc (.cells #[.int .i64 0, .slice none 0 0] 24)) := bal (Below.refl _ _) _
              go_simp
              (first | (refine hK.out _ _ (by (try dsimp only); exact ⟨hHeld.1.next al, cell_grows al hHeld.2.1, cell_grows al hHeld.2.2.1, cell_grows al hHeld.2.2.2.1, cell_grows al hHeld.2.2.2.2⟩) (fun hNew => ?_)) | (go_wp2_with fail; refine hK.out _ _ (by (try dsimp only); exact ⟨hHeld.1.next al, cell_grows al hHeld.2.1, cell_grows al hHeld.2.2.1, cell_grows al hHeld.2.2.2.1, cell_grows al hHeld.2.2.2.2⟩) (fun hNew => ?_)))
              have X130 := mkHid (X111.out.grows al)
              have X131 : Hid (TB (wA.alloc (.cells #[.int .i64 0, .slice none 0 0] 24)) (wA.heap.size) 0 (.slice none 0 0)) := mkHid (TB.new _ _ _ _ (by simp))
              have F132 := mkHid (F112.out.below al)
              clear al
              clear hK K hHeld
              have hHeld := hNew
              clear hNew
              try simp only [Act.put, List.setIfInBounds_toArray, List.set_cons_zero, List.set_cons_succ]
              refine wpAnyH_ready (rs := [3]) (by kernel_rfl) (by simp) ?_
              refine AllReadyH.cons (o := { dst := some 23, op := Op.call { callee := Callee.value (Operand.func 19), args := #[Operand.tmp 22], argTypes := #[24] }, type := 24, pos := "law.go:91", after := #[{ on := 2, ground := Ground.data }, { on := 1, ground := Ground.chain }], guard := none }) rfl (fun K hK => ?_) ?_
              · (first | (go_at_call 19; ((with_reducible refine (CPB.out _ hHeld.1.b).mono ?_); rintro e wB ⟨u6, rfl, h6⟩; obtain ⟨a6, c6, rfl⟩ := h6.out.1.form)) | (go_simp; go_at_call 19; ((with_reducible refine (CPB.out _ hHeld.1.b).mono ?_); rintro e wB ⟨u6, rfl, h6⟩; obtain ⟨a6, c6, rfl⟩ := h6.out.1.form)))
                have hw := h6.out.2
                (first | (refine hK.out _ _ (by (try dsimp only); exact ⟨hHeld.1.next hw, cell_grows hw hHeld.2.1, cell_grows hw hHeld.2.2.1, cell_grows hw hHeld.2.2.2.1, cell_grows hw hHeld.2.2.2.2⟩) (fun hNew => ?_)) | (go_wp2_with fail; refine hK.out _ _ (by (try dsimp only); exact ⟨hHeld.1.next hw, cell_grows hw hHeld.2.1, cell_grows hw hHeld.2.2.1, cell_grows hw hHeld.2.2.2.1, cell_grows hw hHeld.2.2.2.2⟩) (fun hNew => ?_)))
                have X133 := mkHid (X130.out.grows hw)
                have X134 := mkHid (X131.out.grows hw)
                have F135 := mkHid (F132.out.below hw)
                have F136 := mkHid h6.out.1
                clear hw h6
                clear hK K hHeld
                have hHeld := hNew
                clear hNew
                try simp only [Act.put, List.setIfInBounds_toArray, List.set_cons_zero, List.set_cons_succ]
                refine wpAnyH_ready (rs := [6]) (by kernel_rfl) (by simp) ?_
                refine AllReadyH.cons (o := { dst := none, op := Op.store 24 (Operand.tmp 5) (Operand.tmp 21), type := 0, pos := "law.go:91", after := #[{ on := 4, ground := Ground.data }, { on := 1, ground := Ground.data }, { on := 3, ground := Ground.chain }, { on := 0, ground := Ground.phase }, { on := 1, ground := Ground.phase }, { on := 2, ground := Ground.textOnly Departure.lateStores }, { on := 3, ground := Ground.textOnly Departure.lateStoresUnsure }, { on := 4, ground := Ground.phase }, { on := 5, ground := Ground.phase }], guard := none }) rfl (fun K hK => ?_) ?_
                · have hJ := hHeld.1
                  obtain ⟨e0, e1⟩ := X133.out.at
                  obtain ⟨f0, f1⟩ := X133.out.free
                  obtain ⟨x0, x1⟩ := (X133.out.set0 n0).at
                  obtain ⟨xf0, xf1⟩ := (X133.out.set0 n0).free
                  go_simp
                  (first | (refine hK.out _ _ (by (try dsimp only); exact ⟨hJ.off2 hb5 _ _, cell_off2 hHeld.2.1 (by omega) _ _, cell_off2 hHeld.2.2.1 (by omega) _ _, cell_off2 hHeld.2.2.2.1 (by omega) _ _, cell_off2 hHeld.2.2.2.2 (by omega) _ _⟩) (fun hNew => ?_)) | (go_wp2_with fail; refine hK.out _ _ (by (try dsimp only); exact ⟨hJ.off2 hb5 _ _, cell_off2 hHeld.2.1 (by omega) _ _, cell_off2 hHeld.2.2.1 (by omega) _ _, cell_off2 hHeld.2.2.2.1 (by omega) _ _, cell_off2 hHeld.2.2.2.2 (by omega) _ _⟩) (fun hNew => ?_)))
                  have X137 := mkHid (X133.out.set n0 (.slice a5 L.length c5))
                  have X138 := mkHid ((X134.out.off (b' := wz.heap.size) (o := 0) (by omega) (.int .i64 n0)).off (b' := wz.heap.size) (o := 1) (by omega) (.slice a5 L.length c5))
                  have F139 := mkHid (F135.out.setB X133.out (v' := .slice a5 L.length c5) n0)
                  have F140 := mkHid (F136.out.setB X133.out (v' := .slice a5 L.length c5) n0)
                  have J141 := mkHid (hJ.off2 hb5 (.int .i64 n0) (.slice a5 L.length c5))
                  clear hJ e0 e1 f0 f1 x0 x1 xf0 xf1
                  clear hK K hHeld
                  have hHeld := hNew
                  clear hNew
                  try simp only [Act.put, List.setIfInBounds_toArray, List.set_cons_zero, List.set_cons_succ]
                  refine wpAnyH_ready (rs := [7]) (by kernel_rfl) (by simp) ?_
                  refine AllReadyH.cons (o := { dst := none, op := Op.store 24 (Operand.tmp 6) (Operand.tmp 23), type := 0, pos := "law.go:91", after := #[{ on := 5, ground := Ground.data }, { on := 3, ground := Ground.data }, { on := 6, ground := Ground.chain }, { on := 0, ground := Ground.phase }, { on := 1, ground := Ground.phase }, { on := 2, ground := Ground.phase }, { on := 3, ground := Ground.phase }, { on := 4, ground := Ground.phase }, { on := 5, ground := Ground.phase }, { on := 6, ground := Ground.phase }], guard := none }) rfl (fun K hK => ?_) ?_
                  · have hJ := hHeld.1
                    obtain ⟨e0, e1⟩ := X138.out.at
                    obtain ⟨f0, f1⟩ := X138.out.free
                    obtain ⟨x0, x1⟩ := (X138.out.set0 m0).at
                    obtain ⟨xf0, xf1⟩ := (X138.out.set0 m0).free
                    go_simp
                    (first | (refine hK.out _ _ (by (try dsimp only); exact ⟨hJ.off2 hb6 _ _, cell_off2 hHeld.2.1 (by omega) _ _, cell_off2 hHeld.2.2.1 (by omega) _ _, cell_off2 hHeld.2.2.2.1 (by omega) _ _, cell_off2 hHeld.2.2.2.2 (by omega) _ _⟩) (fun hNew => ?_)) | (go_wp2_with fail; refine hK.out _ _ (by (try dsimp only); exact ⟨hJ.off2 hb6 _ _, cell_off2 hHeld.2.1 (by omega) _ _, cell_off2 hHeld.2.2.1 (by omega) _ _, cell_off2 hHeld.2.2.2.1 (by omega) _ _, cell_off2 hHeld.2.2.2.2 (by omega) _ _⟩) (fun hNew => ?_)))
                    have X142 := mkHid (X138.out.set m0 (.slice a6 R.length c6))
                    have X143 := mkHid ((X137.out.off (b' := wA.heap.size) (o := 0) (by omega) (.int .i64 m0)).off (b' := wA.heap.size) (o := 1) (by omega) (.slice a6 R.length c6))
                    have F144 := mkHid (F139.out.setB X138.out (v' := .slice a6 R.length c6) m0)
                    have F145 := mkHid (F140.out.setB X138.out (v' := .slice a6 R.length c6) m0)
                    have J146 := mkHid (hJ.off2 hb6 (.int .i64 m0) (.slice a6 R.length c6))
                    clear hJ e0 e1 f0 f1 x0 x1 xf0 xf1
                    clear hK K hHeld
                    have hHeld := hNew
                    clear hNew
                    try simp only [Act.put, List.setIfInBounds_toArray, List.set_cons_zero, List.set_cons_succ]
                    refine wpAnyH_done (by kernel_rfl) ?_ _
                    clear hHeld
                    go_wp2_with fail
                    go_meet
                    exact ⟨_, _, a5, c5, a6, c6, rfl, rfl, mkHid ⟨J146.out, X143.out, X142.out, F144.out.cls, F145.out.cls⟩⟩
                  exact AllReadyH.nil
                exact AllReadyH.nil
              exact AllReadyH.nil
            exact AllReadyH.nil
          refine AllReadyH.cons (o := { dst := some 6, op := Op.alloc 24, type := 0, pos := "law.go:91", after := #[], guard := none }) rfl (fun K hK => ?_) ?_
          · have hb6 : w.heap.size + 1 < wz.heap.size + 1 := by (have := hHeld.1.s.lt; first | exact this | (simp at this; omega))
            have h56 : wz.heap.size < wz.heap.size + 1 := by (have := X110.out.lt; first | exact this | (simp at this; omega) | (simp; omega))
            have al : Below (wz.alloc (.cells #[.int .i64 0, .slice none 0 0] 24)).heap.size (wz.alloc (.cells #[.int .i64 0, .slice none 0 0] 24)) ((wz.alloc (.cells #[.int .i64 0, .slice none 0 0] 24)).alloc (.cells #[.int .i64 0, .slice none 0 0] 24)) := bal (Below.refl _ _) _
            go_simp
            (first | (refine hK.out _ _ (by (try dsimp only); exact ⟨hHeld.1.next al, cell_grows al hHeld.2.1, cell_grows al hHeld.2.2.1, cell_grows al hHeld.2.2.2.1, cell_grows al hHeld.2.2.2.2⟩) (fun hNew => ?_)) | (go_wp2_with fail; refine hK.out _ _ (by (try dsimp only); exact ⟨hHeld.1.next al, cell_grows al hHeld.2.1, cell_grows al hHeld.2.2.1, cell_grows al hHeld.2.2.2.1, cell_grows al hHeld.2.2.2.2⟩) (fun hNew => ?_)))
            have X147 := mkHid (X110.out.grows al)
            have X148 : Hid (TB ((wz.alloc (.cells #[.int .i64 0, .slice none 0 0] 24)).alloc (.cells #[.int .i64 0, .slice none 0 0] 24)) (wz.heap.size + 1) 0 (.slice none 0 0)) := mkHid (TB.new _ _ _ _ (by simp))
            clear al
            clear hK K hHeld
            have hHeld := hNew
            clear hNew
            try simp only [Act.put, List.setIfInBounds_toArray, List.set_cons_zero, List.set_cons_succ]
            refine wpAnyH_ready (rs := [1]) (by kernel_rfl) (by simp) ?_
            refine AllReadyH.cons (o := { dst := some 21, op := Op.call { callee := Callee.value (Operand.func 19), args := #[Operand.tmp 20], argTypes := #[24] }, type := 24, pos := "law.go:91", after := #[{ on := 0, ground := Ground.data }], guard := none }) rfl (fun K hK => ?_) ?_
            · (first | (go_at_call 19; ((with_reducible refine (CPA.out _ hHeld.1.b).mono ?_); rintro e wA ⟨u5, rfl, h5⟩; obtain ⟨a5, c5, rfl⟩ := h5.out.1.form)) | (go_simp; go_at_call 19; ((with_reducible refine (CPA.out _ hHeld.1.b).mono ?_); rintro e wA ⟨u5, rfl, h5⟩; obtain ⟨a5, c5, rfl⟩ := h5.out.1.form)))
              have hw := h5.out.2
              (first | (refine hK.out _ _ (by (try dsimp only); exact ⟨hHeld.1.next hw, cell_grows hw hHeld.2.1, cell_grows hw hHeld.2.2.1, cell_grows hw hHeld.2.2.2.1, cell_grows hw hHeld.2.2.2.2⟩) (fun hNew => ?_)) | (go_wp2_with fail; refine hK.out _ _ (by (try dsimp only); exact ⟨hHeld.1.next hw, cell_grows hw hHeld.2.1, cell_grows hw hHeld.2.2.1, cell_grows hw hHeld.2.2.2.1, cell_grows hw hHeld.2.2.2.2⟩) (fun hNew => ?_)))
              have X149 := mkHid (X147.out.grows hw)
              have X150 := mkHid (X148.out.grows hw)
              have F151 := mkHid h5.out.1
              clear hw h5
              clear hK K hHeld
              have hHeld := hNew
              clear hNew
              try simp only [Act.put, List.setIfInBounds_toArray, List.set_cons_zero, List.set_cons_succ]
              refine wpAnyH_ready (rs := [3]) (by kernel_rfl) (by simp) ?_
              refine AllReadyH.cons (o := { dst := some 23, op := Op.call { callee := Callee.value (Operand.func 19), args := #[Operand.tmp 22], argTypes := #[24] }, type := 24, pos := "law.go:91", after := #[{ on := 2, ground := Ground.data }, { on := 1, ground := Ground.chain }], guard := none }) rfl (fun K hK => ?_) ?_
              · (first | (go_at_call 19; ((with_reducible refine (CPB.out _ hHeld.1.b).mono ?_); rintro e wB ⟨u6, rfl, h6⟩; obtain ⟨a6, c6, rfl⟩ := h6.out.1.form)) | (go_simp; go_at_call 19; ((with_reducible refine (CPB.out _ hHeld.1.b).mono ?_); rintro e wB ⟨u6, rfl, h6⟩; obtain ⟨a6, c6, rfl⟩ := h6.out.1.form)))
                have hw := h6.out.2
                (first | (refine hK.out _ _ (by (try dsimp only); exact ⟨hHeld.1.next hw, cell_grows hw hHeld.2.1, cell_grows hw hHeld.2.2.1, cell_grows hw hHeld.2.2.2.1, cell_grows hw hHeld.2.2.2.2⟩) (fun hNew => ?_)) | (go_wp2_with fail; refine hK.out _ _ (by (try dsimp only); exact ⟨hHeld.1.next hw, cell_grows hw hHeld.2.1, cell_grows hw hHeld.2.2.1, cell_grows hw hHeld.2.2.2.1, cell_grows hw hHeld.2.2.2.2⟩) (fun hNew => ?_)))
                have X152 := mkHid (X149.out.grows hw)
                have X153 := mkHid (X150.out.grows hw)
                have F154 := mkHid (F151.out.below hw)
                have F155 := mkHid h6.out.1
                clear hw h6
                clear hK K hHeld
                have hHeld := hNew
                clear hNew
                try simp only [Act.put, List.setIfInBounds_toArray, List.set_cons_zero, List.set_cons_succ]
                refine wpAnyH_ready (rs := [6]) (by kernel_rfl) (by simp) ?_
                refine AllReadyH.cons (o := { dst := none, op := Op.store 24 (Operand.tmp 5) (Operand.tmp 21), type := 0, pos := "law.go:91", after := #[{ on := 4, ground := Ground.data }, { on := 1, ground := Ground.data }, { on := 3, ground := Ground.chain }, { on := 0, ground := Ground.phase }, { on := 1, ground := Ground.phase }, { on := 2, ground := Ground.textOnly Departure.lateStores }, { on := 3, ground := Ground.textOnly Departure.lateStoresUnsure }, { on := 4, ground := Ground.phase }, { on := 5, ground := Ground.phase }], guard := none }) rfl (fun K hK => ?_) ?_
                · have hJ := hHeld.1
                  obtain ⟨e0, e1⟩ := X152.out.at
                  obtain ⟨f0, f1⟩ := X152.out.free
                  obtain ⟨x0, x1⟩ := (X152.out.set0 n0).at
                  obtain ⟨xf0, xf1⟩ := (X152.out.set0 n0).free
                  go_simp
                  (first | (refine hK.out _ _ (by (try dsimp only); exact ⟨hJ.off2 hb5 _ _, cell_off2 hHeld.2.1 (by omega) _ _, cell_off2 hHeld.2.2.1 (by omega) _ _, cell_off2 hHeld.2.2.2.1 (by omega) _ _, cell_off2 hHeld.2.2.2.2 (by omega) _ _⟩) (fun hNew => ?_)) | (go_wp2_with fail; refine hK.out _ _ (by (try dsimp only); exact ⟨hJ.off2 hb5 _ _, cell_off2 hHeld.2.1 (by omega) _ _, cell_off2 hHeld.2.2.1 (by omega) _ _, cell_off2 hHeld.2.2.2.1 (by omega) _ _, cell_off2 hHeld.2.2.2.2 (by omega) _ _⟩) (fun hNew => ?_)))
                  have X156 := mkHid (X152.out.set n0 (.slice a5 L.length c5))
                  have X157 := mkHid ((X153.out.off (b' := wz.heap.size) (o := 0) (by omega) (.int .i64 n0)).off (b' := wz.heap.size) (o := 1) (by omega) (.slice a5 L.length c5))
                  have F158 := mkHid (F154.out.setB X152.out (v' := .slice a5 L.length c5) n0)
                  have F159 := mkHid (F155.out.setB X152.out (v' := .slice a5 L.length c5) n0)
                  have J160 := mkHid (hJ.off2 hb5 (.int .i64 n0) (.slice a5 L.length c5))
                  clear hJ e0 e1 f0 f1 x0 x1 xf0 xf1
                  clear hK K hHeld
                  have hHeld := hNew
                  clear hNew
                  try simp only [Act.put, List.setIfInBounds_toArray, List.set_cons_zero, List.set_cons_succ]
                  refine wpAnyH_ready (rs := [7]) (by kernel_rfl) (by simp) ?_
                  refine AllReadyH.cons (o := { dst := none, op := Op.store 24 (Operand.tmp 6) (Operand.tmp 23), type := 0, pos := "law.go:91", after := #[{ on := 5, ground := Ground.data }, { on := 3, ground := Ground.data }, { on := 6, ground := Ground.chain }, { on := 0, ground := Ground.phase }, { on := 1, ground := Ground.phase }, { on := 2, ground := Ground.phase }, { on := 3, ground := Ground.phase }, { on := 4, ground := Ground.phase }, { on := 5, ground := Ground.phase }, { on := 6, ground := Ground.phase }], guard := none }) rfl (fun K hK => ?_) ?_
                  · have hJ := hHeld.1
                    obtain ⟨e0, e1⟩ := X157.out.at
                    obtain ⟨f0, f1⟩ := X157.out.free
                    obtain ⟨x0, x1⟩ := (X157.out.set0 m0).at
                    obtain ⟨xf0, xf1⟩ := (X157.out.set0 m0).free
                    go_simp
                    (first | (refine hK.out _ _ (by (try dsimp only); exact ⟨hJ.off2 hb6 _ _, cell_off2 hHeld.2.1 (by omega) _ _, cell_off2 hHeld.2.2.1 (by omega) _ _, cell_off2 hHeld.2.2.2.1 (by omega) _ _, cell_off2 hHeld.2.2.2.2 (by omega) _ _⟩) (fun hNew => ?_)) | (go_wp2_with fail; refine hK.out _ _ (by (try dsimp only); exact ⟨hJ.off2 hb6 _ _, cell_off2 hHeld.2.1 (by omega) _ _, cell_off2 hHeld.2.2.1 (by omega) _ _, cell_off2 hHeld.2.2.2.1 (by omega) _ _, cell_off2 hHeld.2.2.2.2 (by omega) _ _⟩) (fun hNew => ?_)))
                    have X161 := mkHid (X157.out.set m0 (.slice a6 R.length c6))
                    have X162 := mkHid ((X156.out.off (b' := wz.heap.size + 1) (o := 0) (by omega) (.int .i64 m0)).off (b' := wz.heap.size + 1) (o := 1) (by omega) (.slice a6 R.length c6))
                    have F163 := mkHid (F158.out.setB X157.out (v' := .slice a6 R.length c6) m0)
                    have F164 := mkHid (F159.out.setB X157.out (v' := .slice a6 R.length c6) m0)
                    have J165 := mkHid (hJ.off2 hb6 (.int .i64 m0) (.slice a6 R.length c6))
                    clear hJ e0 e1 f0 f1 x0 x1 xf0 xf1
                    clear hK K hHeld
                    have hHeld := hNew
                    clear hNew
                    try simp only [Act.put, List.setIfInBounds_toArray, List.set_cons_zero, List.set_cons_succ]
                    refine wpAnyH_done (by kernel_rfl) ?_ _
                    clear hHeld
                    go_wp2_with fail
                    go_meet
                    exact ⟨_, _, a5, c5, a6, c6, rfl, rfl, mkHid ⟨J165.out, X162.out, X161.out, F163.out.cls, F164.out.cls⟩⟩
                  exact AllReadyH.nil
                exact AllReadyH.nil
              exact AllReadyH.nil
            exact AllReadyH.nil
          exact AllReadyH.nil
        refine AllReadyH.cons (o := { dst := some 6, op := Op.alloc 24, type := 0, pos := "law.go:91", after := #[], guard := none }) rfl (fun K hK => ?_) ?_
        · have hb6 : w.heap.size + 1 < wz.heap.size := by (have := hHeld.1.s.lt; first | exact this | (simp at this; omega))
          have al : Below wz.heap.size wz (wz.alloc (.cells #[.int .i64 0, .slice none 0 0] 24)) := bal (Below.refl _ _) _
          go_simp
          (first | (refine hK.out _ _ (by (try dsimp only); exact ⟨hHeld.1.next al, cell_grows al hHeld.2.1, cell_grows al hHeld.2.2.1, cell_grows al hHeld.2.2.2.1, cell_grows al hHeld.2.2.2.2⟩) (fun hNew => ?_)) | (go_wp2_with fail; refine hK.out _ _ (by (try dsimp only); exact ⟨hHeld.1.next al, cell_grows al hHeld.2.1, cell_grows al hHeld.2.2.1, cell_grows al hHeld.2.2.2.1, cell_grows al hHeld.2.2.2.2⟩) (fun hNew => ?_)))
          have X166 : Hid (TB (wz.alloc (.cells #[.int .i64 0, .slice none 0 0] 24)) (wz.heap.size) 0 (.slice none 0 0)) := mkHid (TB.new _ _ _ _ (by simp))
          clear al
          clear hK K hHeld
          have hHeld := hNew
          clear hNew
          try simp only [Act.put, List.setIfInBounds_toArray, List.set_cons_zero, List.set_cons_succ]
          refine wpAnyH_ready (rs := [1, 4]) (by kernel_rfl) (by simp) ?_
          refine AllReadyH.cons (o := { dst := some 21, op := Op.call { callee := Callee.value (Operand.func 19), args := #[Operand.tmp 20], argTypes := #[24] }, type := 24, pos := "law.go:91", after := #[{ on := 0, ground := Ground.data }], guard := none }) rfl (fun K hK => ?_) ?_
          · (first | (go_at_call 19; ((with_reducible refine (CPA.out _ hHeld.1.b).mono ?_); rintro e wA ⟨u5, rfl, h5⟩; obtain ⟨a5, c5, rfl⟩ := h5.out.1.form)) | (go_simp; go_at_call 19; ((with_reducible refine (CPA.out _ hHeld.1.b).mono ?_); rintro e wA ⟨u5, rfl, h5⟩; obtain ⟨a5, c5, rfl⟩ := h5.out.1.form)))
            have hw := h5.out.2
            (first | (refine hK.out _ _ (by (try dsimp only); exact ⟨hHeld.1.next hw, cell_grows hw hHeld.2.1, cell_grows hw hHeld.2.2.1, cell_grows hw hHeld.2.2.2.1, cell_grows hw hHeld.2.2.2.2⟩) (fun hNew => ?_)) | (go_wp2_with fail; refine hK.out _ _ (by (try dsimp only); exact ⟨hHeld.1.next hw, cell_grows hw hHeld.2.1, cell_grows hw hHeld.2.2.1, cell_grows hw hHeld.2.2.2.1, cell_grows hw hHeld.2.2.2.2⟩) (fun hNew => ?_)))
            have X167 := mkHid (X166.out.grows hw)
            have F168 := mkHid h5.out.1
            clear hw h5
            clear hK K hHeld
            have hHeld := hNew
            clear hNew
            try simp only [Act.put, List.setIfInBounds_toArray, List.set_cons_zero, List.set_cons_succ]
            refine wpAnyH_ready (rs := [3, 4]) (by kernel_rfl) (by simp) ?_
            refine AllReadyH.cons (o := { dst := some 23, op := Op.call { callee := Callee.value (Operand.func 19), args := #[Operand.tmp 22], argTypes := #[24] }, type := 24, pos := "law.go:91", after := #[{ on := 2, ground := Ground.data }, { on := 1, ground := Ground.chain }], guard := none }) rfl (fun K hK => ?_) ?_
            · (first | (go_at_call 19; ((with_reducible refine (CPB.out _ hHeld.1.b).mono ?_); rintro e wB ⟨u6, rfl, h6⟩; obtain ⟨a6, c6, rfl⟩ := h6.out.1.form)) | (go_simp; go_at_call 19; ((with_reducible refine (CPB.out _ hHeld.1.b).mono ?_); rintro e wB ⟨u6, rfl, h6⟩; obtain ⟨a6, c6, rfl⟩ := h6.out.1.form)))
              have hw := h6.out.2
              (first | (refine hK.out _ _ (by (try dsimp only); exact ⟨hHeld.1.next hw, cell_grows hw hHeld.2.1, cell_grows hw hHeld.2.2.1, cell_grows hw hHeld.2.2.2.1, cell_grows hw hHeld.2.2.2.2⟩) (fun hNew => ?_)) | (go_wp2_with fail; refine hK.out _ _ (by (try dsimp only); exact ⟨hHeld.1.next hw, cell_grows hw hHeld.2.1, cell_grows hw hHeld.2.2.1, cell_grows hw hHeld.2.2.2.1, cell_grows hw hHeld.2.2.2.2⟩) (fun hNew => ?_)))
              have X169 := mkHid (X167.out.grows hw)
              have F170 := mkHid (F168.out.below hw)
              have F171 := mkHid h6.out.1
              clear hw h6
              clear hK K hHeld
              have hHeld := hNew
              clear hNew
              try simp only [Act.put, List.setIfInBounds_toArray, List.set_cons_zero, List.set_cons_succ]
              refine wpAnyH_ready (rs := [4]) (by kernel_rfl) (by simp) ?_
              refine AllReadyH.cons (o := { dst := some 5, op := Op.alloc 24, type := 0, pos := "law.go:91", after := #[], guard := none }) rfl (fun K hK => ?_) ?_
              · have hb5 : w.heap.size + 1 < wB.heap.size := by (have := hHeld.1.s.lt; first | exact this | (simp at this; omega))
                have h56 : wz.heap.size < wB.heap.size := by (have := X169.out.lt; first | exact this | (simp at this; omega) | (simp; omega))
                have al : Below wB.heap.size wB (wB.alloc (.cells #[.int .i64 0, .slice none 0 0] 24)) := bal (Below.refl _ _) _
                go_simp
                (first | (refine hK.out _ _ (by (try dsimp only); exact ⟨hHeld.1.next al, cell_grows al hHeld.2.1, cell_grows al hHeld.2.2.1, cell_grows al hHeld.2.2.2.1, cell_grows al hHeld.2.2.2.2⟩) (fun hNew => ?_)) | (go_wp2_with fail; refine hK.out _ _ (by (try dsimp only); exact ⟨hHeld.1.next al, cell_grows al hHeld.2.1, cell_grows al hHeld.2.2.1, cell_grows al hHeld.2.2.2.1, cell_grows al hHeld.2.2.2.2⟩) (fun hNew => ?_)))
                have X172 := mkHid (X169.out.grows al)
                have X173 : Hid (TB (wB.alloc (.cells #[.int .i64 0, .slice none 0 0] 24)) (wB.heap.size) 0 (.slice none 0 0)) := mkHid (TB.new _ _ _ _ (by simp))
                have F174 := mkHid (F170.out.below al)
                have F175 := mkHid (F171.out.below al)
                clear al
                clear hK K hHeld
                have hHeld := hNew
                clear hNew
                try simp only [Act.put, List.setIfInBounds_toArray, List.set_cons_zero, List.set_cons_succ]
                refine wpAnyH_ready (rs := [6]) (by kernel_rfl) (by simp) ?_
                refine AllReadyH.cons (o := { dst := none, op := Op.store 24 (Operand.tmp 5) (Operand.tmp 21), type := 0, pos := "law.go:91", after := #[{ on := 4, ground := Ground.data }, { on := 1, ground := Ground.data }, { on := 3, ground := Ground.chain }, { on := 0, ground := Ground.phase }, { on := 1, ground := Ground.phase }, { on := 2, ground := Ground.textOnly Departure.lateStores }, { on := 3, ground := Ground.textOnly Departure.lateStoresUnsure }, { on := 4, ground := Ground.phase }, { on := 5, ground := Ground.phase }], guard := none }) rfl (fun K hK => ?_) ?_
                · generalize (wB.alloc (.cells #[.int .i64 0, .slice none 0 0] 24)) = wg at *
                  have hJ := hHeld.1
                  obtain ⟨e0, e1⟩ := X173.out.at
                  obtain ⟨f0, f1⟩ := X173.out.free
                  obtain ⟨x0, x1⟩ := (X173.out.set0 n0).at
                  obtain ⟨xf0, xf1⟩ := (X173.out.set0 n0).free
                  go_simp
                  (first | (refine hK.out _ _ (by (try dsimp only); exact ⟨hJ.off2 hb5 _ _, cell_off2 hHeld.2.1 (by omega) _ _, cell_off2 hHeld.2.2.1 (by omega) _ _, cell_off2 hHeld.2.2.2.1 (by omega) _ _, cell_off2 hHeld.2.2.2.2 (by omega) _ _⟩) (fun hNew => ?_)) | (go_wp2_with fail; refine hK.out _ _ (by (try dsimp only); exact ⟨hJ.off2 hb5 _ _, cell_off2 hHeld.2.1 (by omega) _ _, cell_off2 hHeld.2.2.1 (by omega) _ _, cell_off2 hHeld.2.2.2.1 (by omega) _ _, cell_off2 hHeld.2.2.2.2 (by omega) _ _⟩) (fun hNew => ?_)))
                  have X176 := mkHid (X173.out.set n0 (.slice a5 L.length c5))
                  have X177 := mkHid ((X172.out.off (b' := wB.heap.size) (o := 0) (by omega) (.int .i64 n0)).off (b' := wB.heap.size) (o := 1) (by omega) (.slice a5 L.length c5))
                  have F178 := mkHid (F174.out.setB X173.out (v' := .slice a5 L.length c5) n0)
                  have F179 := mkHid (F175.out.setB X173.out (v' := .slice a5 L.length c5) n0)
                  have J180 := mkHid (hJ.off2 hb5 (.int .i64 n0) (.slice a5 L.length c5))
                  clear hJ e0 e1 f0 f1 x0 x1 xf0 xf1
                  clear hK K hHeld
                  have hHeld := hNew
                  clear hNew
                  try simp only [Act.put, List.setIfInBounds_toArray, List.set_cons_zero, List.set_cons_succ]
                  refine wpAnyH_ready (rs := [7]) (by kernel_rfl) (by simp) ?_
                  refine AllReadyH.cons (o := { dst := none, op := Op.store 24 (Operand.tmp 6) (Operand.tmp 23), type := 0, pos := "law.go:91", after := #[{ on := 5, ground := Ground.data }, { on := 3, ground := Ground.data }, { on := 6, ground := Ground.chain }, { on := 0, ground := Ground.phase }, { on := 1, ground := Ground.phase }, { on := 2, ground := Ground.phase }, { on := 3, ground := Ground.phase }, { on := 4, ground := Ground.phase }, { on := 5, ground := Ground.phase }, { on := 6, ground := Ground.phase }], guard := none }) rfl (fun K hK => ?_) ?_
                  · have hJ := hHeld.1
                    obtain ⟨e0, e1⟩ := X177.out.at
                    obtain ⟨f0, f1⟩ := X177.out.free
                    obtain ⟨x0, x1⟩ := (X177.out.set0 m0).at
                    obtain ⟨xf0, xf1⟩ := (X177.out.set0 m0).free
                    go_simp
                    (first | (refine hK.out _ _ (by (try dsimp only); exact ⟨hJ.off2 hb6 _ _, cell_off2 hHeld.2.1 (by omega) _ _, cell_off2 hHeld.2.2.1 (by omega) _ _, cell_off2 hHeld.2.2.2.1 (by omega) _ _, cell_off2 hHeld.2.2.2.2 (by omega) _ _⟩) (fun hNew => ?_)) | (go_wp2_with fail; refine hK.out _ _ (by (try dsimp only); exact ⟨hJ.off2 hb6 _ _, cell_off2 hHeld.2.1 (by omega) _ _, cell_off2 hHeld.2.2.1 (by omega) _ _, cell_off2 hHeld.2.2.2.1 (by omega) _ _, cell_off2 hHeld.2.2.2.2 (by omega) _ _⟩) (fun hNew => ?_)))
                    have X181 := mkHid (X177.out.set m0 (.slice a6 R.length c6))
                    have X182 := mkHid ((X176.out.off (b' := wz.heap.size) (o := 0) (by omega) (.int .i64 m0)).off (b' := wz.heap.size) (o := 1) (by omega) (.slice a6 R.length c6))
                    have F183 := mkHid (F178.out.setB X177.out (v' := .slice a6 R.length c6) m0)
                    have F184 := mkHid (F179.out.setB X177.out (v' := .slice a6 R.length c6) m0)
                    have J185 := mkHid (hJ.off2 hb6 (.int .i64 m0) (.slice a6 R.length c6))
                    clear hJ e0 e1 f0 f1 x0 x1 xf0 xf1
                    clear hK K hHeld
                    have hHeld := hNew
                    clear hNew
                    try simp only [Act.put, List.setIfInBounds_toArray, List.set_cons_zero, List.set_cons_succ]
                    refine wpAnyH_done (by kernel_rfl) ?_ _
                    clear hHeld
                    go_wp2_with fail
                    go_meet
                    exact ⟨_, _, a5, c5, a6, c6, rfl, rfl, mkHid ⟨J185.out, X182.out, X181.out, F183.out.cls, F184.out.cls⟩⟩
                  exact AllReadyH.nil
                exact AllReadyH.nil
              exact AllReadyH.nil
            refine AllReadyH.cons (o := { dst := some 5, op := Op.alloc 24, type := 0, pos := "law.go:91", after := #[], guard := none }) rfl (fun K hK => ?_) ?_
            · have hb5 : w.heap.size + 1 < wA.heap.size := by (have := hHeld.1.s.lt; first | exact this | (simp at this; omega))
              have h56 : wz.heap.size < wA.heap.size := by (have := X167.out.lt; first | exact this | (simp at this; omega) | (simp; omega))
              have al : Below wA.heap.size wA (wA.alloc (.cells #[.int .i64 0, .slice none 0 0] 24)) := bal (Below.refl _ _) _
              go_simp
              (first | (refine hK.out _ _ (by (try dsimp only); exact ⟨hHeld.1.next al, cell_grows al hHeld.2.1, cell_grows al hHeld.2.2.1, cell_grows al hHeld.2.2.2.1, cell_grows al hHeld.2.2.2.2⟩) (fun hNew => ?_)) | (go_wp2_with fail; refine hK.out _ _ (by (try dsimp only); exact ⟨hHeld.1.next al, cell_grows al hHeld.2.1, cell_grows al hHeld.2.2.1, cell_grows al hHeld.2.2.2.1, cell_grows al hHeld.2.2.2.2⟩) (fun hNew => ?_)))
              have X186 := mkHid (X167.out.grows al)
              have X187 : Hid (TB (wA.alloc (.cells #[.int .i64 0, .slice none 0 0] 24)) (wA.heap.size) 0 (.slice none 0 0)) := mkHid (TB.new _ _ _ _ (by simp))
              have F188 := mkHid (F168.out.below al)
              clear al
              clear hK K hHeld
              have hHeld := hNew
              clear hNew
              try simp only [Act.put, List.setIfInBounds_toArray, List.set_cons_zero, List.set_cons_succ]
              refine wpAnyH_ready (rs := [3]) (by kernel_rfl) (by simp) ?_
              refine AllReadyH.cons (o := { dst := some 23, op := Op.call { callee := Callee.value (Operand.func 19), args := #[Operand.tmp 22], argTypes := #[24] }, type := 24, pos := "law.go:91", after := #[{ on := 2, ground := Ground.data }, { on := 1, ground := Ground.chain }], guard := none }) rfl (fun K hK => ?_) ?_
              · (first | (go_at_call 19; ((with_reducible refine (CPB.out _ hHeld.1.b).mono ?_); rintro e wB ⟨u6, rfl, h6⟩; obtain ⟨a6, c6, rfl⟩ := h6.out.1.form)) | (go_simp; go_at_call 19; ((with_reducible refine (CPB.out _ hHeld.1.b).mono ?_); rintro e wB ⟨u6, rfl, h6⟩; obtain ⟨a6, c6, rfl⟩ := h6.out.1.form)))
                have hw := h6.out.2
                (first | (refine hK.out _ _ (by (try dsimp only); exact ⟨hHeld.1.next hw, cell_grows hw hHeld.2.1, cell_grows hw hHeld.2.2.1, cell_grows hw hHeld.2.2.2.1, cell_grows hw hHeld.2.2.2.2⟩) (fun hNew => ?_)) | (go_wp2_with fail; refine hK.out _ _ (by (try dsimp only); exact ⟨hHeld.1.next hw, cell_grows hw hHeld.2.1, cell_grows hw hHeld.2.2.1, cell_grows hw hHeld.2.2.2.1, cell_grows hw hHeld.2.2.2.2⟩) (fun hNew => ?_)))
                have X189 := mkHid (X186.out.grows hw)
                have X190 := mkHid (X187.out.grows hw)
                have F191 := mkHid (F188.out.below hw)
                have F192 := mkHid h6.out.1
                clear hw h6
                clear hK K hHeld
                have hHeld := hNew
                clear hNew
                try simp only [Act.put, List.setIfInBounds_toArray, List.set_cons_zero, List.set_cons_succ]
                refine wpAnyH_ready (rs := [6]) (by kernel_rfl) (by simp) ?_
                refine AllReadyH.cons (o := { dst := none, op := Op.store 24 (Operand.tmp 5) (Operand.tmp 21), type := 0, pos := "law.go:91", after := #[{ on := 4, ground := Ground.data }, { on := 1, ground := Ground.data }, { on := 3, ground := Ground.chain }, { on := 0, ground := Ground.phase }, { on := 1, ground := Ground.phase }, { on := 2, ground := Ground.textOnly Departure.lateStores }, { on := 3, ground := Ground.textOnly Departure.lateStoresUnsure }, { on := 4, ground := Ground.phase }, { on := 5, ground := Ground.phase }], guard := none }) rfl (fun K hK => ?_) ?_
                · have hJ := hHeld.1
                  obtain ⟨e0, e1⟩ := X190.out.at
                  obtain ⟨f0, f1⟩ := X190.out.free
                  obtain ⟨x0, x1⟩ := (X190.out.set0 n0).at
                  obtain ⟨xf0, xf1⟩ := (X190.out.set0 n0).free
                  go_simp
                  (first | (refine hK.out _ _ (by (try dsimp only); exact ⟨hJ.off2 hb5 _ _, cell_off2 hHeld.2.1 (by omega) _ _, cell_off2 hHeld.2.2.1 (by omega) _ _, cell_off2 hHeld.2.2.2.1 (by omega) _ _, cell_off2 hHeld.2.2.2.2 (by omega) _ _⟩) (fun hNew => ?_)) | (go_wp2_with fail; refine hK.out _ _ (by (try dsimp only); exact ⟨hJ.off2 hb5 _ _, cell_off2 hHeld.2.1 (by omega) _ _, cell_off2 hHeld.2.2.1 (by omega) _ _, cell_off2 hHeld.2.2.2.1 (by omega) _ _, cell_off2 hHeld.2.2.2.2 (by omega) _ _⟩) (fun hNew => ?_)))
                  have X193 := mkHid (X190.out.set n0 (.slice a5 L.length c5))
                  have X194 := mkHid ((X189.out.off (b' := wA.heap.size) (o := 0) (by omega) (.int .i64 n0)).off (b' := wA.heap.size) (o := 1) (by omega) (.slice a5 L.length c5))
                  have F195 := mkHid (F191.out.setB X190.out (v' := .slice a5 L.length c5) n0)
                  have F196 := mkHid (F192.out.setB X190.out (v' := .slice a5 L.length c5) n0)
                  have J197 := mkHid (hJ.off2 hb5 (.int .i64 n0) (.slice a5 L.length c5))
                  clear hJ e0 e1 f0 f1 x0 x1 xf0 xf1
                  clear hK K hHeld
                  have hHeld := hNew
                  clear hNew
                  try simp only [Act.put, List.setIfInBounds_toArray, List.set_cons_zero, List.set_cons_succ]
                  refine wpAnyH_ready (rs := [7]) (by kernel_rfl) (by simp) ?_
                  refine AllReadyH.cons (o := { dst := none, op := Op.store 24 (Operand.tmp 6) (Operand.tmp 23), type := 0, pos := "law.go:91", after := #[{ on := 5, ground := Ground.data }, { on := 3, ground := Ground.data }, { on := 6, ground := Ground.chain }, { on := 0, ground := Ground.phase }, { on := 1, ground := Ground.phase }, { on := 2, ground := Ground.phase }, { on := 3, ground := Ground.phase }, { on := 4, ground := Ground.phase }, { on := 5, ground := Ground.phase }, { on := 6, ground := Ground.phase }], guard := none }) rfl (fun K hK => ?_) ?_
                  · have hJ := hHeld.1
                    obtain ⟨e0, e1⟩ := X194.out.at
                    obtain ⟨f0, f1⟩ := X194.out.free
                    obtain ⟨x0, x1⟩ := (X194.out.set0 m0).at
                    obtain ⟨xf0, xf1⟩ := (X194.out.set0 m0).free
                    go_simp
                    (first | (refine hK.out _ _ (by (try dsimp only); exact ⟨hJ.off2 hb6 _ _, cell_off2 hHeld.2.1 (by omega) _ _, cell_off2 hHeld.2.2.1 (by omega) _ _, cell_off2 hHeld.2.2.2.1 (by omega) _ _, cell_off2 hHeld.2.2.2.2 (by omega) _ _⟩) (fun hNew => ?_)) | (go_wp2_with fail; refine hK.out _ _ (by (try dsimp only); exact ⟨hJ.off2 hb6 _ _, cell_off2 hHeld.2.1 (by omega) _ _, cell_off2 hHeld.2.2.1 (by omega) _ _, cell_off2 hHeld.2.2.2.1 (by omega) _ _, cell_off2 hHeld.2.2.2.2 (by omega) _ _⟩) (fun hNew => ?_)))
                    have X198 := mkHid (X194.out.set m0 (.slice a6 R.length c6))
                    have X199 := mkHid ((X193.out.off (b' := wz.heap.size) (o := 0) (by omega) (.int .i64 m0)).off (b' := wz.heap.size) (o := 1) (by omega) (.slice a6 R.length c6))
                    have F200 := mkHid (F195.out.setB X194.out (v' := .slice a6 R.length c6) m0)
                    have F201 := mkHid (F196.out.setB X194.out (v' := .slice a6 R.length c6) m0)
                    have J202 := mkHid (hJ.off2 hb6 (.int .i64 m0) (.slice a6 R.length c6))
                    clear hJ e0 e1 f0 f1 x0 x1 xf0 xf1
                    clear hK K hHeld
                    have hHeld := hNew
                    clear hNew
                    try simp only [Act.put, List.setIfInBounds_toArray, List.set_cons_zero, List.set_cons_succ]
                    refine wpAnyH_done (by kernel_rfl) ?_ _
                    clear hHeld
                    go_wp2_with fail
                    go_meet
                    exact ⟨_, _, a5, c5, a6, c6, rfl, rfl, mkHid ⟨J202.out, X199.out, X198.out, F200.out.cls, F201.out.cls⟩⟩
                  exact AllReadyH.nil
                exact AllReadyH.nil
              exact AllReadyH.nil
            exact AllReadyH.nil
          refine AllReadyH.cons (o := { dst := some 5, op := Op.alloc 24, type := 0, pos := "law.go:91", after := #[], guard := none }) rfl (fun K hK => ?_) ?_
          · have hb5 : w.heap.size + 1 < wz.heap.size + 1 := by (have := hHeld.1.s.lt; first | exact this | (simp at this; omega))
            have h56 : wz.heap.size < wz.heap.size + 1 := by (have := X166.out.lt; first | exact this | (simp at this; omega) | (simp; omega))
            have al : Below (wz.alloc (.cells #[.int .i64 0, .slice none 0 0] 24)).heap.size (wz.alloc (.cells #[.int .i64 0, .slice none 0 0] 24)) ((wz.alloc (.cells #[.int .i64 0, .slice none 0 0] 24)).alloc (.cells #[.int .i64 0, .slice none 0 0] 24)) := bal (Below.refl _ _) _
            go_simp
            (first | (refine hK.out _ _ (by (try dsimp only); exact ⟨hHeld.1.next al, cell_grows al hHeld.2.1, cell_grows al hHeld.2.2.1, cell_grows al hHeld.2.2.2.1, cell_grows al hHeld.2.2.2.2⟩) (fun hNew => ?_)) | (go_wp2_with fail; refine hK.out _ _ (by (try dsimp only); exact ⟨hHeld.1.next al, cell_grows al hHeld.2.1, cell_grows al hHeld.2.2.1, cell_grows al hHeld.2.2.2.1, cell_grows al hHeld.2.2.2.2⟩) (fun hNew => ?_)))
            have X203 := mkHid (X166.out.grows al)
            have X204 : Hid (TB ((wz.alloc (.cells #[.int .i64 0, .slice none 0 0] 24)).alloc (.cells #[.int .i64 0, .slice none 0 0] 24)) (wz.heap.size + 1) 0 (.slice none 0 0)) := mkHid (TB.new _ _ _ _ (by simp))
            clear al
            clear hK K hHeld
            have hHeld := hNew
            clear hNew
            try simp only [Act.put, List.setIfInBounds_toArray, List.set_cons_zero, List.set_cons_succ]
            refine wpAnyH_ready (rs := [1]) (by kernel_rfl) (by simp) ?_
            refine AllReadyH.cons (o := { dst := some 21, op := Op.call { callee := Callee.value (Operand.func 19), args := #[Operand.tmp 20], argTypes := #[24] }, type := 24, pos := "law.go:91", after := #[{ on := 0, ground := Ground.data }], guard := none }) rfl (fun K hK => ?_) ?_
            · (first | (go_at_call 19; ((with_reducible refine (CPA.out _ hHeld.1.b).mono ?_); rintro e wA ⟨u5, rfl, h5⟩; obtain ⟨a5, c5, rfl⟩ := h5.out.1.form)) | (go_simp; go_at_call 19; ((with_reducible refine (CPA.out _ hHeld.1.b).mono ?_); rintro e wA ⟨u5, rfl, h5⟩; obtain ⟨a5, c5, rfl⟩ := h5.out.1.form)))
              have hw := h5.out.2
              (first | (refine hK.out _ _ (by (try dsimp only); exact ⟨hHeld.1.next hw, cell_grows hw hHeld.2.1, cell_grows hw hHeld.2.2.1, cell_grows hw hHeld.2.2.2.1, cell_grows hw hHeld.2.2.2.2⟩) (fun hNew => ?_)) | (go_wp2_with fail; refine hK.out _ _ (by (try dsimp only); exact ⟨hHeld.1.next hw, cell_grows hw hHeld.2.1, cell_grows hw hHeld.2.2.1, cell_grows hw hHeld.2.2.2.1, cell_grows hw hHeld.2.2.2.2⟩) (fun hNew => ?_)))
              have X205 := mkHid (X203.out.grows hw)
              have X206 := mkHid (X204.out.grows hw)
              have F207 := mkHid h5.out.1
              clear hw h5
              clear hK K hHeld
              have hHeld := hNew
              clear hNew
              try simp only [Act.put, List.setIfInBounds_toArray, List.set_cons_zero, List.set_cons_succ]
              refine wpAnyH_ready (rs := [3]) (by kernel_rfl) (by simp) ?_
              refine AllReadyH.cons (o := { dst := some 23, op := Op.call { callee := Callee.value (Operand.func 19), args := #[Operand.tmp 22], argTypes := #[24] }, type := 24, pos := "law.go:91", after := #[{ on := 2, ground := Ground.data }, { on := 1, ground := Ground.chain }], guard := none }) rfl (fun K hK => ?_) ?_
              · (first | (go_at_call 19; ((with_reducible refine (CPB.out _ hHeld.1.b).mono ?_); rintro e wB ⟨u6, rfl, h6⟩; obtain ⟨a6, c6, rfl⟩ := h6.out.1.form)) | (go_simp; go_at_call 19; ((with_reducible refine (CPB.out _ hHeld.1.b).mono ?_); rintro e wB ⟨u6, rfl, h6⟩; obtain ⟨a6, c6, rfl⟩ := h6.out.1.form)))
                have hw := h6.out.2
                (first | (refine hK.out _ _ (by (try dsimp only); exact ⟨hHeld.1.next hw, cell_grows hw hHeld.2.1, cell_grows hw hHeld.2.2.1, cell_grows hw hHeld.2.2.2.1, cell_grows hw hHeld.2.2.2.2⟩) (fun hNew => ?_)) | (go_wp2_with fail; refine hK.out _ _ (by (try dsimp only); exact ⟨hHeld.1.next hw, cell_grows hw hHeld.2.1, cell_grows hw hHeld.2.2.1, cell_grows hw hHeld.2.2.2.1, cell_grows hw hHeld.2.2.2.2⟩) (fun hNew => ?_)))
                have X208 := mkHid (X205.out.grows hw)
                have X209 := mkHid (X206.out.grows hw)
                have F210 := mkHid (F207.out.below hw)
                have F211 := mkHid h6.out.1
                clear hw h6
                clear hK K hHeld
                have hHeld := hNew
                clear hNew
                try simp only [Act.put, List.setIfInBounds_toArray, List.set_cons_zero, List.set_cons_succ]
                refine wpAnyH_ready (rs := [6]) (by kernel_rfl) (by simp) ?_
                refine AllReadyH.cons (o := { dst := none, op := Op.store 24 (Operand.tmp 5) (Operand.tmp 21), type := 0, pos := "law.go:91", after := #[{ on := 4, ground := Ground.data }, { on := 1, ground := Ground.data }, { on := 3, ground := Ground.chain }, { on := 0, ground := Ground.phase }, { on := 1, ground := Ground.phase }, { on := 2, ground := Ground.textOnly Departure.lateStores }, { on := 3, ground := Ground.textOnly Departure.lateStoresUnsure }, { on := 4, ground := Ground.phase }, { on := 5, ground := Ground.phase }], guard := none }) rfl (fun K hK => ?_) ?_
                · have hJ := hHeld.1
                  obtain ⟨e0, e1⟩ := X209.out.at
                  obtain ⟨f0, f1⟩ := X209.out.free
                  obtain ⟨x0, x1⟩ := (X209.out.set0 n0).at
                  obtain ⟨xf0, xf1⟩ := (X209.out.set0 n0).free
                  go_simp
                  (first | (refine hK.out _ _ (by (try dsimp only); exact ⟨hJ.off2 hb5 _ _, cell_off2 hHeld.2.1 (by omega) _ _, cell_off2 hHeld.2.2.1 (by omega) _ _, cell_off2 hHeld.2.2.2.1 (by omega) _ _, cell_off2 hHeld.2.2.2.2 (by omega) _ _⟩) (fun hNew => ?_)) | (go_wp2_with fail; refine hK.out _ _ (by (try dsimp only); exact ⟨hJ.off2 hb5 _ _, cell_off2 hHeld.2.1 (by omega) _ _, cell_off2 hHeld.2.2.1 (by omega) _ _, cell_off2 hHeld.2.2.2.1 (by omega) _ _, cell_off2 hHeld.2.2.2.2 (by omega) _ _⟩) (fun hNew => ?_)))
                  have X212 := mkHid (X209.out.set n0 (.slice a5 L.length c5))
                  have X213 := mkHid ((X208.out.off (b' := wz.heap.size + 1) (o := 0) (by omega) (.int .i64 n0)).off (b' := wz.heap.size + 1) (o := 1) (by omega) (.slice a5 L.length c5))
                  have F214 := mkHid (F210.out.setB X209.out (v' := .slice a5 L.length c5) n0)
                  have F215 := mkHid (F211.out.setB X209.out (v' := .slice a5 L.length c5) n0)
                  have J216 := mkHid (hJ.off2 hb5 (.int .i64 n0) (.slice a5 L.length c5))
                  clear hJ e0 e1 f0 f1 x0 x1 xf0 xf1
                  clear hK K hHeld
                  have hHeld := hNew
                  clear hNew
                  try simp only [Act.put, List.setIfInBounds_toArray, List.set_cons_zero, List.set_cons_succ]
                  refine wpAnyH_ready (rs := [7]) (by kernel_rfl) (by simp) ?_
                  refine AllReadyH.cons (o := { dst := none, op := Op.store 24 (Operand.tmp 6) (Operand.tmp 23), type := 0, pos := "law.go:91", after := #[{ on := 5, ground := Ground.data }, { on := 3, ground := Ground.data }, { on := 6, ground := Ground.chain }, { on := 0, ground := Ground.phase }, { on := 1, ground := Ground.phase }, { on := 2, ground := Ground.phase }, { on := 3, ground := Ground.phase }, { on := 4, ground := Ground.phase }, { on := 5, ground := Ground.phase }, { on := 6, ground := Ground.phase }], guard := none }) rfl (fun K hK => ?_) ?_
                  · have hJ := hHeld.1
                    obtain ⟨e0, e1⟩ := X213.out.at
                    obtain ⟨f0, f1⟩ := X213.out.free
                    obtain ⟨x0, x1⟩ := (X213.out.set0 m0).at
                    obtain ⟨xf0, xf1⟩ := (X213.out.set0 m0).free
                    go_simp
                    (first | (refine hK.out _ _ (by (try dsimp only); exact ⟨hJ.off2 hb6 _ _, cell_off2 hHeld.2.1 (by omega) _ _, cell_off2 hHeld.2.2.1 (by omega) _ _, cell_off2 hHeld.2.2.2.1 (by omega) _ _, cell_off2 hHeld.2.2.2.2 (by omega) _ _⟩) (fun hNew => ?_)) | (go_wp2_with fail; refine hK.out _ _ (by (try dsimp only); exact ⟨hJ.off2 hb6 _ _, cell_off2 hHeld.2.1 (by omega) _ _, cell_off2 hHeld.2.2.1 (by omega) _ _, cell_off2 hHeld.2.2.2.1 (by omega) _ _, cell_off2 hHeld.2.2.2.2 (by omega) _ _⟩) (fun hNew => ?_)))
                    have X217 := mkHid (X213.out.set m0 (.slice a6 R.length c6))
                    have X218 := mkHid ((X212.out.off (b' := wz.heap.size) (o := 0) (by omega) (.int .i64 m0)).off (b' := wz.heap.size) (o := 1) (by omega) (.slice a6 R.length c6))
                    have F219 := mkHid (F214.out.setB X213.out (v' := .slice a6 R.length c6) m0)
                    have F220 := mkHid (F215.out.setB X213.out (v' := .slice a6 R.length c6) m0)
                    have J221 := mkHid (hJ.off2 hb6 (.int .i64 m0) (.slice a6 R.length c6))
                    clear hJ e0 e1 f0 f1 x0 x1 xf0 xf1
                    clear hK K hHeld
                    have hHeld := hNew
                    clear hNew
                    try simp only [Act.put, List.setIfInBounds_toArray, List.set_cons_zero, List.set_cons_succ]
                    refine wpAnyH_done (by kernel_rfl) ?_ _
                    clear hHeld
                    go_wp2_with fail
                    go_meet
                    exact ⟨_, _, a5, c5, a6, c6, rfl, rfl, mkHid ⟨J221.out, X218.out, X217.out, F219.out.cls, F220.out.cls⟩⟩
                  exact AllReadyH.nil
                exact AllReadyH.nil
              exact AllReadyH.nil
            exact AllReadyH.nil
          exact AllReadyH.nil
        exact AllReadyH.nil
      case rest =>
        obtain ⟨b5, b6, a5, c5, a6, c6, rfl, rfl, HC⟩ := hcut
        clear a0 a1 s0 s1 H3d H3 H0 CL CR CPA CPB
        obtain ⟨a0, a1⟩ := HC.out.j.t.at
        obtain ⟨s0, s1⟩ := HC.out.j.s.at
        go_wp2_with (first
          | (go_at_call 28; (with_reducible refine (CJ.out _ HC.out.j.b).mono ?_); rintro e w7 ⟨u7, rfl, h7⟩; obtain ⟨a7, c7, rfl⟩ := h7.out.1.form;
              have b7 : Below w7.heap.size w7 (w7.alloc (.cells #[.int .i64 p, .slice a7 M.length c7] 24)) := bal (Below.refl _ _) _;
              have B7 := mkHid (bnx h7.out.2 b7); have J7 := mkHid (HC.out.j.next B7.out); have T7 := mkHid (TB.new w7 w7.heap.size p (.slice a7 M.length c7) rfl); have O7 := mkHid (h7.out.1.below b7); obtain ⟨e0, e1⟩ := J7.out.t.at; obtain ⟨f0, f1⟩ := J7.out.s.at; clear h7 b7)
          | (go_at_call 29; (with_reducible refine (CRJ.out _ J7.out.b).mono ?_); rintro e w9 ⟨u9, rfl, h9⟩; obtain ⟨a9, c9, rfl⟩ := h9.out.1.form;
              have b9 : Below w9.heap.size w9 (w9.alloc (.cells #[.int .i64 p, .slice a9 M.length c9] 24)) := bal (Below.refl _ _) _;
              have B9 := mkHid (bnx h9.out.2 b9); have S9 : Hid (JY w wc (w9.alloc (.cells #[.int .i64 p, .slice a9 M.length c9] 24)) n0 m0 (.slice ao L.length cap) (.slice bo R.length dap) w7.heap.size w9.heap.size p (.slice a7 M.length c7) (.slice a9 M.length c9) M) := mkHid ⟨J7.out.next B9.out, T7.out.grows B9.out, O7.out.below B9.out, TB.new _ _ _ _ rfl, h9.out.1.cls.next b9, bnx B7.out B9.out⟩; clear h9 b9))
        have hs0 := S9.out.drew
        obtain ⟨m0', m1⟩ := S9.out.j.t.at
        obtain ⟨g0, g1⟩ := S9.out.c.at
        obtain ⟨k0, k1⟩ := S9.out.d.at
        clear a0 a1 s0 s1 e0 e1 f0 f1
        go_region_held3 (fun W => JY w wc W n0 m0 (.slice ao L.length cap) (.slice bo R.length dap) w7.heap.size w9.heap.size p (.slice a7 M.length c7) (.slice a9 M.length c9) M ∧ W.cell? ⟨w.heap.size, 0, none⟩ = some (.int .i64 n0) ∧ W.cell? ⟨w.heap.size, 1, none⟩ = some (.slice ao L.length cap) ∧ W.cell? ⟨w7.heap.size, 0, none⟩ = some (.int .i64 p) ∧ W.cell? ⟨w7.heap.size, 1, none⟩ = some (.slice a7 M.length c7) ∧ W.cell? ⟨w9.heap.size, 0, none⟩ = some (.int .i64 p) ∧ W.cell? ⟨w9.heap.size, 1, none⟩ = some (.slice a9 M.length c9))
          (first
            | (with_reducible exact ⟨hS.1.next hw, cell_grows hw hS.2.1, cell_grows hw hS.2.2.1, cell_grows hw hS.2.2.2.1, cell_grows hw hS.2.2.2.2.1, cell_grows hw hS.2.2.2.2.2.1, cell_grows hw hS.2.2.2.2.2.2⟩)
            | exact ⟨hs0, m0', m1, g0, g1, k0, k1⟩)
          (first
            | (go_at_call 22; have hS : JY w wc _ _ _ _ _ _ _ _ _ _ _ ∧ _ := (by assumption); ((with_reducible refine (rsame_yesJ p _ _ M _ hS.1.o.cls hS.1.e LM.out.1 LM.out.2).mono ?_); rintro e w14 ⟨rfl, hw⟩))
            | (go_at_call 30; have hS : JY w wc _ _ _ _ _ _ _ _ _ _ _ ∧ _ := (by assumption); ((with_reducible refine (CV.out _ hS.1.j.b).mono ?_); rintro e w14 ⟨rfl, hw⟩))
            | (go_at_call 31; have hS : JY w wc _ _ _ _ _ _ _ _ _ _ _ ∧ _ := (by assumption); ((with_reducible refine (CRV.out _ hS.1.j.b).mono ?_); rintro e w14 ⟨rfl, hw⟩)))
        all_goals
          have hT' : JY w wc _ _ _ _ _ _ _ _ _ _ _ ∧ _ := (by assumption)
          have HT := mkHid hT'.1
          clear hT'
          obtain ⟨q0, q1⟩ := HT.out.c.at
          have CP := mkHid (spoil_any p _ M _ _ HT.out.o HT.out.b.size LM.out.1 LM.out.2)
          go_wp2_with (first
            | (go_at_call 23; (with_reducible refine CP.out.mono ?_); rintro e w15 ⟨rfl, h15⟩; have X15 := mkHid (HC.out.next (HT.out.b.trans h15)); obtain ⟨t0, t1⟩ := X15.out.j.t.at; obtain ⟨v0, v1⟩ := X15.out.x.at; have CS1 := mkHid (rsame_yesJ n0 _ _ L _ (HTL.out _ X15.out.j.b) X15.out.p (by have := LB.out.1; omega) (fun c hc => by have := LB.out.2 c hc; omega)); clear h15)
            | (go_at_call 22; (with_reducible refine CS1.out.mono ?_); rintro e w16 ⟨rfl, h16⟩; have X16 := mkHid (X15.out.next h16); obtain ⟨x0, x1⟩ := X16.out.j.s.at; obtain ⟨y0, y1⟩ := X16.out.y.at; have CS2 := mkHid (rsame_yesJ m0 _ _ R _ (HTR.out _ X16.out.j.b) X16.out.q (by have := RB.out.1; omega) (fun c hc => by have := RB.out.2 c hc; omega)); clear h16)
            | (go_at_call 22; (with_reducible refine CS2.out.mono ?_); rintro e w17 ⟨rfl, h17⟩; have X17 := mkHid (X16.out.next h17); clear h17)
            | (go_at_call 16; (with_reducible refine (CW.out _).mono ?_); rintro e w18 ⟨rfl, h18⟩; have X18 := mkHid (X17.out.next h18); clear h18))
          go_ret
          exact ⟨rfl, X18.out.j.b⟩
end Go.Proofs.Ytalpbpcanebbbaa
