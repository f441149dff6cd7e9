/- Contracts of what Join calls: cmp.Or of two errors, slices.Grow of nil, slices.Concat of two. -/
import Derived.Test.YtalpbpcanebbbaaUC
import Derived.Lib.AppendZeros
namespace Go.Proofs.Ytalpbpcanebbbaa
open Go.RowKit VM LM TM

/-- append of a slice of slices to one of the call's own. -/
theorem run_appVs {w : World} {base : Nat} {v v2 : Value} {xs ys : List Value} (ty : TypeId) (hown : OwnV w base v xs) (h2 : Vals w v2 ys) (h1 : ∀ u ∈ ys, u.oneCell' = true) (hlen : xs.length + ys.length ≤ 1000000) (hbase : base ≤ w.heap.size) :
    ∃ v' w', (Builtin.append_ #[22, 22] ty #[v, v2]).run Try.prog w = .ok v' w' ∧ OwnV w' base v' (xs ++ ys) ∧ w.grownBy w' v.ownBlock := by
  obtain ⟨i0, hi, hz0, hz1, hz2⟩ := info_parts infoL
  obtain ⟨ao, cap, rfl, hc⟩ := h2
  have at_adr : ∀ (ad : Addr), ao = some ad → (∀ j (x : Value), ys[j]? = some x → w.cell? (ad.add j) = some x) →
      ∃ v' w', (Builtin.append_ #[22, 22] ty #[v, .slice ao ys.length cap]).run Try.prog w = .ok v' w' ∧ OwnV w' base v' (xs ++ ys) ∧ w.grownBy w' v.ownBlock := by
    intro ad hv hcc
    subst hv
    obtain ⟨v', w', hr, g1, g2, _, _⟩ := run_append_own_at (P := Try.prog) w base 22 ty 38 i0 (.slice none 0 0) 1 24 Try.underlying22 hi hz0 hz1 hz2 rfl (by decide) v xs.length xs hown ad ys.length cap ys (by simp)
      (fun j u hu => hcc j u hu) h1 (by unfold maxLen; omega) (by omega) hbase
    exact ⟨v', w', hr, by unfold OwnV; rw [List.length_append]; exact g1, g2⟩
  cases ys with
  | nil =>
    cases ao with
    | some ad => exact at_adr ad rfl (fun j x hj => by simp at hj)
    | none =>
      refine ⟨v, w, ?_, by rw [List.append_nil]; exact hown, World.grownBy.refl w _⟩
      rcases hown.2 with ⟨rfl, _⟩ | ⟨g, cp, cur, rfl, _, _, hnc, _⟩
      · simp [Builtin.append_, run_underlying Try.underlying22, sizeOf, typeInfo, hi, Builtin.lenOf, Builtin.firstCells]
      · simp [Builtin.append_, run_underlying Try.underlying22, sizeOf, typeInfo, hi, Builtin.lenOf, Builtin.firstCells, hnc, storeCells]
  | cons y ys =>
    obtain ⟨b, off, e, _⟩ := hc 0 y rfl
    refine at_adr ⟨b, off, none⟩ e (fun j x hj => ?_)
    obtain ⟨b2, off2, e2, h3⟩ := hc j x hj
    rw [e] at e2
    obtain ⟨rfl, rfl⟩ : b = b2 ∧ off = off2 := by simpa using e2
    rw [Lib.add_plain]; exact h3
theorem wpList_appVs {w W : World} {ops : Array Oper} {rest : List Oper} {o : Oper} {a : Act} {Q : Exit → Act → World → Prop} (hgd : o.guard = none) (s y : Operand)
    (ho : o.op = .call { callee := .builtin .append, args := #[s, y], argTypes := #[22, 22] })
    {base : Nat} {v v2 : Value} {xs ys : List Value} (hs : a.eval s = v) (hx : a.eval y = v2) (hown : OwnV W base v xs) (h2 : Vals W v2 ys) (h1 : ∀ u ∈ ys, u.oneCell' = true) (hlen : xs.length + ys.length ≤ 1000000) (hbase : base ≤ W.heap.size) (hb : Below base w W)
    (h : ∀ v' w', Hid (OwnV w' base v' (xs ++ ys) ∧ Below base w w') → wpList Try.prog ops Q rest (a.put o.dst v') w') :
    wpList Try.prog ops Q (o :: rest) a W := by
  refine wpList_plain hgd fun K hK => ?_
  obtain ⟨v', w', hr, g1, g2⟩ := run_appVs o.type hown h2 h1 hlen hbase
  unfold Oper.wp execOp
  simp only [ho, resolve, invoke, builtin, Sem.run_bind, Sem.run_pure, Result.andThen_ok, List.map_toArray, List.map_cons, List.map_nil, hs, hx, hr]
  exact hK _ _ (h v' w' (mkHid ⟨g1, OwnV.bel hb hbase hown g2⟩))
theorem Rows.one {w : World} {xs : List Value} {L : List (List Int)} (h : Rows w xs L) : ∀ u ∈ xs, u.oneCell' = true := by
  intro u hu
  obtain ⟨j, hj⟩ := List.mem_iff_getElem?.1 hu
  have hl : j < L.length := by rw [← h.1]; exact (List.getElem?_eq_some_iff.1 hj).1
  obtain ⟨a, c, e⟩ := (h.2 j u L[j] hj (List.getElem?_eq_getElem hl)).form
  rw [e]; rfl

/-- The first error of two. -/
def orE (a b : Int) : Int := if a = 0 then b else a
set_option maxRecDepth 100000 in
theorem orE_any (a b : Int) (g : Nat) (w : World) (h0 : w.cell? ⟨g, 0, none⟩ = some (.int .i64 a)) (h1 : w.cell? ⟨g, 1, none⟩ = some (.int .i64 b)) :
    Calls Try.prog 68 #[.slice (some ⟨g, 0, none⟩) 2 2] w fun e w' => e = .returned (.int .i64 (orE a b)) ∧ w' = w := by
  unfold orE
  by_cases k1 : a = 0
  · subst k1
    rw [if_pos rfl]
    by_cases k2 : b = 0
    · subst k2
      go_enter Try.func68, Try.ntmps68
      go_wp2
      refine wp_loop_rounds 3 ?_
      rw [rounds_succ]
      go_wp2
      rw [rounds_succ]
      go_wp2
      rw [rounds_succ]
      go_wp2
      go_ret
      exact ⟨rfl, rfl⟩
    · go_enter Try.func68, Try.ntmps68
      go_wp2
      refine wp_loop_rounds 3 ?_
      rw [rounds_succ]
      go_wp2
      rw [rounds_succ]
      go_wp2
      go_ret
      exact ⟨rfl, rfl⟩
  · rw [if_neg k1]
    go_enter Try.func68, Try.ntmps68
    go_wp2
    refine wp_loop_rounds 3 ?_
    rw [rounds_succ]
    go_wp2
    go_ret
    exact ⟨rfl, rfl⟩

set_option maxRecDepth 100000 in
set_option maxHeartbeats 1000000 in
theorem grow_any (n : Nat) (hn : n ≤ 1000000) (w : World) :
    Calls Try.prog 86 #[.slice none 0 0, .int .i64 (n : Int)] w fun e w' => ∃ v, e = .returned v ∧ Hid (OwnV w' w.heap.size v [] ∧ Below w.heap.size w w') := by
  have n0 : ¬ (n : Int) < 0 := by omega
  by_cases h0 : n = 0
  · subst h0
    go_enter Try.func86, Try.ntmps86
    go_wp2
    go_ret
    exact ⟨_, rfl, mkHid ⟨OwnV.nil _ _, Below.refl _ _⟩⟩
  · obtain ⟨i0, hi, hz0, hz1, hz2⟩ := info_parts infoL
    have hp : 0 < (n : Int) := by omega
    have happ := Lib.run_append_nil_zeros (P := Try.prog) w 22 3 22 38 i0 (.slice none 0 0) .i64 .i64 Try.underlying22 Try.underlying3 hi hz0 n (by omega) (by omega) (by omega) (by rw [hz2]; omega)
    generalize hcap : grownCap w n 0 38 = cap at happ
    have hcapge : n ≤ cap := by rw [← hcap]; exact grownCap_ge w _ 0 _
    have hcaple : cap ≤ maxLen := by rw [← hcap]; exact grownCap_le_maxLen w _ 0 _ (by unfold maxLen; omega)
    generalize hZ : (Builtin.zeroCells (Value.slice none 0 0).cells n ++ Builtin.zeroCells (Value.slice none 0 0).cells (cap - n)) = Z at happ
    have hZs : Z.size = cap := by rw [← hZ]; simp [size_zeroCells, Value.cells]; omega
    have HO : Hid (OwnV (w.drew.alloc (.cells Z 38)) w.heap.size (.slice (some ⟨w.heap.size, 0, none⟩) 0 cap) []) := mkHid
      ⟨rfl, .inr ⟨w.heap.size, cap, Z, rfl, Nat.le_refl _, heap_alloc_new w.drew _, Nat.zero_le _, hcaple, by rw [hZs]; simp, by simp⟩⟩
    have HB : Hid (Below w.heap.size w (w.drew.alloc (.cells Z 38))) := mkHid ((Below.refl w.heap.size w).drew.alloc (Nat.le_refl _) _)
    clear hcap hZ hi hz0 hz1 hz2
    go_enter Try.func86, Try.ntmps86
    go_wp2_with (at_builtin; refine Lib.wpList_append_run _ rfl _ _ _ _ rfl _ _ rfl rfl _ _ happ ?_)
    go_ret
    exact ⟨_, rfl, mkHid ⟨HO.out, HB.out⟩⟩
set_option maxRecDepth 100000 in
set_option maxHeartbeats 2000000 in
theorem concat_any (x y : Value) (xs ys : List Value) (g : Nat) (w : World) (h0 : w.cell? ⟨g, 0, none⟩ = some x) (h1 : w.cell? ⟨g, 1, none⟩ = some y) (hx : Vals w x xs) (hy : Vals w y ys)
    (ox : ∀ u ∈ xs, u.oneCell' = true) (oy : ∀ u ∈ ys, u.oneCell' = true) (hl : xs.length + ys.length ≤ 1000000) :
    Calls Try.prog 69 #[.slice (some ⟨g, 0, none⟩) 2 2] w fun e w' => ∃ v, e = .returned v ∧ Hid (OwnV w' w.heap.size v (xs ++ ys) ∧ Below w.heap.size w w') := by
  have CG := mkHid (fun W => grow_any (xs.length + ys.length) (by omega) W)
  rw [Int.natCast_add] at CG
  obtain ⟨ax, cx, rfl⟩ := hx.form
  obtain ⟨ay, cy, rfl⟩ := hy.form
  have HX := mkHid hx
  have HY := mkHid hy
  have OX := mkHid ox
  have OY := mkHid oy
  have n1 : ¬ (xs.length : Int) < 0 := by omega
  have n2 : ¬ (xs.length : Int) + (ys.length : Int) < 0 := by omega
  have e1 : IntKind.i64.wrap (xs.length : Int) = xs.length := IntWalk.i64_in _ (by omega)
  have e2 : IntKind.i64.wrap ((xs.length : Int) + ys.length) = xs.length + ys.length := IntWalk.i64_in _ (by omega)
  clear hx hy ox oy
  go_enter Try.func69, Try.ntmps69
  go_wp2
  refine wp_loop_rounds 3 ?_
  rw [rounds_succ]
  go_wp2
  rw [rounds_succ]
  go_wp2
  rw [rounds_succ]
  go_wp2_with (go_at_call 86; refine (CG.out _).mono ?_; rintro e w2 ⟨u2, rfl, h2⟩; have p0 := cell_grows h2.out.2 h0; have p1 := cell_grows h2.out.2 h1; have HX2 := mkHid (HX.out.next h2.out.2))
  refine wp_loop_rounds 3 ?_
  rw [rounds_succ]
  go_wp2_with (at_builtin; refine wpList_appVs rfl (.tmp 31) (.tmp 32) rfl rfl rfl h2.out.1 HX2.out OX.out (by simp; omega) h2.out.2.size h2.out.2 ?_; intro v3 w3 H3; have q0 := cell_grows H3.out.2 h0; have q1 := cell_grows H3.out.2 h1; have HY3 := mkHid (HY.out.next H3.out.2))
  rw [rounds_succ]
  go_wp2_with (at_builtin; refine wpList_appVs rfl (.tmp 31) (.tmp 32) rfl rfl rfl H3.out.1 HY3.out OY.out (by simp; omega) H3.out.2.size H3.out.2 ?_; intro v4 w4 H4)
  rw [rounds_succ]
  go_wp2
  go_ret
  exact ⟨_, rfl, mkHid ⟨by have := H4.out.1; rwa [List.nil_append] at this, H4.out.2⟩⟩
end Go.Proofs.Ytalpbpcanebbbaa
