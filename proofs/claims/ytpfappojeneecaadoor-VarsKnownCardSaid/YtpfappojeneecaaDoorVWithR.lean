/- The specification's With and Union. -/
import Derived.Test.YtpfappojeneecaaDoorVOfR
import Derived.Deep.AppendLies
import Derived.Deep.RegionLaw
import Derived.Lib.ItoaMem
namespace Go.Proofs.YtpfappojeneecaaDoor
open Go.RowKit VM

theorem On.grownAll {w W W' : World} {l : List (Nat × Int × Int)} {B : Nat} {row : Option Nat} (h : On w W l) (hg : W.grownBy W' row) (hr : ∀ k, row = some k → B ≤ k) (hB : B ≤ W.heap.size) (hw : w.heap.size ≤ B) (hl : ∀ x ∈ l, x.1 < B) (hg64 : 0 < w.heap.size) : On w W' l := by
  have hBe : Below B W W' := (Below.refl _ _).grown hg hB hr
  refine ⟨h.below.trans (hBe.mono hw), fun j hj => ?_, fun z hz => (h.cells z hz).same (hBe.block z.1 (hl z hz))⟩
  rw [hBe.cell (p := ⟨_, j, none⟩) (by show 0 < _; omega)]; exact h.tab j hj
theorem ofL_lst (s : BitVec 128) : ofL (lst s 128) = s := ext_has fun v h1 h2 => by
  rw [has_ofL, Bool.eq_iff_iff, decide_eq_true_eq, mem_lst]
  exact ⟨fun h => h.2.2.2.2, fun h => ⟨h1, h2, h1, h2, h⟩⟩
theorem ofL_append (a b : List Int) : ofL (a ++ b) = b.foldl withV (ofL a) := by simp [ofL]
theorem ofL_two (a b : BitVec 128) : ofL (lst a 128 ++ lst b 128) = a ||| b := ext_has fun v h1 h2 => by
  rw [has_ofL, has_or, Bool.eq_iff_iff]
  simp only [decide_eq_true_eq, List.mem_append, mem_lst, Bool.or_eq_true]
  constructor
  · rintro ⟨_, _, h | h⟩
    · exact .inl h.2.2
    · exact .inr h.2.2
  · rintro (h | h)
    · exact ⟨h1, h2, .inl ⟨h1, h2, h⟩⟩
    · exact ⟨h1, h2, .inr ⟨h1, h2, h⟩⟩

set_option maxRecDepth 100000 in
set_option maxHeartbeats 4000000 in
theorem rwith_any (s : BitVec 128) (x : Int) (w : World) (ht : Tab w) :
    Calls Tryd.prog 22 #[sv s, .int .i64 x] w fun e w' => e = .returned (sv (withV s x)) ∧ Below w.heap.size w w' := by
  have HG := mkHid ht.lt
  have HT := mkHid (((On.nil ht).box (wd (lo s)) (wd (hi s)) 26 w.heap.size rfl).box 0 0 26 (w.heap.size + 1) (by simp))
  have CL := mkHid (fun W hT => rlist_any s W hT)
  have CO := mkHid (fun v W hT hv => rof_any v (lst s 128 ++ [x]) W hT hv (by have := lst_length s 128; simp; omega))
  rw [show ofL (lst s 128 ++ [x]) = withV s x by rw [ofL_snoc, ofL_lst]] at CO
  have hlen : Hid ((lst s 128).length ≤ 128) := mkHid (lst_length s 128)
  obtain ⟨i0, hi, hz0, hz1, hz2⟩ := info_parts infoI
  have hi' := Lib.hid hi; have hz0' := Lib.hid hz0; have hz1' := Lib.hid hz1; have hz2' := Lib.hid hz2; clear hi hz0 hz1 hz2
  clear ht
  unfold sv at *
  generalize lst s 128 = l at *
  generalize wd (lo (withV s x)) = r0 at *
  generalize wd (hi (withV s x)) = r1 at *
  generalize wd (lo s) = a0 at *
  generalize wd (VM.hi s) = a1 at *
  go_enter Tryd.func22, Tryd.ntmps22
  go_wp2_with (first
    | (go_at_call 36; refine (CL.out _ HT.out.tab).mono ?_; rintro e w2 ⟨v, rfl, hv⟩; have hO := HT.out.next hv.out.2.1; have hv1 := hv.out.1; have hz := hv.out.2.2; simp at hz hv1; have HW := mkHid hv1; have HZ := mkHid hz; clear hv hz hv1)
    | (at_builtin; refine wpList_append_own _ rfl _ _ 22 rfl (w.heap.size + 1 + 1 + 1) 3 i0 (.int .i64 0) 1 8 Tryd.underlying22 hi'.out hz0'.out hz1'.out hz2'.out rfl (by decide) _ _ _ rfl (World.ownsRow.alloc HW.out _) ⟨w2.heap.size, 0, none⟩ 1 1 [.int .i64 x] rfl rfl ?c1 ?c2 ?c3 ?c4 ?c5 ?_))
  case c1 => exact new_list w2 #[.int .i64 x] 3
  case c2 => intro u hu; simp only [List.mem_cons, List.not_mem_nil, or_false] at hu; subst hu; rfl
  case c3 => have := hlen.out; unfold maxLen; omega
  case c4 => have := hlen.out; omega
  case c5 => have := HZ.out; simp; omega
  intro v' w7 hown' hgrow _
  have HN : Hid (Own w7 (w.heap.size + 1 + 1 + 1) v' (l ++ [x])) := mkHid (by unfold Own; rw [List.length_append, List.map_append]; exact hown')
  have hO7 := (hO.alloc (.cells #[.int .i64 x] 3)).grownAll (B := w.heap.size + 1 + 1 + 1) hgrow (fun k hk => (World.ownsRow.lt HW.out k hk).1) (by have := HZ.out; simp; omega) (by omega) (by simp; omega) HG.out
  clear hown' hgrow
  go_wp2_with (go_at_call 15; refine (CO.out _ _ hO7.tab HN.out.ints).mono ?_; rintro e w8 ⟨rfl, hw⟩; have hO8 := hO7.next hw; obtain ⟨c1, c2, cf1, cf2⟩ := hO8.h1; clear hw)
  refine bodyPost_ret (v := .agg #[.int .u64 r0, .int .u64 r1]) (by simp [results, Tryd.results22, go_sem, c1, c2]) rfl ⟨rfl, ?_⟩
  exact bst2 hO8.below _ (by omega) _ _

/-- append of numbers that lie anywhere to a slice of the call's own. -/
theorem run_app {w : World} {base : Nat} {v v2 : Value} {l l2 : List Int} (ty : TypeId) (hown : Own w base v l) (h2 : Ints w v2 l2) (hlen : l.length + l2.length ≤ 1000000000000) (hbase : base ≤ w.heap.size) :
    ∃ v' w', (Builtin.append_ #[22, 22] ty #[v, v2]).run Tryd.prog w = .ok v' w' ∧ Own w' base v' (l ++ l2) ∧ w.grownBy w' v.ownBlock := by
  obtain ⟨i0, hi, hz0, hz1, hz2⟩ := info_parts infoI
  have at_adr : ∀ (ad : Addr) (m c : Nat), v2 = .slice (some ad) m c → m = l2.length → (∀ j (x : Int), l2[j]? = some x → w.cell? (ad.add j) = some (.int .i64 x)) →
      ∃ v' w', (Builtin.append_ #[22, 22] ty #[v, v2]).run Tryd.prog w = .ok v' w' ∧ Own w' base v' (l ++ l2) ∧ w.grownBy w' v.ownBlock := by
    intro ad m c hv hm hc
    subst hv hm
    obtain ⟨v', w', hr, g1, g2, _, _⟩ := run_append_own_at (P := Tryd.prog) w base 22 ty 3 i0 (.int .i64 0) 1 8 Tryd.underlying22 hi hz0 hz1 hz2 rfl (by decide) v l.length (l.map (Value.int .i64)) hown ad l2.length c (l2.map (Value.int .i64)) (by simp)
      (fun j u hu => by
        rw [List.getElem?_map] at hu
        obtain ⟨x, hx, rfl⟩ := Option.map_eq_some_iff.1 hu
        exact hc j x hx)
      (fun u hu => by
        obtain ⟨x, _, rfl⟩ := List.mem_map.1 hu
        rfl)
      (by unfold maxLen; omega) (by omega) hbase
    exact ⟨v', w', hr, by unfold Own; rw [List.length_append, List.map_append]; exact g1, g2⟩
  rcases h2 with ⟨rfl, ao, cap, rfl⟩ | ⟨b, off, cap, rfl, h3⟩
  · cases ao with
    | some ad => exact at_adr ad 0 cap rfl rfl (fun j x hj => by simp at hj)
    | none =>
      refine ⟨v, w, ?_, by rw [List.append_nil]; exact hown, World.grownBy.refl w _⟩
      rcases hown.2 with ⟨rfl, _⟩ | ⟨g, cp, cur, rfl, _, _, hnc, _⟩
      · simp [Builtin.append_, run_underlying Tryd.underlying22, sizeOf, typeInfo, hi, Builtin.lenOf, Builtin.firstCells]
      · simp [Builtin.append_, run_underlying Tryd.underlying22, sizeOf, typeInfo, hi, Builtin.lenOf, Builtin.firstCells, hnc, storeCells]
  · exact at_adr ⟨b, off, none⟩ l2.length cap rfl rfl (fun j x hj => by rw [Lib.add_plain]; exact h3 j x hj)
/-- The same at a step of a region that draws its order. -/
theorem step_app {w : World} {ops : Array Oper} {o : Oper} {a : Act} {K : Act → World → Prop} {Q : Exit → Act → World → Prop} {E : Prop} (hgd : o.guard = none) (s x : Operand)
    (ho : o.op = .call { callee := .builtin .append, args := #[s, x], argTypes := #[22, 22] })
    {base : Nat} {v v2 : Value} {l l2 : List Int} (hs : a.eval s = v) (hx : a.eval x = v2) (hown : Own w base v l) (h2 : Ints w v2 l2) (hlen : l.length + l2.length ≤ 1000000000000) (hbase : base ≤ w.heap.size)
    (h : ∀ v' w', Own w' base v' (l ++ l2) → w.grownBy w' v.ownBlock → K (a.put o.dst v') w') :
    if Region.wanted o (yielded ops a.tmps) = true then Oper.wp Tryd.prog o a w K Q else E := by
  have hw : Region.wanted o (yielded ops a.tmps) = true := by simp [Region.wanted, hgd]
  rw [if_pos hw]
  obtain ⟨v', w', hr, g1, g2⟩ := run_app o.type hown h2 hlen hbase
  unfold Oper.wp execOp
  simp only [ho, resolve, invoke, builtin, Sem.run_bind, Sem.run_pure, Result.andThen_ok, List.map_toArray, List.map_cons, List.map_nil, hs, hx, hr]
  exact h v' w' g1 g2
theorem wpList_app {w : World} {ops : Array Oper} {rest : List Oper} {o : Oper} {a : Act} {Q : Exit → Act → World → Prop} (hgd : o.guard = none) (s x : Operand)
    (ho : o.op = .call { callee := .builtin .append, args := #[s, x], argTypes := #[22, 22] })
    {base : Nat} {v v2 : Value} {l l2 : List Int} (hs : a.eval s = v) (hx : a.eval x = v2) (hown : Own w base v l) (h2 : Ints w v2 l2) (hlen : l.length + l2.length ≤ 1000000000000) (hbase : base ≤ w.heap.size)
    (h : ∀ v' w', Own w' base v' (l ++ l2) → w.grownBy w' v.ownBlock → wpList Tryd.prog ops Q rest (a.put o.dst v') w') : wpList Tryd.prog ops Q (o :: rest) a w :=
  wpList_plain hgd fun K hK => by
    obtain ⟨v', w', hr, g1, g2⟩ := run_app o.type hown h2 hlen hbase
    unfold Oper.wp execOp
    simp only [ho, resolve, invoke, builtin, Sem.run_bind, Sem.run_pure, Result.andThen_ok, List.map_toArray, List.map_cons, List.map_nil, hs, hx, hr]
    exact hK _ _ (h v' w' g1 g2)

set_option maxRecDepth 100000 in
set_option maxHeartbeats 4000000 in
theorem runion_any (a b : BitVec 128) (w : World) (ht : Tab w) :
    Calls Tryd.prog 26 #[sv a, sv b] w fun e w' => e = .returned (sv (a ||| b)) ∧ Below w.heap.size w w' := by
  have HG := mkHid ht.lt
  have HT := (((On.nil ht).box (wd (lo a)) (wd (hi a)) 26 w.heap.size rfl).box (wd (lo b)) (wd (hi b)) 26 (w.heap.size + 1) (by simp)).box 0 0 26 (w.heap.size + 1 + 1) (by simp)
  have CLa := mkHid (fun W hT => rlist_any a W hT)
  have CLb := mkHid (fun W hT => rlist_any b W hT)
  have CO := mkHid (fun v W hT hv => rof_any v (lst a 128 ++ lst b 128) W hT hv (by have := lst_length a 128; have := lst_length b 128; simp; omega))
  rw [ofL_two] at CO
  have hla : Hid ((lst a 128).length ≤ 128) := mkHid (lst_length a 128)
  have hlb : Hid ((lst b 128).length ≤ 128) := mkHid (lst_length b 128)
  clear ht
  unfold sv at *
  generalize lst a 128 = la at *
  generalize lst b 128 = lb at *
  generalize wd (lo (a ||| b)) = r0 at *
  generalize wd (hi (a ||| b)) = r1 at *
  generalize wd (lo a) = a0 at *
  generalize wd (hi a) = a1 at *
  generalize wd (lo b) = b0 at *
  generalize wd (hi b) = b1 at *
  obtain ⟨p1, p2, -, -⟩ := HT.h3
  obtain ⟨q1, q2, -, -⟩ := HT.h2
  have HT := mkHid HT
  go_enter Tryd.func26, Tryd.ntmps26
  go_wp2
  go_region_law (first
    | (go_simp; go_at_call 36; ((with_reducible refine (CLa.out _ HT.out.drew.tab).mono ?_); rintro e w2 ⟨v1, rfl, hv⟩; have hO2 := HT.out.drew.next hv.out.2.1; have hv1 := hv.out.1; have hz := hv.out.2.2; simp at hz hv1; have HW1 := mkHid hv1; have HZ := mkHid hz; obtain ⟨q21, q22, -, -⟩ := hO2.h2; clear hv hz hv1))
    | (go_simp; go_at_call 36; ((with_reducible refine (CLb.out _ hO2.tab).mono ?_); rintro e w3 ⟨v2, rfl, hv⟩; have hO3 := hO2.next hv.out.2.1; have HV2 := mkHid hv.out.1.ints; have HW3 := mkHid (HW1.out.below hv.out.2.1); have hz := hv.out.2.2; have HZ3 := mkHid hz; clear hv hz))
    | (refine step_app rfl (.tmp 6) (.tmp 8) rfl (by simp [Act.eval]) (by simp [Act.eval]) HW3.out HV2.out (by have := hla.out; have := hlb.out; omega) (by have := HZ.out; have := HZ3.out; omega) ?_; intro v' w7 hown' hgrow; have HN := mkHid hown'; have hO7 := hO3.grownAll (B := w.heap.size + 1 + 1 + 1 + 1) hgrow (fun k hk => (World.ownsRow.lt HW3.out k hk).1) (by have := HZ.out; have := HZ3.out; omega) (by omega) (by simp; omega) HG.out; clear hown' hgrow)
    | (go_simp; go_at_call 15; refine (CO.out _ _ hO7.tab HN.out.ints).mono ?_; rintro e w8 ⟨rfl, hw⟩; have hO8 := hO7.next hw; obtain ⟨c1, c2, cf1, cf2⟩ := hO8.h1; clear hw))
  all_goals
    go_wp2
    refine bodyPost_ret (v := .agg #[.int .u64 r0, .int .u64 r1]) (by simp [results, Tryd.results26, go_sem, c1, c2]) rfl ⟨rfl, ?_⟩
    exact bst2 hO8.below _ (by omega) _ _
end Go.Proofs.YtpfappojeneecaaDoor
