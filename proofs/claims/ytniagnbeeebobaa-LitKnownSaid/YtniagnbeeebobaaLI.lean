/- Contracts: Clone, SortFunc, Compact and DeleteFunc on slices of the call's own; inOrder, without. -/
import Derived.Test.YtniagnbeeebobaaLO
namespace Go.Proofs.Ytniagnbeeebobaa
open Go.RowKit VM LM Go.Lib Go.Sort Go.Shelf

theorem clone_any (v : Value) (l : List Int) (w : World) (hv : Ints w v l) (hlen : l.length ≤ 1000000) :
    Calls Try.prog 49 #[v] w fun e w' => ∃ u, e = .returned u ∧ Own w' w.heap.size u l ∧ Below w.heap.size w w' := by
  rcases hv with ⟨rfl, ao, cap, rfl⟩ | ⟨b, off, cap, rfl, h3⟩
  · cases ao with
    | none => exact (Try.slices_Clone_int_nil 0 cap w).mono fun e w' ⟨he, hw⟩ => ⟨_, he, Own.nil _ _, by rw [hw]; exact Below.refl _ _⟩
    | some a => exact (Try.slices_Clone_int_zero a cap w).mono fun e w' ⟨u, he, ho, _, hb⟩ => ⟨u, he, ho, hb⟩
  · refine (Try.slices_Clone_int b off l.length cap l w (Nat.le_refl _) (by omega) (fun j hj => by
      rw [h3 j l[j] (List.getElem?_eq_getElem hj)]; simp [List.getD, List.getElem?_eq_getElem hj])).mono fun e w' ⟨u, he, ho, _, hb⟩ => ⟨u, he, ?_, hb⟩
    rw [List.take_length] at ho
    exact ho

theorem own_cases {W : World} {base : Nat} {u : Value} {l : List Int} (h : Own W base u l) : (u = .slice none 0 0 ∧ l = []) ∨ ∃ g cap, u = .slice (some ⟨g, 0, none⟩) l.length cap ∧ base ≤ g ∧ g < W.heap.size ∧ l.length ≤ cap ∧ Holds (Value.int .i64) W g 0 l.toArray := by
  by_cases hn : u = .slice none 0 0
  · subst hn
    left
    refine ⟨rfl, ?_⟩
    rcases h.2 with ⟨_, h0⟩ | ⟨g, cap, cur, e, _⟩
    · exact List.eq_nil_of_length_eq_zero h0
    · cases e
  · obtain ⟨g, cap, e, hb, hg, hc, _, _, hH⟩ := Lib.holds_of_ownsRow h hn
    exact .inr ⟨g, cap, e, hb, hg, hc, hH⟩

theorem sort_own {W : World} {base : Nat} {u : Value} {l : List Int} (h : Own W base u l) (hB : base ≤ W.heap.size) (hlen : l.length ≤ 1000000) :
    Calls Try.prog 50 #[u, .func (.func 51) #[] #[]] W fun e w' => e = .returned (.tuple #[]) ∧ Own w' base u (sortL l) ∧ Below base W w' := by
  rcases own_cases h with ⟨rfl, rfl⟩ | ⟨g, cap, rfl, hg, hlt, hc, hH⟩
  · exact (Try.slices_SortFunc_none (α := Int) none 0 _ W).mono fun e w' ⟨he, hw⟩ => ⟨he, by rw [hw, show sortL [] = [] by simp [sortL]]; exact Own.nil _ _, by rw [hw]; exact Below.refl _ _⟩
  · have eg : ∀ args w, (callFunc 51 args).run Try.prog w = .ok (.enter 51 args) w := enters_of Try.func51 (by kernel_rfl) rfl
    have hcon := Try.slices_SortFunc_total (Value.int .i64) (fun _ => rfl) cf cf_swo 51 #[] g 0 cap l.toArray W eg
      (fun m os dk hs x y => by
        have := cmp_any x y (sortWorld (Value.int .i64) W g 0 m dk os)
        exact this) hH hlt (by simp; omega) cf_total
    rw [List.size_toArray] at hcon
    refine hcon.mono fun e w' ⟨he, n, os, hw'⟩ => ⟨he, ?_, ?_⟩
    all_goals have hw : w' = sortWorld (Value.int .i64) W g 0 n (sortL l).toArray os := hw'
    · have hown := Lib.ownsRow_putRow (q := n) (k := l.length) (ys := sortL l) h (sortL_length l) (Nat.le_refl _)
      rw [show (sortL l).take l.length = sortL l by rw [← sortL_length l, List.take_length]] at hown
      rw [hw]
      unfold Own
      rw [sortL_length]
      refine ⟨hown.1, hown.2.imp id ?_⟩
      rintro ⟨g', cp, cur, hv, hg', hcur, h1, h2, h3, h4⟩
      refine ⟨g', cp, cur, hv, hg', ?_, h1, h2, h3, h4⟩
      unfold sortWorld
      rw [heap_grow_old _ _ (Array.getElem?_eq_some_iff.1 hcur).1]
      exact hcur
    · have hb := Lib.below_putRow (enc := Value.int .i64) (q := n) (d := (sortL l).toArray) (Below.refl base W) hg
      rw [hw]
      unfold sortWorld
      exact ⟨hb.os, hb.tape, hb.output, by have := hb.size; simp at this ⊢; first | done | omega, fun k hk => by
        rw [heap_grow_old _ _ (by have := hb.size; omega)]; exact hb.block k hk⟩

theorem compact_own {W : World} {base : Nat} {u : Value} {l : List Int} (h : Own W base u l) (hlen : l.length ≤ 1000000) :
    Calls Try.prog 54 #[u] W fun e w' => ∃ u', e = .returned u' ∧ Own w' base u' (Lib.compact l) ∧ Below base W w' := by
  rcases own_cases h with ⟨rfl, rfl⟩ | ⟨g, cap, rfl, hg, hlt, hc, hH⟩
  · exact (Try.slices_Compact_int_empty none 0 W).mono fun e w' ⟨he, hw⟩ => ⟨_, he, by rw [hw]; exact Own.nil _ _, by rw [hw]; exact Below.refl _ _⟩
  · have hle := Lib.compact_length_le l
    refine (Try.slices_Compact_int g 0 cap l W hH (by omega) hc).mono fun e w' ⟨he, q, hw⟩ => ⟨_, he, ?_, ?_⟩
    · have hown := Lib.ownsRow_putRow (q := q) (k := (Lib.compact l).length) (ys := Lib.compact l ++ List.replicate (l.length - (Lib.compact l).length) 0) h (by simp; omega) hle
      rw [List.take_left] at hown
      rw [hw]; exact hown
    · rw [hw]; exact Lib.below_putRow (Below.refl base W) hg

set_option maxRecDepth 100000 in
set_option maxHeartbeats 1000000 in
theorem inOrder_any (v : Value) (l : List Int) (w : World) (hv : Ints w v l) (hlen : l.length ≤ 1000000) :
    Calls Try.prog 37 #[v] w fun e w' => ∃ u, e = .returned u ∧ Own w' w.heap.size u (inOrd l) ∧ Below w.heap.size w w' := by
  have C1 := mkHid (clone_any v l w hv hlen)
  have C2 := mkHid (fun W u (h : Own W w.heap.size u l) hB => sort_own h hB hlen)
  have C3 := mkHid (fun W u (h : Own W w.heap.size u (sortL l)) => compact_own h (by rw [sortL_length]; exact hlen))
  unfold inOrd
  obtain ⟨ao, cap, rfl⟩ := hv.form
  clear hv
  generalize Lib.compact (sortL l) = r at *
  go_enter Try.func37, Try.ntmps37
  go_wp2_with (first
    | (go_at_call 49; refine C1.out.mono ?_; rintro e w1 ⟨u1, rfl, ho, hb⟩; have HO1 := mkHid ho; have HB1 := mkHid hb; clear ho hb)
    | (go_at_call 50; refine (C2.out _ _ HO1.out HB1.out.size).mono ?_; rintro e w2 ⟨rfl, ho, hb⟩; have HO2 := mkHid ho; have HB2 := mkHid (HB1.out.trans hb); clear ho hb)
    | (go_at_call 54; refine (C3.out _ _ HO2.out).mono ?_; rintro e w3 ⟨u3, rfl, ho, hb⟩; have HO3 := mkHid ho; have HB3 := mkHid (HB2.out.trans hb); clear ho hb))
  go_ret
  exact ⟨_, rfl, HO3.out, HB3.out⟩

/-- without: the elements other than x, in new memory. -/
theorem noteq_any (x y : Int) (b : Nat) (w : World) (hc : w.cell? ⟨b, 0, none⟩ = some (.int .i64 x)) :
    Calls Try.prog 59 #[.int .i64 y, .pointer (some ⟨b, 0, none⟩)] w fun e w' => e = .returned (.bool (decide (y = x))) ∧ ∃ q, w' = w.drewN q := by
  go_enter Try.func59, Try.ntmps59
  go_wp2
  go_ret
  exact ⟨rfl, 0, rfl⟩
theorem Own.weaken {W : World} {base b2 : Nat} {u : Value} {l : List Int} (h : Own W base u l) (hb : b2 ≤ base) : Own W b2 u l :=
  ⟨h.1, h.2.imp id fun ⟨g, cap, cur, hv, hg, r⟩ => ⟨g, cap, cur, hv, by omega, r⟩⟩

set_option maxRecDepth 100000 in
set_option maxHeartbeats 1000000 in
theorem delete_nil (fv : Value) (w : World) : Calls Try.prog 58 #[.slice none 0 0, fv] w fun e w' => e = .returned (.slice none 0 0) ∧ w' = w := by
  have C := mkHid (fun W => Try.slices_IndexFunc_empty (α := Int) none 0 fv W)
  go_enter Try.func58, Try.ntmps58
  go_wp2_with (go_at_call 56; refine (C.out _).mono ?_; rintro e w2 ⟨rfl, rfl⟩)
  go_ret
  exact ⟨rfl, rfl⟩
theorem delete_own {W : World} {base B : Nat} {u : Value} {l : List Int} (x : Int) (h : Own W base u l) (hlen : l.length ≤ 1000000) (hB : B < base) (hc : W.cell? ⟨B, 0, none⟩ = some (.int .i64 x)) :
    Calls Try.prog 58 #[u, .func (.func 59) #[] #[.pointer (some ⟨B, 0, none⟩)]] W fun e w' => ∃ u', e = .returned u' ∧ Own w' base u' (rest l x) ∧ Below base W w' := by
  have eg : ∀ args w, (callFunc 59 args).run Try.prog w = .ok (.enter 59 args) w := enters_of Try.func59 (by kernel_rfl) rfl
  have hlt : B < W.heap.size := World.block_lt_of_cell? W _ hc
  have hp : PredAt Try.prog 59 #[.pointer (some ⟨B, 0, none⟩)] (Value.int .i64) (fun y => decide (y = x)) W := fun W' y hb =>
    noteq_any x y B W' ((hb.cell (p := ⟨B, 0, none⟩) hlt).trans hc)
  rcases own_cases h with ⟨rfl, rfl⟩ | ⟨g, cap, rfl, hg, hgl, hcp, hH⟩
  · exact (delete_nil _ W).mono fun e w' ⟨he, hw⟩ => ⟨_, he, by rw [hw]; exact Own.nil _ _, by rw [hw]; exact Below.refl _ _⟩
  · have hpo : PredOver Try.prog 59 #[.pointer (some ⟨B, 0, none⟩)] (Value.int .i64) (fun y => decide (y = x)) g 0 l.toArray.size W := fun n os dk y hd =>
      noteq_any x y B _ (by
        unfold sortWorld
        rw [cell?_grow _ _ _ (by simpa [Sort.ahead] using hlt), cell?_putRow_other _ _ _ _ _ _ (.inl (by show B ≠ g; omega))]
        exact hc)
    have hcon := Try.slices_DeleteFunc (Value.int .i64) (fun _ => rfl) (fun y => decide (y = x)) 59 #[.pointer (some ⟨B, 0, none⟩)] eg 0 (fun _ => rfl) g 0 cap l.toArray W hp hpo hH (by simp; omega) (by simpa using hcp)
    simp only [List.size_toArray] at hcon
    have hle : (rest l x).length ≤ l.length := List.length_filter_le _ _
    refine hcon.mono fun e w' ⟨he, q, hw⟩ => ⟨_, he, ?_, ?_⟩
    · have hown := Lib.ownsRow_putRow (q := q) (k := (rest l x).length) (ys := rest l x ++ List.replicate (l.length - (rest l x).length) 0) h (by simp; omega) hle
      rw [List.take_left] at hown
      rw [hw]; exact hown
    · rw [hw]; exact Lib.below_putRow (Below.refl base W) hg

set_option maxRecDepth 100000 in
set_option maxHeartbeats 1000000 in
theorem without_any (v : Value) (l : List Int) (x : Int) (w : World) (hv : Ints w v l) (hlen : l.length ≤ 1000000) :
    Calls Try.prog 45 #[v, .int .i64 x] w fun e w' => ∃ u, e = .returned u ∧ Own w' w.heap.size u (rest l x) ∧ Below w.heap.size w w' := by
  have C1 := mkHid (fun W (h : Ints W v l) => clone_any v l W h hlen)
  have C2 := mkHid (fun W u base (h : Own W base u l) hB hc => delete_own (B := w.heap.size) x h hlen hB hc)
  have HX : Hid ((w.alloc (.cells #[.int .i64 x] 3)).cell? ⟨w.heap.size, 0, none⟩ = some (.int .i64 x)) := mkHid (by
    have hb : (w.alloc (.cells #[.int .i64 x] 3)).heap[w.heap.size]? = some (.cells #[.int .i64 x] 3 (0, 0)) := heap_alloc_new w _
    simp only [World.cell?, hb]; rfl)
  have HV := mkHid (hv.next (bal (Below.refl _ _) (.cells #[.int .i64 x] 3)))
  have HB := mkHid (bal (Below.refl _ w) (.cells #[.int .i64 x] 3))
  obtain ⟨ao, cap, rfl⟩ := hv.form
  clear hv
  generalize rest l x = r at *
  go_enter Try.func45, Try.ntmps45
  go_wp2_with (first
    | (go_at_call 49; refine (C1.out _ HV.out).mono ?_; rintro e w1 ⟨u1, rfl, ho, hb⟩; have HO1 := mkHid ho; have HB1 := mkHid (bnx HB.out hb); have HX1 := mkHid (cell_grows hb HX.out); clear ho hb)
    | (go_at_call 58; refine (C2.out _ _ _ HO1.out (by simp) HX1.out).mono ?_; rintro e w2 ⟨u2, rfl, ho, hb⟩; have HO2 := mkHid (ho.weaken (show w.heap.size ≤ _ by simp)); have HB2 := mkHid (HB1.out.trans (hb.mono (by simp))); clear ho hb))
  go_ret
  exact ⟨_, rfl, HO2.out, HB2.out⟩
end Go.Proofs.Ytniagnbeeebobaa
