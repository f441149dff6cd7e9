/- Contract of spoil. -/
import Derived.Test.YtalpbpcanebbbaaTZ
namespace Go.Proofs.Ytalpbpcanebbbaa
open Go.RowKit VM LM TM

theorem Own.poke {w : World} {base : Nat} {y : Value} {d : List Int} (h : Own w base y d) (g k : Nat) (z : Int) : ∃ d', Own (w.setCell ⟨g, k, none⟩ (.int .i64 z)) base y d' ∧ d'.length = d.length := by
  have h0 := h
  rcases h.2 with ⟨e, e0⟩ | ⟨g', cap, cur, e, hb, hc, rest⟩
  · exact ⟨d, ⟨h.1, .inl ⟨e, e0⟩⟩, rfl⟩
  · by_cases hg : g' = g
    · subst hg
      subst e
      refine ⟨d.set k z, ?_, List.length_set⟩
      have := h0.set k z
      rwa [List.length_set] at this
    · exact ⟨d, ⟨h.1, .inr ⟨g', cap, cur, e, hb, by rw [Below.heap_setCell _ _ _ _ hg]; exact hc, rest⟩⟩, rfl⟩
theorem OwnV.at {w : World} {base g cap : Nat} {xs : List Value} (h : OwnV w base (.slice (some ⟨g, 0, none⟩) xs.length cap) xs) : base ≤ g ∧ g < w.heap.size ∧ (∀ (j : Nat) (x : Value), xs[j]? = some x → w.cell? ⟨g, j, none⟩ = some x) ∧ (∀ j : Nat, w.frozen? ⟨g, j, none⟩ = false) ∧ ∀ (i : Nat) (x : Value), OwnV (w.setCell ⟨g, i, none⟩ x) base (.slice (some ⟨g, 0, none⟩) (xs.set i x).length cap) (xs.set i x) := by
  obtain ⟨h0, h⟩ := h
  rcases h with ⟨e, _⟩ | ⟨g', cap', cur, e, hb, hc, h1, h2, h3, h4⟩
  · cases e
  · simp only [Value.slice.injEq, Option.some.injEq, Addr.mk.injEq, and_true, true_and] at e
    obtain ⟨rfl, rfl⟩ := e
    refine ⟨hb, (Array.getElem?_eq_some_iff.1 hc).1, fun j x hj => ?_, fun j => ?_, fun i x => ?_⟩
    · have hj' := hj
      rw [← h4, List.getElem?_take] at hj'
      split at hj'
      · simp only [World.cell?, hc]
        rw [Array.getElem?_toList] at hj'
        simpa using hj'
      · cases hj'
    · simp only [World.frozen?, hc]
      simp
    · refine ⟨by simp, .inr ⟨g, cap, cur.setIfInBounds i x, rfl, hb, ?_, by simpa using h1, h2, by simpa using h3, ?_⟩⟩
      · simp [World.setCell, Array.getElem?_modify, hc]
      · rw [List.length_set, Array.toList_setIfInBounds, List.take_set, h4]
/-- What spoil needs: lists of the call's own, whatever they hold. -/
structure Sp (w W : World) (base : Nat) (n : Int) (v : Value) (m : Nat) : Prop where
  t : TB W w.heap.size n v
  l : ∃ xs, xs.length = m ∧ OwnV W base v xs ∧ ∀ x ∈ xs, ∃ c : List Int, Own W base x c ∧ c.length ≤ 1000000
  b : Below base w W
  h : base ≤ w.heap.size
theorem Sp.poke {w W : World} {base : Nat} {n : Int} {v : Value} {m g k : Nat} {z : Int} {cur : Array Value} {f : Nat × Nat} (H : Sp w W base n v m) (hg : base ≤ g) (hc : W.heap[g]? = some (Obj.cells cur 3 f)) : Sp w (W.setCell ⟨g, k, none⟩ (.int .i64 z)) base n v m := by
  have ht : w.heap.size ≠ g := fun e => by
    have := H.t
    unfold TB at this
    rw [e, hc] at this
    simp at this
  obtain ⟨xs, h1, h2, h3⟩ := H.l
  refine ⟨H.t.off ht _, ⟨xs, h1, ?_, fun x hx => ?_⟩, H.b.setCell (p := ⟨g, k, none⟩) hg _, H.h⟩
  · refine ⟨h2.1, h2.2.imp id ?_⟩
    rintro ⟨g', cap, cur', hv, hg', hc', rest⟩
    refine ⟨g', cap, cur', hv, hg', ?_, rest⟩
    rw [Below.heap_setCell _ _ _ _ (fun e => by
      have e : g' = g := e
      subst e; rw [hc] at hc'; simp at hc')]
    exact hc'
  · obtain ⟨c, a, b⟩ := h3 x hx
    obtain ⟨d, a2, b2⟩ := a.poke g k z
    exact ⟨d, a2, by omega⟩
theorem Sp.drop {w W : World} {base : Nat} {n : Int} {m g cap i : Nat} (H : Sp w W base n (.slice (some ⟨g, 0, none⟩) m cap) m) : Sp w (W.setCell ⟨g, i, none⟩ (.slice none 0 0)) base n (.slice (some ⟨g, 0, none⟩) m cap) m := by
  obtain ⟨xs, h1, h2, h3⟩ := H.l
  subst h1
  obtain ⟨q1, q2, q3, q4, q5⟩ := h2.at
  obtain ⟨_, cur, hcur⟩ := h2.block (k := g) rfl
  have ht : w.heap.size ≠ g := fun e => by
    have := H.t
    unfold TB at this
    rw [e, hcur] at this
    simp at this
  refine ⟨H.t.off ht _, ⟨xs.set i (.slice none 0 0), by simp, ?_, fun x hx => ?_⟩, H.b.setCell (p := ⟨g, i, none⟩) q1 _, H.h⟩
  · have := q5 i (.slice none 0 0)
    rwa [List.length_set] at this
  · rcases List.mem_or_eq_of_mem_set hx with hx | rfl
    · obtain ⟨c, a, b⟩ := h3 x hx
      refine ⟨c, ⟨a.1, a.2.imp id ?_⟩, b⟩
      rintro ⟨g', cp, cur', hv, hg', hc', rest⟩
      refine ⟨g', cp, cur', hv, hg', ?_, rest⟩
      rw [Below.heap_setCell _ _ _ _ (fun e => by
        have e : g' = g := e
        subst e; rw [hcur] at hc'; simp at hc')]
      exact hc'
    · exact ⟨[], Own.nil _ _, Nat.zero_le _⟩
set_option maxRecDepth 100000 in
set_option maxHeartbeats 4000000 in
theorem spoil_any (n : Int) (v : Value) (L : List (List Int)) (base : Nat) (w : World) (h : OwnC w base v L) (hB : base ≤ w.heap.size) (hL : L.length ≤ 1000000) (hl : ∀ c ∈ L, c.length ≤ 1000000) :
    Calls Try.prog 23 #[.agg #[.int .i64 n, v]] w fun e w' => e = .returned (.tuple #[]) ∧ Below base w w' := by
  have HB := mkHid (bal (Below.refl _ w) (.cells #[.int .i64 n, v] 24))
  have H0 : Hid (Sp w (w.alloc (.cells #[.int .i64 n, v] 24)) base n v L.length) := mkHid (by
    obtain ⟨xs, h1, h2⟩ := h
    refine ⟨TB.new w _ n v rfl, ⟨xs, h2.1, h1.below (bal (Below.refl _ _) _), fun x hx => ?_⟩, (bal (Below.refl _ w) _).mono hB, hB⟩
    obtain ⟨j, hj, e⟩ := List.getElem_of_mem hx
    have hj2 : j < L.length := by rw [← h2.1]; exact hj
    refine ⟨L[j], ?_, hl _ (List.getElem_mem hj2)⟩
    rw [← e]
    exact (h2.2 j _ _ (List.getElem?_eq_getElem hj) (List.getElem?_eq_getElem hj2)).below (bal (Below.refl _ _) _))
  obtain ⟨ao, cap, rfl⟩ := h.form
  have hlen : (L.length : Int) ≤ 1000000 := by omega
  obtain ⟨a0, a1⟩ := H0.out.t.at
  clear h hl
  generalize L.length = m at *
  go_enter Try.func23, Try.ntmps23
  go_wp2
  go_loopw [7] (fun iv wr => ∃ k : Nat, k ≤ m ∧ iv = .int .i64 (k : Int) ∧ Hid (Sp w wr base n (.slice ao m cap) m)) (fun iv _ => m - (intOf iv).toNat)
  case atStart => exact ⟨0, Nat.zero_le _, rfl, mkHid H0.out⟩
  case round =>
    obtain ⟨k, hk, rfl, H⟩ := hrel
    clear a0 a1 H0
    obtain ⟨a0, a1⟩ := H.out.t.at
    by_cases hlt : k < m
    · obtain ⟨xs, h1, h2, h3⟩ := H.out.l
      obtain ⟨g, rfl⟩ : ∃ g, ao = some ⟨g, 0, none⟩ := by
        rcases h2.2 with ⟨e, e0⟩ | ⟨g, cp, cur, e, _⟩
        · omega
        · simp only [Value.slice.injEq] at e; exact ⟨g, e.1⟩
      have h2' := h2
      rw [← h1] at h2'
      obtain ⟨q1, q2, q3, q4, q5⟩ := h2'.at
      obtain ⟨x, hx⟩ : ∃ x, xs[k]? = some x := ⟨xs[k]'(by omega), List.getElem?_eq_getElem _⟩
      obtain ⟨c, hc, hcl⟩ := h3 x (List.mem_of_getElem? hx)
      have p1 := q3 k x hx
      obtain ⟨ax, cx, rfl⟩ := hc.ints.form
      have hk1 : (k : Int) < (m : Int) := by omega
      have hk0 : (0 : Int) ≤ (k : Int) := by omega
      have hcl2 : (c.length : Int) ≤ 1000000 := by omega
      have HR : Hid (Own wr base (.slice ax c.length cx) c) := mkHid hc
      have HP : Hid (wr.cell? ⟨g, k, none⟩ = some (.slice ax c.length cx)) := mkHid p1
      generalize hmc : c.length = mc at *
      have HMC := mkHid hmc
      clear h1 h2 h3 h2' q1 q2 q3 q4 q5 hx hc hmc
      go_wp2
      obtain ⟨wo, hwo⟩ : ∃ wo : World, wo = wr := ⟨_, rfl⟩
      go_loopw [16] (fun jv wi => ∃ j : Nat, j ≤ mc ∧ jv = .int .i64 (j : Int) ∧ Hid (Sp w wi base n (.slice (some ⟨g, 0, none⟩) m cap) m ∧ wi.cell? ⟨g, k, none⟩ = some (.slice ax mc cx) ∧ ∃ c' : List Int, c'.length = mc ∧ Own wi base (.slice ax mc cx) c')) (fun jv _ => mc - (intOf jv).toNat)
      case atStart => exact ⟨0, Nat.zero_le _, rfl, mkHid ⟨H.out, HP.out, c, HMC.out, HR.out⟩⟩
      case round =>
        obtain ⟨j, hj, rfl, G⟩ := hrel
        clear a0 a1 p1
        obtain ⟨a0, a1⟩ := G.out.1.t.at
        have p1 := G.out.2.1
        by_cases hjl : j < mc
        · obtain ⟨c', e1, e2⟩ := G.out.2.2
          subst e1
          obtain ⟨b, rfl⟩ : ∃ b, ax = some ⟨b, 0, none⟩ := by
            rcases e2.2 with ⟨e, e0⟩ | ⟨b, cp, cur, e, _⟩
            · omega
            · simp only [Value.slice.injEq] at e; exact ⟨b, e.1⟩
          obtain ⟨z1, z2, z3, z4, z5⟩ := e2.at
          have zc := z4 j c'[j] (List.getElem?_eq_getElem hjl)
          have zf := z5 j hjl
          obtain ⟨cur, hcur⟩ : ∃ cur, wr.heap[b]? = some (Obj.cells cur 3 (0, 0)) := by
            rcases e2.2 with ⟨e, _⟩ | ⟨b', cp, cur, e, _, hc, _⟩
            · cases e
            · simp only [Value.slice.injEq, Option.some.injEq, Addr.mk.injEq] at e
              obtain ⟨⟨rfl, _⟩, _⟩ := e
              exact ⟨cur, hc⟩
          have hne : g ≠ b := fun e => by
            obtain ⟨ys, _, hy, _⟩ := G.out.1.l
            obtain ⟨_, cur2, h2⟩ := hy.block (k := g) rfl
            rw [e, hcur] at h2
            simp at h2
          have hj1 : (j : Int) < (c'.length : Int) := by omega
          have hj0 : (0 : Int) ≤ (j : Int) := by omega
          have E2 := mkHid e2
          have HCU := mkHid hcur
          have HNE := mkHid hne
          have HZ1 := mkHid z1
          clear z4 z5 e2 hcur hne z1
          go_wp2
          go_roundw
          case rel =>
            refine ⟨j + 1, by omega, by go_num, mkHid ⟨G.out.1.poke HZ1.out HCU.out, ?_, c'.set j 77, by simp, ?_⟩⟩
            · rw [World.cell?_of_block (a := ⟨g, k, none⟩) (Below.heap_setCell _ _ _ _ HNE.out)]; exact G.out.2.1
            · have := E2.out.set j 77
              rwa [List.length_set] at this
          case measure => simp [intOf]; omega
        · have hj1 : ¬ (j : Int) < (mc : Int) := by omega
          obtain ⟨ys, y1, y2, y3⟩ := G.out.1.l
          have y2' := y2
          rw [← y1] at y2'
          obtain ⟨q1, q2, q3, q4, q5⟩ := y2'.at
          have fz := q4 k
          clear y1 y2 y3 y2' q1 q2 q3 q4 q5
          go_wp2
          go_roundw
          case rel => exact ⟨k + 1, by omega, by go_num, mkHid G.out.1.drop⟩
          case measure => simp [intOf]; omega
    · have hk1 : ¬ (k : Int) < (m : Int) := by omega
      go_wp2
      go_end0
      exact ⟨rfl, H.out.b⟩
end Go.Proofs.Ytalpbpcanebbbaa
