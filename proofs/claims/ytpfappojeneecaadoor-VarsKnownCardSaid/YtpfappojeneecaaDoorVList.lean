/- The specification's List. -/
import Derived.Test.YtpfappojeneecaaDoorVRef3
import Derived.Laws.AppendOwn
namespace Go.Proofs.YtpfappojeneecaaDoor
open Go.RowKit VM

/-- The variables of s from 1 to k, ascending. -/
def lst (s : BitVec 128) (k : Nat) : List Int := ((List.range k).filter fun i : Nat => has s ((i : Int) + 1)).map fun i : Nat => (i : Int) + 1
theorem lst_zero (s : BitVec 128) : lst s 0 = [] := rfl
theorem lst_yes (s : BitVec 128) (k : Nat) (h : has s ((k : Int) + 1) = true) : lst s (k + 1) = lst s k ++ [(k : Int) + 1] := by
  simp only [lst, List.range_succ, List.filter_append, List.map_append]
  simp [h]
theorem lst_no (s : BitVec 128) (k : Nat) (h : has s ((k : Int) + 1) = false) : lst s (k + 1) = lst s k := by
  simp only [lst, List.range_succ, List.filter_append, List.map_append]
  simp [h]
theorem lst_length (s : BitVec 128) (k : Nat) : (lst s k).length ≤ k := by
  unfold lst
  rw [List.length_map]
  exact Nat.le_trans (List.length_filter_le _ _) (by simp)
theorem mem_lst (s : BitVec 128) (k : Nat) (v : Int) : v ∈ lst s k ↔ 1 ≤ v ∧ v ≤ k ∧ has s v = true := by
  unfold lst
  simp only [List.mem_map, List.mem_filter, List.mem_range]
  constructor
  · rintro ⟨i, ⟨h1, h2⟩, rfl⟩
    exact ⟨by omega, by omega, h2⟩
  · rintro ⟨h1, h2, h3⟩
    refine ⟨(v - 1).toNat, ⟨by omega, ?_⟩, by omega⟩
    rw [show (((v - 1).toNat : Nat) : Int) + 1 = v by omega]; exact h3

/-- A slice of the call's own that holds these numbers. -/
def Own (w : World) (base : Nat) (v : Value) (l : List Int) : Prop := w.ownsRow base 3 1 v l.length (l.map (Value.int .i64))
theorem Own.nil (w : World) (base : Nat) : Own w base (.slice none 0 0) [] := World.ownsRow_nil w base _ 1
theorem Own.below {w w' : World} {base : Nat} {v : Value} {l : List Int} (h : Own w base v l) (hb : Below w.heap.size w w') : Own w' base v l := by
  refine ⟨h.1, h.2.imp id ?_⟩
  rintro ⟨g, cap, cur, hv, hg, hc, h1, h2, h3, h4⟩
  exact ⟨g, cap, cur, hv, hg, by rw [hb.block g (Array.getElem?_eq_some_iff.1 hc).1]; exact hc, h1, h2, h3, h4⟩
theorem Own.ints {w : World} {base : Nat} {v : Value} {l : List Int} (h : Own w base v l) : Ints w v l := by
  obtain ⟨_, h⟩ := h
  rcases h with ⟨rfl, h0⟩ | ⟨g, cap, cur, rfl, hg, hc, h1, h2, h3, h4⟩
  · exact .inl ⟨List.eq_nil_of_length_eq_zero h0, none, 0, rfl⟩
  · refine .inr ⟨g, 0, cap, rfl, fun j x hj => ?_⟩
    have hj' : (l.map (Value.int .i64))[j]? = some (.int .i64 x) := by rw [List.getElem?_map, hj]; rfl
    rw [← h4, List.getElem?_take] at hj'
    split at hj'
    · simp only [World.cell?, hc, Nat.zero_add]
      rw [Array.getElem?_toList] at hj'
      simpa using hj'
    · cases hj'
theorem infoI : (Tryd.prog.info? 3).map (fun i => (i.zero, i.size, i.bytes)) = some (some (.int .i64 0), 1, 8) := by kernel_rfl

theorem new_list (w : World) (arr : Array Value) (e : TypeId) : ∀ j u, arr.toList[j]? = some u → (w.alloc (.cells arr e)).cell? ((⟨w.heap.size, 0, none⟩ : Addr).add j) = some u := by
  intro j u hu
  have h : (w.alloc (.cells arr e)).heap[w.heap.size]? = some (.cells arr e (0, 0)) := heap_alloc_new w _
  have ha : (⟨w.heap.size, 0, none⟩ : Addr).add j = ⟨w.heap.size, j, none⟩ := by unfold Addr.add; split <;> simp_all
  rw [ha]
  simp only [World.cell?, h]
  simpa using hu
/-- Behind an append to a slice of the call's own: nothing else has changed. -/
theorem On.grown {w W W' : World} {n : Nat} {x y : Int} {row : Option Nat} (h : On w W [(n, x, y)]) (hg : W.grownBy W' row) (hr : ∀ k, row = some k → n + 1 ≤ k) (hn : n = w.heap.size) (hg64 : 0 < w.heap.size) : On w W' [(n, x, y)] := by
  have hs := h.below.size
  have hlt := h.h1.lt
  have hB : Below (w.heap.size + 1) W W' := (Below.refl _ _).grown hg (by omega) (fun k hk => by have := hr k hk; omega)
  refine ⟨h.below.trans (hB.mono (Nat.le_succ _)), fun j hj => ?_, fun z hz => ?_⟩
  · rw [hB.cell (p := ⟨_, j, none⟩) (by show 0 < _; omega)]; exact h.tab j hj
  · simp only [List.mem_cons, List.not_mem_nil, or_false] at hz
    subst hz
    exact h.h1.same (hB.block n (by omega))

set_option maxRecDepth 100000 in
set_option maxHeartbeats 4000000 in
theorem rlist_any (s : BitVec 128) (w : World) (ht : Tab w) :
    Calls Tryd.prog 36 #[sv s] w fun e w' => ∃ v, e = .returned v ∧ Hid (Own w' (w.heap.size + 1) v (lst s 128) ∧ Below w.heap.size w w' ∧ w.heap.size < w'.heap.size) := by
  have CA := mkHid (fun v W => rhas_any s v W)
  have HT := mkHid ((On.nil ht).box (wd (lo s)) (wd (hi s)) 26 w.heap.size rfl)
  obtain ⟨i0, hi, hz0, hz1, hz2⟩ := info_parts infoI
  have hi' := Lib.hid hi; have hz0' := Lib.hid hz0; have hz1' := Lib.hid hz1; have hz2' := Lib.hid hz2; clear hi hz0 hz1 hz2
  have HG64 := mkHid ht.lt
  clear ht
  unfold sv at *
  generalize wd (lo s) = a0 at *
  generalize wd (VM.hi s) = a1 at *
  go_enter Tryd.func36, Tryd.ntmps36
  go_wp2
  go_loopw [3, 4] (fun ov iv wr => ∃ k : Nat, k ≤ 128 ∧ iv = .int .i64 ((k : Int) + 1) ∧ Hid (Own wr (w.heap.size + 1) ov (lst s k) ∧ On w wr [(w.heap.size, a0, a1)])) (fun _ iv _ => 129 - (intOf iv).toNat)
  case atStart => exact ⟨0, by omega, rfl, mkHid ⟨Own.nil _ _, HT.out⟩⟩
  case round =>
    obtain ⟨k, hk1, rfl, H⟩ := hrel
    clear HT
    by_cases hlt : k < 128
    · have hk3 : (k : Int) + 1 ≤ 128 := by omega
      have hO := H.out.2
      have HW := mkHid H.out.1
      obtain ⟨p1, p2, -, -⟩ := hO.h1
      have CAk := mkHid (fun W => CA.out ((k : Int) + 1) W)
      clear H CA
      cases hka : has s ((k : Int) + 1)
      · rw [hka] at CAk
        have HL := mkHid (lst_no s k hka)
        clear hka
        go_wp2_with (go_at_call 20; refine (CAk.out _).mono ?_; rintro e w6 ⟨rfl, hw⟩; have hO' := hO.next hw; have HW' := mkHid (HW.out.below hw); clear hw)
        go_roundw
        case rel => exact ⟨k + 1, by omega, by go_num, mkHid ⟨by rw [HL.out]; exact HW'.out, hO'⟩⟩
        case measure => simp [intOf]; omega
      · rw [hka] at CAk
        have HL := mkHid (lst_yes s k hka)
        have hlen : Hid ((lst s k).length ≤ 128) := mkHid (Nat.le_trans (lst_length s k) hk1)
        clear hka
        go_wp2_with (first
          | (go_at_call 20; refine (CAk.out _).mono ?_; rintro e w6 ⟨rfl, hw⟩; have hO' := hO.next hw; have HW' := mkHid (HW.out.below hw); clear hw)
          | (at_builtin; refine wpList_append_own _ rfl _ _ 22 rfl (w.heap.size + 1) 3 i0 (.int .i64 0) 1 8 Tryd.underlying22 hi'.out hz0'.out hz1'.out hz2'.out rfl (by decide) _ _ _ rfl (World.ownsRow.alloc HW'.out _) ⟨w6.heap.size, 0, none⟩ 1 1 [.int .i64 ((k : Int) + 1)] rfl rfl ?c1 ?c2 ?c3 ?c4 ?c5 ?_))
        case c1 => exact new_list w6 #[.int .i64 ((k : Int) + 1)] 3
        case c2 => intro u hu; simp only [List.mem_cons, List.not_mem_nil, or_false] at hu; subst hu; rfl
        case c3 => have := hlen.out; unfold maxLen; omega
        case c4 => have := hlen.out; omega
        case c5 => have := hO'.below.size; have := hO'.h1.lt; simp; omega
        intro v' w7 hown' hgrow _
        have HN := mkHid hown'
        have HG := mkHid hgrow
        clear hown' hgrow
        have hO7 : On w w7 [(w.heap.size, a0, a1)] := hO'.alloc _ |>.grown HG.out (fun k hk => (World.ownsRow.lt HW'.out k hk).1) rfl HG64.out
        have hB7 : Below w.heap.size w w7 := hO7.below
        go_wp2
        go_roundw
        case rel => exact ⟨k + 1, by omega, by go_num, mkHid ⟨by unfold Own; rw [HL.out, List.length_append, List.map_append]; exact HN.out, hO7⟩⟩
        case measure => simp [intOf]; omega
    · have e : k = 128 := by omega
      subst e
      have HW := mkHid H.out.1
      have HB := mkHid H.out.2.below
      have HS := mkHid H.out.2.h1.lt
      clear H
      go_wp2
      go_ret
      exact ⟨_, rfl, mkHid ⟨HW.out, HB.out, HS.out⟩⟩
end Go.Proofs.YtpfappojeneecaaDoor
