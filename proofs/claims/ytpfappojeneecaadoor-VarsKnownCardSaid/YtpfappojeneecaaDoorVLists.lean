/- VarsLists: Len, List and First return what the chapter specifies. -/
import Derived.Test.YtpfappojeneecaaDoorVListW
import Derived.Test.YtpfappojeneecaaDoorVMakes
namespace Go.Proofs.YtpfappojeneecaaDoor
open Go.RowKit VM

theorem lst_card (s : BitVec 128) : (lst s 128).length = card s := by
  unfold lst card
  rw [List.length_map, ← List.countP_eq_length_filter]
  refine List.countP_congr fun i hi' => ?_
  have h : i < 128 := by simpa using hi'
  have e : ((i : Int) + 1 - 1).toNat = i := by omega
  rw [has_bit _ _ (by omega), e]
theorem lst_none {s : BitVec 128} (h : lo s = 0#64) (k : hi s = 0#64) : lst s 128 = [] := by
  have e : s = 0#128 := ext_lohi (h.trans lo_zero.symm) (k.trans hi_zero.symm)
  have := lst_skip s 0 128 (fun j _ _ => by rw [e]; exact has_empty _)
  exact (show lst s 128 = lst s 0 by simpa using this).trans (lst_zero s)
theorem lst_first (s : BitVec 128) : (lst s 128 = [] ∧ firstV s = 0) ∨ ∃ t, lst s 128 = firstV s :: t := by
  unfold firstV
  by_cases h0 : lo s ≠ 0#64
  · rw [if_pos h0]
    right
    obtain ⟨e, hl⟩ := each_step (s := s) (i := 0) (by omega) (From.start (word s 0)) h0
    have hp := lst_prefix s (64 * 0 + low (word s 0) + 1) (128 - (64 * 0 + low (word s 0) + 1))
    rw [show 64 * 0 + low (word s 0) + 1 + (128 - (64 * 0 + low (word s 0) + 1)) = 128 by omega, e] at hp
    obtain ⟨t, ht⟩ := hp
    refine ⟨t, ?_⟩
    rw [← ht]
    show lst s 0 ++ [((0 : Nat) : Int) * 64 + (low (lo s) : Nat) + 1] ++ t = _
    rw [lst_zero]
    simp
  · rw [if_neg h0]
    have h0' : lo s = 0#64 := Classical.byContradiction h0
    by_cases h1 : hi s ≠ 0#64
    · rw [if_pos h1]
      right
      obtain ⟨e, hl⟩ := each_step (s := s) (i := 1) (by omega) (From.start (word s 1)) h1
      have e0 : lst s (64 * 1 + 0) = [] := by
        have := each_end (s := s) (i := 0) (p := 0) (by omega) (by omega) (by
          have e : word s 0 = 0#64 := h0'
          rw [e]; exact From.start _)
        exact this.symm.trans (lst_zero s)
      have hp := lst_prefix s (64 * 1 + low (word s 1) + 1) (128 - (64 * 1 + low (word s 1) + 1))
      rw [show 64 * 1 + low (word s 1) + 1 + (128 - (64 * 1 + low (word s 1) + 1)) = 128 by omega, e, e0] at hp
      obtain ⟨t, ht⟩ := hp
      refine ⟨t, ?_⟩
      rw [← ht]
      show [] ++ [((1 : Nat) : Int) * 64 + (low (hi s) : Nat) + 1] ++ t = _
      simp
    · rw [if_neg h1]
      exact .inl ⟨lst_none h0' (Classical.byContradiction h1), rfl⟩

set_option maxRecDepth 100000 in
set_option maxHeartbeats 4000000 in
theorem rlen_any (s : BitVec 128) (w : World) (ht : Tab w) :
    Calls Tryd.prog 34 #[sv s] w fun e w' => e = .returned (.int .i64 (card s : Nat)) ∧ Below w.heap.size w w' := by
  have CL := mkHid (fun W hT => rlist_any s W hT)
  have HT := mkHid ((On.nil ht).box (wd (lo s)) (wd (hi s)) 26 w.heap.size rfl)
  have HC := mkHid (lst_card s)
  clear ht
  unfold sv at *
  generalize wd (lo s) = a0 at *
  generalize wd (hi s) = a1 at *
  go_enter Tryd.func34, Tryd.ntmps34
  go_wp2_with (go_at_call 36; refine (CL.out _ HT.out.tab).mono ?_; rintro e w2 ⟨v, rfl, hv⟩; have hO := HT.out.next hv.out.2.1; obtain ⟨ao, cap, rfl⟩ := hv.out.1.ints.form; clear hv)
  go_ret
  exact ⟨by rw [HC.out]; rfl, hO.below⟩

set_option maxRecDepth 100000 in
set_option maxHeartbeats 4000000 in
theorem rfirst_any (s : BitVec 128) (w : World) (ht : Tab w) :
    Calls Tryd.prog 38 #[sv s] w fun e w' => e = .returned (.int .i64 (firstV s)) ∧ Below w.heap.size w w' := by
  have CL := mkHid (fun W hT => rlist_any s W hT)
  have HT := mkHid ((On.nil ht).box (wd (lo s)) (wd (hi s)) 26 w.heap.size rfl)
  have HF := lst_first s
  clear ht
  unfold sv at *
  generalize wd (lo s) = a0 at *
  generalize wd (hi s) = a1 at *
  rcases HF with ⟨h1, h2⟩ | ⟨t, h1⟩
  · rw [h2]
    rw [h1] at CL
    clear h1 h2
    go_enter Tryd.func38, Tryd.ntmps38
    go_wp2_with (go_at_call 36; refine (CL.out _ HT.out.tab).mono ?_; rintro e w2 ⟨v, rfl, hv⟩; have hO := HT.out.next hv.out.2.1; obtain ⟨ao, cap, rfl⟩ := hv.out.1.ints.form; clear hv)
    go_ret
    exact ⟨rfl, hO.below⟩
  · rw [h1] at CL
    clear h1
    generalize firstV s = x at *
    go_enter Tryd.func38, Tryd.ntmps38
    go_wp2_with (go_at_call 36; refine (CL.out _ HT.out.tab).mono ?_; rintro e w2 ⟨v, rfl, hv⟩; have hO := HT.out.next hv.out.2.1; have hI := hv.out.1.ints; clear hv; obtain ⟨b, off, cap, rfl, hc0⟩ := (hI.resolve_left (fun h => by cases h.1)); have hc := hc0 0 x rfl; rw [Nat.add_zero] at hc; clear hI hc0; generalize hml : (x :: t).length = m; have hm1 : (0 : Int) < (m : Int) := (by rw [← hml, List.length_cons]; omega); have hm2 : 0 < m := (by omega); have hm3 : ((m : Int) == 0) = false := (by rw [beq_eq_false_iff_ne]; omega); clear hml)
    go_ret
    exact ⟨rfl, hO.below⟩

set_option maxRecDepth 100000 in
set_option maxHeartbeats 8000000 in
theorem lists_any (s : BitVec 128) (w : World) (ht : Tab w) :
    Calls Tryd.prog 6 #[sv s] w fun e w' => e = .returned (.bool true) ∧ Below w.heap.size w w' := by
  have hT := ((On.nil ht).box (wd (lo s)) (wd (hi s)) 26 (w.heap.size) rfl)
  clear ht
  have CV := mkHid (fun W hT => listV_any s W hT)
  have CR := mkHid (fun W hT => rlist_any s W hT)
  have C1 := mkHid (fun W => len_any s W)
  have C2 := mkHid (fun W hT => rlen_any s W hT)
  have C3 := mkHid (fun W hT => first_any s W hT)
  have C4 := mkHid (fun W hT => rfirst_any s W hT)
  have HLEN := mkHid (lst_length s 128)
  unfold sv at *
  generalize lst s 128 = l at *
  generalize card s = c at *
  generalize firstV s = f at *
  generalize wd (lo s) = s0 at *
  generalize wd (hi s) = s1 at *
  obtain ⟨p00, p01, -, -⟩ := hT.h1
  go_enter Tryd.func6, Tryd.ntmps6
  go_wp2
  have hs0 := hT.drew
  go_region_held3 (fun W => On w W [(w.heap.size, s0, s1)] ∧ W.cell? ⟨w.heap.size, 0, none⟩ = some (.int .u64 s0) ∧ W.cell? ⟨w.heap.size, 1, none⟩ = some (.int .u64 s1))
    (first
      | (with_reducible exact ⟨hS.1.next hw, cell_grows hw hS.2.1, cell_grows hw hS.2.2⟩)
      | exact ⟨hs0, p00, p01⟩)
    (first
      | (go_at_call 33; have hS : On w _ _ ∧ _ := (by assumption); ((with_reducible refine (C1.out _).mono ?_); rintro e w6 ⟨rfl, hw⟩))
      | (go_at_call 34; have hS : On w _ _ ∧ _ := (by assumption); ((with_reducible refine (C2.out _ hS.1.tab).mono ?_); rintro e w6 ⟨rfl, hw⟩))
      | (go_at_call 35; have hS : On w _ _ ∧ _ := (by assumption); ((with_reducible refine (CV.out _ hS.1.tab).mono ?_); rintro e w6 ⟨v1, rfl, hv⟩; have hw := hv.out.2; have HI1 := mkHid hv.out.1.ints))
      | (go_at_call 36; have hS : On w _ _ ∧ _ := (by assumption); ((with_reducible refine (CR.out _ hS.1.tab).mono ?_); rintro e w7 ⟨v2, rfl, hv⟩; have hw := hv.out.2.1; have HI2 := mkHid hv.out.1.ints; have HI3 := mkHid (HI1.out.next hw)))
      | (go_at_call 16; have hS : On w _ _ ∧ _ := (by assumption); ((with_reducible refine (same_any HI3.out HI2.out (by have := HLEN.out; omega)).mono ?_); rintro e w6 ⟨rfl, hw⟩))
      | (go_at_call 37; have hS : On w _ _ ∧ _ := (by assumption); ((with_reducible refine (C3.out _ hS.1.tab).mono ?_); rintro e w6 ⟨rfl, hw⟩))
      | (go_at_call 38; have hS : On w _ _ ∧ _ := (by assumption); ((with_reducible refine (C4.out _ hS.1.tab).mono ?_); rintro e w6 ⟨rfl, hw⟩))
      | (go_at_call 13; have hS : On w _ _ ∧ _ := (by assumption); ((with_reducible refine (works_any _ hS.1.tab).mono ?_); rintro e w6 ⟨rfl, hw⟩)))
  have hT' : On w _ _ ∧ _ := (by assumption)
  have HB := mkHid hT'.1.below
  clear hT'
  go_wp2
  go_ret
  exact ⟨rfl, HB.out⟩
end Go.Proofs.YtpfappojeneecaaDoor
