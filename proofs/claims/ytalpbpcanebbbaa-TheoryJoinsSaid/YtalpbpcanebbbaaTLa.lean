/- The laws TheoryChecks and TheoryEvals; Light. -/
import Derived.Test.YtalpbpcanebbbaaTY
namespace Go.Proofs.Ytalpbpcanebbbaa
open Go.RowKit VM LM TM

def lightB (L : List (List Int)) : Bool := L.all (fun c => decide (c.length ≤ 140)) && decide (L.length ≤ 60)
theorem light_spec {L : List (List Int)} (h : lightB L = true) : L.length ≤ 60 ∧ ∀ c ∈ L, c.length ≤ 140 := by
  unfold lightB at h
  simp only [Bool.and_eq_true, decide_eq_true_eq, List.all_eq_true] at h
  exact ⟨h.2, h.1⟩
set_option maxRecDepth 100000 in
set_option maxHeartbeats 2000000 in
theorem light_any (n : Int) (v : Value) (L : List (List Int)) (w : World) (h : Th w v L) :
    Calls Try.prog 15 #[.agg #[.int .i64 n, v]] w fun e w' => e = .returned (.bool (lightB L)) ∧ Below w.heap.size w w' := by
  have HB := mkHid (bal (Below.refl _ w) (.cells #[.int .i64 n, v] 24))
  have HA := mkHid (AtT.new w w.heap.size n v rfl)
  obtain ⟨ao, cap, rfl, hc⟩ := h.cls
  have HC := mkHid hc
  have HT := mkHid h
  obtain ⟨a0, a1⟩ := HA.out
  have hlen := h.len
  clear h hc
  generalize hres : lightB L = res
  have HRES := mkHid hres
  clear hres
  go_enter Try.func15, Try.ntmps15
  go_wp2
  go_loopw [8] (fun iv wr => ∃ k : Nat, k ≤ L.length ∧ iv = .int .i64 (k : Int) ∧ Hid ((∀ d ∈ L.take k, d.length ≤ 140) ∧ AtT wr w.heap.size n (.slice ao L.length cap) ∧ Below w.heap.size w wr)) (fun iv _ => L.length - (intOf iv).toNat)
  case atStart => exact ⟨0, Nat.zero_le _, rfl, mkHid ⟨take_start, HA.out, HB.out⟩⟩
  case round =>
    obtain ⟨k, hk, rfl, H⟩ := hrel
    clear a0 a1
    obtain ⟨a0, a1⟩ := H.out.2.1
    by_cases hlt : k < L.length
    · obtain ⟨c, hc⟩ : ∃ c, L[k]? = some c := ⟨L[k], List.getElem?_eq_getElem hlt⟩
      obtain ⟨b, off, x, rfl, hx, hi⟩ := HC.out k c hc
      have p1 := cell_grows H.out.2.2 hx
      obtain ⟨ao2, cap2, rfl⟩ := hi.form
      have hk1 : (k : Int) < (L.length : Int) := by omega
      have hk0 : (0 : Int) ≤ (k : Int) := by omega
      have HY := mkHid hc
      clear hc hx hi
      by_cases hb : 140 < c.length
      · have hb2 : (140 : Int) < (c.length : Int) := by omega
        have HF : Hid (res = false) := mkHid (by
          rw [← HRES.out, Bool.eq_false_iff]
          intro hh
          have := (light_spec hh).2 c (List.mem_of_getElem? HY.out)
          omega)
        go_wp2
        go_ret
        exact ⟨by rw [HF.out]; rfl, H.out.2.2⟩
      · have hb2 : ¬ (140 : Int) < (c.length : Int) := by omega
        have HP : Hid (c.length ≤ 140) := mkHid (by omega)
        clear hb
        go_wp2
        go_roundw
        case rel => exact ⟨k + 1, by omega, by go_num, mkHid ⟨take_step H.out.1 HY.out HP.out, H.out.2.1, H.out.2.2⟩⟩
        case measure => simp [intOf]; omega
    · have hk1 : ¬ (k : Int) < (L.length : Int) := by omega
      have HQ := mkHid (take_all H.out.1 (by omega : L.length ≤ k))
      by_cases h60 : L.length ≤ 60
      · have h61 : (L.length : Int) ≤ 60 := by omega
        have HF : Hid (res = true) := mkHid (by
          rw [← HRES.out]; unfold lightB
          rw [List.all_eq_true.2 (fun c hc => decide_eq_true (HQ.out c hc)), decide_eq_true h60]; rfl)
        go_wp2
        go_ret
        exact ⟨by rw [HF.out]; rfl, H.out.2.2⟩
      · have h61 : ¬ (L.length : Int) ≤ 60 := by omega
        have HF : Hid (res = false) := mkHid (by
          rw [← HRES.out]; unfold lightB; rw [decide_eq_false h60, Bool.and_false])
        go_wp2
        go_ret
        exact ⟨by rw [HF.out]; rfl, H.out.2.2⟩
/-- A theory that came in, in its box. -/
structure BT (w W : World) (n : Int) (v : Value) : Prop where
  t : TB W w.heap.size n v
  b : Below w.heap.size w W
theorem BT.next {w W W' : World} {n : Int} {v : Value} (H : BT w W n v) (hb : Below W.heap.size W W') : BT w W' n v := ⟨H.t.grows hb, bnx H.b hb⟩
theorem BT.drew {w W : World} {n : Int} {v : Value} (H : BT w W n v) : BT w W.drew n v := ⟨H.t, H.b.drew⟩
set_option maxRecDepth 100000 in
set_option maxHeartbeats 4000000 in
theorem checks_law (n : Int) (v : Value) (L : List (List Int)) (w : World) (h : Th w v L) :
    Calls Try.prog 3 #[.agg #[.int .i64 n, v]] w fun e w' => e = .returned (.bool true) ∧ Below w.heap.size w w' := by
  have CL := mkHid (fun W (hb : Below w.heap.size w W) => light_any n v L W (h.next hb))
  have CK := mkHid (fun W (hb : Below w.heap.size w W) => check_any n v L W (h.next hb))
  have CR := mkHid (fun W (hb : Below w.heap.size w W) => rcheck_any n v L W (h.next hb))
  have CW := mkHid (fun W => works_any W)
  have H0 : Hid (BT w (w.alloc (.cells #[.int .i64 n, v] 24)) n v) := mkHid ⟨TB.new w _ n v rfl, bal (Below.refl _ w) _⟩
  obtain ⟨a0, a1⟩ := H0.out.t.at
  obtain ⟨ao, cap, rfl⟩ := h.cls.form
  clear h
  generalize ckT n L = q at *
  cases hl : lightB L
  · simp only [hl] at CL
    go_enter Try.func3, Try.ntmps3
    go_wp2_with (first
      | (go_at_call 15; refine (CL.out _ H0.out.b).mono ?_; rintro e w1 ⟨rfl, hb⟩; have H1 := mkHid (H0.out.next hb); clear hb)
      | (go_at_call 16; refine (CW.out _).mono ?_; rintro e w2 ⟨rfl, hb⟩; have H2 := mkHid (H1.out.next hb); clear hb))
    go_ret
    exact ⟨rfl, H2.out.b⟩
  · simp only [hl] at CL
    go_enter Try.func3, Try.ntmps3
    go_wp2_with (first
      | (go_at_call 15; refine (CL.out _ H0.out.b).mono ?_; rintro e w1 ⟨rfl, hb⟩; have H1 := mkHid (H0.out.next hb); clear hb))
    clear a0 a1
    obtain ⟨a0, a1⟩ := H1.out.t.at
    have hs0 := H1.out.drew
    go_region_held3 (fun W => BT w W n (.slice ao L.length cap) ∧ W.cell? ⟨w.heap.size, 0, none⟩ = some (.int .i64 n) ∧ W.cell? ⟨w.heap.size, 1, none⟩ = some (.slice ao L.length cap))
      (first
        | (with_reducible exact ⟨hS.1.next hw, cell_grows hw hS.2.1, cell_grows hw hS.2.2⟩)
        | exact ⟨hs0, a0, a1⟩)
      (first
        | (go_at_call 17; have hS : BT w _ _ _ ∧ _ := (by assumption); ((with_reducible refine (CK.out _ hS.1.b).mono ?_); rintro e w6 ⟨rfl, hw⟩))
        | (go_at_call 18; have hS : BT w _ _ _ ∧ _ := (by assumption); ((with_reducible refine (CR.out _ hS.1.b).mono ?_); rintro e w6 ⟨rfl, hw⟩))
        | (go_at_call 16; have hS : BT w _ _ _ ∧ _ := (by assumption); ((with_reducible refine (CW.out _).mono ?_); rintro e w6 ⟨rfl, hw⟩)))
    all_goals
      have hT' : BT w _ _ _ ∧ _ := (by assumption)
      go_wp2
      go_ret
      exact ⟨by simp, hT'.1.b⟩
theorem checks_lawT (n : Int) (v : Value) (L : List (List Int)) (w : World) (_ : In64 n) (h : Th w v L) :
    Calls Try.prog 3 #[.agg #[.int .i64 n, v]] w fun e w' => e = .returned (.bool true) ∧ Below w.heap.size w w' := checks_law n v L w h
end Go.Proofs.Ytalpbpcanebbbaa
