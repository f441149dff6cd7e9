/- The law TheoryEvals. -/
import Derived.Test.YtnjfomabmfoopaaTLa
namespace Go.Proofs.Ytnjfomabmfoopaa
open Go.RowKit VM LM TM

set_option maxRecDepth 100000 in
set_option maxHeartbeats 8000000 in
theorem evals_law (n : Int) (v : Value) (L : List (List Int)) (s : BitVec 128) (w : World) (_ : In64 n) (h : Th w v L) :
    Calls Try.prog 5 #[.agg #[.int .i64 n, v], sv s] w fun e w' => e = .returned (.bool true) ∧ Below w.heap.size w w' := by
  have CL := mkHid (fun W (hb : Below w.heap.size w W) => light_any n v L W (h.next hb))
  have CK := mkHid (fun W (hb : Below w.heap.size w W) => eval_any n v L s W (h.next hb))
  have CR := mkHid (fun W (hb : Below w.heap.size w W) => reval_any n v L s W (h.next hb))
  have CW := mkHid (fun W => works_any W)
  have H0 : Hid (ES w ((w.alloc (.cells #[.int .i64 n, v] 24)).alloc (.cells #[.int .u64 (wd (lo s)), .int .u64 (wd (hi s))] 36)) n v (wd (lo s)) (wd (hi s))) := mkHid
    ⟨(TB.new w w.heap.size n v rfl).grows (bal (Below.refl _ _) _), AtS.new _ _ _ _ _ (by simp), bal (bal (Below.refl _ w) _) _⟩
  unfold sv at *
  generalize wd (lo s) = al at *
  generalize wd (hi s) = ah at *
  obtain ⟨a0, a1⟩ := H0.out.t.at
  obtain ⟨ao, cap, rfl⟩ := h.cls.form
  clear h
  generalize evT n L s = q at *
  cases hl : lightB L
  · simp only [hl] at CL
    go_enter Try.func5, Try.ntmps5
    go_wp2_with (first
      | (go_at_call 15; refine (CL.out _ H0.out.b).mono ?_; rintro e w1 ⟨rfl, hb⟩; have H1 := mkHid (H0.out.next hb); clear hb)
      | (go_at_call 16; refine (CW.out _).mono ?_; rintro e w2 ⟨rfl, hb⟩; have H2 := mkHid (H1.out.next hb); clear hb))
    go_ret
    exact ⟨rfl, H2.out.b⟩
  · simp only [hl] at CL
    cases q
    all_goals
      go_enter Try.func5, Try.ntmps5
      go_wp2_with (first
        | (go_at_call 15; refine (CL.out _ H0.out.b).mono ?_; rintro e w1 ⟨rfl, hb⟩; have H1 := mkHid (H0.out.next hb); clear hb))
      clear a0 a1
      obtain ⟨a0, a1⟩ := H1.out.t.at
      obtain ⟨s0, s1, -, -⟩ := H1.out.s
      have hs0 := H1.out.drew
      go_region_held3 (fun W => ES w W n (.slice ao L.length cap) al ah ∧ W.cell? ⟨w.heap.size, 0, none⟩ = some (.int .i64 n) ∧ W.cell? ⟨w.heap.size, 1, none⟩ = some (.slice ao L.length cap) ∧ W.cell? ⟨w.heap.size + 1, 0, none⟩ = some (.int .u64 al) ∧ W.cell? ⟨w.heap.size + 1, 1, none⟩ = some (.int .u64 ah))
        (first
          | (with_reducible exact ⟨hS.1.next hw, cell_grows hw hS.2.1, cell_grows hw hS.2.2.1, cell_grows hw hS.2.2.2.1, cell_grows hw hS.2.2.2.2⟩)
          | exact ⟨hs0, a0, a1, s0, s1⟩)
        (first
          | (go_at_call 24; have hS : ES w _ _ _ _ _ ∧ _ := (by assumption); ((with_reducible refine (CK.out _ hS.1.b).mono ?_); rintro e w6 ⟨rfl, hw⟩))
          | (go_at_call 25; have hS : ES w _ _ _ _ _ ∧ _ := (by assumption); ((with_reducible refine (CR.out _ hS.1.b).mono ?_); rintro e w6 ⟨rfl, hw⟩))
          | (go_at_call 16; have hS : ES w _ _ _ _ _ ∧ _ := (by assumption); ((with_reducible refine (CW.out _).mono ?_); rintro e w6 ⟨rfl, hw⟩)))
      all_goals
        have hT' : ES w _ _ _ _ _ ∧ _ := (by assumption)
        go_wp2
        go_ret
        exact ⟨by simp, hT'.1.b⟩
end Go.Proofs.Ytnjfomabmfoopaa
