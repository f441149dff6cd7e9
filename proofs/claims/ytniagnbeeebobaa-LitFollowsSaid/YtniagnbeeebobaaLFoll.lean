/- LitFollows: where two clauses are true, so is their resolvent; where a clause is true, so is each one that it subsumes. -/
import Derived.Test.YtniagnbeeebobaaLX
namespace Go.Proofs.Ytniagnbeeebobaa
open Go.RowKit VM LM

theorem rsL_len (c d : List Int) (v : Int) : (rsL c d v).length ≤ 1000000 := by
  unfold rsL
  split
  · have := order_length (rest c v ++ rest d (-v)); omega
  · simp
theorem rsL_in (c d : List Int) (v : Int) : ∀ x ∈ rsL c d v, In64 x := by
  intro x hx
  unfold rsL at hx
  split at hx
  · have := ((mem_order _ x).1 hx).2
    unfold In64
    rcases varL_pos this with k | k <;> omega
  · cases hx

set_option maxRecDepth 100000 in
set_option maxHeartbeats 8000000 in
theorem litFollows_any (a : BitVec 128) (cv : Value) (c : List Int) (dv : Value) (d : List Int) (v : Int) (w : World) (hc : Ints w cv c) (hlc : c.length ≤ 9223372036854775807) (hc64 : ∀ x ∈ c, In64 x) (hd : Ints w dv d) (hld : d.length ≤ 9223372036854775807) (hd64 : ∀ x ∈ d, In64 x) (_ : In64 v) :
    Calls Try.prog 10 #[sv a, cv, dv, .int .i64 v] w fun e w' => e = .returned (.bool true) ∧ Below w.heap.size w w' := by
  have CW := mkHid works_any
  obtain ⟨ao, cap, rfl⟩ := hc.form
  obtain ⟨ao2, cap2, rfl⟩ := hd.form
  by_cases h1 : c.length ≤ 500
  · have g1 : ¬ (500 : Int) < (c.length : Int) := by omega
    by_cases h2 : d.length ≤ 500
    · have g2 : ¬ (500 : Int) < (d.length : Int) := by omega
      have HA := mkHid (AtS.new w w.heap.size (wd (lo a)) (wd (hi a)) 36 rfl)
      have HB := mkHid (bal (Below.refl _ w) (.cells #[.int .u64 (wd (lo a)), .int .u64 (wd (hi a))] 36))
      have C1 := mkHid (fun W (h : Below w.heap.size w W) => resolve_any _ _ c d v W (hc.next h) (hd.next h) (by omega) (by omega) hc64 hd64)
      have C2 := mkHid (fun W (h : Below w.heap.size w W) => anyL_any a _ c W (hc.next h) (by omega) hc64)
      have C3 := mkHid (fun W (h : Below w.heap.size w W) => anyL_any a _ d W (hd.next h) (by omega) hd64)
      have C4 := mkHid (fun W u (h : Ints W u (rsL c d v)) => anyL_any a u _ W h (rsL_len c d v) (rsL_in c d v))
      have C5 := mkHid (fun W (h : Below w.heap.size w W) => subs_any _ _ c d W (hc.next h) (hd.next h) (by omega) (by omega) hc64 hd64)
      have hR := resolve_follows a c d v
      have hS := subs_follows a c d
      clear hc hd hc64 hd64 h1 h2
      unfold sv at *
      generalize wd (lo a) = al at *
      generalize wd (hi a) = ah at *
      generalize anyL a c = ac at *
      generalize anyL a d = ad at *
      generalize anyL a (rsL c d v) = ar at *
      generalize rsB c d v = ok at *
      generalize subsL c d = sb at *
      generalize rsL c d v = r at *
      obtain ⟨p1, p2, -, -⟩ := HA.out
      have HRR := mkHid hR
      have HSS := mkHid hS
      clear hR hS
      cases ok <;> cases ac <;> cases ad <;> cases ar <;> cases sb <;> first | (exfalso; have := HRR.out rfl rfl rfl; cases this; done) | (exfalso; have := HSS.out rfl rfl; cases this; done) | skip
      all_goals
        go_enter Try.func10, Try.ntmps10
        go_wp2_with (first
          | (go_at_call 29; refine (C1.out _ HB.out).mono ?_; rintro e w2 ⟨u, rfl, ho, hb⟩; have HO := mkHid ho.out; have p1 := cell_grows hb p1; have p2 := cell_grows hb p2; have HB := mkHid (bnx HB.out hb); clear hb ho)
          | (go_at_call 25; with_reducible refine (C2.out _ HB.out).mono ?_; rintro e w3 ⟨rfl, hb⟩; have HO := mkHid (HO.out.below hb); have p1 := cell_grows hb p1; have p2 := cell_grows hb p2; have HB := mkHid (bnx HB.out hb); clear hb)
          | (go_at_call 25; with_reducible refine (C3.out _ HB.out).mono ?_; rintro e w3 ⟨rfl, hb⟩; have HO := mkHid (HO.out.below hb); have p1 := cell_grows hb p1; have p2 := cell_grows hb p2; have HB := mkHid (bnx HB.out hb); clear hb)
          | (go_at_call 25; with_reducible refine (C4.out _ _ HO.out.ints).mono ?_; rintro e w3 ⟨rfl, hb⟩; have HO := mkHid (HO.out.below hb); have p1 := cell_grows hb p1; have p2 := cell_grows hb p2; have HB := mkHid (bnx HB.out hb); clear hb)
          | (go_at_call 31; with_reducible refine (C5.out _ HB.out).mono ?_; rintro e w3 ⟨rfl, hb⟩; have HO := mkHid (HO.out.below hb); have p1 := cell_grows hb p1; have p2 := cell_grows hb p2; have HB := mkHid (bnx HB.out hb); clear hb)
          | (go_at_call 16; refine (CW.out _).mono ?_; rintro e w4 ⟨rfl, hb⟩; have HB := mkHid (bnx HB.out hb); clear hb))
        go_ret
        exact ⟨rfl, HB.out⟩
    · have g2 : (500 : Int) < (d.length : Int) := by omega
      clear hc hd hc64 hd64
      unfold sv
      go_enter Try.func10, Try.ntmps10
      go_wp2_with (go_at_call 16; refine (CW.out _).mono ?_; rintro e w4 ⟨rfl, hb⟩)
      go_ret
      exact ⟨rfl, bnx (bal (Below.refl _ _) _) hb⟩
  · have g1 : (500 : Int) < (c.length : Int) := by omega
    clear hc hd hc64 hd64
    unfold sv
    go_enter Try.func10, Try.ntmps10
    go_wp2_with (go_at_call 16; refine (CW.out _).mono ?_; rintro e w4 ⟨rfl, hb⟩)
    go_ret
    exact ⟨rfl, bnx (bal (Below.refl _ _) _) hb⟩
end Go.Proofs.Ytniagnbeeebobaa
