/- LitResolves: Resolve answers what the specification of the chapter answers, and leaves the clauses as they are. -/
import Derived.Test.YtniagnbeeebobaaLX
namespace Go.Proofs.Ytniagnbeeebobaa
open Go.RowKit VM LM

theorem same_true (v u : Value) (l : List Int) (w : World) (hv : Ints w v l) (hu : Ints w u l) (hlen : l.length ≤ 1000000) :
    Calls Try.prog 22 #[v, u] w fun e w' => e = .returned (.bool true) ∧ Below w.heap.size w w' := by
  have h := rsame_any v u l l w hv hu hlen hlen
  rwa [decide_eq_true rfl] at h
theorem rsL_length (c d : List Int) (v : Int) : (rsL c d v).length ≤ 1000000 := by
  unfold rsL
  split
  · have := order_length (rest c v ++ rest d (-v)); omega
  · simp

set_option maxRecDepth 100000 in
set_option maxHeartbeats 4000000 in
theorem litResolves_any (cv : Value) (c : List Int) (dv : Value) (d : List Int) (v : Int) (w : World) (hc : Ints w cv c) (hlc : c.length ≤ 9223372036854775807) (hc64 : ∀ x ∈ c, In64 x) (hd : Ints w dv d) (hld : d.length ≤ 9223372036854775807) (hd64 : ∀ x ∈ d, In64 x) (_ : In64 v) :
    Calls Try.prog 6 #[cv, dv, .int .i64 v] w fun e w' => e = .returned (.bool true) ∧ Below w.heap.size w w' := by
  have CW := mkHid works_any
  obtain ⟨ao, cap, rfl⟩ := hc.form
  obtain ⟨ao2, cap2, rfl⟩ := hd.form
  by_cases h1 : c.length ≤ 500
  · have g1 : ¬ (500 : Int) < (c.length : Int) := by omega
    by_cases h2 : d.length ≤ 500
    · have g2 : ¬ (500 : Int) < (d.length : Int) := by omega
      have HC := mkHid hc
      have HD := mkHid hd
      have C1 := mkHid (copied_any _ c w hc (by omega))
      have C2 := mkHid (fun W (h : Below w.heap.size w W) => copied_any _ d W (hd.next h) (by omega))
      have C3 := mkHid (fun W (h : Below w.heap.size w W) => resolve_any _ _ c d v W (hc.next h) (hd.next h) (by omega) (by omega) hc64 hd64)
      have C4 := mkHid (fun W x y (h : Ints W x c) (k : Ints W y d) => rresolve_any x y c d v W h k (by omega) (by omega))
      have S1 := mkHid (fun W x y (h : Ints W x (rsL c d v)) (k : Ints W y (rsL c d v)) => same_true x y _ W h k (rsL_length c d v))
      have S2 := mkHid (fun W y (h : Below w.heap.size w W) (k : Ints W y c) => same_true _ y _ W (hc.next h) k (by omega))
      have S3 := mkHid (fun W y (h : Below w.heap.size w W) (k : Ints W y d) => same_true _ y _ W (hd.next h) k (by omega))
      clear hc hd hc64 hd64 h1 h2
      generalize rsB c d v = b at *
      generalize rsL c d v = r at *
      go_enter Try.func6, Try.ntmps6
      go_wp2_with (first
        | (go_at_call 17; with_reducible refine C1.out.mono ?_; rintro e w1 ⟨u1, rfl, H⟩; have HO1 := mkHid H.out.1; have HB1 := mkHid H.out.2; clear H)
        | (go_at_call 17; with_reducible refine (C2.out _ HB1.out).mono ?_; rintro e w2 ⟨u2, rfl, H⟩; have HO12 := mkHid (HO1.out.below H.out.2); have HO2 := mkHid H.out.1; have HB2 := mkHid (bnx HB1.out H.out.2); clear H)
        | (go_at_call 29; with_reducible refine (C3.out _ HB2.out).mono ?_; rintro e w3 ⟨u3, rfl, ho, hb⟩; have HO13 := mkHid (HO12.out.below hb); have HO23 := mkHid (HO2.out.below hb); have HO3 := mkHid ho.out; have HB3 := mkHid (bnx HB2.out hb); clear ho hb)
        | (go_at_call 30; with_reducible refine (C4.out _ _ _ HO13.out.ints HO23.out.ints).mono ?_; rintro e w4 ⟨u4, rfl, H⟩; have HO14 := mkHid (HO13.out.below H.out.2); have HO24 := mkHid (HO23.out.below H.out.2); have HO34 := mkHid (HO3.out.below H.out.2); have HO4 := mkHid H.out.1; have HB4 := mkHid (bnx HB3.out H.out.2); clear H)
        | (go_at_call 22; with_reducible refine (S1.out _ _ _ HO34.out.ints HO4.out.ints).mono ?_; rintro e w5 ⟨rfl, hb⟩; have HO15 := mkHid (HO14.out.below hb); have HO25 := mkHid (HO24.out.below hb); have HB5 := mkHid (bnx HB4.out hb); clear hb)
        | (go_at_call 22; with_reducible refine (S2.out _ _ HB5.out HO15.out.ints).mono ?_; rintro e w6 ⟨rfl, hb⟩; have HO26 := mkHid (HO25.out.below hb); have HB6 := mkHid (bnx HB5.out hb); clear hb)
        | (go_at_call 22; with_reducible refine (S3.out _ _ HB6.out HO26.out.ints).mono ?_; rintro e w7 ⟨rfl, hb⟩; have HB7 := mkHid (bnx HB6.out hb); clear hb)
        | (go_at_call 16; refine (CW.out _).mono ?_; rintro e w8 ⟨rfl, hb⟩))
      go_ret
      exact ⟨rfl, bnx HB7.out hb⟩
    · have g2 : (500 : Int) < (d.length : Int) := by omega
      clear hc hd hc64 hd64
      go_enter Try.func6, Try.ntmps6
      go_wp2_with (go_at_call 16; refine (CW.out _).mono ?_; rintro e w4 ⟨rfl, hb⟩)
      go_ret
      exact ⟨rfl, hb⟩
  · have g1 : (500 : Int) < (c.length : Int) := by omega
    clear hc hd hc64 hd64
    go_enter Try.func6, Try.ntmps6
    go_wp2_with (go_at_call 16; refine (CW.out _).mono ?_; rintro e w4 ⟨rfl, hb⟩)
    go_ret
    exact ⟨rfl, hb⟩
end Go.Proofs.Ytniagnbeeebobaa
