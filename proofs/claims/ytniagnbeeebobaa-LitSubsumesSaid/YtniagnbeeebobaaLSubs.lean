/- LitSubsumes: Subsumes answers what the specification of the chapter answers. -/
import Derived.Test.YtniagnbeeebobaaLX
namespace Go.Proofs.Ytniagnbeeebobaa
open Go.RowKit VM LM

set_option maxRecDepth 100000 in
set_option maxHeartbeats 4000000 in
theorem litSubs_any (v : Value) (c : List Int) (u : Value) (d : List Int) (w : World) (hv : Ints w v c) (hlc : c.length ≤ 9223372036854775807) (hc64 : ∀ x ∈ c, In64 x) (hu : Ints w u d) (hld : d.length ≤ 9223372036854775807) (hd64 : ∀ x ∈ d, In64 x) :
    Calls Try.prog 7 #[v, u] w fun e w' => e = .returned (.bool true) ∧ Below w.heap.size w w' := by
  have CW := mkHid works_any
  obtain ⟨ao, cap, rfl⟩ := hv.form
  obtain ⟨ao2, cap2, rfl⟩ := hu.form
  by_cases h1 : c.length ≤ 500
  · have g1 : ¬ (500 : Int) < (c.length : Int) := by omega
    by_cases h2 : d.length ≤ 500
    · have g2 : ¬ (500 : Int) < (d.length : Int) := by omega
      have C1 := mkHid (subs_any _ _ c d w hv hu (by omega) (by omega) hc64 hd64)
      have C2 := mkHid (fun W (h : Below w.heap.size w W) => rsubs_any _ _ c d W (hv.next h) (hu.next h) (by omega) (by omega))
      clear hv hu hc64 hd64 h1 h2
      generalize subsL c d = b at *
      go_enter Try.func7, Try.ntmps7
      go_wp2_with (first
        | (go_at_call 31; refine C1.out.mono ?_; rintro e w2 ⟨rfl, hb⟩; have HB := mkHid hb; clear hb)
        | (go_at_call 32; refine (C2.out _ HB.out).mono ?_; rintro e w3 ⟨rfl, rfl⟩)
        | (go_at_call 16; refine (CW.out _).mono ?_; rintro e w4 ⟨rfl, hb⟩))
      go_ret
      exact ⟨rfl, bnx HB.out hb⟩
    · have g2 : (500 : Int) < (d.length : Int) := by omega
      clear hv hu hc64 hd64
      go_enter Try.func7, Try.ntmps7
      go_wp2_with (go_at_call 16; refine (CW.out _).mono ?_; rintro e w4 ⟨rfl, hb⟩)
      go_ret
      exact ⟨rfl, hb⟩
  · have g1 : (500 : Int) < (c.length : Int) := by omega
    clear hv hu hc64 hd64
    go_enter Try.func7, Try.ntmps7
    go_wp2_with (go_at_call 16; refine (CW.out _).mono ?_; rintro e w4 ⟨rfl, hb⟩)
    go_ret
    exact ⟨rfl, hb⟩
end Go.Proofs.Ytniagnbeeebobaa
