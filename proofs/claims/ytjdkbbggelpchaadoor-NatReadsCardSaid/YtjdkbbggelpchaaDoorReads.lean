/- NatReads: nat's Read answers as the specification's. -/
import Derived.Test.YtjdkbbggelpchaaDoorSN
import Derived.Test.YtjdkbbggelpchaaDoorWorks
namespace Go.Proofs.YtjdkbbggelpchaaDoor
open Go.RowKit SD

theorem same_w {F : FuncId} {args : Array Value} {v : Value} {w : World} (h : Calls Tryd.prog F args w fun e w' => e = .returned v ∧ w' = w) : Calls Tryd.prog F args w fun e w' => e = .returned v ∧ Below w.heap.size w w' :=
  h.mono fun e w' ⟨h1, h2⟩ => ⟨h1, by subst h2; exact Below.refl _ _⟩
theorem pow_le_B (k : Nat) : 10 ^ (19 * k) ≤ M.B ^ k := by rw [Nat.pow_mul]; exact Nat.pow_le_pow_left (by rw [M.B_eq]; decide) k
theorem sm_dec (n : Nat) (h : Lib.nDigits n ≤ 2000) : Sm n := by
  obtain ⟨k, hk⟩ : ∃ k : Nat, k = 106 := ⟨_, rfl⟩
  exact sm_pow (k := k) (Nat.lt_of_lt_of_le (nd_lt n (19 * k) (by omega)) (pow_le_B k)) (by omega)

set_option maxRecDepth 100000 in
set_option maxHeartbeats 4000000 in
theorem reads_any (s : ByteArray) (w : World) (ht : Tabs w) (h6 : 6 ≤ w.heap.size) :
    Calls Tryd.prog 5 #[.string s] w fun e w' => e = .returned (.bool true) ∧ Below w.heap.size w w' := by
  have CW := mkHid works_any
  have HS := mkHid (St.refl ht h6)
  clear ht h6
  by_cases hs : 2100 < s.size
  · have i1 : (2100 : Int) < (s.size : Int) := by omega
    go_enter Tryd.func5, Tryd.ntmps5
    go_wp2_with (go_at_call 7; refine (CW.out _ HS.out.tabs HS.out.six').mono ?_; rintro e w1 ⟨rfl, hb⟩)
    go_ret
    exact ⟨rfl, hb⟩
  · have i1 : ¬ (2100 : Int) < (s.size : Int) := by omega
    have hm : s.size ≤ maxLen := by unfold maxLen; omega
    rcases hd : D.isDec s.data.toList with _ | _
    · have CR := mkHid (fun W => read_bad s W hm hd)
      have RR := mkHid (fun W => same_w (rread_bad s W hm hd))
      have I1 := mkHid (is_g 0 (sm_word (by decide)))
      rw [ds_zero] at I1
      rw [natV_lohi] at CR
      clear hd hm hs
      unfold nv at *
      generalize lo 0 = la at *
      generalize hi 0 = ka at *
      go_enter Tryd.func5, Tryd.ntmps5
      go_wp2_with (first
    | (go_at_call 22; (with_reducible refine (CR.out _).mono ?_); rintro e w1 ⟨rfl, hb⟩; have HS := mkHid (HS.out.next hb); have HS := mkHid (HS.out.alloc (.cells #[.int .u64 (la : Int), .string ka] 26)); have HA := mkHid (At2.new w1 (w1.heap.size) la ka rfl); clear hb; obtain ⟨HA1, HA2, -, -⟩ := HA.out)
    | (go_at_call 23; (with_reducible refine (RR.out _).mono ?_); rintro e w2 ⟨rfl, hb⟩; have HS := mkHid (HS.out.next hb); have HA := mkHid (HA.out.grows hb); clear hb; obtain ⟨HA1, HA2, -, -⟩ := HA.out)
    | (go_at_call 11; (with_reducible refine (I1.out _ HS.out.tabs HS.out.six').mono ?_); rintro e w3 ⟨rfl, hb⟩; have HS := mkHid (HS.out.next hb); have HA := mkHid (HA.out.grows hb); clear hb; obtain ⟨HA1, HA2, -, -⟩ := HA.out)
    | (go_at_call 7; (with_reducible refine (CW.out _ HS.out.tabs HS.out.six').mono ?_); rintro e w4 ⟨rfl, hb⟩; have HS := mkHid (HS.out.next hb); have HA := mkHid (HA.out.grows hb); clear hb; obtain ⟨HA1, HA2, -, -⟩ := HA.out))
      go_ret
      exact ⟨rfl, HS.out.below⟩
    · have CR := mkHid (fun W => read_ok s W hm hd)
      have RR := mkHid (fun W => same_w (rread_ok s W hm hd))
      have e : ds (D.dv s.data.toList) = s := by
        refine ByteArray.ext ?_
        have := D.dec_dv _ hd
        show (Lib.decDigits (D.dv s.data.toList)).toArray = s.data
        rw [this]
      have hn : Lib.nDigits (D.dv s.data.toList) ≤ 2000 := by
        rw [← Lib.decDigits_length, D.dec_dv _ hd]; exact (D.isDec_facts hd).2.1
      have I1 := mkHid (is_g (D.dv s.data.toList) (sm_dec _ hn))
      rw [e] at I1
      rw [natV_lohi] at CR
      clear hd hm hs e hn
      generalize D.dv s.data.toList = n at *
      unfold nv at *
      generalize lo n = la at *
      generalize hi n = ka at *
      go_enter Tryd.func5, Tryd.ntmps5
      go_wp2_with (first
    | (go_at_call 22; (with_reducible refine (CR.out _).mono ?_); rintro e w1 ⟨rfl, hb⟩; have HS := mkHid (HS.out.next hb); have HS := mkHid (HS.out.alloc (.cells #[.int .u64 (la : Int), .string ka] 26)); have HA := mkHid (At2.new w1 (w1.heap.size) la ka rfl); clear hb; obtain ⟨HA1, HA2, -, -⟩ := HA.out)
    | (go_at_call 23; (with_reducible refine (RR.out _).mono ?_); rintro e w2 ⟨rfl, hb⟩; have HS := mkHid (HS.out.next hb); have HA := mkHid (HA.out.grows hb); clear hb; obtain ⟨HA1, HA2, -, -⟩ := HA.out)
    | (go_at_call 11; (with_reducible refine (I1.out _ HS.out.tabs HS.out.six').mono ?_); rintro e w3 ⟨rfl, hb⟩; have HS := mkHid (HS.out.next hb); have HA := mkHid (HA.out.grows hb); clear hb; obtain ⟨HA1, HA2, -, -⟩ := HA.out)
    | (go_at_call 7; (with_reducible refine (CW.out _ HS.out.tabs HS.out.six').mono ?_); rintro e w4 ⟨rfl, hb⟩; have HS := mkHid (HS.out.next hb); have HA := mkHid (HA.out.grows hb); clear hb; obtain ⟨HA1, HA2, -, -⟩ := HA.out))
      go_ret
      exact ⟨rfl, HS.out.below⟩
end Go.Proofs.YtjdkbbggelpchaaDoor
