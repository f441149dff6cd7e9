/- Package rat: RatReads. -/
import Derived.Test.YtflcdpolfimggaaGreatDoorQSs
namespace Go.Proofs.YtflcdpolfimggaaGreatDoor
open Go.RowKit Q SD

set_option maxRecDepth 100000 in
set_option maxHeartbeats 8000000 in
theorem reads_long (s : ByteArray) (h1 : 5000 < s.size) : Gives 3 #[.string s] (.bool true) := by
  intro W ht h6
  have CW := mkHid rworks_g
  have HS := mkHid (St.refl ht h6)
  clear ht h6
  go_enter Tryz.func3, Tryz.ntmps3
  go_wp2_with (first | (go_at_call 7; (with_reducible refine (CW.out _ HS.out.tabs HS.out.six').mono ?_); rintro e w6 ⟨rfl, hb⟩; have HS := mkHid (HS.out.next hb); clear hb))
  go_ret
  exact ⟨rfl, HS.out.below⟩

set_option maxRecDepth 100000 in
set_option maxHeartbeats 8000000 in
theorem reads_mid_yes (s : ByteArray) (h1 : s.size ≤ 5000) (h2 : 600 < s.size) (p q : Nat) (CR : Gives 8 #[.string s] (.tuple #[rv p q, .bool true])) (CT : Gives 9 #[rv p q] (.string s)) : Gives 3 #[.string s] (.bool true) := by
  intro W ht h6
  have CW := mkHid rworks_g
  unfold rv at *
  generalize lo (dz q) = lza at *
  generalize hi (dz q) = kza at *
  generalize lo (p) = la at *
  generalize hi (p) = ka at *
  replace CR := mkHid CR
  replace CT := mkHid CT
  have HS := mkHid (St.refl ht h6)
  clear ht h6
  go_enter Tryz.func3, Tryz.ntmps3
  go_wp2_with (first | (go_at_call 8; (with_reducible refine (CR.out _ HS.out.tabs HS.out.six').mono ?_); rintro e w3 ⟨rfl, hb⟩; have HS := mkHid (HS.out.next hb); have HS := mkHid (HS.out.alloc (.cells #[.int .u64 (la : Int), .string ka, .int .u64 (lza : Int), .string kza] 27)); have Ha := mkHid (At4.new w3 w3.heap.size la ka lza kza rfl); clear hb; obtain ⟨⟨a0, a1, a2, a3⟩, -⟩ := Ha.out) | (go_at_call 9; (with_reducible refine (CT.out _ HS.out.tabs HS.out.six').mono ?_); rintro e w6 ⟨rfl, hb⟩; have HS := mkHid (HS.out.next hb); have Ha := mkHid (Ha.out.grows hb); clear hb; obtain ⟨⟨a0, a1, a2, a3⟩, -⟩ := Ha.out) | (go_at_call 7; (with_reducible refine (CW.out _ HS.out.tabs HS.out.six').mono ?_); rintro e w6 ⟨rfl, hb⟩; have HS := mkHid (HS.out.next hb); have Ha := mkHid (Ha.out.grows hb); clear hb; obtain ⟨⟨a0, a1, a2, a3⟩, -⟩ := Ha.out))
  go_ret
  exact ⟨rfl, HS.out.below⟩

set_option maxRecDepth 100000 in
set_option maxHeartbeats 8000000 in
theorem reads_mid_no (s : ByteArray) (h1 : s.size ≤ 5000) (h2 : 600 < s.size) (tt : ByteArray) (hne : (tt.toList == s.toList) = false) (p q : Nat) (CR : Gives 8 #[.string s] (.tuple #[rv p q, .bool false])) (CT : Gives 9 #[rv p q] (.string tt)) : Gives 3 #[.string s] (.bool true) := by
  intro W ht h6
  have CW := mkHid rworks_g
  unfold rv at *
  generalize lo (dz q) = lza at *
  generalize hi (dz q) = kza at *
  generalize lo (p) = la at *
  generalize hi (p) = ka at *
  replace CR := mkHid CR
  replace CT := mkHid CT
  have HS := mkHid (St.refl ht h6)
  clear ht h6
  go_enter Tryz.func3, Tryz.ntmps3
  go_wp2_with (first | (go_at_call 8; (with_reducible refine (CR.out _ HS.out.tabs HS.out.six').mono ?_); rintro e w3 ⟨rfl, hb⟩; have HS := mkHid (HS.out.next hb); have HS := mkHid (HS.out.alloc (.cells #[.int .u64 (la : Int), .string ka, .int .u64 (lza : Int), .string kza] 27)); have Ha := mkHid (At4.new w3 w3.heap.size la ka lza kza rfl); clear hb; obtain ⟨⟨a0, a1, a2, a3⟩, -⟩ := Ha.out) | (go_at_call 9; (with_reducible refine (CT.out _ HS.out.tabs HS.out.six').mono ?_); rintro e w6 ⟨rfl, hb⟩; have HS := mkHid (HS.out.next hb); have Ha := mkHid (Ha.out.grows hb); clear hb; obtain ⟨⟨a0, a1, a2, a3⟩, -⟩ := Ha.out) | (go_at_call 7; (with_reducible refine (CW.out _ HS.out.tabs HS.out.six').mono ?_); rintro e w6 ⟨rfl, hb⟩; have HS := mkHid (HS.out.next hb); have Ha := mkHid (Ha.out.grows hb); clear hb; obtain ⟨⟨a0, a1, a2, a3⟩, -⟩ := Ha.out))
  go_ret
  exact ⟨rfl, HS.out.below⟩

set_option maxRecDepth 100000 in
set_option maxHeartbeats 8000000 in
theorem reads_short_true (s : ByteArray) (h1 : s.size ≤ 5000) (h2 : s.size ≤ 600) (p q : Nat) (CR : Gives 8 #[.string s] (.tuple #[rv p q, .bool true])) (RR : Says 10 #[.string s] (.tuple #[sv p q, .bool true])) (CS : Gives 11 #[rv p q, sv p q] (.bool true)) : Gives 3 #[.string s] (.bool true) := by
  intro W ht h6
  have CW := mkHid rworks_g
  unfold rv sv at *
  generalize lo (dz q) = lza at *
  generalize hi (dz q) = kza at *
  generalize lo (p) = la at *
  generalize hi (p) = ka at *
  generalize ds p = sp at *
  generalize ds q = sq at *
  replace CR := mkHid CR
  replace RR := mkHid RR
  replace CS := mkHid CS
  have HS := mkHid (St.refl ht h6)
  clear ht h6
  go_enter Tryz.func3, Tryz.ntmps3
  go_wp2_with (first | (go_at_call 8; (with_reducible refine (CR.out _ HS.out.tabs HS.out.six').mono ?_); rintro e w3 ⟨rfl, hb⟩; have HS := mkHid (HS.out.next hb); have HS := mkHid (HS.out.alloc (.cells #[.int .u64 (la : Int), .string ka, .int .u64 (lza : Int), .string kza] 27)); have Ha := mkHid (At4.new w3 w3.heap.size la ka lza kza rfl); clear hb; obtain ⟨⟨a0, a1, a2, a3⟩, -⟩ := Ha.out) | (go_at_call 10; (with_reducible refine (RR.out _).mono ?_); rintro e w4 ⟨rfl, hb⟩; have HS := mkHid (HS.out.next hb); have Ha := mkHid (Ha.out.grows hb); have HS := mkHid (HS.out.alloc (.cells #[.string sp, .string sq] 32)); have Ha := mkHid (Ha.out.alloc (.cells #[.string sp, .string sq] 32)); have Hb := mkHid (AtS.new w4 w4.heap.size sp sq rfl); clear hb; obtain ⟨⟨a0, a1, a2, a3⟩, -⟩ := Ha.out; obtain ⟨b0, b1, -, -⟩ := Hb.out) | (go_at_call 11; (with_reducible refine (CS.out _ HS.out.tabs HS.out.six').mono ?_); rintro e w6 ⟨rfl, hb⟩; have HS := mkHid (HS.out.next hb); have Ha := mkHid (Ha.out.grows hb); have Hb := mkHid (Hb.out.grows hb); clear hb; obtain ⟨⟨a0, a1, a2, a3⟩, -⟩ := Ha.out; obtain ⟨b0, b1, -, -⟩ := Hb.out) | (go_at_call 7; (with_reducible refine (CW.out _ HS.out.tabs HS.out.six').mono ?_); rintro e w6 ⟨rfl, hb⟩; have HS := mkHid (HS.out.next hb); have Ha := mkHid (Ha.out.grows hb); have Hb := mkHid (Hb.out.grows hb); clear hb; obtain ⟨⟨a0, a1, a2, a3⟩, -⟩ := Ha.out; obtain ⟨b0, b1, -, -⟩ := Hb.out))
  go_ret
  exact ⟨rfl, HS.out.below⟩

set_option maxRecDepth 100000 in
set_option maxHeartbeats 8000000 in
theorem reads_short_false (s : ByteArray) (h1 : s.size ≤ 5000) (h2 : s.size ≤ 600) (p q : Nat) (CR : Gives 8 #[.string s] (.tuple #[rv p q, .bool false])) (RR : Says 10 #[.string s] (.tuple #[sv p q, .bool false])) (CS : Gives 11 #[rv p q, sv p q] (.bool true)) : Gives 3 #[.string s] (.bool true) := by
  intro W ht h6
  have CW := mkHid rworks_g
  unfold rv sv at *
  generalize lo (dz q) = lza at *
  generalize hi (dz q) = kza at *
  generalize lo (p) = la at *
  generalize hi (p) = ka at *
  generalize ds p = sp at *
  generalize ds q = sq at *
  replace CR := mkHid CR
  replace RR := mkHid RR
  replace CS := mkHid CS
  have HS := mkHid (St.refl ht h6)
  clear ht h6
  go_enter Tryz.func3, Tryz.ntmps3
  go_wp2_with (first | (go_at_call 8; (with_reducible refine (CR.out _ HS.out.tabs HS.out.six').mono ?_); rintro e w3 ⟨rfl, hb⟩; have HS := mkHid (HS.out.next hb); have HS := mkHid (HS.out.alloc (.cells #[.int .u64 (la : Int), .string ka, .int .u64 (lza : Int), .string kza] 27)); have Ha := mkHid (At4.new w3 w3.heap.size la ka lza kza rfl); clear hb; obtain ⟨⟨a0, a1, a2, a3⟩, -⟩ := Ha.out) | (go_at_call 10; (with_reducible refine (RR.out _).mono ?_); rintro e w4 ⟨rfl, hb⟩; have HS := mkHid (HS.out.next hb); have Ha := mkHid (Ha.out.grows hb); have HS := mkHid (HS.out.alloc (.cells #[.string sp, .string sq] 32)); have Ha := mkHid (Ha.out.alloc (.cells #[.string sp, .string sq] 32)); have Hb := mkHid (AtS.new w4 w4.heap.size sp sq rfl); clear hb; obtain ⟨⟨a0, a1, a2, a3⟩, -⟩ := Ha.out; obtain ⟨b0, b1, -, -⟩ := Hb.out) | (go_at_call 11; (with_reducible refine (CS.out _ HS.out.tabs HS.out.six').mono ?_); rintro e w6 ⟨rfl, hb⟩; have HS := mkHid (HS.out.next hb); have Ha := mkHid (Ha.out.grows hb); have Hb := mkHid (Hb.out.grows hb); clear hb; obtain ⟨⟨a0, a1, a2, a3⟩, -⟩ := Ha.out; obtain ⟨b0, b1, -, -⟩ := Hb.out) | (go_at_call 7; (with_reducible refine (CW.out _ HS.out.tabs HS.out.six').mono ?_); rintro e w6 ⟨rfl, hb⟩; have HS := mkHid (HS.out.next hb); have Ha := mkHid (Ha.out.grows hb); have Hb := mkHid (Hb.out.grows hb); clear hb; obtain ⟨⟨a0, a1, a2, a3⟩, -⟩ := Ha.out; obtain ⟨b0, b1, -, -⟩ := Hb.out))
  go_ret
  exact ⟨rfl, HS.out.below⟩

theorem sm_dig {n : Nat} (h : Lib.nDigits n ≤ 2000) : Sm n := by
  obtain ⟨k, hk⟩ : ∃ k : Nat, k = 106 := ⟨_, rfl⟩
  obtain ⟨m, hm⟩ : ∃ m : Nat, m = 2000 := ⟨_, rfl⟩
  have h3 := Lib.lt_pow_nDigits n
  rw [← hm] at h
  have h4 : (10 : Nat) ^ Lib.nDigits n ≤ 10 ^ m := Nat.pow_le_pow_right (by omega) h
  have h5 : (10 : Nat) ^ m ≤ M.B ^ k := by
    have e1 : (10 : Nat) ^ 19 ≤ M.B := by unfold M.B; decide
    have e2 : (10 ^ 19 : Nat) ^ k ≤ M.B ^ k := Nat.pow_le_pow_left e1 k
    rw [← Nat.pow_mul] at e2
    exact Nat.le_trans (Nat.pow_le_pow_right (by omega) (by omega)) e2
  exact sm_pow (k := k) (by omega) (by omega)
theorem ratReads_any (s : ByteArray) (w : World) (ht : Tabs w) (h6 : 6 ≤ w.heap.size) :
    Calls Tryz.prog 3 #[.string s] w fun e w' => e = .returned (.bool true) ∧ Below w.heap.size w w' := by
  by_cases h1 : s.size ≤ 5000
  · cases ha : accB s.data.toList
    · have CR := read_no s (by omega) ha
      by_cases h2 : s.size ≤ 600
      · exact reads_short_false s h1 h2 0 1 CR (sread_no s (by omega) ha) (same_g 0 1 (sm_word (by decide)) (sm_word (by decide)) (by omega)) w ht h6
      · have CT := rtext_g 0 1 (sm_word (by decide)) (sm_word (by decide)) (by omega)
        have hne : ((tx 0 1).toList == s.toList) = false := by
          rw [beq_eq_false_iff_ne, str_toList, str_toList]
          intro e
          have e1 : (tx 0 1).size = s.size := by rw [bytes_of e]
          rw [tx_one, ds_size, show Lib.nDigits 0 = 1 by decide +kernel] at e1
          omega
        exact reads_mid_no s h1 (by omega) _ hne 0 1 CR CT w ht h6
    · by_cases h2 : s.size ≤ 600
      · obtain ⟨p, q, lo, np, nq, e, RR⟩ := sread_yes s (by omega) ha
        have CR := read_tx p q lo np nq
        rw [← e] at CR
        exact reads_short_true s h1 h2 p q CR RR (same_g p q (sm_dig np) (sm_dig nq) lo.1) w ht h6
      · obtain ⟨p, q, lo, np, nq, e, _, _⟩ := acc_yes s ha
        have CR := read_tx p q lo np nq
        have CT := rtext_g p q (sm_dig np) (sm_dig nq) (by have := lo.1; omega)
        rw [← e] at CR CT
        exact reads_mid_yes s h1 (by omega) p q CR CT w ht h6
  · exact reads_long s (by omega) w ht h6
end Go.Proofs.YtflcdpolfimggaaGreatDoor
