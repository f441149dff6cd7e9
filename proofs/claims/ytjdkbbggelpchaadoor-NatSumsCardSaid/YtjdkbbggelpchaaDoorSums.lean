/- NatSums: nat's Add, Sub and Cmp answer as the specification's. -/
import Derived.Test.YtjdkbbggelpchaaDoorSL
import Derived.Test.YtjdkbbggelpchaaDoorWorks
namespace Go.Proofs.YtjdkbbggelpchaaDoor
open Go.RowKit SD

theorem sm_add {a b k : Nat} (ha : a < M.B ^ k) (hb : b < M.B ^ k) (hk : k + 1 ≤ 900) : Sm (a + b) := sm_pow (k := k + 1) (by
  rw [Nat.pow_succ]
  have : M.B ^ k * 2 ≤ M.B ^ k * M.B := Nat.mul_le_mul_left _ (by rw [M.B_eq]; omega)
  omega) hk
theorem sm_mul {a b j k : Nat} (ha : a < M.B ^ j) (hb : b < M.B ^ k) (hk : j + k ≤ 900) : Sm (a * b) := sm_pow (k := j + k) (by
  rw [Nat.pow_add]
  exact Nat.mul_lt_mul_of_lt_of_le ha (Nat.le_of_lt hb) (M.B_pow_pos _)) hk
theorem nsub_g (a b : Nat) (ha : Sm a) : Gives 9 #[nv a, nv b] (.tuple #[nv (a - b), .bool (decide (b ≤ a))]) := fun W _ _ => sub_any a b W (Nat.le_trans ha (by omega))
theorem ssub_any (a b : Nat) (ha : Lib.nDigits a ≤ 200000) (w : World) :
    Calls Tryd.prog 10 #[.string (ds a), .string (ds b)] w fun e w' => e = .returned (.tuple #[.string (ds (a - b)), .bool (decide (b ≤ a))]) ∧ Below w.heap.size w w' := by
  by_cases h : a < b
  · rw [show a - b = 0 by omega, decide_eq_false (by omega), ds_zero]
    exact ssub_lt a b w h
  · rw [decide_eq_true (by omega)]
    exact ssub_ge a b w ha (by omega)
theorem same_world {F : FuncId} {args : Array Value} {v : Value} {w : World} (h : Calls Tryd.prog F args w fun e w' => e = .returned v ∧ w' = w) : Calls Tryd.prog F args w fun e w' => e = .returned v ∧ Below w.heap.size w w' :=
  h.mono fun e w' ⟨h1, h2⟩ => ⟨h1, by subst h2; exact Below.refl _ _⟩

/-- One of the lists is long. -/
theorem sums_long (v1 v2 : Option Addr) (n1 n2 c1 c2 : Nat) (w : World) (h : 24 < n1 ∨ 24 < n2) (ht : Tabs w) (h6 : 6 ≤ w.heap.size) :
    Calls Tryd.prog 3 #[.slice v1 n1 c1, .slice v2 n2 c2] w fun e w' => e = .returned (.bool true) ∧ Below w.heap.size w w' := by
  have CW := mkHid (works_any w ht h6)
  clear ht h6
  by_cases h1 : 24 < n1
  · have i1 : (24 : Int) < n1 := by omega
    clear h
    go_enter Tryd.func3, Tryd.ntmps3
    go_wp2_with (go_at_call 7; refine CW.out.mono ?_; rintro e w1 ⟨rfl, hb⟩)
    go_ret
    exact ⟨rfl, hb⟩
  · have i1 : ¬ (24 : Int) < n1 := by omega
    have i2 : (24 : Int) < n2 := by omega
    clear h
    go_enter Tryd.func3, Tryd.ntmps3
    go_wp2_with (go_at_call 7; refine CW.out.mono ?_; rintro e w1 ⟨rfl, hb⟩)
    go_ret
    exact ⟨rfl, hb⟩

set_option maxRecDepth 100000 in
set_option maxHeartbeats 8000000 in
theorem sums_short (v1 v2 : Option Addr) (l1 l2 : List Nat) (c1 c2 : Nat) (w : World) (x1 : In32 w (.slice v1 l1.length c1) l1) (x2 : In32 w (.slice v2 l2.length c2) l2)
    (h1 : l1.length ≤ 24) (h2 : l2.length ≤ 24) (ht : Tabs w) (h6 : 6 ≤ w.heap.size) :
    Calls Tryd.prog 3 #[.slice v1 l1.length c1, .slice v2 l2.length c2] w fun e w' => e = .returned (.bool true) ∧ Below w.heap.size w w' := by
  have CW := mkHid works_any
  have HS := mkHid (St.refl ht h6)
  have F1 := mkHid (fun W (hs : St w W) => number_g _ l1 w W x1 h1 hs)
  have F2 := mkHid (fun W (hs : St w W) => number_g _ l2 w W x2 h2 hs)
  have A1 := v32_sm l1 x1.1 12 (by omega)
  have A2 := v32_sm l2 x2.1 12 (by omega)
  have d1 := nd_words l1 x1.1 h1
  have d2 := nd_words l2 x2.1 h2
  have i1 : ¬ (24 : Int) < (l1.length : Int) := by omega
  have i2 : ¬ (24 : Int) < (l2.length : Int) := by omega
  clear x1 x2 h1 h2 ht h6
  generalize v32 l1 = a at *
  generalize v32 l2 = b at *
  generalize l1.length = n1 at *
  generalize l2.length = n2 at *
  have sa : Sm a := sm_pow A1 (by omega)
  have sb : Sm b := sm_pow A2 (by omega)
  have ss : Sm (a + b) := sm_add A1 A2 (by omega)
  have sd : Sm (a - b) := sm_le (Nat.sub_le a b) sa
  have CS := mkHid (nsub_g a b sa)
  have RS := mkHid (ssub_any a b (by omega))
  have CA := mkHid (add_g a b sa sb)
  have RA := mkHid (fun W => sadd_any a b W (by omega) (by omega))
  have I1 := mkHid (is_g a sa)
  have I2 := mkHid (is_g b sb)
  have I3 := mkHid (is_g (a + b) ss)
  have I4 := mkHid (is_g (a - b) sd)
  have CC := mkHid (cmp_g a b)
  have RC := mkHid (fun W => same_world (rcmp_any a b W))
  by_cases hab : a = b
  · subst hab
    unfold nv at *
    clear A1 A2 sa sb ss sd d1 d2
    generalize decide (a ≤ a) = ok at *
    generalize Lib.compareInt (a : Int) (a : Int) = cv at *
    generalize lo (a - a) = ld at *
    generalize hi (a - a) = kd at *
    generalize ds (a - a) = sd at *
    generalize lo (a + a) = le at *
    generalize hi (a + a) = ke at *
    generalize ds (a + a) = se at *
    generalize lo a = la at *
    generalize hi a = ka at *
    generalize ds a = sa at *
    go_enter Tryd.func3, Tryd.ntmps3
    go_wp2_with (first
    | (go_at_call 8; (with_reducible refine (F1.out _ HS.out).mono ?_); rintro e w1 ⟨rfl, hb⟩; have HS := mkHid (HS.out.next hb); have HS := mkHid (HS.out.alloc (.cells #[.int .u64 (la : Int), .string ka] 26)); have HA := mkHid (At2.new w1 (w1.heap.size) la ka rfl); clear hb; obtain ⟨HA1, HA2, -, -⟩ := HA.out)
    | (go_at_call 8; (with_reducible refine (F2.out _ HS.out).mono ?_); rintro e w2 ⟨rfl, hb⟩; have HS := mkHid (HS.out.next hb); have HA := mkHid (HA.out.grows hb); have HS := mkHid (HS.out.alloc (.cells #[.int .u64 (la : Int), .string ka] 26)); have HA := mkHid (HA.out.alloc (.cells #[.int .u64 (la : Int), .string ka] 26)); have HB := mkHid (At2.new w2 (w2.heap.size) la ka rfl); clear hb; obtain ⟨HA1, HA2, -, -⟩ := HA.out; obtain ⟨HB1, HB2, -, -⟩ := HB.out)
    | (go_at_call 9; (with_reducible refine (CS.out _ HS.out.tabs HS.out.six').mono ?_); rintro e w3 ⟨rfl, hb⟩; have HS := mkHid (HS.out.next hb); have HA := mkHid (HA.out.grows hb); have HB := mkHid (HB.out.grows hb); have HS := mkHid (HS.out.alloc (.cells #[.int .u64 (ld : Int), .string kd] 26)); have HA := mkHid (HA.out.alloc (.cells #[.int .u64 (ld : Int), .string kd] 26)); have HB := mkHid (HB.out.alloc (.cells #[.int .u64 (ld : Int), .string kd] 26)); have HD := mkHid (At2.new w3 (w3.heap.size) ld kd rfl); clear hb; obtain ⟨HA1, HA2, -, -⟩ := HA.out; obtain ⟨HB1, HB2, -, -⟩ := HB.out; obtain ⟨HD1, HD2, -, -⟩ := HD.out)
    | (go_at_call 10; (with_reducible refine (RS.out _).mono ?_); rintro e w4 ⟨rfl, hb⟩; have HS := mkHid (HS.out.next hb); have HA := mkHid (HA.out.grows hb); have HB := mkHid (HB.out.grows hb); have HD := mkHid (HD.out.grows hb); clear hb; obtain ⟨HA1, HA2, -, -⟩ := HA.out; obtain ⟨HB1, HB2, -, -⟩ := HB.out; obtain ⟨HD1, HD2, -, -⟩ := HD.out)
    | (go_at_call 11; (with_reducible refine (I1.out _ HS.out.tabs HS.out.six').mono ?_); rintro e w5 ⟨rfl, hb⟩; have HS := mkHid (HS.out.next hb); have HA := mkHid (HA.out.grows hb); have HB := mkHid (HB.out.grows hb); have HD := mkHid (HD.out.grows hb); clear hb; obtain ⟨HA1, HA2, -, -⟩ := HA.out; obtain ⟨HB1, HB2, -, -⟩ := HB.out; obtain ⟨HD1, HD2, -, -⟩ := HD.out)
    | (go_at_call 12; (with_reducible refine (CA.out _ HS.out.tabs HS.out.six').mono ?_); rintro e w6 ⟨rfl, hb⟩; have HS := mkHid (HS.out.next hb); have HA := mkHid (HA.out.grows hb); have HB := mkHid (HB.out.grows hb); have HD := mkHid (HD.out.grows hb); clear hb; obtain ⟨HA1, HA2, -, -⟩ := HA.out; obtain ⟨HB1, HB2, -, -⟩ := HB.out; obtain ⟨HD1, HD2, -, -⟩ := HD.out)
    | (go_at_call 13; (with_reducible refine (RA.out _).mono ?_); rintro e w7 ⟨rfl, hb⟩; have HS := mkHid (HS.out.next hb); have HA := mkHid (HA.out.grows hb); have HB := mkHid (HB.out.grows hb); have HD := mkHid (HD.out.grows hb); clear hb; obtain ⟨HA1, HA2, -, -⟩ := HA.out; obtain ⟨HB1, HB2, -, -⟩ := HB.out; obtain ⟨HD1, HD2, -, -⟩ := HD.out)
    | (go_at_call 11; (with_reducible refine (I3.out _ HS.out.tabs HS.out.six').mono ?_); rintro e w8 ⟨rfl, hb⟩; have HS := mkHid (HS.out.next hb); have HA := mkHid (HA.out.grows hb); have HB := mkHid (HB.out.grows hb); have HD := mkHid (HD.out.grows hb); clear hb; obtain ⟨HA1, HA2, -, -⟩ := HA.out; obtain ⟨HB1, HB2, -, -⟩ := HB.out; obtain ⟨HD1, HD2, -, -⟩ := HD.out)
    | (go_at_call 11; (with_reducible refine (I4.out _ HS.out.tabs HS.out.six').mono ?_); rintro e w9 ⟨rfl, hb⟩; have HS := mkHid (HS.out.next hb); have HA := mkHid (HA.out.grows hb); have HB := mkHid (HB.out.grows hb); have HD := mkHid (HD.out.grows hb); clear hb; obtain ⟨HA1, HA2, -, -⟩ := HA.out; obtain ⟨HB1, HB2, -, -⟩ := HB.out; obtain ⟨HD1, HD2, -, -⟩ := HD.out)
    | (go_at_call 14; (with_reducible refine (CC.out _ HS.out.tabs HS.out.six').mono ?_); rintro e w10 ⟨rfl, hb⟩; have HS := mkHid (HS.out.next hb); have HA := mkHid (HA.out.grows hb); have HB := mkHid (HB.out.grows hb); have HD := mkHid (HD.out.grows hb); clear hb; obtain ⟨HA1, HA2, -, -⟩ := HA.out; obtain ⟨HB1, HB2, -, -⟩ := HB.out; obtain ⟨HD1, HD2, -, -⟩ := HD.out)
    | (go_at_call 15; (with_reducible refine (RC.out _).mono ?_); rintro e w11 ⟨rfl, hb⟩; have HS := mkHid (HS.out.next hb); have HA := mkHid (HA.out.grows hb); have HB := mkHid (HB.out.grows hb); have HD := mkHid (HD.out.grows hb); clear hb; obtain ⟨HA1, HA2, -, -⟩ := HA.out; obtain ⟨HB1, HB2, -, -⟩ := HB.out; obtain ⟨HD1, HD2, -, -⟩ := HD.out)
    | (go_at_call 7; (with_reducible refine (CW.out _ HS.out.tabs HS.out.six').mono ?_); rintro e w12 ⟨rfl, hb⟩; have HS := mkHid (HS.out.next hb); have HA := mkHid (HA.out.grows hb); have HB := mkHid (HB.out.grows hb); have HD := mkHid (HD.out.grows hb); clear hb; obtain ⟨HA1, HA2, -, -⟩ := HA.out; obtain ⟨HB1, HB2, -, -⟩ := HB.out; obtain ⟨HD1, HD2, -, -⟩ := HD.out))
    go_ret
    exact ⟨rfl, HS.out.below⟩
  · have hne : lo a = lo b → ¬ hi a = hi b := fun h1 h2 => hab (lohi_inj h1 h2)
    have hds : ((ds a).toList == (ds b).toList) = false := by rw [ds_list, ds_list, beq_eq_false_iff_ne]; intro e; exact hab (D.dec_inj e)
    unfold nv at *
    clear A1 A2 sa sb ss sd d1 d2 hab
    generalize decide (b ≤ a) = ok at *
    generalize Lib.compareInt (a : Int) (b : Int) = cv at *
    generalize lo (a - b) = ld at *
    generalize hi (a - b) = kd at *
    generalize ds (a - b) = sd at *
    generalize lo (a + b) = le at *
    generalize hi (a + b) = ke at *
    generalize ds (a + b) = se at *
    generalize lo a = la at *
    generalize hi a = ka at *
    generalize ds a = sa at *
    generalize lo b = lb at *
    generalize hi b = kb at *
    generalize ds b = sb at *
    by_cases hl : la = lb
    · subst hl
      have hk : (ka.toList == kb.toList) = false := by rw [beq_eq_false_iff_ne]; intro e; exact hne rfl (ByteArray.ext (by have := congrArg List.toArray e; simpa [ByteArray.toList_eq] using this))
      clear hne
      go_enter Tryd.func3, Tryd.ntmps3
      go_wp2_with (first
    | (go_at_call 8; (with_reducible refine (F1.out _ HS.out).mono ?_); rintro e w1 ⟨rfl, hb⟩; have HS := mkHid (HS.out.next hb); have HS := mkHid (HS.out.alloc (.cells #[.int .u64 (la : Int), .string ka] 26)); have HA := mkHid (At2.new w1 (w1.heap.size) la ka rfl); clear hb; obtain ⟨HA1, HA2, -, -⟩ := HA.out)
    | (go_at_call 8; (with_reducible refine (F2.out _ HS.out).mono ?_); rintro e w2 ⟨rfl, hb⟩; have HS := mkHid (HS.out.next hb); have HA := mkHid (HA.out.grows hb); have HS := mkHid (HS.out.alloc (.cells #[.int .u64 (la : Int), .string kb] 26)); have HA := mkHid (HA.out.alloc (.cells #[.int .u64 (la : Int), .string kb] 26)); have HB := mkHid (At2.new w2 (w2.heap.size) la kb rfl); clear hb; obtain ⟨HA1, HA2, -, -⟩ := HA.out; obtain ⟨HB1, HB2, -, -⟩ := HB.out)
    | (go_at_call 9; (with_reducible refine (CS.out _ HS.out.tabs HS.out.six').mono ?_); rintro e w3 ⟨rfl, hb⟩; have HS := mkHid (HS.out.next hb); have HA := mkHid (HA.out.grows hb); have HB := mkHid (HB.out.grows hb); have HS := mkHid (HS.out.alloc (.cells #[.int .u64 (ld : Int), .string kd] 26)); have HA := mkHid (HA.out.alloc (.cells #[.int .u64 (ld : Int), .string kd] 26)); have HB := mkHid (HB.out.alloc (.cells #[.int .u64 (ld : Int), .string kd] 26)); have HD := mkHid (At2.new w3 (w3.heap.size) ld kd rfl); clear hb; obtain ⟨HA1, HA2, -, -⟩ := HA.out; obtain ⟨HB1, HB2, -, -⟩ := HB.out; obtain ⟨HD1, HD2, -, -⟩ := HD.out)
    | (go_at_call 10; (with_reducible refine (RS.out _).mono ?_); rintro e w4 ⟨rfl, hb⟩; have HS := mkHid (HS.out.next hb); have HA := mkHid (HA.out.grows hb); have HB := mkHid (HB.out.grows hb); have HD := mkHid (HD.out.grows hb); clear hb; obtain ⟨HA1, HA2, -, -⟩ := HA.out; obtain ⟨HB1, HB2, -, -⟩ := HB.out; obtain ⟨HD1, HD2, -, -⟩ := HD.out)
    | (go_at_call 11; (with_reducible refine (I1.out _ HS.out.tabs HS.out.six').mono ?_); rintro e w5 ⟨rfl, hb⟩; have HS := mkHid (HS.out.next hb); have HA := mkHid (HA.out.grows hb); have HB := mkHid (HB.out.grows hb); have HD := mkHid (HD.out.grows hb); clear hb; obtain ⟨HA1, HA2, -, -⟩ := HA.out; obtain ⟨HB1, HB2, -, -⟩ := HB.out; obtain ⟨HD1, HD2, -, -⟩ := HD.out)
    | (go_at_call 11; (with_reducible refine (I2.out _ HS.out.tabs HS.out.six').mono ?_); rintro e w6 ⟨rfl, hb⟩; have HS := mkHid (HS.out.next hb); have HA := mkHid (HA.out.grows hb); have HB := mkHid (HB.out.grows hb); have HD := mkHid (HD.out.grows hb); clear hb; obtain ⟨HA1, HA2, -, -⟩ := HA.out; obtain ⟨HB1, HB2, -, -⟩ := HB.out; obtain ⟨HD1, HD2, -, -⟩ := HD.out)
    | (go_at_call 12; (with_reducible refine (CA.out _ HS.out.tabs HS.out.six').mono ?_); rintro e w7 ⟨rfl, hb⟩; have HS := mkHid (HS.out.next hb); have HA := mkHid (HA.out.grows hb); have HB := mkHid (HB.out.grows hb); have HD := mkHid (HD.out.grows hb); clear hb; obtain ⟨HA1, HA2, -, -⟩ := HA.out; obtain ⟨HB1, HB2, -, -⟩ := HB.out; obtain ⟨HD1, HD2, -, -⟩ := HD.out)
    | (go_at_call 13; (with_reducible refine (RA.out _).mono ?_); rintro e w8 ⟨rfl, hb⟩; have HS := mkHid (HS.out.next hb); have HA := mkHid (HA.out.grows hb); have HB := mkHid (HB.out.grows hb); have HD := mkHid (HD.out.grows hb); clear hb; obtain ⟨HA1, HA2, -, -⟩ := HA.out; obtain ⟨HB1, HB2, -, -⟩ := HB.out; obtain ⟨HD1, HD2, -, -⟩ := HD.out)
    | (go_at_call 11; (with_reducible refine (I3.out _ HS.out.tabs HS.out.six').mono ?_); rintro e w9 ⟨rfl, hb⟩; have HS := mkHid (HS.out.next hb); have HA := mkHid (HA.out.grows hb); have HB := mkHid (HB.out.grows hb); have HD := mkHid (HD.out.grows hb); clear hb; obtain ⟨HA1, HA2, -, -⟩ := HA.out; obtain ⟨HB1, HB2, -, -⟩ := HB.out; obtain ⟨HD1, HD2, -, -⟩ := HD.out)
    | (go_at_call 11; (with_reducible refine (I4.out _ HS.out.tabs HS.out.six').mono ?_); rintro e w10 ⟨rfl, hb⟩; have HS := mkHid (HS.out.next hb); have HA := mkHid (HA.out.grows hb); have HB := mkHid (HB.out.grows hb); have HD := mkHid (HD.out.grows hb); clear hb; obtain ⟨HA1, HA2, -, -⟩ := HA.out; obtain ⟨HB1, HB2, -, -⟩ := HB.out; obtain ⟨HD1, HD2, -, -⟩ := HD.out)
    | (go_at_call 14; (with_reducible refine (CC.out _ HS.out.tabs HS.out.six').mono ?_); rintro e w11 ⟨rfl, hb⟩; have HS := mkHid (HS.out.next hb); have HA := mkHid (HA.out.grows hb); have HB := mkHid (HB.out.grows hb); have HD := mkHid (HD.out.grows hb); clear hb; obtain ⟨HA1, HA2, -, -⟩ := HA.out; obtain ⟨HB1, HB2, -, -⟩ := HB.out; obtain ⟨HD1, HD2, -, -⟩ := HD.out)
    | (go_at_call 15; (with_reducible refine (RC.out _).mono ?_); rintro e w12 ⟨rfl, hb⟩; have HS := mkHid (HS.out.next hb); have HA := mkHid (HA.out.grows hb); have HB := mkHid (HB.out.grows hb); have HD := mkHid (HD.out.grows hb); clear hb; obtain ⟨HA1, HA2, -, -⟩ := HA.out; obtain ⟨HB1, HB2, -, -⟩ := HB.out; obtain ⟨HD1, HD2, -, -⟩ := HD.out)
    | (go_at_call 7; (with_reducible refine (CW.out _ HS.out.tabs HS.out.six').mono ?_); rintro e w13 ⟨rfl, hb⟩; have HS := mkHid (HS.out.next hb); have HA := mkHid (HA.out.grows hb); have HB := mkHid (HB.out.grows hb); have HD := mkHid (HD.out.grows hb); clear hb; obtain ⟨HA1, HA2, -, -⟩ := HA.out; obtain ⟨HB1, HB2, -, -⟩ := HB.out; obtain ⟨HD1, HD2, -, -⟩ := HD.out))
      go_ret
      exact ⟨rfl, HS.out.below⟩
    · have hl2 : ((la : Int) == (lb : Int)) = false := by rw [beq_eq_false_iff_ne]; omega
      clear hne
      go_enter Tryd.func3, Tryd.ntmps3
      go_wp2_with (first
    | (go_at_call 8; (with_reducible refine (F1.out _ HS.out).mono ?_); rintro e w1 ⟨rfl, hb⟩; have HS := mkHid (HS.out.next hb); have HS := mkHid (HS.out.alloc (.cells #[.int .u64 (la : Int), .string ka] 26)); have HA := mkHid (At2.new w1 (w1.heap.size) la ka rfl); clear hb; obtain ⟨HA1, HA2, -, -⟩ := HA.out)
    | (go_at_call 8; (with_reducible refine (F2.out _ HS.out).mono ?_); rintro e w2 ⟨rfl, hb⟩; have HS := mkHid (HS.out.next hb); have HA := mkHid (HA.out.grows hb); have HS := mkHid (HS.out.alloc (.cells #[.int .u64 (lb : Int), .string kb] 26)); have HA := mkHid (HA.out.alloc (.cells #[.int .u64 (lb : Int), .string kb] 26)); have HB := mkHid (At2.new w2 (w2.heap.size) lb kb rfl); clear hb; obtain ⟨HA1, HA2, -, -⟩ := HA.out; obtain ⟨HB1, HB2, -, -⟩ := HB.out)
    | (go_at_call 9; (with_reducible refine (CS.out _ HS.out.tabs HS.out.six').mono ?_); rintro e w3 ⟨rfl, hb⟩; have HS := mkHid (HS.out.next hb); have HA := mkHid (HA.out.grows hb); have HB := mkHid (HB.out.grows hb); have HS := mkHid (HS.out.alloc (.cells #[.int .u64 (ld : Int), .string kd] 26)); have HA := mkHid (HA.out.alloc (.cells #[.int .u64 (ld : Int), .string kd] 26)); have HB := mkHid (HB.out.alloc (.cells #[.int .u64 (ld : Int), .string kd] 26)); have HD := mkHid (At2.new w3 (w3.heap.size) ld kd rfl); clear hb; obtain ⟨HA1, HA2, -, -⟩ := HA.out; obtain ⟨HB1, HB2, -, -⟩ := HB.out; obtain ⟨HD1, HD2, -, -⟩ := HD.out)
    | (go_at_call 10; (with_reducible refine (RS.out _).mono ?_); rintro e w4 ⟨rfl, hb⟩; have HS := mkHid (HS.out.next hb); have HA := mkHid (HA.out.grows hb); have HB := mkHid (HB.out.grows hb); have HD := mkHid (HD.out.grows hb); clear hb; obtain ⟨HA1, HA2, -, -⟩ := HA.out; obtain ⟨HB1, HB2, -, -⟩ := HB.out; obtain ⟨HD1, HD2, -, -⟩ := HD.out)
    | (go_at_call 11; (with_reducible refine (I1.out _ HS.out.tabs HS.out.six').mono ?_); rintro e w5 ⟨rfl, hb⟩; have HS := mkHid (HS.out.next hb); have HA := mkHid (HA.out.grows hb); have HB := mkHid (HB.out.grows hb); have HD := mkHid (HD.out.grows hb); clear hb; obtain ⟨HA1, HA2, -, -⟩ := HA.out; obtain ⟨HB1, HB2, -, -⟩ := HB.out; obtain ⟨HD1, HD2, -, -⟩ := HD.out)
    | (go_at_call 11; (with_reducible refine (I2.out _ HS.out.tabs HS.out.six').mono ?_); rintro e w6 ⟨rfl, hb⟩; have HS := mkHid (HS.out.next hb); have HA := mkHid (HA.out.grows hb); have HB := mkHid (HB.out.grows hb); have HD := mkHid (HD.out.grows hb); clear hb; obtain ⟨HA1, HA2, -, -⟩ := HA.out; obtain ⟨HB1, HB2, -, -⟩ := HB.out; obtain ⟨HD1, HD2, -, -⟩ := HD.out)
    | (go_at_call 12; (with_reducible refine (CA.out _ HS.out.tabs HS.out.six').mono ?_); rintro e w7 ⟨rfl, hb⟩; have HS := mkHid (HS.out.next hb); have HA := mkHid (HA.out.grows hb); have HB := mkHid (HB.out.grows hb); have HD := mkHid (HD.out.grows hb); clear hb; obtain ⟨HA1, HA2, -, -⟩ := HA.out; obtain ⟨HB1, HB2, -, -⟩ := HB.out; obtain ⟨HD1, HD2, -, -⟩ := HD.out)
    | (go_at_call 13; (with_reducible refine (RA.out _).mono ?_); rintro e w8 ⟨rfl, hb⟩; have HS := mkHid (HS.out.next hb); have HA := mkHid (HA.out.grows hb); have HB := mkHid (HB.out.grows hb); have HD := mkHid (HD.out.grows hb); clear hb; obtain ⟨HA1, HA2, -, -⟩ := HA.out; obtain ⟨HB1, HB2, -, -⟩ := HB.out; obtain ⟨HD1, HD2, -, -⟩ := HD.out)
    | (go_at_call 11; (with_reducible refine (I3.out _ HS.out.tabs HS.out.six').mono ?_); rintro e w9 ⟨rfl, hb⟩; have HS := mkHid (HS.out.next hb); have HA := mkHid (HA.out.grows hb); have HB := mkHid (HB.out.grows hb); have HD := mkHid (HD.out.grows hb); clear hb; obtain ⟨HA1, HA2, -, -⟩ := HA.out; obtain ⟨HB1, HB2, -, -⟩ := HB.out; obtain ⟨HD1, HD2, -, -⟩ := HD.out)
    | (go_at_call 11; (with_reducible refine (I4.out _ HS.out.tabs HS.out.six').mono ?_); rintro e w10 ⟨rfl, hb⟩; have HS := mkHid (HS.out.next hb); have HA := mkHid (HA.out.grows hb); have HB := mkHid (HB.out.grows hb); have HD := mkHid (HD.out.grows hb); clear hb; obtain ⟨HA1, HA2, -, -⟩ := HA.out; obtain ⟨HB1, HB2, -, -⟩ := HB.out; obtain ⟨HD1, HD2, -, -⟩ := HD.out)
    | (go_at_call 14; (with_reducible refine (CC.out _ HS.out.tabs HS.out.six').mono ?_); rintro e w11 ⟨rfl, hb⟩; have HS := mkHid (HS.out.next hb); have HA := mkHid (HA.out.grows hb); have HB := mkHid (HB.out.grows hb); have HD := mkHid (HD.out.grows hb); clear hb; obtain ⟨HA1, HA2, -, -⟩ := HA.out; obtain ⟨HB1, HB2, -, -⟩ := HB.out; obtain ⟨HD1, HD2, -, -⟩ := HD.out)
    | (go_at_call 15; (with_reducible refine (RC.out _).mono ?_); rintro e w12 ⟨rfl, hb⟩; have HS := mkHid (HS.out.next hb); have HA := mkHid (HA.out.grows hb); have HB := mkHid (HB.out.grows hb); have HD := mkHid (HD.out.grows hb); clear hb; obtain ⟨HA1, HA2, -, -⟩ := HA.out; obtain ⟨HB1, HB2, -, -⟩ := HB.out; obtain ⟨HD1, HD2, -, -⟩ := HD.out)
    | (go_at_call 7; (with_reducible refine (CW.out _ HS.out.tabs HS.out.six').mono ?_); rintro e w13 ⟨rfl, hb⟩; have HS := mkHid (HS.out.next hb); have HA := mkHid (HA.out.grows hb); have HB := mkHid (HB.out.grows hb); have HD := mkHid (HD.out.grows hb); clear hb; obtain ⟨HA1, HA2, -, -⟩ := HA.out; obtain ⟨HB1, HB2, -, -⟩ := HB.out; obtain ⟨HD1, HD2, -, -⟩ := HD.out))
      go_ret
      exact ⟨rfl, HS.out.below⟩

theorem sums_any (v1 v2 : Value) (l1 l2 : List Nat) (w : World) (x1 : In32 w v1 l1) (x2 : In32 w v2 l2) (ht : Tabs w) (h6 : 6 ≤ w.heap.size) :
    Calls Tryd.prog 3 #[v1, v2] w fun e w' => e = .returned (.bool true) ∧ Below w.heap.size w w' := by
  obtain ⟨a1, c1, rfl⟩ := x1.form
  obtain ⟨a2, c2, rfl⟩ := x2.form
  by_cases h : 24 < l1.length ∨ 24 < l2.length
  · exact sums_long a1 a2 _ _ c1 c2 w h ht h6
  · exact sums_short a1 a2 l1 l2 c1 c2 w x1 x2 (by omega) (by omega) ht h6
end Go.Proofs.YtjdkbbggelpchaaDoor
