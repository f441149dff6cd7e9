/- NatProducts: nat's Mul, Div and Gcd answer as the specification's. -/
import Derived.Test.YtjdkbbggelpchaaDoorSO
import Derived.Test.YtjdkbbggelpchaaDoorWorks
namespace Go.Proofs.YtjdkbbggelpchaaDoor
open Go.RowKit SD

theorem psm_mul {a b j k : Nat} (ha : a < M.B ^ j) (hb : b < M.B ^ k) (hk : j + k ≤ 900) : Sm (a * b) := sm_pow (k := j + k) (by
  rw [Nat.pow_add]
  exact Nat.mul_lt_mul_of_lt_of_le ha (Nat.le_of_lt hb) (M.B_pow_pos _)) hk
/-- One of the lists is long. -/
theorem prods_long (v1 v2 : Option Addr) (n1 n2 c1 c2 : Nat) (w : World) (h : 10 < n1 ∨ 10 < n2) (ht : Tabs w) (h6 : 6 ≤ w.heap.size) :
    Calls Tryd.prog 4 #[.slice v1 n1 c1, .slice v2 n2 c2] w fun e w' => e = .returned (.bool true) ∧ Below w.heap.size w w' := by
  have CW := mkHid (works_any w ht h6)
  clear ht h6
  by_cases h1 : 10 < n1
  · have i1 : (10 : Int) < n1 := by omega
    clear h
    go_enter Tryd.func4, Tryd.ntmps4
    go_wp2_with (go_at_call 7; refine CW.out.mono ?_; rintro e w1 ⟨rfl, hb⟩)
    go_ret
    exact ⟨rfl, hb⟩
  · have i1 : ¬ (10 : Int) < n1 := by omega
    have i2 : (10 : Int) < n2 := by omega
    clear h
    go_enter Tryd.func4, Tryd.ntmps4
    go_wp2_with (go_at_call 7; refine CW.out.mono ?_; rintro e w1 ⟨rfl, hb⟩)
    go_ret
    exact ⟨rfl, hb⟩

set_option maxRecDepth 100000 in
set_option maxHeartbeats 8000000 in
theorem prods_nums (a b : Nat) (v1 v2 : Option Addr) (n1 n2 c1 c2 : Nat) (w : World) (F1 : Hid (∀ W, St w W → Calls Tryd.prog 8 #[.slice v1 n1 c1] W fun e w' => e = .returned (.tuple #[nv a, .string (ds a)]) ∧ Below W.heap.size W w'))
    (F2 : Hid (∀ W, St w W → Calls Tryd.prog 8 #[.slice v2 n2 c2] W fun e w' => e = .returned (.tuple #[nv b, .string (ds b)]) ∧ Below W.heap.size W w')) (hb : 0 < b) (A1 : a < M.B ^ 5) (A2 : b < M.B ^ 5)
    (i1 : ¬ (10 : Int) < (n1 : Int)) (i2 : ¬ (10 : Int) < (n2 : Int)) (HS : Hid (St w w)) (CW : Hid (Gives 7 #[] (.bool true))) :
    Calls Tryd.prog 4 #[.slice v1 n1 c1, .slice v2 n2 c2] w fun e w' => e = .returned (.bool true) ∧ Below w.heap.size w w' := by
  have sa : Sm a := sm_pow A1 (by omega)
  have sb : Sm b := sm_pow A2 (by omega)
  have d1 : Lib.nDigits a ≤ 101 := D.nDigits_words 5 a A1
  have d2 : Lib.nDigits b ≤ 101 := D.nDigits_words 5 b A2
  have CD := mkHid (div_g a b sa (by omega))
  have RD := mkHid (fun W => sdiv_pos a b W hb (by omega))
  have CM := mkHid (mul_g a b sa sb)
  have RM := mkHid (fun W => smul_any a b W (by omega) (by omega))
  have CG := mkHid (gcd_g a b sa sb)
  have RG := mkHid (fun W => sgcd_any a b W (by omega) (by omega))
  have I1 := mkHid (is_g (a * b) (psm_mul A1 A2 (by omega)))
  have I2 := mkHid (is_g (a / b) (sm_le (Nat.div_le_self _ _) sa))
  have I3 := mkHid (is_g (a % b) (sm_le (Nat.mod_le _ _) sa))
  have I4 := mkHid (is_g (Nat.gcd a b) (sm_le (Nat.gcd_le_right a hb) sb))
  unfold nv at *
  clear A1 A2 sa sb d1 d2 hb
  generalize lo (a * b) = lm at *
  generalize hi (a * b) = km at *
  generalize ds (a * b) = sm at *
  generalize lo (a / b) = lq at *
  generalize hi (a / b) = kq at *
  generalize ds (a / b) = sq at *
  generalize lo (a % b) = lr at *
  generalize hi (a % b) = kr at *
  generalize ds (a % b) = sr at *
  generalize lo (Nat.gcd a b) = lg at *
  generalize hi (Nat.gcd a b) = kg at *
  generalize ds (Nat.gcd a b) = sg at *
  generalize lo a = la at *
  generalize hi a = ka at *
  generalize ds a = sa at *
  generalize lo b = lb at *
  generalize hi b = kb at *
  generalize ds b = sb at *
  go_enter Tryd.func4, Tryd.ntmps4
  go_wp2_with (first
    | (go_at_call 8; (with_reducible refine (F1.out _ HS.out).mono ?_); rintro e w1 ⟨rfl, hb⟩; have HS := mkHid (HS.out.next hb); have HS := mkHid (HS.out.alloc (.cells #[.int .u64 (la : Int), .string ka] 26)); have HA := mkHid (At2.new w1 (w1.heap.size) la ka rfl); clear hb; obtain ⟨HA1, HA2, -, -⟩ := HA.out)
    | (go_at_call 8; (with_reducible refine (F2.out _ HS.out).mono ?_); rintro e w2 ⟨rfl, hb⟩; have HS := mkHid (HS.out.next hb); have HA := mkHid (HA.out.grows hb); have HS := mkHid (HS.out.alloc (.cells #[.int .u64 (lb : Int), .string kb] 26)); have HA := mkHid (HA.out.alloc (.cells #[.int .u64 (lb : Int), .string kb] 26)); have HB := mkHid (At2.new w2 (w2.heap.size) lb kb rfl); clear hb; obtain ⟨HA1, HA2, -, -⟩ := HA.out; obtain ⟨HB1, HB2, -, -⟩ := HB.out)
    | (go_at_call 16; (with_reducible refine (CD.out _ HS.out.tabs HS.out.six').mono ?_); rintro e w3 ⟨rfl, hb⟩; have HS := mkHid (HS.out.next hb); have HA := mkHid (HA.out.grows hb); have HB := mkHid (HB.out.grows hb); have HS := mkHid (HS.out.alloc (.cells #[.int .u64 (lq : Int), .string kq] 26)); have HA := mkHid (HA.out.alloc (.cells #[.int .u64 (lq : Int), .string kq] 26)); have HB := mkHid (HB.out.alloc (.cells #[.int .u64 (lq : Int), .string kq] 26)); have HQ := mkHid (At2.new w3 (w3.heap.size) lq kq rfl); have HS := mkHid (HS.out.alloc (.cells #[.int .u64 (lr : Int), .string kr] 26)); have HA := mkHid (HA.out.alloc (.cells #[.int .u64 (lr : Int), .string kr] 26)); have HB := mkHid (HB.out.alloc (.cells #[.int .u64 (lr : Int), .string kr] 26)); have HQ := mkHid (HQ.out.alloc (.cells #[.int .u64 (lr : Int), .string kr] 26)); have HR := mkHid (At2.new (w3.alloc (.cells #[.int .u64 (lq : Int), .string kq] 26)) (w3.heap.size + 1) lr kr (by simp)); clear hb; obtain ⟨HA1, HA2, -, -⟩ := HA.out; obtain ⟨HB1, HB2, -, -⟩ := HB.out; obtain ⟨HQ1, HQ2, -, -⟩ := HQ.out; obtain ⟨HR1, HR2, -, -⟩ := HR.out)
    | (go_at_call 17; (with_reducible refine (RD.out _).mono ?_); rintro e w4 ⟨rfl, hb⟩; have HS := mkHid (HS.out.next hb); have HA := mkHid (HA.out.grows hb); have HB := mkHid (HB.out.grows hb); have HQ := mkHid (HQ.out.grows hb); have HR := mkHid (HR.out.grows hb); clear hb; obtain ⟨HA1, HA2, -, -⟩ := HA.out; obtain ⟨HB1, HB2, -, -⟩ := HB.out; obtain ⟨HQ1, HQ2, -, -⟩ := HQ.out; obtain ⟨HR1, HR2, -, -⟩ := HR.out)
    | (go_at_call 18; (with_reducible refine (CM.out _ HS.out.tabs HS.out.six').mono ?_); rintro e w5 ⟨rfl, hb⟩; have HS := mkHid (HS.out.next hb); have HA := mkHid (HA.out.grows hb); have HB := mkHid (HB.out.grows hb); have HQ := mkHid (HQ.out.grows hb); have HR := mkHid (HR.out.grows hb); clear hb; obtain ⟨HA1, HA2, -, -⟩ := HA.out; obtain ⟨HB1, HB2, -, -⟩ := HB.out; obtain ⟨HQ1, HQ2, -, -⟩ := HQ.out; obtain ⟨HR1, HR2, -, -⟩ := HR.out)
    | (go_at_call 19; (with_reducible refine (RM.out _).mono ?_); rintro e w6 ⟨rfl, hb⟩; have HS := mkHid (HS.out.next hb); have HA := mkHid (HA.out.grows hb); have HB := mkHid (HB.out.grows hb); have HQ := mkHid (HQ.out.grows hb); have HR := mkHid (HR.out.grows hb); clear hb; obtain ⟨HA1, HA2, -, -⟩ := HA.out; obtain ⟨HB1, HB2, -, -⟩ := HB.out; obtain ⟨HQ1, HQ2, -, -⟩ := HQ.out; obtain ⟨HR1, HR2, -, -⟩ := HR.out)
    | (go_at_call 11; (with_reducible refine (I1.out _ HS.out.tabs HS.out.six').mono ?_); rintro e w7 ⟨rfl, hb⟩; have HS := mkHid (HS.out.next hb); have HA := mkHid (HA.out.grows hb); have HB := mkHid (HB.out.grows hb); have HQ := mkHid (HQ.out.grows hb); have HR := mkHid (HR.out.grows hb); clear hb; obtain ⟨HA1, HA2, -, -⟩ := HA.out; obtain ⟨HB1, HB2, -, -⟩ := HB.out; obtain ⟨HQ1, HQ2, -, -⟩ := HQ.out; obtain ⟨HR1, HR2, -, -⟩ := HR.out)
    | (go_at_call 11; (with_reducible refine (I2.out _ HS.out.tabs HS.out.six').mono ?_); rintro e w8 ⟨rfl, hb⟩; have HS := mkHid (HS.out.next hb); have HA := mkHid (HA.out.grows hb); have HB := mkHid (HB.out.grows hb); have HQ := mkHid (HQ.out.grows hb); have HR := mkHid (HR.out.grows hb); clear hb; obtain ⟨HA1, HA2, -, -⟩ := HA.out; obtain ⟨HB1, HB2, -, -⟩ := HB.out; obtain ⟨HQ1, HQ2, -, -⟩ := HQ.out; obtain ⟨HR1, HR2, -, -⟩ := HR.out)
    | (go_at_call 11; (with_reducible refine (I3.out _ HS.out.tabs HS.out.six').mono ?_); rintro e w9 ⟨rfl, hb⟩; have HS := mkHid (HS.out.next hb); have HA := mkHid (HA.out.grows hb); have HB := mkHid (HB.out.grows hb); have HQ := mkHid (HQ.out.grows hb); have HR := mkHid (HR.out.grows hb); clear hb; obtain ⟨HA1, HA2, -, -⟩ := HA.out; obtain ⟨HB1, HB2, -, -⟩ := HB.out; obtain ⟨HQ1, HQ2, -, -⟩ := HQ.out; obtain ⟨HR1, HR2, -, -⟩ := HR.out)
    | (go_at_call 20; (with_reducible refine (CG.out _ HS.out.tabs HS.out.six').mono ?_); rintro e w10 ⟨rfl, hb⟩; have HS := mkHid (HS.out.next hb); have HA := mkHid (HA.out.grows hb); have HB := mkHid (HB.out.grows hb); have HQ := mkHid (HQ.out.grows hb); have HR := mkHid (HR.out.grows hb); clear hb; obtain ⟨HA1, HA2, -, -⟩ := HA.out; obtain ⟨HB1, HB2, -, -⟩ := HB.out; obtain ⟨HQ1, HQ2, -, -⟩ := HQ.out; obtain ⟨HR1, HR2, -, -⟩ := HR.out)
    | (go_at_call 21; (with_reducible refine (RG.out _).mono ?_); rintro e w11 ⟨rfl, hb⟩; have HS := mkHid (HS.out.next hb); have HA := mkHid (HA.out.grows hb); have HB := mkHid (HB.out.grows hb); have HQ := mkHid (HQ.out.grows hb); have HR := mkHid (HR.out.grows hb); clear hb; obtain ⟨HA1, HA2, -, -⟩ := HA.out; obtain ⟨HB1, HB2, -, -⟩ := HB.out; obtain ⟨HQ1, HQ2, -, -⟩ := HQ.out; obtain ⟨HR1, HR2, -, -⟩ := HR.out)
    | (go_at_call 11; (with_reducible refine (I4.out _ HS.out.tabs HS.out.six').mono ?_); rintro e w12 ⟨rfl, hb⟩; have HS := mkHid (HS.out.next hb); have HA := mkHid (HA.out.grows hb); have HB := mkHid (HB.out.grows hb); have HQ := mkHid (HQ.out.grows hb); have HR := mkHid (HR.out.grows hb); clear hb; obtain ⟨HA1, HA2, -, -⟩ := HA.out; obtain ⟨HB1, HB2, -, -⟩ := HB.out; obtain ⟨HQ1, HQ2, -, -⟩ := HQ.out; obtain ⟨HR1, HR2, -, -⟩ := HR.out)
    | (go_at_call 7; (with_reducible refine (CW.out _ HS.out.tabs HS.out.six').mono ?_); rintro e w13 ⟨rfl, hb⟩; have HS := mkHid (HS.out.next hb); have HA := mkHid (HA.out.grows hb); have HB := mkHid (HB.out.grows hb); have HQ := mkHid (HQ.out.grows hb); have HR := mkHid (HR.out.grows hb); clear hb; obtain ⟨HA1, HA2, -, -⟩ := HA.out; obtain ⟨HB1, HB2, -, -⟩ := HB.out; obtain ⟨HQ1, HQ2, -, -⟩ := HQ.out; obtain ⟨HR1, HR2, -, -⟩ := HR.out))
  go_ret
  exact ⟨rfl, HS.out.below⟩

set_option maxRecDepth 100000 in
set_option maxHeartbeats 8000000 in
theorem prods_zero (a : Nat) (v1 v2 : Option Addr) (n1 n2 c1 c2 : Nat) (w : World) (F1 : Hid (∀ W, St w W → Calls Tryd.prog 8 #[.slice v1 n1 c1] W fun e w' => e = .returned (.tuple #[nv a, .string (ds a)]) ∧ Below W.heap.size W w'))
    (F2 : Hid (∀ W, St w W → Calls Tryd.prog 8 #[.slice v2 n2 c2] W fun e w' => e = .returned (.tuple #[nv 0, .string (ds 0)]) ∧ Below W.heap.size W w')) (A1 : a < M.B ^ 5)
    (i1 : ¬ (10 : Int) < (n1 : Int)) (i2 : ¬ (10 : Int) < (n2 : Int)) (HS : Hid (St w w)) (CW : Hid (Gives 7 #[] (.bool true))) :
    Calls Tryd.prog 4 #[.slice v1 n1 c1, .slice v2 n2 c2] w fun e w' => e = .returned (.bool true) ∧ Below w.heap.size w w' := by
  have sa : Sm a := sm_pow A1 (by omega)
  have sb : Sm 0 := sm_word (by decide)
  have d1 : Lib.nDigits a ≤ 101 := D.nDigits_words 5 a A1
  have d2 : Lib.nDigits 0 ≤ 101 := Nat.le_trans (nDigits_mono 0 a (Nat.zero_le _)) d1
  have CD := mkHid (div_z a)
  have RD := mkHid (fun W => sdiv_zero a W)
  have CM := mul_g a 0 sa sb
  have RM := fun W => smul_any a 0 W (by omega) (by omega)
  have CG := gcd_g a 0 sa sb
  have RG := fun W => sgcd_any a 0 W (by omega) (by omega)
  rw [Nat.gcd_zero_right] at CG
  simp only [Nat.gcd_zero_right] at RG
  rw [Nat.mul_zero] at CM
  simp only [Nat.mul_zero] at RM
  replace CM := mkHid CM
  replace RM := mkHid RM
  replace CG := mkHid CG
  replace RG := mkHid RG
  have I1 := mkHid (is_g 0 sb)
  have I4 := mkHid (is_g a sa)
  unfold nv at *
  clear A1 sa sb d1 d2
  generalize lo a = la at *
  generalize hi a = ka at *
  generalize ds a = sa at *
  generalize lo 0 = lb at *
  generalize hi 0 = kb at *
  generalize ds 0 = sb at *
  go_enter Tryd.func4, Tryd.ntmps4
  go_wp2_with (first
    | (go_at_call 8; (with_reducible refine (F1.out _ HS.out).mono ?_); rintro e w1 ⟨rfl, hb⟩; have HS := mkHid (HS.out.next hb); have HS := mkHid (HS.out.alloc (.cells #[.int .u64 (la : Int), .string ka] 26)); have HA := mkHid (At2.new w1 (w1.heap.size) la ka rfl); clear hb; obtain ⟨HA1, HA2, -, -⟩ := HA.out)
    | (go_at_call 8; (with_reducible refine (F2.out _ HS.out).mono ?_); rintro e w2 ⟨rfl, hb⟩; have HS := mkHid (HS.out.next hb); have HA := mkHid (HA.out.grows hb); have HS := mkHid (HS.out.alloc (.cells #[.int .u64 (lb : Int), .string kb] 26)); have HA := mkHid (HA.out.alloc (.cells #[.int .u64 (lb : Int), .string kb] 26)); have HB := mkHid (At2.new w2 (w2.heap.size) lb kb rfl); clear hb; obtain ⟨HA1, HA2, -, -⟩ := HA.out; obtain ⟨HB1, HB2, -, -⟩ := HB.out)
    | (go_at_call 16; (with_reducible refine (CD.out _ HS.out.tabs HS.out.six').mono ?_); rintro e w3 ⟨rfl, hb⟩; have HS := mkHid (HS.out.next hb); have HA := mkHid (HA.out.grows hb); have HB := mkHid (HB.out.grows hb); have HS := mkHid (HS.out.alloc (.cells #[.int .u64 (lb : Int), .string kb] 26)); have HA := mkHid (HA.out.alloc (.cells #[.int .u64 (lb : Int), .string kb] 26)); have HB := mkHid (HB.out.alloc (.cells #[.int .u64 (lb : Int), .string kb] 26)); have HQ := mkHid (At2.new w3 (w3.heap.size) lb kb rfl); have HS := mkHid (HS.out.alloc (.cells #[.int .u64 (lb : Int), .string kb] 26)); have HA := mkHid (HA.out.alloc (.cells #[.int .u64 (lb : Int), .string kb] 26)); have HB := mkHid (HB.out.alloc (.cells #[.int .u64 (lb : Int), .string kb] 26)); have HQ := mkHid (HQ.out.alloc (.cells #[.int .u64 (lb : Int), .string kb] 26)); have HR := mkHid (At2.new (w3.alloc (.cells #[.int .u64 (lb : Int), .string kb] 26)) (w3.heap.size + 1) lb kb (by simp)); clear hb; obtain ⟨HA1, HA2, -, -⟩ := HA.out; obtain ⟨HB1, HB2, -, -⟩ := HB.out; obtain ⟨HQ1, HQ2, -, -⟩ := HQ.out; obtain ⟨HR1, HR2, -, -⟩ := HR.out)
    | (go_at_call 17; (with_reducible refine (RD.out _).mono ?_); rintro e w4 ⟨rfl, hb⟩; have HS := mkHid (HS.out.next hb); have HA := mkHid (HA.out.grows hb); have HB := mkHid (HB.out.grows hb); have HQ := mkHid (HQ.out.grows hb); have HR := mkHid (HR.out.grows hb); clear hb; obtain ⟨HA1, HA2, -, -⟩ := HA.out; obtain ⟨HB1, HB2, -, -⟩ := HB.out; obtain ⟨HQ1, HQ2, -, -⟩ := HQ.out; obtain ⟨HR1, HR2, -, -⟩ := HR.out)
    | (go_at_call 18; (with_reducible refine (CM.out _ HS.out.tabs HS.out.six').mono ?_); rintro e w5 ⟨rfl, hb⟩; have HS := mkHid (HS.out.next hb); have HA := mkHid (HA.out.grows hb); have HB := mkHid (HB.out.grows hb); have HQ := mkHid (HQ.out.grows hb); have HR := mkHid (HR.out.grows hb); clear hb; obtain ⟨HA1, HA2, -, -⟩ := HA.out; obtain ⟨HB1, HB2, -, -⟩ := HB.out; obtain ⟨HQ1, HQ2, -, -⟩ := HQ.out; obtain ⟨HR1, HR2, -, -⟩ := HR.out)
    | (go_at_call 19; (with_reducible refine (RM.out _).mono ?_); rintro e w6 ⟨rfl, hb⟩; have HS := mkHid (HS.out.next hb); have HA := mkHid (HA.out.grows hb); have HB := mkHid (HB.out.grows hb); have HQ := mkHid (HQ.out.grows hb); have HR := mkHid (HR.out.grows hb); clear hb; obtain ⟨HA1, HA2, -, -⟩ := HA.out; obtain ⟨HB1, HB2, -, -⟩ := HB.out; obtain ⟨HQ1, HQ2, -, -⟩ := HQ.out; obtain ⟨HR1, HR2, -, -⟩ := HR.out)
    | (go_at_call 11; (with_reducible refine (I1.out _ HS.out.tabs HS.out.six').mono ?_); rintro e w7 ⟨rfl, hb⟩; have HS := mkHid (HS.out.next hb); have HA := mkHid (HA.out.grows hb); have HB := mkHid (HB.out.grows hb); have HQ := mkHid (HQ.out.grows hb); have HR := mkHid (HR.out.grows hb); clear hb; obtain ⟨HA1, HA2, -, -⟩ := HA.out; obtain ⟨HB1, HB2, -, -⟩ := HB.out; obtain ⟨HQ1, HQ2, -, -⟩ := HQ.out; obtain ⟨HR1, HR2, -, -⟩ := HR.out)
    | (go_at_call 11; (with_reducible refine (I1.out _ HS.out.tabs HS.out.six').mono ?_); rintro e w8 ⟨rfl, hb⟩; have HS := mkHid (HS.out.next hb); have HA := mkHid (HA.out.grows hb); have HB := mkHid (HB.out.grows hb); have HQ := mkHid (HQ.out.grows hb); have HR := mkHid (HR.out.grows hb); clear hb; obtain ⟨HA1, HA2, -, -⟩ := HA.out; obtain ⟨HB1, HB2, -, -⟩ := HB.out; obtain ⟨HQ1, HQ2, -, -⟩ := HQ.out; obtain ⟨HR1, HR2, -, -⟩ := HR.out)
    | (go_at_call 20; (with_reducible refine (CG.out _ HS.out.tabs HS.out.six').mono ?_); rintro e w9 ⟨rfl, hb⟩; have HS := mkHid (HS.out.next hb); have HA := mkHid (HA.out.grows hb); have HB := mkHid (HB.out.grows hb); have HQ := mkHid (HQ.out.grows hb); have HR := mkHid (HR.out.grows hb); clear hb; obtain ⟨HA1, HA2, -, -⟩ := HA.out; obtain ⟨HB1, HB2, -, -⟩ := HB.out; obtain ⟨HQ1, HQ2, -, -⟩ := HQ.out; obtain ⟨HR1, HR2, -, -⟩ := HR.out)
    | (go_at_call 21; (with_reducible refine (RG.out _).mono ?_); rintro e w10 ⟨rfl, hb⟩; have HS := mkHid (HS.out.next hb); have HA := mkHid (HA.out.grows hb); have HB := mkHid (HB.out.grows hb); have HQ := mkHid (HQ.out.grows hb); have HR := mkHid (HR.out.grows hb); clear hb; obtain ⟨HA1, HA2, -, -⟩ := HA.out; obtain ⟨HB1, HB2, -, -⟩ := HB.out; obtain ⟨HQ1, HQ2, -, -⟩ := HQ.out; obtain ⟨HR1, HR2, -, -⟩ := HR.out)
    | (go_at_call 11; (with_reducible refine (I4.out _ HS.out.tabs HS.out.six').mono ?_); rintro e w11 ⟨rfl, hb⟩; have HS := mkHid (HS.out.next hb); have HA := mkHid (HA.out.grows hb); have HB := mkHid (HB.out.grows hb); have HQ := mkHid (HQ.out.grows hb); have HR := mkHid (HR.out.grows hb); clear hb; obtain ⟨HA1, HA2, -, -⟩ := HA.out; obtain ⟨HB1, HB2, -, -⟩ := HB.out; obtain ⟨HQ1, HQ2, -, -⟩ := HQ.out; obtain ⟨HR1, HR2, -, -⟩ := HR.out)
    | (go_at_call 7; (with_reducible refine (CW.out _ HS.out.tabs HS.out.six').mono ?_); rintro e w12 ⟨rfl, hb⟩; have HS := mkHid (HS.out.next hb); have HA := mkHid (HA.out.grows hb); have HB := mkHid (HB.out.grows hb); have HQ := mkHid (HQ.out.grows hb); have HR := mkHid (HR.out.grows hb); clear hb; obtain ⟨HA1, HA2, -, -⟩ := HA.out; obtain ⟨HB1, HB2, -, -⟩ := HB.out; obtain ⟨HQ1, HQ2, -, -⟩ := HQ.out; obtain ⟨HR1, HR2, -, -⟩ := HR.out))
  go_ret
  exact ⟨rfl, HS.out.below⟩

theorem prods_any (v1 v2 : Value) (l1 l2 : List Nat) (w : World) (x1 : In32 w v1 l1) (x2 : In32 w v2 l2) (ht : Tabs w) (h6 : 6 ≤ w.heap.size) :
    Calls Tryd.prog 4 #[v1, v2] w fun e w' => e = .returned (.bool true) ∧ Below w.heap.size w w' := by
  obtain ⟨a1, c1, rfl⟩ := x1.form
  obtain ⟨a2, c2, rfl⟩ := x2.form
  by_cases h : 10 < l1.length ∨ 10 < l2.length
  · exact prods_long a1 a2 _ _ c1 c2 w h ht h6
  · have F1 := mkHid (fun W (hs : St w W) => number_g _ l1 w W x1 (by omega) hs)
    have F2 := mkHid (fun W (hs : St w W) => number_g _ l2 w W x2 (by omega) hs)
    have A1 := v32_sm l1 x1.1 5 (by omega)
    have A2 := v32_sm l2 x2.1 5 (by omega)
    rcases Nat.eq_zero_or_pos (v32 l2) with h0 | h0
    · rw [h0] at F2
      exact prods_zero _ _ _ _ _ _ _ w F1 F2 A1 (by omega) (by omega) (mkHid (St.refl ht h6)) (mkHid works_any)
    · exact prods_nums _ _ _ _ _ _ _ _ w F1 F2 h0 A1 A2 (by omega) (by omega) (mkHid (St.refl ht h6)) (mkHid works_any)
end Go.Proofs.YtjdkbbggelpchaaDoor
