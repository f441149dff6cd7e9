/- NatOf: nat's Of, Uint, Len and Pow2 answer as the specification's. -/
import Derived.Test.YtjdkbbggelpchaaDoorSP
import Derived.Test.YtjdkbbggelpchaaDoorWorks
import Derived.Deep.CutBlock
import Derived.Deep.DeepCutAuto
namespace Go.Proofs.YtjdkbbggelpchaaDoor
open Go.RowKit SD

theorem len_bound (a K : Nat) (h : a < 2 ^ K) : lenN a ≤ K := by
  by_cases h0 : a = 0
  · subst h0; rw [lenN_zero]; omega
  · obtain ⟨b1, b2, b3⟩ := lenN_bounds a h0
    apply Nat.le_of_not_lt; intro hlt
    have : 2 ^ K ≤ 2 ^ (lenN a - 1) := Nat.pow_le_pow_right (by omega) (by omega)
    omega
theorem len_bound' (a j : Nat) (h : a < M.B ^ j) : lenN a ≤ 64 * j := len_bound a _ (by rw [Nat.pow_mul]; exact h)
theorem uints (a : Nat) : ∃ (u : Nat) (o : Bool), (∀ W, Calls Tryd.prog 25 #[nv a] W fun e w' => e = .returned (.tuple #[.int .u64 (u : Int), .bool o]) ∧ Below W.heap.size W w') ∧
    (∀ W, Calls Tryd.prog 29 #[.string (ds a)] W fun e w' => e = .returned (.tuple #[.int .u64 (u : Int), .bool o]) ∧ Below W.heap.size W w') := by
  by_cases h : a < M.B
  · exact ⟨a, true, fun W => uint_small a W h, fun W => suint_small a W (by rw [M.B_eq] at h; exact h)⟩
  · exact ⟨0, false, fun W => uint_large a W (by omega), fun W => suint_large a W (by rw [M.B_eq] at h; omega)⟩
theorem pows (n : Int) : ∃ p : Nat, Sm p ∧ (∀ W, Calls Tryd.prog 30 #[.int .i64 n] W fun e w' => e = .returned (nv p) ∧ Below W.heap.size W w') ∧
    (∀ W, Calls Tryd.prog 31 #[.int .i64 n] W fun e w' => e = .returned (.string (ds p)) ∧ Below W.heap.size W w') := by
  by_cases h : n < 0 ∨ 4096 < n
  · exact ⟨0, sm_word (by decide), fun W => pow2_out n h W, fun W => spow_out n W h⟩
  · obtain ⟨m, rfl⟩ : ∃ m : Nat, n = (m : Int) := ⟨n.toNat, by omega⟩
    obtain ⟨j, hj⟩ : ∃ j : Nat, j = 65 := ⟨_, rfl⟩
    refine ⟨2 ^ m, sm_pow (k := j) ?_ (by omega), fun W => pow2_in m (by omega) W, fun W => spow_in m W (by omega)⟩
    have : M.B ^ j = 2 ^ (64 * j) := by rw [Nat.pow_mul]; rfl
    rw [this]
    exact Nat.pow_lt_pow_right (by omega) (by omega)

/-- The list is long. -/
theorem of_long (n : Nat) (k : Int) (v1 : Option Addr) (n1 c1 : Nat) (w : World) (h : 20 < n1) (ht : Tabs w) (h6 : 6 ≤ w.heap.size) :
    Calls Tryd.prog 6 #[.int .u64 (n : Int), .int .i64 k, .slice v1 n1 c1] w fun e w' => e = .returned (.bool true) ∧ Below w.heap.size w w' := by
  have CW := mkHid (works_any w ht h6)
  clear ht h6
  have i1 : (20 : Int) < n1 := by omega
  clear h
  go_enter Tryd.func6, Tryd.ntmps6
  go_wp2_with (go_at_call 7; refine CW.out.mono ?_; rintro e w1 ⟨rfl, hb⟩)
  go_ret
  exact ⟨rfl, hb⟩

set_option maxRecDepth 100000 in
set_option maxHeartbeats 8000000 in
theorem of_short (n : Nat) (k : Int) (v1 : Option Addr) (l1 : List Nat) (c1 : Nat) (w : World) (hn : n < 18446744073709551616) (x1 : In32 w (.slice v1 l1.length c1) l1) (h1 : l1.length ≤ 20) (ht : Tabs w) (h6 : 6 ≤ w.heap.size) :
    Calls Tryd.prog 6 #[.int .u64 (n : Int), .int .i64 k, .slice v1 l1.length c1] w fun e w' => e = .returned (.bool true) ∧ Below w.heap.size w w' := by
  have CW := mkHid works_any
  have HS := mkHid (St.refl ht h6)
  have F1 := mkHid (fun W (hs : St w W) => number_g _ l1 w W x1 (by omega) hs)
  have A1 := v32_sm l1 x1.1 10 (by omega)
  have i1 : ¬ (20 : Int) < (l1.length : Int) := by omega
  have hnB : n < M.B := by rw [M.B_eq]; exact hn
  clear x1 h1 ht h6
  generalize v32 l1 = b at *
  generalize l1.length = n1 at *
  have sa : Sm n := sm_word hnB
  have sb : Sm b := sm_pow A1 (by omega)
  have d1 : Lib.nDigits b ≤ 201 := D.nDigits_words 10 b A1
  have d0 : Lib.nDigits n ≤ 21 := D.nDigits_words 1 n (by rw [Nat.pow_one]; exact hnB)
  have lb1 := len_bound' b 10 A1
  have lb0 := len_bound' n 1 (by rw [Nat.pow_one]; exact hnB)
  have C0 := mkHid (of_g n hnB)
  have CU1 := mkHid (fun W => uint_small n W hnB)
  have RO := mkHid (fun W => sof_any n W hn)
  have I1 := mkHid (is_g n sa)
  have CL1 := mkHid (fun W => len_any n W (Nat.le_trans sa (by omega)))
  have RL1 := mkHid (fun W => slen_any n W (by omega) (by omega))
  obtain ⟨u, o, CU2, RU2⟩ := uints b
  have CL2 := mkHid (fun W => len_any b W (Nat.le_trans sb (by omega)))
  have RL2 := mkHid (fun W => slen_any b W (by omega) (by omega))
  obtain ⟨p, sp, CP, RP⟩ := pows k
  have I2 := mkHid (is_g p sp)
  replace CU2 := mkHid CU2
  replace RU2 := mkHid RU2
  replace CP := mkHid CP
  replace RP := mkHid RP
  rw [natV_lohi] at CU1 CL1 CL2
  unfold nv at *
  clear A1 sa sb d1 d0 lb1 lb0 hnB hn sp
  generalize lo p = lp at *
  generalize hi p = kp at *
  generalize ds p = sp at *
  generalize lenN b = eb at *
  generalize lo b = lb at *
  generalize hi b = kb at *
  generalize ds b = sb at *
  generalize lenN n = en at *
  generalize lo n = la at *
  generalize hi n = ka at *
  generalize ds n = sn at *
  go_enter Tryd.func6, Tryd.ntmps6
  go_upto_region 5 with (first
    | (go_at_call 24; (with_reducible refine (C0.out _ HS.out.tabs HS.out.six').mono ?_); rintro e w1 ⟨rfl, hb⟩; have HS := mkHid (HS.out.next hb); have HS := mkHid (HS.out.alloc (.cells #[.int .u64 (la : Int), .string ka] 26)); have HA := mkHid (At2.new w1 (w1.heap.size) la ka rfl); clear hb; obtain ⟨HA1, HA2, -, -⟩ := HA.out)
    | (go_at_call 25; (with_reducible refine (CU1.out _).mono ?_); rintro e w2 ⟨rfl, hb⟩; have HS := mkHid (HS.out.next hb); have HA := mkHid (HA.out.grows hb); clear hb; obtain ⟨HA1, HA2, -, -⟩ := HA.out))
  have hs0 := HS.out
  generalize w1.heap.size = j1 at *
  obtain ⟨q0, q1, -, -⟩ := HA.out
  clear HA
  go_region_held3 (fun W => St w W ∧ W.cell? ⟨j1, 0, none⟩ = some (.int .u64 (la : Int)) ∧ W.cell? ⟨j1, 1, none⟩ = some (.string ka))
    (first
      | (with_reducible exact ⟨hS.1.next hb, St.cell hb hS.2.1, St.cell hb hS.2.2⟩)
      | exact ⟨hs0, q0, q1⟩
      | exact ⟨hs0.drew, q0, q1⟩)
    (first
      | (go_at_call 26; have hS : St w _ ∧ _ := (by assumption); ((with_reducible refine (RO.out _).mono ?_); rintro e w6 ⟨rfl, hb⟩))
      | (go_at_call 11; have hS : St w _ ∧ _ := (by assumption); ((with_reducible refine (I1.out _ hS.1.tabs hS.1.six').mono ?_); rintro e w6 ⟨rfl, hb⟩))
      | (go_at_call 27; have hS : St w _ ∧ _ := (by assumption); ((with_reducible refine (CL1.out _).mono ?_); rintro e w6 ⟨rfl, hb⟩))
      | (go_at_call 28; have hS : St w _ ∧ _ := (by assumption); ((with_reducible refine (RL1.out _).mono ?_); rintro e w6 ⟨rfl, hb⟩)))
  have hT : St w _ ∧ _ := (by assumption)
  have HS := mkHid hT.1
  clear hs0 q0 q1 hT
  go_wp2_with (first
    | (go_at_call 8; (with_reducible refine (F1.out _ HS.out).mono ?_); rintro e w11 ⟨rfl, hb⟩; have HS := mkHid (HS.out.next hb); have HS := mkHid (HS.out.alloc (.cells #[.int .u64 (lb : Int), .string kb] 26)); have HB := mkHid (At2.new w11 (w11.heap.size) lb kb rfl); clear hb; obtain ⟨HB1, HB2, -, -⟩ := HB.out)
    | (go_at_call 25; (with_reducible refine (CU2.out _).mono ?_); rintro e w12 ⟨rfl, hb⟩; have HS := mkHid (HS.out.next hb); have HB := mkHid (HB.out.grows hb); clear hb; obtain ⟨HB1, HB2, -, -⟩ := HB.out)
    | (go_at_call 29; (with_reducible refine (RU2.out _).mono ?_); rintro e w13 ⟨rfl, hb⟩; have HS := mkHid (HS.out.next hb); have HB := mkHid (HB.out.grows hb); clear hb; obtain ⟨HB1, HB2, -, -⟩ := HB.out)
    | (go_at_call 27; (with_reducible refine (CL2.out _).mono ?_); rintro e w14 ⟨rfl, hb⟩; have HS := mkHid (HS.out.next hb); have HB := mkHid (HB.out.grows hb); clear hb; obtain ⟨HB1, HB2, -, -⟩ := HB.out)
    | (go_at_call 28; (with_reducible refine (RL2.out _).mono ?_); rintro e w15 ⟨rfl, hb⟩; have HS := mkHid (HS.out.next hb); have HB := mkHid (HB.out.grows hb); clear hb; obtain ⟨HB1, HB2, -, -⟩ := HB.out)
    | (go_at_call 30; (with_reducible refine (CP.out _).mono ?_); rintro e w16 ⟨rfl, hb⟩; have HS := mkHid (HS.out.next hb); have HB := mkHid (HB.out.grows hb); clear hb; obtain ⟨HB1, HB2, -, -⟩ := HB.out)
    | (go_at_call 31; (with_reducible refine (RP.out _).mono ?_); rintro e w17 ⟨rfl, hb⟩; have HS := mkHid (HS.out.next hb); have HB := mkHid (HB.out.grows hb); clear hb; obtain ⟨HB1, HB2, -, -⟩ := HB.out)
    | (go_at_call 11; (with_reducible refine (I2.out _ HS.out.tabs HS.out.six').mono ?_); rintro e w18 ⟨rfl, hb⟩; have HS := mkHid (HS.out.next hb); have HB := mkHid (HB.out.grows hb); clear hb; obtain ⟨HB1, HB2, -, -⟩ := HB.out)
    | (go_at_call 7; (with_reducible refine (CW.out _ HS.out.tabs HS.out.six').mono ?_); rintro e w19 ⟨rfl, hb⟩; have HS := mkHid (HS.out.next hb); have HB := mkHid (HB.out.grows hb); clear hb; obtain ⟨HB1, HB2, -, -⟩ := HB.out))
  go_ret
  exact ⟨rfl, HS.out.below⟩

theorem of_anyl (n : Nat) (k : Int) (v : Value) (l1 : List Nat) (w : World) (hn : n < 18446744073709551616) (x1 : In32 w v l1) (ht : Tabs w) (h6 : 6 ≤ w.heap.size) :
    Calls Tryd.prog 6 #[.int .u64 (n : Int), .int .i64 k, v] w fun e w' => e = .returned (.bool true) ∧ Below w.heap.size w w' := by
  obtain ⟨a1, c1, rfl⟩ := x1.form
  by_cases h : 20 < l1.length
  · exact of_long n k a1 _ c1 w h ht h6
  · exact of_short n k a1 l1 c1 w hn x1 (by omega) ht h6
theorem nof_any (n : Nat) (k : Int) (v : Value) (l1 : List Nat) (w : World) (hn : n < 18446744073709551616) (_ : (-9223372036854775808 : Int) ≤ k) (x1 : In32 w v l1) (ht : Tabs w) (h6 : 6 ≤ w.heap.size) :
    Calls Tryd.prog 6 #[.int .u64 (n : Int), .int .i64 k, v] w fun e w' => e = .returned (.bool true) ∧ Below w.heap.size w w' := of_anyl n k v l1 w hn x1 ht h6
end Go.Proofs.YtjdkbbggelpchaaDoor
