/- The contract of the laws' works. -/
import Derived.Test.YtjdkbbggelpchaaDoorV32
import Derived.Test.YtjdkbbggelpchaaDoorLen
import Derived.Deep.RegionHeld3
namespace Go.Proofs.YtjdkbbggelpchaaDoor
open Go.RowKit

theorem dec_of (n : Nat) (l : List UInt8) (h : D.isDec l = true) (hv : D.dv l = n) : Lib.decDigits n = l := by rw [← hv]; exact D.dec_dv l h
theorem lread_l (l : List UInt8) (n : Nat) (h : D.isDec l = true) (hv : D.dv l = n) : Gives 32 #[.string ⟨l.toArray⟩] (nv n) := by
  have e := dec_of n l h hv
  have := lread_g n (by rw [← Lib.decDigits_length, e]; exact (D.isDec_facts h).2.1)
  rwa [e] at this
theorem len_2_64 : lenN 18446744073709551616 = 65 := by
  have e : M.dig 18446744073709551616 = [0, 1] := by
    have := M.dig_val (l := [0, 1]) (M.Ok.cons M.B_pos (M.Ok.cons M.one_lt_B M.Ok.nil)) (by intro _; simp)
    rwa [show M.val [0, 1] = 18446744073709551616 from rfl] at this
  unfold lenN
  rw [e]; decide

set_option maxRecDepth 100000 in
set_option maxHeartbeats 4000000 in
theorem works_any : Gives 7 #[] (.bool true) := by
  intro w ht h6
  have CO1 := mkHid (of_g 18446744073709551615 (by decide))
  have CR1 := mkHid (lread_l [49, 48, 48, 48, 48, 48, 48, 48, 48, 48, 48, 48, 48, 48, 48, 48, 48, 48, 48, 48, 48] 100000000000000000000 (by decide) (by decide))
  have CO7 := mkHid (of_g 7 (by decide))
  have CD := mkHid (div_g 100000000000000000000 7 (sm_pow (k := 2) (by rw [M.B_eq]; decide) (by decide)) (by decide))
  rw [show 100000000000000000000 / 7 = 14285714285714285714 by decide, show 100000000000000000000 % 7 = 2 by decide] at CD
  have CM := mkHid (mul_g 18446744073709551615 18446744073709551615 (sm_word (by decide)) (sm_word (by decide)))
  rw [show 18446744073709551615 * 18446744073709551615 = 340282366920938463426481119284349108225 by decide] at CM
  have CT1 := mkHid (text_g 340282366920938463426481119284349108225 (sm_pow (k := 2) (by rw [M.B_eq]; decide) (by decide)))
  rw [dec_of 340282366920938463426481119284349108225 [51, 52, 48, 50, 56, 50, 51, 54, 54, 57, 50, 48, 57, 51, 56, 52, 54, 51, 52, 50, 54, 52, 56, 49, 49, 49, 57, 50, 56, 52, 51, 52, 57, 49, 48, 56, 50, 50, 53] (by decide) (by decide)] at CT1
  have CT2 := mkHid (text_g 14285714285714285714 (sm_word (by decide)))
  rw [dec_of 14285714285714285714 [49, 52, 50, 56, 53, 55, 49, 52, 50, 56, 53, 55, 49, 52, 50, 56, 53, 55, 49, 52] (by decide) (by decide)] at CT2
  have CO2 := mkHid (of_g 2 (by decide))
  have CP64 := mkHid (pow_g 64 (by decide))
  rw [show 2 ^ 64 = 18446744073709551616 by decide] at CP64
  have CP70 := mkHid (pow_g 70 (by decide))
  rw [show 2 ^ 70 = 1180591620717411303424 by decide] at CP70
  have CL := mkHid (fun W => len_any 18446744073709551616 W (Nat.le_trans (sm_pow (k := 2) (n := 18446744073709551616) (by rw [M.B_eq]; decide) (by decide)) (by decide)))
  rw [len_2_64] at CL
  have CR2 := mkHid (lread_l [51, 54, 53, 54, 49, 53, 56, 52, 52, 48, 48, 54, 50, 57, 55, 54] 3656158440062976 (by decide) (by decide))
  have CG := mkHid (gcd_g 1180591620717411303424 3656158440062976 (sm_pow (k := 2) (by rw [M.B_eq]; decide) (by decide)) (sm_word (by decide)))
  rw [show Nat.gcd 1180591620717411303424 3656158440062976 = 1048576 by decide +kernel] at CG
  have CT3 := mkHid (text_g 1048576 (sm_word (by decide)))
  rw [dec_of 1048576 [49, 48, 52, 56, 53, 55, 54] (by decide) (by decide)] at CT3
  have HS0 := mkHid (St.refl ht h6)
  clear ht h6
  rw [show ((18446744073709551615 : Nat) : Int) = 18446744073709551615 from rfl] at CO1
  rw [show ((7 : Nat) : Int) = 7 from rfl] at CO7
  rw [show ((2 : Nat) : Int) = 2 from rfl] at CO2
  rw [show ((64 : Nat) : Int) = 64 from rfl] at CP64
  rw [show ((70 : Nat) : Int) = 70 from rfl] at CP70
  rw [show ((65 : Nat) : Int) = 65 from rfl] at CL
  unfold natV at CL
  have CL2 : Hid (Gives 27 #[nv 18446744073709551616] (.int .i64 65)) := mkHid (fun W _ _ => CL.out W)
  clear CL
  unfold nv at *
  generalize lo 18446744073709551615 = l1 at *
  generalize hi 18446744073709551615 = h1 at *
  generalize lo 100000000000000000000 = l2 at *
  generalize hi 100000000000000000000 = h2 at *
  generalize lo 7 = l3 at *
  generalize hi 7 = h3 at *
  generalize lo 14285714285714285714 = l4 at *
  generalize hi 14285714285714285714 = h4 at *
  generalize lo 2 = l5 at *
  generalize hi 2 = h5 at *
  generalize lo 340282366920938463426481119284349108225 = l6 at *
  generalize hi 340282366920938463426481119284349108225 = h6 at *
  generalize lo 18446744073709551616 = l7 at *
  generalize hi 18446744073709551616 = h7 at *
  generalize lo 1180591620717411303424 = l8 at *
  generalize hi 1180591620717411303424 = h8 at *
  generalize lo 3656158440062976 = l9 at *
  generalize hi 3656158440062976 = h9 at *
  generalize lo 1048576 = l10 at *
  generalize hi 1048576 = h10 at *
  go_enter Tryd.func7, Tryd.ntmps7
  go_upto_region 3 with (first
    | (go_at_call_of 24 (Value.int .u64 18446744073709551615); refine (CO1.out _ HS0.out.tabs HS0.out.six').mono ?_; rintro e w1 ⟨rfl, hb⟩; have HS1 := mkHid ((HS0.out.next hb).alloc (.cells #[.int .u64 (l1 : Int), .string h1] 26)); have HA1 := mkHid (At2.new w1 w1.heap.size l1 h1 rfl); clear hb)
    | (go_at_call 32; refine (CR1.out _ HS1.out.tabs HS1.out.six').mono ?_; rintro e w2 ⟨rfl, hb⟩; have HS2 := mkHid (HS1.out.next hb); have HA2 := mkHid (HA1.out.grows hb); clear hb)
    | (go_at_call_of 24 (Value.int .u64 7); refine (CO7.out _ HS2.out.tabs HS2.out.six').mono ?_; rintro e w3 ⟨rfl, hb⟩; have HS3 := mkHid (HS2.out.next hb); have HA3 := mkHid (HA2.out.grows hb); clear hb)
    | (go_at_call 16; refine (CD.out _ HS3.out.tabs HS3.out.six').mono ?_; rintro e w4 ⟨rfl, hb⟩; have HS4 := mkHid (((HS3.out.next hb).alloc (.cells #[.int .u64 (l4 : Int), .string h4] 26)).alloc (.cells #[.int .u64 (l5 : Int), .string h5] 26)); have HA4 := mkHid (((HA3.out.grows hb).alloc (.cells #[.int .u64 (l4 : Int), .string h4] 26)).alloc (.cells #[.int .u64 (l5 : Int), .string h5] 26)); clear hb))
  have HA5 := mkHid ((At2.new w4 w4.heap.size l4 h4 rfl).alloc (.cells #[.int .u64 (l5 : Int), .string h5] 26))
  have HA6 := mkHid (At2.new (w4.alloc (.cells #[.int .u64 (l4 : Int), .string h4] 26)) (w4.heap.size + 1) l5 h5 (by simp))
  have HSV := HS4.out
  obtain ⟨a1, a2, -, -⟩ := HA4.out
  obtain ⟨b1, b2, -, -⟩ := HA5.out
  obtain ⟨c1, c2, -, -⟩ := HA6.out
  clear HA1 HA2 HA3 HA4 HA5 HA6 HS1 HS2 HS3 HS4 HS0
  generalize w1.heap.size = p1 at *
  generalize w4.heap.size + 1 = p3 at *
  generalize w4.heap.size = p2 at *
  go_region_held3 (fun W => W.cell? ⟨p1, 0, none⟩ = some (.int .u64 (l1 : Int)) ∧ W.cell? ⟨p1, 1, none⟩ = some (.string h1) ∧ W.cell? ⟨p2, 0, none⟩ = some (.int .u64 (l4 : Int)) ∧ W.cell? ⟨p2, 1, none⟩ = some (.string h4) ∧ W.cell? ⟨p3, 0, none⟩ = some (.int .u64 (l5 : Int)) ∧ W.cell? ⟨p3, 1, none⟩ = some (.string h5) ∧ St w W)
    (first
      | exact ⟨a1, a2, b1, b2, c1, c2, HSV.drew⟩
      | exact ⟨St.cell hb hS.1, St.cell hb hS.2.1, St.cell hb hS.2.2.1, St.cell hb hS.2.2.2.1, St.cell hb hS.2.2.2.2.1, St.cell hb hS.2.2.2.2.2.1, hS.2.2.2.2.2.2.next hb⟩
      | fail)
    (first
      | (go_at_call 18; have hS : _ ∧ _ ∧ _ ∧ _ ∧ _ ∧ _ ∧ St w _ := (by assumption); refine (CM.out _ hS.2.2.2.2.2.2.tabs hS.2.2.2.2.2.2.six').mono ?_; rintro e w5 ⟨rfl, hb⟩)
      | (go_at_call_of 33 (Value.agg #[.int .u64 (l6 : Int), .string h6]); have hS : _ ∧ _ ∧ _ ∧ _ ∧ _ ∧ _ ∧ St w _ := (by assumption); refine (CT1.out _ hS.2.2.2.2.2.2.tabs hS.2.2.2.2.2.2.six').mono ?_; rintro e w5 ⟨rfl, hb⟩)
      | (go_at_call_of 33 (Value.agg #[.int .u64 (l4 : Int), .string h4]); have hS : _ ∧ _ ∧ _ ∧ _ ∧ _ ∧ _ ∧ St w _ := (by assumption); refine (CT2.out _ hS.2.2.2.2.2.2.tabs hS.2.2.2.2.2.2.six').mono ?_; rintro e w5 ⟨rfl, hb⟩)
      | (go_at_call_of 33 (Value.agg #[.int .u64 (l10 : Int), .string h10]); have hS : _ ∧ _ ∧ _ ∧ _ ∧ _ ∧ _ ∧ St w _ := (by assumption); refine (CT3.out _ hS.2.2.2.2.2.2.tabs hS.2.2.2.2.2.2.six').mono ?_; rintro e w5 ⟨rfl, hb⟩)
      | (go_at_call 24; have hS : _ ∧ _ ∧ _ ∧ _ ∧ _ ∧ _ ∧ St w _ := (by assumption); refine (CO2.out _ hS.2.2.2.2.2.2.tabs hS.2.2.2.2.2.2.six').mono ?_; rintro e w5 ⟨rfl, hb⟩)
      | (go_at_call_of 30 (Value.int .i64 64); have hS : _ ∧ _ ∧ _ ∧ _ ∧ _ ∧ _ ∧ St w _ := (by assumption); refine (CP64.out _ hS.2.2.2.2.2.2.tabs hS.2.2.2.2.2.2.six').mono ?_; rintro e w5 ⟨rfl, hb⟩)
      | (go_at_call_of 30 (Value.int .i64 70); have hS : _ ∧ _ ∧ _ ∧ _ ∧ _ ∧ _ ∧ St w _ := (by assumption); refine (CP70.out _ hS.2.2.2.2.2.2.tabs hS.2.2.2.2.2.2.six').mono ?_; rintro e w5 ⟨rfl, hb⟩)
      | (go_at_call 27; have hS : _ ∧ _ ∧ _ ∧ _ ∧ _ ∧ _ ∧ St w _ := (by assumption); refine (CL2.out _ hS.2.2.2.2.2.2.tabs hS.2.2.2.2.2.2.six').mono ?_; rintro e w5 ⟨rfl, hb⟩)
      | (go_at_call 32; have hS : _ ∧ _ ∧ _ ∧ _ ∧ _ ∧ _ ∧ St w _ := (by assumption); refine (CR2.out _ hS.2.2.2.2.2.2.tabs hS.2.2.2.2.2.2.six').mono ?_; rintro e w5 ⟨rfl, hb⟩)
      | (go_at_call 20; have hS : _ ∧ _ ∧ _ ∧ _ ∧ _ ∧ _ ∧ St w _ := (by assumption); refine (CG.out _ hS.2.2.2.2.2.2.tabs hS.2.2.2.2.2.2.six').mono ?_; rintro e w5 ⟨rfl, hb⟩))
  have hE : _ ∧ _ ∧ _ ∧ _ ∧ _ ∧ _ ∧ St w w5 := (by assumption)
  have HE := mkHid hE.2.2.2.2.2.2.below
  clear hE
  go_wp2_with fail
  go_ret
  exact ⟨rfl, HE.out⟩
end Go.Proofs.YtjdkbbggelpchaaDoor
