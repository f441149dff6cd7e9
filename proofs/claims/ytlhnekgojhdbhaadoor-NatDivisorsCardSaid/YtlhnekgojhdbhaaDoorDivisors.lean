/- The contract of NatDivisors. -/
import Derived.Test.YtlhnekgojhdbhaaDoorRings
import Derived.Test.YtlhnekgojhdbhaaDoorParts
import Derived.Deep.CutBlock
import Derived.Deep.DeepCutAuto
namespace Go.Proofs.YtlhnekgojhdbhaaDoor
open Go.RowKit

/-- Some of the lists is long. -/
theorem divisors_long (v1 v2 v3 : Option Addr) (n1 n2 n3 c1 c2 c3 : Nat) (w : World) (h : 12 < n1 ∨ 12 < n2 ∨ 6 < n3) (ht : Tabs w) (h6 : 6 ≤ w.heap.size) :
    Calls Tryd.prog 9 #[.slice v1 n1 c1, .slice v2 n2 c2, .slice v3 n3 c3] w fun e w' => e = .returned (.bool true) ∧ Below w.heap.size w w' := by
  have CW := mkHid (works_any w ht h6)
  clear ht h6
  by_cases g1 : 12 < n1
  · have i1 : (12 : Int) < n1 := by omega
    clear h
    go_enter Tryd.func9, Tryd.ntmps9
    go_wp2_with (go_at_call 12; refine CW.out.mono ?_; rintro e w1 ⟨rfl, hb⟩)
    go_ret
    exact ⟨rfl, hb⟩
  · have i1 : (n1 : Int) ≤ 12 := by omega
    by_cases g2 : 12 < n2
    · have i2 : (12 : Int) < n2 := by omega
      clear h
      go_enter Tryd.func9, Tryd.ntmps9
      go_wp2_with (go_at_call 12; refine CW.out.mono ?_; rintro e w1 ⟨rfl, hb⟩)
      go_ret
      exact ⟨rfl, hb⟩
    · have i2 : (n2 : Int) ≤ 12 := by omega
      have i3 : (6 : Int) < n3 := by omega
      clear h
      go_enter Tryd.func9, Tryd.ntmps9
      go_wp2_with (go_at_call 12; refine CW.out.mono ?_; rintro e w1 ⟨rfl, hb⟩)
      go_ret
      exact ⟨rfl, hb⟩

set_option maxRecDepth 100000 in
set_option maxHeartbeats 8000000 in
theorem divisors_zero (v1 : Option Addr) (v2 : Option Addr) (v3 : Option Addr) (l1 : List Nat) (l2 : List Nat) (l3 : List Nat) (c1 : Nat) (c2 : Nat) (c3 : Nat) (w : World) (x1 : In32 w (.slice v1 l1.length c1) l1) (x2 : In32 w (.slice v2 l2.length c2) l2) (x3 : In32 w (.slice v3 l3.length c3) l3)
    (h1 : l1.length ≤ 12) (h2 : l2.length ≤ 12) (h3 : l3.length ≤ 6) (hz : v32 l2 = 0) (ht : Tabs w) (h6 : 6 ≤ w.heap.size) :
    Calls Tryd.prog 9 #[.slice v1 l1.length c1, .slice v2 l2.length c2, .slice v3 l3.length c3] w fun e w' => e = .returned (.bool true) ∧ Below w.heap.size w w' := by
  have CW := mkHid works_any
  have HS0 := mkHid (St.refl ht h6)
  have F1 := mkHid (fun W (hs : St w W) => from_g _ l1 w W x1 (by omega) hs)
  have F2 := mkHid (fun W (hs : St w W) => from_g _ l2 w W x2 (by omega) hs)
  have F3 := mkHid (fun W (hs : St w W) => from_g _ l3 w W x3 (by omega) hs)
  have A1 := v32_sm l1 x1.1 6 (by omega)
  have A2 := v32_sm l2 x2.1 6 (by omega)
  have A3 := v32_sm l3 x3.1 3 (by omega)
  have i1 : (l1.length : Int) ≤ 12 := by omega
  have i2 : (l2.length : Int) ≤ 12 := by omega
  have i3 : (l3.length : Int) ≤ 6 := by omega
  clear x1 x2 x3 h1 h2 h3 ht h6
  generalize v32 l1 = a at *
  generalize v32 l2 = b at *
  generalize v32 l3 = c at *
  generalize l1.length = n1 at *
  generalize l2.length = n2 at *
  generalize l3.length = n3 at *
  have sa : Sm a := sm_pow A1 (by omega)
  have sb : Sm b := sm_pow A2 (by omega)
  have sc : Sm c := sm_pow A3 (by omega)
  have A1' := Nat.lt_of_lt_of_le A1 (Nat.pow_le_pow_right M.B_pos (show 6 ≤ 9 by omega))
  have ska : Sm (c * a) := sm_mul A3 A1 (by omega)
  have skb : Sm (c * b) := sm_mul A3 A2 (by omega)
  subst hz
  have sg : Sm a := sa
  rw [Nat.mul_zero] at skb
  have Cg := gcd_g a 0 sa sb
  rw [Nat.gcd_zero_right] at Cg
  have Cgba := gcd_g 0 a sb sa
  rw [Nat.gcd_zero_left] at Cgba
  have Cka := mul_g c a sc sa
  have Ckb := mul_g c 0 sc sb
  rw [Nat.mul_zero] at Ckb
  have Cgk := gcd_g (c * a) 0 ska sb
  rw [Nat.gcd_zero_right] at Cgk
  have C0 := of_g 0 (by decide)
  rw [show ((0 : Nat) : Int) = 0 from rfl] at C0
  unfold nv at F1 F2 F3 Cg Cgba Cka Ckb Cgk C0
  clear A1 A2 A3 A1' sa sb sc ska skb sg
  generalize lo (c * a) = lka at *
  generalize hi (c * a) = kka at *
  generalize lo a = la at *
  generalize hi a = ka at *
  generalize lo c = lc at *
  generalize hi c = kc at *
  generalize lo 0 = lz at *
  generalize hi 0 = kz at *
  have Cg := mkHid Cg
  have Cgba := mkHid Cgba
  have Cka := mkHid Cka
  have Ckb := mkHid Ckb
  have Cgk := mkHid Cgk
  have C0 := mkHid C0
  go_enter Tryd.func9, Tryd.ntmps9
  go_upto_region 5 with (first
    | (go_at_call 37; ((with_reducible refine (F1.out _ HS0.out).mono ?_); rintro e w1 ⟨rfl, hb⟩; have HS1 := mkHid (HS0.out.next hb); clear hb F1))
    | (go_at_call 37; ((with_reducible refine (F2.out _ HS1.out).mono ?_); rintro e w2 ⟨rfl, hb⟩; have HS2 := mkHid (HS1.out.next hb); clear hb F2))
    | (go_at_call 37; ((with_reducible refine (F3.out _ HS2.out).mono ?_); rintro e w3 ⟨rfl, hb⟩; have HS3 := mkHid ((((HS2.out.next hb).alloc (.cells #[.int .u64 (la : Int), .string ka] 26)).alloc (.cells #[.int .u64 (lz : Int), .string kz] 26)).alloc (.cells #[.int .u64 (lc : Int), .string kc] 26)); have HC := mkHid (Cs.box (Cs.box (Cs.box (Cs.nil w3) w3.heap.size la ka rfl) (w3.heap.size + 1) lz kz (by simp)) (w3.heap.size + 1 + 1) lc kc (by simp)); clear hb))
    | (go_at_call 25; refine (Cg.out _ HS3.out.tabs HS3.out.six').mono ?_; rintro e w4 ⟨rfl, hb⟩; have HS4 := mkHid ((HS3.out.next hb).alloc (.cells #[.int .u64 (la : Int), .string ka] 26)); have HD := mkHid (Cs.box (HC.out.next hb) w4.heap.size la ka rfl); clear hb))
  obtain ⟨q0, q1⟩ := HD.out _ (.tail _ (.tail _ (.tail _ (.head _))))
  obtain ⟨q2, q3⟩ := HD.out _ (.tail _ (.tail _ (.head _)))
  obtain ⟨q4, q5⟩ := HD.out _ (.tail _ (.head _))
  obtain ⟨q6, q7⟩ := HD.out _ (.head _)
  have hs0 := HS4.out.drew
  clear HC HD HS1 HS2 HS3 HS4 HS0 F3
  dsimp only at q0 q1 q2 q3 q4 q5 q6 q7
  generalize w3.heap.size + 1 + 1 = j3 at *
  generalize w3.heap.size + 1 = j2 at *
  generalize w3.heap.size = j1 at *
  generalize w4.heap.size = j4 at *
  go_region_held3 (fun W => St w W ∧ W.cell? ⟨j1, 0, none⟩ = some (.int .u64 (la : Int)) ∧ W.cell? ⟨j1, 1, none⟩ = some (.string ka) ∧ W.cell? ⟨j2, 0, none⟩ = some (.int .u64 (lz : Int)) ∧ W.cell? ⟨j2, 1, none⟩ = some (.string kz) ∧ W.cell? ⟨j3, 0, none⟩ = some (.int .u64 (lc : Int)) ∧ W.cell? ⟨j3, 1, none⟩ = some (.string kc) ∧ W.cell? ⟨j4, 0, none⟩ = some (.int .u64 (la : Int)) ∧ W.cell? ⟨j4, 1, none⟩ = some (.string ka))
    (first
      | (with_reducible exact ⟨hS.1.next hb, St.cell hb hS.2.1, St.cell hb hS.2.2.1, St.cell hb hS.2.2.2.1, St.cell hb hS.2.2.2.2.1, St.cell hb hS.2.2.2.2.2.1, St.cell hb hS.2.2.2.2.2.2.1, St.cell hb hS.2.2.2.2.2.2.2.1, St.cell hb hS.2.2.2.2.2.2.2.2⟩)
      | exact ⟨hs0, q0, q1, q2, q3, q4, q5, q6, q7⟩)
    (first
      | (go_at_call 25; have hS : St w _ ∧ _ := (by assumption); ((with_reducible refine (Cgba.out _ hS.1.tabs hS.1.six').mono ?_); rintro e w6 ⟨rfl, hb⟩))
      | (go_at_call 23; have hS : St w _ ∧ _ := (by assumption); ((with_reducible refine (Cka.out _ hS.1.tabs hS.1.six').mono ?_); rintro e w6 ⟨rfl, hb⟩))
      | (go_at_call 23; have hS : St w _ ∧ _ := (by assumption); ((with_reducible refine (Ckb.out _ hS.1.tabs hS.1.six').mono ?_); rintro e w6 ⟨rfl, hb⟩))
      | (go_at_call 25; have hS : St w _ ∧ _ := (by assumption); ((with_reducible refine (Cgk.out _ hS.1.tabs hS.1.six').mono ?_); rintro e w6 ⟨rfl, hb⟩)))
  have hT : St w _ ∧ _ := (by assumption)
  have HT := mkHid hT
  clear hs0 q0 q1 q2 q3 q4 q5 q6 q7 hT
  go_wp2_with fail
  obtain ⟨hs0, q0, q1, q2, q3, q4, q5, q6, q7⟩ := HT.out
  clear HT
  go_region_held3 (fun W => St w W ∧ W.cell? ⟨j1, 0, none⟩ = some (.int .u64 (la : Int)) ∧ W.cell? ⟨j1, 1, none⟩ = some (.string ka) ∧ W.cell? ⟨j2, 0, none⟩ = some (.int .u64 (lz : Int)) ∧ W.cell? ⟨j2, 1, none⟩ = some (.string kz) ∧ W.cell? ⟨j3, 0, none⟩ = some (.int .u64 (lc : Int)) ∧ W.cell? ⟨j3, 1, none⟩ = some (.string kc) ∧ W.cell? ⟨j4, 0, none⟩ = some (.int .u64 (la : Int)) ∧ W.cell? ⟨j4, 1, none⟩ = some (.string ka))
    (first
      | (with_reducible exact ⟨hS.1.next hb, St.cell hb hS.2.1, St.cell hb hS.2.2.1, St.cell hb hS.2.2.2.1, St.cell hb hS.2.2.2.2.1, St.cell hb hS.2.2.2.2.2.1, St.cell hb hS.2.2.2.2.2.2.1, St.cell hb hS.2.2.2.2.2.2.2.1, St.cell hb hS.2.2.2.2.2.2.2.2⟩)
      | exact ⟨hs0.drew, q0, q1, q2, q3, q4, q5, q6, q7⟩)
    (first
      | (go_at_call 29; have hS : St w _ ∧ _ := (by assumption); ((with_reducible refine (C0.out _ hS.1.tabs hS.1.six').mono ?_); rintro e w6 ⟨rfl, hb⟩)))
  have hT : St w _ ∧ _ := (by assumption)
  have HT := mkHid hT.1
  obtain ⟨-, a0, a1, a2, a3, a4, a5, a6, a7⟩ := hT
  clear hs0 q0 q1 q2 q3 q4 q5 q6 q7
  go_wp2_with (go_at_call 12; refine (CW.out _ HT.out.tabs HT.out.six').mono ?_; rintro e w7 ⟨rfl, hb⟩; have HE := mkHid (HT.out.next hb).below; clear hb)
  go_ret
  exact ⟨rfl, HE.out⟩

set_option maxRecDepth 100000 in
set_option maxHeartbeats 8000000 in
theorem divisors_pos (v1 : Option Addr) (v2 : Option Addr) (v3 : Option Addr) (l1 : List Nat) (l2 : List Nat) (l3 : List Nat) (c1 : Nat) (c2 : Nat) (c3 : Nat) (w : World) (x1 : In32 w (.slice v1 l1.length c1) l1) (x2 : In32 w (.slice v2 l2.length c2) l2) (x3 : In32 w (.slice v3 l3.length c3) l3)
    (h1 : l1.length ≤ 12) (h2 : l2.length ≤ 12) (h3 : l3.length ≤ 6) (hz : v32 l2 ≠ 0) (ht : Tabs w) (h6 : 6 ≤ w.heap.size) :
    Calls Tryd.prog 9 #[.slice v1 l1.length c1, .slice v2 l2.length c2, .slice v3 l3.length c3] w fun e w' => e = .returned (.bool true) ∧ Below w.heap.size w w' := by
  have CW := mkHid works_any
  have HS0 := mkHid (St.refl ht h6)
  have F1 := mkHid (fun W (hs : St w W) => from_g _ l1 w W x1 (by omega) hs)
  have F2 := mkHid (fun W (hs : St w W) => from_g _ l2 w W x2 (by omega) hs)
  have F3 := mkHid (fun W (hs : St w W) => from_g _ l3 w W x3 (by omega) hs)
  have A1 := v32_sm l1 x1.1 6 (by omega)
  have A2 := v32_sm l2 x2.1 6 (by omega)
  have A3 := v32_sm l3 x3.1 3 (by omega)
  have i1 : (l1.length : Int) ≤ 12 := by omega
  have i2 : (l2.length : Int) ≤ 12 := by omega
  have i3 : (l3.length : Int) ≤ 6 := by omega
  clear x1 x2 x3 h1 h2 h3 ht h6
  generalize v32 l1 = a at *
  generalize v32 l2 = b at *
  generalize v32 l3 = c at *
  generalize l1.length = n1 at *
  generalize l2.length = n2 at *
  generalize l3.length = n3 at *
  have sa : Sm a := sm_pow A1 (by omega)
  have sb : Sm b := sm_pow A2 (by omega)
  have sc : Sm c := sm_pow A3 (by omega)
  have A1' := Nat.lt_of_lt_of_le A1 (Nat.pow_le_pow_right M.B_pos (show 6 ≤ 9 by omega))
  have ska : Sm (c * a) := sm_mul A3 A1 (by omega)
  have skb : Sm (c * b) := sm_mul A3 A2 (by omega)
  have hb0 : 0 < b := Nat.pos_of_ne_zero hz
  have hg0 : Nat.gcd a b ≠ 0 := Nat.pos_iff_ne_zero.1 (Nat.gcd_pos_of_pos_right a hb0)
  have sg : Sm (Nat.gcd a b) := sm_le (Nat.gcd_le_right a hb0) sb
  have sr : Sm (a % b) := sm_le (Nat.mod_le a b) sa
  have e1 : Nat.gcd b (a % b) = Nat.gcd a b := by rw [Nat.gcd_comm b (a % b), ← Nat.gcd_rec b a, Nat.gcd_comm]
  have e2 : a % Nat.gcd a b = 0 := Nat.mod_eq_zero_of_dvd (Nat.gcd_dvd_left a b)
  have e3 : b % Nat.gcd a b = 0 := Nat.mod_eq_zero_of_dvd (Nat.gcd_dvd_right a b)
  have hne := parts_ne hz
  have Cg := gcd_g a b sa sb
  have Cgba := gcd_g b a sb sa
  rw [Nat.gcd_comm b a] at Cgba
  have Cka := mul_g c a sc sa
  have Ckb := mul_g c b sc sb
  have Cgk := gcd_g (c * a) (c * b) ska skb
  rw [Nat.gcd_mul_left c a b] at Cgk
  have Ckg := mul_g c (Nat.gcd a b) sc sg
  have C0 := of_g 0 (by decide)
  have Cd1 := div_g a b sa hz
  have Cd2 := div_g a (Nat.gcd a b) sa hg0
  rw [e2] at Cd2
  have Cd3 := div_g b (Nat.gcd a b) sb hg0
  rw [e3] at Cd3
  have Cgr := gcd_g b (a % b) sb sr
  rw [e1] at Cgr
  rw [show ((0 : Nat) : Int) = 0 from rfl] at C0
  unfold nv at F1 F2 F3 Cg Cgba Cka Ckb Cgk Ckg C0 Cd1 Cd2 Cd3 Cgr
  clear A1 A2 A3 A1' sa sb sc ska skb sg sr e1 e2 e3 hb0 hg0 hz
  generalize lo (c * Nat.gcd a b) = lkg at *
  generalize hi (c * Nat.gcd a b) = kkg at *
  generalize lo (c * a) = lka at *
  generalize hi (c * a) = kka at *
  generalize lo (c * b) = lkb at *
  generalize hi (c * b) = kkb at *
  generalize lo (a / Nat.gcd a b) = lag at *
  generalize hi (a / Nat.gcd a b) = kag at *
  generalize lo (b / Nat.gcd a b) = lbg at *
  generalize hi (b / Nat.gcd a b) = kbg at *
  generalize lo (Nat.gcd a b) = lg at *
  generalize hi (Nat.gcd a b) = kg at *
  generalize lo (a / b) = lq at *
  generalize hi (a / b) = kq at *
  generalize lo (a % b) = lr at *
  generalize hi (a % b) = kr at *
  generalize lo a = la at *
  generalize hi a = ka at *
  generalize lo b = lb at *
  generalize hi b = kb at *
  generalize lo c = lc at *
  generalize hi c = kc at *
  generalize lo 0 = lz at *
  generalize hi 0 = kz at *
  have Cg := mkHid Cg
  have Cgba := mkHid Cgba
  have Cka := mkHid Cka
  have Ckb := mkHid Ckb
  have Cgk := mkHid Cgk
  have Ckg := mkHid Ckg
  have C0 := mkHid C0
  have Cd1 := mkHid Cd1
  have Cd2 := mkHid Cd2
  have Cd3 := mkHid Cd3
  have Cgr := mkHid Cgr
  have HNE := mkHid hne
  clear hne
  go_enter Tryd.func9, Tryd.ntmps9
  go_upto_region 5 with (first
    | (go_at_call 37; ((with_reducible refine (F1.out _ HS0.out).mono ?_); rintro e w1 ⟨rfl, hb⟩; have HS1 := mkHid (HS0.out.next hb); clear hb F1))
    | (go_at_call 37; ((with_reducible refine (F2.out _ HS1.out).mono ?_); rintro e w2 ⟨rfl, hb⟩; have HS2 := mkHid (HS1.out.next hb); clear hb F2))
    | (go_at_call 37; ((with_reducible refine (F3.out _ HS2.out).mono ?_); rintro e w3 ⟨rfl, hb⟩; have HS3 := mkHid ((((HS2.out.next hb).alloc (.cells #[.int .u64 (la : Int), .string ka] 26)).alloc (.cells #[.int .u64 (lb : Int), .string kb] 26)).alloc (.cells #[.int .u64 (lc : Int), .string kc] 26)); have HC := mkHid (Cs.box (Cs.box (Cs.box (Cs.nil w3) w3.heap.size la ka rfl) (w3.heap.size + 1) lb kb (by simp)) (w3.heap.size + 1 + 1) lc kc (by simp)); clear hb))
    | (go_at_call 25; refine (Cg.out _ HS3.out.tabs HS3.out.six').mono ?_; rintro e w4 ⟨rfl, hb⟩; have HS4 := mkHid ((HS3.out.next hb).alloc (.cells #[.int .u64 (lg : Int), .string kg] 26)); have HD := mkHid (Cs.box (HC.out.next hb) w4.heap.size lg kg rfl); clear hb))
  obtain ⟨q0, q1⟩ := HD.out _ (.tail _ (.tail _ (.tail _ (.head _))))
  obtain ⟨q2, q3⟩ := HD.out _ (.tail _ (.tail _ (.head _)))
  obtain ⟨q4, q5⟩ := HD.out _ (.tail _ (.head _))
  obtain ⟨q6, q7⟩ := HD.out _ (.head _)
  have hs0 := HS4.out.drew
  clear HC HD HS1 HS2 HS3 HS4 HS0 F3
  dsimp only at q0 q1 q2 q3 q4 q5 q6 q7
  generalize w3.heap.size + 1 + 1 = j3 at *
  generalize w3.heap.size + 1 = j2 at *
  generalize w3.heap.size = j1 at *
  generalize w4.heap.size = j4 at *
  go_region_held3 (fun W => St w W ∧ W.cell? ⟨j1, 0, none⟩ = some (.int .u64 (la : Int)) ∧ W.cell? ⟨j1, 1, none⟩ = some (.string ka) ∧ W.cell? ⟨j2, 0, none⟩ = some (.int .u64 (lb : Int)) ∧ W.cell? ⟨j2, 1, none⟩ = some (.string kb) ∧ W.cell? ⟨j3, 0, none⟩ = some (.int .u64 (lc : Int)) ∧ W.cell? ⟨j3, 1, none⟩ = some (.string kc) ∧ W.cell? ⟨j4, 0, none⟩ = some (.int .u64 (lg : Int)) ∧ W.cell? ⟨j4, 1, none⟩ = some (.string kg))
    (first
      | (with_reducible exact ⟨hS.1.next hb, St.cell hb hS.2.1, St.cell hb hS.2.2.1, St.cell hb hS.2.2.2.1, St.cell hb hS.2.2.2.2.1, St.cell hb hS.2.2.2.2.2.1, St.cell hb hS.2.2.2.2.2.2.1, St.cell hb hS.2.2.2.2.2.2.2.1, St.cell hb hS.2.2.2.2.2.2.2.2⟩)
      | exact ⟨hs0, q0, q1, q2, q3, q4, q5, q6, q7⟩)
    (first
      | (go_at_call 25; have hS : St w _ ∧ _ := (by assumption); ((with_reducible refine (Cgba.out _ hS.1.tabs hS.1.six').mono ?_); rintro e w6 ⟨rfl, hb⟩))
      | (go_at_call 23; have hS : St w _ ∧ _ := (by assumption); ((with_reducible refine (Cka.out _ hS.1.tabs hS.1.six').mono ?_); rintro e w6 ⟨rfl, hb⟩))
      | (go_at_call 23; have hS : St w _ ∧ _ := (by assumption); ((with_reducible refine (Ckb.out _ hS.1.tabs hS.1.six').mono ?_); rintro e w6 ⟨rfl, hb⟩))
      | (go_at_call 25; have hS : St w _ ∧ _ := (by assumption); ((with_reducible refine (Cgk.out _ hS.1.tabs hS.1.six').mono ?_); rintro e w6 ⟨rfl, hb⟩))
      | (go_at_call 23; have hS : St w _ ∧ _ := (by assumption); ((with_reducible refine (Ckg.out _ hS.1.tabs hS.1.six').mono ?_); rintro e w6 ⟨rfl, hb⟩)))
  have hT : St w _ ∧ _ := (by assumption)
  have HT := mkHid hT
  clear hs0 q0 q1 q2 q3 q4 q5 q6 q7 hT
  go_wp2_with fail
  obtain ⟨hs0, q0, q1, q2, q3, q4, q5, q6, q7⟩ := HT.out
  clear HT
  go_cut [63] (fun v63 wx => v63 = .bool false ∧ St w wx ∧ wx.cell? ⟨j1, 0, none⟩ = some (.int .u64 (la : Int)) ∧ wx.cell? ⟨j1, 1, none⟩ = some (.string ka) ∧ wx.cell? ⟨j2, 0, none⟩ = some (.int .u64 (lb : Int)) ∧ wx.cell? ⟨j2, 1, none⟩ = some (.string kb) ∧ wx.cell? ⟨j3, 0, none⟩ = some (.int .u64 (lc : Int)) ∧ wx.cell? ⟨j3, 1, none⟩ = some (.string kc) ∧ wx.cell? ⟨j4, 0, none⟩ = some (.int .u64 (lg : Int)) ∧ wx.cell? ⟨j4, 1, none⟩ = some (.string kg))
  case first =>
    rcases HNE.out with hn | hn
    all_goals
      go_region_held3 (fun W => St w W ∧ W.cell? ⟨j1, 0, none⟩ = some (.int .u64 (la : Int)) ∧ W.cell? ⟨j1, 1, none⟩ = some (.string ka) ∧ W.cell? ⟨j2, 0, none⟩ = some (.int .u64 (lb : Int)) ∧ W.cell? ⟨j2, 1, none⟩ = some (.string kb) ∧ W.cell? ⟨j3, 0, none⟩ = some (.int .u64 (lc : Int)) ∧ W.cell? ⟨j3, 1, none⟩ = some (.string kc) ∧ W.cell? ⟨j4, 0, none⟩ = some (.int .u64 (lg : Int)) ∧ W.cell? ⟨j4, 1, none⟩ = some (.string kg))
        (first
          | (with_reducible exact ⟨hS.1.next hb, St.cell hb hS.2.1, St.cell hb hS.2.2.1, St.cell hb hS.2.2.2.1, St.cell hb hS.2.2.2.2.1, St.cell hb hS.2.2.2.2.2.1, St.cell hb hS.2.2.2.2.2.2.1, St.cell hb hS.2.2.2.2.2.2.2.1, St.cell hb hS.2.2.2.2.2.2.2.2⟩)
          | exact ⟨hs0.drew, q0, q1, q2, q3, q4, q5, q6, q7⟩)
        (first
          | (go_at_call 29; have hS : St w _ ∧ _ := (by assumption); ((with_reducible refine (C0.out _ hS.1.tabs hS.1.six').mono ?_); rintro e w6 ⟨rfl, hb⟩)))
      all_goals
        have hT : St w _ ∧ _ := (by assumption)
        go_wp2_with fail
        go_meet
        exact ⟨rfl, hT⟩
  case rest =>
  obtain ⟨rfl, hs0, q0, q1, q2, q3, q4, q5, q6, q7⟩ := hcut
  have HSX := mkHid hs0
  have HCX := mkHid (Cs.cons (Cs.cons (Cs.cons (Cs.cons (Cs.nil _) q0 q1) q2 q3) q4 q5) q6 q7)
  clear HNE hs0
  go_upto_region 12 with (first
    | (go_at_call 21; ((with_reducible refine (Cd1.out _ HSX.out.tabs HSX.out.six').mono ?_); rintro e w7 ⟨rfl, hb⟩; have HS7 := mkHid (((HSX.out.next hb).alloc (.cells #[.int .u64 (lq : Int), .string kq] 26)).alloc (.cells #[.int .u64 (lr : Int), .string kr] 26)); have HC7 := mkHid (Cs.box (Cs.box (HCX.out.next hb) w7.heap.size lq kq rfl) (w7.heap.size + 1) lr kr (by simp)); obtain ⟨e0, e1⟩ := HC7.out _ (.tail _ (.tail _ (.tail _ (.tail _ (.tail _ (.head _)))))); obtain ⟨e2, e3⟩ := HC7.out _ (.tail _ (.tail _ (.head _))); dsimp only at e0 e1 e2 e3; clear hb))
    | (go_at_call 21; ((with_reducible refine (Cd2.out _ HS7.out.tabs HS7.out.six').mono ?_); rintro e w8 ⟨rfl, hb⟩; have HS8 := mkHid (((HS7.out.next hb).alloc (.cells #[.int .u64 (lag : Int), .string kag] 26)).alloc (.cells #[.int .u64 (lz : Int), .string kz] 26)); have HC8 := mkHid (Cs.box (Cs.box (HC7.out.next hb) w8.heap.size lag kag rfl) (w8.heap.size + 1) lz kz (by simp)); obtain ⟨f0, f1⟩ := HC8.out _ (.tail _ (.tail _ (.tail _ (.tail _ (.tail _ (.tail _ (.head _))))))); obtain ⟨f2, f3⟩ := HC8.out _ (.tail _ (.tail _ (.tail _ (.tail _ (.head _))))); dsimp only at f0 f1 f2 f3; clear hb))
    | (go_at_call 21; ((with_reducible refine (Cd3.out _ HS8.out.tabs HS8.out.six').mono ?_); rintro e w9 ⟨rfl, hb⟩; have HS9 := mkHid (((HS8.out.next hb).alloc (.cells #[.int .u64 (lbg : Int), .string kbg] 26)).alloc (.cells #[.int .u64 (lz : Int), .string kz] 26)); have HC9 := mkHid (Cs.box (Cs.box (HC8.out.next hb) w9.heap.size lbg kbg rfl) (w9.heap.size + 1) lz kz (by simp)); clear hb)))
  clear q0 q1 q2 q3 q4 q5 q6 q7 e0 e1 e2 e3 f0 f1 f2 f3
  obtain ⟨q0, q1⟩ := HC9.out _ (.tail _ (.tail _ (.tail _ (.tail _ (.tail _ (.tail _ (.tail _ (.tail _ (.head _)))))))))
  obtain ⟨q2, q3⟩ := HC9.out _ (.tail _ (.tail _ (.tail _ (.tail _ (.tail _ (.tail _ (.head _)))))))
  obtain ⟨q4, q5⟩ := HC9.out _ (.tail _ (.tail _ (.tail _ (.tail _ (.head _)))))
  obtain ⟨q6, q7⟩ := HC9.out _ (.tail _ (.tail _ (.head _)))
  obtain ⟨q8, q9⟩ := HC9.out _ (.head _)
  dsimp only at q0 q1 q2 q3 q4 q5 q6 q7 q8 q9
  have hs0 := HS9.out.drew
  clear HC7 HC8 HC9 HCX HS7 HS8 HS9 HSX
  generalize w7.heap.size + 1 = j5 at *
  generalize w8.heap.size + 1 = j6 at *
  generalize w9.heap.size + 1 = j7 at *
  go_region_held3 (fun W => St w W ∧ W.cell? ⟨j2, 0, none⟩ = some (.int .u64 (lb : Int)) ∧ W.cell? ⟨j2, 1, none⟩ = some (.string kb) ∧ W.cell? ⟨j4, 0, none⟩ = some (.int .u64 (lg : Int)) ∧ W.cell? ⟨j4, 1, none⟩ = some (.string kg) ∧ W.cell? ⟨j5, 0, none⟩ = some (.int .u64 (lr : Int)) ∧ W.cell? ⟨j5, 1, none⟩ = some (.string kr) ∧ W.cell? ⟨j6, 0, none⟩ = some (.int .u64 (lz : Int)) ∧ W.cell? ⟨j6, 1, none⟩ = some (.string kz) ∧ W.cell? ⟨j7, 0, none⟩ = some (.int .u64 (lz : Int)) ∧ W.cell? ⟨j7, 1, none⟩ = some (.string kz))
    (first
      | (with_reducible exact ⟨hS.1.next hb, St.cell hb hS.2.1, St.cell hb hS.2.2.1, St.cell hb hS.2.2.2.1, St.cell hb hS.2.2.2.2.1, St.cell hb hS.2.2.2.2.2.1, St.cell hb hS.2.2.2.2.2.2.1, St.cell hb hS.2.2.2.2.2.2.2.1, St.cell hb hS.2.2.2.2.2.2.2.2.1, St.cell hb hS.2.2.2.2.2.2.2.2.2.1, St.cell hb hS.2.2.2.2.2.2.2.2.2.2⟩)
      | exact ⟨hs0, q0, q1, q2, q3, q4, q5, q6, q7, q8, q9⟩)
    (first
      | (go_at_call 25; have hS : St w _ ∧ _ := (by assumption); ((with_reducible refine (Cgr.out _ hS.1.tabs hS.1.six').mono ?_); rintro e w6 ⟨rfl, hb⟩))
      | (go_at_call 29; have hS : St w _ ∧ _ := (by assumption); ((with_reducible refine (C0.out _ hS.1.tabs hS.1.six').mono ?_); rintro e w6 ⟨rfl, hb⟩))
      | (go_at_call 12; have hS : St w _ ∧ _ := (by assumption); ((with_reducible refine (CW.out _ hS.1.tabs hS.1.six').mono ?_); rintro e w6 ⟨rfl, hb⟩)))
  have hE : St w _ ∧ _ := (by assumption)
  have HE := mkHid hE.1.below
  clear hE
  go_wp2_with fail
  go_ret
  exact ⟨rfl, HE.out⟩

theorem divisors_any (u1 u2 u3 : Value) (l1 l2 l3 : List Nat) (w : World) (x1 : In32 w u1 l1) (x2 : In32 w u2 l2) (x3 : In32 w u3 l3) (ht : Tabs w) (h6 : 6 ≤ w.heap.size) :
    Calls Tryd.prog 9 #[u1, u2, u3] w fun e w' => e = .returned (.bool true) ∧ Below w.heap.size w w' := by
  obtain ⟨v1, c1, rfl⟩ := x1.form
  obtain ⟨v2, c2, rfl⟩ := x2.form
  obtain ⟨v3, c3, rfl⟩ := x3.form
  by_cases h : l1.length ≤ 12 ∧ l2.length ≤ 12 ∧ l3.length ≤ 6
  · by_cases hz : v32 l2 = 0
    · exact divisors_zero v1 v2 v3 l1 l2 l3 c1 c2 c3 w x1 x2 x3 h.1 h.2.1 h.2.2 hz ht h6
    · exact divisors_pos v1 v2 v3 l1 l2 l3 c1 c2 c3 w x1 x2 x3 h.1 h.2.1 h.2.2 hz ht h6
  · exact divisors_long v1 v2 v3 _ _ _ c1 c2 c3 w (by omega) ht h6
end Go.Proofs.YtlhnekgojhdbhaaDoor
