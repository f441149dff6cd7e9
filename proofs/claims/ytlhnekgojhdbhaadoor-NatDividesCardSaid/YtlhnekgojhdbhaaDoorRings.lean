/- The contract of NatRings. -/
import Derived.Test.YtlhnekgojhdbhaaDoorWorks
import Derived.Test.YtlhnekgojhdbhaaDoorFrom
namespace Go.Proofs.YtlhnekgojhdbhaaDoor
open Go.RowKit

theorem sub_g (a b : Nat) (ha : Sm a) (h : b ≤ a) : Gives 14 #[nv a, nv b] (.tuple #[nv (a - b), .bool true]) := fun W _ _ => by
  have := sub_any a b W (Nat.le_trans ha (by omega))
  rwa [decide_eq_true h] at this
theorem sm_add {a b k : Nat} (ha : a < M.B ^ k) (hb : b < M.B ^ k) (hk : k + 1 ≤ 900) : Sm (a + b) := sm_pow (k := k + 1) (by
  rw [Nat.pow_succ]
  have : M.B ^ k * 2 ≤ M.B ^ k * M.B := Nat.mul_le_mul_left _ (by rw [M.B_eq]; omega)
  omega) hk
theorem sm_mul {a b j k : Nat} (ha : a < M.B ^ j) (hb : b < M.B ^ k) (hk : j + k ≤ 900) : Sm (a * b) := sm_pow (k := j + k) (by
  rw [Nat.pow_add]
  exact Nat.mul_lt_mul_of_lt_of_le ha (Nat.le_of_lt hb) (M.B_pow_pos _)) hk

/-- Some of the lists is long. -/
theorem rings_long (v1 v2 v3 : Option Addr) (n1 n2 n3 c1 c2 c3 : Nat) (w : World) (h : 16 < n1 ∨ 16 < n2 ∨ 16 < n3) (ht : Tabs w) (h6 : 6 ≤ w.heap.size) :
    Calls Tryd.prog 8 #[.slice v1 n1 c1, .slice v2 n2 c2, .slice v3 n3 c3] w fun e w' => e = .returned (.bool true) ∧ Below w.heap.size w w' := by
  have CW := mkHid (works_any w ht h6)
  clear ht h6
  by_cases h1 : 16 < n1
  · have i1 : (16 : Int) < n1 := by omega
    clear h
    go_enter Tryd.func8, Tryd.ntmps8
    go_wp2_with (go_at_call 12; refine CW.out.mono ?_; rintro e w1 ⟨rfl, hb⟩)
    go_ret
    exact ⟨rfl, hb⟩
  · have i1 : (n1 : Int) ≤ 16 := by omega
    by_cases h2 : 16 < n2
    · have i2 : (16 : Int) < n2 := by omega
      clear h
      go_enter Tryd.func8, Tryd.ntmps8
      go_wp2_with (go_at_call 12; refine CW.out.mono ?_; rintro e w1 ⟨rfl, hb⟩)
      go_ret
      exact ⟨rfl, hb⟩
    · have i2 : (n2 : Int) ≤ 16 := by omega
      have i3 : (16 : Int) < n3 := by omega
      clear h
      go_enter Tryd.func8, Tryd.ntmps8
      go_wp2_with (go_at_call 12; refine CW.out.mono ?_; rintro e w1 ⟨rfl, hb⟩)
      go_ret
      exact ⟨rfl, hb⟩

set_option maxRecDepth 100000 in
set_option maxHeartbeats 8000000 in
theorem rings_short (v1 v2 v3 : Option Addr) (l1 l2 l3 : List Nat) (c1 c2 c3 : Nat) (w : World) (x1 : In32 w (.slice v1 l1.length c1) l1) (x2 : In32 w (.slice v2 l2.length c2) l2) (x3 : In32 w (.slice v3 l3.length c3) l3)
    (h1 : l1.length ≤ 16) (h2 : l2.length ≤ 16) (h3 : l3.length ≤ 16) (ht : Tabs w) (h6 : 6 ≤ w.heap.size) :
    Calls Tryd.prog 8 #[.slice v1 l1.length c1, .slice v2 l2.length c2, .slice v3 l3.length c3] w fun e w' => e = .returned (.bool true) ∧ Below w.heap.size w w' := by
  have CW := mkHid works_any
  have HS0 := mkHid (St.refl ht h6)
  have F1 := mkHid (fun W (hs : St w W) => from_g _ l1 w W x1 (by omega) hs)
  have F2 := mkHid (fun W (hs : St w W) => from_g _ l2 w W x2 (by omega) hs)
  have F3 := mkHid (fun W (hs : St w W) => from_g _ l3 w W x3 (by omega) hs)
  have A1 := v32_sm l1 x1.1 8 (by omega)
  have A2 := v32_sm l2 x2.1 8 (by omega)
  have A3 := v32_sm l3 x3.1 8 (by omega)
  have i1 : (l1.length : Int) ≤ 16 := by omega
  have i2 : (l2.length : Int) ≤ 16 := by omega
  have i3 : (l3.length : Int) ≤ 16 := by omega
  clear x1 x2 x3 h1 h2 h3 ht h6
  generalize v32 l1 = a at *
  generalize v32 l2 = b at *
  generalize v32 l3 = c at *
  generalize l1.length = n1 at *
  generalize l2.length = n2 at *
  generalize l3.length = n3 at *
  have sa : Sm a := sm_pow A1 (by omega)
  have sb : Sm b := sm_pow A2 (by omega)
  have sc : Sm c := sm_pow A3 (by omega)
  have ss : Sm (a + b) := sm_add A1 A2 (by omega)
  have sbc : Sm (b + c) := sm_add A2 A3 (by omega)
  have sab : Sm (a * b) := sm_mul A1 A2 (by omega)
  have sac : Sm (a * c) := sm_mul A1 A3 (by omega)
  have smbc : Sm (b * c) := sm_mul A2 A3 (by omega)
  have s0 : Sm 0 := sm_word (by decide)
  have s1 : Sm 1 := sm_word (by decide)
  have Cs := add_g a b sa sb
  have Cd := sub_g (a + b) a ss (Nat.le_add_right _ _)
  rw [show a + b - a = b by omega] at Cd
  have Cba := add_g b a sb sa
  rw [Nat.add_comm b a] at Cba
  have Csc := add_g (a + b) c ss sc
  have Cbc := add_g b c sb sc
  have Cabc := add_g a (b + c) sa sbc
  rw [← Nat.add_assoc a b c] at Cabc
  have Cmab := mul_g a b sa sb
  have Cmba := mul_g b a sb sa
  rw [Nat.mul_comm b a] at Cmba
  have Cmabc := mul_g (a * b) c sab sc
  have Cmbc := mul_g b c sb sc
  have Cmabc2 := mul_g a (b * c) sa smbc
  rw [← Nat.mul_assoc a b c] at Cmabc2
  have Cmsc := mul_g (a + b) c ss sc
  have Cmac := mul_g a c sa sc
  have Cdist := add_g (a * c) (b * c) sac smbc
  rw [← Nat.add_mul a b c] at Cdist
  have C0 := of_g 0 (by decide)
  have C1 := of_g 1 (by decide)
  have Ca0 := add_g a 0 sa s0
  rw [Nat.add_zero a] at Ca0
  have Cm1 := mul_g a 1 sa s1
  rw [Nat.mul_one a] at Cm1
  have Cm0 := mul_g a 0 sa s0
  rw [Nat.mul_zero a] at Cm0
  rw [show ((0 : Nat) : Int) = 0 from rfl] at C0
  rw [show ((1 : Nat) : Int) = 1 from rfl] at C1
  unfold nv at F1 F2 F3 Cs Cd Cba Csc Cbc Cabc Cmab Cmba Cmabc Cmbc Cmabc2 Cmsc Cmac Cdist C0 C1 Ca0 Cm1 Cm0
  clear A1 A2 A3 sa sb sc ss sbc sab sac smbc s0 s1
  generalize lo (a + b + c) = lasc at *
  generalize hi (a + b + c) = hasc at *
  generalize lo (a * b * c) = lmabc at *
  generalize hi (a * b * c) = hmabc at *
  generalize lo ((a + b) * c) = lmsc at *
  generalize hi ((a + b) * c) = hmsc at *
  generalize lo (a * b) = lmab at *
  generalize hi (a * b) = hmab at *
  generalize lo (a * c) = lmac at *
  generalize hi (a * c) = hmac at *
  generalize lo (b * c) = lmbc at *
  generalize hi (b * c) = hmbc at *
  generalize lo (b + c) = labc at *
  generalize hi (b + c) = habc at *
  generalize lo (a + b) = ls at *
  generalize hi (a + b) = hs' at *
  generalize lo a = la at *
  generalize hi a = ha at *
  generalize lo b = lb at *
  generalize hi b = hb' at *
  generalize lo c = lc at *
  generalize hi c = hc at *
  generalize lo 0 = lz at *
  generalize hi 0 = hz at *
  generalize lo 1 = lo at *
  generalize hi 1 = ho at *
  have Cs := mkHid Cs
  have Cd := mkHid Cd
  have Cba := mkHid Cba
  have Csc := mkHid Csc
  have Cbc := mkHid Cbc
  have Cabc := mkHid Cabc
  have Cmab := mkHid Cmab
  have Cmba := mkHid Cmba
  have Cmabc := mkHid Cmabc
  have Cmbc := mkHid Cmbc
  have Cmabc2 := mkHid Cmabc2
  have Cmsc := mkHid Cmsc
  have Cmac := mkHid Cmac
  have Cdist := mkHid Cdist
  have C0 := mkHid C0
  have C1 := mkHid C1
  have Ca0 := mkHid Ca0
  have Cm1 := mkHid Cm1
  have Cm0 := mkHid Cm0
  go_enter Tryd.func8, Tryd.ntmps8
  go_upto_region 6 with (first
    | (go_at_call 37; ((with_reducible refine (F1.out _ HS0.out).mono ?_); rintro e w1 ⟨rfl, hb⟩; have HS1 := mkHid (HS0.out.next hb); clear hb F1))
    | (go_at_call 37; ((with_reducible refine (F2.out _ HS1.out).mono ?_); rintro e w2 ⟨rfl, hb⟩; have HS2 := mkHid (HS1.out.next hb); clear hb F2))
    | (go_at_call 37; ((with_reducible refine (F3.out _ HS2.out).mono ?_); rintro e w3 ⟨rfl, hb⟩; have HS3 := mkHid ((((HS2.out.next hb).alloc (.cells #[.int .u64 (la : Int), .string ha] 26)).alloc (.cells #[.int .u64 (lb : Int), .string hb'] 26)).alloc (.cells #[.int .u64 (lc : Int), .string hc] 26)); have HA := mkHid (((At2.new w3 w3.heap.size la ha rfl).alloc (.cells #[.int .u64 (lb : Int), .string hb'] 26)).alloc (.cells #[.int .u64 (lc : Int), .string hc] 26)); have HB := mkHid ((At2.new (w3.alloc (.cells #[.int .u64 (la : Int), .string ha] 26)) (w3.heap.size + 1) lb hb' (by simp)).alloc (.cells #[.int .u64 (lc : Int), .string hc] 26)); have HC := mkHid (At2.new ((w3.alloc (.cells #[.int .u64 (la : Int), .string ha] 26)).alloc (.cells #[.int .u64 (lb : Int), .string hb'] 26)) (w3.heap.size + 1 + 1) lc hc (by simp)); clear hb))
    | (go_at_call 17; refine (Cs.out _ HS3.out.tabs HS3.out.six').mono ?_; rintro e w4 ⟨rfl, hb⟩; have HS4 := mkHid ((HS3.out.next hb).alloc (.cells #[.int .u64 (ls : Int), .string hs'] 26)); have HA4 := mkHid ((HA.out.grows hb).alloc (.cells #[.int .u64 (ls : Int), .string hs'] 26)); have HB4 := mkHid ((HB.out.grows hb).alloc (.cells #[.int .u64 (ls : Int), .string hs'] 26)); have HC4 := mkHid ((HC.out.grows hb).alloc (.cells #[.int .u64 (ls : Int), .string hs'] 26)); have HD4 := mkHid (At2.new w4 w4.heap.size ls hs' rfl); obtain ⟨a1, a2, -, -⟩ := HA4.out; clear hb)
    | (go_at_call 14; refine (Cd.out _ HS4.out.tabs HS4.out.six').mono ?_; rintro e w5 ⟨rfl, hb⟩; have HS5 := mkHid ((HS4.out.next hb).alloc (.cells #[.int .u64 (lb : Int), .string hb'] 26)); have HA5 := mkHid ((HA4.out.grows hb).alloc (.cells #[.int .u64 (lb : Int), .string hb'] 26)); have HB5 := mkHid ((HB4.out.grows hb).alloc (.cells #[.int .u64 (lb : Int), .string hb'] 26)); have HC5 := mkHid ((HC4.out.grows hb).alloc (.cells #[.int .u64 (lb : Int), .string hb'] 26)); have HD5 := mkHid ((HD4.out.grows hb).alloc (.cells #[.int .u64 (lb : Int), .string hb'] 26)); have HE5 := mkHid (At2.new w5 w5.heap.size lb hb' rfl); clear hb))
  clear HA HB HC HA4 HB4 HC4 HD4 HS1 HS2 HS3 HS4 F3 a1 a2
  obtain ⟨p1, p2, -, -⟩ := HA5.out
  obtain ⟨q1, q2, -, -⟩ := HB5.out
  obtain ⟨r1, r2, -, -⟩ := HC5.out
  obtain ⟨s1, s2, -, -⟩ := HD5.out
  obtain ⟨t1, t2, -, -⟩ := HE5.out
  have hs0 := HS5.out.drew
  clear HA5 HB5 HC5 HD5 HE5 HS5 HS0
  generalize w3.heap.size + 1 + 1 = k3 at *
  generalize w3.heap.size + 1 = k2 at *
  generalize w3.heap.size = k1 at *
  generalize w4.heap.size = k4 at *
  generalize w5.heap.size = k5 at *
  go_region_held3 (fun W => St w W ∧ W.cell? ⟨k1, 0, none⟩ = some (.int .u64 (la : Int)) ∧ W.cell? ⟨k1, 1, none⟩ = some (.string ha) ∧ W.cell? ⟨k2, 0, none⟩ = some (.int .u64 (lb : Int)) ∧ W.cell? ⟨k2, 1, none⟩ = some (.string hb') ∧ W.cell? ⟨k3, 0, none⟩ = some (.int .u64 (lc : Int)) ∧ W.cell? ⟨k3, 1, none⟩ = some (.string hc) ∧ W.cell? ⟨k4, 0, none⟩ = some (.int .u64 (ls : Int)) ∧ W.cell? ⟨k4, 1, none⟩ = some (.string hs') ∧ W.cell? ⟨k5, 0, none⟩ = some (.int .u64 (lb : Int)) ∧ W.cell? ⟨k5, 1, none⟩ = some (.string hb'))
    (first
      | (with_reducible exact ⟨hS.1.next hb, St.cell hb hS.2.1, St.cell hb hS.2.2.1, St.cell hb hS.2.2.2.1, St.cell hb hS.2.2.2.2.1, St.cell hb hS.2.2.2.2.2.1, St.cell hb hS.2.2.2.2.2.2.1, St.cell hb hS.2.2.2.2.2.2.2.1, St.cell hb hS.2.2.2.2.2.2.2.2.1, St.cell hb hS.2.2.2.2.2.2.2.2.2.1, St.cell hb hS.2.2.2.2.2.2.2.2.2.2⟩)
      | exact ⟨hs0, p1, p2, q1, q2, r1, r2, s1, s2, t1, t2⟩)
    (first
      | (go_at_call 17; have hS : St w _ ∧ _ := (by assumption); ((with_reducible refine (Cba.out _ hS.1.tabs hS.1.six').mono ?_); rintro e w6 ⟨rfl, hb⟩))
      | (go_at_call 17; have hS : St w _ ∧ _ := (by assumption); ((with_reducible refine (Csc.out _ hS.1.tabs hS.1.six').mono ?_); rintro e w6 ⟨rfl, hb⟩))
      | (go_at_call 17; have hS : St w _ ∧ _ := (by assumption); ((with_reducible refine (Cbc.out _ hS.1.tabs hS.1.six').mono ?_); rintro e w6 ⟨rfl, hb⟩))
      | (go_at_call 17; have hS : St w _ ∧ _ := (by assumption); ((with_reducible refine (Cabc.out _ hS.1.tabs hS.1.six').mono ?_); rintro e w6 ⟨rfl, hb⟩))
      | (go_at_call 23; have hS : St w _ ∧ _ := (by assumption); ((with_reducible refine (Cmab.out _ hS.1.tabs hS.1.six').mono ?_); rintro e w6 ⟨rfl, hb⟩))
      | (go_at_call 23; have hS : St w _ ∧ _ := (by assumption); ((with_reducible refine (Cmba.out _ hS.1.tabs hS.1.six').mono ?_); rintro e w6 ⟨rfl, hb⟩)))
  have hT : St w _ ∧ _ := (by assumption)
  have HT := mkHid hT
  clear hs0 p1 p2 q1 q2 r1 r2 s1 s2 t1 t2 hT
  go_wp2_with fail
  obtain ⟨hs0, p1, p2, q1, q2, r1, r2, s1, s2, t1, t2⟩ := HT.out
  clear HT
  go_region_held3 (fun W => St w W ∧ W.cell? ⟨k1, 0, none⟩ = some (.int .u64 (la : Int)) ∧ W.cell? ⟨k1, 1, none⟩ = some (.string ha) ∧ W.cell? ⟨k2, 0, none⟩ = some (.int .u64 (lb : Int)) ∧ W.cell? ⟨k2, 1, none⟩ = some (.string hb') ∧ W.cell? ⟨k3, 0, none⟩ = some (.int .u64 (lc : Int)) ∧ W.cell? ⟨k3, 1, none⟩ = some (.string hc) ∧ W.cell? ⟨k4, 0, none⟩ = some (.int .u64 (ls : Int)) ∧ W.cell? ⟨k4, 1, none⟩ = some (.string hs') ∧ W.cell? ⟨k5, 0, none⟩ = some (.int .u64 (lb : Int)) ∧ W.cell? ⟨k5, 1, none⟩ = some (.string hb'))
    (first
      | (with_reducible exact ⟨hS.1.next hb, St.cell hb hS.2.1, St.cell hb hS.2.2.1, St.cell hb hS.2.2.2.1, St.cell hb hS.2.2.2.2.1, St.cell hb hS.2.2.2.2.2.1, St.cell hb hS.2.2.2.2.2.2.1, St.cell hb hS.2.2.2.2.2.2.2.1, St.cell hb hS.2.2.2.2.2.2.2.2.1, St.cell hb hS.2.2.2.2.2.2.2.2.2.1, St.cell hb hS.2.2.2.2.2.2.2.2.2.2⟩)
      | exact ⟨hs0.drew, p1, p2, q1, q2, r1, r2, s1, s2, t1, t2⟩)
    (first
      | (go_at_call 23; have hS : St w _ ∧ _ := (by assumption); ((with_reducible refine (Cmabc.out _ hS.1.tabs hS.1.six').mono ?_); rintro e w6 ⟨rfl, hb⟩))
      | (go_at_call 23; have hS : St w _ ∧ _ := (by assumption); ((with_reducible refine (Cmbc.out _ hS.1.tabs hS.1.six').mono ?_); rintro e w6 ⟨rfl, hb⟩))
      | (go_at_call 23; have hS : St w _ ∧ _ := (by assumption); ((with_reducible refine (Cmabc2.out _ hS.1.tabs hS.1.six').mono ?_); rintro e w6 ⟨rfl, hb⟩))
      | (go_at_call 23; have hS : St w _ ∧ _ := (by assumption); ((with_reducible refine (Cmsc.out _ hS.1.tabs hS.1.six').mono ?_); rintro e w6 ⟨rfl, hb⟩))
      | (go_at_call 23; have hS : St w _ ∧ _ := (by assumption); ((with_reducible refine (Cmac.out _ hS.1.tabs hS.1.six').mono ?_); rintro e w6 ⟨rfl, hb⟩))
      | (go_at_call 23; have hS : St w _ ∧ _ := (by assumption); ((with_reducible refine (Cmab.out _ hS.1.tabs hS.1.six').mono ?_); rintro e w6 ⟨rfl, hb⟩))
      | (go_at_call 23; have hS : St w _ ∧ _ := (by assumption); ((with_reducible refine (Cm1.out _ hS.1.tabs hS.1.six').mono ?_); rintro e w6 ⟨rfl, hb⟩))
      | (go_at_call 23; have hS : St w _ ∧ _ := (by assumption); ((with_reducible refine (Cm0.out _ hS.1.tabs hS.1.six').mono ?_); rintro e w6 ⟨rfl, hb⟩))
      | (go_at_call 17; have hS : St w _ ∧ _ := (by assumption); ((with_reducible refine (Cdist.out _ hS.1.tabs hS.1.six').mono ?_); rintro e w6 ⟨rfl, hb⟩))
      | (go_at_call 17; have hS : St w _ ∧ _ := (by assumption); ((with_reducible refine (Ca0.out _ hS.1.tabs hS.1.six').mono ?_); rintro e w6 ⟨rfl, hb⟩))
      | (go_at_call 29; have hS : St w _ ∧ _ := (by assumption); ((with_reducible refine (C0.out _ hS.1.tabs hS.1.six').mono ?_); rintro e w6 ⟨rfl, hb⟩))
      | (go_at_call 29; have hS : St w _ ∧ _ := (by assumption); ((with_reducible refine (C1.out _ hS.1.tabs hS.1.six').mono ?_); rintro e w6 ⟨rfl, hb⟩))
      | (go_at_call 12; have hS : St w _ ∧ _ := (by assumption); ((with_reducible refine (CW.out _ hS.1.tabs hS.1.six').mono ?_); rintro e w6 ⟨rfl, hb⟩)))
  have hE : St w _ ∧ _ := (by assumption)
  have HE := mkHid hE.1.below
  clear hE
  go_wp2_with fail
  go_ret
  exact ⟨rfl, HE.out⟩

theorem rings_any (u1 u2 u3 : Value) (l1 l2 l3 : List Nat) (w : World) (x1 : In32 w u1 l1) (x2 : In32 w u2 l2) (x3 : In32 w u3 l3) (ht : Tabs w) (h6 : 6 ≤ w.heap.size) :
    Calls Tryd.prog 8 #[u1, u2, u3] w fun e w' => e = .returned (.bool true) ∧ Below w.heap.size w w' := by
  obtain ⟨v1, c1, rfl⟩ := x1.form
  obtain ⟨v2, c2, rfl⟩ := x2.form
  obtain ⟨v3, c3, rfl⟩ := x3.form
  by_cases h : l1.length ≤ 16 ∧ l2.length ≤ 16 ∧ l3.length ≤ 16
  · exact rings_short v1 v2 v3 l1 l2 l3 c1 c2 c3 w x1 x2 x3 h.1 h.2.1 h.2.2 ht h6
  · exact rings_long v1 v2 v3 _ _ _ c1 c2 c3 w (by omega) ht h6
end Go.Proofs.YtlhnekgojhdbhaaDoor
