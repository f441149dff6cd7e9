/- The contract of NatDivides. -/
import Derived.Test.YtlhnekgojhdbhaaDoorRings
import Derived.Test.YtlhnekgojhdbhaaDoorParts
import Derived.Deep.CutBlock
import Derived.Deep.DeepCutAuto
namespace Go.Proofs.YtlhnekgojhdbhaaDoor
open Go.RowKit

/-- Some of the lists is long. -/
theorem divides_long (v1 v2 v3 : Option Addr) (n1 n2 n3 c1 c2 c3 : Nat) (w : World) (h : 24 < n1 ∨ 24 < n2 ∨ 24 < n3) (ht : Tabs w) (h6 : 6 ≤ w.heap.size) :
    Calls Tryd.prog 7 #[.slice v1 n1 c1, .slice v2 n2 c2, .slice v3 n3 c3] w fun e w' => e = .returned (.bool true) ∧ Below w.heap.size w w' := by
  have CW := mkHid (works_any w ht h6)
  clear ht h6
  by_cases h1 : 24 < n1
  · have i1 : (24 : Int) < n1 := by omega
    clear h
    go_enter Tryd.func7, Tryd.ntmps7
    go_wp2_with (go_at_call 12; refine CW.out.mono ?_; rintro e w1 ⟨rfl, hb⟩)
    go_ret
    exact ⟨rfl, hb⟩
  · have i1 : (n1 : Int) ≤ 24 := by omega
    by_cases h2 : 24 < n2
    · have i2 : (24 : Int) < n2 := by omega
      clear h
      go_enter Tryd.func7, Tryd.ntmps7
      go_wp2_with (go_at_call 12; refine CW.out.mono ?_; rintro e w1 ⟨rfl, hb⟩)
      go_ret
      exact ⟨rfl, hb⟩
    · have i2 : (n2 : Int) ≤ 24 := by omega
      have i3 : (24 : Int) < n3 := by omega
      clear h
      go_enter Tryd.func7, Tryd.ntmps7
      go_wp2_with (go_at_call 12; refine CW.out.mono ?_; rintro e w1 ⟨rfl, hb⟩)
      go_ret
      exact ⟨rfl, hb⟩

/-- New blocks that hold 0. -/
def Zs (W : World) (l : List Nat) : Prop := ∀ p ∈ l, At2 W p 0 ⟨#[]⟩
theorem At2.offOf {w : World} {b b' l l' : Nat} {h h' : ByteArray} (H : At2 w b l h) (_ : At2 w b' l' h') (hne : b ≠ b') (x y : Value) : At2 ((w.setCell ⟨b', 0, none⟩ x).setCell ⟨b', 1, none⟩ y) b l h := H.setOff hne x y
theorem Zs.nil (W : World) : Zs W [] := fun _ h => by cases h
theorem Zs.next {W w' : World} {l : List Nat} (h : Zs W l) (hb : Below W.heap.size W w') : Zs w' l := fun p hp => (h p hp).grows hb
theorem Zs.box1 {W : World} {l : List Nat} {n : Nat} (hn : W.heap.size = n) (h : Zs W l) : Zs (W.alloc (.cells #[.int .u64 0, .string ⟨#[]⟩] 26)) (n :: l) := by
  intro p hp
  rcases List.mem_cons.1 hp with rfl | hp
  · exact At2.new W _ 0 _ hn.symm
  · exact (h p hp).alloc _
theorem Zs.h1 {W : World} {p : Nat} {l : List Nat} (h : Zs W (p :: l)) : At2 W p 0 ⟨#[]⟩ := h p (.head _)
theorem Zs.h2 {W : World} {p q : Nat} {l : List Nat} (h : Zs W (q :: p :: l)) : At2 W p 0 ⟨#[]⟩ := h p (.tail _ (.head _))
theorem Zs.drew {W : World} {l : List Nat} (h : Zs W l) : Zs W.drew l := fun p hp => (h p hp).drew
theorem Zs.box {W : World} {l : List Nat} (h : Zs W l) : Zs (W.alloc (.cells #[.int .u64 0, .string ⟨#[]⟩] 26)) (W.heap.size :: l) := by
  intro p hp
  rcases List.mem_cons.1 hp with rfl | hp
  · exact At2.new W _ 0 _ rfl
  · exact (h p hp).alloc _

set_option maxRecDepth 100000 in
set_option maxHeartbeats 8000000 in
theorem divides_zero (v1 v2 v3 : Option Addr) (l1 l2 l3 : List Nat) (c1 c2 c3 : Nat) (w : World) (x1 : In32 w (.slice v1 l1.length c1) l1) (x2 : In32 w (.slice v2 l2.length c2) l2) (x3 : In32 w (.slice v3 l3.length c3) l3)
    (h1 : l1.length ≤ 24) (h2 : l2.length ≤ 24) (h3 : l3.length ≤ 24) (hz : v32 l2 = 0) (ht : Tabs w) (h6 : 6 ≤ w.heap.size) :
    Calls Tryd.prog 7 #[.slice v1 l1.length c1, .slice v2 l2.length c2, .slice v3 l3.length c3] w fun e w' => e = .returned (.bool true) ∧ Below w.heap.size w w' := by
  have CW := mkHid works_any
  have HS0 := mkHid (St.refl ht h6)
  have F1 := mkHid (fun W (hs : St w W) => from_g _ l1 w W x1 (by omega) hs)
  have F2 := mkHid (fun W (hs : St w W) => from_g _ l2 w W x2 (by omega) hs)
  have F3 := mkHid (fun W (hs : St w W) => from_g _ l3 w W x3 (by omega) hs)
  have A1 := v32_sm l1 x1.1 12 (by omega)
  have A2 := v32_sm l2 x2.1 12 (by omega)
  have A3 := v32_sm l3 x3.1 12 (by omega)
  have i1 : (l1.length : Int) ≤ 24 := by omega
  have i2 : (l2.length : Int) ≤ 24 := by omega
  have i3 : (l3.length : Int) ≤ 24 := by omega
  clear x1 x2 x3 h1 h2 h3 ht h6
  generalize v32 l1 = a at *
  generalize v32 l2 = b at *
  generalize v32 l3 = c at *
  generalize l1.length = n1 at *
  generalize l2.length = n2 at *
  generalize l3.length = n3 at *
  have sa : Sm a := sm_pow A1 (by omega)
  have sb : Sm b := sm_pow A2 (by omega)
  have sc : Sm c := sm_pow A3 (by omega)
  subst hz
  have Cdiv := div_z a
  have C0 := of_g 0 (by decide)
  rw [show ((0 : Nat) : Int) = 0 from rfl] at C0
  unfold nv at F1 F2 F3 Cdiv C0
  clear A1 A2 A3 sa sb sc
  generalize lo a = la at *
  generalize hi a = ka at *
  generalize lo c = lc at *
  generalize hi c = kc at *
  generalize lo 0 = lz at *
  generalize hi 0 = kz at *
  have Cdiv := mkHid Cdiv
  have C0 := mkHid C0
  go_enter Tryd.func7, Tryd.ntmps7
  go_upto_region 5 with (first
    | (go_at_call 37; ((with_reducible refine (F1.out _ HS0.out).mono ?_); rintro e w1 ⟨rfl, hb⟩; have HS1 := mkHid (HS0.out.next hb); clear hb F1))
    | (go_at_call 37; ((with_reducible refine (F2.out _ HS1.out).mono ?_); rintro e w2 ⟨rfl, hb⟩; have HS2 := mkHid (HS1.out.next hb); clear hb F2))
    | (go_at_call 37; ((with_reducible refine (F3.out _ HS2.out).mono ?_); rintro e w3 ⟨rfl, hb⟩; have HS3 := mkHid ((((HS2.out.next hb).alloc (.cells #[.int .u64 (la : Int), .string ka] 26)).alloc (.cells #[.int .u64 (lz : Int), .string kz] 26)).alloc (.cells #[.int .u64 (lc : Int), .string kc] 26)); have HA := mkHid (((At2.new w3 w3.heap.size la ka rfl).alloc (.cells #[.int .u64 (lz : Int), .string kz] 26)).alloc (.cells #[.int .u64 (lc : Int), .string kc] 26)); have HB := mkHid ((At2.new (w3.alloc (.cells #[.int .u64 (la : Int), .string ka] 26)) (w3.heap.size + 1) lz kz (by simp)).alloc (.cells #[.int .u64 (lc : Int), .string kc] 26)); have HC := mkHid (At2.new ((w3.alloc (.cells #[.int .u64 (la : Int), .string ka] 26)).alloc (.cells #[.int .u64 (lz : Int), .string kz] 26)) (w3.heap.size + 1 + 1) lc kc (by simp)); clear hb))
    | (go_at_call 21; refine (Cdiv.out _ HS3.out.tabs HS3.out.six').mono ?_; rintro e w4 ⟨rfl, hb⟩; have HS4 := mkHid (((HS3.out.next hb).alloc (.cells #[.int .u64 (lz : Int), .string kz] 26)).alloc (.cells #[.int .u64 (lz : Int), .string kz] 26)); have HA4 := mkHid (((HA.out.grows hb).alloc (.cells #[.int .u64 (lz : Int), .string kz] 26)).alloc (.cells #[.int .u64 (lz : Int), .string kz] 26)); have HB4 := mkHid (((HB.out.grows hb).alloc (.cells #[.int .u64 (lz : Int), .string kz] 26)).alloc (.cells #[.int .u64 (lz : Int), .string kz] 26)); have HC4 := mkHid (((HC.out.grows hb).alloc (.cells #[.int .u64 (lz : Int), .string kz] 26)).alloc (.cells #[.int .u64 (lz : Int), .string kz] 26)); have HD4 := mkHid ((At2.new w4 w4.heap.size lz kz rfl).alloc (.cells #[.int .u64 (lz : Int), .string kz] 26)); have HE4 := mkHid (At2.new (w4.alloc (.cells #[.int .u64 (lz : Int), .string kz] 26)) (w4.heap.size + 1) lz kz (by simp)); clear hb))
  clear HA HB HC HS1 HS2 HS3 F3
  obtain ⟨p1, p2, -, -⟩ := HA4.out
  obtain ⟨q1, q2, -, -⟩ := HB4.out
  obtain ⟨r1, r2, -, -⟩ := HC4.out
  obtain ⟨s1, s2, -, -⟩ := HD4.out
  obtain ⟨t1, t2, -, -⟩ := HE4.out
  have hs0 := HS4.out.drew
  clear HA4 HB4 HC4 HD4 HE4 HS4 HS0
  generalize w3.heap.size + 1 + 1 = j3 at *
  generalize w3.heap.size + 1 = j2 at *
  generalize w3.heap.size = j1 at *
  generalize w4.heap.size + 1 = j5 at *
  generalize w4.heap.size = j4 at *
  go_region_held3 (fun W => St w W ∧ W.cell? ⟨j1, 0, none⟩ = some (.int .u64 (la : Int)) ∧ W.cell? ⟨j1, 1, none⟩ = some (.string ka) ∧ W.cell? ⟨j2, 0, none⟩ = some (.int .u64 (lz : Int)) ∧ W.cell? ⟨j2, 1, none⟩ = some (.string kz) ∧ W.cell? ⟨j3, 0, none⟩ = some (.int .u64 (lc : Int)) ∧ W.cell? ⟨j3, 1, none⟩ = some (.string kc) ∧ W.cell? ⟨j4, 0, none⟩ = some (.int .u64 (lz : Int)) ∧ W.cell? ⟨j4, 1, none⟩ = some (.string kz) ∧ W.cell? ⟨j5, 0, none⟩ = some (.int .u64 (lz : Int)) ∧ W.cell? ⟨j5, 1, none⟩ = some (.string kz))
    (first
      | (with_reducible exact ⟨hS.1.next hb, St.cell hb hS.2.1, St.cell hb hS.2.2.1, St.cell hb hS.2.2.2.1, St.cell hb hS.2.2.2.2.1, St.cell hb hS.2.2.2.2.2.1, St.cell hb hS.2.2.2.2.2.2.1, St.cell hb hS.2.2.2.2.2.2.2.1, St.cell hb hS.2.2.2.2.2.2.2.2.1, St.cell hb hS.2.2.2.2.2.2.2.2.2.1, St.cell hb hS.2.2.2.2.2.2.2.2.2.2⟩)
      | exact ⟨hs0, p1, p2, q1, q2, r1, r2, s1, s2, t1, t2⟩)
    (first
      | (go_at_call 29; have hS : St w _ ∧ _ := (by assumption); ((with_reducible refine (C0.out _ hS.1.tabs hS.1.six').mono ?_); rintro e w6 ⟨rfl, hb⟩)))
  have hT : St w _ ∧ _ := (by assumption)
  have HT := mkHid hT
  clear hs0 p1 p2 q1 q2 r1 r2 s1 s2 t1 t2 hT
  go_wp2_with fail
  obtain ⟨hs0, p1, p2, q1, q2, r1, r2, s1, s2, t1, t2⟩ := HT.out
  clear HT
  go_region_held3 (fun W => St w W ∧ W.cell? ⟨j1, 0, none⟩ = some (.int .u64 (la : Int)) ∧ W.cell? ⟨j1, 1, none⟩ = some (.string ka) ∧ W.cell? ⟨j2, 0, none⟩ = some (.int .u64 (lz : Int)) ∧ W.cell? ⟨j2, 1, none⟩ = some (.string kz) ∧ W.cell? ⟨j3, 0, none⟩ = some (.int .u64 (lc : Int)) ∧ W.cell? ⟨j3, 1, none⟩ = some (.string kc) ∧ W.cell? ⟨j4, 0, none⟩ = some (.int .u64 (lz : Int)) ∧ W.cell? ⟨j4, 1, none⟩ = some (.string kz) ∧ W.cell? ⟨j5, 0, none⟩ = some (.int .u64 (lz : Int)) ∧ W.cell? ⟨j5, 1, none⟩ = some (.string kz))
    (first
      | (with_reducible exact ⟨hS.1.next hb, St.cell hb hS.2.1, St.cell hb hS.2.2.1, St.cell hb hS.2.2.2.1, St.cell hb hS.2.2.2.2.1, St.cell hb hS.2.2.2.2.2.1, St.cell hb hS.2.2.2.2.2.2.1, St.cell hb hS.2.2.2.2.2.2.2.1, St.cell hb hS.2.2.2.2.2.2.2.2.1, St.cell hb hS.2.2.2.2.2.2.2.2.2.1, St.cell hb hS.2.2.2.2.2.2.2.2.2.2⟩)
      | exact ⟨hs0.drew, p1, p2, q1, q2, r1, r2, s1, s2, t1, t2⟩)
    (first
      | (go_at_call 29; have hS : St w _ ∧ _ := (by assumption); ((with_reducible refine (C0.out _ hS.1.tabs hS.1.six').mono ?_); rintro e w6 ⟨rfl, hb⟩))
      | (go_at_call 12; have hS : St w _ ∧ _ := (by assumption); ((with_reducible refine (CW.out _ hS.1.tabs hS.1.six').mono ?_); rintro e w6 ⟨rfl, hb⟩)))
  have hE : St w _ ∧ _ := (by assumption)
  have HE := mkHid hE.1.below
  clear hE
  go_wp2_with fail
  go_ret
  exact ⟨rfl, HE.out⟩

set_option maxRecDepth 100000 in
set_option maxHeartbeats 8000000 in
theorem divides_pos (v1 v2 v3 : Option Addr) (l1 l2 l3 : List Nat) (c1 c2 c3 : Nat) (w : World) (x1 : In32 w (.slice v1 l1.length c1) l1) (x2 : In32 w (.slice v2 l2.length c2) l2) (x3 : In32 w (.slice v3 l3.length c3) l3)
    (h1 : l1.length ≤ 24) (h2 : l2.length ≤ 24) (h3 : l3.length ≤ 24) (hz : v32 l2 ≠ 0) (ht : Tabs w) (h6 : 6 ≤ w.heap.size) :
    Calls Tryd.prog 7 #[.slice v1 l1.length c1, .slice v2 l2.length c2, .slice v3 l3.length c3] w fun e w' => e = .returned (.bool true) ∧ Below w.heap.size w w' := by
  have CW := mkHid works_any
  have HS0 := mkHid (St.refl ht h6)
  have F1 := mkHid (fun W (hs : St w W) => from_g _ l1 w W x1 (by omega) hs)
  have F2 := mkHid (fun W (hs : St w W) => from_g _ l2 w W x2 (by omega) hs)
  have F3 := mkHid (fun W (hs : St w W) => from_g _ l3 w W x3 (by omega) hs)
  have A1 := v32_sm l1 x1.1 12 (by omega)
  have A2 := v32_sm l2 x2.1 12 (by omega)
  have A3 := v32_sm l3 x3.1 12 (by omega)
  have i1 : (l1.length : Int) ≤ 24 := by omega
  have i2 : (l2.length : Int) ≤ 24 := by omega
  have i3 : (l3.length : Int) ≤ 24 := by omega
  clear x1 x2 x3 h1 h2 h3 ht h6
  generalize v32 l1 = a at *
  generalize v32 l2 = b at *
  generalize v32 l3 = c at *
  generalize l1.length = n1 at *
  generalize l2.length = n2 at *
  generalize l3.length = n3 at *
  have sa : Sm a := sm_pow A1 (by omega)
  have sb : Sm b := sm_pow A2 (by omega)
  have sc : Sm c := sm_pow A3 (by omega)
  have hb0 : 0 < b := Nat.pos_of_ne_zero hz
  have hr : a % b < b := Nat.mod_lt a hb0
  have sq : Sm (a / b) := sm_le (Nat.div_le_self a b) sa
  have sr : Sm (a % b) := sm_le (Nat.mod_le a b) sa
  have sqb : Sm (a / b * b) := sm_le (Nat.div_mul_le_self a b) sa
  have scb : Sm (c * b) := sm_mul A3 A2 (by omega)
  have scbr : Sm (c * b + a % b) := sm_add (k := 12 + 12) (by rw [Nat.pow_add]; exact Nat.mul_lt_mul_of_lt_of_le A3 (Nat.le_of_lt A2) (M.B_pow_pos _)) (Nat.lt_of_le_of_lt (Nat.mod_le a b) (Nat.lt_of_lt_of_le A1 (Nat.pow_le_pow_right M.B_pos (by omega)))) (by omega)
  have e1 : (c * b + a % b) / b = c := by rw [Nat.mul_comm c b, Nat.mul_add_div hb0, Nat.div_eq_of_lt hr, Nat.add_zero]
  have e2 : (c * b + a % b) % b = a % b := by rw [Nat.mul_comm c b, Nat.mul_add_mod, Nat.mod_eq_of_lt hr]
  have hne := parts_ne hz
  have Cdiv := div_g a b sa hz
  have C0 := of_g 0 (by decide)
  have Cqb := mul_g (a / b) b sq sb
  have Cqbr := add_g (a / b * b) (a % b) sqb sr
  rw [Nat.div_add_mod' a b] at Cqbr
  have Ccmp := cmp_g (a % b) b
  rw [ci_lt hr] at Ccmp
  have Ccb := mul_g c b sc sb
  have Ccbr := add_g (c * b) (a % b) scb sr
  have Cdiv2 := div_g (c * b + a % b) b scbr hz
  rw [e1, e2] at Cdiv2
  rw [show ((0 : Nat) : Int) = 0 from rfl] at C0
  unfold nv at F1 F2 F3 Cdiv C0 Cqb Cqbr Ccmp Ccb Ccbr Cdiv2
  clear A1 A2 A3 sa sb sc sq sr sqb scb scbr e1 e2 hb0 hr hz
  generalize lo (c * b + a % b) = lx at *
  generalize hi (c * b + a % b) = kx at *
  generalize lo (a / b * b) = ly at *
  generalize hi (a / b * b) = ky at *
  generalize lo (c * b) = lt at *
  generalize hi (c * b) = kt at *
  generalize lo (a / b) = lq at *
  generalize hi (a / b) = kq at *
  generalize lo (a % b) = lr at *
  generalize hi (a % b) = kr at *
  generalize lo a = la at *
  generalize hi a = ka at *
  generalize lo b = lb at *
  generalize hi b = kb at *
  generalize lo c = lc at *
  generalize hi c = kc at *
  generalize lo 0 = lz at *
  generalize hi 0 = kz at *
  have Cdiv := mkHid Cdiv
  have C0 := mkHid C0
  have Cqb := mkHid Cqb
  have Cqbr := mkHid Cqbr
  have Ccmp := mkHid Ccmp
  have Ccb := mkHid Ccb
  have Ccbr := mkHid Ccbr
  have Cdiv2 := mkHid Cdiv2
  have HNE := mkHid hne
  clear hne
  go_enter Tryd.func7, Tryd.ntmps7
  go_upto_region 5 with (first
    | (go_at_call 37; ((with_reducible refine (F1.out _ HS0.out).mono ?_); rintro e w1 ⟨rfl, hb⟩; have HS1 := mkHid (HS0.out.next hb); clear hb F1))
    | (go_at_call 37; ((with_reducible refine (F2.out _ HS1.out).mono ?_); rintro e w2 ⟨rfl, hb⟩; have HS2 := mkHid (HS1.out.next hb); clear hb F2))
    | (go_at_call 37; ((with_reducible refine (F3.out _ HS2.out).mono ?_); rintro e w3 ⟨rfl, hb⟩; have HS3 := mkHid ((((HS2.out.next hb).alloc (.cells #[.int .u64 (la : Int), .string ka] 26)).alloc (.cells #[.int .u64 (lb : Int), .string kb] 26)).alloc (.cells #[.int .u64 (lc : Int), .string kc] 26)); have HA := mkHid (((At2.new w3 w3.heap.size la ka rfl).alloc (.cells #[.int .u64 (lb : Int), .string kb] 26)).alloc (.cells #[.int .u64 (lc : Int), .string kc] 26)); have HB := mkHid ((At2.new (w3.alloc (.cells #[.int .u64 (la : Int), .string ka] 26)) (w3.heap.size + 1) lb kb (by simp)).alloc (.cells #[.int .u64 (lc : Int), .string kc] 26)); have HC := mkHid (At2.new ((w3.alloc (.cells #[.int .u64 (la : Int), .string ka] 26)).alloc (.cells #[.int .u64 (lb : Int), .string kb] 26)) (w3.heap.size + 1 + 1) lc kc (by simp)); clear hb))
    | (go_at_call 21; refine (Cdiv.out _ HS3.out.tabs HS3.out.six').mono ?_; rintro e w4 ⟨rfl, hb⟩; have HS4 := mkHid (((HS3.out.next hb).alloc (.cells #[.int .u64 (lq : Int), .string kq] 26)).alloc (.cells #[.int .u64 (lr : Int), .string kr] 26)); have HA4 := mkHid (((HA.out.grows hb).alloc (.cells #[.int .u64 (lq : Int), .string kq] 26)).alloc (.cells #[.int .u64 (lr : Int), .string kr] 26)); have HB4 := mkHid (((HB.out.grows hb).alloc (.cells #[.int .u64 (lq : Int), .string kq] 26)).alloc (.cells #[.int .u64 (lr : Int), .string kr] 26)); have HC4 := mkHid (((HC.out.grows hb).alloc (.cells #[.int .u64 (lq : Int), .string kq] 26)).alloc (.cells #[.int .u64 (lr : Int), .string kr] 26)); have HD4 := mkHid ((At2.new w4 w4.heap.size lq kq rfl).alloc (.cells #[.int .u64 (lr : Int), .string kr] 26)); have HE4 := mkHid (At2.new (w4.alloc (.cells #[.int .u64 (lq : Int), .string kq] 26)) (w4.heap.size + 1) lr kr (by simp)); clear hb))
  clear HA HB HC HS1 HS2 HS3 F3
  obtain ⟨p1, p2, -, -⟩ := HA4.out
  obtain ⟨q1, q2, -, -⟩ := HB4.out
  obtain ⟨r1, r2, -, -⟩ := HC4.out
  obtain ⟨s1, s2, -, -⟩ := HD4.out
  obtain ⟨t1, t2, -, -⟩ := HE4.out
  have hs0 := HS4.out.drew
  clear HA4 HB4 HC4 HD4 HE4 HS4 HS0
  generalize w3.heap.size + 1 + 1 = j3 at *
  generalize w3.heap.size + 1 = j2 at *
  generalize w3.heap.size = j1 at *
  generalize w4.heap.size + 1 = j5 at *
  generalize w4.heap.size = j4 at *
  go_cut [45] (fun v45 wx => v45 = .bool false ∧ St w wx ∧ wx.cell? ⟨j1, 0, none⟩ = some (.int .u64 (la : Int)) ∧ wx.cell? ⟨j1, 1, none⟩ = some (.string ka) ∧ wx.cell? ⟨j2, 0, none⟩ = some (.int .u64 (lb : Int)) ∧ wx.cell? ⟨j2, 1, none⟩ = some (.string kb) ∧ wx.cell? ⟨j3, 0, none⟩ = some (.int .u64 (lc : Int)) ∧ wx.cell? ⟨j3, 1, none⟩ = some (.string kc) ∧ wx.cell? ⟨j4, 0, none⟩ = some (.int .u64 (lq : Int)) ∧ wx.cell? ⟨j4, 1, none⟩ = some (.string kq) ∧ wx.cell? ⟨j5, 0, none⟩ = some (.int .u64 (lr : Int)) ∧ wx.cell? ⟨j5, 1, none⟩ = some (.string kr))
  case first =>
    rcases HNE.out with hn | hn
    all_goals
      go_region_held3 (fun W => St w W ∧ W.cell? ⟨j1, 0, none⟩ = some (.int .u64 (la : Int)) ∧ W.cell? ⟨j1, 1, none⟩ = some (.string ka) ∧ W.cell? ⟨j2, 0, none⟩ = some (.int .u64 (lb : Int)) ∧ W.cell? ⟨j2, 1, none⟩ = some (.string kb) ∧ W.cell? ⟨j3, 0, none⟩ = some (.int .u64 (lc : Int)) ∧ W.cell? ⟨j3, 1, none⟩ = some (.string kc) ∧ W.cell? ⟨j4, 0, none⟩ = some (.int .u64 (lq : Int)) ∧ W.cell? ⟨j4, 1, none⟩ = some (.string kq) ∧ W.cell? ⟨j5, 0, none⟩ = some (.int .u64 (lr : Int)) ∧ W.cell? ⟨j5, 1, none⟩ = some (.string kr))
        (first
          | (with_reducible exact ⟨hS.1.next hb, St.cell hb hS.2.1, St.cell hb hS.2.2.1, St.cell hb hS.2.2.2.1, St.cell hb hS.2.2.2.2.1, St.cell hb hS.2.2.2.2.2.1, St.cell hb hS.2.2.2.2.2.2.1, St.cell hb hS.2.2.2.2.2.2.2.1, St.cell hb hS.2.2.2.2.2.2.2.2.1, St.cell hb hS.2.2.2.2.2.2.2.2.2.1, St.cell hb hS.2.2.2.2.2.2.2.2.2.2⟩)
          | exact ⟨hs0, p1, p2, q1, q2, r1, r2, s1, s2, t1, t2⟩)
        (first
          | (go_at_call 29; have hS : St w _ ∧ _ := (by assumption); ((with_reducible refine (C0.out _ hS.1.tabs hS.1.six').mono ?_); rintro e w6 ⟨rfl, hb⟩)))
      all_goals
        have hT : St w _ ∧ _ := (by assumption)
        go_wp2_with fail
        go_meet
        exact ⟨rfl, hT⟩
  case rest =>
  obtain ⟨rfl, hs0, p1, p2, q1, q2, r1, r2, s1, s2, t1, t2⟩ := hcut
  clear HNE
  go_wp2_with fail
  go_region_held3 (fun W => St w W ∧ W.cell? ⟨j1, 0, none⟩ = some (.int .u64 (la : Int)) ∧ W.cell? ⟨j1, 1, none⟩ = some (.string ka) ∧ W.cell? ⟨j2, 0, none⟩ = some (.int .u64 (lb : Int)) ∧ W.cell? ⟨j2, 1, none⟩ = some (.string kb) ∧ W.cell? ⟨j3, 0, none⟩ = some (.int .u64 (lc : Int)) ∧ W.cell? ⟨j3, 1, none⟩ = some (.string kc) ∧ W.cell? ⟨j4, 0, none⟩ = some (.int .u64 (lq : Int)) ∧ W.cell? ⟨j4, 1, none⟩ = some (.string kq) ∧ W.cell? ⟨j5, 0, none⟩ = some (.int .u64 (lr : Int)) ∧ W.cell? ⟨j5, 1, none⟩ = some (.string kr))
    (first
      | (with_reducible exact ⟨hS.1.next hb, St.cell hb hS.2.1, St.cell hb hS.2.2.1, St.cell hb hS.2.2.2.1, St.cell hb hS.2.2.2.2.1, St.cell hb hS.2.2.2.2.2.1, St.cell hb hS.2.2.2.2.2.2.1, St.cell hb hS.2.2.2.2.2.2.2.1, St.cell hb hS.2.2.2.2.2.2.2.2.1, St.cell hb hS.2.2.2.2.2.2.2.2.2.1, St.cell hb hS.2.2.2.2.2.2.2.2.2.2⟩)
      | exact ⟨hs0.drew, p1, p2, q1, q2, r1, r2, s1, s2, t1, t2⟩)
    (first
      | (go_at_call 23; have hS : St w _ ∧ _ := (by assumption); ((with_reducible refine (Cqb.out _ hS.1.tabs hS.1.six').mono ?_); rintro e w6 ⟨rfl, hb⟩))
      | (go_at_call 17; have hS : St w _ ∧ _ := (by assumption); ((with_reducible refine (Cqbr.out _ hS.1.tabs hS.1.six').mono ?_); rintro e w6 ⟨rfl, hb⟩))
      | (go_at_call 19; have hS : St w _ ∧ _ := (by assumption); ((with_reducible refine (Ccmp.out _ hS.1.tabs hS.1.six').mono ?_); rintro e w6 ⟨rfl, hb⟩)))
  have hT : St w _ ∧ _ := (by assumption)
  have HT := mkHid hT
  clear hs0 p1 p2 q1 q2 r1 r2 s1 s2 t1 t2 hT
  go_wp2_with fail
  obtain ⟨hs0, p1, p2, q1, q2, r1, r2, s1, s2, t1, t2⟩ := HT.out
  clear HT
  go_cut [13, 14, 15] (fun v13 v14 v15 wx => ∃ pu pv : Nat, v13 = .pointer (some ⟨pu, 0, none⟩) ∧ v14 = .pointer (some ⟨pv, 0, none⟩) ∧ v15 = .bool true ∧ Hid (At2 wx pu lc kc ∧ At2 wx pv lr kr) ∧ Hid (St w wx ∧ wx.cell? ⟨j1, 0, none⟩ = some (.int .u64 (la : Int)) ∧ wx.cell? ⟨j1, 1, none⟩ = some (.string ka) ∧ wx.cell? ⟨j2, 0, none⟩ = some (.int .u64 (lb : Int)) ∧ wx.cell? ⟨j2, 1, none⟩ = some (.string kb) ∧ wx.cell? ⟨j3, 0, none⟩ = some (.int .u64 (lc : Int)) ∧ wx.cell? ⟨j3, 1, none⟩ = some (.string kc) ∧ wx.cell? ⟨j4, 0, none⟩ = some (.int .u64 (lq : Int)) ∧ wx.cell? ⟨j4, 1, none⟩ = some (.string kq) ∧ wx.cell? ⟨j5, 0, none⟩ = some (.int .u64 (lr : Int)) ∧ wx.cell? ⟨j5, 1, none⟩ = some (.string kr)))
  case first =>
    have hj1 := World.block_lt_of_cell? _ _ p1
    have hj2 := World.block_lt_of_cell? _ _ q1
    have hj3 := World.block_lt_of_cell? _ _ r1
    have hj4 := World.block_lt_of_cell? _ _ s1
    have hj5 := World.block_lt_of_cell? _ _ t1
    have hwV := hs0.size
    have HZ0 := mkHid (Zs.nil w6)
    go_region_held3 (fun W => St w W ∧ W.cell? ⟨j1, 0, none⟩ = some (.int .u64 (la : Int)) ∧ W.cell? ⟨j1, 1, none⟩ = some (.string ka) ∧ W.cell? ⟨j2, 0, none⟩ = some (.int .u64 (lb : Int)) ∧ W.cell? ⟨j2, 1, none⟩ = some (.string kb) ∧ W.cell? ⟨j3, 0, none⟩ = some (.int .u64 (lc : Int)) ∧ W.cell? ⟨j3, 1, none⟩ = some (.string kc) ∧ W.cell? ⟨j4, 0, none⟩ = some (.int .u64 (lq : Int)) ∧ W.cell? ⟨j4, 1, none⟩ = some (.string kq) ∧ W.cell? ⟨j5, 0, none⟩ = some (.int .u64 (lr : Int)) ∧ W.cell? ⟨j5, 1, none⟩ = some (.string kr))
      (first
        | (with_reducible exact ⟨hS.1.next hb, St.cell hb hS.2.1, St.cell hb hS.2.2.1, St.cell hb hS.2.2.2.1, St.cell hb hS.2.2.2.2.1, St.cell hb hS.2.2.2.2.2.1, St.cell hb hS.2.2.2.2.2.2.1, St.cell hb hS.2.2.2.2.2.2.2.1, St.cell hb hS.2.2.2.2.2.2.2.2.1, St.cell hb hS.2.2.2.2.2.2.2.2.2.1, St.cell hb hS.2.2.2.2.2.2.2.2.2.2⟩)
        | (have hT : St w _ ∧ _ := (by assumption); with_reducible exact ⟨hT.1.alloc _, St.cellAlloc hT.2.1 _, St.cellAlloc hT.2.2.1 _, St.cellAlloc hT.2.2.2.1 _, St.cellAlloc hT.2.2.2.2.1 _, St.cellAlloc hT.2.2.2.2.2.1 _, St.cellAlloc hT.2.2.2.2.2.2.1 _, St.cellAlloc hT.2.2.2.2.2.2.2.1 _, St.cellAlloc hT.2.2.2.2.2.2.2.2.1 _, St.cellAlloc hT.2.2.2.2.2.2.2.2.2.1 _, St.cellAlloc hT.2.2.2.2.2.2.2.2.2.2 _⟩)
        | (with_reducible exact ⟨(hS.1.next hb).alloc _, St.cellAlloc (St.cell hb hS.2.1) _, St.cellAlloc (St.cell hb hS.2.2.1) _, St.cellAlloc (St.cell hb hS.2.2.2.1) _, St.cellAlloc (St.cell hb hS.2.2.2.2.1) _, St.cellAlloc (St.cell hb hS.2.2.2.2.2.1) _, St.cellAlloc (St.cell hb hS.2.2.2.2.2.2.1) _, St.cellAlloc (St.cell hb hS.2.2.2.2.2.2.2.1) _, St.cellAlloc (St.cell hb hS.2.2.2.2.2.2.2.2.1) _, St.cellAlloc (St.cell hb hS.2.2.2.2.2.2.2.2.2.1) _, St.cellAlloc (St.cell hb hS.2.2.2.2.2.2.2.2.2.2) _⟩)
        | (with_reducible exact ⟨((hS.1.next hb).alloc _).alloc _, St.cellAlloc (St.cellAlloc (St.cell hb hS.2.1) _) _, St.cellAlloc (St.cellAlloc (St.cell hb hS.2.2.1) _) _, St.cellAlloc (St.cellAlloc (St.cell hb hS.2.2.2.1) _) _, St.cellAlloc (St.cellAlloc (St.cell hb hS.2.2.2.2.1) _) _, St.cellAlloc (St.cellAlloc (St.cell hb hS.2.2.2.2.2.1) _) _, St.cellAlloc (St.cellAlloc (St.cell hb hS.2.2.2.2.2.2.1) _) _, St.cellAlloc (St.cellAlloc (St.cell hb hS.2.2.2.2.2.2.2.1) _) _, St.cellAlloc (St.cellAlloc (St.cell hb hS.2.2.2.2.2.2.2.2.1) _) _, St.cellAlloc (St.cellAlloc (St.cell hb hS.2.2.2.2.2.2.2.2.2.1) _) _, St.cellAlloc (St.cellAlloc (St.cell hb hS.2.2.2.2.2.2.2.2.2.2) _) _⟩)
        | (have hT : St w _ ∧ _ := (by assumption); exact ⟨hT.1.setCells _ (by omega) _ _, St.cellSet hT.2.1 (by omega) _ _, St.cellSet hT.2.2.1 (by omega) _ _, St.cellSet hT.2.2.2.1 (by omega) _ _, St.cellSet hT.2.2.2.2.1 (by omega) _ _, St.cellSet hT.2.2.2.2.2.1 (by omega) _ _, St.cellSet hT.2.2.2.2.2.2.1 (by omega) _ _, St.cellSet hT.2.2.2.2.2.2.2.1 (by omega) _ _, St.cellSet hT.2.2.2.2.2.2.2.2.1 (by omega) _ _, St.cellSet hT.2.2.2.2.2.2.2.2.2.1 (by omega) _ _, St.cellSet hT.2.2.2.2.2.2.2.2.2.2 (by omega) _ _⟩)
        | exact ⟨hs0.drew, p1, p2, q1, q2, r1, r2, s1, s2, t1, t2⟩
        | exact ⟨(hs0.alloc _).drew, St.cellAlloc p1 _, St.cellAlloc p2 _, St.cellAlloc q1 _, St.cellAlloc q2 _, St.cellAlloc r1 _, St.cellAlloc r2 _, St.cellAlloc s1 _, St.cellAlloc s2 _, St.cellAlloc t1 _, St.cellAlloc t2 _⟩
        | exact ⟨((hs0.alloc _).alloc _).drew, St.cellAlloc (St.cellAlloc p1 _) _, St.cellAlloc (St.cellAlloc p2 _) _, St.cellAlloc (St.cellAlloc q1 _) _, St.cellAlloc (St.cellAlloc q2 _) _, St.cellAlloc (St.cellAlloc r1 _) _, St.cellAlloc (St.cellAlloc r2 _) _, St.cellAlloc (St.cellAlloc s1 _) _, St.cellAlloc (St.cellAlloc s2 _) _, St.cellAlloc (St.cellAlloc t1 _) _, St.cellAlloc (St.cellAlloc t2 _) _⟩)
      (first
        | (go_at_call 23; have hS : St w _ ∧ _ := (by assumption); ((with_reducible refine (Ccb.out _ hS.1.tabs hS.1.six').mono ?_); rintro e wA ⟨rfl, hb⟩; have hvwA := hb.size; (try simp at hvwA); (first | (have HZA : Hid (Zs wA _) := mkHid (by with_reducible exact (Zs.drew (Zs.box1 (n := w6.heap.size + 1) (by simp) (Zs.box1 (n := w6.heap.size) (by simp) HZ0.out))).next hb); obtain ⟨z1, z2, z3, z4⟩ := HZA.out _ (.head _); obtain ⟨y1, y2, y3, y4⟩ := HZA.out _ (.tail _ (.head _))) | (have HZA : Hid (Zs wA _) := mkHid (by with_reducible exact (Zs.drew (Zs.box1 (n := w6.heap.size) (by simp) HZ0.out)).next hb); obtain ⟨z1, z2, z3, z4⟩ := HZA.out _ (.head _); (try obtain ⟨y1, y2, y3, y4⟩ := HZA.out _ (.tail _ (.head _)))) | (have HZA : Hid (Zs wA _) := mkHid (by with_reducible exact (Zs.drew (HZ0.out)).next hb); (try obtain ⟨z1, z2, z3, z4⟩ := HZA.out _ (.head _)); (try obtain ⟨y1, y2, y3, y4⟩ := HZA.out _ (.tail _ (.head _)))))))
        | (go_at_call 17; have hS : St w _ ∧ _ := (by assumption); ((with_reducible refine (Ccbr.out _ hS.1.tabs hS.1.six').mono ?_); rintro e wB ⟨rfl, hb⟩; have hvwB := hb.size; (try simp at hvwB); (first | (have HZB : Hid (Zs wB _) := mkHid (by with_reducible exact (Zs.box1 (n := wA.heap.size + 1) (by simp) (Zs.box1 (n := wA.heap.size) (by simp) HZA.out)).next hb); obtain ⟨z1, z2, z3, z4⟩ := HZB.out _ (.head _); obtain ⟨y1, y2, y3, y4⟩ := HZB.out _ (.tail _ (.head _))) | (have HZB : Hid (Zs wB _) := mkHid (by with_reducible exact (Zs.box1 (n := wA.heap.size) (by simp) HZA.out).next hb); obtain ⟨z1, z2, z3, z4⟩ := HZB.out _ (.head _); (try obtain ⟨y1, y2, y3, y4⟩ := HZB.out _ (.tail _ (.head _)))) | (have HZB : Hid (Zs wB _) := mkHid (by with_reducible exact (HZA.out).next hb); (try obtain ⟨z1, z2, z3, z4⟩ := HZB.out _ (.head _)); (try obtain ⟨y1, y2, y3, y4⟩ := HZB.out _ (.tail _ (.head _)))))))
        | (go_at_call 21; have hS : St w _ ∧ _ := (by assumption); ((with_reducible refine (Cdiv2.out _ hS.1.tabs hS.1.six').mono ?_); rintro e wC ⟨rfl, hb⟩; have hvwC := hb.size; (try simp at hvwC); (first | (have HZC : Hid (Zs wC _) := mkHid (by with_reducible exact (Zs.box1 (n := wB.heap.size + 1) (by simp) (Zs.box1 (n := wB.heap.size) (by simp) HZB.out)).next hb); obtain ⟨z1, z2, z3, z4⟩ := HZC.out _ (.head _); obtain ⟨y1, y2, y3, y4⟩ := HZC.out _ (.tail _ (.head _))) | (have HZC : Hid (Zs wC _) := mkHid (by with_reducible exact (Zs.box1 (n := wB.heap.size) (by simp) HZB.out).next hb); obtain ⟨z1, z2, z3, z4⟩ := HZC.out _ (.head _); (try obtain ⟨y1, y2, y3, y4⟩ := HZC.out _ (.tail _ (.head _)))) | (have HZC : Hid (Zs wC _) := mkHid (by with_reducible exact (HZB.out).next hb); (try obtain ⟨z1, z2, z3, z4⟩ := HZC.out _ (.head _)); (try obtain ⟨y1, y2, y3, y4⟩ := HZC.out _ (.tail _ (.head _))))); (try obtain ⟨m0, m1, m2, m3⟩ := (HZC.out _ (.head _)).alloc (.cells #[.int .u64 0, .string ⟨#[]⟩] 26)); (try obtain ⟨m4, m5, m6, m7⟩ := (HZC.out _ (.head _)).alloc (.cells #[.int .u64 (lc : Int), .string kc] 26)); (try obtain ⟨m8, m9, m10, m11⟩ := At2.setOff ((Zs.box (Zs.nil wC)) _ (.head _)) (Nat.ne_of_gt (HZC.out _ (.head _)).lt) (.int .u64 (lc : Int)) (.string kc)); (try obtain ⟨m12, m13, m14, m15⟩ := (HZC.out _ (.tail _ (.head _))).alloc (.cells #[.int .u64 0, .string ⟨#[]⟩] 26)); (try obtain ⟨m16, m17, m18, m19⟩ := (HZC.out _ (.tail _ (.head _))).alloc (.cells #[.int .u64 (lc : Int), .string kc] 26)); (try obtain ⟨m20, m21, m22, m23⟩ := At2.setOff ((Zs.box (Zs.nil wC)) _ (.head _)) (Nat.ne_of_gt (HZC.out _ (.tail _ (.head _))).lt) (.int .u64 (lc : Int)) (.string kc)); (try obtain ⟨m24, m25, m26, m27⟩ := At2.offOf (HZC.out _ (.head _)) (HZC.out _ (.tail _ (.head _))) (by first | omega | (simp; omega)) (.int .u64 (lc : Int)) (.string kc)); (try obtain ⟨m28, m29, m30, m31⟩ := At2.offOf (HZC.out _ (.tail _ (.head _))) (HZC.out _ (.head _)) (by first | omega | (simp; omega)) (.int .u64 (lc : Int)) (.string kc)))))
    all_goals
      have hT : St w _ ∧ _ := (by assumption)
      have HT := mkHid hT
      clear hT
      go_wp2_with fail
      go_meet
      refine ⟨_, _, rfl, rfl, rfl, mkHid ⟨?_, ?_⟩, HT⟩
      · (first | (with_reducible exact (At2.new wC wC.heap.size lc kc rfl).alloc _) | (with_reducible exact At2.new _ _ lc kc (by simp)) | (with_reducible exact (At2.new wC wC.heap.size lc kc rfl).setOff (by (try have g1 := (Zs.h1 HZC.out).lt); (try have g2 := (Zs.h2 HZC.out).lt); omega) _ _) | (with_reducible exact (((Zs.h1 HZC.out).alloc _).set lc kc).setOff (by (try have g1 := (Zs.h1 HZC.out).lt); (try have g2 := (Zs.h2 HZC.out).lt); omega) _ _) | (with_reducible exact ((Zs.h1 HZC.out).set lc kc).setOff (by (try have g1 := (Zs.h1 HZC.out).lt); (try have g2 := (Zs.h2 HZC.out).lt); omega) _ _) | (with_reducible exact (((Zs.h2 HZC.out).alloc _).set lc kc).setOff (by (try have g1 := (Zs.h1 HZC.out).lt); (try have g2 := (Zs.h2 HZC.out).lt); omega) _ _) | (with_reducible exact ((Zs.h2 HZC.out).set lc kc).setOff (by (try have g1 := (Zs.h1 HZC.out).lt); (try have g2 := (Zs.h2 HZC.out).lt); omega) _ _))
      · (first | (with_reducible exact At2.new _ _ lr kr (by simp)) | (with_reducible exact (At2.new wC wC.heap.size lr kr rfl).alloc _) | (with_reducible exact ((Zs.h1 (Zs.box (Zs.nil wC))).setOff (by (try have g1 := (Zs.h1 HZC.out).lt); (try have g2 := (Zs.h2 HZC.out).lt); omega) _ _).set lr kr) | (with_reducible exact ((Zs.h1 HZC.out).setOff (by (try have g1 := (Zs.h1 HZC.out).lt); (try have g2 := (Zs.h2 HZC.out).lt); omega) _ _).set lr kr) | (with_reducible exact ((Zs.h1 HZC.out).alloc _).set lr kr) | (with_reducible exact ((Zs.h2 HZC.out).setOff (by (try have g1 := (Zs.h1 HZC.out).lt); (try have g2 := (Zs.h2 HZC.out).lt); omega) _ _).set lr kr) | (with_reducible exact ((Zs.h2 HZC.out).alloc _).set lr kr))
  case rest =>
  obtain ⟨pu, pv, rfl, rfl, rfl, HU, HT⟩ := hcut
  clear hs0 p1 p2 q1 q2 r1 r2 s1 s2 t1 t2
  obtain ⟨hs1, a1, a2, b1, b2, d1, d2, f1, f2, g1, g2⟩ := HT.out
  obtain ⟨⟨m1, m2, -, -⟩, ⟨n1', n2', -, -⟩⟩ := HU.out
  have HS9 := mkHid hs1
  clear hs1 a1 a2 b1 b2 f1 f2 HT HU
  go_wp2_with (go_at_call 12; refine (CW.out _ HS9.out.tabs HS9.out.six').mono ?_; rintro e w7 ⟨rfl, hb⟩; have HE := mkHid (HS9.out.next hb).below; clear hb)
  go_ret
  exact ⟨rfl, HE.out⟩

theorem divides_any (u1 u2 u3 : Value) (l1 l2 l3 : List Nat) (w : World) (x1 : In32 w u1 l1) (x2 : In32 w u2 l2) (x3 : In32 w u3 l3) (ht : Tabs w) (h6 : 6 ≤ w.heap.size) :
    Calls Tryd.prog 7 #[u1, u2, u3] w fun e w' => e = .returned (.bool true) ∧ Below w.heap.size w w' := by
  obtain ⟨v1, c1, rfl⟩ := x1.form
  obtain ⟨v2, c2, rfl⟩ := x2.form
  obtain ⟨v3, c3, rfl⟩ := x3.form
  by_cases h : l1.length ≤ 24 ∧ l2.length ≤ 24 ∧ l3.length ≤ 24
  · by_cases hz : v32 l2 = 0
    · exact divides_zero v1 v2 v3 l1 l2 l3 c1 c2 c3 w x1 x2 x3 h.1 h.2.1 h.2.2 hz ht h6
    · exact divides_pos v1 v2 v3 l1 l2 l3 c1 c2 c3 w x1 x2 x3 h.1 h.2.1 h.2.2 hz ht h6
  · exact divides_long v1 v2 v3 _ _ _ c1 c2 c3 w (by omega) ht h6
end Go.Proofs.YtlhnekgojhdbhaaDoor
