/- The specification's Has and Less. -/
import Derived.Test.YtpfappojeneecaaDoorVTotal
namespace Go.Proofs.YtpfappojeneecaaDoor
open Go.RowKit VM

/-- Sets in the blocks of the call's own, in a world that has grown. -/
structure On (w W : World) (l : List (Nat × Int × Int)) : Prop where
  below : Below w.heap.size w W
  tab : Tab W
  cells : ∀ x ∈ l, AtS W x.1 x.2.1 x.2.2
theorem On.next {w W w' : World} {l : List (Nat × Int × Int)} (h : On w W l) (hw : Below W.heap.size W w') : On w w' l := ⟨bnx h.below hw, h.tab.below hw, fun x hx => (h.cells x hx).grows hw⟩
theorem On.alloc {w W : World} {l : List (Nat × Int × Int)} (h : On w W l) (o : Obj) : On w (W.alloc o) l := h.next (bal (Below.refl _ _) o)
theorem On.drew {w W : World} {l : List (Nat × Int × Int)} (h : On w W l) : On w W.drew l := ⟨h.below.drew, h.tab, h.cells⟩
theorem On.drewN {w W : World} {l : List (Nat × Int × Int)} (h : On w W l) (n : Nat) : On w (W.drewN n) l := ⟨bdr h.below n, h.tab, h.cells⟩
theorem On.nil {w : World} (ht : Tab w) : On w w [] := ⟨Below.refl _ _, ht, fun _ h => by cases h⟩
theorem On.box {w W : World} {l : List (Nat × Int × Int)} (h : On w W l) (x y : Int) (t : TypeId) (n : Nat) (hn : n = W.heap.size) : On w (W.alloc (.cells #[.int .u64 x, .int .u64 y] t)) ((n, x, y) :: l) :=
  ⟨bal h.below _, tab_al h.tab _, fun z hz => by
    rcases List.mem_cons.1 hz with rfl | hz
    · exact AtS.new W n x y t hn
    · exact (h.cells z hz).alloc _⟩
theorem On.h1 {w W : World} {n : Nat} {x y : Int} {l : List (Nat × Int × Int)} (h : On w W ((n, x, y) :: l)) : AtS W n x y := h.cells _ (.head _)
theorem On.h2 {w W : World} {n : Nat} {x y : Int} {p : Nat × Int × Int} {l : List (Nat × Int × Int)} (h : On w W (p :: (n, x, y) :: l)) : AtS W n x y := h.cells _ (.tail _ (.head _))
theorem On.h3 {w W : World} {n : Nat} {x y : Int} {p q : Nat × Int × Int} {l : List (Nat × Int × Int)} (h : On w W (p :: q :: (n, x, y) :: l)) : AtS W n x y := h.cells _ (.tail _ (.tail _ (.head _)))

theorem shr_low (s : BitVec 128) (v : Int) (h1 : 1 ≤ v) (h2 : v ≤ 64) : has s v = decide (wd (lo s) / 2 ^ (v - 1).toNat % 2 = 1) := by
  have e : (v - 1).toNat < 64 := by omega
  rw [has_bit _ _ (by omega), show s.getLsbD (v - 1).toNat = (lo s).getLsbD (v - 1).toNat by rw [lo_bit]; simp only [e, decide_true, Bool.true_and]]
  show (lo s).toNat.testBit (v - 1).toNat = _
  rw [Nat.testBit_eq_decide_div_mod_eq, decide_eq_decide]
  unfold wd
  rw [show ((2 : Int) ^ (v - 1).toNat) = ((2 ^ (v - 1).toNat : Nat) : Int) by simp]
  omega
theorem shr_high (s : BitVec 128) (v : Int) (h1 : 65 ≤ v) (h2 : v ≤ 128) : has s v = decide (wd (hi s) / 2 ^ (v - 65).toNat % 2 = 1) := by
  have e : (v - 65).toNat < 64 := by omega
  have e2 : 64 + (v - 65).toNat = (v - 1).toNat := by omega
  rw [has_bit _ _ (by omega), show s.getLsbD (v - 1).toNat = (hi s).getLsbD (v - 65).toNat by rw [hi_bit, e2]; simp only [e, decide_true, Bool.true_and]]
  show (hi s).toNat.testBit (v - 65).toNat = _
  rw [Nat.testBit_eq_decide_div_mod_eq, decide_eq_decide]
  unfold wd
  rw [show ((2 : Int) ^ (v - 65).toNat) = ((2 ^ (v - 65).toNat : Nat) : Int) by simp]
  omega

set_option maxRecDepth 100000 in
set_option maxHeartbeats 2000000 in
theorem rhas_any (s : BitVec 128) (v : Int) (w : World) :
    Calls Tryd.prog 20 #[sv s, .int .i64 v] w fun e w' => e = .returned (.bool (has s v)) ∧ Below w.heap.size w w' := by
  by_cases h : 1 ≤ v ∧ v ≤ 128
  · have c1 : ¬ v < 1 := by omega
    have c2 : ¬ 128 < v := by omega
    have e1 : IntKind.i64.wrap (v - 1) = v - 1 := IntWalk.i64_in _ (by omega)
    have e0 : (0 : Int) ≤ v - 1 := by omega
    by_cases hl : v ≤ 64
    · have e2 : (v - 1) / 64 = 0 := by omega
      have e3 : (v - 1) % 64 = v - 1 := by omega
      have e5 : (0 : Int) ≤ v - 1 := by omega
      have e4 : IntKind.u64.wrap (v - 1) = v - 1 := by rw [IntKind.wrap_u64]; omega
      rw [shr_low s v (by omega) hl]
      unfold sv
      have hx0 := wd_lo (lo s)
      clear h
      generalize wd (lo s) = X at *
      generalize wd (hi s) = Y at *
      have ht : (X / 2 ^ (v.toNat - 1)).tmod 2 = X / 2 ^ (v.toNat - 1) % 2 := Int.tmod_eq_emod_of_nonneg (Int.ediv_nonneg hx0 (Int.le_of_lt (Int.pow_pos (by omega))))
      go_enter Tryd.func20, Tryd.ntmps20
      go_wp2
      go_ret
      exact ⟨rfl, bal (Below.refl _ _) _⟩
    · have e2 : (v - 1) / 64 = 1 := by omega
      have e3 : (v - 1) % 64 = v - 65 := by omega
      have e5 : (0 : Int) ≤ v - 65 := by omega
      have e4 : IntKind.u64.wrap (v - 65) = v - 65 := by rw [IntKind.wrap_u64]; omega
      rw [shr_high s v (by omega) (by omega)]
      unfold sv
      have hx0 := wd_lo (hi s)
      clear h
      generalize wd (lo s) = X at *
      generalize wd (hi s) = Y at *
      have ht : (Y / 2 ^ (v - 65).toNat).tmod 2 = Y / 2 ^ (v - 65).toNat % 2 := Int.tmod_eq_emod_of_nonneg (Int.ediv_nonneg hx0 (Int.le_of_lt (Int.pow_pos (by omega))))
      go_enter Tryd.func20, Tryd.ntmps20
      go_wp2
      go_ret
      exact ⟨rfl, bal (Below.refl _ _) _⟩
  · rw [has_none s v h]
    unfold sv
    by_cases c1 : v < 1
    · clear h
      go_enter Tryd.func20, Tryd.ntmps20
      go_wp2
      go_ret
      exact ⟨rfl, bal (Below.refl _ _) _⟩
    · have c2 : 128 < v := by omega
      clear h
      go_enter Tryd.func20, Tryd.ntmps20
      go_wp2
      go_ret
      exact ⟨rfl, bal (Below.refl _ _) _⟩

theorem less_at (a b : BitVec 128) (k : Int) (h1 : 1 ≤ k) (h2 : k ≤ 128) (hd : has a k ≠ has b k) (he : ∀ u, 1 ≤ u → u < k → has a u = has b u) : less a b = has b k := by
  cases hb : has b k
  · cases hl : less a b
    · rfl
    · exfalso
      obtain ⟨v, v1, v2, v3, v4, v5⟩ := (less_iff a b).1 hl
      rcases Int.lt_trichotomy v k with h | h | h
      · have := he v v1 h; rw [v3, v4] at this; cases this
      · subst h; rw [hb] at v4; cases v4
      · exact hd (v5 k h1 h)
  · refine (less_iff a b).2 ⟨k, h1, h2, ?_, hb, he⟩
    rw [hb] at hd
    simpa using hd
theorem less_same (a b : BitVec 128) (he : ∀ u, 1 ≤ u → u < 129 → has a u = has b u) : less a b = false := by
  have : a = b := ext_has fun v h1 h2 => he v h1 (by omega)
  rw [this]; exact less_irrefl b

set_option maxRecDepth 100000 in
set_option maxHeartbeats 4000000 in
theorem rless_any (a b : BitVec 128) (w : World) (ht : Tab w) :
    Calls Tryd.prog 40 #[sv a, sv b] w fun e w' => e = .returned (.bool (less a b)) ∧ Below w.heap.size w w' := by
  have CA := mkHid (fun v W => rhas_any a v W)
  have CB := mkHid (fun v W => rhas_any b v W)
  have HT := mkHid (((On.nil ht).box (wd (lo a)) (wd (hi a)) 26 w.heap.size rfl).box (wd (lo b)) (wd (hi b)) 26 (w.heap.size + 1) (by simp))
  have HL := mkHid (less_at a b)
  have HM := mkHid (less_same a b)
  generalize less a b = res at *
  clear ht
  unfold sv at *
  generalize wd (lo a) = a0 at *
  generalize wd (hi a) = a1 at *
  generalize wd (lo b) = b0 at *
  generalize wd (hi b) = b1 at *
  go_enter Tryd.func40, Tryd.ntmps40
  go_wp2
  go_loopw [5] (fun iv wr => ∃ k : Int, 1 ≤ k ∧ k ≤ 129 ∧ iv = .int .i64 k ∧ Hid ((∀ u, 1 ≤ u → u < k → has a u = has b u) ∧ On w wr [(w.heap.size + 1, b0, b1), (w.heap.size, a0, a1)])) (fun iv _ => (129 - intOf iv).toNat)
  case atStart => exact ⟨1, by omega, by omega, rfl, mkHid ⟨fun u h1 h2 => by omega, HT.out⟩⟩
  case round =>
    obtain ⟨k, hk1, hk2, rfl, H⟩ := hrel
    clear HT
    by_cases hlt : k ≤ 128
    · have HA := mkHid H.out.1
      have hs0 := H.out.2.drew
      obtain ⟨p1, p2, -, -⟩ := H.out.2.h2
      obtain ⟨q1, q2, -, -⟩ := H.out.2.h1
      clear H
      have CAk := mkHid (fun W => CA.out k W)
      have CBk := mkHid (fun W => CB.out k W)
      cases hka : has a k <;> cases hkb : has b k
      all_goals
        rw [hka] at CAk
        rw [hkb] at CBk
        have HKA := mkHid hka
        have HKB := mkHid hkb
        clear hka hkb CA CB
        go_wp2
        go_region_held3 (fun W => On w W [(w.heap.size + 1, b0, b1), (w.heap.size, a0, a1)] ∧ W.cell? ⟨w.heap.size, 0, none⟩ = some (.int .u64 a0) ∧ W.cell? ⟨w.heap.size, 1, none⟩ = some (.int .u64 a1) ∧ W.cell? ⟨w.heap.size + 1, 0, none⟩ = some (.int .u64 b0) ∧ W.cell? ⟨w.heap.size + 1, 1, none⟩ = some (.int .u64 b1))
          (first
            | (with_reducible exact ⟨hS.1.next hw, cell_grows hw hS.2.1, cell_grows hw hS.2.2.1, cell_grows hw hS.2.2.2.1, cell_grows hw hS.2.2.2.2⟩)
            | exact ⟨hs0, p1, p2, q1, q2⟩)
          (first
            | (go_at_call 20; have hS : On w _ _ ∧ _ := (by assumption); ((with_reducible refine (CAk.out _).mono ?_); rintro e w6 ⟨rfl, hw⟩))
            | (go_at_call 20; have hS : On w _ _ ∧ _ := (by assumption); ((with_reducible refine (CBk.out _).mono ?_); rintro e w6 ⟨rfl, hw⟩)))
        have hT' : On w _ _ ∧ _ := (by assumption)
        obtain ⟨hT, p1, p2, q1, q2⟩ := hT'
        clear hs0
      · go_wp2
        go_roundw
        case rel => exact ⟨k + 1, by omega, by omega, rfl, mkHid ⟨fun u h1 h2 => by
          by_cases e : u = k
          · rw [e, HKA.out, HKB.out]
          · exact HA.out u h1 (by omega), hT⟩⟩
        case measure => simp [intOf]; omega
      · have HR := mkHid (HL.out k hk1 hlt (by rw [HKA.out, HKB.out]; decide) HA.out)
        rw [HKB.out] at HR
        go_wp2_with (go_at_call 20; refine (CBk.out _).mono ?_; rintro e w7 ⟨rfl, hw⟩; have HB := mkHid (bnx hT.below hw); clear hw)
        go_ret
        exact ⟨by rw [HR.out]; rfl, HB.out⟩
      · have HR := mkHid (HL.out k hk1 hlt (by rw [HKA.out, HKB.out]; decide) HA.out)
        rw [HKB.out] at HR
        go_wp2_with (go_at_call 20; refine (CBk.out _).mono ?_; rintro e w7 ⟨rfl, hw⟩; have HB := mkHid (bnx hT.below hw); clear hw)
        go_ret
        exact ⟨by rw [HR.out]; rfl, HB.out⟩
      · go_wp2
        go_roundw
        case rel => exact ⟨k + 1, by omega, by omega, rfl, mkHid ⟨fun u h1 h2 => by
          by_cases e : u = k
          · rw [e, HKA.out, HKB.out]
          · exact HA.out u h1 (by omega), hT⟩⟩
        case measure => simp [intOf]; omega
    · have HR := mkHid (HM.out (fun u h1 h2 => H.out.1 u h1 (by omega)))
      have HB := mkHid H.out.2.below
      clear H
      go_wp2
      go_ret
      exact ⟨by rw [HR.out]; rfl, HB.out⟩
end Go.Proofs.YtpfappojeneecaaDoor
