/- The contract of the laws' from. -/
import Derived.Test.YtagbojcoihpgcaaDoorLaw
import Derived.Deep.RegionHeld3
namespace Go.Proofs.YtagbojcoihpgcaaDoor
open Go.RowKit

/-- The number of words of 32 bits, the lowest one first. -/
def v32 : List Nat → Nat
  | [] => 0
  | x :: xs => x + 4294967296 * v32 xs
theorem v32_lt (l : List Nat) (h : ∀ x ∈ l, x < 4294967296) : v32 l < 4294967296 ^ l.length := by
  induction l with
  | nil => simp [v32]
  | cons x l ih =>
    have h1 := ih (fun y hy => h y (by simp [hy]))
    have h2 := h x (by simp)
    simp only [v32, List.length_cons]
    rw [Nat.pow_succ, Nat.mul_comm _ 4294967296]
    have h3 : 4294967296 * (v32 l + 1) ≤ 4294967296 * 4294967296 ^ l.length := Nat.mul_le_mul_left _ h1
    rw [Nat.mul_add] at h3
    omega
theorem v32_drop {l : List Nat} {k x : Nat} (h : l[k]? = some x) : v32 (l.drop k) = v32 (l.drop (k + 1)) * 4294967296 + x := by
  obtain ⟨hk, e⟩ := List.getElem?_eq_some_iff.1 h
  rw [List.drop_eq_getElem_cons hk, e, v32]; omega
theorem v32_sm (l : List Nat) (h : ∀ x ∈ l, x < 4294967296) (k : Nat) (hk : l.length ≤ 2 * k) : v32 l < M.B ^ k := by
  have e : M.B ^ k = 4294967296 ^ (2 * k) := by rw [Nat.pow_mul]; rfl
  rw [e]
  exact Nat.lt_of_lt_of_le (v32_lt l h) (Nat.pow_le_pow_right (by omega) hk)

/-- A slice of words of 32 bits that came in: empty, or cells. -/
def In32 (w : World) (v : Value) (l : List Nat) : Prop :=
  (∀ x ∈ l, x < 4294967296) ∧ ((l = [] ∧ ∃ ao cap, v = .slice ao 0 cap) ∨ ∃ b off cap, v = .slice (some ⟨b, off, none⟩) l.length cap ∧ ∀ j (x : Nat), l[j]? = some x → w.cell? ⟨b, off + j, none⟩ = some (.int .u32 (x : Int)))
theorem In32.form {w : World} {v : Value} {l : List Nat} (h : In32 w v l) : ∃ ao cap, v = .slice ao l.length cap := by
  rcases h.2 with ⟨rfl, ao, cap, rfl⟩ | ⟨b, off, cap, rfl, _⟩
  · exact ⟨ao, cap, rfl⟩
  · exact ⟨_, _, rfl⟩
theorem In32.next {w w' : World} {v : Value} {l : List Nat} (h : In32 w v l) (hb : Below w.heap.size w w') : In32 w' v l :=
  ⟨h.1, h.2.imp id fun ⟨b, off, cap, e, h3⟩ => ⟨b, off, cap, e, fun j x hj => St.cell hb (h3 j x hj)⟩⟩

set_option maxRecDepth 100000 in
set_option maxHeartbeats 2000000 in
theorem from_nil (ao : Option Addr) (cap : Nat) (w : World) : Calls Tryd.prog 6 #[.slice ao 0 cap] w fun e w' => e = .returned (nv 0) ∧ Below w.heap.size w w' := by
  unfold nv
  rw [lo_zero, hi_zero]
  have HB := mkHid (((Below.refl w.heap.size w).alloc (Nat.le_refl _) (.cells #[.int .u64 0, .string ⟨#[]⟩] 26)).alloc (by simp) (.cells #[.int .u64 0, .string ⟨#[]⟩] 26))
  go_enter Tryd.func6, Tryd.ntmps6
  go_wp2
  refine wp_loop_rounds 1 ?_
  rw [rounds_succ]
  go_wp2
  refine bodyPost_ret (v := .agg #[.int .u64 ((0 : Nat) : Int), .string ⟨#[]⟩]) (by simp [results, Tryd.results6, go_sem]) rfl ⟨rfl, ?_⟩
  exact HB.out

theorem St.below' {w W : World} (h : St w W) : Below w.heap.size w W := h.below
theorem St.cellB {w W : World} (h : St w W) {b o : Nat} {v : Value} (hc : w.cell? ⟨b, o, none⟩ = some v) : W.cell? ⟨b, o, none⟩ = some v := St.cell h.below hc
theorem St.setCells {w W : World} (h : St w W) (b : Nat) (hb : w.heap.size ≤ b) (x y : Value) : St w ((W.setCell ⟨b, 0, none⟩ x).setCell ⟨b, 1, none⟩ y) := by
  have hB : Below w.heap.size W ((W.setCell ⟨b, 0, none⟩ x).setCell ⟨b, 1, none⟩ y) := ((Below.refl _ W).setCell (p := ⟨b, 0, none⟩) hb _).setCell (p := ⟨b, 1, none⟩) hb _
  exact ⟨h.below.trans hB, h.tabs.below hB h.six, h.six⟩
theorem St.cellSet {W : World} {b o p : Nat} {v : Value} (h : W.cell? ⟨b, o, none⟩ = some v) (hne : b ≠ p) (x y : Value) : ((W.setCell ⟨p, 0, none⟩ x).setCell ⟨p, 1, none⟩ y).cell? ⟨b, o, none⟩ = some v := by
  have e : ((W.setCell ⟨p, 0, none⟩ x).setCell ⟨p, 1, none⟩ y).heap[b]? = W.heap[b]? := (Below.heap_setCell _ _ _ _ hne).trans (Below.heap_setCell _ _ _ _ hne)
  exact (World.cell?_of_block (a := ⟨b, o, none⟩) e).trans h
theorem pow_g (n : Nat) (h : n ≤ 4096) : Gives 12 #[.int .i64 (n : Int)] (nv (2 ^ n)) := fun W _ _ => pow2_in n h W

set_option maxRecDepth 100000 in
set_option maxHeartbeats 4000000 in
theorem from_some (l : List Nat) (b off cap : Nat) (w : World) (hl : ∀ x ∈ l, x < 4294967296) (hcells : ∀ j (x : Nat), l[j]? = some x → w.cell? ⟨b, off + j, none⟩ = some (.int .u32 (x : Int)))
    (h1000 : l.length ≤ 1000) (ht : Tabs w) (h6 : 6 ≤ w.heap.size) :
    Calls Tryd.prog 6 #[.slice (some ⟨b, off, none⟩) l.length cap] w fun e w' => e = .returned (nv (v32 l)) ∧ Below w.heap.size w w' := by
  have hblt : 0 < l.length → b < w.heap.size := fun h => World.block_lt_of_cell? w _ (hcells 0 l[0] (List.getElem?_eq_getElem h))
  have HBLT := mkHid hblt
  have HC := mkHid hcells
  have HLT := mkHid hl
  have HSM : Hid (∀ k, Sm (v32 (l.drop k))) := mkHid fun k => sm_pow (k := 500) (v32_sm _ (fun x hx => hl x (List.mem_of_mem_drop hx)) 500 (by simp; omega)) (by omega)
  have CP := mkHid (pow_g 32 (by decide))
  rw [show 2 ^ 32 = 4294967296 from rfl, show ((32 : Nat) : Int) = 32 from rfl] at CP
  have HS0 := mkHid (St.refl ht h6)
  have HS1 := mkHid ((HS0.out.alloc (.cells #[.int .u64 0, .string ⟨#[]⟩] 26)).alloc (.cells #[.int .u64 0, .string ⟨#[]⟩] 26))
  have HA1 := mkHid (At2.new (w.alloc (.cells #[.int .u64 0, .string ⟨#[]⟩] 26)) (w.heap.size + 1) 0 ⟨#[]⟩ (by simp))
  have HA0 := mkHid ((At2.new w w.heap.size 0 ⟨#[]⟩ rfl).alloc (.cells #[.int .u64 0, .string ⟨#[]⟩] 26))
  clear hl hcells hblt ht h6
  unfold nv at CP ⊢
  go_enter Tryd.func6, Tryd.ntmps6
  go_wp2_with fail
  go_loopw [4] (fun iv wr => ∃ k : Nat, k ≤ l.length ∧ iv = .int .i64 ((k : Int) - 1) ∧ Hid (At2 wr (w.heap.size + 1) (lo (v32 (l.drop k))) (hi (v32 (l.drop k))) ∧ At2 wr w.heap.size 0 ⟨#[]⟩ ∧ St w wr)) (fun iv _ => (intOf iv + 1).toNat)
  case atStart => exact ⟨l.length, Nat.le_refl _, rfl, mkHid ⟨by rw [List.drop_length]; show At2 _ _ (lo 0) (hi 0); rw [lo_zero, hi_zero]; exact HA1.out, HA0.out, HS1.out⟩⟩
  case round =>
    obtain ⟨k, hk, rfl, H⟩ := hrel
    rcases Nat.eq_zero_or_pos k with h0 | h0
    · subst h0
      rw [List.drop_zero] at H
      obtain ⟨a1, a2, af1, af2⟩ := H.out.1
      obtain ⟨r1, r2, rf1, rf2⟩ := H.out.2.1
      have HBW := mkHid H.out.2.2.below
      clear H
      generalize hgl : lo (v32 l) = gl at *
      generalize hgh : hi (v32 l) = gh at *
      have EGL := mkHid hgl; have EGH := mkHid hgh
      clear hgl hgh
      go_wp2_with fail
      refine bodyPost_ret (v := .agg #[.int .u64 (gl : Int), .string gh]) (by simp [results, Tryd.results6, go_sem, r1, r2]) rfl ⟨by rw [EGL.out, EGH.out], ?_⟩
      exact setCells_below HBW.out _ (Nat.le_refl _) _ _
    · obtain ⟨j, rfl⟩ : ∃ j, k = j + 1 := ⟨k - 1, by omega⟩
      obtain ⟨x, hx⟩ : ∃ x, l[j]? = some x := ⟨l[j]'(by omega), List.getElem?_eq_getElem (by omega)⟩
      have HX := mkHid hx
      have hx32 : Hid (x < 4294967296) := mkHid (HLT.out x (List.mem_of_getElem? hx))
      have hcx := St.cellB H.out.2.2 (HC.out j x hx)
      have HCX := mkHid (HC.out j x hx)
      have HV := mkHid (v32_drop hx)
      have SN := HSM.out (j + 1)
      have SR := HSM.out j
      rw [HV.out] at SR
      have CM := mkHid (mul_g (v32 (l.drop (j + 1))) 4294967296 SN (sm_word (by decide)))
      have CO := mkHid (of_g x (Nat.lt_of_lt_of_le hx32.out (by decide)))
      have CA := mkHid (add_g (v32 (l.drop (j + 1)) * 4294967296) x (sm_le (Nat.le_add_right _ _) SR) (sm_le (Nat.le_add_left _ _) SR))
      have hji : ((j + 1 : Nat) : Int) - 1 = (j : Int) := by omega
      rw [hji]
      have hw64 : IntKind.u64.wrap (x : Int) = (x : Int) := by rw [IntKind.wrap_u64]; have := hx32.out; omega
      have hbne : ¬ b = w.heap.size + 1 := by have := HBLT.out (by omega); omega
      have hj0 : (0 : Int) ≤ (j : Int) := by omega
      have hj1 : (j : Int) < (l.length : Int) := by omega
      have hjl : j < l.length := by omega
      rw [← HV.out] at CA
      unfold nv at CM CO CA
      clear hx SN SR HA1 HA0 HS1
      obtain ⟨a1, a2, af1, af2⟩ := H.out.1
      have HW := mkHid H.out.2
      have HAT := mkHid H.out.1
      clear H
      generalize lo (v32 (l.drop (j + 1))) = l1 at *
      generalize hi (v32 (l.drop (j + 1))) = h1 at *
      generalize hl2 : lo (v32 (l.drop j)) = l2 at *
      generalize hh2 : hi (v32 (l.drop j)) = h2 at *
      have E2 := mkHid hl2; have E3 := mkHid hh2
      clear hl2 hh2
      generalize lo (v32 (l.drop (j + 1)) * 4294967296) = l3 at *
      generalize hi (v32 (l.drop (j + 1)) * 4294967296) = h3 at *
      generalize lo 4294967296 = l4 at *
      generalize hi 4294967296 = h4 at *
      generalize lo x = l5 at *
      generalize hi x = h5 at *
      clear HV
      go_wp2_with fail
      go_region_with (first
        | (go_at_call 12; refine (CP.out _ HW.out.2.drew.tabs HW.out.2.drew.six').mono ?_; rintro e w1 ⟨rfl, hb⟩; have HS1 := mkHid (HW.out.2.drew.next hb); have HA1 := mkHid (HAT.out.past hb ⟨rfl, rfl, rfl, rfl⟩); have HR1 := mkHid (HW.out.1.past hb ⟨rfl, rfl, rfl, rfl⟩); have hcx1 := St.cellB HS1.out HCX.out; obtain ⟨b1, b2, bf1, bf2⟩ := HA1.out; clear hb)
        | (go_at_call 17; refine (CM.out _ HS1.out.tabs HS1.out.six').mono ?_; rintro e w2 ⟨rfl, hb⟩; have HS2 := mkHid (HS1.out.next hb); have HA2 := mkHid (HA1.out.grows hb); have HR2 := mkHid (HR1.out.grows hb); have hcx2 := St.cellB HS2.out HCX.out; clear hb)
        | (go_at_call 10; refine (CO.out _ HS2.out.tabs HS2.out.six').mono ?_; rintro e w3 ⟨rfl, hb⟩; have HS3 := mkHid (HS2.out.next hb); have HA3 := mkHid (HA2.out.grows hb); have HR3 := mkHid (HR2.out.grows hb); clear hb)
        | (go_at_call 16; refine (CA.out _ HS3.out.tabs HS3.out.six').mono ?_; rintro e w4 ⟨rfl, hb⟩; have HS4 := mkHid (HS3.out.next hb); have HA4 := mkHid (HA3.out.grows hb); have HR4 := mkHid (HR3.out.grows hb); obtain ⟨c1, c2, cf1, cf2⟩ := HA4.out; clear hb))
      all_goals
        have HE := mkHid (HS4.out.setCells (w.heap.size + 1) (by omega) (.int .u64 (l2 : Int)) (.string h2))
        go_wp2_with fail
        go_roundw
        case rel => exact ⟨j, by omega, by rfl, mkHid ⟨by rw [E2.out, E3.out]; exact HA4.out.set l2 h2, HR4.out.setOff (by omega) _ _, HE.out⟩⟩
        case measure => simp [intOf]

theorem from_g (v : Value) (l : List Nat) (w W : World) (hv : In32 w v l) (h1000 : l.length ≤ 1000) (hs : St w W) :
    Calls Tryd.prog 6 #[v] W fun e w' => e = .returned (nv (v32 l)) ∧ Below W.heap.size W w' := by
  obtain ⟨hl, h⟩ := hv.next hs.below'
  rcases h with ⟨rfl, ao, cap, rfl⟩ | ⟨b, off, cap, rfl, h3⟩
  · exact from_nil ao cap W
  · exact from_some l b off cap W hl h3 h1000 hs.tabs hs.six'
end Go.Proofs.YtagbojcoihpgcaaDoor
