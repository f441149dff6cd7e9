/- The contracts of bothSmall, Uint, Cmp. -/
import Derived.Test.YtjdkbbggelpchaaDoorPack
import Derived.Test.YtjdkbbggelpchaaDoorGcd
import Derived.Test.YtjdkbbggelpchaaDoorEst
import Derived.Test.YtjdkbbggelpchaaDoorWords
import Derived.Deep.RegionHeld3
namespace Go.Proofs.YtjdkbbggelpchaaDoor
open Go.RowKit

set_option maxHeartbeats 400000 in
theorem bothSmall_yes (l1 l2 : Nat) (w : World) :
    Calls Tryd.prog 35 #[.agg #[.int .u64 (l1 : Int), .string ⟨#[]⟩], .agg #[.int .u64 (l2 : Int), .string ⟨#[]⟩]] w fun e w' => e = .returned (.bool true) ∧ Below w.heap.size w w' := by
  go_enter Tryd.func35, Tryd.ntmps35
  go_wp2
  go_ret
  exact ⟨rfl, ((Below.refl _ _).alloc (Nat.le_refl _) _).alloc (by simp) _⟩

set_option maxHeartbeats 400000 in
theorem bothSmall_no1 (l1 l2 : Nat) (h1 h2 : ByteArray) (w : World) (h' : h1.toList.isEmpty = false) :
    Calls Tryd.prog 35 #[.agg #[.int .u64 (l1 : Int), .string h1], .agg #[.int .u64 (l2 : Int), .string h2]] w fun e w' => e = .returned (.bool false) ∧ Below w.heap.size w w' := by
  go_enter Tryd.func35, Tryd.ntmps35
  go_wp2
  go_ret
  exact ⟨rfl, ((Below.refl _ _).alloc (Nat.le_refl _) _).alloc (by simp) _⟩

set_option maxHeartbeats 400000 in
theorem bothSmall_no2 (l1 l2 : Nat) (h2 : ByteArray) (w : World) (h' : h2.toList.isEmpty = false) :
    Calls Tryd.prog 35 #[.agg #[.int .u64 (l1 : Int), .string ⟨#[]⟩], .agg #[.int .u64 (l2 : Int), .string h2]] w fun e w' => e = .returned (.bool false) ∧ Below w.heap.size w w' := by
  go_enter Tryd.func35, Tryd.ntmps35
  go_wp2
  go_ret
  exact ⟨rfl, ((Below.refl _ _).alloc (Nat.le_refl _) _).alloc (by simp) _⟩

theorem hs_ne {n : Nat} (h : M.B ≤ n) : (hs n).toList.isEmpty = false := by
  rw [ByteArray.toList_eq]
  have := hs_pos h
  cases he : (hs n).data.toList with
  | nil =>
    have h2 : (hs n).size = (hs n).data.toList.length := Array.length_toList.symm
    rw [he, List.length_nil] at h2; omega
  | cons a t => rfl

theorem bothSmall_any (a b : Nat) (w : World) :
    Calls Tryd.prog 35 #[natV a, natV b] w fun e w' => e = .returned (.bool (decide (a < M.B ∧ b < M.B))) ∧ Below w.heap.size w w' := by
  unfold natV
  rcases Nat.lt_or_ge a M.B with ha | ha
  · rw [hs_small ha]
    rcases Nat.lt_or_ge b M.B with hb | hb
    · rw [hs_small hb, decide_eq_true (show a < M.B ∧ b < M.B from ⟨ha, hb⟩)]
      exact bothSmall_yes _ _ w
    · rw [decide_eq_false (show ¬ (a < M.B ∧ b < M.B) by omega)]
      exact bothSmall_no2 _ _ _ w (hs_ne hb)
  · rw [decide_eq_false (show ¬ (a < M.B ∧ b < M.B) by omega)]
    exact bothSmall_no1 _ _ _ _ w (hs_ne ha)

set_option maxRecDepth 100000 in
set_option maxHeartbeats 1000000 in
theorem cmp_same (l : Nat) (h : ByteArray) (w : World) :
    Calls Tryd.prog 14 #[.agg #[.int .u64 (l : Int), .string h], .agg #[.int .u64 (l : Int), .string h]] w fun e w' => e = .returned (.int .i64 0) ∧ Below w.heap.size w w' := by
  go_enter Tryd.func14, Tryd.ntmps14
  go_wp2
  go_ret
  exact ⟨rfl, ((Below.refl _ _).alloc (Nat.le_refl _) _).alloc (by simp) _⟩

theorem or_three (w : World) (o1 o2 : Obj) (z1 z2 z3 : Int) : Calls Tryd.prog 43 #[.slice (some ⟨w.heap.size + 1 + 1, 0, none⟩) 3 3] (((w.alloc o1).alloc o2).alloc (.cells #[.int .i64 z1, .int .i64 z2, .int .i64 z3] 3)).drew fun e w' => e = .returned (.int .i64 (orI [z1, z2, z3])) ∧ w' = (((w.alloc o1).alloc o2).alloc (.cells #[.int .i64 z1, .int .i64 z2, .int .i64 z3] 3)).drew := by
  refine or_any (w.heap.size + 1 + 1) [z1, z2, z3] 3 _ (by simp) ?_
  intro j h
  have hs : ((w.alloc o1).alloc o2).heap.size = w.heap.size + 1 + 1 := by simp
  have hb : (((w.alloc o1).alloc o2).alloc (.cells #[.int .i64 z1, .int .i64 z2, .int .i64 z3] 3)).heap[w.heap.size + 1 + 1]? = some (.cells #[.int .i64 z1, .int .i64 z2, .int .i64 z3] 3 (0, 0)) := by rw [← hs]; exact heap_alloc_new _ _
  have hb2 : (((w.alloc o1).alloc o2).alloc (.cells #[.int .i64 z1, .int .i64 z2, .int .i64 z3] 3)).drew.heap[w.heap.size + 1 + 1]? = some (.cells #[.int .i64 z1, .int .i64 z2, .int .i64 z3] 3 (0, 0)) := hb
  simp only [World.cell?, hb2]
  match j, h with
  | 0, _ => rfl
  | 1, _ => rfl
  | 2, _ => rfl

set_option maxRecDepth 100000 in
set_option maxHeartbeats 1000000 in
theorem cmp_diff1 (l1 l2 : Nat) (h1 h2 : ByteArray) (w : World) (hne : ¬ (l1 : Int) = (l2 : Int)) :
    Calls Tryd.prog 14 #[.agg #[.int .u64 (l1 : Int), .string h1], .agg #[.int .u64 (l2 : Int), .string h2]] w fun e w' => e = .returned (.int .i64 (orI [Lib.compareInt (h1.size : Int) (h2.size : Int), Lib.compareBytes h1.data.toList h2.data.toList, Lib.compareInt (l1 : Int) (l2 : Int)])) ∧ Below w.heap.size w w' := by
  obtain ⟨z1, hz1⟩ : ∃ z1, Lib.compareInt (h1.size : Int) (h2.size : Int) = z1 := ⟨_, rfl⟩
  obtain ⟨z2, hz2⟩ : ∃ z2, Lib.compareBytes h1.data.toList h2.data.toList = z2 := ⟨_, rfl⟩
  obtain ⟨z3, hz3⟩ : ∃ z3, Lib.compareInt (l1 : Int) (l2 : Int) = z3 := ⟨_, rfl⟩
  have C1 : Hid (∀ W, Calls Tryd.prog 44 #[.int .i64 h1.size, .int .i64 h2.size] W fun e w' => e = .returned (.int .i64 z1) ∧ w' = W) := mkHid fun W => by rw [← hz1]; exact Tryd.cmp_Compare_int _ _ W
  have C2 : Hid (∀ W, Calls Tryd.prog 45 #[.string h1, .string h2] W fun e w' => e = .returned (.int .i64 z2) ∧ w' = W) := mkHid fun W => by rw [← hz2]; exact Tryd.strings_Compare _ _ W
  have C3 : Hid (∀ W, Calls Tryd.prog 46 #[.int .u64 l1, .int .u64 l2] W fun e w' => e = .returned (.int .i64 z3) ∧ w' = W) := mkHid fun W => by rw [← hz3]; exact compare64_any _ _ W
  rw [hz1, hz2, hz3]
  clear hz1 hz2 hz3
  go_enter Tryd.func14, Tryd.ntmps14
  go_wp2
  go_region_held3 (fun w' => w'.cell? ⟨w.heap.size, 0, none⟩ = some (.int .u64 (l1 : Int)) ∧ w'.cell? ⟨w.heap.size, 1, none⟩ = some (.string h1) ∧ w'.cell? ⟨w.heap.size + 1, 0, none⟩ = some (.int .u64 (l2 : Int)) ∧ w'.cell? ⟨w.heap.size + 1, 1, none⟩ = some (.string h2)) (go_keep)
    (first
      | (go_at_call 44; refine (C1.out _).mono ?_; rintro e w2 ⟨rfl, rfl⟩)
      | (go_at_call 45; refine (C2.out _).mono ?_; rintro e w2 ⟨rfl, rfl⟩)
      | (go_at_call 46; refine (C3.out _).mono ?_; rintro e w2 ⟨rfl, rfl⟩)
      | (go_at_call 43; refine (or_three _ _ _ z1 z2 z3).mono ?_; rintro e w2 ⟨rfl, rfl⟩))
  go_wp2
  go_ret
  exact ⟨rfl, (((Below.refl _ _).alloc (Nat.le_refl _) _).alloc (by simp) _).alloc (by simp; omega) _ |>.drew⟩

set_option maxRecDepth 100000 in
set_option maxHeartbeats 1000000 in
theorem cmp_diff2 (l : Nat) (h1 h2 : ByteArray) (w : World) (hne : ¬ h1.toList = h2.toList) :
    Calls Tryd.prog 14 #[.agg #[.int .u64 (l : Int), .string h1], .agg #[.int .u64 (l : Int), .string h2]] w fun e w' => e = .returned (.int .i64 (orI [Lib.compareInt (h1.size : Int) (h2.size : Int), Lib.compareBytes h1.data.toList h2.data.toList, Lib.compareInt (l : Int) (l : Int)])) ∧ Below w.heap.size w w' := by
  obtain ⟨z1, hz1⟩ : ∃ z1, Lib.compareInt (h1.size : Int) (h2.size : Int) = z1 := ⟨_, rfl⟩
  obtain ⟨z2, hz2⟩ : ∃ z2, Lib.compareBytes h1.data.toList h2.data.toList = z2 := ⟨_, rfl⟩
  obtain ⟨z3, hz3⟩ : ∃ z3, Lib.compareInt (l : Int) (l : Int) = z3 := ⟨_, rfl⟩
  have C1 : Hid (∀ W, Calls Tryd.prog 44 #[.int .i64 h1.size, .int .i64 h2.size] W fun e w' => e = .returned (.int .i64 z1) ∧ w' = W) := mkHid fun W => by rw [← hz1]; exact Tryd.cmp_Compare_int _ _ W
  have C2 : Hid (∀ W, Calls Tryd.prog 45 #[.string h1, .string h2] W fun e w' => e = .returned (.int .i64 z2) ∧ w' = W) := mkHid fun W => by rw [← hz2]; exact Tryd.strings_Compare _ _ W
  have C3 : Hid (∀ W, Calls Tryd.prog 46 #[.int .u64 l, .int .u64 l] W fun e w' => e = .returned (.int .i64 z3) ∧ w' = W) := mkHid fun W => by rw [← hz3]; exact compare64_any _ _ W
  rw [hz1, hz2, hz3]
  clear hz1 hz2 hz3
  go_enter Tryd.func14, Tryd.ntmps14
  go_wp2
  go_region_held3 (fun w' => w'.cell? ⟨w.heap.size, 0, none⟩ = some (.int .u64 (l : Int)) ∧ w'.cell? ⟨w.heap.size, 1, none⟩ = some (.string h1) ∧ w'.cell? ⟨w.heap.size + 1, 0, none⟩ = some (.int .u64 (l : Int)) ∧ w'.cell? ⟨w.heap.size + 1, 1, none⟩ = some (.string h2)) (go_keep)
    (first
      | (go_at_call 44; refine (C1.out _).mono ?_; rintro e w2 ⟨rfl, rfl⟩)
      | (go_at_call 45; refine (C2.out _).mono ?_; rintro e w2 ⟨rfl, rfl⟩)
      | (go_at_call 46; refine (C3.out _).mono ?_; rintro e w2 ⟨rfl, rfl⟩)
      | (go_at_call 43; refine (or_three _ _ _ z1 z2 z3).mono ?_; rintro e w2 ⟨rfl, rfl⟩))
  go_wp2
  go_ret
  exact ⟨rfl, (((Below.refl _ _).alloc (Nat.le_refl _) _).alloc (by simp) _).alloc (by simp; omega) _ |>.drew⟩

theorem cmp_raw (a b : Nat) (w : World) :
    Calls Tryd.prog 14 #[natV a, natV b] w fun e w' => e = .returned (.int .i64 (orI [Lib.compareInt ((hs a).size : Int) ((hs b).size : Int), Lib.compareBytes (hb a) (hb b), Lib.compareInt ((a % M.B : Nat) : Int) ((b % M.B : Nat) : Int)])) ∧ Below w.heap.size w w' := by
  have e (n : Nat) : hb n = (hs n).data.toList := by simp [hs]
  rw [e a, e b]
  unfold natV
  by_cases hl : ((a % M.B : Nat) : Int) = ((b % M.B : Nat) : Int)
  · rw [← hl]
    by_cases hh : (hs a).toList = (hs b).toList
    · have hh2 : hs a = hs b := by
        rw [ByteArray.toList_eq, ByteArray.toList_eq] at hh
        exact ByteArray.ext (Array.toList_inj.1 hh)
      rw [hh2]
      refine (cmp_same _ _ w).mono ?_
      rintro e w' ⟨rfl, hb⟩
      refine ⟨?_, hb⟩
      have e1 : ∀ z : Int, Lib.compareInt z z = 0 := fun z => by simp [Lib.compareInt]
      have e2 : ∀ l : List UInt8, Lib.compareBytes l l = 0 := by
        intro l
        induction l with
        | nil => rfl
        | cons x l ih => simp [Lib.compareBytes, ih, UInt8.lt_irrefl]
      rw [e1, e1, e2]; rfl
    · exact cmp_diff2 _ _ _ w hh
  · exact cmp_diff1 _ _ _ _ w hl

/-- The number of which these are the bytes, the highest first. -/
def bval : List UInt8 → Nat
  | [] => 0
  | x :: l => x.toNat * 256 ^ l.length + bval l
theorem bval_lt (l : List UInt8) : bval l < 256 ^ l.length := by
  induction l with
  | nil => exact Nat.one_pos
  | cons x l ih =>
    have hx := x.toNat_lt
    have : (x.toNat + 1) * 256 ^ l.length ≤ 256 * 256 ^ l.length := Nat.mul_le_mul_right _ (by omega)
    rw [Nat.add_mul, Nat.one_mul] at this
    rw [List.length_cons, Nat.pow_succ, Nat.mul_comm (256 ^ l.length) 256]
    unfold bval
    omega
theorem ci_lt {x y : Nat} (h : x < y) : Lib.compareInt (x : Int) (y : Int) = -1 := by
  unfold Lib.compareInt; rw [if_pos (by omega)]
theorem ci_gt {x y : Nat} (h : y < x) : Lib.compareInt (x : Int) (y : Int) = 1 := by
  unfold Lib.compareInt; rw [if_neg (by omega), if_pos (by omega)]
theorem ci_eq (x : Int) : Lib.compareInt x x = 0 := by simp [Lib.compareInt]
theorem cmpb : ∀ (a b : List UInt8), a.length = b.length → Lib.compareBytes a b = Lib.compareInt (bval a : Int) (bval b : Int)
  | [], [], _ => (ci_eq _).symm
  | x :: a, y :: b, h => by
    have hl : a.length = b.length := by simpa using h
    have ha := bval_lt a
    have hb := bval_lt b
    unfold Lib.compareBytes bval
    rw [hl] at ha ⊢
    by_cases h1 : x < y
    · rw [if_pos h1]
      have h2 : x.toNat < y.toNat := UInt8.lt_iff_toNat_lt.1 h1
      have : (x.toNat + 1) * 256 ^ b.length ≤ y.toNat * 256 ^ b.length := Nat.mul_le_mul_right _ h2
      rw [Nat.add_mul, Nat.one_mul] at this
      rw [ci_lt (by omega)]
    · rw [if_neg h1]
      by_cases h2 : y < x
      · rw [if_pos h2]
        have h2 : y.toNat < x.toNat := UInt8.lt_iff_toNat_lt.1 h2
        have : (y.toNat + 1) * 256 ^ b.length ≤ x.toNat * 256 ^ b.length := Nat.mul_le_mul_right _ h2
        rw [Nat.add_mul, Nat.one_mul] at this
        rw [ci_gt (by omega)]
      · rw [if_neg h2, cmpb a b hl]
        have e : x.toNat = y.toNat := by
          have h1' := mt UInt8.lt_iff_toNat_lt.2 h1
          have h2' := mt UInt8.lt_iff_toNat_lt.2 h2
          omega
        rw [e]
        rcases Nat.lt_trichotomy (bval a) (bval b) with h | h | h
        · rw [ci_lt h, ci_lt (by omega)]
        · rw [h, ci_eq, ci_eq]
        · rw [ci_gt h, ci_gt (by omega)]
theorem bval_append (a b : List UInt8) : bval (a ++ b) = bval a * 256 ^ b.length + bval b := by
  induction a with
  | nil => simp [bval]
  | cons x a ih =>
    show x.toNat * 256 ^ (a ++ b).length + bval (a ++ b) = (x.toNat * 256 ^ a.length + bval a) * 256 ^ b.length + bval b
    rw [ih, List.length_append, Nat.pow_add, Nat.add_mul, Nat.mul_assoc, Nat.add_assoc]
theorem bval8 (c7 c6 c5 c4 c3 c2 c1 c0 : Nat) : c7 * 256 ^ (0 + 1 + 1 + 1 + 1 + 1 + 1 + 1) + (c6 * 256 ^ (0 + 1 + 1 + 1 + 1 + 1 + 1) + (c5 * 256 ^ (0 + 1 + 1 + 1 + 1 + 1) + (c4 * 256 ^ (0 + 1 + 1 + 1 + 1) + (c3 * 256 ^ (0 + 1 + 1 + 1) + (c2 * 256 ^ (0 + 1 + 1) + (c1 * 256 ^ (0 + 1) + (c0 * 256 ^ 0 + 0)))))))
    = c7 * 72057594037927936 + c6 * 281474976710656 + c5 * 1099511627776 + c4 * 4294967296 + c3 * 16777216 + c2 * 65536 + c1 * 256 + c0 := by
  simp only [Nat.reduceAdd, Nat.reducePow, Nat.zero_add, Nat.add_zero, Nat.mul_one, Nat.add_assoc]
theorem bval_be8 (x : Nat) (h : x < M.B) : bval (be8 x) = x := by
  have e (c : Nat) (hc : c < 256) : (UInt8.ofNat c).toNat = c := by simp [Nat.mod_eq_of_lt hc]
  have := by8_sum x (by rw [← M.B_eq]; exact h)
  simp only [be8, bval, List.length_cons, List.length_nil]
  rw [e _ (by8_lt x 7), e _ (by8_lt x 6), e _ (by8_lt x 5), e _ (by8_lt x 4), e _ (by8_lt x 3), e _ (by8_lt x 2), e _ (by8_lt x 1), e _ (by8_lt x 0)]
  exact (bval8 _ _ _ _ _ _ _ _).trans this
theorem B_256 : M.B = 256 ^ 8 := by rw [M.B_eq]
theorem bval_flat (l : List Nat) (h : M.Ok l) : bval (l.reverse.flatMap be8) = M.val l := by
  induction l with
  | nil => rfl
  | cons x l ih =>
    rw [List.reverse_cons, List.flatMap_append, bval_append, ih h.tail, M.val_cons]
    have : [x].flatMap be8 = be8 x := by simp
    rw [this, bval_be8 x h.head, be8_length, B_256, Nat.mul_comm, Nat.add_comm]
theorem dig_tail (n : Nat) : M.val (M.dig n).tail = n / M.B := by
  by_cases h0 : n = 0
  · subst h0; rw [M.dig_zero]; simp
  · rw [M.dig_pos h0, List.tail_cons, M.val_dig]
theorem bval_hb (n : Nat) : bval (hb n) = n / M.B := by
  unfold hb
  rw [bval_flat _ (fun x hx => M.ok_dig n x (List.mem_of_mem_tail hx)), dig_tail]
theorem hs_hb (n : Nat) : (hs n).size = (hb n).length := rfl
theorem hs_lt {a b : Nat} (h : (hs a).size < (hs b).size) : a < b := by
  rw [hs_size, hs_size] at h
  have h1 : a < M.B ^ (M.dig a).length := M.dig_length_le.1 (Nat.le_refl _)
  have h2 : ¬ b < M.B ^ (M.dig a).length := fun hc => by
    have := M.dig_length_le.2 hc; omega
  omega
theorem or3 (x y z : Int) : orI [x, y, z] = if x = 0 then (if y = 0 then z else y) else x := by
  simp only [orI]
  split <;> try rfl
  split <;> try rfl
  split <;> simp_all
theorem cmp_plain (a b : Nat) : orI [Lib.compareInt ((hs a).size : Int) ((hs b).size : Int), Lib.compareBytes (hb a) (hb b), Lib.compareInt ((a % M.B : Nat) : Int) ((b % M.B : Nat) : Int)] = Lib.compareInt (a : Int) (b : Int) := by
  rw [or3]
  rcases Nat.lt_trichotomy (hs a).size (hs b).size with h | h | h
  · rw [ci_lt h, ci_lt (hs_lt h)]; rfl
  · rw [h, ci_eq, if_pos rfl, cmpb _ _ (by rw [← hs_hb, ← hs_hb, h]), bval_hb, bval_hb]
    rcases Nat.lt_trichotomy (a / M.B) (b / M.B) with h | h | h
    · rw [ci_lt h, ci_lt (Nat.lt_of_div_lt_div h)]; rfl
    · have ha := Nat.div_add_mod a M.B
      have hb := Nat.div_add_mod b M.B
      rw [h] at ha ⊢
      rw [ci_eq, if_pos rfl]
      revert ha hb
      generalize M.B * (b / M.B) = k
      generalize a % M.B = x
      generalize b % M.B = y
      intro ha hb
      rcases Nat.lt_trichotomy x y with h | h | h
      · rw [ci_lt h, ci_lt (by omega)]
      · rw [h, ci_eq, show a = b by omega, ci_eq]
      · rw [ci_gt h, ci_gt (by omega)]
    · rw [ci_gt h, ci_gt (Nat.lt_of_div_lt_div h)]; rfl
  · rw [ci_gt h, ci_gt (hs_lt h)]; rfl

theorem cmp_any (a b : Nat) (w : World) :
    Calls Tryd.prog 14 #[natV a, natV b] w fun e w' => e = .returned (.int .i64 (Lib.compareInt (a : Int) (b : Int))) ∧ Below w.heap.size w w' := by
  rw [← cmp_plain]
  exact cmp_raw a b w

end Go.Proofs.YtjdkbbggelpchaaDoor
