/- Contract of assignment: the low bits of a number. -/
import Derived.Test.YtalpbpcanebbbaaTZb
namespace Go.Proofs.Ytalpbpcanebbbaa
open Go.RowKit VM LM TM

/-- The assignment of a number. -/
def asg (k n : Nat) : BitVec 128 := BitVec.ofNat 128 (k % 2 ^ n)
theorem pow20 {n : Nat} (hn : n ≤ 20) : (2 ^ n : Nat) ≤ 1048576 ∧ 0 < (2 ^ n : Nat) := ⟨Nat.pow_le_pow_right (n := 2) (by omega) hn, Nat.two_pow_pos n⟩
theorem asg_sv {k n : Nat} (hn : n ≤ 20) : sv (asg k n) = .agg #[.int .u64 ((k % 2 ^ n : Nat) : Int), .int .u64 0] := by
  have h := pow20 hn
  have h1 : k % 2 ^ n < 1048576 := by have := Nat.mod_lt k h.2; omega
  unfold sv asg wd lo hi
  generalize k % 2 ^ n = m at h1
  have e1 : ((BitVec.ofNat 128 m).extractLsb' 0 64).toNat = m := by
    simp [BitVec.extractLsb'_toNat]; omega
  have e2 : ((BitVec.ofNat 128 m).extractLsb' 64 64).toNat = 0 := by
    simp [BitVec.extractLsb'_toNat, Nat.shiftRight_eq_div_pow]; omega
  rw [e1, e2]
  rfl
theorem mask_and {k n : Nat} (hk : k < 1048576) (hn : n ≤ 20) : bits .and .u64 (k : Int) (IntKind.u64.wrap (IntKind.u64.wrap (2 ^ n) - 1)) = ((k % 2 ^ n : Nat) : Int) := by
  have h := pow20 hn
  have e0 : ((2 : Int) ^ n) = ((2 ^ n : Nat) : Int) := by simp
  rw [e0]
  have e1 : IntKind.u64.wrap ((2 ^ n : Nat) : Int) = ((2 ^ n : Nat) : Int) := by rw [IntKind.wrap_u64]; omega
  have e2 : IntKind.u64.wrap (((2 ^ n : Nat) : Int) - 1) = ((2 ^ n - 1 : Nat) : Int) := by rw [IntKind.wrap_u64]; omega
  rw [e1, e2, bits_and_u64_nat _ _ (by omega) (by omega), Nat.and_two_pow_sub_one_eq_mod]
set_option maxRecDepth 100000 in
theorem assignment_any (k n : Nat) (hk : k < 1048576) (hn : n ≤ 20) (w : World) :
    Calls Try.prog 34 #[.int .i64 (k : Int), .int .i64 (n : Int)] w fun e w' => e = .returned (sv (asg k n)) ∧ Below w.heap.size w w' := by
  rw [asg_sv hn]
  have hm := mask_and hk hn
  generalize ((k % 2 ^ n : Nat) : Int) = r at *
  go_enter Try.func34, Try.ntmps34
  obtain ⟨r0, r1, -, -⟩ := AtS.new w w.heap.size r 0 36 rfl
  go_wp2
  refine bodyPost_ret (v := .agg #[.int .u64 r, .int .u64 0]) (by simp [results, Try.results34, go_sem, r0, r1]) rfl ?_
  exact ⟨rfl, bal (Below.refl _ _) _⟩
end Go.Proofs.Ytalpbpcanebbbaa
