/- Words as bytes, the highest one first; numbers as values. -/
import Derived.Test.YtjdkbbggelpchaaDoorW2
import Derived.Test.YtjdkbbggelpchaaDoorBits
import Derived.Laws.BytesString
import Derived.Laws.BytesArg
namespace Go.Proofs.YtjdkbbggelpchaaDoor
open Go.RowKit

def by8 (x k : Nat) : Nat := x / 256 ^ k % 256
/-- The eight bytes of a word. -/
def be8 (x : Nat) : List UInt8 := [UInt8.ofNat (by8 x 7), UInt8.ofNat (by8 x 6), UInt8.ofNat (by8 x 5), UInt8.ofNat (by8 x 4), UInt8.ofNat (by8 x 3), UInt8.ofNat (by8 x 2), UInt8.ofNat (by8 x 1), UInt8.ofNat (by8 x 0)]
theorem be8_length (x : Nat) : (be8 x).length = 8 := rfl
theorem by8_lt (x k : Nat) : by8 x k < 256 := Nat.mod_lt _ (by omega)
theorem by8_sum (x : Nat) (h : x < 18446744073709551616) :
    by8 x 7 * 72057594037927936 + by8 x 6 * 281474976710656 + by8 x 5 * 1099511627776 + by8 x 4 * 4294967296 + by8 x 3 * 16777216 + by8 x 2 * 65536 + by8 x 1 * 256 + by8 x 0 = x := by
  have e (k : Nat) : x / 256 ^ (k + 1) = x / 256 ^ k / 256 := by rw [Nat.pow_succ, Nat.div_div_eq_div_mul]
  have e0 : x / 256 ^ 0 = x := by simp
  have h1 : x / 256 ^ 1 = x / 256 := by rw [Nat.pow_one]
  have h2 : x / 256 ^ 2 = x / 256 / 256 := by rw [e 1, h1]
  have h3 : x / 256 ^ 3 = x / 256 / 256 / 256 := by rw [e 2, h2]
  have h4 : x / 256 ^ 4 = x / 256 / 256 / 256 / 256 := by rw [e 3, h3]
  have h5 : x / 256 ^ 5 = x / 256 / 256 / 256 / 256 / 256 := by rw [e 4, h4]
  have h6 : x / 256 ^ 6 = x / 256 / 256 / 256 / 256 / 256 / 256 := by rw [e 5, h5]
  have h7 : x / 256 ^ 7 = x / 256 / 256 / 256 / 256 / 256 / 256 / 256 := by rw [e 6, h6]
  unfold by8
  rw [e0, h7, h6, h5, h4, h3, h2, h1]
  omega

theorem or_nat (a b s : Nat) (ha : a < 18446744073709551616) (hb : b < 2 ^ s) (hs : s ≤ 64) (hd : 2 ^ s ∣ a) : bits .or .u64 (a : Int) (b : Int) = ((a + b : Nat) : Int) := by
  have : 2 ^ s ≤ 2 ^ 64 := Nat.pow_le_pow_right (by omega) hs
  rw [bits_or_u64_nat _ _ ha (by omega), or_disjoint a b s hb hd]

/-- A string that begins with the bytes of a word. -/
def Begins (s : ByteArray) (x : Nat) : Prop := 8 ≤ s.size ∧ ∀ k (_ : k < 8) (h2 : k < s.size), (s[k]'h2).toNat = by8 x (7 - k)

theorem or_step (p q : Int) (a b s : Nat) (hp : p = (a : Int)) (hq : q = (b : Int)) (ha : a < 18446744073709551616) (hb : b < 2 ^ s) (hs : s ≤ 64) (hd : 2 ^ s ∣ a) : bits .or .u64 p q = ((a + b : Nat) : Int) := by
  rw [hp, hq]; exact or_nat a b s ha hb hs hd

theorem or_chain (c0 c1 c2 c3 c4 c5 c6 c7 : Nat) (h0 : c0 < 256) (h1 : c1 < 256) (h2 : c2 < 256) (h3 : c3 < 256) (h4 : c4 < 256) (h5 : c5 < 256) (h6 : c6 < 256) (h7 : c7 < 256) :
    bits .or .u64 (bits .or .u64 (bits .or .u64 (bits .or .u64 (bits .or .u64 (bits .or .u64 (bits .or .u64 ((c0 : Int) * 72057594037927936) ((c1 : Int) * 281474976710656)) ((c2 : Int) * 1099511627776)) ((c3 : Int) * 4294967296)) ((c4 : Int) * 16777216)) ((c5 : Int) * 65536)) ((c6 : Int) * 256)) (c7 : Int) = ((c0 * 72057594037927936 + c1 * 281474976710656 + c2 * 1099511627776 + c3 * 4294967296 + c4 * 16777216 + c5 * 65536 + c6 * 256 + c7 : Nat) : Int) := by
  have s1 : bits .or .u64 ((c0 : Int) * 72057594037927936 : Int) ((c1 : Int) * 281474976710656) = ((c0 * 72057594037927936 + c1 * 281474976710656 : Nat) : Int) :=
    or_step _ _ (c0 * 72057594037927936) (c1 * 281474976710656) 56 (by omega) (by omega) (by omega) (by omega) (by omega) (by omega)
  have s2 : bits .or .u64 ((c0 * 72057594037927936 + c1 * 281474976710656 : Nat) : Int) ((c2 : Int) * 1099511627776) = ((c0 * 72057594037927936 + c1 * 281474976710656 + c2 * 1099511627776 : Nat) : Int) :=
    or_step _ _ (c0 * 72057594037927936 + c1 * 281474976710656) (c2 * 1099511627776) 48 (by omega) (by omega) (by omega) (by omega) (by omega) (by omega)
  have s3 : bits .or .u64 ((c0 * 72057594037927936 + c1 * 281474976710656 + c2 * 1099511627776 : Nat) : Int) ((c3 : Int) * 4294967296) = ((c0 * 72057594037927936 + c1 * 281474976710656 + c2 * 1099511627776 + c3 * 4294967296 : Nat) : Int) :=
    or_step _ _ (c0 * 72057594037927936 + c1 * 281474976710656 + c2 * 1099511627776) (c3 * 4294967296) 40 (by omega) (by omega) (by omega) (by omega) (by omega) (by omega)
  have s4 : bits .or .u64 ((c0 * 72057594037927936 + c1 * 281474976710656 + c2 * 1099511627776 + c3 * 4294967296 : Nat) : Int) ((c4 : Int) * 16777216) = ((c0 * 72057594037927936 + c1 * 281474976710656 + c2 * 1099511627776 + c3 * 4294967296 + c4 * 16777216 : Nat) : Int) :=
    or_step _ _ (c0 * 72057594037927936 + c1 * 281474976710656 + c2 * 1099511627776 + c3 * 4294967296) (c4 * 16777216) 32 (by omega) (by omega) (by omega) (by omega) (by omega) (by omega)
  have s5 : bits .or .u64 ((c0 * 72057594037927936 + c1 * 281474976710656 + c2 * 1099511627776 + c3 * 4294967296 + c4 * 16777216 : Nat) : Int) ((c5 : Int) * 65536) = ((c0 * 72057594037927936 + c1 * 281474976710656 + c2 * 1099511627776 + c3 * 4294967296 + c4 * 16777216 + c5 * 65536 : Nat) : Int) :=
    or_step _ _ (c0 * 72057594037927936 + c1 * 281474976710656 + c2 * 1099511627776 + c3 * 4294967296 + c4 * 16777216) (c5 * 65536) 24 (by omega) (by omega) (by omega) (by omega) (by omega) (by omega)
  have s6 : bits .or .u64 ((c0 * 72057594037927936 + c1 * 281474976710656 + c2 * 1099511627776 + c3 * 4294967296 + c4 * 16777216 + c5 * 65536 : Nat) : Int) ((c6 : Int) * 256) = ((c0 * 72057594037927936 + c1 * 281474976710656 + c2 * 1099511627776 + c3 * 4294967296 + c4 * 16777216 + c5 * 65536 + c6 * 256 : Nat) : Int) :=
    or_step _ _ (c0 * 72057594037927936 + c1 * 281474976710656 + c2 * 1099511627776 + c3 * 4294967296 + c4 * 16777216 + c5 * 65536) (c6 * 256) 16 (by omega) (by omega) (by omega) (by omega) (by omega) (by omega)
  have s7 : bits .or .u64 ((c0 * 72057594037927936 + c1 * 281474976710656 + c2 * 1099511627776 + c3 * 4294967296 + c4 * 16777216 + c5 * 65536 + c6 * 256 : Nat) : Int) (c7 : Int) = ((c0 * 72057594037927936 + c1 * 281474976710656 + c2 * 1099511627776 + c3 * 4294967296 + c4 * 16777216 + c5 * 65536 + c6 * 256 + c7 : Nat) : Int) :=
    or_step _ _ (c0 * 72057594037927936 + c1 * 281474976710656 + c2 * 1099511627776 + c3 * 4294967296 + c4 * 16777216 + c5 * 65536 + c6 * 256) (c7) 8 (by omega) (by omega) (by omega) (by omega) (by omega) (by omega)
  rw [s1, s2, s3, s4, s5, s6, s7]

set_option maxRecDepth 100000 in
set_option maxHeartbeats 4000000 in
theorem loadWord_any (s : ByteArray) (x : Nat) (w : World) (hs : Begins s x) (hx : x < M.B) (hmax : (s.size : Int) ≤ 9223372036854775807) :
    Calls Tryd.prog 57 #[.string s] w fun e w' => e = .returned (.int .u64 (x : Int)) ∧ ∃ n, w' = w.drewN n := by
  rw [M.B_eq] at hx
  obtain ⟨h8, hk⟩ := hs
  have b0 := hk 0 (by omega) (by omega)
  have b1 := hk 1 (by omega) (by omega)
  have b2 := hk 2 (by omega) (by omega)
  have b3 := hk 3 (by omega) (by omega)
  have b4 := hk 4 (by omega) (by omega)
  have b5 := hk 5 (by omega) (by omega)
  have b6 := hk 6 (by omega) (by omega)
  have b7 := hk 7 (by omega) (by omega)
  clear hk
  simp only [Nat.sub_zero, show 7 - 1 = 6 from rfl, show 7 - 2 = 5 from rfl, show 7 - 3 = 4 from rfl, show 7 - 4 = 3 from rfl, show 7 - 5 = 2 from rfl, show 7 - 6 = 1 from rfl, show 7 - 7 = 0 from rfl] at b0 b1 b2 b3 b4 b5 b6 b7
  have hsum := by8_sum x hx
  have l0 := by8_lt x 7; have l1 := by8_lt x 6; have l2 := by8_lt x 5; have l3 := by8_lt x 4; have l4 := by8_lt x 3; have l5 := by8_lt x 2; have l6 := by8_lt x 1; have l7 := by8_lt x 0
  generalize by8 x 7 = c0 at *
  generalize by8 x 6 = c1 at *
  generalize by8 x 5 = c2 at *
  generalize by8 x 4 = c3 at *
  generalize by8 x 3 = c4 at *
  generalize by8 x 2 = c5 at *
  generalize by8 x 1 = c6 at *
  generalize by8 x 0 = c7 at *
  have q1 : (1 : Int) < (s.size : Int) := by omega
  have q2 : (2 : Int) < (s.size : Int) := by omega
  have q3 : (3 : Int) < (s.size : Int) := by omega
  have q4 : (4 : Int) < (s.size : Int) := by omega
  have q5 : (5 : Int) < (s.size : Int) := by omega
  have q6 : (6 : Int) < (s.size : Int) := by omega
  have q7 : (7 : Int) < (s.size : Int) := by omega
  have q0 : 0 < s.size := by omega
  have HS := mkHid hsum
  clear hsum
  go_enter Tryd.func57, Tryd.ntmps57
  go_wp2
  go_quiet (fail)
  go_wp2
  go_ret
  refine ⟨?_, _, rfl⟩
  rw [← HS.out, ← or_chain c0 c1 c2 c3 c4 c5 c6 c7 l0 l1 l2 l3 l4 l5 l6 l7]
  rfl
end Go.Proofs.YtjdkbbggelpchaaDoor
