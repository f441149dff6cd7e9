/- The contract of Div64. -/
import Derived.Test.YtjdkbbggelpchaaDoorW
import Derived.Test.YtjdkbbggelpchaaDoorShelf
import Derived.Test.YtjdkbbggelpchaaDoorBits
import Derived.Deep.CutBlock
import Derived.Deep.DeepCutAuto
namespace Go.Proofs.YtjdkbbggelpchaaDoor
open Go.RowKit

/-- Half of a quotient: q is at least the quotient of u 2^32 + t by n1 2^32 + n0, and r is what q n1 leaves of u. -/
structure Half (n1 n0 u t q r : Nat) : Prop where
  e : q * n1 + r = u
  b : (u * 4294967296 + t) / (n1 * 4294967296 + n0) ≤ q

theorem Half.lt {n1 n0 u t : Nat} (hu : u < n1 * 4294967296 + n0 ∧ t < 4294967296) : (u * 4294967296 + t) / (n1 * 4294967296 + n0) < 4294967296 := by
  rw [Nat.div_lt_iff_lt_mul (by omega)]
  have h := Nat.mul_le_mul_right 4294967296 (show u + 1 ≤ n1 * 4294967296 + n0 by omega)
  rw [Nat.mul_comm 4294967296]
  omega

theorem half_key (q n1 n0 r u : Nat) (e : q * n1 + r = u) : q * (n1 * 4294967296 + n0) + r * 4294967296 = u * 4294967296 + q * n0 := by
  subst e
  rw [Nat.mul_add, Nat.add_mul, Nat.mul_assoc]; omega

theorem Half.next {n1 n0 u t q r : Nat} (h : Half n1 n0 u t q r) (hu : u < n1 * 4294967296 + n0 ∧ t < 4294967296)
    (ht : 4294967296 ≤ q ∨ 4294967296 * r + t < q * n0) : Half n1 n0 u t (q - 1) (r + n1) := by
  have hd : 0 < n1 * 4294967296 + n0 := by omega
  have hgt : (u * 4294967296 + t) / (n1 * 4294967296 + n0) < q := by
    rcases ht with ht | ht
    · exact Nat.lt_of_lt_of_le (Half.lt hu) ht
    · rw [Nat.div_lt_iff_lt_mul hd]
      have := half_key q n1 n0 r u h.e
      omega
  obtain ⟨p, rfl⟩ : ∃ p, q = p + 1 := ⟨q - 1, by have := Nat.zero_lt_of_lt hgt; omega⟩
  refine ⟨?_, Nat.le_of_lt_succ hgt⟩
  have := h.e
  rw [Nat.add_mul, Nat.one_mul] at this
  simp only [Nat.add_sub_cancel]; omega

theorem Half.done {n1 n0 u t q r : Nat} (h : Half n1 n0 u t q r) (hu : u < n1 * 4294967296 + n0) (hle : q * n0 ≤ 4294967296 * r + t) : (u * 4294967296 + t) / (n1 * 4294967296 + n0) = q := by
  have hd : 0 < n1 * 4294967296 + n0 := by omega
  have h1 : q ≤ (u * 4294967296 + t) / (n1 * 4294967296 + n0) := by
    rw [Nat.le_div_iff_mul_le hd]
    have := half_key q n1 n0 r u h.e
    omega
  have := h.b
  omega

theorem Half.atTest {n1 n0 u t q r : Nat} (h : Half n1 n0 u t q r) (hu : u < n1 * 4294967296 + n0 ∧ t < 4294967296) (hle : q * n0 ≤ 4294967296 * r + t) :
    (u * 4294967296 + t) / (n1 * 4294967296 + n0) = q := h.done hu.1 hle

theorem Half.atBreak {n1 n0 u t q r : Nat} (h : Half n1 n0 u t q r) (hn0 : n0 < 4294967296) (hu : u < n1 * 4294967296 + n0 ∧ t < 4294967296) (hr : 4294967296 ≤ r) :
    (u * 4294967296 + t) / (n1 * 4294967296 + n0) = q := by
  refine h.done hu.1 ?_
  have hq : q ≤ 4294967296 := by
    apply Nat.le_of_not_lt; intro hlt
    have := Nat.mul_le_mul_right n1 (show 4294967297 ≤ q by omega)
    have := h.e
    omega
  have := Nat.mul_le_mul hq (show n0 ≤ 4294967295 by omega)
  omega

theorem Half.start {n1 n0 u t : Nat} (hn1 : 2147483648 ≤ n1) (hn0 : n0 < 4294967296) (hu : u < n1 * 4294967296 + n0 ∧ t < 4294967296) :
    Half n1 n0 u t (u / n1) (u % n1) ∧ u / n1 ≤ 4294967297 := by
  have hpos : 0 < n1 := by omega
  have hdm := Nat.div_add_mod u n1
  refine ⟨⟨by rw [Nat.mul_comm]; exact hdm, ?_⟩, ?_⟩
  · have h1 : (u * 4294967296 + t) / (n1 * 4294967296 + n0) ≤ (u * 4294967296 + t) / (n1 * 4294967296) := Nat.div_le_div_left (by omega) (by omega)
    have h2 : (u * 4294967296 + t) / (n1 * 4294967296) = u / n1 := by
      rw [Nat.mul_comm n1, ← Nat.div_div_eq_div_mul, Nat.mul_comm u, Nat.mul_add_div (by omega), Nat.div_eq_of_lt hu.2, Nat.add_zero]
    omega
  · have : u / n1 < 4294967298 := by
      rw [Nat.div_lt_iff_lt_mul hpos]; omega
    omega

set_option maxRecDepth 100000 in
set_option maxHeartbeats 4000000 in
theorem div64_far (hi lo y s d n1 n0 a b u v v1 v0 q1 p1 r1 x w1 u2 q2 p2 r2 z w2 f g : Nat) (w : World) (hs : s < 64) (h0 : ((hi : Int) == 0) = false) (hy : 0 < y) (hlt : hi < y) (hlz : Hid (∀ w, Calls Tryd.prog 68 #[.int .u64 y] w fun e w' => e = .returned (.int .i64 (s : Int)) ∧ w' = w))
    (e1 : IntKind.u64.wrap ((y : Int) * 2 ^ s) = (d : Int)) (e2 : (d : Int) / 4294967296 = (n1 : Int)) (e3 : bits .and .u64 (d : Int) 4294967295 = (n0 : Int))
    (e4 : IntKind.u64.wrap ((hi : Int) * 2 ^ s) = (a : Int)) (e5 : (lo : Int) / 2 ^ (64 - s) = (b : Int)) (e6 : bits .or .u64 (a : Int) (b : Int) = (u : Int))
    (e7 : IntKind.u64.wrap ((lo : Int) * 2 ^ s) = (v : Int)) (e8 : (v : Int) / 4294967296 = (v1 : Int)) (e9 : bits .and .u64 (v : Int) 4294967295 = (v0 : Int))
    (hn1 : Hid (2147483648 ≤ n1)) (bn1 : 1 ≤ n1) (cn1 : (n1 : Int) ≤ 4294967295) (hn0 : Hid (n0 < 4294967296)) (bv1 : (v1 : Int) ≤ 4294967295) (bv0 : (v0 : Int) ≤ 4294967295)
    (hltu : Hid (u < n1 * 4294967296 + n0 ∧ v1 < 4294967296)) (hltu2 : Hid (u2 < n1 * 4294967296 + n0 ∧ v0 < 4294967296))
    (e10 : (u : Int) / (n1 : Int) = (q1 : Int)) (e11 : (q1 : Int) * (n1 : Int) = (p1 : Int)) (e12 : (u : Int) - (p1 : Int) = (r1 : Int)) (b1 : (q1 : Int) ≤ 4294967297) (b2 : (r1 : Int) ≤ 4294967295) (b3 : (p1 : Int) ≤ 18446744073709551615)
    (g1 : Hid (q1 = u / n1 ∧ r1 = u % n1))
    (e13 : (x : Int) * (d : Int) = (w1 : Int)) (hx : Hid ((u * 4294967296 + v1) / (n1 * 4294967296 + n0) = x))
    (e14 : IntKind.u64.wrap (IntKind.u64.wrap (IntKind.u64.wrap ((u : Int) * 4294967296) + (v1 : Int)) - IntKind.u64.wrap (w1 : Int)) = (u2 : Int))
    (e15 : (u2 : Int) / (n1 : Int) = (q2 : Int)) (e16 : (q2 : Int) * (n1 : Int) = (p2 : Int)) (e17 : (u2 : Int) - (p2 : Int) = (r2 : Int)) (b4 : (q2 : Int) ≤ 4294967297) (b5 : (r2 : Int) ≤ 4294967295) (b6 : (p2 : Int) ≤ 18446744073709551615)
    (g2 : Hid (q2 = u2 / n1 ∧ r2 = u2 % n1))
    (e18 : (z : Int) * (d : Int) = (w2 : Int)) (hz : Hid ((u2 * 4294967296 + v0) / (n1 * 4294967296 + n0) = z)) (bx : (x : Int) ≤ 4294967295) (bz : (z : Int) ≤ 4294967295)
    (e19 : IntKind.u64.wrap (IntKind.u64.wrap (IntKind.u64.wrap ((u2 : Int) * 4294967296) + (v0 : Int)) - IntKind.u64.wrap (w2 : Int)) = (f : Int)) (e20 : (f : Int) / 2 ^ s = (g : Int)) :
    Calls Tryd.prog 67 #[.int .u64 hi, .int .u64 lo, .int .u64 y] w fun e w' => e = .returned (.tuple #[.int .u64 ((x : Int) * 4294967296 + (z : Int)), .int .u64 (g : Int)]) ∧ w' = w := by
  go_enter Tryd.func67, Tryd.ntmps67
  go_upto_block 0 with (go_at_call 68; refine (hlz.out _).mono ?_; rintro e w' ⟨rfl, rfl⟩)
  go_cut [15] (fun qv wx => qv = .int .u64 (x : Int) ∧ wx = w')
  case first =>
    go_wp2_with fail
    go_loop [15, 16] (fun qv rv => ∃ q r : Nat, qv = .int .u64 q ∧ rv = .int .u64 r ∧ (q : Int) ≤ 4294967297 ∧ (r : Int) ≤ 4294967295 ∧ Hid (Half n1 n0 u v1 q r)) (fun qv _ => (intOf qv).toNat)
    case atStart => exact ⟨q1, r1, rfl, rfl, b1, b2, by rw [g1.out.1, g1.out.2]; exact (Half.start hn1.out hn0.out hltu.out).1⟩
    case round =>
      obtain ⟨q, r, rfl, rfl, hq, hr, H⟩ := hrel
      by_cases big : (4294967296 : Int) ≤ q
      · have HN := mkHid (H.out.next hltu.out (Or.inl (by omega)))
        have hq1 : 1 ≤ q := by omega
        by_cases br : (4294967296 : Int) ≤ r + n1
        · have hcast : ((q - 1 : Nat) : Int) = (q : Int) - 1 := by omega
          have HQ := mkHid (HN.out.atBreak hn0.out hltu.out (by omega))
          go_wp2
          go_meet
          exact ⟨by rw [← hx.out, HQ.out]; show Value.int .u64 _ = _; rw [hcast], rfl⟩
        · go_wp2
          go_round
          case rel => exact ⟨q - 1, r + n1, by go_num, by go_num, by omega, by omega, HN.out⟩
          case measure => simp [intOf]; omega
      · have hqs : (q : Int) ≤ 4294967295 := by omega
        obtain ⟨m, em⟩ : ∃ m, q * n0 = m := ⟨_, rfl⟩
        have hm : (m : Int) ≤ 18446744073709551615 := by
          have := Nat.mul_le_mul (show q ≤ 4294967295 by omega) (show n0 ≤ 4294967295 by have := hn0.out; omega)
          omega
        have hmul : (q : Int) * (n0 : Int) = (m : Int) := by rw [← em]; exact (Int.natCast_mul q n0).symm
        have EM := mkHid em
        clear em
        by_cases tst : (4294967296 : Int) * r + v1 < m
        · have hq1 : 1 ≤ q := by
            rcases Nat.eq_zero_or_pos q with h | h
            · have := EM.out; rw [h] at this; omega
            · exact h
          have HN := mkHid (H.out.next hltu.out (Or.inr (by rw [EM.out]; omega)))
          by_cases br : (4294967296 : Int) ≤ r + n1
          · have hcast : ((q - 1 : Nat) : Int) = (q : Int) - 1 := by omega
            have HQ := mkHid (HN.out.atBreak hn0.out hltu.out (by omega))
            go_wp2
            go_meet
            exact ⟨by rw [← hx.out, HQ.out]; show Value.int .u64 _ = _; rw [hcast], rfl⟩
          · go_wp2
            go_round
            case rel => exact ⟨q - 1, r + n1, by go_num, by go_num, by omega, by omega, HN.out⟩
            case measure => simp [intOf]; omega
        · have HQ := mkHid (H.out.atTest hltu.out (by rw [EM.out]; omega))
          go_wp2
          go_meet
          exact ⟨by rw [← HQ.out, hx.out], rfl⟩
  case rest =>
    obtain ⟨rfl, rfl⟩ := hcut
    go_upto_block 2 with fail
    go_cut [18] (fun qv wx => qv = .int .u64 (z : Int) ∧ wx = wc)
    case first =>
      go_wp2_with fail
      go_loop [18, 16] (fun qv rv => ∃ q r : Nat, qv = .int .u64 q ∧ rv = .int .u64 r ∧ (q : Int) ≤ 4294967297 ∧ (r : Int) ≤ 4294967295 ∧ Hid (Half n1 n0 u2 v0 q r)) (fun qv _ => (intOf qv).toNat)
      case atStart => exact ⟨q2, r2, rfl, rfl, b4, b5, by rw [g2.out.1, g2.out.2]; exact (Half.start hn1.out hn0.out hltu2.out).1⟩
      case round =>
        obtain ⟨q, r, rfl, rfl, hq, hr, H⟩ := hrel
        by_cases big : (4294967296 : Int) ≤ q
        · have HN := mkHid (H.out.next hltu2.out (Or.inl (by omega)))
          have hq1 : 1 ≤ q := by omega
          by_cases br : (4294967296 : Int) ≤ r + n1
          · have hcast : ((q - 1 : Nat) : Int) = (q : Int) - 1 := by omega
            have HQ := mkHid (HN.out.atBreak hn0.out hltu2.out (by omega))
            go_wp2
            go_meet
            exact ⟨by rw [← hz.out, HQ.out]; show Value.int .u64 _ = _; rw [hcast], rfl⟩
          · go_wp2
            go_round
            case rel => exact ⟨q - 1, r + n1, by go_num, by go_num, by omega, by omega, HN.out⟩
            case measure => simp [intOf]; omega
        · have hqs : (q : Int) ≤ 4294967295 := by omega
          obtain ⟨m, em⟩ : ∃ m, q * n0 = m := ⟨_, rfl⟩
          have hm : (m : Int) ≤ 18446744073709551615 := by
            have := Nat.mul_le_mul (show q ≤ 4294967295 by omega) (show n0 ≤ 4294967295 by have := hn0.out; omega)
            omega
          have hmul : (q : Int) * (n0 : Int) = (m : Int) := by rw [← em]; exact (Int.natCast_mul q n0).symm
          have EM := mkHid em
          clear em
          by_cases tst : (4294967296 : Int) * r + v0 < m
          · have hq1 : 1 ≤ q := by
              rcases Nat.eq_zero_or_pos q with h | h
              · have := EM.out; rw [h] at this; omega
              · exact h
            have HN := mkHid (H.out.next hltu2.out (Or.inr (by rw [EM.out]; omega)))
            by_cases br : (4294967296 : Int) ≤ r + n1
            · have hcast : ((q - 1 : Nat) : Int) = (q : Int) - 1 := by omega
              have HQ := mkHid (HN.out.atBreak hn0.out hltu2.out (by omega))
              go_wp2
              go_meet
              exact ⟨by rw [← hz.out, HQ.out]; show Value.int .u64 _ = _; rw [hcast], rfl⟩
            · go_wp2
              go_round
              case rel => exact ⟨q - 1, r + n1, by go_num, by go_num, by omega, by omega, HN.out⟩
              case measure => simp [intOf]; omega
          · have HQ := mkHid (H.out.atTest hltu2.out (by rw [EM.out]; omega))
            go_wp2
            go_meet
            exact ⟨by rw [← HQ.out, hz.out], rfl⟩
    case rest =>
      obtain ⟨rfl, rfl⟩ := hcut
      go_wp2
      go_ret2
      exact ⟨rfl, rfl⟩

theorem wrap_nat (n : Nat) : IntKind.u64.wrap (n : Int) = ((n % 18446744073709551616 : Nat) : Int) := by rw [IntKind.wrap_u64]; omega
theorem wrap_small (n : Nat) (h : n < 18446744073709551616) : IntKind.u64.wrap (n : Int) = (n : Int) := by rw [wrap_nat, Nat.mod_eq_of_lt h]
theorem two_pow_cast (s : Nat) : ((2 : Int) ^ s) = ((2 ^ s : Nat) : Int) := by simp

theorem e14_arith (u v1 w1 u2 : Nat) (h : u * 4294967296 + v1 = w1 + u2) (h2 : u2 < 18446744073709551616) :
    IntKind.u64.wrap (IntKind.u64.wrap (IntKind.u64.wrap ((u : Int) * 4294967296) + (v1 : Int)) - IntKind.u64.wrap (w1 : Int)) = (u2 : Int) := by
  simp only [IntKind.wrap_u64]; omega

theorem div_split (n1 n0 d : Nat) (h : d = n1 * 4294967296 + n0) (u v1 : Nat) (hu : u < d) (hv : v1 < 4294967296) :
    (u * 4294967296 + v1) / d ≤ 4294967295 ∧ (u * 4294967296 + v1) % d < d ∧ u * 4294967296 + v1 = (u * 4294967296 + v1) / d * d + (u * 4294967296 + v1) % d := by
  have hd : 0 < d := by omega
  have h1 : (u * 4294967296 + v1) / d < 4294967296 := by rw [h] at hu ⊢; exact Half.lt ⟨hu, hv⟩
  exact ⟨by omega, Nat.mod_lt _ hd, (Nat.div_add_mod' _ _).symm⟩

theorem div_total (hi lo y P d x z u v1 v0 u2 f : Nat) (hP : 0 < P) (hd : d = y * P) (hu : u * 18446744073709551616 + (v1 * 4294967296 + v0) = (hi * 18446744073709551616 + lo) * P)
    (h1 : u * 4294967296 + v1 = x * d + u2) (h2 : u2 * 4294967296 + v0 = z * d + f) (hf : f < d) :
    (hi * 18446744073709551616 + lo) / y = x * 4294967296 + z ∧ (hi * 18446744073709551616 + lo) % y = f / P := by
  have hy : 0 < y := by
    rcases Nat.eq_zero_or_pos y with h | h
    · subst h; simp at hd; omega
    · exact h
  obtain ⟨N, hN⟩ : ∃ N, hi * 18446744073709551616 + lo = N := ⟨_, rfl⟩
  rw [hN] at hu ⊢
  have e : N * P = (x * 4294967296 + z) * d + f := by
    have k1 : (x * 4294967296 + z) * d = x * d * 4294967296 + z * d := by rw [Nat.add_mul, Nat.mul_right_comm]
    omega
  rw [hd] at e hf
  have e2 : N * P = (x * 4294967296 + z) * y * P + f := by rw [e, Nat.mul_assoc]
  have hle : (x * 4294967296 + z) * y ≤ N := Nat.le_of_mul_le_mul_right (by omega : (x * 4294967296 + z) * y * P ≤ N * P) hP
  obtain ⟨r, hr⟩ := Nat.exists_eq_add_of_le hle
  have ef : f = r * P := by rw [hr, Nat.add_mul] at e2; omega
  have hr2 : r < y := by rw [ef] at hf; exact Nat.lt_of_mul_lt_mul_right hf
  have q1 : f / P = r := by rw [ef, Nat.mul_div_cancel _ hP]
  rw [q1, hr]
  constructor
  · rw [Nat.mul_comm _ y, Nat.mul_add_div hy, Nat.div_eq_of_lt hr2, Nat.add_zero]
  · rw [Nat.mul_comm _ y, Nat.mul_add_mod, Nat.mod_eq_of_lt hr2]

theorem lead_pow (y : Nat) (hy : 0 < y) (hyB : y < 18446744073709551616) :
    64 - Lib.bitLen y < 64 ∧ 9223372036854775808 ≤ y * 2 ^ (64 - Lib.bitLen y) ∧ y * 2 ^ (64 - Lib.bitLen y) < 18446744073709551616 := by
  have h0 : y ≠ 0 := by omega
  have a := bl_lt y hyB
  have b := bl_le y hyB h0
  have c := bl_pos y hyB h0
  have d := bl_64 y hyB
  refine ⟨by omega, ?_, ?_⟩
  · have h := Nat.mul_le_mul_right (2 ^ (64 - Lib.bitLen y)) b
    rw [← Nat.pow_add, show Lib.bitLen y - 1 + (64 - Lib.bitLen y) = 63 by omega] at h
    exact h
  · have h := Nat.mul_lt_mul_of_pos_right a (Nat.two_pow_pos (64 - Lib.bitLen y))
    rw [← Nat.pow_add, show Lib.bitLen y + (64 - Lib.bitLen y) = 64 by omega] at h
    exact h

set_option maxRecDepth 100000 in
set_option maxHeartbeats 1000000 in
theorem div64_mid (hi lo y s d n1 n0 a b u v v1 v0 x u2 z f P : Nat) (w : World) (hs : s < 64) (h0 : hi ≠ 0) (hy : 0 < y) (hlt : hi < y) (hlz : ∀ w, Calls Tryd.prog 68 #[.int .u64 y] w fun e w' => e = .returned (.int .i64 (s : Int)) ∧ w' = w)
    (hPd : 2 ^ s = P) (hP : 0 < P) (hd : y * P = d) (hd2 : d < 18446744073709551616) (hd1' : (d : Int) / 4294967296 = (n1 : Int)) (hd0' : bits .and .u64 (d : Int) 4294967295 = (n0 : Int))
    (hap : IntKind.u64.wrap ((hi : Int) * 2 ^ s) = (a : Int)) (hbp : (lo : Int) / 2 ^ (64 - s) = (b : Int)) (hbn : bits .or .u64 (a : Int) (b : Int) = (u : Int))
    (hlp : IntKind.u64.wrap ((lo : Int) * 2 ^ s) = (v : Int)) (hv1' : (v : Int) / 4294967296 = (v1 : Int)) (hv0' : bits .and .u64 (v : Int) 4294967295 = (v0 : Int))
    (hn1 : 2147483648 ≤ n1 ∧ n1 ≤ 4294967295) (hn0 : n0 < 4294967296) (hv1 : v1 < 4294967296) (hv0 : v0 < 4294967296) (hdd : d = n1 * 4294967296 + n0) (hu : u < d)
    (hUv : u * 18446744073709551616 + (v1 * 4294967296 + v0) = (hi * 18446744073709551616 + lo) * P)
    (hx : (u * 4294967296 + v1) / d = x) (x1 : x ≤ 4294967295) (x2 : u2 < d) (x3 : u * 4294967296 + v1 = x * d + u2)
    (hz : (u2 * 4294967296 + v0) / d = z) (z1 : z ≤ 4294967295) (z2 : f < d) (z3 : u2 * 4294967296 + v0 = z * d + f) :
    Calls Tryd.prog 67 #[.int .u64 hi, .int .u64 lo, .int .u64 y] w fun e w' =>
      e = .returned (.tuple #[.int .u64 (((hi * 18446744073709551616 + lo) / y : Nat) : Int), .int .u64 (((hi * 18446744073709551616 + lo) % y : Nat) : Int)]) ∧ w' = w := by
  have hst1 := Half.start hn1.1 hn0 ⟨by rw [← hdd]; exact hu, hv1⟩
  have hst2 := Half.start hn1.1 hn0 ⟨by rw [← hdd]; exact x2, hv0⟩
  have ht := div_total hi lo y P d x z u v1 v0 u2 f hP hd.symm hUv x3 z3 z2
  rw [ht.1, ht.2]
  have hm1 := Nat.mod_lt u (show 0 < n1 by omega)
  have hdm1 := Nat.div_add_mod u n1
  have hm2 := Nat.mod_lt u2 (show 0 < n1 by omega)
  have hdm2 := Nat.div_add_mod u2 n1
  generalize hq1 : u / n1 = q1 at *
  generalize hr1 : u % n1 = r1 at *
  generalize hq2 : u2 / n1 = q2 at *
  generalize hr2 : u2 % n1 = r2 at *
  rw [Nat.mul_comm] at hdm1 hdm2
  generalize hp1 : q1 * n1 = p1 at *
  generalize hp2 : q2 * n1 = p2 at *
  refine (div64_far hi lo y s d n1 n0 a b u v v1 v0 q1 p1 r1 x (x * d) u2 q2 p2 r2 z (z * d) f (f / P) w hs (by simp; omega) hy hlt (Lib.hid hlz)
    (by rw [two_pow_cast, ← Int.natCast_mul, hPd, hd, wrap_small _ hd2]) hd1' hd0' hap hbp hbn hlp hv1' hv0' (Lib.hid hn1.1) (by omega) (by omega) (Lib.hid hn0) (by omega) (by omega)
    (Lib.hid ⟨by rw [← hdd]; exact hu, hv1⟩) (Lib.hid ⟨by rw [← hdd]; exact x2, hv0⟩) (by rw [← hq1]; rfl) (by rw [← hp1]; rfl) (by omega) (by omega) (by omega) (by omega) (Lib.hid ⟨by omega, by omega⟩)
    rfl (Lib.hid (by rw [← hdd]; exact hx)) (e14_arith _ _ _ _ x3 (by omega)) (by rw [← hq2]; rfl) (by rw [← hp2]; rfl) (by omega) (by omega) (by omega) (by omega) (Lib.hid ⟨by omega, by omega⟩)
    rfl (Lib.hid (by rw [← hdd]; exact hz)) (by omega) (by omega) (e14_arith _ _ _ _ z3 (by omega)) (by rw [two_pow_cast, hPd]; rfl)).mono ?_
  rintro e w' ⟨rfl, rfl⟩
  refine ⟨?_, rfl⟩
  rw [show ((x : Int) * 4294967296 + (z : Int)) = ((x * 4294967296 + z : Nat) : Int) by omega]

set_option maxRecDepth 100000 in
set_option maxHeartbeats 1000000 in
theorem div64_big (hi lo y : Nat) (w : World) (h0 : hi ≠ 0) (hlt : hi < y) (hyB : y < 18446744073709551616) (hlo : lo < 18446744073709551616) :
    Calls Tryd.prog 67 #[.int .u64 hi, .int .u64 lo, .int .u64 y] w fun e w' =>
      e = .returned (.tuple #[.int .u64 (((hi * 18446744073709551616 + lo) / y : Nat) : Int), .int .u64 (((hi * 18446744073709551616 + lo) % y : Nat) : Int)]) ∧ w' = w := by
  have hy : 0 < y := by omega
  obtain ⟨hs, hd1, hd2⟩ := lead_pow y hy hyB
  have hlz : ∀ w, Calls Tryd.prog 68 #[.int .u64 y] w fun e w' => e = .returned (.int .i64 (((64 - Lib.bitLen y : Nat) : Nat) : Int)) ∧ w' = w := fun w => by
    have := Tryd.bits_LeadingZeros64 y w (by omega) (by omega)
    have hb := bl_64 y hyB
    rw [Int.toNat_natCast, show (64 - (Lib.bitLen y : Int)) = ((64 - Lib.bitLen y : Nat) : Int) by omega] at this
    exact this
  generalize 64 - Lib.bitLen y = s at *
  have hP := Nat.two_pow_pos s
  have hbs : 2 ^ s * 2 ^ (64 - s) = 18446744073709551616 := by rw [← Nat.pow_add, show s + (64 - s) = 64 by omega]
  -- the parts
  generalize hPd : 2 ^ s = P at *
  generalize hRd : 2 ^ (64 - s) = R at *
  have hR : 0 < R := by rw [← hRd]; exact Nat.two_pow_pos _
  have ha : hi * P < 18446744073709551616 := Nat.lt_trans (Nat.mul_lt_mul_of_pos_right hlt hP) hd2
  have hb : lo / R < P := by rw [Nat.div_lt_iff_lt_mul hR, hbs]; exact hlo
  have hlb : lo * P = lo / R * 18446744073709551616 + lo * P % 18446744073709551616 := by
    have e1 : lo * P / 18446744073709551616 = lo / R := by rw [← hbs, Nat.mul_comm P R, Nat.mul_div_mul_right _ _ hP]
    have := Nat.div_add_mod (lo * P) 18446744073709551616
    rw [e1] at this; omega
  have hu : hi * P + lo / R < y * P := by
    have h1 : (hi + 1) * P ≤ y * P := Nat.mul_le_mul_right P hlt
    rw [Nat.add_mul, Nat.one_mul] at h1; omega
  have hU : (hi * P + lo / R) * 18446744073709551616 + lo * P % 18446744073709551616 = (hi * 18446744073709551616 + lo) * P := by
    rw [Nat.add_mul, Nat.add_mul, Nat.mul_assoc hi, Nat.mul_comm P, ← Nat.mul_assoc]; omega
  have hv : lo * P % 18446744073709551616 < 18446744073709551616 := Nat.mod_lt _ (by omega)
  have hor : hi * P ||| lo / R = hi * P + lo / R := by
    rw [← hPd] at hb ⊢
    exact or_disjoint _ _ s hb ⟨hi, Nat.mul_comm _ _⟩
  have hlp : IntKind.u64.wrap ((lo : Int) * 2 ^ s) = ((lo * P % 18446744073709551616 : Nat) : Int) := by rw [two_pow_cast, ← Int.natCast_mul, hPd, wrap_nat]
  generalize lo * P % 18446744073709551616 = v at *
  have hdP : y * P = y * P := rfl
  generalize hd : y * P = d at *
  have hbn : bits .or .u64 ((hi * P : Nat) : Int) ((lo / R : Nat) : Int) = ((hi * P + lo / R : Nat) : Int) := by rw [bits_or_u64_nat _ _ ha (by omega), hor]
  have hap : IntKind.u64.wrap ((hi : Int) * 2 ^ s) = ((hi * P : Nat) : Int) := by rw [two_pow_cast, ← Int.natCast_mul, hPd, wrap_small _ ha]
  have hbp : (lo : Int) / 2 ^ (64 - s) = ((lo / R : Nat) : Int) := by rw [two_pow_cast, hRd]; rfl
  generalize hi * P = a at *
  generalize lo / R = b at *
  generalize huu : a + b = u at *
  have hdd : d = d / 4294967296 * 4294967296 + d % 4294967296 := by omega
  have hvv : v = v / 4294967296 * 4294967296 + v % 4294967296 := by omega
  have hn1 : 2147483648 ≤ d / 4294967296 ∧ d / 4294967296 ≤ 4294967295 := by omega
  have hn0 : d % 4294967296 < 4294967296 := by omega
  have hv1 : v / 4294967296 < 4294967296 := by omega
  have hv0 : v % 4294967296 < 4294967296 := by omega
  have hd1' : (d : Int) / 4294967296 = ((d / 4294967296 : Nat) : Int) := by omega
  have hv1' : (v : Int) / 4294967296 = ((v / 4294967296 : Nat) : Int) := by omega
  have hd0' : bits .and .u64 (d : Int) 4294967295 = ((d % 4294967296 : Nat) : Int) := by rw [and_low32 _ (by omega) (by omega)]; omega
  have hv0' : bits .and .u64 (v : Int) 4294967295 = ((v % 4294967296 : Nat) : Int) := by rw [and_low32 _ (by omega) (by omega)]; omega
  have hUv : u * 18446744073709551616 + (v / 4294967296 * 4294967296 + v % 4294967296) = (hi * 18446744073709551616 + lo) * P := by rw [← hU]; omega
  generalize d / 4294967296 = n1 at *
  generalize d % 4294967296 = n0 at *
  generalize v / 4294967296 = v1 at *
  generalize v % 4294967296 = v0 at *
  obtain ⟨x1, x2, x3⟩ := div_split n1 n0 d hdd u v1 hu hv1
  obtain ⟨z1, z2, z3⟩ := div_split n1 n0 d hdd _ v0 x2 hv0
  exact div64_mid hi lo y s d n1 n0 a b u v v1 v0 _ _ _ _ P w hs h0 hy hlt hlz hPd hP hd hd2 hd1' hd0' hap hbp hbn hlp hv1' hv0' hn1 hn0 hv1 hv0 hdd hu hUv rfl x1 x2 x3 rfl z1 z2 z3

set_option maxRecDepth 100000 in
set_option maxHeartbeats 1000000 in
theorem div64_small (lo y : Nat) (w : World) (hy : 0 < y) (hlo : (lo : Int) ≤ 18446744073709551615) :
    Calls Tryd.prog 67 #[.int .u64 0, .int .u64 lo, .int .u64 y] w fun e w' => e = .returned (.tuple #[.int .u64 ((lo / y : Nat) : Int), .int .u64 ((lo % y : Nat) : Int)]) ∧ w' = w.drewN 1 := by
  have e1 : (lo : Int) / (y : Int) = ((lo / y : Nat) : Int) := rfl
  have b1 : ((lo / y : Nat) : Int) ≤ 18446744073709551615 := by have := Nat.div_le_self lo y; omega
  have e3 : ((y : Int) == 0) = false := by simp; omega
  generalize lo / y = q at *
  go_enter Tryd.func67, Tryd.ntmps67
  go_wp2
  go_region
  go_wp2
  go_ret2
  exact ⟨rfl, rfl⟩

/-- Div64: quotient and remainder of two words by one. -/
theorem div64_any (hi lo y : Nat) (w : World) (hlt : hi < y) (hyB : y < 18446744073709551616) (hlo : lo < 18446744073709551616) :
    Calls Tryd.prog 67 #[.int .u64 hi, .int .u64 lo, .int .u64 y] w fun e w' =>
      e = .returned (.tuple #[.int .u64 (((hi * 18446744073709551616 + lo) / y : Nat) : Int), .int .u64 (((hi * 18446744073709551616 + lo) % y : Nat) : Int)]) ∧ ∃ n, w' = w.drewN n := by
  by_cases h0 : hi = 0
  · subst h0
    refine (div64_small lo y w (by omega) (by omega)).mono ?_
    rintro e w' ⟨rfl, rfl⟩
    exact ⟨by simp, 1, rfl⟩
  · refine (div64_big hi lo y w h0 hlt hyB hlo).mono ?_
    rintro e w' ⟨rfl, rfl⟩
    exact ⟨rfl, 0, rfl⟩
end Go.Proofs.YtjdkbbggelpchaaDoor
