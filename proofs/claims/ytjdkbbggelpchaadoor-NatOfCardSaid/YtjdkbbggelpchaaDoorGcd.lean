/- compareWords; greatest common divisors. -/
import Derived.Test.YtjdkbbggelpchaaDoorCmp
import Derived.Test.YtjdkbbggelpchaaDoorShift
import Derived.Test.YtjdkbbggelpchaaDoorSubW
import Derived.Deep.LoopGhost
namespace Go.Proofs.YtjdkbbggelpchaaDoor
open Go.RowKit

/-- A quiet call where draws lie behind already. -/
theorem qadd {P : Program} {f : FuncId} {args : Array Value} {w : World} {a n : Nat} {v : Value} (h : ∀ W : World, Calls P f args W fun e w' => e = .returned v ∧ w' = W) :
    Calls P f args (w.drewN (a + n)) fun e w'' => e = .returned v ∧ ∃ m, w'' = w.drewN (a + m) := (h _).mono fun _ _ h => ⟨h.1, n, h.2⟩

theorem val_lt_of_length {X Y : Nat} (h : (M.dig X).length < (M.dig Y).length) : X < Y := by
  apply Nat.lt_of_not_le; intro hle
  have hY : Y ≠ 0 := by intro h0; subst h0; rw [M.dig_zero] at h; simp at h
  have h1 := M.val_lower hY
  have h2 : X < M.B ^ (M.dig X).length := by have := M.val_lt (M.ok_dig X); rwa [M.val_dig] at this
  have h3 : M.B ^ (M.dig X).length ≤ M.B ^ ((M.dig Y).length - 1) := Nat.pow_le_pow_right M.B_pos (by omega)
  omega
theorem dig_mono {X Y : Nat} (h : X ≤ Y) : (M.dig X).length ≤ (M.dig Y).length := by
  apply Nat.le_of_not_lt; intro hlt
  have := val_lt_of_length hlt; omega

/-- Lists of as many words that agree from k + 1 on. -/
theorem top_lt {xs ys : List Nat} (hx : M.Ok xs) (hl : xs.length = ys.length) (k : Nat) (hk : k < xs.length) (hd : M.val (xs.drop (k + 1)) = M.val (ys.drop (k + 1))) (x y : Nat) (ex : xs[k] = x) (ey : ys[k]'(by omega) = y) (h : x < y) : M.val xs < M.val ys := by
  have a := M.val_take_drop xs k (by omega)
  have b := M.val_take_drop ys k (by omega)
  rw [List.drop_eq_getElem_cons hk, M.val_cons, ex] at a
  rw [List.drop_eq_getElem_cons (show k < ys.length by omega), M.val_cons, ey, ← hd] at b
  have c := M.val_lt (hx.take k)
  rw [List.length_take, Nat.min_eq_left (by omega)] at c
  have d : M.B ^ k * (x + 1) ≤ M.B ^ k * y := Nat.mul_le_mul_left _ h
  rw [a, b, Nat.mul_add, Nat.mul_add]
  rw [Nat.mul_add] at d
  omega

theorem cmp_lt {X Y : Nat} (h : X < Y) : Lib.compareInt (X : Int) (Y : Int) = -1 := by unfold Lib.compareInt; rw [if_pos (by omega)]
theorem cmp_gt {X Y : Nat} (h : Y < X) : Lib.compareInt (X : Int) (Y : Int) = 1 := by unfold Lib.compareInt; rw [if_neg (by omega), if_pos (by omega)]
theorem cmp_eq (X : Nat) : Lib.compareInt (X : Int) (X : Int) = 0 := by unfold Lib.compareInt; rw [if_neg (by omega), if_neg (by omega)]

set_option maxRecDepth 100000 in
set_option maxHeartbeats 1000000 in
theorem compareWords_any (bx ox cx by' oy cy X Y : Nat) (w : World) (hx : Words w bx ox (M.dig X)) (hy : Words w by' oy (M.dig Y)) (hb : (M.dig X).length ≤ 1000000) :
    Calls Tryd.prog 72 #[.slice (some ⟨bx, ox, none⟩) (M.dig X).length cx, .slice (some ⟨by', oy, none⟩) (M.dig Y).length cy] w fun e w' =>
      e = .returned (.int .i64 (Lib.compareInt (X : Int) (Y : Int))) ∧ ∃ n, w' = w.drewN n := by
  have HX := Lib.hid hx; clear hx
  have HY := Lib.hid hy; clear hy
  have OX : Hid (M.Ok (M.dig X)) := mkHid (M.ok_dig X)
  have OY : Hid (M.Ok (M.dig Y)) := mkHid (M.ok_dig Y)
  have VX : Hid (M.val (M.dig X) = X) := mkHid (M.val_dig X)
  have VY : Hid (M.val (M.dig Y) = Y) := mkHid (M.val_dig Y)
  by_cases hne : (M.dig X).length = (M.dig Y).length
  · rw [← hne]
    have HE := Lib.hid hne; clear hne
    generalize M.dig X = xs at *
    generalize M.dig Y = ys at *
    go_enter Tryd.func72, Tryd.ntmps72
    go_wp2
    go_loopw [19] (fun iv wr => ∃ i n : Nat, i ≤ xs.length ∧ iv = .int .i64 i ∧ wr = w.drewN n ∧ Hid (M.val (xs.drop (xs.length - i)) = M.val (ys.drop (xs.length - i)))) (fun iv _ => xs.length - (intOf iv).toNat)
    case atStart => exact ⟨0, 0, by omega, rfl, rfl, by simp only [Nat.sub_zero]; rw [List.drop_length, HE.out, List.drop_length]; rfl⟩
    case round =>
      obtain ⟨i, n, hi, rfl, rfl, H⟩ := hrel
      by_cases hlt : i < xs.length
      · obtain ⟨k, hk⟩ : ∃ k, xs.length - i = k + 1 := ⟨xs.length - i - 1, by omega⟩
        have hkx : k < xs.length := by omega
        have HKY : Hid (k < ys.length) := mkHid (by rw [← HE.out]; exact hkx)
        rw [hk] at H
        have hik : (xs.length : Int) - 1 - (i : Int) = (k : Int) := by omega
        have HK := mkHid hk
        clear hk
        obtain ⟨hcx, -⟩ := HX.out k hkx
        obtain ⟨hcy, -⟩ := HY.out k HKY.out
        obtain ⟨x, ex⟩ : ∃ x, xs[k] = x := ⟨_, rfl⟩
        obtain ⟨y, ey⟩ : ∃ y, ys[k]'(HKY.out) = y := ⟨_, rfl⟩
        rw [ex] at hcx; rw [ey] at hcy
        have EX := Lib.hid ex; have EY := Lib.hid ey; clear ex ey
        by_cases hxy : x = y
        · subst hxy
          go_wp2
          go_region
          go_wp2
          go_roundw
          case rel =>
            refine ⟨i + 1, n + 1, hlt, by go_num, rfl, mkHid ?_⟩
            have hk2 := HK.out
            rw [show xs.length - (i + 1) = k by omega, List.drop_eq_getElem_cons hkx, List.drop_eq_getElem_cons HKY.out, M.val_cons, M.val_cons, EX.out, EY.out, H.out]
          case measure => simp [intOf]; omega
        · have hxy' : ((x : Int) != (y : Int)) = true := by simp; omega
          have hfin : Hid (Lib.compareInt (x : Int) (y : Int) = Lib.compareInt (X : Int) (Y : Int)) := by
            refine mkHid ?_
            rcases Nat.lt_or_gt_of_ne hxy with h | h
            · rw [cmp_lt h, ← VX.out, ← VY.out, cmp_lt (top_lt OX.out HE.out k hkx H.out x y EX.out EY.out h)]
            · rw [cmp_gt h, ← VX.out, ← VY.out, cmp_gt (top_lt OY.out HE.out.symm k HKY.out H.out.symm y x EY.out EX.out h)]
          go_wp2
          go_region
          go_wp2_with fail
          go_quiet ((go_at_call 46; exact qadd (compare64_any _ _)))
          go_wp2
          go_ret
          exact ⟨by rw [← hfin.out]; rfl, _, World.drewN_drewN _ _ _⟩
      · have hie : i = xs.length := by omega
        subst hie
        have hfin : Hid (Lib.compareInt (X : Int) (Y : Int) = 0) := by
          refine mkHid ?_
          have := H.out
          rw [Nat.sub_self, List.drop_zero, List.drop_zero, VX.out, VY.out] at this
          rw [this]; exact cmp_eq Y
        go_wp2
        go_ret
        exact ⟨by rw [hfin.out]; rfl, _, rfl⟩
  · have hnb : (((M.dig X).length : Int) != ((M.dig Y).length : Int)) = true := by simp; omega
    have hfin : Hid (Lib.compareInt ((M.dig X).length : Int) ((M.dig Y).length : Int) = Lib.compareInt (X : Int) (Y : Int)) := by
      refine mkHid ?_
      rcases Nat.lt_or_gt_of_ne hne with h | h
      · rw [cmp_lt h, cmp_lt (val_lt_of_length h)]
      · rw [cmp_gt h, cmp_gt (val_lt_of_length h)]
    generalize M.dig X = xs at *
    generalize M.dig Y = ys at *
    go_enter Tryd.func72, Tryd.ntmps72
    go_wp2_with (go_at_call 44; refine (Tryd.cmp_Compare_int _ _ _).mono ?_; rintro e w' ⟨rfl, rfl⟩)
    go_ret
    exact ⟨by rw [← hfin.out]; rfl, 0, rfl⟩

set_option maxRecDepth 100000 in
set_option maxHeartbeats 400000 in
theorem gcdWord_any (x y : Nat) (w : World) (hx : (x : Int) ≤ 18446744073709551615) (hy : (y : Int) ≤ 18446744073709551615) :
    Calls Tryd.prog 51 #[.int .u64 x, .int .u64 y] w fun e w' => e = .returned (.int .u64 ((Nat.gcd x y : Nat) : Int)) ∧ ∃ n, w' = w.drewN n := by
  go_enter Tryd.func51, Tryd.ntmps51
  go_wp2
  go_loopw [0, 1] (fun a b wr => ∃ p q n : Nat, a = .int .u64 p ∧ b = .int .u64 q ∧ wr = w.drewN n ∧ (p : Int) ≤ 18446744073709551615 ∧ (q : Int) ≤ 18446744073709551615 ∧ Hid (Nat.gcd p q = Nat.gcd x y)) (fun _ b _ => (intOf b).toNat)
  case atStart => exact ⟨x, y, 0, rfl, rfl, rfl, hx, hy, rfl⟩
  case round =>
    obtain ⟨p, q, n, rfl, rfl, rfl, hp, hq, H⟩ := hrel
    by_cases hz : q = 0
    · subst hz
      have hfin : Hid (p = Nat.gcd x y) := mkHid (by rw [← H.out, Nat.gcd_zero_right])
      go_wp2
      go_ret
      exact ⟨by rw [← hfin.out]; rfl, _, rfl⟩
    · have hqb : ((q : Int) != 0) = true := by simp; omega
      have hq0 : 0 < q := by omega
      have hmod : (p : Int) % (q : Int) = ((p % q : Nat) : Int) := rfl
      have hlt : Hid (p % q < q) := mkHid (Nat.mod_lt _ hq0)
      have HG : Hid (Nat.gcd q (p % q) = Nat.gcd x y) := mkHid (by rw [← H.out, Nat.gcd_comm p q, Nat.gcd_rec q p, Nat.gcd_comm])
      generalize p % q = r at *
      go_wp2
      go_region
      go_wp2
      go_roundw
      case rel => exact ⟨q, r, n + 1, rfl, by first | rfl | (rw [hmod]), rfl, hq, by have := hlt.out; omega, HG.out⟩
      case measure => have := hlt.out; simp [intOf]; omega

/-! ### gcdWords -/
def Odd (n : Nat) : Prop := ∃ m, n = 2 * m + 1
theorem Odd.pos {n : Nat} (h : Odd n) : 0 < n := by obtain ⟨m, rfl⟩ := h; omega
theorem odd_cop (m : Nat) : Nat.Coprime 2 (2 * m + 1) := by
  unfold Nat.Coprime; rw [Nat.gcd_rec]; simp
theorem gcd_two_pow (z x n : Nat) (hx : Odd x) : Nat.gcd x (2 ^ z * n) = Nat.gcd x n := by
  obtain ⟨m, rfl⟩ := hx
  exact Nat.Coprime.gcd_mul_left_cancel_right n (Nat.Coprime.pow_left z (odd_cop m))
/-- Odd parts, and the smaller power of two. -/
theorem gcd_parts (a b x y : Nat) (hx : Odd x) (hy : Odd y) : Nat.gcd (2 ^ a * x) (2 ^ b * y) = Nat.gcd x y * 2 ^ min a b := by
  rcases Nat.le_total a b with h | h
  · rw [Nat.min_eq_left h]
    obtain ⟨c, rfl⟩ := Nat.exists_eq_add_of_le h
    rw [Nat.pow_add, Nat.mul_assoc, Nat.gcd_mul_left, gcd_two_pow c x y hx, Nat.mul_comm]
  · rw [Nat.min_eq_right h]
    obtain ⟨c, rfl⟩ := Nat.exists_eq_add_of_le h
    rw [Nat.pow_add, Nat.mul_assoc, Nat.gcd_mul_left, Nat.gcd_comm, gcd_two_pow c y x hy, Nat.gcd_comm, Nat.mul_comm]
/-- One step: the difference without its low zeros. -/
theorem gcd_step (x y z m : Nat) (hx : Odd x) (hlt : x ≤ y) (hm : y - x = 2 ^ z * (2 * m + 1)) : Nat.gcd x (2 * m + 1) = Nat.gcd x y := by
  rw [← gcd_two_pow z x (2 * m + 1) hx, ← hm, Nat.gcd_sub_self_right hlt]
theorem odd_div (v z m : Nat) (h : v = 2 ^ z * (2 * m + 1)) : v / 2 ^ z = 2 * m + 1 := by
  rw [h, Nat.mul_div_cancel_left _ (Nat.two_pow_pos z)]
theorem odd_sub (x y z m : Nat) (hy : Odd y) (hx : Odd x) (hlt : x < y) (hm : y - x = 2 ^ z * (2 * m + 1)) : x + (2 * m + 1) < x + y := by
  have h1 : 0 < z := by
    rcases Nat.eq_zero_or_pos z with h0 | h0
    · subst h0
      obtain ⟨a, rfl⟩ := hx
      obtain ⟨b, rfl⟩ := hy
      simp at hm; omega
    · exact h0
  have h2 : 2 ^ 1 ≤ 2 ^ z := Nat.pow_le_pow_right (by omega) h1
  have h3 := Nat.mul_le_mul_right (2 * m + 1) h2
  omega

/-- What the rounds keep. -/
structure GI (w wr : World) (base p cp q cq X Y G : Nat) : Prop where
  ne : p ≠ q
  bp : base ≤ p
  bq : base ≤ q
  rp : Row wr p cp (M.dig X)
  rq : Row wr q cq (M.dig Y)
  ox : Odd X
  oy : Odd Y
  g : Nat.gcd X Y = G
  lx : (M.dig X).length ≤ 1000
  ly : (M.dig Y).length ≤ 1000
  below : Below base w wr
  tabs : Tabs wr

theorem GI.symm {w wr : World} {base p cp q cq X Y G : Nat} (h : GI w wr base p cp q cq X Y G) : GI w wr base q cq p cp Y X G :=
  ⟨h.ne.symm, h.bq, h.bp, h.rq, h.rp, h.oy, h.ox, by rw [Nat.gcd_comm]; exact h.g, h.ly, h.lx, h.below, h.tabs⟩
theorem GI.drewN {w wr : World} {base p cp q cq X Y G : Nat} (h : GI w wr base p cp q cq X Y G) (n : Nat) : GI w (wr.drewN n) base p cp q cq X Y G :=
  ⟨h.ne, h.bp, h.bq, h.rp, h.rq, h.ox, h.oy, h.g, h.lx, h.ly, ⟨h.below.os, h.below.tape, h.below.output, h.below.size, h.below.block⟩, h.tabs⟩

set_option maxRecDepth 100000 in
set_option maxHeartbeats 2000000 in
theorem gcdWords_any (bx cx by' cy base X Y : Nat) (w : World) (hx : Row w bx cx (M.dig X)) (hy : Row w by' cy (M.dig Y)) (hne : bx ≠ by') (hbx : base ≤ bx) (hby : base ≤ by') (h6 : 6 ≤ base)
    (hX : X ≠ 0) (hY : Y ≠ 0) (lx : (M.dig X).length ≤ 1000) (ly : (M.dig Y).length ≤ 1000) (ht : Tabs w) :
    Calls Tryd.prog 52 #[.slice (some ⟨bx, 0, none⟩) (M.dig X).length cx, .slice (some ⟨by', 0, none⟩) (M.dig Y).length cy] w fun e w' =>
      ∃ b' cap' len, e = .returned (.slice (some ⟨b', 0, none⟩) len cap') ∧ ∃ zs, Hid (zs.length = len ∧ M.Ok zs ∧ M.val zs = Nat.gcd X Y ∧ base ≤ b' ∧ Row w' b' cap' zs ∧ Below base w w' ∧ len ≤ 3000) := by
  have HX := Lib.hid hx; clear hx
  have HY := Lib.hid hy; clear hy
  have HNE := Lib.hid hne; clear hne
  have HBX := Lib.hid hbx; clear hbx
  have HBY := Lib.hid hby; clear hby
  have H6 := Lib.hid h6; clear h6
  have HT := Lib.hid ht; clear ht
  have VX : Hid (M.val (M.dig X) ≠ 0) := mkHid (by rw [M.val_dig]; exact hX)
  have VY : Hid (M.val (M.dig Y) ≠ 0) := mkHid (by rw [M.val_dig]; exact hY)
  clear hX hY
  have CX := mkHid (zeroBits_any bx 0 cx (M.dig X) w HX.out.words (by omega) (M.ok_dig X) VX.out HT.out)
  have CY := mkHid (zeroBits_any by' 0 cy (M.dig Y) w HY.out.words (by omega) (M.ok_dig Y) VY.out HT.out)
  go_enter Tryd.func52, Tryd.ntmps52
  go_wp2_with fail
  refine CX.out.mono ?_
  rintro e w' ⟨a, rfl, rfl, ha⟩
  go_wp2_with fail
  refine CY.out.mono ?_
  rintro e w' ⟨b, rfl, rfl, hb⟩
  obtain ⟨x, hx⟩ := ha.out.2
  obtain ⟨y, hy⟩ := hb.out.2
  rw [M.val_dig] at hx hy
  have EX : Hid (X / 2 ^ a = 2 * x + 1) := mkHid (odd_div _ _ _ hx)
  have EY : Hid (Y / 2 ^ b = 2 * y + 1) := mkHid (odd_div _ _ _ hy)
  have HG : Hid (Nat.gcd X Y = Nat.gcd (2 * x + 1) (2 * y + 1) * 2 ^ min a b) := mkHid (by rw [hx, hy]; exact gcd_parts a b _ _ ⟨x, rfl⟩ ⟨y, rfl⟩)
  have LX : Hid ((M.dig (2 * x + 1)).length ≤ (M.dig X).length) := mkHid (dig_mono (by rw [← EX.out]; exact Nat.div_le_self _ _))
  have LY : Hid ((M.dig (2 * y + 1)).length ≤ (M.dig Y).length) := mkHid (dig_mono (by rw [← EY.out]; exact Nat.div_le_self _ _))
  have CS : Hid (∀ w, Row w bx cx (M.dig X) → Calls Tryd.prog 70 #[.slice (some ⟨bx, 0, none⟩) (M.dig X).length cx, .int .i64 a] w fun e w' => e = .returned (.slice (some ⟨bx, 0, none⟩) (M.dig (2 * x + 1)).length cx) ∧
      Hid (Row w' bx cx (M.dig (2 * x + 1)) ∧ Wr w w' bx 0 (M.dig X).length)) := mkHid fun w h => by
    have := shiftRight_any bx cx a (M.dig X) w h (by omega) (M.ok_dig X) (by have := ha.out.1; omega)
    rwa [M.val_dig, EX.out] at this
  have CT : Hid (∀ w, Row w by' cy (M.dig Y) → Calls Tryd.prog 70 #[.slice (some ⟨by', 0, none⟩) (M.dig Y).length cy, .int .i64 b] w fun e w' => e = .returned (.slice (some ⟨by', 0, none⟩) (M.dig (2 * y + 1)).length cy) ∧
      Hid (Row w' by' cy (M.dig (2 * y + 1)) ∧ Wr w w' by' 0 (M.dig Y).length)) := mkHid fun w h => by
    have := shiftRight_any by' cy b (M.dig Y) w h (by omega) (M.ok_dig Y) (by have := hb.out.1; omega)
    rwa [M.val_dig, EY.out] at this
  have HAB : Hid (a ≤ 64000 ∧ b ≤ 64000) := mkHid (by have h1 := ha.out.1; have h2 := hb.out.1; omega)
  clear hx hy
  go_wp2_with fail
  refine (CS.out _ HX.out).mono ?_
  rintro e w1 ⟨rfl, R1⟩
  go_wp2_with fail
  refine (CT.out _ (HY.out.keep R1.out.2 HNE.out.symm)).mono ?_
  rintro e w2 ⟨rfl, R2⟩
  have HGI : Hid (GI w' w2 base bx cx by' cy (2 * x + 1) (2 * y + 1) (Nat.gcd (2 * x + 1) (2 * y + 1))) := by
    have b1 : Below base w' w1 := R1.out.2.toBelow HBX.out (by have := HX.out.lt; have := HBX.out; omega)
    have b2 : Below base w1 w2 := R2.out.2.toBelow HBY.out (by have := HX.out.lt; have := HBX.out; have := b1.size; omega)
    exact mkHid ⟨HNE.out, HBX.out, HBY.out, R1.out.1.keep R2.out.2 HNE.out, R2.out.1, ⟨x, rfl⟩, ⟨y, rfl⟩, rfl, by have := LX.out; omega, by have := LY.out; omega, b1.trans b2, HT.out.below (b1.trans b2) H6.out⟩
  clear CX CY CS CT R1 R2
  go_wp2_with fail
  go_loopg [0, 1] (2 * x + 1 + (2 * y + 1)) (fun k u v wr => ∃ p cp q cq X' Y' : Nat, u = .slice (some ⟨p, 0, none⟩) (M.dig X').length cp ∧ v = .slice (some ⟨q, 0, none⟩) (M.dig Y').length cq ∧ Hid (k = X' + Y' ∧ GI w' wr base p cp q cq X' Y' (Nat.gcd (2 * x + 1) (2 * y + 1))))
  case atStart => exact ⟨bx, cx, by', cy, _, _, rfl, rfl, rfl, HGI.out⟩
  case round =>
    clear HGI
    obtain ⟨p, cp, q, cq, X', Y', rfl, rfl, H⟩ := hrel
    have CC := mkHid (compareWords_any p 0 cp q 0 cq X' Y' wr H.out.2.rp.words H.out.2.rq.words (by have := H.out.2.lx; omega))
    go_wp2_with fail
    refine CC.out.mono ?_
    clear CC
    rintro e w3 ⟨rfl, n, rfl⟩
    have HI : Hid (GI w' (wr.drewN n) base p cp q cq X' Y' (Nat.gcd (2 * x + 1) (2 * y + 1))) := mkHid (H.out.2.drewN n)
    have HK : Hid (gk = X' + Y') := mkHid H.out.1
    clear H
    rcases Nat.lt_trichotomy X' Y' with hlt | heq | hgt
    · have hc := cmp_lt hlt
      have HLT : Hid (X' < Y') := mkHid hlt
      clear hlt
      have C1 := mkHid (subWords_any q 0 cq p 0 cp (M.dig Y') (M.dig X') _ HI.out.rq.words HI.out.rp.words HI.out.ne (dig_mono (Nat.le_of_lt HLT.out)) (by rw [M.val_dig, M.val_dig]; exact Nat.le_of_lt HLT.out) (by have := HI.out.ly; omega) (M.ok_dig _) (M.ok_dig _))
      go_wp2_with fail
      refine C1.out.mono ?_
      clear C1
      rintro e w4 ⟨rfl, zs, R⟩
      have HB4 : Hid (Below base w' w4) := mkHid (HI.out.below.trans (R.out.2.2.2.2.toBelow HI.out.bq (by have := HI.out.rp.lt; have := HI.out.bp; omega)))
      have HT4 : Hid (Tabs w4) := mkHid (HT.out.below HB4.out H6.out)
      have HR4 : Hid (Row w4 q cq zs) := mkHid (HI.out.rq.after R.out.2.2.2.2 R.out.2.2.2.1 (by have h1 := HI.out.rq.cap; have h2 := R.out.1; omega))
      have HP4 : Hid (Row w4 p cp (M.dig X')) := mkHid (HI.out.rp.keep R.out.2.2.2.2 HI.out.ne)
      have HV : Hid (M.val zs = Y' - X') := mkHid (by rw [R.out.2.2.1, M.val_dig, M.val_dig])
      have hzl : zs.length = (M.dig Y').length := R.out.1
      have C2 := mkHid (zeroBits_any q 0 cq zs w4 HR4.out.words (by have := HI.out.ly; omega) R.out.2.1 (by rw [HV.out]; have := HLT.out; omega) HT4.out)
      rw [hzl] at C2
      go_wp2_with fail
      refine C2.out.mono ?_
      clear C2
      rintro e w5 ⟨z, rfl, rfl, hz⟩
      obtain ⟨m, hm⟩ := hz.out.2
      rw [HV.out] at hm
      have EZ : Hid ((Y' - X') / 2 ^ z = 2 * m + 1) := mkHid (odd_div _ _ _ hm)
      have GZ : Hid (Nat.gcd X' (2 * m + 1) = Nat.gcd X' Y') := mkHid (gcd_step _ _ _ _ HI.out.ox (Nat.le_of_lt HLT.out) hm)
      have LZ : Hid (X' + (2 * m + 1) < X' + Y') := mkHid (odd_sub _ _ _ _ HI.out.oy HI.out.ox HLT.out hm)
      have LD : Hid ((M.dig (2 * m + 1)).length ≤ 1000) := mkHid (Nat.le_trans (dig_mono (by rw [← EZ.out]; exact Nat.le_trans (Nat.div_le_self _ _) (Nat.sub_le _ _))) HI.out.ly)
      clear hm
      have C3 := mkHid (shiftRight_any q cq z zs w5 HR4.out (by have := HI.out.ly; omega) R.out.2.1 (by have := hz.out.1; omega))
      rw [HV.out, EZ.out, hzl] at C3
      clear hzl
      go_wp2_with fail
      refine C3.out.mono ?_
      clear C3
      rintro e w6 ⟨rfl, R6⟩
      go_wp2_with fail
      have HF : Hid (Below base w' w6) := mkHid (HB4.out.trans (R6.out.2.toBelow HI.out.bq (by have := HP4.out.lt; have := HI.out.bp; omega)))
      have HGI : Hid (GI w' w6 base p cp q cq X' (2 * m + 1) (Nat.gcd (2 * x + 1) (2 * y + 1))) :=
        mkHid ⟨HI.out.ne, HI.out.bp, HI.out.bq, HP4.out.keep R6.out.2 HI.out.ne, R6.out.1, HI.out.ox, ⟨m, rfl⟩, by rw [GZ.out]; exact HI.out.g, HI.out.lx, LD.out, HF.out, HT.out.below HF.out H6.out⟩
      go_roundg (X' + (2 * m + 1))
      case measure => have := LZ.out; have := HK.out; omega
      case rel => exact ⟨p, cp, q, cq, X', 2 * m + 1, rfl, rfl, rfl, HGI.out⟩
    · subst heq
      have hc := cmp_eq X'
      have HGG : Hid (X' = Nat.gcd (2 * x + 1) (2 * y + 1)) := mkHid (by rw [← HI.out.g, Nat.gcd_self])
      have CL := mkHid (shiftLeft_any p 0 cp (min a b) (M.dig X') (wr.drewN n) HI.out.rp.words (by have := HI.out.lx; omega) (M.ok_dig _) (by have := HAB.out; omega))
      rw [show ((min a b : Nat) : Int) = min (a : Int) (b : Int) by omega] at CL
      go_wp2_with fail
      refine CL.out.mono ?_
      clear CL
      rintro e w4 ⟨b', rfl, zs, R⟩
      go_wp2_with fail
      go_ret
      have hb1 : Below base w' w4 := HI.out.below.trans (R.out.2.2.2.2.2.mono (by have := HI.out.rp.lt; have := HI.out.bp; omega))
      refine ⟨b', _, _, rfl, zs, mkHid ⟨R.out.1, R.out.2.1, ?_, by have h1 := R.out.2.2.2.1; have h2 := HI.out.rp.lt; have h3 := HI.out.bp; omega, R.out.2.2.2.2.1, hb1, ?_⟩⟩
      · rw [R.out.2.2.1, M.val_dig, HG.out, ← HGG.out]
      · have h1 := HAB.out
        have h2 := HI.out.lx
        have h3 : min a b ≤ 64000 := by omega
        omega
    · have hc := cmp_gt hgt
      have hlt := hgt
      have HJ := mkHid HI.out.symm
      clear HI hgt
      have HI := HJ
      clear HJ
      have HK2 : Hid (gk = Y' + X') := mkHid (by rw [HK.out]; omega)
      clear HK
      have HK := HK2
      clear HK2
      have HLT : Hid (Y' < X') := mkHid hlt
      clear hlt
      have C1 := mkHid (subWords_any p 0 cp q 0 cq (M.dig X') (M.dig Y') _ HI.out.rq.words HI.out.rp.words HI.out.ne (dig_mono (Nat.le_of_lt HLT.out)) (by rw [M.val_dig, M.val_dig]; exact Nat.le_of_lt HLT.out) (by have := HI.out.ly; omega) (M.ok_dig _) (M.ok_dig _))
      go_wp2_with fail
      refine C1.out.mono ?_
      clear C1
      rintro e w4 ⟨rfl, zs, R⟩
      have HB4 : Hid (Below base w' w4) := mkHid (HI.out.below.trans (R.out.2.2.2.2.toBelow HI.out.bq (by have := HI.out.rp.lt; have := HI.out.bp; omega)))
      have HT4 : Hid (Tabs w4) := mkHid (HT.out.below HB4.out H6.out)
      have HR4 : Hid (Row w4 p cp zs) := mkHid (HI.out.rq.after R.out.2.2.2.2 R.out.2.2.2.1 (by have h1 := HI.out.rq.cap; have h2 := R.out.1; omega))
      have HP4 : Hid (Row w4 q cq (M.dig Y')) := mkHid (HI.out.rp.keep R.out.2.2.2.2 HI.out.ne)
      have HV : Hid (M.val zs = X' - Y') := mkHid (by rw [R.out.2.2.1, M.val_dig, M.val_dig])
      have hzl : zs.length = (M.dig X').length := R.out.1
      have C2 := mkHid (zeroBits_any p 0 cp zs w4 HR4.out.words (by have := HI.out.ly; omega) R.out.2.1 (by rw [HV.out]; have := HLT.out; omega) HT4.out)
      rw [hzl] at C2
      go_wp2_with fail
      refine C2.out.mono ?_
      clear C2
      rintro e w5 ⟨z, rfl, rfl, hz⟩
      obtain ⟨m, hm⟩ := hz.out.2
      rw [HV.out] at hm
      have EZ : Hid ((X' - Y') / 2 ^ z = 2 * m + 1) := mkHid (odd_div _ _ _ hm)
      have GZ : Hid (Nat.gcd Y' (2 * m + 1) = Nat.gcd Y' X') := mkHid (gcd_step _ _ _ _ HI.out.ox (Nat.le_of_lt HLT.out) hm)
      have LZ : Hid (Y' + (2 * m + 1) < Y' + X') := mkHid (odd_sub _ _ _ _ HI.out.oy HI.out.ox HLT.out hm)
      have LD : Hid ((M.dig (2 * m + 1)).length ≤ 1000) := mkHid (Nat.le_trans (dig_mono (by rw [← EZ.out]; exact Nat.le_trans (Nat.div_le_self _ _) (Nat.sub_le _ _))) HI.out.ly)
      clear hm
      have C3 := mkHid (shiftRight_any p cp z zs w5 HR4.out (by have := HI.out.ly; omega) R.out.2.1 (by have := hz.out.1; omega))
      rw [HV.out, EZ.out, hzl] at C3
      clear hzl
      go_wp2_with fail
      refine C3.out.mono ?_
      clear C3
      rintro e w6 ⟨rfl, R6⟩
      go_wp2_with fail
      have HF : Hid (Below base w' w6) := mkHid (HB4.out.trans (R6.out.2.toBelow HI.out.bq (by have := HP4.out.lt; have := HI.out.bp; omega)))
      have HGI : Hid (GI w' w6 base q cq p cp Y' (2 * m + 1) (Nat.gcd (2 * x + 1) (2 * y + 1))) :=
        mkHid ⟨HI.out.ne, HI.out.bp, HI.out.bq, HP4.out.keep R6.out.2 HI.out.ne, R6.out.1, HI.out.ox, ⟨m, rfl⟩, by rw [GZ.out]; exact HI.out.g, HI.out.lx, LD.out, HF.out, HT.out.below HF.out H6.out⟩
      go_roundg (Y' + (2 * m + 1))
      case measure => have := LZ.out; have := HK.out; omega
      case rel => exact ⟨q, cq, p, cp, Y', 2 * m + 1, rfl, rfl, rfl, HGI.out⟩
end Go.Proofs.YtjdkbbggelpchaaDoor
