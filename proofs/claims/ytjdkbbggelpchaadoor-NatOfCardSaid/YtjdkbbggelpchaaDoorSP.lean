/- Contracts of the specification's half, Len, Pow2 and Uint. -/
import Derived.Test.YtjdkbbggelpchaaDoorSO
import Derived.Test.YtjdkbbggelpchaaDoorBase
namespace Go.Proofs.YtjdkbbggelpchaaDoor
open Go.RowKit SD

theorem DivI.put {w wr : World} {g N Q k y : Nat} {L : List Nat} (h : DivI w wr g N L (10 ^ (k + 1) * Q)) (hk : k < N) (hy : y < 10) : DivI w (wr.setCell ⟨g, k, none⟩ (.int .i64 (y : Int))) g N (L.set k y) (10 ^ (k + 1) * Q + 10 ^ k * y) := by
  have hx := (h.to (show 10 ^ (k + 1) * Q = 10 ^ (k + 1) * Q + 10 ^ k * 0 by omega)).digit (by omega) hk
  refine ⟨h.cells.set _ _, below_setCell h.below h.ge _ _, h.ge, by rw [List.length_set]; exact h.len, dig_set h.dig hy, ?_⟩
  have e1 := val_set L k y 0 hx
  have e2 := h.val
  rw [Nat.mul_zero] at e1
  omega
theorem DivI.drewN {w wr : World} {g N Q : Nat} {L : List Nat} (h : DivI w wr g N L Q) (n : Nat) : DivI w (wr.drewN n) g N L Q := ⟨h.cells, below_drew h.below n, h.ge, h.len, h.dig, h.val⟩

set_option maxRecDepth 100000 in
set_option maxHeartbeats 4000000 in
theorem half_any (a : Nat) (w : World) (ha : Lib.nDigits a ≤ 50000) :
    Calls Tryd.prog 58 #[.string (ds a)] w fun e w' => e = .returned (.string (ds (a / 2))) ∧ Below w.heap.size w w' := by
  obtain ⟨i0, hi, hz0, hz1, hz2⟩ := info_parts infoI
  have hi' := Lib.hid hi; have hz0' := Lib.hid hz0; have hz1' := Lib.hid hz1; have hz2' := Lib.hid hz2; clear hi hz0 hz1 hz2
  have la := ds_size a
  obtain ⟨N, hN⟩ : ∃ N, Lib.nDigits a = N := ⟨_, rfl⟩
  have hnd1 : 0 < N := by have := Lib.nDigits_pos a; omega
  have HNA := mkHid hN
  rw [hN] at la ha
  clear hN
  have e0 : IntKind.i64.wrap ((N : Int) - 1) = (N : Int) - 1 := IntWalk.i64_in _ (by omega)
  go_enter Tryd.func58, Tryd.ntmps58
  go_wp2_with (at_make; refine wpList_make_full _ rfl _ _ 64 rfl w.heap.size 3 i0 (.int .i64 0) 1 Tryd.underlying64 hi'.out hz0'.out hz1'.out _ _ _ _ N rfl rfl (by omega) (by omega) ?bytes ?maxl ?base ?_)
  case bytes => rw [hz2'.out]; omega
  case maxl => first | omega | (unfold maxLen; omega)
  case base => exact Nat.le_refl _
  intro w1 hown hgrow
  obtain ⟨g, hg⟩ : ∃ g, g = w.heap.size := ⟨_, rfl⟩
  have HM : Hid (DivI w w1 g N (List.replicate N 0) (10 ^ N * (a / 10 ^ N / 2)) ∧ a / 10 ^ N % 2 = 0) := mkHid (by
    have h0 : a / 10 ^ N = 0 := Nat.div_eq_of_lt (nd_lt a N (by rw [HNA.out]; exact Nat.le_refl _))
    rw [h0, Nat.zero_div, Nat.mul_zero, Nat.zero_mod]
    exact ⟨⟨by rw [hg]; exact DC.made hown, below_grown hgrow (Nat.le_refl _), by omega, by simp, by intro x hx; have := (List.mem_replicate.1 hx).2; omega, val_zeros N⟩, rfl⟩)
  clear hown hgrow hi' hz0' hz1' hz2'
  rw [← hg]
  have HG := mkHid hg
  clear hg
  go_wp2
  go_loopw [4, 5] (fun sv iv wr => ∃ (k r : Nat) (L : List Nat), sv = .int .i64 (r : Int) ∧ iv = .int .i64 ((k : Int) - 1) ∧ k ≤ N ∧ r ≤ 1 ∧ Hid (DivI w wr g N L (10 ^ k * (a / 10 ^ k / 2)) ∧ r = a / 10 ^ k % 2)) (fun _ iv _ => (intOf iv + 1).toNat)
  case atStart => exact ⟨N, 0, List.replicate N 0, rfl, rfl, Nat.le_refl _, by omega, mkHid ⟨HM.out.1, HM.out.2.symm⟩⟩
  case round =>
    obtain ⟨k, r, L, rfl, rfl, hk, hr, H⟩ := hrel
    clear HM
    rcases Nat.eq_zero_or_pos k with rfl | hk0
    · have hf := form_any _ L wr (H.out.1.cells.dg (cap := N)) H.out.1.dig (by rw [H.out.1.len]; omega)
      rw [H.out.1.val, H.out.1.len, Nat.pow_zero, Nat.one_mul, Nat.div_one] at hf
      have HF := mkHid hf
      have HBW := mkHid H.out.1.below
      clear hf H
      rw [show ((0 : Nat) : Int) - 1 = -1 from rfl]
      go_wp2_with (go_at_call 40; refine (HF.out).mono ?_; rintro e w2 ⟨rfl, HB2⟩)
      go_ret
      exact ⟨rfl, below_trans HBW.out HB2 HBW.out.size⟩
    · obtain ⟨j, rfl⟩ : ∃ j, k = j + 1 := ⟨k - 1, by omega⟩
      rw [show ((j + 1 : Nat) : Int) - 1 = (j : Int) by omega]
      obtain ⟨E1, E2, E3⟩ := sdiv_step a 2 j (by omega)
      have hd10 := dg_lt a j
      obtain ⟨d, hd⟩ : ∃ d, dg a j = d := ⟨_, rfl⟩
      have HDA := mkHid (fun W => digit_any a j W (by rw [HNA.out]; omega))
      rw [← H.out.2] at E2 E3
      rw [hd] at E1 E2 E3 hd10 HDA
      obtain ⟨R, hR⟩ : ∃ R, r * 10 + d = R := ⟨_, rfl⟩
      rw [hR] at E2 E3
      have hR20 : R < 20 := by omega
      have HE := mkHid (And.intro E2 E3)
      have f0 : IntKind.i64.wrap (10 * (r : Int)) = 10 * (r : Int) := IntWalk.i64_in _ (by omega)
      have f1 : IntKind.i64.wrap (10 * (r : Int) + (d : Int)) = (R : Int) := by rw [IntWalk.i64_in _ (by omega)]; omega
      have f2 : IntKind.i64.wrap ((j : Int) - 1) = (j : Int) - 1 := IntWalk.i64_in _ (by omega)
      have f3 : (R : Int).tdiv 2 = ((R / 2 : Nat) : Int) := by rw [Int.tdiv_eq_ediv_of_nonneg (by omega)]; omega
      have f4 : (R : Int).tmod 2 = ((R % 2 : Nat) : Int) := by rw [Int.tmod_eq_emod_of_nonneg (by omega)]; omega
      have f5 : IntKind.i64.wrap ((R / 2 : Nat) : Int) = ((R / 2 : Nat) : Int) := IntWalk.i64_in _ (by omega)
      have f6 : IntKind.i64.wrap ((R % 2 : Nat) : Int) = ((R % 2 : Nat) : Int) := IntWalk.i64_in _ (by omega)
      have hR2 : R / 2 < 10 := by omega
      have hR1 : R % 2 ≤ 1 := by omega
      obtain ⟨Q0, hQ0⟩ : ∃ Q0, a / 10 ^ (j + 1) / 2 = Q0 := ⟨_, rfl⟩
      rw [hQ0] at H HE
      clear hd hR E1 E2 E3 hQ0
      generalize hyy : R / 2 = y at *
      generalize hzz : R % 2 = z at *
      have hj0 : (0 : Int) ≤ (j : Int) := by omega
      have hjN : (j : Int) < (N : Int) := by omega
      have hjn : j < N := by omega
      have HX := mkHid (H.out.1.put hjn hR2)
      obtain ⟨hcx, hfx⟩ := H.out.1.cells _ 0 ((H.out.1.to (show 10 ^ (j + 1) * Q0 = 10 ^ (j + 1) * Q0 + 10 ^ j * 0 by omega)).digit (by omega) hjn)
      clear H hyy hzz
      go_wp2_with (go_at_call 39; refine (HDA.out _).mono ?_; rintro e w3 ⟨rfl, h3⟩; obtain rfl := h3.symm; clear h3)
      go_roundw
      case rel => exact ⟨j, z, L.set j y, rfl, rfl, by omega, hR1, mkHid ⟨HX.out.to (by rw [HE.out.2, Nat.mul_add, Nat.pow_succ, Nat.mul_assoc, Nat.mul_comm 10 Q0]), HE.out.1.symm⟩⟩
      case measure => simp [intOf]

theorem lenN_zero : lenN 0 = 0 := by kernel_rfl
theorem len_uniq (a k : Nat) (h1 : k = 0 ∨ 2 ^ (k - 1) ≤ a) (h2 : a < 2 ^ k) : k = lenN a := by
  by_cases h0 : a = 0
  · subst h0
    rw [lenN_zero]
    rcases h1 with h1 | h1
    · exact h1
    · have := Nat.two_pow_pos (k - 1); omega
  · obtain ⟨b1, b2, b3⟩ := lenN_bounds a h0
    have c1 : ¬ lenN a < k := fun h => by
      rcases h1 with h1 | h1
      · omega
      · have : 2 ^ lenN a ≤ 2 ^ (k - 1) := Nat.pow_le_pow_right (by omega) (by omega)
        omega
    have c2 : ¬ k < lenN a := fun h => by
      have : 2 ^ k ≤ 2 ^ (lenN a - 1) := Nat.pow_le_pow_right (by omega) (by omega)
      omega
    omega
theorem len_le (a k : Nat) (h1 : k = 0 ∨ 2 ^ (k - 1) ≤ a) : k ≤ lenN a := by
  by_cases h0 : a = 0
  · subst h0
    rcases h1 with h1 | h1
    · omega
    · have := Nat.two_pow_pos (k - 1); omega
  · obtain ⟨b1, b2, b3⟩ := lenN_bounds a h0
    rcases h1 with h1 | h1
    · omega
    · apply Nat.le_of_not_lt; intro h
      have : 2 ^ lenN a ≤ 2 ^ (k - 1) := Nat.pow_le_pow_right (by omega) (by omega)
      omega

set_option maxRecDepth 100000 in
set_option maxHeartbeats 4000000 in
theorem slen_any (a : Nat) (w : World) (ha : Lib.nDigits a ≤ 50000) (hl : lenN a ≤ 100000) :
    Calls Tryd.prog 28 #[.string (ds a)] w fun e w' => e = .returned (.int .i64 (lenN a : Int)) ∧ Below w.heap.size w w' := by
  go_enter Tryd.func28, Tryd.ntmps28
  go_wp2
  go_loopw [0, 3] (fun sv nv wr => ∃ (k : Nat), sv = .string (ds (a / 2 ^ k)) ∧ nv = .int .i64 (k : Int) ∧ k ≤ 100000 ∧ Hid ((k = 0 ∨ 2 ^ (k - 1) ≤ a) ∧ Below w.heap.size w wr)) (fun sv _ _ => sval sv)
  case atStart => exact ⟨0, by rw [Nat.pow_zero, Nat.div_one], rfl, by omega, mkHid ⟨.inl rfl, Below.refl _ _⟩⟩
  case round =>
    obtain ⟨k, rfl, rfl, hk, H⟩ := hrel
    by_cases hx : a / 2 ^ k = 0
    · have HK := mkHid (len_uniq a k H.out.1 (by
        have h0 := Nat.div_add_mod a (2 ^ k)
        have h1 := Nat.mod_lt a (Nat.two_pow_pos k)
        rw [hx] at h0; omega))
      have HB := mkHid H.out.2
      rw [hx, ds_zero]
      clear H hx
      go_wp2
      go_ret
      exact ⟨by rw [← HK.out]; rfl, HB.out⟩
    · have hx0 := ds_ne_zero hx
      have hle : 2 ^ k ≤ a := by
        apply Nat.le_of_not_lt; intro h; exact hx (Nat.div_eq_of_lt h)
      have hk1 : k + 1 ≤ 100000 := Nat.le_trans (len_le a (k + 1) (.inr hle)) hl
      have CH := fun W => half_any (a / 2 ^ k) W (Nat.le_trans (nDigits_mono _ a (Nat.div_le_self _ _)) ha)
      have e2 : a / 2 ^ k / 2 = a / 2 ^ (k + 1) := by rw [Nat.div_div_eq_div_mul, Nat.pow_succ]
      have hlt : a / 2 ^ (k + 1) < a / 2 ^ k := by rw [← e2]; exact Nat.div_lt_self (Nat.pos_of_ne_zero hx) (by omega)
      rw [e2] at CH
      replace CH := mkHid CH
      have e3 : IntKind.i64.wrap ((k : Int) + 1) = ((k + 1 : Nat) : Int) := by rw [IntWalk.i64_in _ (by omega)]; omega
      have HB := mkHid H.out.2
      have HL := mkHid hle
      have HLT : Hid (sval (.string (ds (a / 2 ^ (k + 1)))) < sval (.string (ds (a / 2 ^ k)))) := mkHid (by rw [sval_ds, sval_ds]; exact hlt)
      clear H hx hle e2 hlt
      go_wp2_with (go_at_call 58; refine (CH.out _).mono ?_; rintro e w2 ⟨rfl, hb⟩; have HB2 := mkHid (below_trans HB.out hb HB.out.size); clear hb)
      go_roundw
      case rel => exact ⟨k + 1, rfl, rfl, hk1, mkHid ⟨.inr HL.out, HB2.out⟩⟩
      case measure => exact HLT.out

theorem nd_pow2 (k : Nat) : Lib.nDigits (2 ^ k) ≤ k + 1 := D.nDigits_le k _ (by
  have h1 : 2 ^ k ≤ 10 ^ k := Nat.pow_le_pow_left (by omega) k
  have h2 : 10 ^ k < 10 ^ (k + 1) := Nat.pow_lt_pow_right (by omega) (by omega)
  omega)
theorem ds_one : ds 1 = ⟨#[49]⟩ := by kernel_rfl
set_option maxRecDepth 100000 in
set_option maxHeartbeats 4000000 in
theorem spow_in (n : Nat) (w : World) (hn : n ≤ 4096) :
    Calls Tryd.prog 31 #[.int .i64 (n : Int)] w fun e w' => e = .returned (.string (ds (2 ^ n))) ∧ Below w.heap.size w w' := by
  have i1 : ¬ (n : Int) < 0 := by omega
  have i2 : ¬ (4096 : Int) < (n : Int) := by omega
  go_enter Tryd.func31, Tryd.ntmps31
  go_wp2
  go_loopw [3, 4] (fun sv iv wr => ∃ (k : Nat), sv = .string (ds (2 ^ k)) ∧ iv = .int .i64 (k : Int) ∧ k ≤ n ∧ Hid (Below w.heap.size w wr)) (fun _ iv _ => n - (intOf iv).toNat)
  case atStart => exact ⟨0, by rw [Nat.pow_zero, ds_one], rfl, by omega, mkHid (Below.refl _ _)⟩
  case round =>
    obtain ⟨k, rfl, rfl, hk, H⟩ := hrel
    by_cases hkn : k < n
    · have hkn' : (k : Int) < (n : Int) := by omega
      have CA := fun W => sadd_any (2 ^ k) (2 ^ k) W (by have := nd_pow2 k; omega) (by have := nd_pow2 k; omega)
      rw [show 2 ^ k + 2 ^ k = 2 ^ (k + 1) by rw [Nat.pow_succ]; omega] at CA
      replace CA := mkHid CA
      have e3 : IntKind.i64.wrap ((k : Int) + 1) = ((k + 1 : Nat) : Int) := by rw [IntWalk.i64_in _ (by omega)]; omega
      generalize hs1 : ds (2 ^ k) = s1 at *
      clear hs1
      go_wp2_with (go_at_call 13; refine (CA.out _).mono ?_; rintro e w2 ⟨rfl, hb⟩; have HB2 := mkHid (below_trans H.out hb H.out.size); clear hb)
      go_roundw
      case rel => exact ⟨k + 1, rfl, rfl, hkn, HB2⟩
      case measure => simp [intOf]; omega
    · obtain rfl : k = n := by omega
      go_wp2
      go_ret
      exact ⟨rfl, H.out⟩
set_option maxRecDepth 100000 in
set_option maxHeartbeats 1000000 in
theorem spow_out (n : Int) (w : World) (hn : n < 0 ∨ 4096 < n) :
    Calls Tryd.prog 31 #[.int .i64 n] w fun e w' => e = .returned (.string (ds 0)) ∧ Below w.heap.size w w' := by
  rw [ds_zero]
  by_cases h : n < 0
  · clear hn
    go_enter Tryd.func31, Tryd.ntmps31
    go_wp2
    go_ret
    exact ⟨rfl, Below.refl _ _⟩
  · have h2 : 4096 < n := by omega
    clear hn
    go_enter Tryd.func31, Tryd.ntmps31
    go_wp2
    go_ret
    exact ⟨rfl, Below.refl _ _⟩

theorem ds_max : ds 18446744073709551615 = ⟨#[49, 56, 52, 52, 54, 55, 52, 52, 48, 55, 51, 55, 48, 57, 53, 53, 49, 54, 49, 53]⟩ := by kernel_rfl
set_option maxRecDepth 100000 in
set_option maxHeartbeats 1000000 in
theorem suint_large (a : Nat) (w : World) (h : 18446744073709551616 ≤ a) :
    Calls Tryd.prog 29 #[.string (ds a)] w fun e w' => e = .returned (.tuple #[.int .u64 0, .bool false]) ∧ Below w.heap.size w w' := by
  have CC := fun W => rcmp_any a 18446744073709551615 W
  rw [ds_max, show Lib.compareInt (a : Int) ((18446744073709551615 : Nat) : Int) = 1 by unfold Lib.compareInt; rw [if_neg (by omega), if_pos (by omega)]] at CC
  replace CC := mkHid CC
  go_enter Tryd.func29, Tryd.ntmps29
  go_wp2_with (go_at_call 15; refine (CC.out _).mono ?_; rintro e w3 ⟨rfl, h3⟩; obtain rfl := h3.symm; clear h3)
  go_ret2
  exact ⟨rfl, Below.refl _ _⟩
set_option maxRecDepth 100000 in
set_option maxHeartbeats 4000000 in
theorem suint_small (a : Nat) (w : World) (h : a < 18446744073709551616) :
    Calls Tryd.prog 29 #[.string (ds a)] w fun e w' => e = .returned (.tuple #[.int .u64 (a : Int), .bool true]) ∧ Below w.heap.size w w' := by
  have CC := fun W => rcmp_any a 18446744073709551615 W
  obtain ⟨cv, hcv⟩ : ∃ cv, cv = Lib.compareInt (a : Int) ((18446744073709551615 : Nat) : Int) := ⟨_, rfl⟩
  have hcv0 : ¬ 0 < cv := by
    rw [hcv]; unfold Lib.compareInt
    by_cases hh : (a : Int) < ((18446744073709551615 : Nat) : Int)
    · rw [if_pos hh]; omega
    · rw [if_neg hh, if_neg (by omega)]; omega
  rw [ds_max, ← hcv] at CC
  clear hcv
  replace CC := mkHid CC
  have la := ds_size a
  have hn20 : Lib.nDigits a ≤ 20 := D.nDigits_le 19 a (by omega)
  have HGS : Hid (∀ i (hi : i < (ds a).size), (ds a)[i]'hi = UInt8.ofNat (48 + dg a (Lib.nDigits a - 1 - i))) := mkHid (fun i hi => by
    have h1 := ds_get a (Lib.nDigits a - 1 - i) (by omega)
    rw [← h1]
    congr 1; omega)
  have HN0 : Hid (a / 10 ^ Lib.nDigits a = 0) := mkHid (Nat.div_eq_of_lt (nd_lt a _ (Nat.le_refl _)))
  generalize Lib.nDigits a = N at *
  generalize ds a = s at *
  go_enter Tryd.func29, Tryd.ntmps29
  go_wp2_with (go_at_call 15; refine (CC.out _).mono ?_; rintro e w3 ⟨rfl, h3⟩; obtain rfl := h3.symm; clear h3)
  go_loopw [4, 5] (fun nv iv wr => ∃ (i m : Nat), nv = .int .u64 (m : Int) ∧ iv = .int .i64 (i : Int) ∧ i ≤ N ∧ Hid (m = a / 10 ^ (N - i)) ∧ wr = w) (fun _ iv _ => N - (intOf iv).toNat)
  case atStart => exact ⟨0, 0, rfl, rfl, by omega, mkHid HN0.out.symm, rfl⟩
  case round =>
    obtain ⟨i, m, rfl, rfl, hi, H, rfl⟩ := hrel
    by_cases hlt : i < N
    · have hlt' : (i : Int) < (N : Int) := by omega
      have his : i < s.size := by omega
      obtain ⟨c, hc⟩ : ∃ c, s[i] = c := ⟨_, rfl⟩
      have hcd := HGS.out i his
      rw [hc] at hcd
      have hd10 := dg_lt a (N - 1 - i)
      have e1 := (sdiv_step a 1 (N - 1 - i) (by omega)).1
      rw [show N - 1 - i + 1 = N - i by omega, ← H.out, show N - 1 - i = N - (i + 1) by omega] at e1
      rw [show N - 1 - i = N - (i + 1) by omega] at hcd hd10
      have hle : a / 10 ^ (N - (i + 1)) ≤ a := Nat.div_le_self _ _
      have f1 : IntKind.u8.wrap ((c.toNat : Int) - 48) = ((dg a (N - (i + 1)) : Nat) : Int) := by rw [hcd]; exact byte_dg _ hd10
      obtain ⟨d, hd⟩ : ∃ d, dg a (N - (i + 1)) = d := ⟨_, rfl⟩
      obtain ⟨m2, hm2⟩ : ∃ m2, a / 10 ^ (N - (i + 1)) = m2 := ⟨_, rfl⟩
      rw [hd] at f1 e1 hd10
      rw [hm2] at e1 hle
      have HM2 := mkHid hm2
      clear hcd hd hm2
      have f2 : IntKind.u64.wrap (d : Int) = (d : Int) := by rw [IntKind.wrap_u64]; omega
      have f3 : IntKind.u64.wrap (10 * (m : Int)) = 10 * (m : Int) := by rw [IntKind.wrap_u64]; omega
      have f4 : IntKind.u64.wrap (10 * (m : Int) + (d : Int)) = (m2 : Int) := by rw [IntKind.wrap_u64]; omega
      have f5 : IntKind.i64.wrap ((i : Int) + 1) = ((i + 1 : Nat) : Int) := by rw [IntWalk.i64_in _ (by omega)]; omega
      clear e1 hle
      go_wp2
      go_roundw
      case rel => exact ⟨i + 1, m2, rfl, rfl, hlt, mkHid HM2.out.symm, trivial⟩
      case measure => simp [intOf]; omega
    · have hm : m = a := by have := H.out; rw [show N - i = 0 by omega, Nat.pow_zero, Nat.div_one] at this; exact this
      subst hm
      have hlt' : ¬ (i : Int) < (N : Int) := by omega
      go_wp2
      go_ret2
      exact ⟨rfl, Below.refl _ _⟩

/- nat's Uint. -/
set_option maxHeartbeats 400000 in
theorem uint_small (n : Nat) (w : World) (h : n < M.B) :
    Calls Tryd.prog 25 #[natV n] w fun e w' => e = .returned (.tuple #[.int .u64 (n : Int), .bool true]) ∧ Below w.heap.size w w' := by
  unfold natV
  rw [hs_small h, Nat.mod_eq_of_lt h]
  go_enter Tryd.func25, Tryd.ntmps25
  go_wp2
  go_ret2
  exact ⟨rfl, (Below.refl _ _).alloc (Nat.le_refl _) _⟩

set_option maxHeartbeats 400000 in
theorem uint_large_raw (l : Nat) (h : ByteArray) (w : World) (h' : h.toList.isEmpty = false) :
    Calls Tryd.prog 25 #[.agg #[.int .u64 (l : Int), .string h]] w fun e w' => e = .returned (.tuple #[.int .u64 0, .bool false]) ∧ Below w.heap.size w w' := by
  go_enter Tryd.func25, Tryd.ntmps25
  go_wp2
  go_ret2
  exact ⟨rfl, (Below.refl _ _).alloc (Nat.le_refl _) _⟩
theorem uint_large (n : Nat) (w : World) (h : M.B ≤ n) :
    Calls Tryd.prog 25 #[natV n] w fun e w' => e = .returned (.tuple #[.int .u64 0, .bool false]) ∧ Below w.heap.size w w' :=
  uint_large_raw _ _ w (hs_ne h)
end Go.Proofs.YtjdkbbggelpchaaDoor
