/- The contract of takeDigit. -/
import Derived.Test.YtjdkbbggelpchaaDoorEst
import Derived.Test.YtjdkbbggelpchaaDoorProd
import Derived.Test.YtjdkbbggelpchaaDoorAddW
import Derived.Test.YtjdkbbggelpchaaDoorW2
namespace Go.Proofs.YtjdkbbggelpchaaDoor
open Go.RowKit

/-- The three highest words and the rest. -/
theorem est_bounds (B N3 r2 d1 D2 P r' d' R D e Q : Nat) (hB : 4 ≤ B) (hR : R = N3 * P + r') (hD : D = D2 * P + d') (hr : r' < P) (hd : d' < P) (hQ : Q * D ≤ R) (hQ2 : R < (Q + 1) * D) (hlt : R < D * B)
    (hN : r2 * (B * B) ≤ N3) (hD2 : d1 * B ≤ D2) (hD3 : D2 + 1 ≤ (d1 + 1) * B) (hnorm : B ≤ 2 * d1)
    (he : (r2 = d1 ∧ e = B - 1) ∨ (r2 ≠ d1 ∧ e = N3 / D2 ∧ e < B)) : Q ≤ e ∧ e ≤ Q + 1 := by
  have hP : 0 < P := by omega
  have hD2pos : 0 < D2 := by
    have : 1 * B ≤ d1 * B := Nat.mul_le_mul_right B (by omega)
    omega
  have hDpos : 0 < D := by
    rw [hD]; have := Nat.mul_pos hD2pos hP; omega
  have hQB : Q < B := by
    apply Nat.lt_of_mul_lt_mul_right (a := D)
    calc Q * D ≤ R := hQ
      _ < D * B := hlt
      _ = B * D := Nat.mul_comm _ _
  -- D < (D2 + 1) P, R < (N3 + 1) P
  have hDu : D < (D2 + 1) * P := by rw [hD, Nat.add_mul, Nat.one_mul]; omega
  have hRu : R < (N3 + 1) * P := by rw [hR, Nat.add_mul, Nat.one_mul]; omega
  have hDl : D2 * P ≤ D := by omega
  have hRl : N3 * P ≤ R := by omega
  rcases he with ⟨h1, h2⟩ | ⟨h1, h2, h3⟩
  · refine ⟨by omega, ?_⟩
    -- Q + 2 >= B
    apply Nat.le_of_not_lt; intro hgt
    have hQs : Q + 1 ≤ B - 2 := by omega
    have a1 : R < (B - 2) * D := Nat.lt_of_lt_of_le hQ2 (Nat.mul_le_mul_right D hQs)
    have a2 : (B - 2) * D ≤ (B - 2) * ((D2 + 1) * P) := Nat.mul_le_mul_left _ (Nat.le_of_lt hDu)
    have a3 : (B - 2) * ((D2 + 1) * P) ≤ (B - 2) * (((d1 + 1) * B) * P) := Nat.mul_le_mul_left _ (Nat.mul_le_mul_right P hD3)
    have a4 : d1 * (B * B) * P ≤ R := Nat.le_trans (Nat.mul_le_mul_right P (by rw [← h1]; exact hN)) hRl
    have a5 : d1 * (B * B) * P < (B - 2) * (((d1 + 1) * B) * P) := by omega
    have a6 : (B - 2) * (((d1 + 1) * B) * P) = (B - 2) * (d1 + 1) * B * P := by simp only [Nat.mul_assoc]
    have a7 : d1 * (B * B) * P = d1 * B * B * P := by simp only [Nat.mul_assoc]
    rw [a6, a7] at a5
    have a8 := Nat.lt_of_mul_lt_mul_right (Nat.lt_of_mul_lt_mul_right a5)
    obtain ⟨c, hc⟩ : ∃ c, B = c + 2 := ⟨B - 2, by omega⟩
    subst hc
    rw [Nat.add_sub_cancel, Nat.mul_add, Nat.mul_add, Nat.mul_comm d1 c] at a8
    omega
  · constructor
    · rw [h2, Nat.le_div_iff_mul_le hD2pos]
      have b1 : Q * D2 * P < (N3 + 1) * P := by
        calc Q * D2 * P = Q * (D2 * P) := Nat.mul_assoc _ _ _
          _ ≤ Q * D := Nat.mul_le_mul_left _ hDl
          _ ≤ R := hQ
          _ < (N3 + 1) * P := hRu
      have := Nat.lt_of_mul_lt_mul_right b1
      omega
    · apply Nat.le_of_not_lt; intro hgt
      have c0 : e * D2 ≤ N3 := by rw [h2]; exact Nat.div_mul_le_self _ _
      have c1 : R < (e - 1) * D := Nat.lt_of_lt_of_le hQ2 (Nat.mul_le_mul_right D (by omega))
      have c2 : (e - 1) * D ≤ (e - 1) * ((D2 + 1) * P) := Nat.mul_le_mul_left _ (Nat.le_of_lt hDu)
      have c3 : e * D2 * P ≤ R := Nat.le_trans (Nat.mul_le_mul_right P c0) hRl
      have c4 : e * D2 * P < (e - 1) * (D2 + 1) * P := by rw [Nat.mul_assoc (e - 1)]; omega
      have c5 := Nat.lt_of_mul_lt_mul_right c4
      obtain ⟨c, hc⟩ : ∃ c, e = c + 1 := ⟨e - 1, by omega⟩
      rw [hc, Nat.add_sub_cancel, Nat.add_mul, Nat.mul_add] at c5
      have hDB : B ≤ D2 := by
        have : 1 * B ≤ d1 * B := Nat.mul_le_mul_right B (by omega)
        omega
      omega

/-- A digit that is right, or one too high. -/
theorem take_right (Bn zs e D R0 c rn R : Nat) (hR : R = R0 + Bn * rn) (h : zs + e * D = R0 + Bn * c) (hz : zs < Bn) (hle : e * D ≤ R) (hD : D ≤ Bn) (hlt : R < (e + 1) * D) : c = rn ∧ zs = R - e * D := by
  have h1 : R < e * D + D := by rw [Nat.add_mul, Nat.one_mul] at hlt; exact hlt
  have h2 : c = rn := by
    rcases Nat.lt_trichotomy c rn with h3 | h3 | h3
    · have := Nat.mul_le_mul_left Bn (show c + 1 ≤ rn by omega)
      rw [Nat.mul_add] at this; omega
    · exact h3
    · have := Nat.mul_le_mul_left Bn (show rn + 1 ≤ c by omega)
      rw [Nat.mul_add] at this; omega
  subst h2
  exact ⟨rfl, by omega⟩
theorem take_high (Bn zs e D R0 c rn R : Nat) (hR : R = R0 + Bn * rn) (h : zs + (e + 1) * D = R0 + Bn * c) (hz : zs < Bn) (hle : e * D ≤ R) (hD : D ≤ Bn) (hlt : R < (e + 1) * D) : rn < c ∧ (zs + D) % Bn = R - e * D := by
  have h1 : R < e * D + D := by rw [Nat.add_mul, Nat.one_mul] at hlt; exact hlt
  rw [Nat.add_mul, Nat.one_mul] at h
  have h2 : rn < c := by
    apply Nat.lt_of_not_le; intro h3
    have := Nat.mul_le_mul_left Bn h3
    omega
  refine ⟨h2, ?_⟩
  obtain ⟨k, rfl⟩ := Nat.exists_eq_add_of_le (show rn + 1 ≤ c from h2)
  rw [Nat.mul_add, Nat.mul_add, Nat.mul_one] at h
  have h3 : k = 0 := by
    rcases Nat.eq_zero_or_pos k with h4 | h4
    · exact h4
    · have := Nat.mul_le_mul_left Bn h4; rw [Nat.mul_one] at this; omega
  subst h3
  have h4 : zs + D = Bn + (R - e * D) := by rw [Nat.mul_zero] at h; omega
  rw [h4, Nat.add_mod_left, Nat.mod_eq_of_lt (by omega)]

theorem val_two (p : List Nat) (a b : Nat) : M.val (p ++ [a, b]) = (b * M.B + a) * M.B ^ p.length + M.val p := by
  rw [M.val_append, M.val_cons, M.val_cons, M.val_nil, Nat.mul_zero, Nat.add_zero, Nat.mul_comm, Nat.add_comm (M.val p), Nat.mul_comm M.B b, Nat.add_comm a]
theorem val_three (p : List Nat) (a b c : Nat) : M.val (p ++ [a, b, c]) = ((c * M.B + b) * M.B + a) * M.B ^ p.length + M.val p := by
  rw [M.val_append, M.val_cons, M.val_cons, M.val_cons, M.val_nil, Nat.mul_zero, Nat.add_zero, Nat.mul_comm, Nat.add_comm (M.val p), Nat.mul_comm M.B c, Nat.add_comm b, Nat.mul_comm M.B (c * M.B + b), Nat.add_comm a]

theorem est_fits (r0 r1 r2 d0 d1 : Nat) (h0 : r0 < M.B) (h1 : r1 < M.B) (h2 : r2 ≤ d1) (hd : 0 < d1) :
    (r2 = d1 ∧ est r0 r1 r2 d0 d1 = M.B - 1) ∨ (r2 ≠ d1 ∧ est r0 r1 r2 d0 d1 = ((r2 * M.B + r1) * M.B + r0) / (d1 * M.B + d0) ∧ est r0 r1 r2 d0 d1 < M.B) := by
  unfold est
  by_cases h : r2 = d1
  · left; rw [if_pos h]; exact ⟨h, by rw [M.B_eq]⟩
  · right
    rw [if_neg h, ← M.B_eq]
    refine ⟨h, rfl, ?_⟩
    have hB := M.B_pos
    have hD : 0 < d1 * M.B + d0 := by have := Nat.mul_pos hd hB; omega
    rw [Nat.div_lt_iff_lt_mul hD]
    have a1 := Nat.mul_le_mul_right M.B (show r2 + 1 ≤ d1 by omega)
    have a2 := Nat.mul_le_mul_right M.B (show r2 * M.B + r1 + 1 ≤ d1 * M.B by rw [Nat.add_mul, Nat.one_mul] at a1; omega)
    have a3 : M.B * (d1 * M.B + d0) = d1 * M.B * M.B + M.B * d0 := by rw [Nat.mul_add, Nat.mul_comm M.B (d1 * M.B)]
    rw [Nat.add_mul, Nat.one_mul] at a2
    omega

/-- The estimate is the digit or one more. -/
theorem est_digit (lp dp : List Nat) (r0 r1 r2 d0 d1 : Nat) (hlen : lp.length = dp.length) (okl : M.Ok (lp ++ [r0, r1, r2])) (okd : M.Ok (dp ++ [d0, d1])) (hn : M.B ≤ 2 * d1)
    (hlt : M.val (lp ++ [r0, r1, r2]) < M.val (dp ++ [d0, d1]) * M.B) :
    r2 ≤ d1 ∧ est r0 r1 r2 d0 d1 < M.B ∧ (est r0 r1 r2 d0 d1 = M.val (lp ++ [r0, r1, r2]) / M.val (dp ++ [d0, d1]) ∨ est r0 r1 r2 d0 d1 = M.val (lp ++ [r0, r1, r2]) / M.val (dp ++ [d0, d1]) + 1) := by
  have hB := M.B_pos
  have h4 : 4 ≤ M.B := by rw [M.B_eq]; omega
  have br0 : r0 < M.B := okl r0 (by simp)
  have br1 : r1 < M.B := okl r1 (by simp)
  have bd0 : d0 < M.B := okd d0 (by simp)
  have bd1 : d1 < M.B := okd d1 (by simp)
  have hlp := M.val_lt okl.left
  have hdp := M.val_lt okd.left
  rw [← hlen] at hdp
  have hd1 : 0 < d1 := by omega
  have he := fun hle => est_fits r0 r1 r2 d0 d1 br0 br1 hle hd1
  rw [val_three, val_two] at *
  rw [← hlen] at hlt ⊢
  have hP := M.B_pow_pos lp.length
  generalize M.B ^ lp.length = P at *
  generalize M.val lp = r' at *
  generalize M.val dp = d' at *
  generalize M.B = B at *
  have hD2 : d1 * B + d0 + 1 ≤ (d1 + 1) * B := by rw [Nat.add_mul, Nat.one_mul]; omega
  have hDu : (d1 * B + d0) * P + d' < (d1 + 1) * B * P := by
    have h1 := Nat.mul_le_mul_right P hD2
    rw [Nat.add_mul, Nat.one_mul] at h1; omega
  have hle : r2 ≤ d1 := by
    apply Nat.le_of_lt_succ
    have a1 : r2 * B * B * P ≤ ((r2 * B + r1) * B + r0) * P + r' := by
      have := Nat.mul_le_mul_right P (show r2 * B * B ≤ (r2 * B + r1) * B + r0 by rw [Nat.add_mul]; omega)
      omega
    have a2 : ((d1 * B + d0) * P + d') * B < (d1 + 1) * B * P * B := Nat.mul_lt_mul_of_pos_right hDu hB
    have a3 : r2 * B * B * P < (d1 + 1) * B * P * B := by omega
    rw [Nat.mul_right_comm ((d1 + 1) * B) P B] at a3
    exact Nat.lt_of_mul_lt_mul_right (Nat.lt_of_mul_lt_mul_right (Nat.lt_of_mul_lt_mul_right a3))
  have hD : 0 < (d1 * B + d0) * P + d' := by
    have := Nat.mul_pos (Nat.mul_pos hd1 hB) hP
    rw [Nat.add_mul]; omega
  have he1 := he hle
  have heB : est r0 r1 r2 d0 d1 < B := by rcases he1 with h | h; · omega
                                          · exact h.2.2
  have hQ := Nat.div_mul_le_self (((r2 * B + r1) * B + r0) * P + r') ((d1 * B + d0) * P + d')
  have hQ2 : ((r2 * B + r1) * B + r0) * P + r' < (((r2 * B + r1) * B + r0) * P + r') / ((d1 * B + d0) * P + d') * ((d1 * B + d0) * P + d') + ((d1 * B + d0) * P + d') := by
    have h1 := Nat.div_add_mod' (((r2 * B + r1) * B + r0) * P + r') ((d1 * B + d0) * P + d')
    have h2 := Nat.mod_lt (((r2 * B + r1) * B + r0) * P + r') hD
    omega
  generalize (((r2 * B + r1) * B + r0) * P + r') / ((d1 * B + d0) * P + d') = Q at *
  have hb := est_bounds B ((r2 * B + r1) * B + r0) r2 d1 (d1 * B + d0) P r' d' _ _ (est r0 r1 r2 d0 d1) Q h4 rfl rfl hlp hdp hQ (by rw [Nat.add_mul Q, Nat.one_mul]; exact hQ2) hlt
    (by rw [Nat.add_mul, Nat.mul_assoc]; omega) (by omega) hD2 hn he1
  exact ⟨hle, heB, by omega⟩

set_option maxRecDepth 100000 in
set_option maxHeartbeats 4000000 in
theorem takeDigit_core (b off cap bd od cd k e : Nat) (z0 ds : List Nat) (r2 : Nat) (w : World) (HL : Hid (Words w b off (z0 ++ [r2]))) (HD : Hid (Words w bd od ds)) (LZ : Hid (z0.length = k + 2)) (LD : Hid (ds.length = k + 2))
    (OL : Hid (M.Ok (z0 ++ [r2]))) (OD : Hid (M.Ok ds)) (HEB : Hid (e < M.B)) (HDIG : Hid (e = M.val (z0 ++ [r2]) / M.val ds ∨ e = M.val (z0 ++ [r2]) / M.val ds + 1)) (HDP : Hid (0 < M.val ds))
    (HNE : Hid (bd ≠ b)) (hk : k ≤ 1000000) (hcap : k + 3 ≤ cap) (hcd : k + 2 ≤ cd)
    (CE : Hid (∀ W, Below w.heap.size w W → Calls Tryd.prog 77 #[.slice (some ⟨b, off + k, none⟩) 3 (cap - k), .slice (some ⟨bd, od + k, none⟩) 2 (cd - k)] W fun e1 w' => e1 = .returned (.int .u64 (e : Int)) ∧ Below W.heap.size W w')) :
    Calls Tryd.prog 69 #[.slice (some ⟨b, off, none⟩) (k + 3) cap, .slice (some ⟨bd, od, none⟩) (k + 2) cd] w fun e w' =>
      e = .returned (.int .u64 ((M.val (z0 ++ [r2]) / M.val ds : Nat) : Int)) ∧ ∃ zs, Hid (zs.length = k + 2 ∧ M.Ok zs ∧ M.val zs = M.val (z0 ++ [r2]) % M.val ds ∧ Words w' b off (zs ++ [0]) ∧ Wr w w' b off (off + (k + 3))) := by
  have hk1 : (k : Int) + 2 - 2 = (k : Int) := by omega
  have hs1 := addr_if b off k
  have hs2 := addr_if bd od k
  have hs3 : ¬ cap = k := by omega
  have hs4 : ¬ cd = k := by omega
  have hs5 : IntKind.i64.wrap (k : Int) = (k : Int) := IntWalk.i64_in _ (by omega)
  have hs6 : (k : Int) ≤ (k : Int) + 3 := by omega
  have hs7 : (k : Int) ≤ (k : Int) + 2 := by omega
  obtain ⟨Q, hQ⟩ : ∃ Q, M.val (z0 ++ [r2]) / M.val ds = Q := ⟨_, rfl⟩
  rw [hQ] at HDIG ⊢
  have HQ := mkHid hQ
  clear hQ
  have HMOD : Hid (M.val (z0 ++ [r2]) % M.val ds = M.val (z0 ++ [r2]) - Q * M.val ds ∧ Q * M.val ds ≤ M.val (z0 ++ [r2]) ∧ M.val (z0 ++ [r2]) < (Q + 1) * M.val ds) := mkHid (by
    have h1 := Nat.div_add_mod' (M.val (z0 ++ [r2])) (M.val ds)
    have h2 := Nat.mod_lt (M.val (z0 ++ [r2])) HDP.out
    rw [HQ.out] at h1
    rw [Nat.add_mul, Nat.one_mul]
    omega)
  go_enter Tryd.func69, Tryd.ntmps69
  go_upto_region 2 with fail
  go_cut [6] (fun v wx => v = .int .u64 (e : Int) ∧ Below w.heap.size w wx)
  case first =>
    go_region_with (first
      | (go_at_call 77; refine (CE.out _ ((Below.refl _ _).drew)).mono ?_; rintro e1 w2 ⟨rfl, hb⟩; have HB := mkHid hb; clear hb))
    all_goals (go_wp2_with fail; go_meet; exact ⟨rfl, ⟨HB.out.os, HB.out.tape, HB.out.output, HB.out.size, HB.out.block⟩⟩)
  case rest =>
    obtain ⟨rfl, hb⟩ := hcut
    have HB := mkHid hb
    clear hb hs1 hs2 hs3 hs4 hs5 hs6 hs7
    have HLc : Hid (Words wc b off (z0 ++ [r2])) := mkHid (HL.out.grows HB.out)
    have HDc : Hid (Words wc bd od ds) := mkHid (HD.out.grows HB.out)
    have C1 := mkHid (subProduct_any b off cap bd od cd e z0 ds wc HLc.out.left HDc.out HNE.out (by rw [LD.out, LZ.out]) (by rw [LD.out]; omega) OL.out.left OD.out HEB.out)
    rw [LD.out] at C1
    have hfit : (k : Int) + 2 ≤ cap := by omega
    go_wp2_with fail
    refine C1.out.mono ?_
    rintro e1 w1 ⟨c, rfl, zs, R⟩
    clear C1
    have hR2 : Hid (Words w1 b (off + (k + 2)) [r2]) := mkHid (by
      have h1 := HLc.out.right
      rw [LZ.out] at h1
      exact h1.keepOut R.out.2.2.2.2.2 (by right; omega))
    obtain ⟨hc2, hf2⟩ := hR2.out 0 (by simp)
    simp only [List.getElem_cons_zero, Nat.add_zero] at hc2 hf2
    have HV : Hid (M.val (z0 ++ [r2]) = M.val z0 + M.B ^ (k + 2) * r2) := mkHid (by rw [M.val_snoc, LZ.out])
    have HZL : Hid (M.val zs < M.B ^ (k + 2)) := mkHid (by have := M.val_lt R.out.2.1; rwa [R.out.1] at this)
    have HDL : Hid (M.val ds ≤ M.B ^ (k + 2)) := mkHid (by have := M.val_lt OD.out; rw [LD.out] at this; omega)
    rcases HDIG.out with hdig | hdig
    · have HT := mkHid (take_right _ _ _ _ _ _ _ _ HV.out (by rw [← hdig]; exact R.out.2.2.2.1) HZL.out HMOD.out.2.1 HDL.out HMOD.out.2.2)
      have hle : ¬ (c : Int) > (r2 : Int) := by have := HT.out.1; omega
      subst hdig
      go_wp2
      go_ret
      have hW0 : Words (w1.setCell ⟨b, off + (k + 2), none⟩ (.int .u64 ((0 : Nat) : Int))) b off (zs ++ [0]) := by
        have h1 : Words w1 b off (zs ++ [r2]) := R.out.2.2.2.2.1.append (by rw [R.out.1]; exact hR2.out)
        exact h1.setMid R.out.1 0
      refine ⟨rfl, zs, mkHid ⟨R.out.1, R.out.2.1, by rw [HT.out.2, HMOD.out.1], hW0, ?_⟩⟩
      exact (((Wr.ofBelow HB.out b off (off + (k + 3))).trans (R.out.2.2.2.2.2.mono (Nat.le_refl _) (by omega))).setCell (by omega) (by omega) _)
    · have HT := mkHid (take_high _ _ _ _ _ _ _ _ HV.out (by rw [← hdig]; exact R.out.2.2.2.1) HZL.out HMOD.out.2.1 HDL.out HMOD.out.2.2)
      have hgt : (c : Int) > (r2 : Int) := by have := HT.out.1; omega
      have C2 := mkHid (addWords_any b off cap bd od cd zs ds w1 R.out.2.2.2.2.1 (HDc.out.keep R.out.2.2.2.2.2 HNE.out) HNE.out (by rw [LD.out, R.out.1]; omega) (by rw [R.out.1]; omega) R.out.2.1 OD.out)
      rw [LD.out, R.out.1] at C2
      have hQb : (Q : Int) + 1 ≤ 18446744073709551615 := by have h1 := HEB.out; rw [M.B_eq, hdig] at h1; omega
      have hQs : ((Q + 1 : Nat) : Int) - 1 = (Q : Int) := by omega
      have HDG := mkHid hdig
      clear hdig
      have he : (e : Int) - 1 = (Q : Int) := by rw [HDG.out]; exact hQs
      have hebound : 1 ≤ e := by rw [HDG.out]; omega
      have hebound2 : (e : Int) ≤ 18446744073709551615 := by rw [HDG.out]; omega
      clear hQs
      go_wp2_with fail
      refine C2.out.mono ?_
      clear C2
      rintro e1 w2 ⟨rfl, ts, T⟩
      have hR3 : Hid (Words w2 b (off + (k + 2)) [r2]) := mkHid (hR2.out.keepOut T.out.2.2.2.2 (by right; omega))
      clear hc2 hf2
      obtain ⟨hc2, hf2⟩ := hR3.out 0 (by simp)
      simp only [List.getElem_cons_zero, Nat.add_zero] at hc2 hf2
      go_wp2
      go_ret
      have hW0 : Words (w2.setCell ⟨b, off + (k + 2), none⟩ (.int .u64 ((0 : Nat) : Int))) b off (ts ++ [0]) := by
        have h1 : Words w2 b off (ts ++ [r2]) := T.out.2.2.2.1.append (by rw [T.out.1]; exact hR3.out)
        exact h1.setMid T.out.1 0
      refine ⟨rfl, ts, mkHid ⟨T.out.1, T.out.2.1, by rw [T.out.2.2.1, HT.out.2, HMOD.out.1], hW0, ?_⟩⟩
      exact ((((Wr.ofBelow HB.out b off (off + (k + 3))).trans (R.out.2.2.2.2.2.mono (Nat.le_refl _) (by omega))).trans (T.out.2.2.2.2.mono (Nat.le_refl _) (by omega))).setCell (by omega) (by omega) _)

theorem takeDigit_any (b off cap bd od cd k : Nat) (lp dp : List Nat) (r0 r1 r2 d0 d1 : Nat) (w : World) (hl : Words w b off (lp ++ [r0, r1, r2])) (hd : Words w bd od (dp ++ [d0, d1])) (hlp : lp.length = k) (hdp : dp.length = k)
    (okl : M.Ok (lp ++ [r0, r1, r2])) (okd : M.Ok (dp ++ [d0, d1])) (hn : M.B ≤ 2 * d1) (hlt : M.val (lp ++ [r0, r1, r2]) < M.val (dp ++ [d0, d1]) * M.B)
    (hne : bd ≠ b) (hk : k ≤ 1000000) (hcap : k + 3 ≤ cap) (hcd : k + 2 ≤ cd) :
    Calls Tryd.prog 69 #[.slice (some ⟨b, off, none⟩) (k + 3) cap, .slice (some ⟨bd, od, none⟩) (k + 2) cd] w fun e w' =>
      e = .returned (.int .u64 ((M.val (lp ++ [r0, r1, r2]) / M.val (dp ++ [d0, d1]) : Nat) : Int)) ∧ ∃ zs, Hid (zs.length = k + 2 ∧ M.Ok zs ∧ M.val zs = M.val (lp ++ [r0, r1, r2]) % M.val (dp ++ [d0, d1]) ∧ Words w' b off (zs ++ [0]) ∧ Wr w w' b off (off + (k + 3))) := by
  obtain ⟨hle, heB, hdig⟩ := est_digit lp dp r0 r1 r2 d0 d1 (by omega) okl okd hn hlt
  have L3 : Words w b (off + k) [r0, r1, r2] := by have := hl.right; rwa [hlp] at this
  have D2 : Words w bd (od + k) [d0, d1] := by have := hd.right; rwa [hdp] at this
  have e1 : lp ++ [r0, r1, r2] = (lp ++ [r0, r1]) ++ [r2] := by simp
  have hDpos : 0 < M.val (dp ++ [d0, d1]) := by
    rw [val_two]
    have hd1 : 0 < d1 := by have := M.B_pos; omega
    have := Nat.mul_pos (show 0 < d1 * M.B + d0 by have := Nat.mul_pos hd1 M.B_pos; omega) (M.B_pow_pos dp.length)
    omega
  rw [e1] at hl okl hlt hdig ⊢
  refine takeDigit_core b off cap bd od cd k (est r0 r1 r2 d0 d1) (lp ++ [r0, r1]) (dp ++ [d0, d1]) r2 w (mkHid hl) (mkHid hd) (mkHid (by simp [hlp])) (mkHid (by simp [hdp])) (mkHid okl) (mkHid okd) (mkHid heB) (mkHid hdig) (mkHid hDpos) (mkHid hne) hk hcap hcd (mkHid fun W hW => ?_)
  by_cases h : r2 = d1
  · subst h
    exact estimate_eq b (off + k) (cap - k) bd (od + k) (cd - k) r0 r1 r2 d0 W (L3.grows hW) (D2.grows hW)
  · exact estimate_ne b (off + k) (cap - k) bd (od + k) (cd - k) r0 r1 r2 d0 d1 W (L3.grows hW) (D2.grows hW) (by omega) (okl r0 (by simp)) (okl r1 (by simp)) (okd d0 (by simp)) (okd d1 (by simp))
end Go.Proofs.YtjdkbbggelpchaaDoor
