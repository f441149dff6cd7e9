/- The contract of subWords. -/
import Derived.Test.YtjdkbbggelpchaaDoorW
namespace Go.Proofs.YtjdkbbggelpchaaDoor
open Go.RowKit

/-- After i rounds: the words written, what is borrowed. -/
def SubInv (xs ys : List Nat) (i c : Nat) (zs : List Nat) : Prop :=
  zs.length = i ∧ M.Ok zs ∧ c ≤ 1 ∧ M.val zs + M.val (ys.take i) = M.val (xs.take i) + M.B ^ i * c

theorem SubInv.start (xs ys : List Nat) : SubInv xs ys 0 0 [] := ⟨rfl, M.Ok.nil, by omega, by simp⟩

theorem sub_arith (b p z c x y d c' X Y : Nat) (h : z + Y = X + p * c) (hs : d + y + c = x + b * c') : z + p * d + (Y + p * y) = X + p * x + p * b * c' := by
  have : p * (d + y + c) = p * (x + b * c') := by rw [hs]
  simp only [Nat.mul_add, ← Nat.mul_assoc] at this
  omega

theorem SubInv.step {xs ys : List Nat} {i c : Nat} {zs : List Nat} (h : SubInv xs ys i c zs) (x y : Nat) (hx : M.val (xs.take (i + 1)) = M.val (xs.take i) + M.B ^ i * x)
    (hy : M.val (ys.take (i + 1)) = M.val (ys.take i) + M.B ^ i * y) (bx : x < M.B) (by' : y < M.B) :
    SubInv xs ys (i + 1) (bor x y c) (zs ++ [dif x y c]) := by
  obtain ⟨h1, h2, h3, h4⟩ := h
  refine ⟨by simp [h1], h2.append (M.Ok.cons (dif_lt _ _ _) M.Ok.nil), bor_le _ _ _, ?_⟩
  rw [M.val_snoc, h1, hx, hy, Nat.pow_succ]
  exact sub_arith _ _ _ c x y _ _ _ _ h4 (dif_bor bx by' h3)

set_option maxRecDepth 100000 in
set_option maxHeartbeats 1000000 in
theorem subWords_any (bx ox cx by' oy cy : Nat) (xs ys : List Nat) (w : World) (hx : Words w bx ox xs) (hy : Words w by' oy ys) (hne : by' ≠ bx) (hle : ys.length ≤ xs.length) (hv : M.val ys ≤ M.val xs)
    (hb : xs.length ≤ 1152921504606846976) (okx : M.Ok xs) (oky : M.Ok ys) :
    Calls Tryd.prog 37 #[.slice (some ⟨bx, ox, none⟩) xs.length cx, .slice (some ⟨by', oy, none⟩) ys.length cy] w fun e w' => e = .returned (.tuple #[]) ∧
      ∃ zs, Hid (zs.length = xs.length ∧ M.Ok zs ∧ M.val zs = M.val xs - M.val ys ∧ Words w' bx ox zs ∧ Wr w w' bx ox (ox + xs.length)) := by
  have HX := Lib.hid hx; clear hx
  have HY := Lib.hid hy; clear hy
  have OX := Lib.hid okx; clear okx
  have OY := Lib.hid oky; clear oky
  have HNE := Lib.hid hne; clear hne
  have HV := Lib.hid hv; clear hv
  go_enter Tryd.func37, Tryd.ntmps37
  go_wp2
  go_loopw [4, 9] (fun cv iv wr => ∃ i c : Nat, i ≤ ys.length ∧ iv = .int .i64 i ∧ cv = .int .u64 c ∧ ∃ zs, Hid (SubInv xs ys i c zs ∧ Words wr bx ox (zs ++ xs.drop i) ∧ Wr w wr bx ox (ox + xs.length)))
    (fun _ iv _ => ys.length - (intOf iv).toNat)
  case atStart => exact ⟨0, 0, by omega, rfl, rfl, [], SubInv.start _ _, by simpa using HX.out, Wr.refl _ _ _ _⟩
  case round =>
    obtain ⟨i, c, hi, rfl, rfl, zs, H⟩ := hrel
    by_cases hlt : i < ys.length
    · have hcx := (H.out.2.1).at H.out.1.1 (show i < xs.length by omega)
      have hcy := ((HY.out).keep H.out.2.2 HNE.out) i hlt
      obtain ⟨hcx, hfx⟩ := hcx
      obtain ⟨hcy, -⟩ := hcy
      obtain ⟨x, ex⟩ : ∃ x, xs[i] = x := ⟨_, rfl⟩
      obtain ⟨y, ey⟩ : ∃ y, ys[i] = y := ⟨_, rfl⟩
      rw [ex] at hcx; rw [ey] at hcy
      have EX := Lib.hid ex; have EY := Lib.hid ey; clear ex ey
      have hc1 : c ≤ 1 := H.out.1.2.2.1
      have hsub := sub64_run x y c hc1
      have hix : i < xs.length := by omega
      go_wp2
      go_region
      go_wp2
      go_roundw
      case rel =>
        refine ⟨i + 1, bor x y c, hlt, by go_num, rfl, zs ++ [dif x y c], ?_⟩
        obtain ⟨h1, h2, h3⟩ := H.out
        have k1 := M.val_take_succ (l := xs) hix
        have k2 := M.val_take_succ (l := ys) hlt
        have b1 := OX.out.get hix
        have b2 := OY.out.get hlt
        rw [EX.out] at k1 b1; rw [EY.out] at k2 b2
        exact ⟨h1.step x y k1 k2 b1 b2, h2.snoc h1.1 hix _, (h3.setCell (by omega) (by omega) _).drew⟩
      case measure => simp [intOf]; omega
    · have hie : i = ys.length := by omega
      subst hie
      go_wp2
      obtain ⟨wo, rfl⟩ : ∃ wo : World, wo = wr := ⟨_, rfl⟩
      go_loopw [4, 6] (fun cv iv wr => ∃ i c : Nat, ys.length ≤ i ∧ i ≤ xs.length ∧ iv = .int .i64 i ∧ cv = .int .u64 c ∧ ∃ zs, Hid (SubInv xs ys i c zs ∧ Words wr bx ox (zs ++ xs.drop i) ∧ Wr w wr bx ox (ox + xs.length)))
        (fun _ iv _ => xs.length - (intOf iv).toNat)
      case atStart => exact ⟨ys.length, c, Nat.le_refl _, hle, rfl, rfl, zs, H⟩
      case round =>
        clear H
        obtain ⟨i, c, hi1, hi2, rfl, rfl, zs, H⟩ := hrel
        have hc1 : c ≤ 1 := H.out.1.2.2.1
        by_cases hc0 : c = 0
        · subst hc0
          go_wp2
          go_end0
          refine ⟨rfl, zs ++ xs.drop i, mkHid ?_⟩
          obtain ⟨⟨h1, h2, h3, h4⟩, h5, h6⟩ := H.out
          have hok := h2.append (OX.out.drop i)
          have hlen : (zs ++ xs.drop i).length = xs.length := by simp [h1]; omega
          have e1 := M.val_append zs (xs.drop i)
          have e2 := M.val_take_drop xs i hi2
          rw [List.take_of_length_le hi1] at h4
          have e3 : M.val (zs ++ xs.drop i) = M.val xs - M.val ys := by rw [e1, h1]; omega
          exact ⟨hlen, hok, e3, h5, h6⟩
        · have hc2 : 0 < c := by omega
          have hlt : i < xs.length := by
            apply Nat.lt_of_not_le; intro hge
            have hie : i = xs.length := by omega
            obtain ⟨⟨h1, h2, h3, h4⟩, h5, h6⟩ := H.out
            have hc3 : c = 1 := by omega
            have h7 := M.val_lt h2
            rw [h1] at h7
            rw [List.take_of_length_le hge, List.take_of_length_le hi1, hc3] at h4
            have := HV.out
            omega
          · obtain ⟨hcx, hfx⟩ := (H.out.2.1).at H.out.1.1 hlt
            obtain ⟨x, ex⟩ : ∃ x, xs[i] = x := ⟨_, rfl⟩
            rw [ex] at hcx
            have EX := Lib.hid ex; clear ex
            have hsub := sub64_run_y0 x c hc1
            go_wp2
            go_roundw
            case rel =>
              refine ⟨i + 1, bor x 0 c, by omega, hlt, by go_num, rfl, zs ++ [dif x 0 c], ?_⟩
              obtain ⟨h1, h2, h3⟩ := H.out
              have k1 := M.val_take_succ (l := xs) hlt
              have b1 := OX.out.get hlt
              rw [EX.out] at k1 b1
              have k2 : M.val (ys.take (i + 1)) = M.val (ys.take i) + M.B ^ i * 0 := by rw [List.take_of_length_le (by omega), List.take_of_length_le (by omega)]; simp
              exact ⟨h1.step x 0 k1 k2 b1 M.B_pos, h2.snoc h1.1 hlt _, h3.setCell (by omega) (by omega) _⟩
            case measure => simp [intOf]; omega
end Go.Proofs.YtjdkbbggelpchaaDoor
