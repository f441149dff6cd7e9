/- The contract of addWords. -/
import Derived.Test.YtjdkbbggelpchaaDoorW
namespace Go.Proofs.YtjdkbbggelpchaaDoor
open Go.RowKit

/-- After i rounds: the words written, the carry. -/
def AddInv (xs ys : List Nat) (i c : Nat) (zs : List Nat) : Prop :=
  zs.length = i ∧ M.Ok zs ∧ c ≤ 1 ∧ M.val zs + M.B ^ i * c = M.val (xs.take i) + M.val (ys.take i)

theorem AddInv.start (xs ys : List Nat) : AddInv xs ys 0 0 [] := ⟨rfl, M.Ok.nil, by omega, by simp⟩

theorem add_arith (b p z c x y d c' X Y : Nat) (h : z + p * c = X + Y) (hs : x + y + c = d + b * c') : z + p * d + p * b * c' = X + p * x + (Y + p * y) := by
  have : p * (x + y + c) = p * (d + b * c') := by rw [hs]
  simp only [Nat.mul_add, ← Nat.mul_assoc] at this
  omega

theorem AddInv.step {xs ys : List Nat} {i c : Nat} {zs : List Nat} (h : AddInv xs ys i c zs) (x y : Nat) (hx : M.val (xs.take (i + 1)) = M.val (xs.take i) + M.B ^ i * x)
    (hy : M.val (ys.take (i + 1)) = M.val (ys.take i) + M.B ^ i * y) (bx : x < M.B) (by' : y < M.B) :
    AddInv xs ys (i + 1) ((x + y + c) / 18446744073709551616) (zs ++ [(x + y + c) % 18446744073709551616]) := by
  obtain ⟨h1, h2, h3, h4⟩ := h
  refine ⟨by simp [h1], h2.append (M.Ok.cons (Nat.mod_lt _ (by omega)) M.Ok.nil), ?_, ?_⟩
  · unfold M.B at bx by'; omega
  · rw [M.val_snoc, h1, hx, hy, Nat.pow_succ]
    refine add_arith _ _ _ c x y _ _ _ _ h4 ?_
    have := Nat.mod_add_div (x + y + c) 18446744073709551616
    rw [← M.B_eq] at this ⊢; omega

set_option maxRecDepth 100000 in
set_option maxHeartbeats 1000000 in
theorem addWords_any (bx ox cx by' oy cy : Nat) (xs ys : List Nat) (w : World) (hx : Words w bx ox xs) (hy : Words w by' oy ys) (hne : by' ≠ bx) (hle : ys.length ≤ xs.length)
    (hb : xs.length ≤ 1152921504606846976) (okx : M.Ok xs) (oky : M.Ok ys) :
    Calls Tryd.prog 42 #[.slice (some ⟨bx, ox, none⟩) xs.length cx, .slice (some ⟨by', oy, none⟩) ys.length cy] w fun e w' => e = .returned (.tuple #[]) ∧
      ∃ zs, Hid (zs.length = xs.length ∧ M.Ok zs ∧ M.val zs = (M.val xs + M.val ys) % M.B ^ xs.length ∧ Words w' bx ox zs ∧ Wr w w' bx ox (ox + xs.length)) := by
  have HX := Lib.hid hx; clear hx
  have HY := Lib.hid hy; clear hy
  have OX := Lib.hid okx; clear okx
  have OY := Lib.hid oky; clear oky
  have HNE := Lib.hid hne; clear hne
  go_enter Tryd.func42, Tryd.ntmps42
  go_wp2
  go_loopw [4, 9] (fun cv iv wr => ∃ i c : Nat, i ≤ ys.length ∧ iv = .int .i64 i ∧ cv = .int .u64 c ∧ ∃ zs, Hid (AddInv xs ys i c zs ∧ Words wr bx ox (zs ++ xs.drop i) ∧ Wr w wr bx ox (ox + xs.length)))
    (fun _ iv _ => ys.length - (intOf iv).toNat)
  case atStart => exact ⟨0, 0, by omega, rfl, rfl, [], AddInv.start _ _, by simpa using HX.out, Wr.refl _ _ _ _⟩
  case round =>
    obtain ⟨i, c, hi, rfl, rfl, zs, H⟩ := hrel
    by_cases hlt : i < ys.length
    · have hcx := (H.out.2.1).at H.out.1.1 (show i < xs.length by omega)
      have hcy := ((HY.out).keep H.out.2.2 HNE.out) i hlt
      obtain ⟨hcx, hfx⟩ := hcx
      obtain ⟨hcy, -⟩ := hcy
      obtain ⟨x, ex⟩ : ∃ x, xs[i] = x := ⟨_, rfl⟩
      obtain ⟨y, ey⟩ : ∃ y, ys[i] = y := ⟨_, rfl⟩
      rw [ex] at hcx; rw [ey] at hcy
      have EX := Lib.hid ex; have EY := Lib.hid ey; clear ex ey
      have hc1 : c ≤ 1 := H.out.1.2.2.1
      have hadd := add64_run x y c hc1
      have hix : i < xs.length := by omega
      go_wp2
      go_region
      go_wp2
      go_roundw
      case rel =>
        refine ⟨i + 1, (x + y + c) / 18446744073709551616, hlt, by go_num, rfl, zs ++ [(x + y + c) % 18446744073709551616], ?_⟩
        obtain ⟨h1, h2, h3⟩ := H.out
        have k1 := M.val_take_succ (l := xs) hix
        have k2 := M.val_take_succ (l := ys) hlt
        have b1 := OX.out.get hix
        have b2 := OY.out.get hlt
        rw [EX.out] at k1 b1; rw [EY.out] at k2 b2
        exact ⟨h1.step x y k1 k2 b1 b2, h2.snoc h1.1 hix _, (h3.setCell (by omega) (by omega) _).drew⟩
      case measure => simp [intOf]; omega
    · have hie : i = ys.length := by omega
      subst hie
      go_wp2
      obtain ⟨wo, rfl⟩ : ∃ wo : World, wo = wr := ⟨_, rfl⟩
      go_loopw [4, 6] (fun cv iv wr => ∃ i c : Nat, ys.length ≤ i ∧ i ≤ xs.length ∧ iv = .int .i64 i ∧ cv = .int .u64 c ∧ ∃ zs, Hid (AddInv xs ys i c zs ∧ Words wr bx ox (zs ++ xs.drop i) ∧ Wr w wr bx ox (ox + xs.length)))
        (fun _ iv _ => xs.length - (intOf iv).toNat)
      case atStart => exact ⟨ys.length, c, Nat.le_refl _, hle, rfl, rfl, zs, H⟩
      case round =>
        clear H
        obtain ⟨i, c, hi1, hi2, rfl, rfl, zs, H⟩ := hrel
        have hc1 : c ≤ 1 := H.out.1.2.2.1
        by_cases hc0 : c = 0
        · subst hc0
          go_wp2
          go_end0
          refine ⟨rfl, zs ++ xs.drop i, mkHid ?_⟩
          obtain ⟨⟨h1, h2, h3, h4⟩, h5, h6⟩ := H.out
          have hok := h2.append (OX.out.drop i)
          have hlen : (zs ++ xs.drop i).length = xs.length := by simp [h1]; omega
          have hv := M.val_lt hok
          rw [hlen] at hv
          have e1 := M.val_append zs (xs.drop i)
          have e2 := M.val_take_drop xs i hi2
          rw [List.take_of_length_le hi1] at h4
          have e3 : M.val (zs ++ xs.drop i) = M.val xs + M.val ys := by rw [e1, h1]; omega
          exact ⟨hlen, hok, by rw [← e3, Nat.mod_eq_of_lt hv], h5, h6⟩
        · have hc2 : 0 < c := by omega
          by_cases hlt : i < xs.length
          · obtain ⟨hcx, hfx⟩ := (H.out.2.1).at H.out.1.1 hlt
            obtain ⟨x, ex⟩ : ∃ x, xs[i] = x := ⟨_, rfl⟩
            rw [ex] at hcx
            have EX := Lib.hid ex; clear ex
            have hadd := add64_run_y0 x c hc1
            go_wp2
            go_roundw
            case rel =>
              refine ⟨i + 1, (x + 0 + c) / 18446744073709551616, by omega, hlt, by go_num, rfl, zs ++ [(x + 0 + c) % 18446744073709551616], ?_⟩
              obtain ⟨h1, h2, h3⟩ := H.out
              have k1 := M.val_take_succ (l := xs) hlt
              have b1 := OX.out.get hlt
              rw [EX.out] at k1 b1
              have k2 : M.val (ys.take (i + 1)) = M.val (ys.take i) + M.B ^ i * 0 := by rw [List.take_of_length_le (by omega), List.take_of_length_le (by omega)]; simp
              exact ⟨h1.step x 0 k1 k2 b1 M.B_pos, h2.snoc h1.1 hlt _, h3.setCell (by omega) (by omega) _⟩
            case measure => simp [intOf]; omega
          · have hie : i = xs.length := by omega
            subst hie
            go_wp2
            go_end0
            refine ⟨rfl, zs, mkHid ?_⟩
            obtain ⟨⟨h1, h2, h3, h4⟩, h5, h6⟩ := H.out
            rw [List.take_of_length_le (Nat.le_refl _), List.take_of_length_le hi1] at h4
            have hv := M.val_lt h2
            rw [h1] at hv
            simp only [List.drop_length, List.append_nil] at h5
            exact ⟨h1, h2, by rw [← h4, Nat.add_mul_mod_self_left, Nat.mod_eq_of_lt hv], h5, h6⟩
end Go.Proofs.YtjdkbbggelpchaaDoor
