/- The contracts of addProduct and subProduct. -/
import Derived.Test.YtjdkbbggelpchaaDoorW
import Derived.Test.YtjdkbbggelpchaaDoorShelf
namespace Go.Proofs.YtjdkbbggelpchaaDoor
open Go.RowKit

theorem prod_le (x d : Nat) (hx : x < 18446744073709551616) (hd : d < 18446744073709551616) : x * d ≤ 340282366920938463426481119284349108225 := by
  have := Nat.mul_le_mul (show x ≤ 18446744073709551615 by omega) (show d ≤ 18446744073709551615 by omega)
  simpa using this

/-- One step of a multiplication. -/
structure Mac (x d c z h l s c1 t c2 : Nat) : Prop where
  eh : x * d / 18446744073709551616 = h
  el : x * d % 18446744073709551616 = l
  es : (l + c) % 18446744073709551616 = s
  ec1 : (l + c) / 18446744073709551616 = c1
  et : (z + s) % 18446744073709551616 = t
  ec2 : (z + s) / 18446744073709551616 = c2
  b1 : h + c1 ≤ 18446744073709551615
  b2 : h + c1 + c2 ≤ 18446744073709551615
  b3 : t < M.B
  e : z + d * x + c = t + M.B * (h + c1 + c2)

theorem mac (x d c z : Nat) (hx : x < M.B) (hd : d < M.B) (hc : c < M.B) (hz : z < M.B) : ∃ h l s c1 t c2, Mac x d c z h l s c1 t c2 := by
  refine ⟨_, _, _, _, _, _, ⟨rfl, rfl, rfl, rfl, rfl, rfl, ?_, ?_, ?_, ?_⟩⟩
  all_goals
    rw [M.B_eq] at *
    have hp := prod_le x d hx hd
    try rw [Nat.mul_comm d x]
    generalize x * d = p at *
    omega

structure Msc (x d c z h l s c1 t c2 : Nat) : Prop where
  eh : x * d / 18446744073709551616 = h
  el : x * d % 18446744073709551616 = l
  es : (l + c) % 18446744073709551616 = s
  ec1 : (l + c) / 18446744073709551616 = c1
  et : dif z s 0 = t
  ec2 : bor z s 0 = c2
  b1 : h + c1 ≤ 18446744073709551615
  b2 : h + c1 + c2 ≤ 18446744073709551615
  b3 : t < M.B
  e : t + d * x + c = z + M.B * (h + c1 + c2)

theorem msc (x d c z : Nat) (hx : x < M.B) (hd : d < M.B) (hc : c < M.B) (hz : z < M.B) : ∃ h l s c1 t c2, Msc x d c z h l s c1 t c2 := by
  have hs : (x * d % 18446744073709551616 + c) % 18446744073709551616 < M.B := Nat.mod_lt _ (by omega)
  have hdb := dif_bor hz hs (Nat.zero_le 1)
  have hdl := dif_lt z ((x * d % 18446744073709551616 + c) % 18446744073709551616) 0
  have hbl := bor_le z ((x * d % 18446744073709551616 + c) % 18446744073709551616) 0
  refine ⟨_, _, _, _, _, _, ⟨rfl, rfl, rfl, rfl, rfl, rfl, ?_, ?_, hdl, ?_⟩⟩
  all_goals
    rw [M.B_eq] at *
    have hp := prod_le x d hx hd
    try rw [Nat.mul_comm d x]
    generalize dif z ((x * d % 18446744073709551616 + c) % 18446744073709551616) 0 = t at *
    generalize bor z ((x * d % 18446744073709551616 + c) % 18446744073709551616) 0 = b at *
    generalize x * d = p at *
    omega

theorem mac_arith (b p zv c x z d t c' Z X : Nat) (h : zv + p * c = Z + d * X) (e : z + d * x + c = t + b * c') : zv + p * t + p * b * c' = Z + p * z + d * (X + p * x) := by
  have h1 : p * (z + d * x + c) = p * (t + b * c') := by rw [e]
  have h2 : p * (d * x) = d * (p * x) := by rw [← Nat.mul_assoc, ← Nat.mul_assoc, Nat.mul_comm p d]
  simp only [Nat.mul_add] at h1 ⊢
  rw [h2] at h1
  simp only [Nat.mul_assoc] at *
  omega

def MacInv (xs z0 : List Nat) (d i c : Nat) (zs : List Nat) : Prop :=
  zs.length = i ∧ M.Ok zs ∧ c < M.B ∧ M.val zs + M.B ^ i * c = M.val (z0.take i) + d * M.val (xs.take i)

theorem MacInv.step {xs z0 : List Nat} {d i c : Nat} {zs : List Nat} (H : MacInv xs z0 d i c zs) (x z h l s c1 t c2 : Nat) (hx : M.val (xs.take (i + 1)) = M.val (xs.take i) + M.B ^ i * x)
    (hz : M.val (z0.take (i + 1)) = M.val (z0.take i) + M.B ^ i * z) (m : Mac x d c z h l s c1 t c2) : MacInv xs z0 d (i + 1) (h + c1 + c2) (zs ++ [t]) := by
  obtain ⟨h1, h2, h3, h4⟩ := H
  refine ⟨by simp [h1], h2.append (M.Ok.cons m.b3 M.Ok.nil), ?_, ?_⟩
  · have := m.b2; rw [M.B_eq]; omega
  · rw [M.val_snoc, h1, hx, hz, Nat.pow_succ]
    exact mac_arith _ _ _ c x z d t _ _ _ h4 m.e

set_option maxRecDepth 100000 in
set_option maxHeartbeats 1000000 in
theorem addProduct_any (bz oz cz bx ox cx d : Nat) (z0 xs : List Nat) (w : World) (hz : Words w bz oz z0) (hx : Words w bx ox xs) (hne : bx ≠ bz) (hle : z0.length = xs.length)
    (hb : xs.length ≤ 1152921504606846976) (okz : M.Ok z0) (okx : M.Ok xs) (hd : d < M.B) :
    Calls Tryd.prog 50 #[.slice (some ⟨bz, oz, none⟩) xs.length cz, .slice (some ⟨bx, ox, none⟩) xs.length cx, .int .u64 d] w fun e w' => ∃ c : Nat, e = .returned (.int .u64 c) ∧
      ∃ zs, Hid (zs.length = xs.length ∧ M.Ok zs ∧ c < M.B ∧ M.val zs + M.B ^ xs.length * c = M.val z0 + d * M.val xs ∧ Words w' bz oz zs ∧ Wr w w' bz oz (oz + xs.length)) := by
  have HX := Lib.hid hx; clear hx
  have HZ := Lib.hid hz; clear hz
  have OX := Lib.hid okx; clear okx
  have OZ := Lib.hid okz; clear okz
  have HNE := Lib.hid hne; clear hne
  have HD := Lib.hid hd; clear hd
  have HLE := Lib.hid hle; clear hle
  go_enter Tryd.func50, Tryd.ntmps50
  go_wp2
  go_loopw [7, 14] (fun cv iv wr => ∃ i c : Nat, i ≤ xs.length ∧ iv = .int .i64 i ∧ cv = .int .u64 c ∧ ∃ zs, Hid (MacInv xs z0 d i c zs ∧ Words wr bz oz (zs ++ z0.drop i) ∧ Wr w wr bz oz (oz + xs.length)))
    (fun _ iv _ => xs.length - (intOf iv).toNat)
  case atStart => exact ⟨0, 0, by omega, rfl, rfl, [], ⟨rfl, M.Ok.nil, M.B_pos, by simp⟩, by simpa using HZ.out, Wr.refl _ _ _ _⟩
  case round =>
    obtain ⟨i, c, hi, rfl, rfl, zs, H⟩ := hrel
    by_cases hlt : i < xs.length
    · have HLZ : Hid (i < z0.length) := mkHid (by rw [HLE.out]; exact hlt)
      obtain ⟨hcz, hfz⟩ := (H.out.2.1).at H.out.1.1 HLZ.out
      obtain ⟨hcx, -⟩ := ((HX.out).keep H.out.2.2 HNE.out) i hlt
      obtain ⟨x, ex⟩ : ∃ x, xs[i] = x := ⟨_, rfl⟩
      obtain ⟨z, ez⟩ : ∃ z, z0[i]'(HLZ.out) = z := ⟨_, rfl⟩
      rw [ex] at hcx; rw [ez] at hcz
      have EX := Lib.hid ex; have EZ := Lib.hid ez; clear ex ez
      have BX : Hid (x < M.B) := mkHid (by rw [← EX.out]; exact OX.out.get hlt)
      have BZ : Hid (z < M.B) := mkHid (by rw [← EZ.out]; exact OZ.out.get HLZ.out)
      obtain ⟨h, l, s, c1, t, c2, MM⟩ := mac x d c z BX.out HD.out H.out.1.2.2.1 BZ.out
      have HM : Hid (∀ w, Calls Tryd.prog 49 #[.int .u64 x, .int .u64 d] w fun e w' => e = .returned (.tuple #[.int .u64 (h : Int), .int .u64 (l : Int)]) ∧ w' = w) := mkHid fun w => by
        have := Tryd.bits_Mul64 x d BX.out HD.out w
        rwa [MM.eh, MM.el] at this
      have hadd1 := add64_run_c0 l c
      rw [MM.es, MM.ec1] at hadd1
      have hadd2 := add64_run_c0 z s
      rw [MM.et, MM.ec2] at hadd2
      have b1 := MM.b1
      have b2 := MM.b2
      have HMM := Lib.hid MM; clear MM
      go_wp2_with (go_at_call 49; refine (HM.out _).mono ?_; rintro e w' ⟨rfl, rfl⟩)
      go_roundw
      case rel =>
        refine ⟨i + 1, h + c1 + c2, hlt, by go_num, by go_num, zs ++ [t], ?_⟩
        obtain ⟨h1, h2, h3⟩ := H.out
        have k1 := M.val_take_succ (l := xs) hlt
        have k2 := M.val_take_succ (l := z0) HLZ.out
        rw [EX.out] at k1; rw [EZ.out] at k2
        exact ⟨h1.step x z h l s c1 t c2 k1 k2 HMM.out, h2.snoc h1.1 HLZ.out _, h3.setCell (by omega) (by omega) _⟩
      case measure => simp [intOf]; omega
    · have hie : i = xs.length := by omega
      subst hie
      go_wp2
      go_ret
      refine ⟨c, rfl, zs, mkHid ?_⟩
      obtain ⟨⟨h1, h2, h3, h4⟩, h5, h6⟩ := H.out
      have hle := HLE.out
      rw [List.take_of_length_le (Nat.le_refl _), List.take_of_length_le (by omega)] at h4
      rw [← hle, List.drop_length, List.append_nil] at h5
      exact ⟨h1, h2, h3, h4, h5, h6⟩

theorem msc_arith (b p zv c x z d t c' Z X : Nat) (h : zv + d * X = Z + p * c) (e : t + d * x + c = z + b * c') : zv + p * t + d * (X + p * x) = Z + p * z + p * b * c' := by
  have h1 : p * (t + d * x + c) = p * (z + b * c') := by rw [e]
  have h2 : p * (d * x) = d * (p * x) := by rw [← Nat.mul_assoc, ← Nat.mul_assoc, Nat.mul_comm p d]
  simp only [Nat.mul_add] at h1 ⊢
  rw [h2] at h1
  simp only [Nat.mul_assoc] at *
  omega

def MscInv (xs z0 : List Nat) (d i c : Nat) (zs : List Nat) : Prop :=
  zs.length = i ∧ M.Ok zs ∧ c < M.B ∧ M.val zs + d * M.val (xs.take i) = M.val (z0.take i) + M.B ^ i * c

theorem MscInv.step {xs z0 : List Nat} {d i c : Nat} {zs : List Nat} (H : MscInv xs z0 d i c zs) (x z h l s c1 t c2 : Nat) (hx : M.val (xs.take (i + 1)) = M.val (xs.take i) + M.B ^ i * x)
    (hz : M.val (z0.take (i + 1)) = M.val (z0.take i) + M.B ^ i * z) (m : Msc x d c z h l s c1 t c2) : MscInv xs z0 d (i + 1) (h + c1 + c2) (zs ++ [t]) := by
  obtain ⟨h1, h2, h3, h4⟩ := H
  refine ⟨by simp [h1], h2.append (M.Ok.cons m.b3 M.Ok.nil), ?_, ?_⟩
  · have := m.b2; rw [M.B_eq]; omega
  · rw [M.val_snoc, h1, hx, hz, Nat.pow_succ]
    exact msc_arith _ _ _ c x z d t _ _ _ h4 m.e

set_option maxRecDepth 100000 in
set_option maxHeartbeats 1000000 in
theorem subProduct_any (bz oz cz bx ox cx d : Nat) (z0 xs : List Nat) (w : World) (hz : Words w bz oz z0) (hx : Words w bx ox xs) (hne : bx ≠ bz) (hle : z0.length = xs.length)
    (hb : xs.length ≤ 1152921504606846976) (okz : M.Ok z0) (okx : M.Ok xs) (hd : d < M.B) :
    Calls Tryd.prog 78 #[.slice (some ⟨bz, oz, none⟩) xs.length cz, .slice (some ⟨bx, ox, none⟩) xs.length cx, .int .u64 d] w fun e w' => ∃ c : Nat, e = .returned (.int .u64 c) ∧
      ∃ zs, Hid (zs.length = xs.length ∧ M.Ok zs ∧ c < M.B ∧ M.val zs + d * M.val xs = M.val z0 + M.B ^ xs.length * c ∧ Words w' bz oz zs ∧ Wr w w' bz oz (oz + xs.length)) := by
  have HX := Lib.hid hx; clear hx
  have HZ := Lib.hid hz; clear hz
  have OX := Lib.hid okx; clear okx
  have OZ := Lib.hid okz; clear okz
  have HNE := Lib.hid hne; clear hne
  have HD := Lib.hid hd; clear hd
  have HLE := Lib.hid hle; clear hle
  go_enter Tryd.func78, Tryd.ntmps78
  go_wp2
  go_loopw [7, 14] (fun cv iv wr => ∃ i c : Nat, i ≤ xs.length ∧ iv = .int .i64 i ∧ cv = .int .u64 c ∧ ∃ zs, Hid (MscInv xs z0 d i c zs ∧ Words wr bz oz (zs ++ z0.drop i) ∧ Wr w wr bz oz (oz + xs.length)))
    (fun _ iv _ => xs.length - (intOf iv).toNat)
  case atStart => exact ⟨0, 0, by omega, rfl, rfl, [], ⟨rfl, M.Ok.nil, M.B_pos, by simp⟩, by simpa using HZ.out, Wr.refl _ _ _ _⟩
  case round =>
    obtain ⟨i, c, hi, rfl, rfl, zs, H⟩ := hrel
    by_cases hlt : i < xs.length
    · have HLZ : Hid (i < z0.length) := mkHid (by rw [HLE.out]; exact hlt)
      obtain ⟨hcz, hfz⟩ := (H.out.2.1).at H.out.1.1 HLZ.out
      obtain ⟨hcx, -⟩ := ((HX.out).keep H.out.2.2 HNE.out) i hlt
      obtain ⟨x, ex⟩ : ∃ x, xs[i] = x := ⟨_, rfl⟩
      obtain ⟨z, ez⟩ : ∃ z, z0[i]'(HLZ.out) = z := ⟨_, rfl⟩
      rw [ex] at hcx; rw [ez] at hcz
      have EX := Lib.hid ex; have EZ := Lib.hid ez; clear ex ez
      have BX : Hid (x < M.B) := mkHid (by rw [← EX.out]; exact OX.out.get hlt)
      have BZ : Hid (z < M.B) := mkHid (by rw [← EZ.out]; exact OZ.out.get HLZ.out)
      obtain ⟨h, l, s, c1, t, c2, MM⟩ := msc x d c z BX.out HD.out H.out.1.2.2.1 BZ.out
      have HM : Hid (∀ w, Calls Tryd.prog 49 #[.int .u64 x, .int .u64 d] w fun e w' => e = .returned (.tuple #[.int .u64 (h : Int), .int .u64 (l : Int)]) ∧ w' = w) := mkHid fun w => by
        have := Tryd.bits_Mul64 x d BX.out HD.out w
        rwa [MM.eh, MM.el] at this
      have hadd1 := add64_run_c0 l c
      rw [MM.es, MM.ec1] at hadd1
      have hadd2 := sub64_run_b0 z s
      rw [MM.et, MM.ec2] at hadd2
      have b1 := MM.b1
      have b2 := MM.b2
      have HMM := Lib.hid MM; clear MM
      go_wp2_with (go_at_call 49; refine (HM.out _).mono ?_; rintro e w' ⟨rfl, rfl⟩)
      go_roundw
      case rel =>
        refine ⟨i + 1, h + c1 + c2, hlt, by go_num, by go_num, zs ++ [t], ?_⟩
        obtain ⟨h1, h2, h3⟩ := H.out
        have k1 := M.val_take_succ (l := xs) hlt
        have k2 := M.val_take_succ (l := z0) HLZ.out
        rw [EX.out] at k1; rw [EZ.out] at k2
        exact ⟨h1.step x z h l s c1 t c2 k1 k2 HMM.out, h2.snoc h1.1 HLZ.out _, h3.setCell (by omega) (by omega) _⟩
      case measure => simp [intOf]; omega
    · have hie : i = xs.length := by omega
      subst hie
      go_wp2
      go_ret
      refine ⟨c, rfl, zs, mkHid ?_⟩
      obtain ⟨⟨h1, h2, h3, h4⟩, h5, h6⟩ := H.out
      have hle := HLE.out
      rw [List.take_of_length_le (Nat.le_refl _), List.take_of_length_le (by omega)] at h4
      rw [← hle, List.drop_length, List.append_nil] at h5
      exact ⟨h1, h2, h3, h4, h5, h6⟩
end Go.Proofs.YtjdkbbggelpchaaDoor
