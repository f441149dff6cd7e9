/- Contracts, laid one behind the other: Prod Mul Take DivW Scale. -/
import Derived.Test.YtflcdpolfimggaaDoorG1
import Derived.Test.YtflcdpolfimggaaDoorShelf
import Derived.Test.YtflcdpolfimggaaDoorG3
import Derived.Test.YtflcdpolfimggaaDoorG2
namespace Go.Proofs.YtflcdpolfimggaaDoor
open Go.RowKit

theorem prod_le (x d : Nat) (hx : x < 18446744073709551616) (hd : d < 18446744073709551616) : x * d ≤ 340282366920938463426481119284349108225 := by
  have := Nat.mul_le_mul (show x ≤ 18446744073709551615 by omega) (show d ≤ 18446744073709551615 by omega)
  simpa using this

/-- One step of a multiplication. -/
structure Mac (x d c z h l s c1 t c2 : Nat) : Prop where
  eh : x * d / 18446744073709551616 = h
  el : x * d % 18446744073709551616 = l
  es : (l + c) % 18446744073709551616 = s
  ec1 : (l + c) / 18446744073709551616 = c1
  et : (z + s) % 18446744073709551616 = t
  ec2 : (z + s) / 18446744073709551616 = c2
  b1 : h + c1 ≤ 18446744073709551615
  b2 : h + c1 + c2 ≤ 18446744073709551615
  b3 : t < M.B
  e : z + d * x + c = t + M.B * (h + c1 + c2)

theorem mac (x d c z : Nat) (hx : x < M.B) (hd : d < M.B) (hc : c < M.B) (hz : z < M.B) : ∃ h l s c1 t c2, Mac x d c z h l s c1 t c2 := by
  refine ⟨_, _, _, _, _, _, ⟨rfl, rfl, rfl, rfl, rfl, rfl, ?_, ?_, ?_, ?_⟩⟩
  all_goals
    rw [M.B_eq] at *
    have hp := prod_le x d hx hd
    try rw [Nat.mul_comm d x]
    generalize x * d = p at *
    omega

structure Msc (x d c z h l s c1 t c2 : Nat) : Prop where
  eh : x * d / 18446744073709551616 = h
  el : x * d % 18446744073709551616 = l
  es : (l + c) % 18446744073709551616 = s
  ec1 : (l + c) / 18446744073709551616 = c1
  et : dif z s 0 = t
  ec2 : bor z s 0 = c2
  b1 : h + c1 ≤ 18446744073709551615
  b2 : h + c1 + c2 ≤ 18446744073709551615
  b3 : t < M.B
  e : t + d * x + c = z + M.B * (h + c1 + c2)

theorem msc (x d c z : Nat) (hx : x < M.B) (hd : d < M.B) (hc : c < M.B) (hz : z < M.B) : ∃ h l s c1 t c2, Msc x d c z h l s c1 t c2 := by
  have hs : (x * d % 18446744073709551616 + c) % 18446744073709551616 < M.B := Nat.mod_lt _ (by omega)
  have hdb := dif_bor hz hs (Nat.zero_le 1)
  have hdl := dif_lt z ((x * d % 18446744073709551616 + c) % 18446744073709551616) 0
  have hbl := bor_le z ((x * d % 18446744073709551616 + c) % 18446744073709551616) 0
  refine ⟨_, _, _, _, _, _, ⟨rfl, rfl, rfl, rfl, rfl, rfl, ?_, ?_, hdl, ?_⟩⟩
  all_goals
    rw [M.B_eq] at *
    have hp := prod_le x d hx hd
    try rw [Nat.mul_comm d x]
    generalize dif z ((x * d % 18446744073709551616 + c) % 18446744073709551616) 0 = t at *
    generalize bor z ((x * d % 18446744073709551616 + c) % 18446744073709551616) 0 = b at *
    generalize x * d = p at *
    omega

theorem mac_arith (b p zv c x z d t c' Z X : Nat) (h : zv + p * c = Z + d * X) (e : z + d * x + c = t + b * c') : zv + p * t + p * b * c' = Z + p * z + d * (X + p * x) := by
  have h1 : p * (z + d * x + c) = p * (t + b * c') := by rw [e]
  have h2 : p * (d * x) = d * (p * x) := by rw [← Nat.mul_assoc, ← Nat.mul_assoc, Nat.mul_comm p d]
  simp only [Nat.mul_add] at h1 ⊢
  rw [h2] at h1
  simp only [Nat.mul_assoc] at *
  omega

def MacInv (xs z0 : List Nat) (d i c : Nat) (zs : List Nat) : Prop :=
  zs.length = i ∧ M.Ok zs ∧ c < M.B ∧ M.val zs + M.B ^ i * c = M.val (z0.take i) + d * M.val (xs.take i)

theorem MacInv.step {xs z0 : List Nat} {d i c : Nat} {zs : List Nat} (H : MacInv xs z0 d i c zs) (x z h l s c1 t c2 : Nat) (hx : M.val (xs.take (i + 1)) = M.val (xs.take i) + M.B ^ i * x)
    (hz : M.val (z0.take (i + 1)) = M.val (z0.take i) + M.B ^ i * z) (m : Mac x d c z h l s c1 t c2) : MacInv xs z0 d (i + 1) (h + c1 + c2) (zs ++ [t]) := by
  obtain ⟨h1, h2, h3, h4⟩ := H
  refine ⟨by simp [h1], h2.append (M.Ok.cons m.b3 M.Ok.nil), ?_, ?_⟩
  · have := m.b2; rw [M.B_eq]; omega
  · rw [M.val_snoc, h1, hx, hz, Nat.pow_succ]
    exact mac_arith _ _ _ c x z d t _ _ _ h4 m.e

set_option maxRecDepth 100000 in
set_option maxHeartbeats 1000000 in
theorem addProduct_any (bz oz cz bx ox cx d : Nat) (z0 xs : List Nat) (w : World) (hz : Words w bz oz z0) (hx : Words w bx ox xs) (hne : bx ≠ bz) (hle : z0.length = xs.length)
    (hb : xs.length ≤ 1152921504606846976) (okz : M.Ok z0) (okx : M.Ok xs) (hd : d < M.B) :
    Calls Tryd.prog 71 #[.slice (some ⟨bz, oz, none⟩) xs.length cz, .slice (some ⟨bx, ox, none⟩) xs.length cx, .int .u64 d] w fun e w' => ∃ c : Nat, e = .returned (.int .u64 c) ∧
      ∃ zs, Hid (zs.length = xs.length ∧ M.Ok zs ∧ c < M.B ∧ M.val zs + M.B ^ xs.length * c = M.val z0 + d * M.val xs ∧ Words w' bz oz zs ∧ Wr w w' bz oz (oz + xs.length)) := by
  have HX := Lib.hid hx; clear hx
  have HZ := Lib.hid hz; clear hz
  have OX := Lib.hid okx; clear okx
  have OZ := Lib.hid okz; clear okz
  have HNE := Lib.hid hne; clear hne
  have HD := Lib.hid hd; clear hd
  have HLE := Lib.hid hle; clear hle
  go_enter Tryd.func71, Tryd.ntmps71
  go_wp2
  go_loopw [7, 14] (fun cv iv wr => ∃ i c : Nat, i ≤ xs.length ∧ iv = .int .i64 i ∧ cv = .int .u64 c ∧ ∃ zs, Hid (MacInv xs z0 d i c zs ∧ Words wr bz oz (zs ++ z0.drop i) ∧ Wr w wr bz oz (oz + xs.length)))
    (fun _ iv _ => xs.length - (intOf iv).toNat)
  case atStart => exact ⟨0, 0, by omega, rfl, rfl, [], ⟨rfl, M.Ok.nil, M.B_pos, by simp⟩, by simpa using HZ.out, Wr.refl _ _ _ _⟩
  case round =>
    obtain ⟨i, c, hi, rfl, rfl, zs, H⟩ := hrel
    by_cases hlt : i < xs.length
    · have HLZ : Hid (i < z0.length) := mkHid (by rw [HLE.out]; exact hlt)
      obtain ⟨hcz, hfz⟩ := (H.out.2.1).at H.out.1.1 HLZ.out
      obtain ⟨hcx, -⟩ := ((HX.out).keep H.out.2.2 HNE.out) i hlt
      obtain ⟨x, ex⟩ : ∃ x, xs[i] = x := ⟨_, rfl⟩
      obtain ⟨z, ez⟩ : ∃ z, z0[i]'(HLZ.out) = z := ⟨_, rfl⟩
      rw [ex] at hcx; rw [ez] at hcz
      have EX := Lib.hid ex; have EZ := Lib.hid ez; clear ex ez
      have BX : Hid (x < M.B) := mkHid (by rw [← EX.out]; exact OX.out.get hlt)
      have BZ : Hid (z < M.B) := mkHid (by rw [← EZ.out]; exact OZ.out.get HLZ.out)
      obtain ⟨h, l, s, c1, t, c2, MM⟩ := mac x d c z BX.out HD.out H.out.1.2.2.1 BZ.out
      have HM : Hid (∀ w, Calls Tryd.prog 70 #[.int .u64 x, .int .u64 d] w fun e w' => e = .returned (.tuple #[.int .u64 (h : Int), .int .u64 (l : Int)]) ∧ w' = w) := mkHid fun w => by
        have := Tryd.bits_Mul64 x d BX.out HD.out w
        rwa [MM.eh, MM.el] at this
      have hadd1 := add64_run_c0 l c
      rw [MM.es, MM.ec1] at hadd1
      have hadd2 := add64_run_c0 z s
      rw [MM.et, MM.ec2] at hadd2
      have b1 := MM.b1
      have b2 := MM.b2
      have HMM := Lib.hid MM; clear MM
      go_wp2_with (go_at_call 70; refine (HM.out _).mono ?_; rintro e w' ⟨rfl, rfl⟩)
      go_roundw
      case rel =>
        refine ⟨i + 1, h + c1 + c2, hlt, by go_num, by go_num, zs ++ [t], ?_⟩
        obtain ⟨h1, h2, h3⟩ := H.out
        have k1 := M.val_take_succ (l := xs) hlt
        have k2 := M.val_take_succ (l := z0) HLZ.out
        rw [EX.out] at k1; rw [EZ.out] at k2
        exact ⟨h1.step x z h l s c1 t c2 k1 k2 HMM.out, h2.snoc h1.1 HLZ.out _, h3.setCell (by omega) (by omega) _⟩
      case measure => simp [intOf]; omega
    · have hie : i = xs.length := by omega
      subst hie
      go_wp2
      go_ret
      refine ⟨c, rfl, zs, mkHid ?_⟩
      obtain ⟨⟨h1, h2, h3, h4⟩, h5, h6⟩ := H.out
      have hle := HLE.out
      rw [List.take_of_length_le (Nat.le_refl _), List.take_of_length_le (by omega)] at h4
      rw [← hle, List.drop_length, List.append_nil] at h5
      exact ⟨h1, h2, h3, h4, h5, h6⟩

theorem msc_arith (b p zv c x z d t c' Z X : Nat) (h : zv + d * X = Z + p * c) (e : t + d * x + c = z + b * c') : zv + p * t + d * (X + p * x) = Z + p * z + p * b * c' := by
  have h1 : p * (t + d * x + c) = p * (z + b * c') := by rw [e]
  have h2 : p * (d * x) = d * (p * x) := by rw [← Nat.mul_assoc, ← Nat.mul_assoc, Nat.mul_comm p d]
  simp only [Nat.mul_add] at h1 ⊢
  rw [h2] at h1
  simp only [Nat.mul_assoc] at *
  omega

def MscInv (xs z0 : List Nat) (d i c : Nat) (zs : List Nat) : Prop :=
  zs.length = i ∧ M.Ok zs ∧ c < M.B ∧ M.val zs + d * M.val (xs.take i) = M.val (z0.take i) + M.B ^ i * c

theorem MscInv.step {xs z0 : List Nat} {d i c : Nat} {zs : List Nat} (H : MscInv xs z0 d i c zs) (x z h l s c1 t c2 : Nat) (hx : M.val (xs.take (i + 1)) = M.val (xs.take i) + M.B ^ i * x)
    (hz : M.val (z0.take (i + 1)) = M.val (z0.take i) + M.B ^ i * z) (m : Msc x d c z h l s c1 t c2) : MscInv xs z0 d (i + 1) (h + c1 + c2) (zs ++ [t]) := by
  obtain ⟨h1, h2, h3, h4⟩ := H
  refine ⟨by simp [h1], h2.append (M.Ok.cons m.b3 M.Ok.nil), ?_, ?_⟩
  · have := m.b2; rw [M.B_eq]; omega
  · rw [M.val_snoc, h1, hx, hz, Nat.pow_succ]
    exact msc_arith _ _ _ c x z d t _ _ _ h4 m.e

set_option maxRecDepth 100000 in
set_option maxHeartbeats 1000000 in
theorem subProduct_any (bz oz cz bx ox cx d : Nat) (z0 xs : List Nat) (w : World) (hz : Words w bz oz z0) (hx : Words w bx ox xs) (hne : bx ≠ bz) (hle : z0.length = xs.length)
    (hb : xs.length ≤ 1152921504606846976) (okz : M.Ok z0) (okx : M.Ok xs) (hd : d < M.B) :
    Calls Tryd.prog 109 #[.slice (some ⟨bz, oz, none⟩) xs.length cz, .slice (some ⟨bx, ox, none⟩) xs.length cx, .int .u64 d] w fun e w' => ∃ c : Nat, e = .returned (.int .u64 c) ∧
      ∃ zs, Hid (zs.length = xs.length ∧ M.Ok zs ∧ c < M.B ∧ M.val zs + d * M.val xs = M.val z0 + M.B ^ xs.length * c ∧ Words w' bz oz zs ∧ Wr w w' bz oz (oz + xs.length)) := by
  have HX := Lib.hid hx; clear hx
  have HZ := Lib.hid hz; clear hz
  have OX := Lib.hid okx; clear okx
  have OZ := Lib.hid okz; clear okz
  have HNE := Lib.hid hne; clear hne
  have HD := Lib.hid hd; clear hd
  have HLE := Lib.hid hle; clear hle
  go_enter Tryd.func109, Tryd.ntmps109
  go_wp2
  go_loopw [7, 14] (fun cv iv wr => ∃ i c : Nat, i ≤ xs.length ∧ iv = .int .i64 i ∧ cv = .int .u64 c ∧ ∃ zs, Hid (MscInv xs z0 d i c zs ∧ Words wr bz oz (zs ++ z0.drop i) ∧ Wr w wr bz oz (oz + xs.length)))
    (fun _ iv _ => xs.length - (intOf iv).toNat)
  case atStart => exact ⟨0, 0, by omega, rfl, rfl, [], ⟨rfl, M.Ok.nil, M.B_pos, by simp⟩, by simpa using HZ.out, Wr.refl _ _ _ _⟩
  case round =>
    obtain ⟨i, c, hi, rfl, rfl, zs, H⟩ := hrel
    by_cases hlt : i < xs.length
    · have HLZ : Hid (i < z0.length) := mkHid (by rw [HLE.out]; exact hlt)
      obtain ⟨hcz, hfz⟩ := (H.out.2.1).at H.out.1.1 HLZ.out
      obtain ⟨hcx, -⟩ := ((HX.out).keep H.out.2.2 HNE.out) i hlt
      obtain ⟨x, ex⟩ : ∃ x, xs[i] = x := ⟨_, rfl⟩
      obtain ⟨z, ez⟩ : ∃ z, z0[i]'(HLZ.out) = z := ⟨_, rfl⟩
      rw [ex] at hcx; rw [ez] at hcz
      have EX := Lib.hid ex; have EZ := Lib.hid ez; clear ex ez
      have BX : Hid (x < M.B) := mkHid (by rw [← EX.out]; exact OX.out.get hlt)
      have BZ : Hid (z < M.B) := mkHid (by rw [← EZ.out]; exact OZ.out.get HLZ.out)
      obtain ⟨h, l, s, c1, t, c2, MM⟩ := msc x d c z BX.out HD.out H.out.1.2.2.1 BZ.out
      have HM : Hid (∀ w, Calls Tryd.prog 70 #[.int .u64 x, .int .u64 d] w fun e w' => e = .returned (.tuple #[.int .u64 (h : Int), .int .u64 (l : Int)]) ∧ w' = w) := mkHid fun w => by
        have := Tryd.bits_Mul64 x d BX.out HD.out w
        rwa [MM.eh, MM.el] at this
      have hadd1 := add64_run_c0 l c
      rw [MM.es, MM.ec1] at hadd1
      have hadd2 := sub64_run_b0 z s
      rw [MM.et, MM.ec2] at hadd2
      have b1 := MM.b1
      have b2 := MM.b2
      have HMM := Lib.hid MM; clear MM
      go_wp2_with (go_at_call 70; refine (HM.out _).mono ?_; rintro e w' ⟨rfl, rfl⟩)
      go_roundw
      case rel =>
        refine ⟨i + 1, h + c1 + c2, hlt, by go_num, by go_num, zs ++ [t], ?_⟩
        obtain ⟨h1, h2, h3⟩ := H.out
        have k1 := M.val_take_succ (l := xs) hlt
        have k2 := M.val_take_succ (l := z0) HLZ.out
        rw [EX.out] at k1; rw [EZ.out] at k2
        exact ⟨h1.step x z h l s c1 t c2 k1 k2 HMM.out, h2.snoc h1.1 HLZ.out _, h3.setCell (by omega) (by omega) _⟩
      case measure => simp [intOf]; omega
    · have hie : i = xs.length := by omega
      subst hie
      go_wp2
      go_ret
      refine ⟨c, rfl, zs, mkHid ?_⟩
      obtain ⟨⟨h1, h2, h3, h4⟩, h5, h6⟩ := H.out
      have hle := HLE.out
      rw [List.take_of_length_le (Nat.le_refl _), List.take_of_length_le (by omega)] at h4
      rw [← hle, List.drop_length, List.append_nil] at h5
      exact ⟨h1, h2, h3, h4, h5, h6⟩
end Go.Proofs.YtflcdpolfimggaaDoor
namespace Go.Proofs.YtflcdpolfimggaaDoor
open Go.RowKit

set_option maxRecDepth 100000 in
set_option maxHeartbeats 1000000 in
theorem mul_small (a b : Nat) (w : World) (ha : a < M.B) (hb : b < M.B) (h : a * b < M.B) :
    Calls Tryd.prog 44 #[natV a, natV b] w fun e w' => e = .returned (natV (a * b)) ∧ Below w.heap.size w w' := by
  have CB := mkHid (fun W => bothSmall_any a b W)
  have CO := mkHid (fun W => of_any (a * b) W h)
  rw [decide_eq_true (show a < M.B ∧ b < M.B from ⟨ha, hb⟩)] at CB
  have CA := mkHid (fun W => Tryd.bits_Mul64 a b ha hb W)
  rw [Nat.mod_eq_of_lt (show a * b < 18446744073709551616 from h), Nat.div_eq_of_lt (show a * b < 18446744073709551616 from h)] at CA
  unfold natV at CB CO ⊢
  rw [Nat.mod_eq_of_lt ha, Nat.mod_eq_of_lt hb] at CB ⊢
  clear h ha hb
  generalize hs a = h1 at *
  generalize hs b = h2 at *
  generalize hs (a * b) = h3 at *
  generalize (a * b) % M.B = l3 at *
  generalize a * b = s at *
  go_enter Tryd.func44, Tryd.ntmps44
  go_wp2_with (first
    | (go_at_call 51; refine (CB.out _).mono ?_; rintro e w1 ⟨rfl, hb⟩; have HB1 : Hid (Below (w.heap.size + 1 + 1 + 1) (World.box3 w a b h1 h2) w1) := mkHid (hb.mono (by simp)); obtain ⟨ha10, ha11, haf10, haf11⟩ := (box3_a w a b h1 h2).below HB1.out (by omega); obtain ⟨hb10, hb11, hbf10, hbf11⟩ := (box3_b w a b h1 h2).below HB1.out (by omega); clear hb)
    | (go_at_call 70; refine (CA.out _).mono ?_; rintro e w' ⟨rfl, rfl⟩)
    | (go_at_call 37; refine (CO.out _).mono ?_; rintro e w2 ⟨rfl, hb⟩; have HB2 : Hid (Below (w.heap.size + 1 + 1 + 1) (World.box3 w a b h1 h2) w2) := mkHid (HB1.out.trans (hb.mono (by have := HB1.out.size; rw [box3_size] at this; exact this))); clear hb; obtain ⟨h10, h11, hf10, hf11⟩ := (box3_c w a b h1 h2).below HB2.out (by omega)))
  refine bodyPost_ret (v := .agg #[.int .u64 (l3 : Int), .string h3]) (by simp [results, Tryd.results44, go_sem, h10, h11]) rfl ⟨rfl, ?_⟩
  exact setCells_below ((box3_below w a b h1 h2).trans (HB2.out.mono (by omega))) _ (by omega) _ _

theorem wr_past {w W w' : World} {b lo hi : Nat} (h : Wr W w' b lo hi) (hW : Drawn w W) : Wr w w' b lo hi := by
  obtain ⟨e, e1, e2, e3⟩ := hW
  exact ⟨h.os.trans e1, h.tape.trans e2, h.output.trans e3, by rw [← e]; exact h.size, fun k hk hb => by rw [← e] at hk ⊢; exact h.block k hk hb, fun cur t fr hc => by rw [← e] at hc; exact h.own cur t fr hc⟩
theorem words_past {w W : World} {b off : Nat} {l : List Nat} (h : Words w b off l) (hW : Drawn w W) : Words W b off l := h.ofBlock fun _ => by rw [hW.1]
theorem mul_step {s zs x : List Nat} {i ln c d V vt vs : Nat} (hs : s.length = i + ln) (hz : zs.length = ln) (e : M.val zs + M.B ^ ln * c = M.val (s.drop i) + d * M.val x)
    (hv : M.val s = M.val x * vt) (hV : V = vt + M.B ^ i * d) (hvs : vs = M.val (s.take i ++ (zs ++ [c]))) : vs = M.val x * V := by
  subst hvs hV
  have h1 := M.val_take_drop s i (by omega)
  rw [M.val_append, M.val_snoc, hz, e, List.length_take, Nat.min_eq_left (by omega), Nat.mul_add, ← Nat.add_assoc, ← h1, hv, Nat.mul_add]
  generalize M.B ^ i = P
  generalize M.val x = X
  congr 1
  ac_rfl

theorem mul_rel {w6 wr w5 : World} {pb ln lm i c d : Nat} {s zs xs ys : List Nat} (hlt : i < lm)
    (T : s.length = i + ln ∧ M.Ok s ∧ M.val s = M.val xs * M.val (ys.take i) ∧ Words wr pb 0 (s ++ List.replicate (lm - i) 0) ∧ Wr w6 wr pb 0 (ln + lm))
    (R1 : zs.length = ln) (R2 : M.Ok zs) (R3 : c < M.B) (R4 : M.val zs + M.B ^ ln * c = M.val (s.drop i) + d * M.val xs) (R5 : Words w5 pb i zs) (hw : Wr wr w5 pb i (i + ln))
    (hz : Words w5 pb (i + ln) (0 :: List.replicate (lm - (i + 1)) 0)) (hvt : M.val (ys.take (i + 1)) = M.val (ys.take i) + M.B ^ i * d) :
    (s.take i ++ (zs ++ [c])).length = i + 1 + ln ∧ M.Ok (s.take i ++ (zs ++ [c])) ∧ M.val (s.take i ++ (zs ++ [c])) = M.val xs * M.val (ys.take (i + 1)) ∧
      Words (w5.setCell ⟨pb, i + ln, none⟩ (.int .u64 (c : Int))) pb 0 ((s.take i ++ (zs ++ [c])) ++ List.replicate (lm - (i + 1)) 0) ∧ Wr w6 (w5.setCell ⟨pb, i + ln, none⟩ (.int .u64 (c : Int))) pb 0 (ln + lm) := by
  obtain ⟨h1, h2, h3, h4, h5⟩ := T
  have ht : (s.take i).length = i := by rw [List.length_take]; omega
  refine ⟨?_, (h2.take i).append (R2.append (M.Ok.cons R3 M.Ok.nil)), mul_step h1 R1 R4 h3 hvt rfl, ?_, ?_⟩
  · simp only [List.length_append, ht, R1, List.length_cons, List.length_nil]; omega
  · have a1 : Words w5 pb 0 (s.take i) := (h4.left.take i).keepOut hw (by left; omega)
    have a2 : Words w5 pb (0 + (s.take i).length) zs := by rw [ht, Nat.zero_add]; exact R5
    have a3 := a1.append a2
    have hl : (s.take i ++ zs).length = i + ln := by rw [List.length_append, ht, R1]
    have a4 : Words w5 pb 0 ((s.take i ++ zs) ++ 0 :: List.replicate (lm - (i + 1)) 0) := a3.append (by rw [hl, Nat.zero_add]; exact hz)
    have a5 := a4.setMid hl c
    rw [Nat.zero_add] at a5
    simpa using a5
  · exact (h5.trans (hw.mono (Nat.zero_le _) (by omega))).setCell (Nat.zero_le _) (by omega) _

set_option maxRecDepth 100000 in
set_option maxHeartbeats 2000000 in
theorem mul_main (a b : Nat) (w : World) (hnot : ¬ (a < M.B ∧ b < M.B ∧ a * b < M.B)) (la : (M.dig a).length ≤ 45000) (lb : (M.dig b).length ≤ 45000) :
    Calls Tryd.prog 44 #[natV a, natV b] w fun e w' => e = .returned (natV (a * b)) ∧ Below w.heap.size w w' := by
  have CB := mkHid (fun W => bothSmall_any a b W)
  obtain ⟨bs, hbs⟩ : ∃ bs, decide (a < M.B ∧ b < M.B) = bs := ⟨_, rfl⟩
  rw [hbs] at CB
  obtain ⟨hi, hhi⟩ : ∃ hi, (a % M.B) * (b % M.B) / 18446744073709551616 = hi := ⟨_, rfl⟩
  obtain ⟨lo, hlo⟩ : ∃ lo, (a % M.B) * (b % M.B) % 18446744073709551616 = lo := ⟨_, rfl⟩
  have CA := mkHid (fun W => Tryd.bits_Mul64 (a % M.B) (b % M.B) (Nat.mod_lt _ M.B_pos) (Nat.mod_lt _ M.B_pos) W)
  rw [hhi, hlo] at CA
  have hcar : Hid (bs = true → ¬ hi = 0) := mkHid fun hb h0 => by
    subst hb
    have := of_decide_eq_true hbs
    rw [Nat.mod_eq_of_lt this.1, Nat.mod_eq_of_lt this.2, h0, ← M.B_eq] at hhi
    exact hnot ⟨this.1, this.2, (Nat.div_eq_zero_iff_lt M.B_pos).1 hhi⟩
  have CWA := mkHid (fun W => words_any a W (by omega))
  have CWB := mkHid (fun W => words_any b W (by omega))
  have CP := mkHid (fun (b cap : Nat) (l : List Nat) (W : World) (hw : Row W b cap l) (hl : l.length ≤ 100000) (okl : M.Ok l) => pack_any b cap l W hw hl okl)
  have HV : Hid (∀ zs : List Nat, M.val zs = M.val (M.dig a) * M.val (M.dig b) → natV (M.val zs) = natV (a * b)) := mkHid (fun zs h => by rw [h, M.val_dig, M.val_dig])
  have OA := mkHid (M.ok_dig a)
  have OB := mkHid (M.ok_dig b)
  obtain ⟨ln, hln⟩ : ∃ ln, (M.dig a).length = ln := ⟨_, rfl⟩
  obtain ⟨lm, hlm⟩ : ∃ lm, (M.dig b).length = lm := ⟨_, rfl⟩
  have hpos : 1 ≤ ln + lm := by
    apply Classical.byContradiction
    intro hc
    have h1 : M.dig a = [] := List.eq_nil_of_length_eq_zero (by omega)
    have h2 : M.dig b = [] := List.eq_nil_of_length_eq_zero (by omega)
    have h3 := M.dig_eq_nil.1 h1
    have h4 := M.dig_eq_nil.1 h2
    subst h3 h4
    exact hnot ⟨M.B_pos, M.B_pos, M.B_pos⟩
  rw [hln] at CWA la
  rw [hlm] at CWB lb
  have HLN := mkHid hln
  have HLM := mkHid hlm
  obtain ⟨i0, hi0, hz0, hz1, hz2⟩ := info_parts info64
  have hi' := Lib.hid hi0; have hz0' := Lib.hid hz0; have hz1' := Lib.hid hz1; have hz2' := Lib.hid hz2; clear hi0 hz0 hz1 hz2
  unfold natV at CB CWA CWB HV ⊢
  clear hbs hhi hlo hnot hln hlm
  generalize a % M.B = al at *
  generalize b % M.B = bl at *
  generalize hs a = ah at *
  generalize hs b = bh at *
  generalize hs (a * b) = sh at *
  generalize (a * b) % M.B = sl at *
  generalize M.dig a = xs at *
  generalize M.dig b = ys at *
  go_enter Tryd.func44, Tryd.ntmps44
  go_upto_if 14 with (go_at_call 51; refine (CB.out _).mono ?_; rintro e w1 ⟨rfl, hb⟩; have HB1 : Hid (Below (w.heap.size + 1 + 1 + 1) (World.box3 w al bl ah bh) w1) := mkHid (hb.mono (by simp)); clear hb)
  obtain ⟨ha10, ha11, haf10, haf11⟩ := (box3_a w al bl ah bh).below HB1.out (by omega)
  obtain ⟨hb10, hb11, hbf10, hbf11⟩ := (box3_b w al bl ah bh).below HB1.out (by omega)
  go_cut [] (fun wx => Below (w.heap.size + 1 + 1 + 1) (World.box3 w al bl ah bh) wx)
  case first =>
    rcases bs with _ | _
    · go_wp2
      go_meet
      exact HB1.out
    · have hc0 : ¬ (hi : Int) = 0 := by have := hcar.out rfl; omega
      go_wp2_with (go_at_call 70; refine (CA.out _).mono ?_; rintro e w' ⟨rfl, rfl⟩)
      go_meet
      exact HB1.out
  case rest =>
    have HB2 := mkHid hcut
    have HS2 := mkHid HB2.out.size
    rw [box3_size] at HS2
    have HC : Hid (At2 wc (w.heap.size + 1 + 1) 0 ⟨#[]⟩ ∧ Below w.heap.size w wc ∧ w.heap.size + 1 + 1 + 1 ≤ wc.heap.size) := mkHid ⟨(box3_c w al bl ah bh).below HB2.out (by omega), (box3_below w al bl ah bh).trans (HB2.out.mono (by omega)), HS2.out⟩
    have HBX : Hid (At2 wc (w.heap.size + 1) bl bh) := mkHid ((box3_b w al bl ah bh).below HB2.out (by omega))
    clear ha10 ha11 haf10 haf11 hb10 hb11 hbf10 hbf11 hcut HB1 CB CA hcar
    obtain ⟨ha10, ha11, haf10, haf11⟩ := (box3_a w al bl ah bh).below HB2.out (by omega)
    obtain ⟨hb10, hb11, hbf10, hbf11⟩ := (box3_b w al bl ah bh).below HB2.out (by omega)
    go_upto_region 5 with fail
    go_cut [7, 8] (fun v7 v8 wx => ∃ bx cx by' cy, v7 = .slice (some ⟨bx, 0, none⟩) ln cx ∧ v8 = .slice (some ⟨by', 0, none⟩) lm cy ∧ Hid (At2 wx (w.heap.size + 1 + 1) 0 ⟨#[]⟩ ∧ Below w.heap.size w wx ∧ w.heap.size + 1 + 1 + 1 ≤ wx.heap.size ∧ w.heap.size + 1 + 1 + 1 ≤ bx ∧ bx < by' ∧ Row wx bx cx xs ∧ Row wx by' cy ys))
    case first =>
      go_region_with (first
        | (go_at_call_of 55 (Value.agg #[.int .u64 (al : Int), .string ah]); refine (CWA.out _).mono ?_; rintro e w3 ⟨bx, cx, rfl, H3⟩; obtain ⟨h30, h31, hf30, hf31⟩ := HBX.out.past H3.out.2.2.1 ⟨rfl, rfl, rfl, rfl⟩)
        | (go_at_call_of 55 (Value.agg #[.int .u64 (bl : Int), .string bh]); refine (CWB.out _).mono ?_; rintro e w4 ⟨by', cy, rfl, H4⟩))
      all_goals (go_wp2_with fail; go_meet; refine ⟨bx, cx, by', cy, rfl, rfl, mkHid (two_words HC.out H3.out ⟨rfl, rfl, rfl, rfl⟩ H4.out ⟨rfl, rfl, rfl, rfl⟩)⟩)
    case rest =>
      obtain ⟨bx, cx, by', cy, rfl, rfl, H⟩ := hcut
      clear HC HBX HB2 HS2 ha10 ha11 haf10 haf11 hb10 hb11 hbf10 hbf11 CWA CWB
      have hcl : (ln : Int) ≤ 45000 := by omega
      have hcm : (lm : Int) ≤ 45000 := by omega
      go_wp2_with (at_make; refine wpList_make_full _ rfl _ _ 76 rfl wc.heap.size 22 i0 (.int .u64 0) 1 Tryd.underlying76 hi'.out hz0'.out hz1'.out _ _ _ _ (ln + lm) rfl rfl (by omega) (by omega) ?bytes ?maxl ?base ?_)
      case bytes => rw [hz2'.out]; omega
      case maxl => unfold maxLen; omega
      case base => exact Nat.le_refl _
      intro w6 hown hgrow
      have HR : Hid (Row w6 wc.heap.size (ln + lm) (List.replicate (ln + lm) 0)) := mkHid (Row.made hown (by omega))
      have HB1 : Hid (Below wc.heap.size wc w6) := mkHid (below_grown hgrow (Nat.le_refl _))
      clear hown hgrow hi' hz0' hz1' hz2'
      have HX6 := mkHid (H.out.2.2.2.2.2.1.grows HB1.out)
      have HY6 := mkHid (H.out.2.2.2.2.2.2.grows HB1.out)
      have HNE : Hid (bx ≠ wc.heap.size ∧ by' ≠ wc.heap.size) := mkHid (by have h1 := H.out.2.2.2.2.2.2.lt; have h2 := H.out.2.2.2.2.1; omega)
      obtain ⟨pb, hpb⟩ : ∃ pb, wc.heap.size = pb := ⟨_, rfl⟩
      rw [hpb] at HR HNE
      have HPB := mkHid hpb
      go_wp2
      rw [hpb]
      clear hpb
      go_loopw [39] (fun iv wr => ∃ i : Nat, i ≤ lm ∧ iv = .int .i64 i ∧ ∃ s, Hid (s.length = i + ln ∧ M.Ok s ∧ M.val s = M.val xs * M.val (ys.take i) ∧ Words wr pb 0 (s ++ List.replicate (lm - i) 0) ∧ Wr w6 wr pb 0 (ln + lm)))
        (fun iv _ => lm - (intOf iv).toNat)
      case atStart => exact ⟨0, Nat.zero_le _, rfl, List.replicate ln 0, by simp, M.Ok.zeros _, by rw [M.val_zeros, List.take_zero]; rfl, by rw [List.replicate_append_replicate]; exact HR.out.words, Wr.refl _ _ _ _⟩
      case round =>
        obtain ⟨i, hi2, rfl, s, T⟩ := hrel
        by_cases hlt : i < lm
        · have hiy : i < ys.length := by rw [HLM.out]; exact hlt
          obtain ⟨d, hd⟩ : ∃ d, ys[i] = d := ⟨_, rfl⟩
          have hdB : d < M.B := by rw [← hd]; exact OB.out.get hiy
          have hyc := ((HY6.out.keep T.out.2.2.2.2 HNE.out.2).words i hiy).1
          rw [hd, Nat.zero_add] at hyc
          have HVT := mkHid (M.val_take_succ hiy)
          rw [hd] at HVT
          have CA : Hid (∀ W, Drawn wr W → Calls Tryd.prog 71 #[.slice (some ⟨pb, i, none⟩) ln (ln + lm - i), .slice (some ⟨bx, 0, none⟩) ln cx, .int .u64 (d : Int)] W fun e w' => ∃ c : Nat, e = .returned (.int .u64 c) ∧
              ∃ zs, Hid (zs.length = ln ∧ M.Ok zs ∧ c < M.B ∧ M.val zs + M.B ^ ln * c = M.val (s.drop i) + d * M.val xs ∧ Words w' pb i zs ∧ Wr W w' pb i (i + ln))) := mkHid fun W hW => by
            have h := addProduct_any pb i (ln + lm - i) bx 0 cx d (s.drop i) xs W (words_past (by have := T.out.2.2.2.1.left.drop i; rwa [Nat.zero_add] at this) hW) (words_past (HX6.out.keep T.out.2.2.2.2 HNE.out.1).words hW) HNE.out.1 (by rw [List.length_drop, T.out.1, HLN.out]; omega) (by rw [HLN.out]; omega) (T.out.2.1.drop i) OA.out hdB
            rwa [HLN.out] at h
          have HZ : Hid (∀ w5, Wr wr w5 pb i (i + ln) → (w5.cell? ⟨pb, i + ln, none⟩ = some (.int .u64 ((0 : Nat) : Int)) ∧ w5.frozen? ⟨pb, i + ln, none⟩ = false) ∧ Words w5 pb (i + ln) (0 :: List.replicate (lm - (i + 1)) 0)) := mkHid fun w5 hw5 => by
            have h1 := T.out.2.2.2.1.right
            rw [Nat.zero_add, T.out.1, show lm - i = (lm - (i + 1)) + 1 by omega, List.replicate_succ] at h1
            have h2 := h1.keepOut hw5 (by right; exact Nat.le_refl _)
            exact ⟨h2 0 (by simp), h2⟩
          clear hd hdB hiy
          have hil : (i : Int) ≤ 45000 := by omega
          go_wp2_with fail
          go_region_with (first
            | (go_at_call 71; refine (CA.out wr.drew ⟨rfl, rfl, rfl, rfl⟩).mono ?_; rintro e w5 ⟨c, rfl, zs, R⟩; go_loud (have R2 := mkHid (wr_past (w := wr) R.out.2.2.2.2.2 ⟨rfl, rfl, rfl, rfl⟩); obtain ⟨hz0, hzf⟩ := (HZ.out _ R2.out).1)))
          all_goals go_wp2_with fail
          all_goals go_roundw
          case measure => simp [intOf]; omega
          case measure => simp [intOf]; omega
          case rel => exact ⟨i + 1, by omega, by go_num, _, mkHid (mul_rel hlt T.out R.out.1 R.out.2.1 R.out.2.2.1 R.out.2.2.2.1 R.out.2.2.2.2.1 R2.out (HZ.out _ R2.out).2 HVT.out)⟩
          case rel => exact ⟨i + 1, by omega, by go_num, _, mkHid (mul_rel hlt T.out R.out.1 R.out.2.1 R.out.2.2.1 R.out.2.2.2.1 R.out.2.2.2.2.1 R2.out (HZ.out _ R2.out).2 HVT.out)⟩
        · have hie : i = lm := by omega
          subst hie
          have RS := mkHid (HR.out.after T.out.2.2.2.2 (by have := T.out.2.2.2.1; rwa [Nat.sub_self, List.replicate_zero, List.append_nil] at this) (by rw [T.out.1, Nat.add_comm]; exact Nat.le_refl _))
          have CPZ := mkHid (fun W hw => CP.out pb (ln + i) s W hw (by rw [T.out.1]; omega) T.out.2.1)
          have HZV := HV.out s (by rw [T.out.2.2.1, List.take_of_length_le (by rw [HLM.out]; exact Nat.le_refl _)])
          have HZL := T.out.1
          unfold natV at CPZ
          rw [HZV, HZL, Nat.add_comm i ln] at CPZ
          clear HZV HZL
          have BB := mkHid (T.out.2.2.2.2.toBelow (B := wc.heap.size) (by rw [HPB.out]; exact Nat.le_refl _) HB1.out.size)
          have HB5 := mkHid (below_past H.out.2.1 (HB1.out.trans BB.out) ⟨rfl, rfl, rfl, rfl⟩ H.out.2.1.size)
          have HA5 := mkHid (H.out.1.past (HB1.out.trans BB.out) ⟨rfl, rfl, rfl, rfl⟩)
          go_wp2_with (go_at_call 53; refine (CPZ.out _ RS.out).mono ?_; rintro e w7 ⟨rfl, hb⟩; have HB6 := mkHid hb; obtain ⟨h10, h11, hf10, hf11⟩ := HA5.out.past hb ⟨rfl, rfl, rfl, rfl⟩; clear hb)
          refine bodyPost_ret (v := .agg #[.int .u64 (sl : Int), .string sh]) (by simp [results, Tryd.results44, go_sem, h10, h11]) rfl ⟨rfl, ?_⟩
          exact setCells_below (below_past HB5.out HB6.out ⟨rfl, rfl, rfl, rfl⟩ HB5.out.size) _ (by omega) _ _

theorem mul_any (a b : Nat) (w : World) (la : (M.dig a).length ≤ 45000) (lb : (M.dig b).length ≤ 45000) :
    Calls Tryd.prog 44 #[natV a, natV b] w fun e w' => e = .returned (natV (a * b)) ∧ Below w.heap.size w w' := by
  by_cases h : a < M.B ∧ b < M.B ∧ a * b < M.B
  · exact mul_small a b w h.1 h.2.1 h.2.2
  · exact mul_main a b w h la lb

end Go.Proofs.YtflcdpolfimggaaDoor
namespace Go.Proofs.YtflcdpolfimggaaDoor
open Go.RowKit

/-- The three highest words and the rest. -/
theorem est_bounds (B N3 r2 d1 D2 P r' d' R D e Q : Nat) (hB : 4 ≤ B) (hR : R = N3 * P + r') (hD : D = D2 * P + d') (hr : r' < P) (hd : d' < P) (hQ : Q * D ≤ R) (hQ2 : R < (Q + 1) * D) (hlt : R < D * B)
    (hN : r2 * (B * B) ≤ N3) (hD2 : d1 * B ≤ D2) (hD3 : D2 + 1 ≤ (d1 + 1) * B) (hnorm : B ≤ 2 * d1)
    (he : (r2 = d1 ∧ e = B - 1) ∨ (r2 ≠ d1 ∧ e = N3 / D2 ∧ e < B)) : Q ≤ e ∧ e ≤ Q + 1 := by
  have hP : 0 < P := by omega
  have hD2pos : 0 < D2 := by
    have : 1 * B ≤ d1 * B := Nat.mul_le_mul_right B (by omega)
    omega
  have hDpos : 0 < D := by
    rw [hD]; have := Nat.mul_pos hD2pos hP; omega
  have hQB : Q < B := by
    apply Nat.lt_of_mul_lt_mul_right (a := D)
    calc Q * D ≤ R := hQ
      _ < D * B := hlt
      _ = B * D := Nat.mul_comm _ _
  -- D < (D2 + 1) P, R < (N3 + 1) P
  have hDu : D < (D2 + 1) * P := by rw [hD, Nat.add_mul, Nat.one_mul]; omega
  have hRu : R < (N3 + 1) * P := by rw [hR, Nat.add_mul, Nat.one_mul]; omega
  have hDl : D2 * P ≤ D := by omega
  have hRl : N3 * P ≤ R := by omega
  rcases he with ⟨h1, h2⟩ | ⟨h1, h2, h3⟩
  · refine ⟨by omega, ?_⟩
    -- Q + 2 >= B
    apply Nat.le_of_not_lt; intro hgt
    have hQs : Q + 1 ≤ B - 2 := by omega
    have a1 : R < (B - 2) * D := Nat.lt_of_lt_of_le hQ2 (Nat.mul_le_mul_right D hQs)
    have a2 : (B - 2) * D ≤ (B - 2) * ((D2 + 1) * P) := Nat.mul_le_mul_left _ (Nat.le_of_lt hDu)
    have a3 : (B - 2) * ((D2 + 1) * P) ≤ (B - 2) * (((d1 + 1) * B) * P) := Nat.mul_le_mul_left _ (Nat.mul_le_mul_right P hD3)
    have a4 : d1 * (B * B) * P ≤ R := Nat.le_trans (Nat.mul_le_mul_right P (by rw [← h1]; exact hN)) hRl
    have a5 : d1 * (B * B) * P < (B - 2) * (((d1 + 1) * B) * P) := by omega
    have a6 : (B - 2) * (((d1 + 1) * B) * P) = (B - 2) * (d1 + 1) * B * P := by simp only [Nat.mul_assoc]
    have a7 : d1 * (B * B) * P = d1 * B * B * P := by simp only [Nat.mul_assoc]
    rw [a6, a7] at a5
    have a8 := Nat.lt_of_mul_lt_mul_right (Nat.lt_of_mul_lt_mul_right a5)
    obtain ⟨c, hc⟩ : ∃ c, B = c + 2 := ⟨B - 2, by omega⟩
    subst hc
    rw [Nat.add_sub_cancel, Nat.mul_add, Nat.mul_add, Nat.mul_comm d1 c] at a8
    omega
  · constructor
    · rw [h2, Nat.le_div_iff_mul_le hD2pos]
      have b1 : Q * D2 * P < (N3 + 1) * P := by
        calc Q * D2 * P = Q * (D2 * P) := Nat.mul_assoc _ _ _
          _ ≤ Q * D := Nat.mul_le_mul_left _ hDl
          _ ≤ R := hQ
          _ < (N3 + 1) * P := hRu
      have := Nat.lt_of_mul_lt_mul_right b1
      omega
    · apply Nat.le_of_not_lt; intro hgt
      have c0 : e * D2 ≤ N3 := by rw [h2]; exact Nat.div_mul_le_self _ _
      have c1 : R < (e - 1) * D := Nat.lt_of_lt_of_le hQ2 (Nat.mul_le_mul_right D (by omega))
      have c2 : (e - 1) * D ≤ (e - 1) * ((D2 + 1) * P) := Nat.mul_le_mul_left _ (Nat.le_of_lt hDu)
      have c3 : e * D2 * P ≤ R := Nat.le_trans (Nat.mul_le_mul_right P c0) hRl
      have c4 : e * D2 * P < (e - 1) * (D2 + 1) * P := by rw [Nat.mul_assoc (e - 1)]; omega
      have c5 := Nat.lt_of_mul_lt_mul_right c4
      obtain ⟨c, hc⟩ : ∃ c, e = c + 1 := ⟨e - 1, by omega⟩
      rw [hc, Nat.add_sub_cancel, Nat.add_mul, Nat.mul_add] at c5
      have hDB : B ≤ D2 := by
        have : 1 * B ≤ d1 * B := Nat.mul_le_mul_right B (by omega)
        omega
      omega

/-- A digit that is right, or one too high. -/
theorem take_right (Bn zs e D R0 c rn R : Nat) (hR : R = R0 + Bn * rn) (h : zs + e * D = R0 + Bn * c) (hz : zs < Bn) (hle : e * D ≤ R) (hD : D ≤ Bn) (hlt : R < (e + 1) * D) : c = rn ∧ zs = R - e * D := by
  have h1 : R < e * D + D := by rw [Nat.add_mul, Nat.one_mul] at hlt; exact hlt
  have h2 : c = rn := by
    rcases Nat.lt_trichotomy c rn with h3 | h3 | h3
    · have := Nat.mul_le_mul_left Bn (show c + 1 ≤ rn by omega)
      rw [Nat.mul_add] at this; omega
    · exact h3
    · have := Nat.mul_le_mul_left Bn (show rn + 1 ≤ c by omega)
      rw [Nat.mul_add] at this; omega
  subst h2
  exact ⟨rfl, by omega⟩
theorem take_high (Bn zs e D R0 c rn R : Nat) (hR : R = R0 + Bn * rn) (h : zs + (e + 1) * D = R0 + Bn * c) (hz : zs < Bn) (hle : e * D ≤ R) (hD : D ≤ Bn) (hlt : R < (e + 1) * D) : rn < c ∧ (zs + D) % Bn = R - e * D := by
  have h1 : R < e * D + D := by rw [Nat.add_mul, Nat.one_mul] at hlt; exact hlt
  rw [Nat.add_mul, Nat.one_mul] at h
  have h2 : rn < c := by
    apply Nat.lt_of_not_le; intro h3
    have := Nat.mul_le_mul_left Bn h3
    omega
  refine ⟨h2, ?_⟩
  obtain ⟨k, rfl⟩ := Nat.exists_eq_add_of_le (show rn + 1 ≤ c from h2)
  rw [Nat.mul_add, Nat.mul_add, Nat.mul_one] at h
  have h3 : k = 0 := by
    rcases Nat.eq_zero_or_pos k with h4 | h4
    · exact h4
    · have := Nat.mul_le_mul_left Bn h4; rw [Nat.mul_one] at this; omega
  subst h3
  have h4 : zs + D = Bn + (R - e * D) := by rw [Nat.mul_zero] at h; omega
  rw [h4, Nat.add_mod_left, Nat.mod_eq_of_lt (by omega)]

theorem val_two (p : List Nat) (a b : Nat) : M.val (p ++ [a, b]) = (b * M.B + a) * M.B ^ p.length + M.val p := by
  rw [M.val_append, M.val_cons, M.val_cons, M.val_nil, Nat.mul_zero, Nat.add_zero, Nat.mul_comm, Nat.add_comm (M.val p), Nat.mul_comm M.B b, Nat.add_comm a]
theorem val_three (p : List Nat) (a b c : Nat) : M.val (p ++ [a, b, c]) = ((c * M.B + b) * M.B + a) * M.B ^ p.length + M.val p := by
  rw [M.val_append, M.val_cons, M.val_cons, M.val_cons, M.val_nil, Nat.mul_zero, Nat.add_zero, Nat.mul_comm, Nat.add_comm (M.val p), Nat.mul_comm M.B c, Nat.add_comm b, Nat.mul_comm M.B (c * M.B + b), Nat.add_comm a]

theorem est_fits (r0 r1 r2 d0 d1 : Nat) (h0 : r0 < M.B) (h1 : r1 < M.B) (h2 : r2 ≤ d1) (hd : 0 < d1) :
    (r2 = d1 ∧ est r0 r1 r2 d0 d1 = M.B - 1) ∨ (r2 ≠ d1 ∧ est r0 r1 r2 d0 d1 = ((r2 * M.B + r1) * M.B + r0) / (d1 * M.B + d0) ∧ est r0 r1 r2 d0 d1 < M.B) := by
  unfold est
  by_cases h : r2 = d1
  · left; rw [if_pos h]; exact ⟨h, by rw [M.B_eq]⟩
  · right
    rw [if_neg h, ← M.B_eq]
    refine ⟨h, rfl, ?_⟩
    have hB := M.B_pos
    have hD : 0 < d1 * M.B + d0 := by have := Nat.mul_pos hd hB; omega
    rw [Nat.div_lt_iff_lt_mul hD]
    have a1 := Nat.mul_le_mul_right M.B (show r2 + 1 ≤ d1 by omega)
    have a2 := Nat.mul_le_mul_right M.B (show r2 * M.B + r1 + 1 ≤ d1 * M.B by rw [Nat.add_mul, Nat.one_mul] at a1; omega)
    have a3 : M.B * (d1 * M.B + d0) = d1 * M.B * M.B + M.B * d0 := by rw [Nat.mul_add, Nat.mul_comm M.B (d1 * M.B)]
    rw [Nat.add_mul, Nat.one_mul] at a2
    omega

/-- The estimate is the digit or one more. -/
theorem est_digit (lp dp : List Nat) (r0 r1 r2 d0 d1 : Nat) (hlen : lp.length = dp.length) (okl : M.Ok (lp ++ [r0, r1, r2])) (okd : M.Ok (dp ++ [d0, d1])) (hn : M.B ≤ 2 * d1)
    (hlt : M.val (lp ++ [r0, r1, r2]) < M.val (dp ++ [d0, d1]) * M.B) :
    r2 ≤ d1 ∧ est r0 r1 r2 d0 d1 < M.B ∧ (est r0 r1 r2 d0 d1 = M.val (lp ++ [r0, r1, r2]) / M.val (dp ++ [d0, d1]) ∨ est r0 r1 r2 d0 d1 = M.val (lp ++ [r0, r1, r2]) / M.val (dp ++ [d0, d1]) + 1) := by
  have hB := M.B_pos
  have h4 : 4 ≤ M.B := by rw [M.B_eq]; omega
  have br0 : r0 < M.B := okl r0 (by simp)
  have br1 : r1 < M.B := okl r1 (by simp)
  have bd0 : d0 < M.B := okd d0 (by simp)
  have bd1 : d1 < M.B := okd d1 (by simp)
  have hlp := M.val_lt okl.left
  have hdp := M.val_lt okd.left
  rw [← hlen] at hdp
  have hd1 : 0 < d1 := by omega
  have he := fun hle => est_fits r0 r1 r2 d0 d1 br0 br1 hle hd1
  rw [val_three, val_two] at *
  rw [← hlen] at hlt ⊢
  have hP := M.B_pow_pos lp.length
  generalize M.B ^ lp.length = P at *
  generalize M.val lp = r' at *
  generalize M.val dp = d' at *
  generalize M.B = B at *
  have hD2 : d1 * B + d0 + 1 ≤ (d1 + 1) * B := by rw [Nat.add_mul, Nat.one_mul]; omega
  have hDu : (d1 * B + d0) * P + d' < (d1 + 1) * B * P := by
    have h1 := Nat.mul_le_mul_right P hD2
    rw [Nat.add_mul, Nat.one_mul] at h1; omega
  have hle : r2 ≤ d1 := by
    apply Nat.le_of_lt_succ
    have a1 : r2 * B * B * P ≤ ((r2 * B + r1) * B + r0) * P + r' := by
      have := Nat.mul_le_mul_right P (show r2 * B * B ≤ (r2 * B + r1) * B + r0 by rw [Nat.add_mul]; omega)
      omega
    have a2 : ((d1 * B + d0) * P + d') * B < (d1 + 1) * B * P * B := Nat.mul_lt_mul_of_pos_right hDu hB
    have a3 : r2 * B * B * P < (d1 + 1) * B * P * B := by omega
    rw [Nat.mul_right_comm ((d1 + 1) * B) P B] at a3
    exact Nat.lt_of_mul_lt_mul_right (Nat.lt_of_mul_lt_mul_right (Nat.lt_of_mul_lt_mul_right a3))
  have hD : 0 < (d1 * B + d0) * P + d' := by
    have := Nat.mul_pos (Nat.mul_pos hd1 hB) hP
    rw [Nat.add_mul]; omega
  have he1 := he hle
  have heB : est r0 r1 r2 d0 d1 < B := by rcases he1 with h | h; · omega
                                          · exact h.2.2
  have hQ := Nat.div_mul_le_self (((r2 * B + r1) * B + r0) * P + r') ((d1 * B + d0) * P + d')
  have hQ2 : ((r2 * B + r1) * B + r0) * P + r' < (((r2 * B + r1) * B + r0) * P + r') / ((d1 * B + d0) * P + d') * ((d1 * B + d0) * P + d') + ((d1 * B + d0) * P + d') := by
    have h1 := Nat.div_add_mod' (((r2 * B + r1) * B + r0) * P + r') ((d1 * B + d0) * P + d')
    have h2 := Nat.mod_lt (((r2 * B + r1) * B + r0) * P + r') hD
    omega
  generalize (((r2 * B + r1) * B + r0) * P + r') / ((d1 * B + d0) * P + d') = Q at *
  have hb := est_bounds B ((r2 * B + r1) * B + r0) r2 d1 (d1 * B + d0) P r' d' _ _ (est r0 r1 r2 d0 d1) Q h4 rfl rfl hlp hdp hQ (by rw [Nat.add_mul Q, Nat.one_mul]; exact hQ2) hlt
    (by rw [Nat.add_mul, Nat.mul_assoc]; omega) (by omega) hD2 hn he1
  exact ⟨hle, heB, by omega⟩

set_option maxRecDepth 100000 in
set_option maxHeartbeats 4000000 in
theorem takeDigit_core (b off cap bd od cd k e : Nat) (z0 ds : List Nat) (r2 : Nat) (w : World) (HL : Hid (Words w b off (z0 ++ [r2]))) (HD : Hid (Words w bd od ds)) (LZ : Hid (z0.length = k + 2)) (LD : Hid (ds.length = k + 2))
    (OL : Hid (M.Ok (z0 ++ [r2]))) (OD : Hid (M.Ok ds)) (HEB : Hid (e < M.B)) (HDIG : Hid (e = M.val (z0 ++ [r2]) / M.val ds ∨ e = M.val (z0 ++ [r2]) / M.val ds + 1)) (HDP : Hid (0 < M.val ds))
    (HNE : Hid (bd ≠ b)) (hk : k ≤ 1000000) (hcap : k + 3 ≤ cap) (hcd : k + 2 ≤ cd)
    (CE : Hid (∀ W, Below w.heap.size w W → Calls Tryd.prog 108 #[.slice (some ⟨b, off + k, none⟩) 3 (cap - k), .slice (some ⟨bd, od + k, none⟩) 2 (cd - k)] W fun e1 w' => e1 = .returned (.int .u64 (e : Int)) ∧ Below W.heap.size W w')) :
    Calls Tryd.prog 95 #[.slice (some ⟨b, off, none⟩) (k + 3) cap, .slice (some ⟨bd, od, none⟩) (k + 2) cd] w fun e w' =>
      e = .returned (.int .u64 ((M.val (z0 ++ [r2]) / M.val ds : Nat) : Int)) ∧ ∃ zs, Hid (zs.length = k + 2 ∧ M.Ok zs ∧ M.val zs = M.val (z0 ++ [r2]) % M.val ds ∧ Words w' b off (zs ++ [0]) ∧ Wr w w' b off (off + (k + 3))) := by
  have hk1 : (k : Int) + 2 - 2 = (k : Int) := by omega
  have hs1 := addr_if b off k
  have hs2 := addr_if bd od k
  have hs3 : ¬ cap = k := by omega
  have hs4 : ¬ cd = k := by omega
  have hs5 : IntKind.i64.wrap (k : Int) = (k : Int) := IntWalk.i64_in _ (by omega)
  have hs6 : (k : Int) ≤ (k : Int) + 3 := by omega
  have hs7 : (k : Int) ≤ (k : Int) + 2 := by omega
  obtain ⟨Q, hQ⟩ : ∃ Q, M.val (z0 ++ [r2]) / M.val ds = Q := ⟨_, rfl⟩
  rw [hQ] at HDIG ⊢
  have HQ := mkHid hQ
  clear hQ
  have HMOD : Hid (M.val (z0 ++ [r2]) % M.val ds = M.val (z0 ++ [r2]) - Q * M.val ds ∧ Q * M.val ds ≤ M.val (z0 ++ [r2]) ∧ M.val (z0 ++ [r2]) < (Q + 1) * M.val ds) := mkHid (by
    have h1 := Nat.div_add_mod' (M.val (z0 ++ [r2])) (M.val ds)
    have h2 := Nat.mod_lt (M.val (z0 ++ [r2])) HDP.out
    rw [HQ.out] at h1
    rw [Nat.add_mul, Nat.one_mul]
    omega)
  go_enter Tryd.func95, Tryd.ntmps95
  go_upto_region 2 with fail
  go_cut [6] (fun v wx => v = .int .u64 (e : Int) ∧ Below w.heap.size w wx)
  case first =>
    go_region_with (first
      | (go_at_call 108; refine (CE.out _ ((Below.refl _ _).drew)).mono ?_; rintro e1 w2 ⟨rfl, hb⟩; have HB := mkHid hb; clear hb))
    all_goals (go_wp2_with fail; go_meet; exact ⟨rfl, ⟨HB.out.os, HB.out.tape, HB.out.output, HB.out.size, HB.out.block⟩⟩)
  case rest =>
    obtain ⟨rfl, hb⟩ := hcut
    have HB := mkHid hb
    clear hb hs1 hs2 hs3 hs4 hs5 hs6 hs7
    have HLc : Hid (Words wc b off (z0 ++ [r2])) := mkHid (HL.out.grows HB.out)
    have HDc : Hid (Words wc bd od ds) := mkHid (HD.out.grows HB.out)
    have C1 := mkHid (subProduct_any b off cap bd od cd e z0 ds wc HLc.out.left HDc.out HNE.out (by rw [LD.out, LZ.out]) (by rw [LD.out]; omega) OL.out.left OD.out HEB.out)
    rw [LD.out] at C1
    have hfit : (k : Int) + 2 ≤ cap := by omega
    go_wp2_with fail
    refine C1.out.mono ?_
    rintro e1 w1 ⟨c, rfl, zs, R⟩
    clear C1
    have hR2 : Hid (Words w1 b (off + (k + 2)) [r2]) := mkHid (by
      have h1 := HLc.out.right
      rw [LZ.out] at h1
      exact h1.keepOut R.out.2.2.2.2.2 (by right; omega))
    obtain ⟨hc2, hf2⟩ := hR2.out 0 (by simp)
    simp only [List.getElem_cons_zero, Nat.add_zero] at hc2 hf2
    have HV : Hid (M.val (z0 ++ [r2]) = M.val z0 + M.B ^ (k + 2) * r2) := mkHid (by rw [M.val_snoc, LZ.out])
    have HZL : Hid (M.val zs < M.B ^ (k + 2)) := mkHid (by have := M.val_lt R.out.2.1; rwa [R.out.1] at this)
    have HDL : Hid (M.val ds ≤ M.B ^ (k + 2)) := mkHid (by have := M.val_lt OD.out; rw [LD.out] at this; omega)
    rcases HDIG.out with hdig | hdig
    · have HT := mkHid (take_right _ _ _ _ _ _ _ _ HV.out (by rw [← hdig]; exact R.out.2.2.2.1) HZL.out HMOD.out.2.1 HDL.out HMOD.out.2.2)
      have hle : ¬ (c : Int) > (r2 : Int) := by have := HT.out.1; omega
      subst hdig
      go_wp2
      go_ret
      have hW0 : Words (w1.setCell ⟨b, off + (k + 2), none⟩ (.int .u64 ((0 : Nat) : Int))) b off (zs ++ [0]) := by
        have h1 : Words w1 b off (zs ++ [r2]) := R.out.2.2.2.2.1.append (by rw [R.out.1]; exact hR2.out)
        exact h1.setMid R.out.1 0
      refine ⟨rfl, zs, mkHid ⟨R.out.1, R.out.2.1, by rw [HT.out.2, HMOD.out.1], hW0, ?_⟩⟩
      exact (((Wr.ofBelow HB.out b off (off + (k + 3))).trans (R.out.2.2.2.2.2.mono (Nat.le_refl _) (by omega))).setCell (by omega) (by omega) _)
    · have HT := mkHid (take_high _ _ _ _ _ _ _ _ HV.out (by rw [← hdig]; exact R.out.2.2.2.1) HZL.out HMOD.out.2.1 HDL.out HMOD.out.2.2)
      have hgt : (c : Int) > (r2 : Int) := by have := HT.out.1; omega
      have C2 := mkHid (addWords_any b off cap bd od cd zs ds w1 R.out.2.2.2.2.1 (HDc.out.keep R.out.2.2.2.2.2 HNE.out) HNE.out (by rw [LD.out, R.out.1]; omega) (by rw [R.out.1]; omega) R.out.2.1 OD.out)
      rw [LD.out, R.out.1] at C2
      have hQb : (Q : Int) + 1 ≤ 18446744073709551615 := by have h1 := HEB.out; rw [M.B_eq, hdig] at h1; omega
      have hQs : ((Q + 1 : Nat) : Int) - 1 = (Q : Int) := by omega
      have HDG := mkHid hdig
      clear hdig
      have he : (e : Int) - 1 = (Q : Int) := by rw [HDG.out]; exact hQs
      have hebound : 1 ≤ e := by rw [HDG.out]; omega
      have hebound2 : (e : Int) ≤ 18446744073709551615 := by rw [HDG.out]; omega
      clear hQs
      go_wp2_with fail
      refine C2.out.mono ?_
      clear C2
      rintro e1 w2 ⟨rfl, ts, T⟩
      have hR3 : Hid (Words w2 b (off + (k + 2)) [r2]) := mkHid (hR2.out.keepOut T.out.2.2.2.2 (by right; omega))
      clear hc2 hf2
      obtain ⟨hc2, hf2⟩ := hR3.out 0 (by simp)
      simp only [List.getElem_cons_zero, Nat.add_zero] at hc2 hf2
      go_wp2
      go_ret
      have hW0 : Words (w2.setCell ⟨b, off + (k + 2), none⟩ (.int .u64 ((0 : Nat) : Int))) b off (ts ++ [0]) := by
        have h1 : Words w2 b off (ts ++ [r2]) := T.out.2.2.2.1.append (by rw [T.out.1]; exact hR3.out)
        exact h1.setMid T.out.1 0
      refine ⟨rfl, ts, mkHid ⟨T.out.1, T.out.2.1, by rw [T.out.2.2.1, HT.out.2, HMOD.out.1], hW0, ?_⟩⟩
      exact ((((Wr.ofBelow HB.out b off (off + (k + 3))).trans (R.out.2.2.2.2.2.mono (Nat.le_refl _) (by omega))).trans (T.out.2.2.2.2.mono (Nat.le_refl _) (by omega))).setCell (by omega) (by omega) _)

theorem takeDigit_any (b off cap bd od cd k : Nat) (lp dp : List Nat) (r0 r1 r2 d0 d1 : Nat) (w : World) (hl : Words w b off (lp ++ [r0, r1, r2])) (hd : Words w bd od (dp ++ [d0, d1])) (hlp : lp.length = k) (hdp : dp.length = k)
    (okl : M.Ok (lp ++ [r0, r1, r2])) (okd : M.Ok (dp ++ [d0, d1])) (hn : M.B ≤ 2 * d1) (hlt : M.val (lp ++ [r0, r1, r2]) < M.val (dp ++ [d0, d1]) * M.B)
    (hne : bd ≠ b) (hk : k ≤ 1000000) (hcap : k + 3 ≤ cap) (hcd : k + 2 ≤ cd) :
    Calls Tryd.prog 95 #[.slice (some ⟨b, off, none⟩) (k + 3) cap, .slice (some ⟨bd, od, none⟩) (k + 2) cd] w fun e w' =>
      e = .returned (.int .u64 ((M.val (lp ++ [r0, r1, r2]) / M.val (dp ++ [d0, d1]) : Nat) : Int)) ∧ ∃ zs, Hid (zs.length = k + 2 ∧ M.Ok zs ∧ M.val zs = M.val (lp ++ [r0, r1, r2]) % M.val (dp ++ [d0, d1]) ∧ Words w' b off (zs ++ [0]) ∧ Wr w w' b off (off + (k + 3))) := by
  obtain ⟨hle, heB, hdig⟩ := est_digit lp dp r0 r1 r2 d0 d1 (by omega) okl okd hn hlt
  have L3 : Words w b (off + k) [r0, r1, r2] := by have := hl.right; rwa [hlp] at this
  have D2 : Words w bd (od + k) [d0, d1] := by have := hd.right; rwa [hdp] at this
  have e1 : lp ++ [r0, r1, r2] = (lp ++ [r0, r1]) ++ [r2] := by simp
  have hDpos : 0 < M.val (dp ++ [d0, d1]) := by
    rw [val_two]
    have hd1 : 0 < d1 := by have := M.B_pos; omega
    have := Nat.mul_pos (show 0 < d1 * M.B + d0 by have := Nat.mul_pos hd1 M.B_pos; omega) (M.B_pow_pos dp.length)
    omega
  rw [e1] at hl okl hlt hdig ⊢
  refine takeDigit_core b off cap bd od cd k (est r0 r1 r2 d0 d1) (lp ++ [r0, r1]) (dp ++ [d0, d1]) r2 w (mkHid hl) (mkHid hd) (mkHid (by simp [hlp])) (mkHid (by simp [hdp])) (mkHid okl) (mkHid okd) (mkHid heB) (mkHid hdig) (mkHid hDpos) (mkHid hne) hk hcap hcd (mkHid fun W hW => ?_)
  by_cases h : r2 = d1
  · subst h
    exact estimate_eq b (off + k) (cap - k) bd (od + k) (cd - k) r0 r1 r2 d0 W (L3.grows hW) (D2.grows hW)
  · exact estimate_ne b (off + k) (cap - k) bd (od + k) (cd - k) r0 r1 r2 d0 d1 W (L3.grows hW) (D2.grows hW) (by omega) (okl r0 (by simp)) (okl r1 (by simp)) (okd d0 (by simp)) (okd d1 (by simp))
end Go.Proofs.YtflcdpolfimggaaDoor
namespace Go.Proofs.YtflcdpolfimggaaDoor
open Go.RowKit

theorem split_three {l : List Nat} {k : Nat} (h : l.length = k + 3) : ∃ p a b c, l = p ++ [a, b, c] ∧ p.length = k := by
  refine ⟨l.take k, l[k], l[k + 1], l[k + 2], ?_, by simp; omega⟩
  conv => lhs; rw [← List.take_append_drop k l]
  congr 1
  rw [List.drop_eq_getElem_cons (by omega), List.drop_eq_getElem_cons (by omega), List.drop_eq_getElem_cons (by omega), List.drop_of_length_le (by omega)]
theorem split_two {l : List Nat} {k : Nat} (h : l.length = k + 2) : ∃ p a b, l = p ++ [a, b] ∧ p.length = k := by
  refine ⟨l.take k, l[k], l[k + 1], ?_, by simp; omega⟩
  conv => lhs; rw [← List.take_append_drop k l]
  congr 1
  rw [List.drop_eq_getElem_cons (by omega), List.drop_eq_getElem_cons (by omega), List.drop_of_length_le (by omega)]

/-- The highest word of a divisor that was shifted has its highest bit. -/
theorem norm_top {l : List Nat} {k : Nat} (okl : M.Ok l) (hl : l.length = k + 1) (top : Nat) (ht : l[k]'(by omega) = top) (h0 : top ≠ 0) :
    M.val l * 2 ^ (64 - Lib.bitLen top) < M.B ^ (k + 1) ∧ M.B ^ k * 9223372036854775808 ≤ M.val l * 2 ^ (64 - Lib.bitLen top) := by
  have htB : top < 18446744073709551616 := by have := okl.get (i := k) (by omega); rwa [ht, M.B_eq] at this
  obtain ⟨_, h1, h2⟩ := lead_pow top (by omega) htB
  have h3 : (top + 1) * 2 ^ (64 - Lib.bitLen top) ≤ M.B := by
    have a := bl_lt top htB
    have d := bl_64 top htB
    have h := Nat.mul_le_mul_right (2 ^ (64 - Lib.bitLen top)) (show top + 1 ≤ 2 ^ Lib.bitLen top from a)
    rw [← Nat.pow_add, show Lib.bitLen top + (64 - Lib.bitLen top) = 64 by omega] at h
    exact h
  have hP : 0 < 2 ^ (64 - Lib.bitLen top) := Nat.two_pow_pos _
  generalize 2 ^ (64 - Lib.bitLen top) = P at *
  have hv := M.val_take_drop l k (by omega)
  rw [List.drop_eq_getElem_cons (by omega), List.drop_of_length_le (by omega), M.val_cons, M.val_nil, ht, Nat.mul_zero, Nat.add_zero] at hv
  have hlo := M.val_lt (okl.take k)
  rw [List.length_take, Nat.min_eq_left (by omega)] at hlo
  constructor
  · rw [Nat.pow_succ]
    have e1 : M.val l < M.B ^ k * (top + 1) := by rw [hv, Nat.mul_add]; omega
    calc M.val l * P < M.B ^ k * (top + 1) * P := Nat.mul_lt_mul_of_pos_right e1 hP
      _ = M.B ^ k * ((top + 1) * P) := Nat.mul_assoc _ _ _
      _ ≤ M.B ^ k * M.B := Nat.mul_le_mul_left _ h3
  · rw [hv, Nat.add_mul, Nat.mul_assoc]
    have := Nat.mul_le_mul_left (M.B ^ k) h1
    omega

/-- The highest word of a number with its highest bit. -/
theorem top_word {p : List Nat} {d0 d1 : Nat} (ok : M.Ok (p ++ [d0, d1])) (h : M.B ^ (p.length + 1) * 9223372036854775808 ≤ M.val (p ++ [d0, d1])) : M.B ≤ 2 * d1 := by
  have e : p ++ [d0, d1] = (p ++ [d0]) ++ [d1] := by simp
  rw [e, M.val_snoc] at h
  rw [e] at ok
  have hlo := M.val_lt ok.left
  simp only [List.length_append, List.length_cons, List.length_nil, Nat.zero_add] at h hlo
  have hB := M.B_pow_pos (p.length + 1)
  have : M.B ^ (p.length + 1) * 9223372036854775808 < M.B ^ (p.length + 1) * (d1 + 1) := by rw [Nat.mul_add, Nat.mul_one]; omega
  have := Nat.lt_of_mul_lt_mul_left this
  rw [M.B_eq]; omega

/-- What the rounds keep: c digits are still to be found; the rest is below D B^c. -/
structure DI (R0 D n m c : Nat) (ls qs : List Nat) : Prop where
  len : ls.length = m + 1
  ok : M.Ok ls
  okq : M.Ok qs
  lq : c + qs.length = m - n + 1
  lt : M.val ls < D * M.B ^ c
  e : R0 = M.val qs * M.B ^ c * D + M.val ls

/-- The window of a digit. -/
theorem DI.window {R0 D n m c : Nat} {ls qs : List Nat} (h : DI R0 D n m (c + 1) ls qs) (hn : n ≤ m) (hD : D ≤ M.B ^ n) :
    ∃ lo win hi, ls = lo ++ (win ++ hi) ∧ lo.length = c ∧ win.length = n + 1 ∧ M.val hi = 0 ∧ M.val win < D * M.B := by
  have hl := h.len
  have hlq := h.lq
  have e1 : ls = ls.take c ++ ((ls.drop c).take (n + 1) ++ (ls.drop c).drop (n + 1)) := by rw [List.take_append_drop, List.take_append_drop]
  have l1 : (ls.take c).length = c := by simp; omega
  have l2 : ((ls.drop c).take (n + 1)).length = n + 1 := by simp; omega
  have hv : M.val ls = M.val (ls.take c) + M.B ^ c * (M.val ((ls.drop c).take (n + 1)) + M.B ^ (n + 1) * M.val ((ls.drop c).drop (n + 1))) := by
    conv => lhs; rw [e1]
    rw [M.val_append, M.val_append, l1, l2]
  refine ⟨_, _, _, e1, l1, l2, ?_, ?_⟩
  · apply Classical.byContradiction; intro hne
    have h1 : M.B ^ (n + 1) * 1 ≤ M.B ^ (n + 1) * M.val ((ls.drop c).drop (n + 1)) := Nat.mul_le_mul_left _ (by omega)
    have h2 := Nat.mul_le_mul_left (M.B ^ c) (show M.B ^ (n + 1) ≤ M.val ((ls.drop c).take (n + 1)) + M.B ^ (n + 1) * M.val ((ls.drop c).drop (n + 1)) by omega)
    have h3 := h.lt
    have h4 : D * M.B ^ (c + 1) ≤ M.B ^ n * M.B ^ (c + 1) := Nat.mul_le_mul_right _ hD
    rw [← Nat.pow_add] at h2 h4
    rw [show n + (c + 1) = c + (n + 1) by omega] at h4
    omega
  · have h3 := h.lt
    have h2 : M.B ^ c * M.val ((ls.drop c).take (n + 1)) ≤ M.val ls := by rw [hv, Nat.mul_add]; omega
    apply Nat.lt_of_mul_lt_mul_left (a := M.B ^ c)
    have e2 : M.B ^ c * (D * M.B) = D * M.B ^ (c + 1) := by rw [Nat.pow_succ, Nat.mul_left_comm]
    omega

theorem DI.step {R0 D n m c : Nat} {lo win hi qs : List Nat} (h : DI R0 D n m (c + 1) (lo ++ (win ++ hi)) qs) (hD : 0 < D) (lc : lo.length = c) (hv : M.val hi = 0) (hw : M.val win < D * M.B) (zs : List Nat) (lz : zs.length + 1 = win.length)
    (okz : M.Ok zs) (hz : M.val zs = M.val win % D) : DI R0 D n m c (lo ++ ((zs ++ [0]) ++ hi)) (M.val win / D :: qs) := by
  have hq : M.val win / D < M.B := by rw [Nat.div_lt_iff_lt_mul hD, Nat.mul_comm]; exact hw
  have hdm := Nat.div_add_mod' (M.val win) D
  have hml := Nat.mod_lt (M.val win) hD
  have hlo := M.val_lt h.ok.left
  rw [lc] at hlo
  have e1 : M.val (lo ++ ((zs ++ [0]) ++ hi)) = M.val lo + M.B ^ c * (M.val win % D) := by
    rw [M.val_append, M.val_append, M.val_snoc, hv, hz, lc]; simp
  have e2 : M.val (lo ++ (win ++ hi)) = M.val lo + M.B ^ c * M.val win := by rw [M.val_append, M.val_append, hv, lc]; simp
  refine ⟨?_, h.ok.left.append ((okz.append (M.Ok.cons M.B_pos M.Ok.nil)).append h.ok.right.right), M.Ok.cons hq h.okq, by have := h.lq; simp; omega, ?_, ?_⟩
  · have := h.len; simp at this ⊢; omega
  · rw [e1, Nat.mul_comm D]
    have := Nat.mul_le_mul_left (M.B ^ c) (show M.val win % D + 1 ≤ D from hml)
    rw [Nat.mul_add, Nat.mul_one] at this
    omega
  · rw [h.e, e1, e2, M.val_cons]
    have e3 : M.B ^ c * M.val win = M.val win / D * M.B ^ c * D + M.B ^ c * (M.val win % D) := by
      conv => lhs; rw [← hdm]
      rw [Nat.mul_add, Nat.mul_right_comm, Nat.mul_comm (M.B ^ c)]
    have e4 : M.val qs * M.B ^ (c + 1) * D = M.B * M.val qs * M.B ^ c * D := by rw [Nat.pow_succ, Nat.mul_comm (M.B ^ c), ← Nat.mul_assoc, Nat.mul_comm (M.val qs)]
    rw [e3, e4, Nat.add_mul, Nat.add_mul]
    omega

theorem DI.end {R0 D n m : Nat} {ls qs : List Nat} (h : DI R0 D n m 0 ls qs) (hD : 0 < D) : M.val qs = R0 / D ∧ M.val ls = R0 % D := by
  have e := h.e
  have lt := h.lt
  rw [Nat.pow_zero, Nat.mul_one] at e lt
  rw [e]
  constructor
  · rw [Nat.mul_comm, Nat.mul_add_div hD, Nat.div_eq_of_lt lt, Nat.add_zero]
  · rw [Nat.mul_comm, Nat.mul_add_mod, Nat.mod_eq_of_lt lt]
theorem scale_div (X Y P : Nat) (hP : 0 < P) : X * P / (Y * P) = X / Y ∧ X * P % (Y * P) = X % Y * P := ⟨Nat.mul_div_mul_right X Y hP, Nat.mul_mod_mul_right P X Y⟩

set_option maxRecDepth 100000 in
set_option maxHeartbeats 1000000 in
theorem divideWords_any (bx cx by' cy X Y n m : Nat) (w : World) (hx : Words w bx 0 (M.dig X)) (hy : Words w by' 0 (M.dig Y)) (hm : (M.dig X).length = m) (hn : (M.dig Y).length = n + 2) (hle : n + 2 ≤ m) (hb : m ≤ 100000) :
    Calls Tryd.prog 78 #[.slice (some ⟨bx, 0, none⟩) m cx, .slice (some ⟨by', 0, none⟩) (n + 2) cy] w fun e w' =>
      ∃ bq cq br cr, e = .returned (.tuple #[.slice (some ⟨bq, 0, none⟩) (m - (n + 2) + 1) cq, .slice (some ⟨br, 0, none⟩) (M.dig (X % Y)).length cr]) ∧
      ∃ qs, Hid (qs.length = m - (n + 2) + 1 ∧ M.Ok qs ∧ M.val qs = X / Y ∧ Row w' bq cq qs ∧ Row w' br cr (M.dig (X % Y)) ∧ w.heap.size ≤ bq ∧ w.heap.size ≤ br ∧ Below w.heap.size w w') := by
  have HX := Lib.hid hx; clear hx
  have HY := Lib.hid hy; clear hy
  have HM := Lib.hid hm; clear hm
  have HN := Lib.hid hn; clear hn
  have Y0 : Hid (Y ≠ 0) := mkHid (by intro h; have := HN.out; rw [h, M.dig_zero] at this; simp at this)
  have hlt1 : n + 1 < (M.dig Y).length := by rw [HN.out]; omega
  obtain ⟨top, htop⟩ : ∃ top, (M.dig Y)[n + 1]'hlt1 = top := ⟨_, rfl⟩
  have T0 : Hid (top ≠ 0) := mkHid (by
    have h := M.dig_last (n := Y) (by intro h; have := HN.out; rw [h] at this; simp at this)
    rw [List.getLast_eq_getElem] at h
    have e : (M.dig Y).length - 1 = n + 1 := by rw [HN.out]; rfl
    rw [← htop]
    simpa only [e] using h)
  have TB : Hid (top < 18446744073709551616) := mkHid (by have := (M.ok_dig Y).get hlt1; rwa [htop, M.B_eq] at this)
  have NT := mkHid (norm_top (M.ok_dig Y) (k := n + 1) HN.out top htop T0.out)
  obtain ⟨hcell, -⟩ := HY.out (n + 1) hlt1
  rw [htop, Nat.zero_add] at hcell
  clear htop
  have CLZ : Hid (∀ W, Calls Tryd.prog 94 #[.int .u64 top] W fun e w' => e = .returned (.int .i64 (((64 - Lib.bitLen top : Nat) : Nat) : Int)) ∧ w' = W) := mkHid fun W => by
    have := Tryd.bits_LeadingZeros64 top W (by omega) (by have := TB.out; omega)
    have hb := bl_64 top TB.out
    rw [Int.toNat_natCast, show (64 - (Lib.bitLen top : Int)) = ((64 - Lib.bitLen top : Nat) : Int) by omega] at this
    exact this
  have hs64 : 64 - Lib.bitLen top < 64 := by have := bl_pos top TB.out T0.out; omega
  generalize 64 - Lib.bitLen top = s at *
  have hs0 : s / 64 = 0 := by omega
  have CY := mkHid (fun W (h : Words W by' 0 (M.dig Y)) => shiftLeft_any by' 0 cy s (M.dig Y) W h (by rw [HN.out]; omega) (M.ok_dig Y) (by omega))
  have CX := mkHid (fun W (h : Words W bx 0 (M.dig X)) => shiftLeft_any bx 0 cx s (M.dig X) W h (by rw [HM.out]; omega) (M.ok_dig X) (by omega))
  rw [hs0, M.val_dig] at CX CY
  rw [HM.out, Nat.zero_add] at CX
  rw [HN.out, Nat.zero_add] at CY
  rw [M.val_dig] at NT
  clear hs0
  have hsb : s ≤ 1000 := by omega
  have HS64 := mkHid hs64
  clear hs64
  obtain ⟨q, hq⟩ : ∃ q, m - (n + 2) + 1 = q := ⟨_, rfl⟩
  have hqi : (m : Int) - ((n : Int) + 2) + 1 = (q : Int) := by omega
  have hqb : q ≤ 100000 := by omega
  have hq1 : q + n + 1 = m := by omega
  rw [hq]
  have HQ := mkHid hq
  clear hq
  obtain ⟨i0, hi, hz0, hz1, hz2⟩ := info_parts info64
  have hi' := Lib.hid hi; have hz0' := Lib.hid hz0; have hz1' := Lib.hid hz1; have hz2' := Lib.hid hz2; clear hi hz0 hz1 hz2
  go_enter Tryd.func78, Tryd.ntmps78
  go_wp2_with fail
  refine (CLZ.out _).mono ?_
  rintro e w' ⟨rfl, rfl⟩
  go_wp2_with fail
  refine (CY.out _ HY.out).mono ?_
  rintro e w1 ⟨bd, rfl, zy, RY⟩
  have HX1 : Hid (Words w1 bx 0 (M.dig X)) := mkHid (HX.out.grows RY.out.2.2.2.2.2)
  go_wp2_with fail
  refine (CX.out _ HX1.out).mono ?_
  rintro e w2 ⟨br, rfl, zx, RX⟩
  clear CLZ CY CX hcell
  go_wp2_with (at_make; refine wpList_make_full _ rfl _ _ 76 rfl w2.heap.size 22 i0 (.int .u64 0) 1 Tryd.underlying76 hi'.out hz0'.out hz1'.out _ _ _ _ q rfl rfl (by omega) (by omega) ?bytes ?maxl ?base ?_)
  case bytes => rw [hz2'.out]; omega
  case maxl => unfold maxLen; omega
  case base => exact Nat.le_refl _
  intro w3 hown hgrow
  have HRQ : Hid (Row w3 w2.heap.size q (List.replicate q 0)) := mkHid (Row.made hown (by omega))
  have HB3 : Hid (Below w2.heap.size w2 w3) := mkHid (below_grown hgrow (Nat.le_refl _))
  clear hown hgrow hi' hz0' hz1' hz2' HX1
  -- the blocks
  have HBK : Hid (w'.heap.size ≤ bd ∧ bd < w1.heap.size ∧ w1.heap.size ≤ br ∧ br < w2.heap.size) := mkHid ⟨RY.out.2.2.2.1, RY.out.2.2.2.2.1.lt, RX.out.2.2.2.1, RX.out.2.2.2.2.1.lt⟩
  obtain ⟨D, hD⟩ : ∃ D, Y * 2 ^ s = D := ⟨_, rfl⟩
  obtain ⟨R0, hR0⟩ : ∃ R0, X * 2 ^ s = R0 := ⟨_, rfl⟩
  rw [hD] at NT RY
  rw [hR0] at RX
  have HD := mkHid hD
  have HR0 := mkHid hR0
  clear hD hR0
  -- the divisor: its highest word is 0
  obtain ⟨dz, hdz⟩ : ∃ dz, dz = zy.take (n + 2) := ⟨_, rfl⟩
  have LD : Hid (dz.length = n + 2) := mkHid (by rw [hdz]; have := RY.out.1; simp; omega)
  have OD : Hid (M.Ok dz) := mkHid (by rw [hdz]; exact RY.out.2.1.take _)
  have VD : Hid (M.val dz = D) := mkHid (by
    have h1 := M.val_take_drop zy (n + 2) (by have := RY.out.1; omega)
    rw [RY.out.2.2.1, ← hdz] at h1
    have h2 := NT.out.1
    have h3 : M.val (zy.drop (n + 2)) = 0 := by
      apply Classical.byContradiction; intro hne
      have := Nat.mul_le_mul_left (M.B ^ (n + 2)) (show 1 ≤ M.val (zy.drop (n + 2)) by omega)
      have e : M.B ^ (n + 1 + 1) = M.B ^ (n + 2) := rfl
      rw [e] at h2
      omega
    rw [h3, Nat.mul_zero, Nat.add_zero] at h1
    exact h1.symm)
  have HWD : Hid (Words w2 bd 0 dz) := mkHid (by rw [hdz]; exact ((RY.out.2.2.2.2.1.words).take _).grows RX.out.2.2.2.2.2)
  clear hdz
  have D0 : Hid (0 < D) := mkHid (by rw [← HD.out]; exact Nat.mul_pos (Nat.pos_of_ne_zero Y0.out) (Nat.two_pow_pos s))
  have HRX : Hid (Row w3 br (m + 1) zx) := mkHid (RX.out.2.2.2.2.1.below HB3.out HBK.out.2.2.2)
  have DI0 : Hid (DI R0 D (n + 2) m q zx []) := mkHid ⟨RX.out.1, RX.out.2.1, M.Ok.nil, by have := HQ.out; simp; omega, by
    rw [RX.out.2.2.1]
    have h1 : X < M.B ^ m := by have := M.val_lt (M.ok_dig X); rwa [M.val_dig, HM.out] at this
    have h2 := NT.out.2
    have h3 : R0 < M.B ^ m * 2 ^ s := by rw [← HR0.out]; exact Nat.mul_lt_mul_of_pos_right h1 (Nat.two_pow_pos s)
    have h4 : 2 ^ s ≤ 9223372036854775808 := by
      have := Nat.pow_le_pow_right (show 0 < 2 by omega) (show s ≤ 63 by have := HS64.out; omega)
      exact this
    have h5 : M.B ^ m * 2 ^ s ≤ M.B ^ m * 9223372036854775808 := Nat.mul_le_mul_left _ h4
    have h6 : M.B ^ m = M.B ^ (n + 1) * M.B ^ q := by rw [← Nat.pow_add]; congr 1; omega
    have h7 : M.B ^ m * 9223372036854775808 ≤ D * M.B ^ q := by rw [h6, Nat.mul_right_comm]; exact Nat.mul_le_mul_right _ h2
    omega, by rw [RX.out.2.2.1]; simp⟩
  obtain ⟨bq, hbq⟩ : ∃ bq, w2.heap.size = bq := ⟨_, rfl⟩
  rw [hbq] at HRQ HB3
  have HBQ := mkHid hbq
  go_wp2
  rw [hbq]
  clear hbq
  go_loopw [35] (fun iv wr => ∃ i c : Nat, i + c = q ∧ iv = .int .i64 i ∧ ∃ ls qs, Hid (DI R0 D (n + 2) m c ls qs ∧ Row wr br (m + 1) ls ∧ Row wr bq q (List.replicate c 0 ++ qs) ∧ Words wr bd 0 dz ∧ Below w'.heap.size w' wr))
    (fun iv _ => q - (intOf iv).toNat)
  case atStart => exact ⟨0, q, by omega, rfl, zx, [], DI0.out, HRX.out, by simpa using HRQ.out, HWD.out.below HB3.out (by have := HBK.out; have := HBQ.out; omega), (RY.out.2.2.2.2.2.trans (RX.out.2.2.2.2.2.mono RY.out.2.2.2.2.2.size)).trans (HB3.out.mono (by have h1 := RY.out.2.2.2.2.2.size; have h2 := RX.out.2.2.2.2.2.size; have h3 := HBQ.out; omega))⟩
  case round =>
    obtain ⟨i, c, hic, rfl, ls, qs, H⟩ := hrel
    by_cases hlt : i < q
    · obtain ⟨c, rfl⟩ : ∃ c', c = c' + 1 := ⟨c - 1, by omega⟩
      have hDn : Hid (D ≤ M.B ^ (n + 2)) := mkHid (by have := M.val_lt OD.out; rw [LD.out, VD.out] at this; omega)
      obtain ⟨lo, win, hi, hls, lc, lw, hv0, hwlt⟩ := H.out.1.window hle hDn.out
      subst hls
      obtain ⟨p, a, b, c3, hwin, hp⟩ := split_three (k := n) lw
      obtain ⟨dp, d0, d1, hdz, hdp⟩ := split_two LD.out
      have HW := H.out.2.1.words.right.left
      rw [Nat.zero_add, lc, hwin] at HW
      have CT := mkHid (takeDigit_any br c (m + 1 - c) bd 0 (n + 2 + 1) n p dp a b c3 d0 d1 wr HW (by rw [← hdz]; exact H.out.2.2.2.1) hp hdp (by rw [← hwin]; exact H.out.1.ok.right.left) (by rw [← hdz]; exact OD.out)
        (top_word (by rw [← hdz]; exact OD.out) (by rw [← hdz, VD.out, hdp]; exact NT.out.2)) (by rw [← hwin, ← hdz, VD.out]; exact hwlt) (by have := HBK.out; omega) (by omega) (by omega) (by omega))
      rw [← hwin, ← hdz, VD.out] at CT
      obtain ⟨dg, hdg⟩ : ∃ dg, M.val win / D = dg := ⟨_, rfl⟩
      rw [hdg] at CT
      have HDG := mkHid hdg
      have HLC := mkHid lc
      have HLW := mkHid lw
      have HV0 := mkHid hv0
      have HWLT := mkHid hwlt
      clear hdg lc lw hv0 hwlt HW hwin hp hdz hdp p dp
      have hci : (q : Int) - 1 - (i : Int) = (c : Int) := by omega
      have hcm : (c : Int) ≤ 100000 := by omega
      have hcn : c + n + 3 ≤ m + 1 := by omega
      have HRQ2 : Hid (Row wr bq q (List.replicate c 0 ++ 0 :: qs)) := mkHid (by
        have h := H.out.2.2.1
        rw [List.replicate_succ', List.append_assoc] at h
        exact h)
      have HBB : Hid (bq ≠ br ∧ bd ≠ bq) := mkHid (by have := HBK.out; have := HBQ.out; omega)
      go_wp2_with fail
      rw [show c + (n + 2) + 1 - c = n + 3 by omega]
      refine CT.out.mono ?_
      clear CT
      rintro e w4 ⟨rfl, zs, T⟩
      obtain ⟨hqc, hqf⟩ := (HRQ2.out.keep T.out.2.2.2.2 HBB.out.1).words.atMid (n := c) (by simp)
      rw [Nat.zero_add] at hqc hqf
      have hcq : c < q := by omega
      go_wp2
      go_roundw
      case measure => simp [intOf]; omega
      case rel =>
        have HT := T.out
        have e4 : Words w4 br 0 (lo ++ ((zs ++ [0]) ++ hi)) := by
          have h1 := H.out.2.1.words
          have h2 : Words w4 br 0 lo := h1.left.keepOut HT.2.2.2.2 (by left; have := HLC.out; omega)
          have h3 : Words w4 br (0 + lo.length) (zs ++ [0]) := by rw [Nat.zero_add, HLC.out]; exact HT.2.2.2.1
          have h4 : Words w4 br (0 + lo.length + (zs ++ [0]).length) hi := by
            have h5 := h1.right.right
            rw [HLC.out, HLW.out] at h5
            have h6 := h5.keepOut HT.2.2.2.2 (by right; omega)
            rw [HLC.out]
            simp only [List.length_append, HT.1, List.length_cons, List.length_nil]
            exact h6
          exact h2.append (h3.append h4)
        have hDI := H.out.1.step D0.out HLC.out HV0.out HWLT.out zs (by rw [HT.1, HLW.out]) HT.2.1 HT.2.2.1
        rw [HDG.out] at hDI
        have hwr : Wr wr w4 br 0 (m + 1) := HT.2.2.2.2.mono (Nat.zero_le _) (by omega)
        have hR4 : Row w4 br (m + 1) (lo ++ ((zs ++ [0]) ++ hi)) := H.out.2.1.after hwr e4 (by rw [hDI.len]; exact Nat.le_refl _)
        have hset : Wr w4 (w4.setCell ⟨bq, c, none⟩ (.int .u64 (dg : Int))) bq 0 q := (Wr.refl _ _ _ _).setCell (Nat.zero_le _) hcq _
        have hQ4 := HRQ2.out.keep HT.2.2.2.2 HBB.out.1
        have hQ5 : Row (w4.setCell ⟨bq, c, none⟩ (.int .u64 (dg : Int))) bq q (List.replicate c 0 ++ dg :: qs) := by
          have h := hQ4.words.setMid (n := c) (by simp) dg
          rw [Nat.zero_add] at h
          exact hQ4.after hset h (by have := hDI.lq; have := HQ.out; simp at *; omega)
        refine ⟨i + 1, c, by omega, by go_num, _, dg :: qs, mkHid ⟨hDI, hR4.keep hset HBB.out.1.symm, hQ5, ?_, ?_⟩⟩
        · exact (H.out.2.2.2.1.keep HT.2.2.2.2 (by have := HBK.out; omega)).keep hset HBB.out.2
        · have b1 : Below w'.heap.size wr w4 := hwr.toBelow (by have h1 := HBK.out; have h2 := RY.out.2.2.2.2.2.size; omega) H.out.2.2.2.2.size
          have b2 : Below w'.heap.size w4 _ := hset.toBelow (by have h1 := HBQ.out; have h2 := RY.out.2.2.2.2.2.size; have h3 := RX.out.2.2.2.2.2.size; omega) (Nat.le_trans H.out.2.2.2.2.size b1.size)
          exact (H.out.2.2.2.2.trans b1).trans b2
    · have hc0 : c = 0 := by omega
      subst hc0
      have hiq : i = q := by omega
      subst hiq
      have HE := mkHid (H.out.1.end D0.out)
      have hsd := scale_div X Y (2 ^ s) (Nat.two_pow_pos s)
      rw [HR0.out, HD.out] at hsd
      have HSD := mkHid hsd
      clear hsd
      obtain ⟨rs, hrs⟩ : ∃ rs, rs = ls.take (n + 2) := ⟨_, rfl⟩
      have LR : Hid (rs.length = n + 2) := mkHid (by rw [hrs]; have := H.out.1.len; simp; omega)
      have OR : Hid (M.Ok rs) := mkHid (by rw [hrs]; exact H.out.1.ok.take _)
      have VR : Hid (M.val rs = X % Y * 2 ^ s) := mkHid (by
        have h1 := M.val_take_drop ls (n + 2) (by have := H.out.1.len; omega)
        have h2 := H.out.1.lt
        rw [Nat.pow_zero, Nat.mul_one] at h2
        have h3 := M.val_lt OD.out
        rw [LD.out, VD.out] at h3
        have h4 : M.val (ls.drop (n + 2)) = 0 := by
          apply Classical.byContradiction; intro hne
          have := Nat.mul_le_mul_left (M.B ^ (n + 2)) (show 1 ≤ M.val (ls.drop (n + 2)) by omega)
          omega
        rw [h4, Nat.mul_zero, Nat.add_zero, ← hrs] at h1
        rw [← h1, HE.out.2, HSD.out.2])
      have RR : Hid (Row wr br (m + 1) rs) := mkHid (by rw [hrs]; exact H.out.2.1.take _)
      clear hrs
      have CS := mkHid (shiftRight_any br (m + 1) s rs wr RR.out (by rw [LR.out]; omega) OR.out (by rw [LR.out]; have := HS64.out; omega))
      rw [LR.out, VR.out, Nat.mul_div_cancel _ (Nat.two_pow_pos s)] at CS
      have hfit : (n : Int) + 2 ≤ (m : Int) + 1 := by omega
      go_wp2_with fail
      refine CS.out.mono ?_
      clear CS
      rintro e w5 ⟨rfl, S⟩
      have HBB : Hid (bq ≠ br) := mkHid (by have := HBK.out; have := HBQ.out; omega)
      go_wp2
      go_ret2
      refine ⟨bq, i, br, m + 1, rfl, qs, mkHid ⟨by have := H.out.1.lq; have := HQ.out; omega, H.out.1.okq, by rw [HE.out.1, HSD.out.1], ?_, S.out.1, by have h1 := HBQ.out; have h2 := RY.out.2.2.2.2.2.size; have h3 := RX.out.2.2.2.2.2.size; omega, by have h1 := HBK.out; have h2 := RY.out.2.2.2.2.2.size; omega, ?_⟩⟩
      · have h := H.out.2.2.1.keep S.out.2 HBB.out
        simpa using h
      · exact H.out.2.2.2.2.trans (S.out.2.toBelow (by have h1 := HBK.out; have h2 := RY.out.2.2.2.2.2.size; omega) H.out.2.2.2.2.size)
end Go.Proofs.YtflcdpolfimggaaDoor
namespace Go.Proofs.YtflcdpolfimggaaDoor
open Go.RowKit

theorem div_step (r x d : Nat) (hr : r < d) (hx : x < 18446744073709551616) : (r * 18446744073709551616 + x) / d < 18446744073709551616 := by
  rw [Nat.div_lt_iff_lt_mul (by omega)]
  have : (r + 1) * 18446744073709551616 ≤ d * 18446744073709551616 := Nat.mul_le_mul_right _ hr
  rw [Nat.mul_comm 18446744073709551616]; omega

def DivInv (l : List Nat) (d k r : Nat) (zs : List Nat) : Prop :=
  k + zs.length = l.length ∧ M.Ok zs ∧ r < d ∧ M.val (l.drop k) = M.val zs * d + r

theorem DivInv.step {l : List Nat} {d k r : Nat} {zs : List Nat} (h : DivInv l d (k + 1) r zs) (okl : M.Ok l) (hk : k < l.length) (x : Nat) (hx : l[k] = x) :
    DivInv l d k ((r * 18446744073709551616 + x) % d) ((r * 18446744073709551616 + x) / d :: zs) := by
  obtain ⟨h1, h2, h3, h4⟩ := h
  have hxB : x < M.B := by rw [← hx]; exact okl.get hk
  rw [M.B_eq] at hxB
  refine ⟨by simp; omega, M.Ok.cons (by rw [M.B_eq]; exact div_step r x d h3 hxB) h2, Nat.mod_lt _ (by omega), ?_⟩
  rw [List.drop_eq_getElem_cons hk, M.val_cons, M.val_cons, h4, hx, M.B_eq]
  have e := Nat.div_add_mod' (r * 18446744073709551616 + x) d
  generalize (r * 18446744073709551616 + x) % d = r' at *
  rw [Nat.add_mul, Nat.mul_add, Nat.mul_assoc]
  omega

set_option maxRecDepth 100000 in
set_option maxHeartbeats 1000000 in
theorem divideByWord_any (b off cap d : Nat) (l : List Nat) (w : World) (hw : Words w b off l) (hb : l.length ≤ 1152921504606846976) (okl : M.Ok l) (hd : 0 < d) (hdB : d < M.B) :
    Calls Tryd.prog 57 #[.slice (some ⟨b, off, none⟩) l.length cap, .int .u64 d] w fun e w' => e = .returned (.int .u64 ((M.val l % d : Nat) : Int)) ∧
      ∃ zs, Hid (zs.length = l.length ∧ M.Ok zs ∧ M.val zs = M.val l / d ∧ Words w' b off zs ∧ Wr w w' b off (off + l.length)) := by
  have HW := Lib.hid hw; clear hw
  have OL := Lib.hid okl; clear okl
  have HD := Lib.hid hd; clear hd
  have HDB := Lib.hid hdB; clear hdB
  go_enter Tryd.func57, Tryd.ntmps57
  go_wp2
  go_loopw [5, 10] (fun rv iv wr => ∃ i r : Nat, i ≤ l.length ∧ iv = .int .i64 i ∧ rv = .int .u64 r ∧ ∃ zs, Hid (DivInv l d (l.length - i) r zs ∧ Words wr b off (l.take (l.length - i) ++ zs) ∧ Wr w wr b off (off + l.length)))
    (fun _ iv _ => l.length - (intOf iv).toNat)
  case atStart => exact ⟨0, 0, by omega, rfl, rfl, [], ⟨by simp, M.Ok.nil, HD.out, by simp⟩, by simpa using HW.out, Wr.refl _ _ _ _⟩
  case round =>
    obtain ⟨i, r, hi, rfl, rfl, zs, H⟩ := hrel
    by_cases hlt : i < l.length
    · obtain ⟨k, hk⟩ : ∃ k, l.length - i = k + 1 := ⟨l.length - i - 1, by omega⟩
      rw [hk] at H
      have hkl : k < l.length := by omega
      obtain ⟨hc, hf⟩ := (H.out.2.1).atTop hkl
      have hik : (l.length : Int) - 1 - (i : Int) = (k : Int) := by omega
      obtain ⟨x, ex⟩ : ∃ x, l[k] = x := ⟨_, rfl⟩
      rw [ex] at hc
      have EX := Lib.hid ex; clear ex
      have HK := Lib.hid hk; clear hk
      have hxB : Hid (x < M.B) := mkHid (by rw [← EX.out]; exact OL.out.get hkl)
      have HM : Hid (∀ w, Calls Tryd.prog 86 #[.int .u64 r, .int .u64 x, .int .u64 d] w fun e w' => e = .returned (.tuple #[.int .u64 (((r * 18446744073709551616 + x) / d : Nat) : Int), .int .u64 (((r * 18446744073709551616 + x) % d : Nat) : Int)]) ∧ ∃ n, w' = w.drewN n) :=
        mkHid fun w => div64_any r x d w H.out.1.2.2.1 HDB.out hxB.out
      obtain ⟨q, eq⟩ : ∃ q, (r * 18446744073709551616 + x) / d = q := ⟨_, rfl⟩
      obtain ⟨r', er⟩ : ∃ r', (r * 18446744073709551616 + x) % d = r' := ⟨_, rfl⟩
      rw [eq, er] at HM
      have EQ := Lib.hid eq; have ER := Lib.hid er; clear eq er
      go_wp2_with (go_at_call 86; refine (HM.out _).mono ?_; rintro e w' ⟨rfl, n, rfl⟩)
      go_roundw
      case rel =>
        refine ⟨i + 1, r', hlt, by go_num, rfl, q :: zs, mkHid ?_⟩
        obtain ⟨h1, h2, h3⟩ := H.out
        have hk2 := HK.out
        rw [show l.length - (i + 1) = k by omega]
        have hs := h1.step OL.out hkl x EX.out
        rw [EQ.out, ER.out] at hs
        exact ⟨hs, h2.drewN n |>.snocTop hkl q, (h3.drewN n).setCell (by omega) (by omega) _⟩
      case measure => simp [intOf]; omega
    · have hie : i = l.length := by omega
      subst hie
      go_wp2
      go_ret
      obtain ⟨⟨h1, h2, h3, h4⟩, h5, h6⟩ := H.out
      rw [Nat.sub_self] at h1 h4 h5
      simp only [List.drop_zero, List.take_zero, List.nil_append, Nat.zero_add] at h1 h4 h5
      have hd := HD.out
      refine ⟨?_, zs, mkHid ⟨h1, h2, ?_, h5, h6⟩⟩
      · rw [h4, Nat.mul_comm, Nat.mul_add_mod, Nat.mod_eq_of_lt h3]; rfl
      · rw [h4, Nat.mul_comm, Nat.mul_add_div hd, Nat.div_eq_of_lt h3, Nat.add_zero]

/-! ### scaleWords -/

theorem scale_mac (x d c : Nat) (hx : x < M.B) (hd : d < M.B) (hc : c < M.B) : ∃ h l s c1 t c2, Mac x d c 0 h l s c1 t c2 ∧ s = t ∧ c2 = 0 := by
  obtain ⟨h, l, s, c1, t, c2, m⟩ := mac x d c 0 hx hd hc M.B_pos
  refine ⟨h, l, s, c1, t, c2, m, ?_, ?_⟩
  · have h1 := m.et; have h2 := m.es; rw [Nat.zero_add] at h1
    have : s < 18446744073709551616 := by rw [← h2]; exact Nat.mod_lt _ (by omega)
    rw [Nat.mod_eq_of_lt this] at h1; exact h1
  · have h1 := m.ec2; have h2 := m.es; rw [Nat.zero_add] at h1
    have : s < 18446744073709551616 := by rw [← h2]; exact Nat.mod_lt _ (by omega)
    rw [Nat.div_eq_of_lt this] at h1; exact h1.symm

def ScaleInv (l : List Nat) (d c0 i c : Nat) (zs : List Nat) : Prop :=
  zs.length = i ∧ M.Ok zs ∧ c < M.B ∧ M.val zs + M.B ^ i * c = M.val (l.take i) * d + c0

theorem scale_arith (b p zv c x d t c' X c0 : Nat) (h : zv + p * c = X * d + c0) (e : 0 + d * x + c = t + b * c') : zv + p * t + p * b * c' = (X + p * x) * d + c0 := by
  have h1 : p * (0 + d * x + c) = p * (t + b * c') := by rw [e]
  have h2 : p * (d * x) = p * x * d := by rw [Nat.mul_comm d x, Nat.mul_assoc]
  simp only [Nat.mul_add, Nat.zero_add] at h1
  rw [h2] at h1
  rw [Nat.add_mul, Nat.mul_assoc p b c']
  omega

theorem ScaleInv.step {l : List Nat} {d c0 i c : Nat} {zs : List Nat} (H : ScaleInv l d c0 i c zs) (x h lo s c1 t c2 : Nat) (hx : M.val (l.take (i + 1)) = M.val (l.take i) + M.B ^ i * x)
    (m : Mac x d c 0 h lo s c1 t c2) (hst : s = t) (h0 : c2 = 0) : ScaleInv l d c0 (i + 1) (h + c1) (zs ++ [s]) := by
  obtain ⟨h1, h2, h3, h4⟩ := H
  subst hst; subst h0
  refine ⟨by simp [h1], h2.append (M.Ok.cons m.b3 M.Ok.nil), ?_, ?_⟩
  · have := m.b1; rw [M.B_eq]; omega
  · rw [M.val_snoc, h1, hx, Nat.pow_succ]
    exact scale_arith _ _ _ c x d s _ _ _ h4 m.e

set_option maxRecDepth 100000 in
set_option maxHeartbeats 1000000 in
theorem scaleWords_any (b cap d c0 base : Nat) (l : List Nat) (w : World) (hw : Row w b cap l) (hbase : base ≤ b) (hb : l.length ≤ 1000000) (okl : M.Ok l) (hd : d < M.B) (hc : c0 < M.B) :
    Calls Tryd.prog 61 #[.slice (some ⟨b, 0, none⟩) l.length cap, .int .u64 d, .int .u64 c0] w fun e w' => ∃ b' cap', e = .returned (.slice (some ⟨b', 0, none⟩) (l.length + 1) cap') ∧
      ∃ zs, Hid (zs.length = l.length + 1 ∧ M.Ok zs ∧ M.val zs = M.val l * d + c0 ∧ base ≤ b' ∧ Row w' b' cap' zs ∧ Below base w w') := by
  have hcap := hw.cap
  have HCAP := Lib.hid hcap; clear hcap
  have HW := Lib.hid hw; clear hw
  have OL := Lib.hid okl; clear okl
  have HD := Lib.hid hd; clear hd
  have HC := Lib.hid hc; clear hc
  have HB := Lib.hid hbase; clear hbase
  obtain ⟨i0, hi, hz0, hz1, hz2⟩ := info_parts info64
  have hi' := Lib.hid hi; have hz0' := Lib.hid hz0; have hz1' := Lib.hid hz1; have hz2' := Lib.hid hz2; clear hi hz0 hz1 hz2
  go_enter Tryd.func61, Tryd.ntmps61
  go_wp2
  go_loopw [2, 13] (fun cv iv wr => ∃ i c : Nat, i ≤ l.length ∧ iv = .int .i64 i ∧ cv = .int .u64 c ∧ ∃ zs, Hid (ScaleInv l d c0 i c zs ∧ Words wr b 0 (zs ++ l.drop i) ∧ Wr w wr b 0 l.length))
    (fun _ iv _ => l.length - (intOf iv).toNat)
  case atStart => exact ⟨0, c0, by omega, rfl, rfl, [], ⟨rfl, M.Ok.nil, HC.out, by simp⟩, by simpa using HW.out.words, Wr.refl _ _ _ _⟩
  case round =>
    obtain ⟨i, c, hi, rfl, rfl, zs, H⟩ := hrel
    by_cases hlt : i < l.length
    · obtain ⟨hcx, hfx⟩ := (H.out.2.1).at H.out.1.1 hlt
      rw [Nat.zero_add] at hcx hfx
      obtain ⟨x, ex⟩ : ∃ x, l[i] = x := ⟨_, rfl⟩
      rw [ex] at hcx
      have EX := Lib.hid ex; clear ex
      have BX : Hid (x < M.B) := mkHid (by rw [← EX.out]; exact OL.out.get hlt)
      obtain ⟨h, lo, s, c1, t, c2, MM, hst, hc2⟩ := scale_mac x d c BX.out HD.out H.out.1.2.2.1
      have HM : Hid (∀ w, Calls Tryd.prog 70 #[.int .u64 x, .int .u64 d] w fun e w' => e = .returned (.tuple #[.int .u64 (h : Int), .int .u64 (lo : Int)]) ∧ w' = w) := mkHid fun w => by
        have := Tryd.bits_Mul64 x d BX.out HD.out w
        rwa [MM.eh, MM.el] at this
      have hadd1 := add64_run_c0 lo c
      rw [MM.es, MM.ec1] at hadd1
      have b1 := MM.b1
      have HMM := Lib.hid MM; clear MM
      have HST := Lib.hid hst; have HC2 := Lib.hid hc2; clear hst hc2
      go_wp2_with (go_at_call 70; refine (HM.out _).mono ?_; rintro e w' ⟨rfl, rfl⟩)
      go_roundw
      case rel =>
        refine ⟨i + 1, h + c1, hlt, by go_num, by go_num, zs ++ [s], ?_⟩
        obtain ⟨h1, h2, h3⟩ := H.out
        have k1 := M.val_take_succ (l := l) hlt
        rw [EX.out] at k1
        have h4 := h2.snoc h1.1 hlt s
        rw [Nat.zero_add] at h4
        exact ⟨h1.step x h lo s c1 t c2 k1 HMM.out HST.out HC2.out, h4, h3.setCell (by omega) hlt _⟩
      case measure => simp [intOf]; omega
    · have hie : i = l.length := by omega
      subst hie
      have hlen : zs.length = l.length := H.out.1.1
      have HR : Hid (Row wr b cap zs) := by
        obtain ⟨h1, h2, h3⟩ := H.out
        rw [List.drop_length, List.append_nil] at h2
        exact mkHid (HW.out.after h3 h2 (by have := HCAP.out; omega))
      have hown := HR.out.own HB.out
      rw [hlen] at hown
      have HO := Lib.hid hown; clear hown
      have HLEN := Lib.hid hlen; clear hlen
      have hbw : base ≤ wr.heap.size := by have := HR.out.lt; have := HB.out; omega
      go_wp2_with (at_builtin; refine wpList_append_own _ rfl _ _ 76 rfl base 22 i0 (.int .u64 0) 1 8 Tryd.underlying76 hi'.out hz0'.out hz1'.out hz2'.out rfl (by decide) _ _ _ rfl (HO.out.alloc _) ⟨wr.heap.size, 0, none⟩ 1 1 [.int .u64 (c : Int)] rfl rfl ?c1 ?c2 ?c3 ?c4 ?c5 ?_)
      case c1 => exact new_one wr _ _
      case c2 => intro u hu; simp at hu; subst hu; rfl
      case c3 => unfold maxLen; omega
      case c4 => omega
      case c5 => simp; omega
      intro v' w' hown' hgrow _
      have HOW := Lib.hid hown'; have HG := Lib.hid hgrow; clear hown' hgrow
      go_wp2
      go_ret
      obtain ⟨⟨h1, h2, h3, h4⟩, h5, h6⟩ := H.out
      have hown2 := HOW.out
      rw [show ws zs ++ [Value.int .u64 (c : Int)] = ws (zs ++ [c]) from ws_append zs [c]] at hown2
      obtain ⟨b', cap', rfl, hb', hrow, hn⟩ := Row.ofOwn hown2 (by omega)
      refine ⟨b', cap', by rw [← hn]; rfl, zs ++ [c], mkHid ⟨hn.symm, h2.append (M.Ok.cons h3 M.Ok.nil), ?_, hb', hrow, ?_⟩⟩
      · rw [M.val_snoc, h1, h4, List.take_of_length_le (Nat.le_refl _)]
      · have e1 : Below base w wr := h6.toBelow HB.out (by have := HW.out.lt; have := HB.out; omega)
        have e2 : Below base wr (wr.alloc (.cells #[.int .u64 (c : Int)] 22)) := (Below.refl _ _).alloc hbw _
        exact (e1.trans e2).grown HG.out (by simp; omega) (fun k hk => by simp [Value.ownBlock] at hk; have := HB.out; omega)
end Go.Proofs.YtflcdpolfimggaaDoor
