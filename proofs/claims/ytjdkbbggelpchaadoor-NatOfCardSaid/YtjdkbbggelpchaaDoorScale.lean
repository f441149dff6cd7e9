/- The contracts of divideByWord and scaleWords. -/
import Derived.Test.YtjdkbbggelpchaaDoorProd
import Derived.Test.YtjdkbbggelpchaaDoorDiv64
namespace Go.Proofs.YtjdkbbggelpchaaDoor
open Go.RowKit

theorem div_step (r x d : Nat) (hr : r < d) (hx : x < 18446744073709551616) : (r * 18446744073709551616 + x) / d < 18446744073709551616 := by
  rw [Nat.div_lt_iff_lt_mul (by omega)]
  have : (r + 1) * 18446744073709551616 ≤ d * 18446744073709551616 := Nat.mul_le_mul_right _ hr
  rw [Nat.mul_comm 18446744073709551616]; omega

def DivInv (l : List Nat) (d k r : Nat) (zs : List Nat) : Prop :=
  k + zs.length = l.length ∧ M.Ok zs ∧ r < d ∧ M.val (l.drop k) = M.val zs * d + r

theorem DivInv.step {l : List Nat} {d k r : Nat} {zs : List Nat} (h : DivInv l d (k + 1) r zs) (okl : M.Ok l) (hk : k < l.length) (x : Nat) (hx : l[k] = x) :
    DivInv l d k ((r * 18446744073709551616 + x) % d) ((r * 18446744073709551616 + x) / d :: zs) := by
  obtain ⟨h1, h2, h3, h4⟩ := h
  have hxB : x < M.B := by rw [← hx]; exact okl.get hk
  rw [M.B_eq] at hxB
  refine ⟨by simp; omega, M.Ok.cons (by rw [M.B_eq]; exact div_step r x d h3 hxB) h2, Nat.mod_lt _ (by omega), ?_⟩
  rw [List.drop_eq_getElem_cons hk, M.val_cons, M.val_cons, h4, hx, M.B_eq]
  have e := Nat.div_add_mod' (r * 18446744073709551616 + x) d
  generalize (r * 18446744073709551616 + x) % d = r' at *
  rw [Nat.add_mul, Nat.mul_add, Nat.mul_assoc]
  omega

set_option maxRecDepth 100000 in
set_option maxHeartbeats 1000000 in
theorem divideByWord_any (b off cap d : Nat) (l : List Nat) (w : World) (hw : Words w b off l) (hb : l.length ≤ 1152921504606846976) (okl : M.Ok l) (hd : 0 < d) (hdB : d < M.B) :
    Calls Tryd.prog 47 #[.slice (some ⟨b, off, none⟩) l.length cap, .int .u64 d] w fun e w' => e = .returned (.int .u64 ((M.val l % d : Nat) : Int)) ∧
      ∃ zs, Hid (zs.length = l.length ∧ M.Ok zs ∧ M.val zs = M.val l / d ∧ Words w' b off zs ∧ Wr w w' b off (off + l.length)) := by
  have HW := Lib.hid hw; clear hw
  have OL := Lib.hid okl; clear okl
  have HD := Lib.hid hd; clear hd
  have HDB := Lib.hid hdB; clear hdB
  go_enter Tryd.func47, Tryd.ntmps47
  go_wp2
  go_loopw [5, 10] (fun rv iv wr => ∃ i r : Nat, i ≤ l.length ∧ iv = .int .i64 i ∧ rv = .int .u64 r ∧ ∃ zs, Hid (DivInv l d (l.length - i) r zs ∧ Words wr b off (l.take (l.length - i) ++ zs) ∧ Wr w wr b off (off + l.length)))
    (fun _ iv _ => l.length - (intOf iv).toNat)
  case atStart => exact ⟨0, 0, by omega, rfl, rfl, [], ⟨by simp, M.Ok.nil, HD.out, by simp⟩, by simpa using HW.out, Wr.refl _ _ _ _⟩
  case round =>
    obtain ⟨i, r, hi, rfl, rfl, zs, H⟩ := hrel
    by_cases hlt : i < l.length
    · obtain ⟨k, hk⟩ : ∃ k, l.length - i = k + 1 := ⟨l.length - i - 1, by omega⟩
      rw [hk] at H
      have hkl : k < l.length := by omega
      obtain ⟨hc, hf⟩ := (H.out.2.1).atTop hkl
      have hik : (l.length : Int) - 1 - (i : Int) = (k : Int) := by omega
      obtain ⟨x, ex⟩ : ∃ x, l[k] = x := ⟨_, rfl⟩
      rw [ex] at hc
      have EX := Lib.hid ex; clear ex
      have HK := Lib.hid hk; clear hk
      have hxB : Hid (x < M.B) := mkHid (by rw [← EX.out]; exact OL.out.get hkl)
      have HM : Hid (∀ w, Calls Tryd.prog 67 #[.int .u64 r, .int .u64 x, .int .u64 d] w fun e w' => e = .returned (.tuple #[.int .u64 (((r * 18446744073709551616 + x) / d : Nat) : Int), .int .u64 (((r * 18446744073709551616 + x) % d : Nat) : Int)]) ∧ ∃ n, w' = w.drewN n) :=
        mkHid fun w => div64_any r x d w H.out.1.2.2.1 HDB.out hxB.out
      obtain ⟨q, eq⟩ : ∃ q, (r * 18446744073709551616 + x) / d = q := ⟨_, rfl⟩
      obtain ⟨r', er⟩ : ∃ r', (r * 18446744073709551616 + x) % d = r' := ⟨_, rfl⟩
      rw [eq, er] at HM
      have EQ := Lib.hid eq; have ER := Lib.hid er; clear eq er
      go_wp2_with (go_at_call 67; refine (HM.out _).mono ?_; rintro e w' ⟨rfl, n, rfl⟩)
      go_roundw
      case rel =>
        refine ⟨i + 1, r', hlt, by go_num, rfl, q :: zs, mkHid ?_⟩
        obtain ⟨h1, h2, h3⟩ := H.out
        have hk2 := HK.out
        rw [show l.length - (i + 1) = k by omega]
        have hs := h1.step OL.out hkl x EX.out
        rw [EQ.out, ER.out] at hs
        exact ⟨hs, h2.drewN n |>.snocTop hkl q, (h3.drewN n).setCell (by omega) (by omega) _⟩
      case measure => simp [intOf]; omega
    · have hie : i = l.length := by omega
      subst hie
      go_wp2
      go_ret
      obtain ⟨⟨h1, h2, h3, h4⟩, h5, h6⟩ := H.out
      rw [Nat.sub_self] at h1 h4 h5
      simp only [List.drop_zero, List.take_zero, List.nil_append, Nat.zero_add] at h1 h4 h5
      have hd := HD.out
      refine ⟨?_, zs, mkHid ⟨h1, h2, ?_, h5, h6⟩⟩
      · rw [h4, Nat.mul_comm, Nat.mul_add_mod, Nat.mod_eq_of_lt h3]; rfl
      · rw [h4, Nat.mul_comm, Nat.mul_add_div hd, Nat.div_eq_of_lt h3, Nat.add_zero]

/-! ### scaleWords -/

theorem scale_mac (x d c : Nat) (hx : x < M.B) (hd : d < M.B) (hc : c < M.B) : ∃ h l s c1 t c2, Mac x d c 0 h l s c1 t c2 ∧ s = t ∧ c2 = 0 := by
  obtain ⟨h, l, s, c1, t, c2, m⟩ := mac x d c 0 hx hd hc M.B_pos
  refine ⟨h, l, s, c1, t, c2, m, ?_, ?_⟩
  · have h1 := m.et; have h2 := m.es; rw [Nat.zero_add] at h1
    have : s < 18446744073709551616 := by rw [← h2]; exact Nat.mod_lt _ (by omega)
    rw [Nat.mod_eq_of_lt this] at h1; exact h1
  · have h1 := m.ec2; have h2 := m.es; rw [Nat.zero_add] at h1
    have : s < 18446744073709551616 := by rw [← h2]; exact Nat.mod_lt _ (by omega)
    rw [Nat.div_eq_of_lt this] at h1; exact h1.symm

def ScaleInv (l : List Nat) (d c0 i c : Nat) (zs : List Nat) : Prop :=
  zs.length = i ∧ M.Ok zs ∧ c < M.B ∧ M.val zs + M.B ^ i * c = M.val (l.take i) * d + c0

theorem scale_arith (b p zv c x d t c' X c0 : Nat) (h : zv + p * c = X * d + c0) (e : 0 + d * x + c = t + b * c') : zv + p * t + p * b * c' = (X + p * x) * d + c0 := by
  have h1 : p * (0 + d * x + c) = p * (t + b * c') := by rw [e]
  have h2 : p * (d * x) = p * x * d := by rw [Nat.mul_comm d x, Nat.mul_assoc]
  simp only [Nat.mul_add, Nat.zero_add] at h1
  rw [h2] at h1
  rw [Nat.add_mul, Nat.mul_assoc p b c']
  omega

theorem ScaleInv.step {l : List Nat} {d c0 i c : Nat} {zs : List Nat} (H : ScaleInv l d c0 i c zs) (x h lo s c1 t c2 : Nat) (hx : M.val (l.take (i + 1)) = M.val (l.take i) + M.B ^ i * x)
    (m : Mac x d c 0 h lo s c1 t c2) (hst : s = t) (h0 : c2 = 0) : ScaleInv l d c0 (i + 1) (h + c1) (zs ++ [s]) := by
  obtain ⟨h1, h2, h3, h4⟩ := H
  subst hst; subst h0
  refine ⟨by simp [h1], h2.append (M.Ok.cons m.b3 M.Ok.nil), ?_, ?_⟩
  · have := m.b1; rw [M.B_eq]; omega
  · rw [M.val_snoc, h1, hx, Nat.pow_succ]
    exact scale_arith _ _ _ c x d s _ _ _ h4 m.e

set_option maxRecDepth 100000 in
set_option maxHeartbeats 1000000 in
theorem scaleWords_any (b cap d c0 base : Nat) (l : List Nat) (w : World) (hw : Row w b cap l) (hbase : base ≤ b) (hb : l.length ≤ 1000000) (okl : M.Ok l) (hd : d < M.B) (hc : c0 < M.B) :
    Calls Tryd.prog 55 #[.slice (some ⟨b, 0, none⟩) l.length cap, .int .u64 d, .int .u64 c0] w fun e w' => ∃ b' cap', e = .returned (.slice (some ⟨b', 0, none⟩) (l.length + 1) cap') ∧
      ∃ zs, Hid (zs.length = l.length + 1 ∧ M.Ok zs ∧ M.val zs = M.val l * d + c0 ∧ base ≤ b' ∧ Row w' b' cap' zs ∧ Below base w w') := by
  have hcap := hw.cap
  have HCAP := Lib.hid hcap; clear hcap
  have HW := Lib.hid hw; clear hw
  have OL := Lib.hid okl; clear okl
  have HD := Lib.hid hd; clear hd
  have HC := Lib.hid hc; clear hc
  have HB := Lib.hid hbase; clear hbase
  obtain ⟨i0, hi, hz0, hz1, hz2⟩ := info_parts info64
  have hi' := Lib.hid hi; have hz0' := Lib.hid hz0; have hz1' := Lib.hid hz1; have hz2' := Lib.hid hz2; clear hi hz0 hz1 hz2
  go_enter Tryd.func55, Tryd.ntmps55
  go_wp2
  go_loopw [2, 13] (fun cv iv wr => ∃ i c : Nat, i ≤ l.length ∧ iv = .int .i64 i ∧ cv = .int .u64 c ∧ ∃ zs, Hid (ScaleInv l d c0 i c zs ∧ Words wr b 0 (zs ++ l.drop i) ∧ Wr w wr b 0 l.length))
    (fun _ iv _ => l.length - (intOf iv).toNat)
  case atStart => exact ⟨0, c0, by omega, rfl, rfl, [], ⟨rfl, M.Ok.nil, HC.out, by simp⟩, by simpa using HW.out.words, Wr.refl _ _ _ _⟩
  case round =>
    obtain ⟨i, c, hi, rfl, rfl, zs, H⟩ := hrel
    by_cases hlt : i < l.length
    · obtain ⟨hcx, hfx⟩ := (H.out.2.1).at H.out.1.1 hlt
      rw [Nat.zero_add] at hcx hfx
      obtain ⟨x, ex⟩ : ∃ x, l[i] = x := ⟨_, rfl⟩
      rw [ex] at hcx
      have EX := Lib.hid ex; clear ex
      have BX : Hid (x < M.B) := mkHid (by rw [← EX.out]; exact OL.out.get hlt)
      obtain ⟨h, lo, s, c1, t, c2, MM, hst, hc2⟩ := scale_mac x d c BX.out HD.out H.out.1.2.2.1
      have HM : Hid (∀ w, Calls Tryd.prog 49 #[.int .u64 x, .int .u64 d] w fun e w' => e = .returned (.tuple #[.int .u64 (h : Int), .int .u64 (lo : Int)]) ∧ w' = w) := mkHid fun w => by
        have := Tryd.bits_Mul64 x d BX.out HD.out w
        rwa [MM.eh, MM.el] at this
      have hadd1 := add64_run_c0 lo c
      rw [MM.es, MM.ec1] at hadd1
      have b1 := MM.b1
      have HMM := Lib.hid MM; clear MM
      have HST := Lib.hid hst; have HC2 := Lib.hid hc2; clear hst hc2
      go_wp2_with (go_at_call 49; refine (HM.out _).mono ?_; rintro e w' ⟨rfl, rfl⟩)
      go_roundw
      case rel =>
        refine ⟨i + 1, h + c1, hlt, by go_num, by go_num, zs ++ [s], ?_⟩
        obtain ⟨h1, h2, h3⟩ := H.out
        have k1 := M.val_take_succ (l := l) hlt
        rw [EX.out] at k1
        have h4 := h2.snoc h1.1 hlt s
        rw [Nat.zero_add] at h4
        exact ⟨h1.step x h lo s c1 t c2 k1 HMM.out HST.out HC2.out, h4, h3.setCell (by omega) hlt _⟩
      case measure => simp [intOf]; omega
    · have hie : i = l.length := by omega
      subst hie
      have hlen : zs.length = l.length := H.out.1.1
      have HR : Hid (Row wr b cap zs) := by
        obtain ⟨h1, h2, h3⟩ := H.out
        rw [List.drop_length, List.append_nil] at h2
        exact mkHid (HW.out.after h3 h2 (by have := HCAP.out; omega))
      have hown := HR.out.own HB.out
      rw [hlen] at hown
      have HO := Lib.hid hown; clear hown
      have HLEN := Lib.hid hlen; clear hlen
      have hbw : base ≤ wr.heap.size := by have := HR.out.lt; have := HB.out; omega
      go_wp2_with (at_builtin; refine wpList_append_own _ rfl _ _ 60 rfl base 24 i0 (.int .u64 0) 1 8 Tryd.underlying60 hi'.out hz0'.out hz1'.out hz2'.out rfl (by decide) _ _ _ rfl (HO.out.alloc _) ⟨wr.heap.size, 0, none⟩ 1 1 [.int .u64 (c : Int)] rfl rfl ?c1 ?c2 ?c3 ?c4 ?c5 ?_)
      case c1 => exact new_one wr _ _
      case c2 => intro u hu; simp at hu; subst hu; rfl
      case c3 => unfold maxLen; omega
      case c4 => omega
      case c5 => simp; omega
      intro v' w' hown' hgrow _
      have HOW := Lib.hid hown'; have HG := Lib.hid hgrow; clear hown' hgrow
      go_wp2
      go_ret
      obtain ⟨⟨h1, h2, h3, h4⟩, h5, h6⟩ := H.out
      have hown2 := HOW.out
      rw [show ws zs ++ [Value.int .u64 (c : Int)] = ws (zs ++ [c]) from ws_append zs [c]] at hown2
      obtain ⟨b', cap', rfl, hb', hrow, hn⟩ := Row.ofOwn hown2 (by omega)
      refine ⟨b', cap', by rw [← hn]; rfl, zs ++ [c], mkHid ⟨hn.symm, h2.append (M.Ok.cons h3 M.Ok.nil), ?_, hb', hrow, ?_⟩⟩
      · rw [M.val_snoc, h1, h4, List.take_of_length_le (Nat.le_refl _)]
      · have e1 : Below base w wr := h6.toBelow HB.out (by have := HW.out.lt; have := HB.out; omega)
        have e2 : Below base wr (wr.alloc (.cells #[.int .u64 (c : Int)] 24)) := (Below.refl _ _).alloc hbw _
        exact (e1.trans e2).grown HG.out (by simp; omega) (fun k hk => by simp [Value.ownBlock] at hk; have := HB.out; omega)
end Go.Proofs.YtjdkbbggelpchaaDoor
