/- The contracts of shiftLeft, shiftRight. -/
import Derived.Test.YtjdkbbggelpchaaDoorW2
import Derived.Test.YtjdkbbggelpchaaDoorTrim
import Derived.Test.YtjdkbbggelpchaaDoorBits
namespace Go.Proofs.YtjdkbbggelpchaaDoor
open Go.RowKit

theorem shl_or (x c s : Nat) (hc : c < 2 ^ s) : (x * 2 ^ s % 18446744073709551616) ||| c = x * 2 ^ s % 18446744073709551616 + c ∨ 64 < s := by
  by_cases hs : 64 < s
  · exact .inr hs
  · refine .inl (or_disjoint _ _ s hc ?_)
    have hd : (2 : Nat) ^ s ∣ 18446744073709551616 := by
      rw [show (18446744073709551616 : Nat) = 2 ^ 64 by rfl]; exact Nat.pow_dvd_pow 2 (by omega)
    exact (Nat.dvd_mod_iff hd).2 ⟨x, Nat.mul_comm _ _⟩

/-- A word shifted to the left, with what comes from below. -/
structure Shl (x c s a d c' : Nat) : Prop where
  ea : IntKind.u64.wrap ((x : Int) * 2 ^ s) = (a : Int)
  ed : bits .or .u64 (a : Int) (c : Int) = (d : Int)
  ec : (x : Int) / 2 ^ (64 - s) = (c' : Int)
  bd : d < M.B
  bc : c' < 2 ^ s
  e : d + M.B * c' = x * 2 ^ s + c

theorem shl (x c s : Nat) (hs : s < 64) (hx : x < M.B) (hc : c < 2 ^ s) : ∃ a d c', Shl x c s a d c' := by
  rw [M.B_eq] at hx
  have hP := Nat.two_pow_pos s
  have hbs : 2 ^ s * 2 ^ (64 - s) = 18446744073709551616 := by rw [← Nat.pow_add, show s + (64 - s) = 64 by omega]
  have hR : 0 < 2 ^ (64 - s) := Nat.two_pow_pos _
  have hb : x / 2 ^ (64 - s) < 2 ^ s := by rw [Nat.div_lt_iff_lt_mul hR, hbs]; exact hx
  have e1 : x * 2 ^ s / 18446744073709551616 = x / 2 ^ (64 - s) := by rw [← hbs, Nat.mul_comm (2 ^ s) (2 ^ (64 - s)), Nat.mul_div_mul_right _ _ hP]
  have e2 := Nat.div_add_mod (x * 2 ^ s) 18446744073709551616
  have hor := (shl_or x c s hc).resolve_right (by omega)
  have hP64 : 2 ^ s ≤ 2 ^ 63 := Nat.pow_le_pow_right (by omega) (by omega)
  have hdvd : (2 : Nat) ^ s ∣ 18446744073709551616 := ⟨2 ^ (64 - s), hbs.symm⟩
  have hda : 2 ^ s ∣ x * 2 ^ s % 18446744073709551616 := (Nat.dvd_mod_iff hdvd).2 ⟨x, Nat.mul_comm _ _⟩
  have hlt : x * 2 ^ s % 18446744073709551616 < 18446744073709551616 := Nat.mod_lt _ (by omega)
  have hsum : x * 2 ^ s % 18446744073709551616 + c < 18446744073709551616 := by
    obtain ⟨k, hk⟩ := hda
    obtain ⟨m, hm⟩ := hdvd
    rw [hk]
    have : k < m := by
      apply Nat.lt_of_mul_lt_mul_left (a := 2 ^ s); rw [← hm, ← hk]; exact hlt
    have h2 : 2 ^ s * (k + 1) ≤ 2 ^ s * m := Nat.mul_le_mul_left _ this
    rw [Nat.mul_add, ← hm] at h2; omega
  refine ⟨x * 2 ^ s % 18446744073709551616, x * 2 ^ s % 18446744073709551616 + c, x / 2 ^ (64 - s), ?_, ?_, ?_, by rw [M.B_eq]; exact hsum, hb, ?_⟩
  · rw [IntKind.wrap_u64, show ((2 : Int) ^ s) = ((2 ^ s : Nat) : Int) by simp, ← Int.natCast_mul]; rfl
  · rw [bits_or_u64_nat _ _ hlt (by omega), hor]
  · rw [show ((2 : Int) ^ (64 - s)) = ((2 ^ (64 - s) : Nat) : Int) by simp]; rfl
  · rw [M.B_eq, ← e1]; omega

def ShlInv (m : List Nat) (s j c : Nat) (zs : List Nat) : Prop :=
  zs.length = j ∧ M.Ok zs ∧ c < 2 ^ s ∧ M.val zs + M.B ^ j * c = M.val (m.take j) * 2 ^ s

theorem shl_arith (b p zv c x P d c' X : Nat) (h : zv + p * c = X * P) (e : d + b * c' = x * P + c) : zv + p * d + p * b * c' = (X + p * x) * P := by
  have h1 : p * (d + b * c') = p * (x * P + c) := by rw [e]
  simp only [Nat.mul_add, ← Nat.mul_assoc] at h1
  rw [Nat.add_mul]
  omega

theorem ShlInv.step {m : List Nat} {s j c : Nat} {zs : List Nat} (H : ShlInv m s j c zs) (x a d c' : Nat) (hx : M.val (m.take (j + 1)) = M.val (m.take j) + M.B ^ j * x) (h : Shl x c s a d c') :
    ShlInv m s (j + 1) c' (zs ++ [d]) := by
  obtain ⟨h1, h2, h3, h4⟩ := H
  refine ⟨by simp [h1], h2.append (M.Ok.cons h.bd M.Ok.nil), h.bc, ?_⟩
  rw [M.val_snoc, h1, hx, Nat.pow_succ]
  exact shl_arith _ _ _ c x _ d _ _ h4 h.e

theorem B_two : M.B = 2 ^ 64 := rfl
theorem shl_end1 {l : List Nat} (h : M.Ok l) (s : Nat) (hs : s < 64) : M.val l * 2 ^ s < M.B ^ (l.length + 1) := by
  rw [Nat.pow_succ]
  have a1 := M.val_lt h
  have a2 : 2 ^ s ≤ M.B := by rw [B_two]; exact Nat.pow_le_pow_right (by omega) (by omega)
  exact Nat.lt_of_lt_of_le (Nat.mul_lt_mul_of_pos_right a1 (Nat.two_pow_pos s)) (Nat.mul_le_mul_left _ a2)
theorem shl_end2 (v s k : Nat) : M.B ^ k * (v * 2 ^ s) = v * 2 ^ (k * 64 + s) := by
  rw [Nat.pow_add, B_two, ← Nat.pow_mul, Nat.mul_comm 64 k, Nat.mul_left_comm]

set_option maxRecDepth 100000 in
set_option maxHeartbeats 2000000 in
theorem shiftLeft_any (b off cap n : Nat) (l : List Nat) (w : World) (hw : Words w b off l) (hlen : l.length ≤ 1000000) (okl : M.Ok l) (hn : n ≤ 1000000) :
    Calls Tryd.prog 59 #[.slice (some ⟨b, off, none⟩) l.length cap, .int .i64 n] w fun e w' => ∃ b', e = .returned (.slice (some ⟨b', 0, none⟩) (n / 64 + l.length + 1) (n / 64 + l.length + 1)) ∧
      ∃ zs, Hid (zs.length = n / 64 + l.length + 1 ∧ M.Ok zs ∧ M.val zs = M.val l * 2 ^ n ∧ w.heap.size ≤ b' ∧ Row w' b' (n / 64 + l.length + 1) zs ∧ Below w.heap.size w w') := by
  have HW := Lib.hid hw; clear hw
  have OL := Lib.hid okl; clear okl
  obtain ⟨k, hk⟩ : ∃ k, n / 64 = k := ⟨_, rfl⟩
  obtain ⟨s, hs⟩ : ∃ s, n % 64 = s := ⟨_, rfl⟩
  have hk' : (n : Int) / 64 = (k : Int) := by omega
  have hs' : (n : Int) % 64 = (s : Int) := by omega
  have hkb : k ≤ 1000000 := by omega
  have hsb : s < 64 := by omega
  rw [hk]
  have HN : Hid (n = k * 64 + s) := mkHid (by omega)
  clear hk hs
  obtain ⟨i0, hi, hz0, hz1, hz2⟩ := info_parts info64
  have hi' := Lib.hid hi; have hz0' := Lib.hid hz0; have hz1' := Lib.hid hz1; have hz2' := Lib.hid hz2; clear hi hz0 hz1 hz2
  have hsz1 : Hid ((Tryd.prog.info? 24).map (·.size) = some 1) := mkHid (by rw [hi'.out]; simp [hz1'.out])
  go_enter Tryd.func59, Tryd.ntmps59
  go_wp2_with (at_make; refine wpList_make_full _ rfl _ _ 60 rfl w.heap.size 24 i0 (.int .u64 0) 1 Tryd.underlying60 hi'.out hz0'.out hz1'.out _ _ _ _ (k + l.length + 1) rfl rfl (by omega) (by omega) ?bytes ?maxl ?base ?_)
  case bytes => rw [hz2'.out]; omega
  case maxl => unfold maxLen; omega
  case base => exact Nat.le_refl _
  intro w1 hown hgrow
  have HR : Hid (Row w1 w.heap.size (k + l.length + 1) (List.replicate (k + l.length + 1) 0)) := mkHid (Row.made hown (by omega))
  have HB1 : Hid (Below w.heap.size w w1) := mkHid (below_grown hgrow (Nat.le_refl _))
  clear hown hgrow
  obtain ⟨cur, hcur, hsize⟩ := HR.out.cur
  have HCUR := Lib.hid hcur; have HSZ := Lib.hid hsize; clear hcur hsize
  go_wp2_with (with_reducible refine wpList_copy_own rfl (.tmp 22) (.tmp 23) 60 60 rfl 24 Tryd.underlying60 hsz1.out w.heap.size k _ _ ⟨b, off, none⟩ _ _ rfl rfl cur 24 HCUR.out (ws l) ?c1 ?c2 ?c3 ?c4 ?_)
  case c1 => rw [ws_length]; exact (Nat.min_eq_left (by omega)).symm
  case c2 => exact words_cells (HW.out.grows HB1.out)
  case c3 => rw [ws_length]; have := HSZ.out; omega
  case c4 => exact ws_one l
  have HR2 := mkHid (HR.out.spliced (by simp) cur HCUR.out (cs := l) (off := k) (by omega))
  have HB2 := mkHid (below_setRow HB1.out (Nat.le_refl _) (cur.toList.take k ++ (ws l ++ cur.toList.drop (k + (ws l).length))).toArray)
  generalize w1.setRow w.heap.size _ = w2 at HR2 HB2 ⊢
  clear HCUR HSZ HR
  have hm : List.take k (List.replicate (k + l.length + 1) 0) ++ (l ++ List.drop (k + l.length) (List.replicate (k + l.length + 1) 0)) = List.replicate k 0 ++ (l ++ [0]) := by
    rw [List.take_replicate, List.drop_replicate, Nat.min_eq_left (by omega), show k + l.length + 1 - (k + l.length) = 1 by omega]; rfl
  rw [hm] at HR2
  clear hm
  go_wp2
  obtain ⟨m, hmm⟩ : ∃ m, m = l ++ [0] := ⟨_, rfl⟩
  rw [← hmm] at HR2
  have hml : m.length = l.length + 1 := by rw [hmm]; simp
  have HML := Lib.hid hml
  have HMM := Lib.hid hmm
  clear hml hmm
  go_loopw [8, 9] (fun cv iv wr => ∃ j c : Nat, j ≤ l.length + 1 ∧ iv = .int .i64 ((k + j : Nat) : Int) ∧ cv = .int .u64 c ∧ ∃ zs, Hid (ShlInv m s j c zs ∧ Words wr w.heap.size 0 ((List.replicate k 0 ++ zs) ++ m.drop j) ∧ Wr w2 wr w.heap.size k (k + l.length + 1)))
    (fun _ iv _ => k + l.length + 1 - (intOf iv).toNat)
  case atStart => exact ⟨0, 0, by omega, by simp, rfl, [], ⟨rfl, M.Ok.nil, Nat.two_pow_pos _, by simp⟩, by simpa using HR2.out.words, Wr.refl _ _ _ _⟩
  case round =>
    obtain ⟨j, c, hj, rfl, rfl, zs, H⟩ := hrel
    have hcast : ((k + j : Nat) : Int) = (k : Int) + (j : Int) := by omega
    by_cases hlt : j < l.length + 1
    · have HJM : Hid (j < m.length) := mkHid (by rw [HML.out]; exact hlt)
      have hdrop : m.drop j = m[j]'(HJM.out) :: m.drop (j + 1) := List.drop_eq_getElem_cons HJM.out
      obtain ⟨x, ex⟩ : ∃ x, m[j]'(HJM.out) = x := ⟨_, rfl⟩
      rw [ex] at hdrop
      have HDR := Lib.hid hdrop; clear hdrop
      have EX := Lib.hid ex; clear ex
      have HWM : Hid (Words wr w.heap.size 0 ((List.replicate k 0 ++ zs) ++ x :: m.drop (j + 1))) := mkHid (by rw [← HDR.out]; exact H.out.2.1)
      have hpl : (List.replicate k 0 ++ zs).length = k + j := by simp [H.out.1.1]
      obtain ⟨hcx, hfx⟩ := HWM.out.atMid hpl
      have HPL := Lib.hid hpl; clear hpl
      rw [Nat.zero_add] at hcx hfx
      have OM : Hid (M.Ok m) := mkHid (by rw [HMM.out]; exact OL.out.append (M.Ok.cons M.B_pos M.Ok.nil))
      have BX : Hid (x < M.B) := mkHid (by rw [← EX.out]; exact OM.out.get HJM.out)
      obtain ⟨a, d, c', SH⟩ := shl x c s hsb BX.out H.out.1.2.2.1
      have ea := SH.ea
      have ed := SH.ed
      have ec := SH.ec
      have HSH := Lib.hid SH; clear SH
      go_wp2
      go_region
      go_wp2
      go_roundw
      case rel =>
        refine ⟨j + 1, c', by omega, by go_num, rfl, zs ++ [d], mkHid ?_⟩
        obtain ⟨h1, h2, h3⟩ := H.out
        have k1 := M.val_take_succ (l := m) HJM.out
        rw [EX.out] at k1
        have h4 := HWM.out.setMid HPL.out d
        rw [Nat.zero_add] at h4
        refine ⟨h1.step x a d c' k1 HSH.out, ?_, (h3.setCell (by omega) (by omega) _).drew⟩
        have e5 : (List.replicate k 0 ++ zs) ++ d :: m.drop (j + 1) = (List.replicate k 0 ++ (zs ++ [d])) ++ m.drop (j + 1) := by simp
        rw [← e5]; exact h4
      case measure => simp [intOf]; omega
    · have hje : j = l.length + 1 := by omega
      subst hje
      go_wp2
      go_ret
      obtain ⟨⟨h1, h2, h3, h4⟩, h5, h6⟩ := H.out
      have hml := HML.out
      rw [List.drop_of_length_le (by omega), List.append_nil] at h5
      rw [List.take_of_length_le (by omega)] at h4
      have hmv : M.val m = M.val l := by rw [HMM.out, M.val_snoc]; simp
      rw [hmv] at h4
      have hlt2 := shl_end1 OL.out s hsb
      have hc0 : c = 0 := by
        apply Classical.byContradiction; intro hne
        have := Nat.mul_le_mul_left (M.B ^ (l.length + 1)) (show 1 ≤ c by omega)
        omega
      subst hc0
      refine ⟨w.heap.size, by show Ending.returned _ = _; rfl, List.replicate k 0 ++ zs, mkHid ⟨by simp [h1]; omega, (M.Ok.zeros k).append h2, ?_, Nat.le_refl _, ?_, ?_⟩⟩
      · rw [M.val_append, M.val_zeros, List.length_replicate, Nat.zero_add]
        have e6 : M.val zs = M.val l * 2 ^ s := by rw [Nat.mul_zero, Nat.add_zero] at h4; exact h4
        rw [e6, HN.out]; exact shl_end2 _ _ _
      · exact HR2.out.after h6 h5 (by simp [h1]; omega)
      · exact HB2.out.trans (h6.toBelow (Nat.le_refl _) HB2.out.size)

/-! ### shiftRight -/
structure Shr (x y s a b d : Nat) : Prop where
  ea : (x : Int) / 2 ^ s = (a : Int)
  eb : IntKind.u64.wrap ((y : Int) * 2 ^ (64 - s)) = (b : Int)
  ed : bits .or .u64 (a : Int) (b : Int) = (d : Int)
  bd : d < M.B
  e : 2 ^ s * d + x % 2 ^ s = x + M.B * (y % 2 ^ s)

theorem shr (x y s : Nat) (hs : s < 64) (hx : x < M.B) : ∃ a b d, Shr x y s a b d := by
  rw [M.B_eq] at hx
  have hP := Nat.two_pow_pos s
  have hbs : 2 ^ s * 2 ^ (64 - s) = 18446744073709551616 := by rw [← Nat.pow_add, show s + (64 - s) = 64 by omega]
  have hR : 0 < 2 ^ (64 - s) := Nat.two_pow_pos _
  have hb : x / 2 ^ s < 2 ^ (64 - s) := by rw [Nat.div_lt_iff_lt_mul hP, Nat.mul_comm, hbs]; exact hx
  have e1 : y * 2 ^ (64 - s) % 18446744073709551616 = y % 2 ^ s * 2 ^ (64 - s) := by rw [← hbs, Nat.mul_mod_mul_right]
  have hym : y % 2 ^ s < 2 ^ s := Nat.mod_lt _ hP
  have hbb : y % 2 ^ s * 2 ^ (64 - s) + x / 2 ^ s < 18446744073709551616 := by
    have : (y % 2 ^ s + 1) * 2 ^ (64 - s) ≤ 2 ^ s * 2 ^ (64 - s) := Nat.mul_le_mul_right _ hym
    rw [hbs, Nat.add_mul] at this; omega
  have hor : x / 2 ^ s ||| y % 2 ^ s * 2 ^ (64 - s) = x / 2 ^ s + y % 2 ^ s * 2 ^ (64 - s) := by
    rw [Nat.or_comm, or_disjoint _ _ (64 - s) hb ⟨y % 2 ^ s, Nat.mul_comm _ _⟩, Nat.add_comm]
  refine ⟨x / 2 ^ s, y % 2 ^ s * 2 ^ (64 - s), x / 2 ^ s + y % 2 ^ s * 2 ^ (64 - s), ?_, ?_, ?_, by rw [M.B_eq]; omega, ?_⟩
  · rw [show ((2 : Int) ^ s) = ((2 ^ s : Nat) : Int) by simp]; rfl
  · rw [IntKind.wrap_u64, show ((2 : Int) ^ (64 - s)) = ((2 ^ (64 - s) : Nat) : Int) by simp, ← Int.natCast_mul, ← e1]; rfl
  · rw [bits_or_u64_nat _ _ (by omega) (by omega), hor]
  · have e2 := Nat.div_add_mod x (2 ^ s)
    rw [Nat.mul_add, Nat.mul_comm (y % 2 ^ s), ← Nat.mul_assoc, hbs, M.B_eq]; omega

def ShrInv (m : List Nat) (s i t : Nat) (zs : List Nat) : Prop :=
  zs.length = i ∧ M.Ok zs ∧ t < 2 ^ s ∧ ∃ h : i < m.length, 2 ^ s * M.val zs + t = M.val (m.take i) + M.B ^ i * (m[i] % 2 ^ s)

theorem shr_arith (b p P zv t x d xm ym X : Nat) (h : P * zv + t = X + p * xm) (e : P * d + xm = x + b * ym) : P * (zv + p * d) + t = X + p * x + p * b * ym := by
  have h1 : p * (P * d + xm) = p * (x + b * ym) := by rw [e]
  have h2 : P * (p * d) = p * (P * d) := Nat.mul_left_comm _ _ _
  simp only [Nat.mul_add, Nat.mul_assoc] at h1 ⊢
  omega

theorem ShrInv.step {m : List Nat} {s i t : Nat} {zs : List Nat} (H : ShrInv m s i t zs) (x y a b d : Nat) (hi : i + 1 < m.length) (hx : m[i] = x) (hy : m[i + 1] = y) (h : Shr x y s a b d) :
    ShrInv m s (i + 1) t (zs ++ [d]) := by
  obtain ⟨h1, h2, h3, h4, h5⟩ := H
  refine ⟨by simp [h1], h2.append (M.Ok.cons h.bd M.Ok.nil), h3, hi, ?_⟩
  rw [M.val_snoc, h1, M.val_take_succ h4, hx, hy, Nat.pow_succ]
  rw [hx] at h5
  exact shr_arith _ _ _ _ _ x d _ _ _ h5 h.e

theorem shr_end {m : List Nat} {s i t : Nat} {zs : List Nat} (H : ShrInv m s i t zs) (hi : i + 1 = m.length) (x : Nat) (hx : m[i] = x) : M.val (zs ++ [x / 2 ^ s]) = M.val m / 2 ^ s := by
  obtain ⟨h1, h2, h3, h4, h5⟩ := H
  have e1 := M.val_take_succ (l := m) h4
  rw [List.take_of_length_le (by omega), hx] at e1
  rw [hx] at h5
  rw [M.val_snoc, h1]
  have e2 : M.B ^ i * x = 2 ^ s * (M.B ^ i * (x / 2 ^ s)) + M.B ^ i * (x % 2 ^ s) := by
    rw [Nat.mul_left_comm, ← Nat.mul_add]
    congr 1
    exact (Nat.div_add_mod x (2 ^ s)).symm
  have e3 : M.val m = 2 ^ s * (M.val zs + M.B ^ i * (x / 2 ^ s)) + t := by
    rw [Nat.mul_add]
    generalize 2 ^ s * (M.B ^ i * (x / 2 ^ s)) = A at *
    generalize M.B ^ i * (x % 2 ^ s) = C at *
    generalize M.B ^ i * x = D at *
    generalize 2 ^ s * M.val zs = E at *
    omega
  rw [e3, Nat.mul_add_div (Nat.two_pow_pos s), Nat.div_eq_of_lt h3, Nat.add_zero]

theorem div_total2 (v n k s : Nat) (h : n = k * 64 + s) : v / M.B ^ k / 2 ^ s = v / 2 ^ n := by
  rw [Nat.div_div_eq_div_mul, B_two, ← Nat.pow_mul, ← Nat.pow_add, h, Nat.mul_comm 64 k]

set_option maxRecDepth 100000 in
set_option maxHeartbeats 2000000 in
theorem shiftRight_any (b cap n : Nat) (l : List Nat) (w : World) (hw : Row w b cap l) (hlen : l.length ≤ 1000000) (okl : M.Ok l) (hn : n / 64 < l.length) :
    Calls Tryd.prog 70 #[.slice (some ⟨b, 0, none⟩) l.length cap, .int .i64 n] w fun e w' => e = .returned (.slice (some ⟨b, 0, none⟩) (M.dig (M.val l / 2 ^ n)).length cap) ∧
      Hid (Row w' b cap (M.dig (M.val l / 2 ^ n)) ∧ Wr w w' b 0 l.length) := by
  have hcap := hw.cap
  unfold maxLen at hcap
  obtain ⟨hcap1, hcap2⟩ := hcap
  have HW := Lib.hid hw; clear hw
  have OL := Lib.hid okl; clear okl
  obtain ⟨k, hk⟩ : ∃ k, n / 64 = k := ⟨_, rfl⟩
  obtain ⟨s, hs⟩ : ∃ s, n % 64 = s := ⟨_, rfl⟩
  have hk' : (n : Int) / 64 = (k : Int) := by omega
  have hs' : (n : Int) % 64 = (s : Int) := by omega
  rw [hk] at hn
  have hsb : s < 64 := by omega
  have HN : Hid (n = k * 64 + s) := mkHid (by omega)
  clear hk hs
  obtain ⟨i0, hi, hz0, hz1, hz2⟩ := info_parts info64
  have hsz1 : Hid ((Tryd.prog.info? 24).map (·.size) = some 1) := mkHid (by rw [hi]; simp [hz1])
  clear hi hz0 hz1 hz2
  obtain ⟨cur, hcur, hsize⟩ := HW.out.cur
  have HCUR := Lib.hid hcur; have HSZ := Lib.hid hsize; clear hcur hsize
  obtain ⟨m, hm⟩ : ∃ m, m = l.drop k := ⟨_, rfl⟩
  have hml : m.length = l.length - k := by rw [hm]; simp
  have HML : Hid (m.length = l.length - k) := mkHid hml
  have HM : Hid (m = l.drop k) := mkHid hm
  clear hm hml
  have OM : Hid (M.Ok m) := mkHid (by rw [HM.out]; exact OL.out.drop k)
  obtain ⟨q, hq⟩ : ∃ q, q = l.length - k := ⟨_, rfl⟩
  have hq1 : 1 ≤ q := by omega
  have hq2 : q ≤ 1000000 := by omega
  have hq3 : q ≤ cap := by omega
  have HQ : Hid (m.length = q) := mkHid (by rw [HML.out, hq])
  have hwl : (ws m).length = q := by rw [ws_length, HQ.out]
  have HWL : Hid ((ws m).length = q) := mkHid hwl
  have HLQ : Hid (l.length = k + q) := mkHid (by omega)
  have HQQ : Hid (q = l.length - k) := mkHid hq
  clear hq
  have HNM : Hid (M.val l / 2 ^ n = M.val m / 2 ^ s) := mkHid (by rw [HM.out, ok_of_drop_zero OL.out k (by have := HLQ.out; omega), div_total2 _ _ _ _ HN.out])
  go_enter Tryd.func70, Tryd.ntmps70
  go_wp2_with (with_reducible refine wpList_copy_own rfl (.tmp 13) (.tmp 16) 60 60 rfl 24 Tryd.underlying60 hsz1.out b 0 _ _ ⟨b, k, none⟩ _ _ rfl rfl cur 24 HCUR.out (ws m) ?c1 ?c2 ?c3 ?c4 ?_)
  case c1 => rw [ws_length, HQ.out, HQQ.out]; exact (Nat.min_eq_left (by omega)).symm
  case c2 => rw [HM.out]; have := (HW.out.words).drop k; rw [Nat.zero_add] at this; exact words_cells this
  case c3 => rw [ws_length, HQ.out]; have := HSZ.out; omega
  case c4 => exact ws_one m
  have hrow : cur.toList.take 0 ++ (ws m ++ cur.toList.drop (0 + (ws m).length)) = ws m ++ cur.toList.drop q := by simp [HWL.out]
  have HR2 := mkHid (Words.spliced (off := 0) (cs := m) cur HCUR.out (by rw [HQ.out]; have := HSZ.out; omega))
  have HW2 := mkHid (Wr.spliced (off := 0) (cs := ws m) cur HCUR.out (by rw [HWL.out]; have := HSZ.out; omega))
  rw [hrow] at HR2 HW2
  rw [HWL.out, Nat.zero_add] at HW2
  clear hrow
  generalize w.setRow b _ = w2 at HR2 HW2 ⊢
  clear HCUR HSZ
  have h0q : Hid (0 < m.length) := mkHid (by rw [HQ.out]; exact hq1)
  obtain ⟨t, ht⟩ : ∃ t, t = m[0]'(h0q.out) % 2 ^ s := ⟨_, rfl⟩
  have HT := Lib.hid ht; clear ht
  go_wp2
  go_loopw [22] (fun iv wr => ∃ i : Nat, i + 1 ≤ q ∧ iv = .int .i64 i ∧ ∃ zs, Hid (ShrInv m s i t zs ∧ Words wr b 0 (zs ++ m.drop i) ∧ Wr w2 wr b 0 q))
    (fun iv _ => q - (intOf iv).toNat)
  case atStart => exact ⟨0, hq1, rfl, [], ⟨rfl, M.Ok.nil, by rw [HT.out]; exact Nat.mod_lt _ (Nat.two_pow_pos s), h0q.out, by simp [HT.out]⟩, by simpa using HR2.out, Wr.refl _ _ _ _⟩
  case round =>
    obtain ⟨i, hi, rfl, zs, H⟩ := hrel
    by_cases hlt : i + 1 < q
    · have hlt' : (i : Int) < (q : Int) - 1 := by omega
      have H1 : Hid (i < m.length) := mkHid (by rw [HQ.out]; omega)
      have H2 : Hid (i + 1 < m.length) := mkHid (by rw [HQ.out]; omega)
      obtain ⟨x, ex⟩ : ∃ x, m[i]'(H1.out) = x := ⟨_, rfl⟩
      obtain ⟨y, ey⟩ : ∃ y, m[i + 1]'(H2.out) = y := ⟨_, rfl⟩
      have hdrop : m.drop i = x :: m.drop (i + 1) := by rw [← ex]; exact List.drop_eq_getElem_cons H1.out
      have hdrop2 : m.drop (i + 1) = y :: m.drop (i + 2) := by rw [← ey]; exact List.drop_eq_getElem_cons H2.out
      have BX : Hid (x < M.B) := mkHid (by rw [← ex]; exact OM.out.get H1.out)
      have EX := Lib.hid ex; have EY := Lib.hid ey; clear ex ey
      have HD := Lib.hid hdrop; have HD2 := Lib.hid hdrop2; clear hdrop hdrop2
      have HWM : Hid (Words wr b 0 (zs ++ x :: m.drop (i + 1))) := mkHid (by rw [← HD.out]; exact H.out.2.1)
      have HWN : Hid (Words wr b 0 ((zs ++ [x]) ++ y :: m.drop (i + 2))) := mkHid (by rw [← HD2.out, List.append_assoc]; exact HWM.out)
      obtain ⟨hcx, hfx⟩ := HWM.out.atMid H.out.1.1
      obtain ⟨hcy, -⟩ := HWN.out.atMid (n := i + 1) (by simp [H.out.1.1])
      rw [Nat.zero_add] at hcx hfx hcy
      obtain ⟨a, c, d, SH⟩ := shr x y s hsb BX.out
      have ea := SH.ea
      have eb := SH.eb
      have ed := SH.ed
      have HSH := Lib.hid SH; clear SH
      go_wp2
      go_region
      go_wp2
      go_roundw
      case rel =>
        refine ⟨i + 1, hlt, by go_num, zs ++ [d], mkHid ?_⟩
        obtain ⟨h1, h2, h3⟩ := H.out
        have h4 := HWM.out.setMid h1.1 d
        rw [Nat.zero_add] at h4
        refine ⟨h1.step x y a c d H2.out EX.out EY.out HSH.out, ?_, (h3.setCell (by omega) (by omega) _).drew⟩
        rw [show zs ++ d :: m.drop (i + 1) = (zs ++ [d]) ++ m.drop (i + 1) by simp] at h4
        exact h4
      case measure => simp [intOf]; omega
    · have hie : i + 1 = q := by omega
      have hnlt : ¬ ((i : Int) < (q : Int) - 1) := by omega
      have H1 : Hid (i < m.length) := mkHid (by rw [HQ.out]; omega)
      obtain ⟨x, ex⟩ : ∃ x, m[i]'(H1.out) = x := ⟨_, rfl⟩
      have hdrop : m.drop i = [x] := by rw [← ex, List.drop_eq_getElem_cons H1.out, List.drop_of_length_le (by rw [HQ.out]; omega)]
      have BX : Hid (x < M.B) := mkHid (by rw [← ex]; exact OM.out.get H1.out)
      have HWM : Hid (Words wr b 0 (zs ++ [x])) := mkHid (by rw [← hdrop]; exact H.out.2.1)
      have EX := Lib.hid ex; clear ex hdrop
      have hqi : (q : Int) - 1 = (i : Int) := by omega
      obtain ⟨hcx, hfx⟩ := HWM.out.atMid H.out.1.1
      rw [Nat.zero_add] at hcx hfx
      have ea : (x : Int) / 2 ^ s = ((x / 2 ^ s : Nat) : Int) := by rw [show ((2 : Int) ^ s) = ((2 ^ s : Nat) : Int) by simp]; rfl
      have HE := mkHid (shr_end H.out.1 (by rw [HQ.out]; omega) x EX.out)
      have BA : Hid (x / 2 ^ s < M.B) := mkHid (Nat.lt_of_le_of_lt (Nat.div_le_self _ _) BX.out)
      generalize x / 2 ^ s = a at ea HE BA
      have H4 : Hid (Words (wr.setCell ⟨b, i, none⟩ (.int .u64 (a : Int))) b 0 (zs ++ [a])) := mkHid (by have := HWM.out.setMid H.out.1.1 a; rwa [Nat.zero_add] at this)
      have OA : Hid (M.Ok (zs ++ [a])) := mkHid (H.out.1.2.1.append (M.Ok.cons BA.out M.Ok.nil))
      have HL4 : Hid ((zs ++ [a]).length = q) := mkHid (by simp [H.out.1.1, hie])
      have HTR : Hid (∀ w3, Words w3 b 0 (zs ++ [a]) → Calls Tryd.prog 54 #[.slice (some ⟨b, 0, none⟩) q cap] w3 fun e w' => e = .returned (.slice (some ⟨b, 0, none⟩) (M.dig (M.val l / 2 ^ n)).length cap) ∧ w3 = w') :=
        mkHid fun w3 h3 => by
          have := trim_any b 0 cap (zs ++ [a]) w3 (by unfold maxLen; omega) (by rw [HL4.out]; exact hq3) OA.out h3
          rwa [HL4.out, HE.out, ← HNM.out] at this
      clear hie
      go_wp2_with (go_at_call 54; refine (HTR.out _ H4.out).mono ?_; rintro e w' ⟨rfl, rfl⟩)
      go_ret
      refine ⟨rfl, mkHid ?_⟩
      have hdv : M.dig (M.val l / 2 ^ n) = (zs ++ [a]).take (M.dig (M.val l / 2 ^ n)).length := by rw [HNM.out, ← HE.out]; exact M.dig_prefix OA.out
      have hwr : Wr w (wr.setCell ⟨b, i, none⟩ (.int .u64 (a : Int))) b 0 l.length := by
        have h6 := (HW2.out.trans H.out.2.2).setCell (k := i) (by omega) (by omega) (.int .u64 (a : Int))
        exact h6.mono (Nat.le_refl _) (by have := HLQ.out; omega)
      refine ⟨?_, hwr⟩
      rw [hdv]
      exact (HW.out.after hwr H4.out (by rw [HL4.out]; exact hq3)).take _
end Go.Proofs.YtjdkbbggelpchaaDoor
