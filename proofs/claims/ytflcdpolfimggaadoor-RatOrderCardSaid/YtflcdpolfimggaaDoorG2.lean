/- Contracts, laid one behind the other: Shift SubW Gcd Div64. -/
import Derived.Test.YtflcdpolfimggaaDoorG1
import Derived.Deep.LoopGhost
import Derived.Test.YtflcdpolfimggaaDoorShelf
import Derived.Deep.CutBlock
import Derived.Deep.DeepCutAuto
namespace Go.Proofs.YtflcdpolfimggaaDoor
open Go.RowKit

theorem shl_or (x c s : Nat) (hc : c < 2 ^ s) : (x * 2 ^ s % 18446744073709551616) ||| c = x * 2 ^ s % 18446744073709551616 + c ∨ 64 < s := by
  by_cases hs : 64 < s
  · exact .inr hs
  · refine .inl (or_disjoint _ _ s hc ?_)
    have hd : (2 : Nat) ^ s ∣ 18446744073709551616 := by
      rw [show (18446744073709551616 : Nat) = 2 ^ 64 by rfl]; exact Nat.pow_dvd_pow 2 (by omega)
    exact (Nat.dvd_mod_iff hd).2 ⟨x, Nat.mul_comm _ _⟩

/-- A word shifted to the left, with what comes from below. -/
structure Shl (x c s a d c' : Nat) : Prop where
  ea : IntKind.u64.wrap ((x : Int) * 2 ^ s) = (a : Int)
  ed : bits .or .u64 (a : Int) (c : Int) = (d : Int)
  ec : (x : Int) / 2 ^ (64 - s) = (c' : Int)
  bd : d < M.B
  bc : c' < 2 ^ s
  e : d + M.B * c' = x * 2 ^ s + c

theorem shl (x c s : Nat) (hs : s < 64) (hx : x < M.B) (hc : c < 2 ^ s) : ∃ a d c', Shl x c s a d c' := by
  rw [M.B_eq] at hx
  have hP := Nat.two_pow_pos s
  have hbs : 2 ^ s * 2 ^ (64 - s) = 18446744073709551616 := by rw [← Nat.pow_add, show s + (64 - s) = 64 by omega]
  have hR : 0 < 2 ^ (64 - s) := Nat.two_pow_pos _
  have hb : x / 2 ^ (64 - s) < 2 ^ s := by rw [Nat.div_lt_iff_lt_mul hR, hbs]; exact hx
  have e1 : x * 2 ^ s / 18446744073709551616 = x / 2 ^ (64 - s) := by rw [← hbs, Nat.mul_comm (2 ^ s) (2 ^ (64 - s)), Nat.mul_div_mul_right _ _ hP]
  have e2 := Nat.div_add_mod (x * 2 ^ s) 18446744073709551616
  have hor := (shl_or x c s hc).resolve_right (by omega)
  have hP64 : 2 ^ s ≤ 2 ^ 63 := Nat.pow_le_pow_right (by omega) (by omega)
  have hdvd : (2 : Nat) ^ s ∣ 18446744073709551616 := ⟨2 ^ (64 - s), hbs.symm⟩
  have hda : 2 ^ s ∣ x * 2 ^ s % 18446744073709551616 := (Nat.dvd_mod_iff hdvd).2 ⟨x, Nat.mul_comm _ _⟩
  have hlt : x * 2 ^ s % 18446744073709551616 < 18446744073709551616 := Nat.mod_lt _ (by omega)
  have hsum : x * 2 ^ s % 18446744073709551616 + c < 18446744073709551616 := by
    obtain ⟨k, hk⟩ := hda
    obtain ⟨m, hm⟩ := hdvd
    rw [hk]
    have : k < m := by
      apply Nat.lt_of_mul_lt_mul_left (a := 2 ^ s); rw [← hm, ← hk]; exact hlt
    have h2 : 2 ^ s * (k + 1) ≤ 2 ^ s * m := Nat.mul_le_mul_left _ this
    rw [Nat.mul_add, ← hm] at h2; omega
  refine ⟨x * 2 ^ s % 18446744073709551616, x * 2 ^ s % 18446744073709551616 + c, x / 2 ^ (64 - s), ?_, ?_, ?_, by rw [M.B_eq]; exact hsum, hb, ?_⟩
  · rw [IntKind.wrap_u64, show ((2 : Int) ^ s) = ((2 ^ s : Nat) : Int) by simp, ← Int.natCast_mul]; rfl
  · rw [bits_or_u64_nat _ _ hlt (by omega), hor]
  · rw [show ((2 : Int) ^ (64 - s)) = ((2 ^ (64 - s) : Nat) : Int) by simp]; rfl
  · rw [M.B_eq, ← e1]; omega

def ShlInv (m : List Nat) (s j c : Nat) (zs : List Nat) : Prop :=
  zs.length = j ∧ M.Ok zs ∧ c < 2 ^ s ∧ M.val zs + M.B ^ j * c = M.val (m.take j) * 2 ^ s

theorem shl_arith (b p zv c x P d c' X : Nat) (h : zv + p * c = X * P) (e : d + b * c' = x * P + c) : zv + p * d + p * b * c' = (X + p * x) * P := by
  have h1 : p * (d + b * c') = p * (x * P + c) := by rw [e]
  simp only [Nat.mul_add, ← Nat.mul_assoc] at h1
  rw [Nat.add_mul]
  omega

theorem ShlInv.step {m : List Nat} {s j c : Nat} {zs : List Nat} (H : ShlInv m s j c zs) (x a d c' : Nat) (hx : M.val (m.take (j + 1)) = M.val (m.take j) + M.B ^ j * x) (h : Shl x c s a d c') :
    ShlInv m s (j + 1) c' (zs ++ [d]) := by
  obtain ⟨h1, h2, h3, h4⟩ := H
  refine ⟨by simp [h1], h2.append (M.Ok.cons h.bd M.Ok.nil), h.bc, ?_⟩
  rw [M.val_snoc, h1, hx, Nat.pow_succ]
  exact shl_arith _ _ _ c x _ d _ _ h4 h.e

theorem B_two : M.B = 2 ^ 64 := rfl
theorem shl_end1 {l : List Nat} (h : M.Ok l) (s : Nat) (hs : s < 64) : M.val l * 2 ^ s < M.B ^ (l.length + 1) := by
  rw [Nat.pow_succ]
  have a1 := M.val_lt h
  have a2 : 2 ^ s ≤ M.B := by rw [B_two]; exact Nat.pow_le_pow_right (by omega) (by omega)
  exact Nat.lt_of_lt_of_le (Nat.mul_lt_mul_of_pos_right a1 (Nat.two_pow_pos s)) (Nat.mul_le_mul_left _ a2)
theorem shl_end2 (v s k : Nat) : M.B ^ k * (v * 2 ^ s) = v * 2 ^ (k * 64 + s) := by
  rw [Nat.pow_add, B_two, ← Nat.pow_mul, Nat.mul_comm 64 k, Nat.mul_left_comm]

set_option maxRecDepth 100000 in
set_option maxHeartbeats 2000000 in
theorem shiftLeft_any (b off cap n : Nat) (l : List Nat) (w : World) (hw : Words w b off l) (hlen : l.length ≤ 1000000) (okl : M.Ok l) (hn : n ≤ 1000000) :
    Calls Tryd.prog 83 #[.slice (some ⟨b, off, none⟩) l.length cap, .int .i64 n] w fun e w' => ∃ b', e = .returned (.slice (some ⟨b', 0, none⟩) (n / 64 + l.length + 1) (n / 64 + l.length + 1)) ∧
      ∃ zs, Hid (zs.length = n / 64 + l.length + 1 ∧ M.Ok zs ∧ M.val zs = M.val l * 2 ^ n ∧ w.heap.size ≤ b' ∧ Row w' b' (n / 64 + l.length + 1) zs ∧ Below w.heap.size w w') := by
  have HW := Lib.hid hw; clear hw
  have OL := Lib.hid okl; clear okl
  obtain ⟨k, hk⟩ : ∃ k, n / 64 = k := ⟨_, rfl⟩
  obtain ⟨s, hs⟩ : ∃ s, n % 64 = s := ⟨_, rfl⟩
  have hk' : (n : Int) / 64 = (k : Int) := by omega
  have hs' : (n : Int) % 64 = (s : Int) := by omega
  have hkb : k ≤ 1000000 := by omega
  have hsb : s < 64 := by omega
  rw [hk]
  have HN : Hid (n = k * 64 + s) := mkHid (by omega)
  clear hk hs
  obtain ⟨i0, hi, hz0, hz1, hz2⟩ := info_parts info64
  have hi' := Lib.hid hi; have hz0' := Lib.hid hz0; have hz1' := Lib.hid hz1; have hz2' := Lib.hid hz2; clear hi hz0 hz1 hz2
  have hsz1 : Hid ((Tryd.prog.info? 22).map (·.size) = some 1) := mkHid (by rw [hi'.out]; simp [hz1'.out])
  go_enter Tryd.func83, Tryd.ntmps83
  go_wp2_with (at_make; refine wpList_make_full _ rfl _ _ 76 rfl w.heap.size 22 i0 (.int .u64 0) 1 Tryd.underlying76 hi'.out hz0'.out hz1'.out _ _ _ _ (k + l.length + 1) rfl rfl (by omega) (by omega) ?bytes ?maxl ?base ?_)
  case bytes => rw [hz2'.out]; omega
  case maxl => unfold maxLen; omega
  case base => exact Nat.le_refl _
  intro w1 hown hgrow
  have HR : Hid (Row w1 w.heap.size (k + l.length + 1) (List.replicate (k + l.length + 1) 0)) := mkHid (Row.made hown (by omega))
  have HB1 : Hid (Below w.heap.size w w1) := mkHid (below_grown hgrow (Nat.le_refl _))
  clear hown hgrow
  obtain ⟨cur, hcur, hsize⟩ := HR.out.cur
  have HCUR := Lib.hid hcur; have HSZ := Lib.hid hsize; clear hcur hsize
  go_wp2_with (with_reducible refine wpList_copy_own rfl (.tmp 22) (.tmp 23) 76 76 rfl 22 Tryd.underlying76 hsz1.out w.heap.size k _ _ ⟨b, off, none⟩ _ _ rfl rfl cur 22 HCUR.out (ws l) ?c1 ?c2 ?c3 ?c4 ?_)
  case c1 => rw [ws_length]; exact (Nat.min_eq_left (by omega)).symm
  case c2 => exact words_cells (HW.out.grows HB1.out)
  case c3 => rw [ws_length]; have := HSZ.out; omega
  case c4 => exact ws_one l
  have HR2 := mkHid (HR.out.spliced (by simp) cur HCUR.out (cs := l) (off := k) (by omega))
  have HB2 := mkHid (below_setRow HB1.out (Nat.le_refl _) (cur.toList.take k ++ (ws l ++ cur.toList.drop (k + (ws l).length))).toArray)
  generalize w1.setRow w.heap.size _ = w2 at HR2 HB2 ⊢
  clear HCUR HSZ HR
  have hm : List.take k (List.replicate (k + l.length + 1) 0) ++ (l ++ List.drop (k + l.length) (List.replicate (k + l.length + 1) 0)) = List.replicate k 0 ++ (l ++ [0]) := by
    rw [List.take_replicate, List.drop_replicate, Nat.min_eq_left (by omega), show k + l.length + 1 - (k + l.length) = 1 by omega]; rfl
  rw [hm] at HR2
  clear hm
  go_wp2
  obtain ⟨m, hmm⟩ : ∃ m, m = l ++ [0] := ⟨_, rfl⟩
  rw [← hmm] at HR2
  have hml : m.length = l.length + 1 := by rw [hmm]; simp
  have HML := Lib.hid hml
  have HMM := Lib.hid hmm
  clear hml hmm
  go_loopw [8, 9] (fun cv iv wr => ∃ j c : Nat, j ≤ l.length + 1 ∧ iv = .int .i64 ((k + j : Nat) : Int) ∧ cv = .int .u64 c ∧ ∃ zs, Hid (ShlInv m s j c zs ∧ Words wr w.heap.size 0 ((List.replicate k 0 ++ zs) ++ m.drop j) ∧ Wr w2 wr w.heap.size k (k + l.length + 1)))
    (fun _ iv _ => k + l.length + 1 - (intOf iv).toNat)
  case atStart => exact ⟨0, 0, by omega, by simp, rfl, [], ⟨rfl, M.Ok.nil, Nat.two_pow_pos _, by simp⟩, by simpa using HR2.out.words, Wr.refl _ _ _ _⟩
  case round =>
    obtain ⟨j, c, hj, rfl, rfl, zs, H⟩ := hrel
    have hcast : ((k + j : Nat) : Int) = (k : Int) + (j : Int) := by omega
    by_cases hlt : j < l.length + 1
    · have HJM : Hid (j < m.length) := mkHid (by rw [HML.out]; exact hlt)
      have hdrop : m.drop j = m[j]'(HJM.out) :: m.drop (j + 1) := List.drop_eq_getElem_cons HJM.out
      obtain ⟨x, ex⟩ : ∃ x, m[j]'(HJM.out) = x := ⟨_, rfl⟩
      rw [ex] at hdrop
      have HDR := Lib.hid hdrop; clear hdrop
      have EX := Lib.hid ex; clear ex
      have HWM : Hid (Words wr w.heap.size 0 ((List.replicate k 0 ++ zs) ++ x :: m.drop (j + 1))) := mkHid (by rw [← HDR.out]; exact H.out.2.1)
      have hpl : (List.replicate k 0 ++ zs).length = k + j := by simp [H.out.1.1]
      obtain ⟨hcx, hfx⟩ := HWM.out.atMid hpl
      have HPL := Lib.hid hpl; clear hpl
      rw [Nat.zero_add] at hcx hfx
      have OM : Hid (M.Ok m) := mkHid (by rw [HMM.out]; exact OL.out.append (M.Ok.cons M.B_pos M.Ok.nil))
      have BX : Hid (x < M.B) := mkHid (by rw [← EX.out]; exact OM.out.get HJM.out)
      obtain ⟨a, d, c', SH⟩ := shl x c s hsb BX.out H.out.1.2.2.1
      have ea := SH.ea
      have ed := SH.ed
      have ec := SH.ec
      have HSH := Lib.hid SH; clear SH
      go_wp2
      go_region
      go_wp2
      go_roundw
      case rel =>
        refine ⟨j + 1, c', by omega, by go_num, rfl, zs ++ [d], mkHid ?_⟩
        obtain ⟨h1, h2, h3⟩ := H.out
        have k1 := M.val_take_succ (l := m) HJM.out
        rw [EX.out] at k1
        have h4 := HWM.out.setMid HPL.out d
        rw [Nat.zero_add] at h4
        refine ⟨h1.step x a d c' k1 HSH.out, ?_, (h3.setCell (by omega) (by omega) _).drew⟩
        have e5 : (List.replicate k 0 ++ zs) ++ d :: m.drop (j + 1) = (List.replicate k 0 ++ (zs ++ [d])) ++ m.drop (j + 1) := by simp
        rw [← e5]; exact h4
      case measure => simp [intOf]; omega
    · have hje : j = l.length + 1 := by omega
      subst hje
      go_wp2
      go_ret
      obtain ⟨⟨h1, h2, h3, h4⟩, h5, h6⟩ := H.out
      have hml := HML.out
      rw [List.drop_of_length_le (by omega), List.append_nil] at h5
      rw [List.take_of_length_le (by omega)] at h4
      have hmv : M.val m = M.val l := by rw [HMM.out, M.val_snoc]; simp
      rw [hmv] at h4
      have hlt2 := shl_end1 OL.out s hsb
      have hc0 : c = 0 := by
        apply Classical.byContradiction; intro hne
        have := Nat.mul_le_mul_left (M.B ^ (l.length + 1)) (show 1 ≤ c by omega)
        omega
      subst hc0
      refine ⟨w.heap.size, by show Ending.returned _ = _; rfl, List.replicate k 0 ++ zs, mkHid ⟨by simp [h1]; omega, (M.Ok.zeros k).append h2, ?_, Nat.le_refl _, ?_, ?_⟩⟩
      · rw [M.val_append, M.val_zeros, List.length_replicate, Nat.zero_add]
        have e6 : M.val zs = M.val l * 2 ^ s := by rw [Nat.mul_zero, Nat.add_zero] at h4; exact h4
        rw [e6, HN.out]; exact shl_end2 _ _ _
      · exact HR2.out.after h6 h5 (by simp [h1]; omega)
      · exact HB2.out.trans (h6.toBelow (Nat.le_refl _) HB2.out.size)

/-! ### shiftRight -/
structure Shr (x y s a b d : Nat) : Prop where
  ea : (x : Int) / 2 ^ s = (a : Int)
  eb : IntKind.u64.wrap ((y : Int) * 2 ^ (64 - s)) = (b : Int)
  ed : bits .or .u64 (a : Int) (b : Int) = (d : Int)
  bd : d < M.B
  e : 2 ^ s * d + x % 2 ^ s = x + M.B * (y % 2 ^ s)

theorem shr (x y s : Nat) (hs : s < 64) (hx : x < M.B) : ∃ a b d, Shr x y s a b d := by
  rw [M.B_eq] at hx
  have hP := Nat.two_pow_pos s
  have hbs : 2 ^ s * 2 ^ (64 - s) = 18446744073709551616 := by rw [← Nat.pow_add, show s + (64 - s) = 64 by omega]
  have hR : 0 < 2 ^ (64 - s) := Nat.two_pow_pos _
  have hb : x / 2 ^ s < 2 ^ (64 - s) := by rw [Nat.div_lt_iff_lt_mul hP, Nat.mul_comm, hbs]; exact hx
  have e1 : y * 2 ^ (64 - s) % 18446744073709551616 = y % 2 ^ s * 2 ^ (64 - s) := by rw [← hbs, Nat.mul_mod_mul_right]
  have hym : y % 2 ^ s < 2 ^ s := Nat.mod_lt _ hP
  have hbb : y % 2 ^ s * 2 ^ (64 - s) + x / 2 ^ s < 18446744073709551616 := by
    have : (y % 2 ^ s + 1) * 2 ^ (64 - s) ≤ 2 ^ s * 2 ^ (64 - s) := Nat.mul_le_mul_right _ hym
    rw [hbs, Nat.add_mul] at this; omega
  have hor : x / 2 ^ s ||| y % 2 ^ s * 2 ^ (64 - s) = x / 2 ^ s + y % 2 ^ s * 2 ^ (64 - s) := by
    rw [Nat.or_comm, or_disjoint _ _ (64 - s) hb ⟨y % 2 ^ s, Nat.mul_comm _ _⟩, Nat.add_comm]
  refine ⟨x / 2 ^ s, y % 2 ^ s * 2 ^ (64 - s), x / 2 ^ s + y % 2 ^ s * 2 ^ (64 - s), ?_, ?_, ?_, by rw [M.B_eq]; omega, ?_⟩
  · rw [show ((2 : Int) ^ s) = ((2 ^ s : Nat) : Int) by simp]; rfl
  · rw [IntKind.wrap_u64, show ((2 : Int) ^ (64 - s)) = ((2 ^ (64 - s) : Nat) : Int) by simp, ← Int.natCast_mul, ← e1]; rfl
  · rw [bits_or_u64_nat _ _ (by omega) (by omega), hor]
  · have e2 := Nat.div_add_mod x (2 ^ s)
    rw [Nat.mul_add, Nat.mul_comm (y % 2 ^ s), ← Nat.mul_assoc, hbs, M.B_eq]; omega

def ShrInv (m : List Nat) (s i t : Nat) (zs : List Nat) : Prop :=
  zs.length = i ∧ M.Ok zs ∧ t < 2 ^ s ∧ ∃ h : i < m.length, 2 ^ s * M.val zs + t = M.val (m.take i) + M.B ^ i * (m[i] % 2 ^ s)

theorem shr_arith (b p P zv t x d xm ym X : Nat) (h : P * zv + t = X + p * xm) (e : P * d + xm = x + b * ym) : P * (zv + p * d) + t = X + p * x + p * b * ym := by
  have h1 : p * (P * d + xm) = p * (x + b * ym) := by rw [e]
  have h2 : P * (p * d) = p * (P * d) := Nat.mul_left_comm _ _ _
  simp only [Nat.mul_add, Nat.mul_assoc] at h1 ⊢
  omega

theorem ShrInv.step {m : List Nat} {s i t : Nat} {zs : List Nat} (H : ShrInv m s i t zs) (x y a b d : Nat) (hi : i + 1 < m.length) (hx : m[i] = x) (hy : m[i + 1] = y) (h : Shr x y s a b d) :
    ShrInv m s (i + 1) t (zs ++ [d]) := by
  obtain ⟨h1, h2, h3, h4, h5⟩ := H
  refine ⟨by simp [h1], h2.append (M.Ok.cons h.bd M.Ok.nil), h3, hi, ?_⟩
  rw [M.val_snoc, h1, M.val_take_succ h4, hx, hy, Nat.pow_succ]
  rw [hx] at h5
  exact shr_arith _ _ _ _ _ x d _ _ _ h5 h.e

theorem shr_end {m : List Nat} {s i t : Nat} {zs : List Nat} (H : ShrInv m s i t zs) (hi : i + 1 = m.length) (x : Nat) (hx : m[i] = x) : M.val (zs ++ [x / 2 ^ s]) = M.val m / 2 ^ s := by
  obtain ⟨h1, h2, h3, h4, h5⟩ := H
  have e1 := M.val_take_succ (l := m) h4
  rw [List.take_of_length_le (by omega), hx] at e1
  rw [hx] at h5
  rw [M.val_snoc, h1]
  have e2 : M.B ^ i * x = 2 ^ s * (M.B ^ i * (x / 2 ^ s)) + M.B ^ i * (x % 2 ^ s) := by
    rw [Nat.mul_left_comm, ← Nat.mul_add]
    congr 1
    exact (Nat.div_add_mod x (2 ^ s)).symm
  have e3 : M.val m = 2 ^ s * (M.val zs + M.B ^ i * (x / 2 ^ s)) + t := by
    rw [Nat.mul_add]
    generalize 2 ^ s * (M.B ^ i * (x / 2 ^ s)) = A at *
    generalize M.B ^ i * (x % 2 ^ s) = C at *
    generalize M.B ^ i * x = D at *
    generalize 2 ^ s * M.val zs = E at *
    omega
  rw [e3, Nat.mul_add_div (Nat.two_pow_pos s), Nat.div_eq_of_lt h3, Nat.add_zero]

theorem div_total2 (v n k s : Nat) (h : n = k * 64 + s) : v / M.B ^ k / 2 ^ s = v / 2 ^ n := by
  rw [Nat.div_div_eq_div_mul, B_two, ← Nat.pow_mul, ← Nat.pow_add, h, Nat.mul_comm 64 k]

set_option maxRecDepth 100000 in
set_option maxHeartbeats 2000000 in
theorem shiftRight_any (b cap n : Nat) (l : List Nat) (w : World) (hw : Row w b cap l) (hlen : l.length ≤ 1000000) (okl : M.Ok l) (hn : n / 64 < l.length) :
    Calls Tryd.prog 81 #[.slice (some ⟨b, 0, none⟩) l.length cap, .int .i64 n] w fun e w' => e = .returned (.slice (some ⟨b, 0, none⟩) (M.dig (M.val l / 2 ^ n)).length cap) ∧
      Hid (Row w' b cap (M.dig (M.val l / 2 ^ n)) ∧ Wr w w' b 0 l.length) := by
  have hcap := hw.cap
  unfold maxLen at hcap
  obtain ⟨hcap1, hcap2⟩ := hcap
  have HW := Lib.hid hw; clear hw
  have OL := Lib.hid okl; clear okl
  obtain ⟨k, hk⟩ : ∃ k, n / 64 = k := ⟨_, rfl⟩
  obtain ⟨s, hs⟩ : ∃ s, n % 64 = s := ⟨_, rfl⟩
  have hk' : (n : Int) / 64 = (k : Int) := by omega
  have hs' : (n : Int) % 64 = (s : Int) := by omega
  rw [hk] at hn
  have hsb : s < 64 := by omega
  have HN : Hid (n = k * 64 + s) := mkHid (by omega)
  clear hk hs
  obtain ⟨i0, hi, hz0, hz1, hz2⟩ := info_parts info64
  have hsz1 : Hid ((Tryd.prog.info? 22).map (·.size) = some 1) := mkHid (by rw [hi]; simp [hz1])
  clear hi hz0 hz1 hz2
  obtain ⟨cur, hcur, hsize⟩ := HW.out.cur
  have HCUR := Lib.hid hcur; have HSZ := Lib.hid hsize; clear hcur hsize
  obtain ⟨m, hm⟩ : ∃ m, m = l.drop k := ⟨_, rfl⟩
  have hml : m.length = l.length - k := by rw [hm]; simp
  have HML : Hid (m.length = l.length - k) := mkHid hml
  have HM : Hid (m = l.drop k) := mkHid hm
  clear hm hml
  have OM : Hid (M.Ok m) := mkHid (by rw [HM.out]; exact OL.out.drop k)
  obtain ⟨q, hq⟩ : ∃ q, q = l.length - k := ⟨_, rfl⟩
  have hq1 : 1 ≤ q := by omega
  have hq2 : q ≤ 1000000 := by omega
  have hq3 : q ≤ cap := by omega
  have HQ : Hid (m.length = q) := mkHid (by rw [HML.out, hq])
  have hwl : (ws m).length = q := by rw [ws_length, HQ.out]
  have HWL : Hid ((ws m).length = q) := mkHid hwl
  have HLQ : Hid (l.length = k + q) := mkHid (by omega)
  have HQQ : Hid (q = l.length - k) := mkHid hq
  clear hq
  have HNM : Hid (M.val l / 2 ^ n = M.val m / 2 ^ s) := mkHid (by rw [HM.out, ok_of_drop_zero OL.out k (by have := HLQ.out; omega), div_total2 _ _ _ _ HN.out])
  go_enter Tryd.func81, Tryd.ntmps81
  go_wp2_with (with_reducible refine wpList_copy_own rfl (.tmp 13) (.tmp 16) 76 76 rfl 22 Tryd.underlying76 hsz1.out b 0 _ _ ⟨b, k, none⟩ _ _ rfl rfl cur 22 HCUR.out (ws m) ?c1 ?c2 ?c3 ?c4 ?_)
  case c1 => rw [ws_length, HQ.out, HQQ.out]; exact (Nat.min_eq_left (by omega)).symm
  case c2 => rw [HM.out]; have := (HW.out.words).drop k; rw [Nat.zero_add] at this; exact words_cells this
  case c3 => rw [ws_length, HQ.out]; have := HSZ.out; omega
  case c4 => exact ws_one m
  have hrow : cur.toList.take 0 ++ (ws m ++ cur.toList.drop (0 + (ws m).length)) = ws m ++ cur.toList.drop q := by simp [HWL.out]
  have HR2 := mkHid (Words.spliced (off := 0) (cs := m) cur HCUR.out (by rw [HQ.out]; have := HSZ.out; omega))
  have HW2 := mkHid (Wr.spliced (off := 0) (cs := ws m) cur HCUR.out (by rw [HWL.out]; have := HSZ.out; omega))
  rw [hrow] at HR2 HW2
  rw [HWL.out, Nat.zero_add] at HW2
  clear hrow
  generalize w.setRow b _ = w2 at HR2 HW2 ⊢
  clear HCUR HSZ
  have h0q : Hid (0 < m.length) := mkHid (by rw [HQ.out]; exact hq1)
  obtain ⟨t, ht⟩ : ∃ t, t = m[0]'(h0q.out) % 2 ^ s := ⟨_, rfl⟩
  have HT := Lib.hid ht; clear ht
  go_wp2
  go_loopw [22] (fun iv wr => ∃ i : Nat, i + 1 ≤ q ∧ iv = .int .i64 i ∧ ∃ zs, Hid (ShrInv m s i t zs ∧ Words wr b 0 (zs ++ m.drop i) ∧ Wr w2 wr b 0 q))
    (fun iv _ => q - (intOf iv).toNat)
  case atStart => exact ⟨0, hq1, rfl, [], ⟨rfl, M.Ok.nil, by rw [HT.out]; exact Nat.mod_lt _ (Nat.two_pow_pos s), h0q.out, by simp [HT.out]⟩, by simpa using HR2.out, Wr.refl _ _ _ _⟩
  case round =>
    obtain ⟨i, hi, rfl, zs, H⟩ := hrel
    by_cases hlt : i + 1 < q
    · have hlt' : (i : Int) < (q : Int) - 1 := by omega
      have H1 : Hid (i < m.length) := mkHid (by rw [HQ.out]; omega)
      have H2 : Hid (i + 1 < m.length) := mkHid (by rw [HQ.out]; omega)
      obtain ⟨x, ex⟩ : ∃ x, m[i]'(H1.out) = x := ⟨_, rfl⟩
      obtain ⟨y, ey⟩ : ∃ y, m[i + 1]'(H2.out) = y := ⟨_, rfl⟩
      have hdrop : m.drop i = x :: m.drop (i + 1) := by rw [← ex]; exact List.drop_eq_getElem_cons H1.out
      have hdrop2 : m.drop (i + 1) = y :: m.drop (i + 2) := by rw [← ey]; exact List.drop_eq_getElem_cons H2.out
      have BX : Hid (x < M.B) := mkHid (by rw [← ex]; exact OM.out.get H1.out)
      have EX := Lib.hid ex; have EY := Lib.hid ey; clear ex ey
      have HD := Lib.hid hdrop; have HD2 := Lib.hid hdrop2; clear hdrop hdrop2
      have HWM : Hid (Words wr b 0 (zs ++ x :: m.drop (i + 1))) := mkHid (by rw [← HD.out]; exact H.out.2.1)
      have HWN : Hid (Words wr b 0 ((zs ++ [x]) ++ y :: m.drop (i + 2))) := mkHid (by rw [← HD2.out, List.append_assoc]; exact HWM.out)
      obtain ⟨hcx, hfx⟩ := HWM.out.atMid H.out.1.1
      obtain ⟨hcy, -⟩ := HWN.out.atMid (n := i + 1) (by simp [H.out.1.1])
      rw [Nat.zero_add] at hcx hfx hcy
      obtain ⟨a, c, d, SH⟩ := shr x y s hsb BX.out
      have ea := SH.ea
      have eb := SH.eb
      have ed := SH.ed
      have HSH := Lib.hid SH; clear SH
      go_wp2
      go_region
      go_wp2
      go_roundw
      case rel =>
        refine ⟨i + 1, hlt, by go_num, zs ++ [d], mkHid ?_⟩
        obtain ⟨h1, h2, h3⟩ := H.out
        have h4 := HWM.out.setMid h1.1 d
        rw [Nat.zero_add] at h4
        refine ⟨h1.step x y a c d H2.out EX.out EY.out HSH.out, ?_, (h3.setCell (by omega) (by omega) _).drew⟩
        rw [show zs ++ d :: m.drop (i + 1) = (zs ++ [d]) ++ m.drop (i + 1) by simp] at h4
        exact h4
      case measure => simp [intOf]; omega
    · have hie : i + 1 = q := by omega
      have hnlt : ¬ ((i : Int) < (q : Int) - 1) := by omega
      have H1 : Hid (i < m.length) := mkHid (by rw [HQ.out]; omega)
      obtain ⟨x, ex⟩ : ∃ x, m[i]'(H1.out) = x := ⟨_, rfl⟩
      have hdrop : m.drop i = [x] := by rw [← ex, List.drop_eq_getElem_cons H1.out, List.drop_of_length_le (by rw [HQ.out]; omega)]
      have BX : Hid (x < M.B) := mkHid (by rw [← ex]; exact OM.out.get H1.out)
      have HWM : Hid (Words wr b 0 (zs ++ [x])) := mkHid (by rw [← hdrop]; exact H.out.2.1)
      have EX := Lib.hid ex; clear ex hdrop
      have hqi : (q : Int) - 1 = (i : Int) := by omega
      obtain ⟨hcx, hfx⟩ := HWM.out.atMid H.out.1.1
      rw [Nat.zero_add] at hcx hfx
      have ea : (x : Int) / 2 ^ s = ((x / 2 ^ s : Nat) : Int) := by rw [show ((2 : Int) ^ s) = ((2 ^ s : Nat) : Int) by simp]; rfl
      have HE := mkHid (shr_end H.out.1 (by rw [HQ.out]; omega) x EX.out)
      have BA : Hid (x / 2 ^ s < M.B) := mkHid (Nat.lt_of_le_of_lt (Nat.div_le_self _ _) BX.out)
      generalize x / 2 ^ s = a at ea HE BA
      have H4 : Hid (Words (wr.setCell ⟨b, i, none⟩ (.int .u64 (a : Int))) b 0 (zs ++ [a])) := mkHid (by have := HWM.out.setMid H.out.1.1 a; rwa [Nat.zero_add] at this)
      have OA : Hid (M.Ok (zs ++ [a])) := mkHid (H.out.1.2.1.append (M.Ok.cons BA.out M.Ok.nil))
      have HL4 : Hid ((zs ++ [a]).length = q) := mkHid (by simp [H.out.1.1, hie])
      have HTR : Hid (∀ w3, Words w3 b 0 (zs ++ [a]) → Calls Tryd.prog 58 #[.slice (some ⟨b, 0, none⟩) q cap] w3 fun e w' => e = .returned (.slice (some ⟨b, 0, none⟩) (M.dig (M.val l / 2 ^ n)).length cap) ∧ w3 = w') :=
        mkHid fun w3 h3 => by
          have := trim_any b 0 cap (zs ++ [a]) w3 (by unfold maxLen; omega) (by rw [HL4.out]; exact hq3) OA.out h3
          rwa [HL4.out, HE.out, ← HNM.out] at this
      clear hie
      go_wp2_with (go_at_call 58; refine (HTR.out _ H4.out).mono ?_; rintro e w' ⟨rfl, rfl⟩)
      go_ret
      refine ⟨rfl, mkHid ?_⟩
      have hdv : M.dig (M.val l / 2 ^ n) = (zs ++ [a]).take (M.dig (M.val l / 2 ^ n)).length := by rw [HNM.out, ← HE.out]; exact M.dig_prefix OA.out
      have hwr : Wr w (wr.setCell ⟨b, i, none⟩ (.int .u64 (a : Int))) b 0 l.length := by
        have h6 := (HW2.out.trans H.out.2.2).setCell (k := i) (by omega) (by omega) (.int .u64 (a : Int))
        exact h6.mono (Nat.le_refl _) (by have := HLQ.out; omega)
      refine ⟨?_, hwr⟩
      rw [hdv]
      exact (HW.out.after hwr H4.out (by rw [HL4.out]; exact hq3)).take _
end Go.Proofs.YtflcdpolfimggaaDoor
namespace Go.Proofs.YtflcdpolfimggaaDoor
open Go.RowKit

/-- After i rounds: the words written, what is borrowed. -/
def SubInv (xs ys : List Nat) (i c : Nat) (zs : List Nat) : Prop :=
  zs.length = i ∧ M.Ok zs ∧ c ≤ 1 ∧ M.val zs + M.val (ys.take i) = M.val (xs.take i) + M.B ^ i * c

theorem SubInv.start (xs ys : List Nat) : SubInv xs ys 0 0 [] := ⟨rfl, M.Ok.nil, by omega, by simp⟩

theorem sub_arith (b p z c x y d c' X Y : Nat) (h : z + Y = X + p * c) (hs : d + y + c = x + b * c') : z + p * d + (Y + p * y) = X + p * x + p * b * c' := by
  have : p * (d + y + c) = p * (x + b * c') := by rw [hs]
  simp only [Nat.mul_add, ← Nat.mul_assoc] at this
  omega

theorem SubInv.step {xs ys : List Nat} {i c : Nat} {zs : List Nat} (h : SubInv xs ys i c zs) (x y : Nat) (hx : M.val (xs.take (i + 1)) = M.val (xs.take i) + M.B ^ i * x)
    (hy : M.val (ys.take (i + 1)) = M.val (ys.take i) + M.B ^ i * y) (bx : x < M.B) (by' : y < M.B) :
    SubInv xs ys (i + 1) (bor x y c) (zs ++ [dif x y c]) := by
  obtain ⟨h1, h2, h3, h4⟩ := h
  refine ⟨by simp [h1], h2.append (M.Ok.cons (dif_lt _ _ _) M.Ok.nil), bor_le _ _ _, ?_⟩
  rw [M.val_snoc, h1, hx, hy, Nat.pow_succ]
  exact sub_arith _ _ _ c x y _ _ _ _ h4 (dif_bor bx by' h3)

set_option maxRecDepth 100000 in
set_option maxHeartbeats 1000000 in
theorem subWords_any (bx ox cx by' oy cy : Nat) (xs ys : List Nat) (w : World) (hx : Words w bx ox xs) (hy : Words w by' oy ys) (hne : by' ≠ bx) (hle : ys.length ≤ xs.length) (hv : M.val ys ≤ M.val xs)
    (hb : xs.length ≤ 1152921504606846976) (okx : M.Ok xs) (oky : M.Ok ys) :
    Calls Tryd.prog 72 #[.slice (some ⟨bx, ox, none⟩) xs.length cx, .slice (some ⟨by', oy, none⟩) ys.length cy] w fun e w' => e = .returned (.tuple #[]) ∧
      ∃ zs, Hid (zs.length = xs.length ∧ M.Ok zs ∧ M.val zs = M.val xs - M.val ys ∧ Words w' bx ox zs ∧ Wr w w' bx ox (ox + xs.length)) := by
  have HX := Lib.hid hx; clear hx
  have HY := Lib.hid hy; clear hy
  have OX := Lib.hid okx; clear okx
  have OY := Lib.hid oky; clear oky
  have HNE := Lib.hid hne; clear hne
  have HV := Lib.hid hv; clear hv
  go_enter Tryd.func72, Tryd.ntmps72
  go_wp2
  go_loopw [4, 9] (fun cv iv wr => ∃ i c : Nat, i ≤ ys.length ∧ iv = .int .i64 i ∧ cv = .int .u64 c ∧ ∃ zs, Hid (SubInv xs ys i c zs ∧ Words wr bx ox (zs ++ xs.drop i) ∧ Wr w wr bx ox (ox + xs.length)))
    (fun _ iv _ => ys.length - (intOf iv).toNat)
  case atStart => exact ⟨0, 0, by omega, rfl, rfl, [], SubInv.start _ _, by simpa using HX.out, Wr.refl _ _ _ _⟩
  case round =>
    obtain ⟨i, c, hi, rfl, rfl, zs, H⟩ := hrel
    by_cases hlt : i < ys.length
    · have hcx := (H.out.2.1).at H.out.1.1 (show i < xs.length by omega)
      have hcy := ((HY.out).keep H.out.2.2 HNE.out) i hlt
      obtain ⟨hcx, hfx⟩ := hcx
      obtain ⟨hcy, -⟩ := hcy
      obtain ⟨x, ex⟩ : ∃ x, xs[i] = x := ⟨_, rfl⟩
      obtain ⟨y, ey⟩ : ∃ y, ys[i] = y := ⟨_, rfl⟩
      rw [ex] at hcx; rw [ey] at hcy
      have EX := Lib.hid ex; have EY := Lib.hid ey; clear ex ey
      have hc1 : c ≤ 1 := H.out.1.2.2.1
      have hsub := sub64_run x y c hc1
      have hix : i < xs.length := by omega
      go_wp2
      go_region
      go_wp2
      go_roundw
      case rel =>
        refine ⟨i + 1, bor x y c, hlt, by go_num, rfl, zs ++ [dif x y c], ?_⟩
        obtain ⟨h1, h2, h3⟩ := H.out
        have k1 := M.val_take_succ (l := xs) hix
        have k2 := M.val_take_succ (l := ys) hlt
        have b1 := OX.out.get hix
        have b2 := OY.out.get hlt
        rw [EX.out] at k1 b1; rw [EY.out] at k2 b2
        exact ⟨h1.step x y k1 k2 b1 b2, h2.snoc h1.1 hix _, (h3.setCell (by omega) (by omega) _).drew⟩
      case measure => simp [intOf]; omega
    · have hie : i = ys.length := by omega
      subst hie
      go_wp2
      obtain ⟨wo, rfl⟩ : ∃ wo : World, wo = wr := ⟨_, rfl⟩
      go_loopw [4, 6] (fun cv iv wr => ∃ i c : Nat, ys.length ≤ i ∧ i ≤ xs.length ∧ iv = .int .i64 i ∧ cv = .int .u64 c ∧ ∃ zs, Hid (SubInv xs ys i c zs ∧ Words wr bx ox (zs ++ xs.drop i) ∧ Wr w wr bx ox (ox + xs.length)))
        (fun _ iv _ => xs.length - (intOf iv).toNat)
      case atStart => exact ⟨ys.length, c, Nat.le_refl _, hle, rfl, rfl, zs, H⟩
      case round =>
        clear H
        obtain ⟨i, c, hi1, hi2, rfl, rfl, zs, H⟩ := hrel
        have hc1 : c ≤ 1 := H.out.1.2.2.1
        by_cases hc0 : c = 0
        · subst hc0
          go_wp2
          go_end0
          refine ⟨rfl, zs ++ xs.drop i, mkHid ?_⟩
          obtain ⟨⟨h1, h2, h3, h4⟩, h5, h6⟩ := H.out
          have hok := h2.append (OX.out.drop i)
          have hlen : (zs ++ xs.drop i).length = xs.length := by simp [h1]; omega
          have e1 := M.val_append zs (xs.drop i)
          have e2 := M.val_take_drop xs i hi2
          rw [List.take_of_length_le hi1] at h4
          have e3 : M.val (zs ++ xs.drop i) = M.val xs - M.val ys := by rw [e1, h1]; omega
          exact ⟨hlen, hok, e3, h5, h6⟩
        · have hc2 : 0 < c := by omega
          have hlt : i < xs.length := by
            apply Nat.lt_of_not_le; intro hge
            have hie : i = xs.length := by omega
            obtain ⟨⟨h1, h2, h3, h4⟩, h5, h6⟩ := H.out
            have hc3 : c = 1 := by omega
            have h7 := M.val_lt h2
            rw [h1] at h7
            rw [List.take_of_length_le hge, List.take_of_length_le hi1, hc3] at h4
            have := HV.out
            omega
          · obtain ⟨hcx, hfx⟩ := (H.out.2.1).at H.out.1.1 hlt
            obtain ⟨x, ex⟩ : ∃ x, xs[i] = x := ⟨_, rfl⟩
            rw [ex] at hcx
            have EX := Lib.hid ex; clear ex
            have hsub := sub64_run_y0 x c hc1
            go_wp2
            go_roundw
            case rel =>
              refine ⟨i + 1, bor x 0 c, by omega, hlt, by go_num, rfl, zs ++ [dif x 0 c], ?_⟩
              obtain ⟨h1, h2, h3⟩ := H.out
              have k1 := M.val_take_succ (l := xs) hlt
              have b1 := OX.out.get hlt
              rw [EX.out] at k1 b1
              have k2 : M.val (ys.take (i + 1)) = M.val (ys.take i) + M.B ^ i * 0 := by rw [List.take_of_length_le (by omega), List.take_of_length_le (by omega)]; simp
              exact ⟨h1.step x 0 k1 k2 b1 M.B_pos, h2.snoc h1.1 hlt _, h3.setCell (by omega) (by omega) _⟩
            case measure => simp [intOf]; omega
end Go.Proofs.YtflcdpolfimggaaDoor
namespace Go.Proofs.YtflcdpolfimggaaDoor
open Go.RowKit

/-- A quiet call where draws lie behind already. -/
theorem qadd {P : Program} {f : FuncId} {args : Array Value} {w : World} {a n : Nat} {v : Value} (h : ∀ W : World, Calls P f args W fun e w' => e = .returned v ∧ w' = W) :
    Calls P f args (w.drewN (a + n)) fun e w'' => e = .returned v ∧ ∃ m, w'' = w.drewN (a + m) := (h _).mono fun _ _ h => ⟨h.1, n, h.2⟩

theorem val_lt_of_length {X Y : Nat} (h : (M.dig X).length < (M.dig Y).length) : X < Y := by
  apply Nat.lt_of_not_le; intro hle
  have hY : Y ≠ 0 := by intro h0; subst h0; rw [M.dig_zero] at h; simp at h
  have h1 := M.val_lower hY
  have h2 : X < M.B ^ (M.dig X).length := by have := M.val_lt (M.ok_dig X); rwa [M.val_dig] at this
  have h3 : M.B ^ (M.dig X).length ≤ M.B ^ ((M.dig Y).length - 1) := Nat.pow_le_pow_right M.B_pos (by omega)
  omega
theorem dig_mono {X Y : Nat} (h : X ≤ Y) : (M.dig X).length ≤ (M.dig Y).length := by
  apply Nat.le_of_not_lt; intro hlt
  have := val_lt_of_length hlt; omega

/-- Lists of as many words that agree from k + 1 on. -/
theorem top_lt {xs ys : List Nat} (hx : M.Ok xs) (hl : xs.length = ys.length) (k : Nat) (hk : k < xs.length) (hd : M.val (xs.drop (k + 1)) = M.val (ys.drop (k + 1))) (x y : Nat) (ex : xs[k] = x) (ey : ys[k]'(by omega) = y) (h : x < y) : M.val xs < M.val ys := by
  have a := M.val_take_drop xs k (by omega)
  have b := M.val_take_drop ys k (by omega)
  rw [List.drop_eq_getElem_cons hk, M.val_cons, ex] at a
  rw [List.drop_eq_getElem_cons (show k < ys.length by omega), M.val_cons, ey, ← hd] at b
  have c := M.val_lt (hx.take k)
  rw [List.length_take, Nat.min_eq_left (by omega)] at c
  have d : M.B ^ k * (x + 1) ≤ M.B ^ k * y := Nat.mul_le_mul_left _ h
  rw [a, b, Nat.mul_add, Nat.mul_add]
  rw [Nat.mul_add] at d
  omega

theorem cmp_lt {X Y : Nat} (h : X < Y) : Lib.compareInt (X : Int) (Y : Int) = -1 := by unfold Lib.compareInt; rw [if_pos (by omega)]
theorem cmp_gt {X Y : Nat} (h : Y < X) : Lib.compareInt (X : Int) (Y : Int) = 1 := by unfold Lib.compareInt; rw [if_neg (by omega), if_pos (by omega)]
theorem cmp_eq (X : Nat) : Lib.compareInt (X : Int) (X : Int) = 0 := by unfold Lib.compareInt; rw [if_neg (by omega), if_neg (by omega)]

set_option maxRecDepth 100000 in
set_option maxHeartbeats 1000000 in
theorem compareWords_any (bx ox cx by' oy cy X Y : Nat) (w : World) (hx : Words w bx ox (M.dig X)) (hy : Words w by' oy (M.dig Y)) (hb : (M.dig X).length ≤ 1000000) :
    Calls Tryd.prog 82 #[.slice (some ⟨bx, ox, none⟩) (M.dig X).length cx, .slice (some ⟨by', oy, none⟩) (M.dig Y).length cy] w fun e w' =>
      e = .returned (.int .i64 (Lib.compareInt (X : Int) (Y : Int))) ∧ ∃ n, w' = w.drewN n := by
  have HX := Lib.hid hx; clear hx
  have HY := Lib.hid hy; clear hy
  have OX : Hid (M.Ok (M.dig X)) := mkHid (M.ok_dig X)
  have OY : Hid (M.Ok (M.dig Y)) := mkHid (M.ok_dig Y)
  have VX : Hid (M.val (M.dig X) = X) := mkHid (M.val_dig X)
  have VY : Hid (M.val (M.dig Y) = Y) := mkHid (M.val_dig Y)
  by_cases hne : (M.dig X).length = (M.dig Y).length
  · rw [← hne]
    have HE := Lib.hid hne; clear hne
    generalize M.dig X = xs at *
    generalize M.dig Y = ys at *
    go_enter Tryd.func82, Tryd.ntmps82
    go_wp2
    go_loopw [19] (fun iv wr => ∃ i n : Nat, i ≤ xs.length ∧ iv = .int .i64 i ∧ wr = w.drewN n ∧ Hid (M.val (xs.drop (xs.length - i)) = M.val (ys.drop (xs.length - i)))) (fun iv _ => xs.length - (intOf iv).toNat)
    case atStart => exact ⟨0, 0, by omega, rfl, rfl, by simp only [Nat.sub_zero]; rw [List.drop_length, HE.out, List.drop_length]; rfl⟩
    case round =>
      obtain ⟨i, n, hi, rfl, rfl, H⟩ := hrel
      by_cases hlt : i < xs.length
      · obtain ⟨k, hk⟩ : ∃ k, xs.length - i = k + 1 := ⟨xs.length - i - 1, by omega⟩
        have hkx : k < xs.length := by omega
        have HKY : Hid (k < ys.length) := mkHid (by rw [← HE.out]; exact hkx)
        rw [hk] at H
        have hik : (xs.length : Int) - 1 - (i : Int) = (k : Int) := by omega
        have HK := mkHid hk
        clear hk
        obtain ⟨hcx, -⟩ := HX.out k hkx
        obtain ⟨hcy, -⟩ := HY.out k HKY.out
        obtain ⟨x, ex⟩ : ∃ x, xs[k] = x := ⟨_, rfl⟩
        obtain ⟨y, ey⟩ : ∃ y, ys[k]'(HKY.out) = y := ⟨_, rfl⟩
        rw [ex] at hcx; rw [ey] at hcy
        have EX := Lib.hid ex; have EY := Lib.hid ey; clear ex ey
        by_cases hxy : x = y
        · subst hxy
          go_wp2
          go_region
          go_wp2
          go_roundw
          case rel =>
            refine ⟨i + 1, n + 1, hlt, by go_num, rfl, mkHid ?_⟩
            have hk2 := HK.out
            rw [show xs.length - (i + 1) = k by omega, List.drop_eq_getElem_cons hkx, List.drop_eq_getElem_cons HKY.out, M.val_cons, M.val_cons, EX.out, EY.out, H.out]
          case measure => simp [intOf]; omega
        · have hxy' : ((x : Int) != (y : Int)) = true := by simp; omega
          have hfin : Hid (Lib.compareInt (x : Int) (y : Int) = Lib.compareInt (X : Int) (Y : Int)) := by
            refine mkHid ?_
            rcases Nat.lt_or_gt_of_ne hxy with h | h
            · rw [cmp_lt h, ← VX.out, ← VY.out, cmp_lt (top_lt OX.out HE.out k hkx H.out x y EX.out EY.out h)]
            · rw [cmp_gt h, ← VX.out, ← VY.out, cmp_gt (top_lt OY.out HE.out.symm k HKY.out H.out.symm y x EY.out EX.out h)]
          go_wp2
          go_region
          go_wp2_with fail
          go_quiet ((go_at_call 76; exact qadd (compare64_any _ _)))
          go_wp2
          go_ret
          exact ⟨by rw [← hfin.out]; rfl, _, World.drewN_drewN _ _ _⟩
      · have hie : i = xs.length := by omega
        subst hie
        have hfin : Hid (Lib.compareInt (X : Int) (Y : Int) = 0) := by
          refine mkHid ?_
          have := H.out
          rw [Nat.sub_self, List.drop_zero, List.drop_zero, VX.out, VY.out] at this
          rw [this]; exact cmp_eq Y
        go_wp2
        go_ret
        exact ⟨by rw [hfin.out]; rfl, _, rfl⟩
  · have hnb : (((M.dig X).length : Int) != ((M.dig Y).length : Int)) = true := by simp; omega
    have hfin : Hid (Lib.compareInt ((M.dig X).length : Int) ((M.dig Y).length : Int) = Lib.compareInt (X : Int) (Y : Int)) := by
      refine mkHid ?_
      rcases Nat.lt_or_gt_of_ne hne with h | h
      · rw [cmp_lt h, cmp_lt (val_lt_of_length h)]
      · rw [cmp_gt h, cmp_gt (val_lt_of_length h)]
    generalize M.dig X = xs at *
    generalize M.dig Y = ys at *
    go_enter Tryd.func82, Tryd.ntmps82
    go_wp2_with (go_at_call 74; refine (Tryd.cmp_Compare_int _ _ _).mono ?_; rintro e w' ⟨rfl, rfl⟩)
    go_ret
    exact ⟨by rw [← hfin.out]; rfl, 0, rfl⟩

set_option maxRecDepth 100000 in
set_option maxHeartbeats 400000 in
theorem gcdWord_any (x y : Nat) (w : World) (hx : (x : Int) ≤ 18446744073709551615) (hy : (y : Int) ≤ 18446744073709551615) :
    Calls Tryd.prog 52 #[.int .u64 x, .int .u64 y] w fun e w' => e = .returned (.int .u64 ((Nat.gcd x y : Nat) : Int)) ∧ ∃ n, w' = w.drewN n := by
  go_enter Tryd.func52, Tryd.ntmps52
  go_wp2
  go_loopw [0, 1] (fun a b wr => ∃ p q n : Nat, a = .int .u64 p ∧ b = .int .u64 q ∧ wr = w.drewN n ∧ (p : Int) ≤ 18446744073709551615 ∧ (q : Int) ≤ 18446744073709551615 ∧ Hid (Nat.gcd p q = Nat.gcd x y)) (fun _ b _ => (intOf b).toNat)
  case atStart => exact ⟨x, y, 0, rfl, rfl, rfl, hx, hy, rfl⟩
  case round =>
    obtain ⟨p, q, n, rfl, rfl, rfl, hp, hq, H⟩ := hrel
    by_cases hz : q = 0
    · subst hz
      have hfin : Hid (p = Nat.gcd x y) := mkHid (by rw [← H.out, Nat.gcd_zero_right])
      go_wp2
      go_ret
      exact ⟨by rw [← hfin.out]; rfl, _, rfl⟩
    · have hqb : ((q : Int) != 0) = true := by simp; omega
      have hq0 : 0 < q := by omega
      have hmod : (p : Int) % (q : Int) = ((p % q : Nat) : Int) := rfl
      have hlt : Hid (p % q < q) := mkHid (Nat.mod_lt _ hq0)
      have HG : Hid (Nat.gcd q (p % q) = Nat.gcd x y) := mkHid (by rw [← H.out, Nat.gcd_comm p q, Nat.gcd_rec q p, Nat.gcd_comm])
      generalize p % q = r at *
      go_wp2
      go_region
      go_wp2
      go_roundw
      case rel => exact ⟨q, r, n + 1, rfl, by first | rfl | (rw [hmod]), rfl, hq, by have := hlt.out; omega, HG.out⟩
      case measure => have := hlt.out; simp [intOf]; omega

/-! ### gcdWords -/
def Odd (n : Nat) : Prop := ∃ m, n = 2 * m + 1
theorem Odd.pos {n : Nat} (h : Odd n) : 0 < n := by obtain ⟨m, rfl⟩ := h; omega
theorem odd_cop (m : Nat) : Nat.Coprime 2 (2 * m + 1) := by
  unfold Nat.Coprime; rw [Nat.gcd_rec]; simp
theorem gcd_two_pow (z x n : Nat) (hx : Odd x) : Nat.gcd x (2 ^ z * n) = Nat.gcd x n := by
  obtain ⟨m, rfl⟩ := hx
  exact Nat.Coprime.gcd_mul_left_cancel_right n (Nat.Coprime.pow_left z (odd_cop m))
/-- Odd parts, and the smaller power of two. -/
theorem gcd_parts (a b x y : Nat) (hx : Odd x) (hy : Odd y) : Nat.gcd (2 ^ a * x) (2 ^ b * y) = Nat.gcd x y * 2 ^ min a b := by
  rcases Nat.le_total a b with h | h
  · rw [Nat.min_eq_left h]
    obtain ⟨c, rfl⟩ := Nat.exists_eq_add_of_le h
    rw [Nat.pow_add, Nat.mul_assoc, Nat.gcd_mul_left, gcd_two_pow c x y hx, Nat.mul_comm]
  · rw [Nat.min_eq_right h]
    obtain ⟨c, rfl⟩ := Nat.exists_eq_add_of_le h
    rw [Nat.pow_add, Nat.mul_assoc, Nat.gcd_mul_left, Nat.gcd_comm, gcd_two_pow c y x hy, Nat.gcd_comm, Nat.mul_comm]
/-- One step: the difference without its low zeros. -/
theorem gcd_step (x y z m : Nat) (hx : Odd x) (hlt : x ≤ y) (hm : y - x = 2 ^ z * (2 * m + 1)) : Nat.gcd x (2 * m + 1) = Nat.gcd x y := by
  rw [← gcd_two_pow z x (2 * m + 1) hx, ← hm, Nat.gcd_sub_self_right hlt]
theorem odd_div (v z m : Nat) (h : v = 2 ^ z * (2 * m + 1)) : v / 2 ^ z = 2 * m + 1 := by
  rw [h, Nat.mul_div_cancel_left _ (Nat.two_pow_pos z)]
theorem odd_sub (x y z m : Nat) (hy : Odd y) (hx : Odd x) (hlt : x < y) (hm : y - x = 2 ^ z * (2 * m + 1)) : x + (2 * m + 1) < x + y := by
  have h1 : 0 < z := by
    rcases Nat.eq_zero_or_pos z with h0 | h0
    · subst h0
      obtain ⟨a, rfl⟩ := hx
      obtain ⟨b, rfl⟩ := hy
      simp at hm; omega
    · exact h0
  have h2 : 2 ^ 1 ≤ 2 ^ z := Nat.pow_le_pow_right (by omega) h1
  have h3 := Nat.mul_le_mul_right (2 * m + 1) h2
  omega

/-- What the rounds keep. -/
structure GI (w wr : World) (base p cp q cq X Y G : Nat) : Prop where
  ne : p ≠ q
  bp : base ≤ p
  bq : base ≤ q
  rp : Row wr p cp (M.dig X)
  rq : Row wr q cq (M.dig Y)
  ox : Odd X
  oy : Odd Y
  g : Nat.gcd X Y = G
  lx : (M.dig X).length ≤ 1000
  ly : (M.dig Y).length ≤ 1000
  below : Below base w wr
  tabs : Tabs wr

theorem GI.symm {w wr : World} {base p cp q cq X Y G : Nat} (h : GI w wr base p cp q cq X Y G) : GI w wr base q cq p cp Y X G :=
  ⟨h.ne.symm, h.bq, h.bp, h.rq, h.rp, h.oy, h.ox, by rw [Nat.gcd_comm]; exact h.g, h.ly, h.lx, h.below, h.tabs⟩
theorem GI.drewN {w wr : World} {base p cp q cq X Y G : Nat} (h : GI w wr base p cp q cq X Y G) (n : Nat) : GI w (wr.drewN n) base p cp q cq X Y G :=
  ⟨h.ne, h.bp, h.bq, h.rp, h.rq, h.ox, h.oy, h.g, h.lx, h.ly, ⟨h.below.os, h.below.tape, h.below.output, h.below.size, h.below.block⟩, h.tabs⟩

set_option maxRecDepth 100000 in
set_option maxHeartbeats 2000000 in
theorem gcdWords_any (bx cx by' cy base X Y : Nat) (w : World) (hx : Row w bx cx (M.dig X)) (hy : Row w by' cy (M.dig Y)) (hne : bx ≠ by') (hbx : base ≤ bx) (hby : base ≤ by') (h6 : 6 ≤ base)
    (hX : X ≠ 0) (hY : Y ≠ 0) (lx : (M.dig X).length ≤ 1000) (ly : (M.dig Y).length ≤ 1000) (ht : Tabs w) :
    Calls Tryd.prog 54 #[.slice (some ⟨bx, 0, none⟩) (M.dig X).length cx, .slice (some ⟨by', 0, none⟩) (M.dig Y).length cy] w fun e w' =>
      ∃ b' cap' len, e = .returned (.slice (some ⟨b', 0, none⟩) len cap') ∧ ∃ zs, Hid (zs.length = len ∧ M.Ok zs ∧ M.val zs = Nat.gcd X Y ∧ base ≤ b' ∧ Row w' b' cap' zs ∧ Below base w w' ∧ len ≤ 3000) := by
  have HX := Lib.hid hx; clear hx
  have HY := Lib.hid hy; clear hy
  have HNE := Lib.hid hne; clear hne
  have HBX := Lib.hid hbx; clear hbx
  have HBY := Lib.hid hby; clear hby
  have H6 := Lib.hid h6; clear h6
  have HT := Lib.hid ht; clear ht
  have VX : Hid (M.val (M.dig X) ≠ 0) := mkHid (by rw [M.val_dig]; exact hX)
  have VY : Hid (M.val (M.dig Y) ≠ 0) := mkHid (by rw [M.val_dig]; exact hY)
  clear hX hY
  have CX := mkHid (zeroBits_any bx 0 cx (M.dig X) w HX.out.words (by omega) (M.ok_dig X) VX.out HT.out)
  have CY := mkHid (zeroBits_any by' 0 cy (M.dig Y) w HY.out.words (by omega) (M.ok_dig Y) VY.out HT.out)
  go_enter Tryd.func54, Tryd.ntmps54
  go_wp2_with fail
  refine CX.out.mono ?_
  rintro e w' ⟨a, rfl, rfl, ha⟩
  go_wp2_with fail
  refine CY.out.mono ?_
  rintro e w' ⟨b, rfl, rfl, hb⟩
  obtain ⟨x, hx⟩ := ha.out.2
  obtain ⟨y, hy⟩ := hb.out.2
  rw [M.val_dig] at hx hy
  have EX : Hid (X / 2 ^ a = 2 * x + 1) := mkHid (odd_div _ _ _ hx)
  have EY : Hid (Y / 2 ^ b = 2 * y + 1) := mkHid (odd_div _ _ _ hy)
  have HG : Hid (Nat.gcd X Y = Nat.gcd (2 * x + 1) (2 * y + 1) * 2 ^ min a b) := mkHid (by rw [hx, hy]; exact gcd_parts a b _ _ ⟨x, rfl⟩ ⟨y, rfl⟩)
  have LX : Hid ((M.dig (2 * x + 1)).length ≤ (M.dig X).length) := mkHid (dig_mono (by rw [← EX.out]; exact Nat.div_le_self _ _))
  have LY : Hid ((M.dig (2 * y + 1)).length ≤ (M.dig Y).length) := mkHid (dig_mono (by rw [← EY.out]; exact Nat.div_le_self _ _))
  have CS : Hid (∀ w, Row w bx cx (M.dig X) → Calls Tryd.prog 81 #[.slice (some ⟨bx, 0, none⟩) (M.dig X).length cx, .int .i64 a] w fun e w' => e = .returned (.slice (some ⟨bx, 0, none⟩) (M.dig (2 * x + 1)).length cx) ∧
      Hid (Row w' bx cx (M.dig (2 * x + 1)) ∧ Wr w w' bx 0 (M.dig X).length)) := mkHid fun w h => by
    have := shiftRight_any bx cx a (M.dig X) w h (by omega) (M.ok_dig X) (by have := ha.out.1; omega)
    rwa [M.val_dig, EX.out] at this
  have CT : Hid (∀ w, Row w by' cy (M.dig Y) → Calls Tryd.prog 81 #[.slice (some ⟨by', 0, none⟩) (M.dig Y).length cy, .int .i64 b] w fun e w' => e = .returned (.slice (some ⟨by', 0, none⟩) (M.dig (2 * y + 1)).length cy) ∧
      Hid (Row w' by' cy (M.dig (2 * y + 1)) ∧ Wr w w' by' 0 (M.dig Y).length)) := mkHid fun w h => by
    have := shiftRight_any by' cy b (M.dig Y) w h (by omega) (M.ok_dig Y) (by have := hb.out.1; omega)
    rwa [M.val_dig, EY.out] at this
  have HAB : Hid (a ≤ 64000 ∧ b ≤ 64000) := mkHid (by have h1 := ha.out.1; have h2 := hb.out.1; omega)
  clear hx hy
  go_wp2_with fail
  refine (CS.out _ HX.out).mono ?_
  rintro e w1 ⟨rfl, R1⟩
  go_wp2_with fail
  refine (CT.out _ (HY.out.keep R1.out.2 HNE.out.symm)).mono ?_
  rintro e w2 ⟨rfl, R2⟩
  have HGI : Hid (GI w' w2 base bx cx by' cy (2 * x + 1) (2 * y + 1) (Nat.gcd (2 * x + 1) (2 * y + 1))) := by
    have b1 : Below base w' w1 := R1.out.2.toBelow HBX.out (by have := HX.out.lt; have := HBX.out; omega)
    have b2 : Below base w1 w2 := R2.out.2.toBelow HBY.out (by have := HX.out.lt; have := HBX.out; have := b1.size; omega)
    exact mkHid ⟨HNE.out, HBX.out, HBY.out, R1.out.1.keep R2.out.2 HNE.out, R2.out.1, ⟨x, rfl⟩, ⟨y, rfl⟩, rfl, by have := LX.out; omega, by have := LY.out; omega, b1.trans b2, HT.out.below (b1.trans b2) H6.out⟩
  clear CX CY CS CT R1 R2
  go_wp2_with fail
  go_loopg [0, 1] (2 * x + 1 + (2 * y + 1)) (fun k u v wr => ∃ p cp q cq X' Y' : Nat, u = .slice (some ⟨p, 0, none⟩) (M.dig X').length cp ∧ v = .slice (some ⟨q, 0, none⟩) (M.dig Y').length cq ∧ Hid (k = X' + Y' ∧ GI w' wr base p cp q cq X' Y' (Nat.gcd (2 * x + 1) (2 * y + 1))))
  case atStart => exact ⟨bx, cx, by', cy, _, _, rfl, rfl, rfl, HGI.out⟩
  case round =>
    clear HGI
    obtain ⟨p, cp, q, cq, X', Y', rfl, rfl, H⟩ := hrel
    have CC := mkHid (compareWords_any p 0 cp q 0 cq X' Y' wr H.out.2.rp.words H.out.2.rq.words (by have := H.out.2.lx; omega))
    go_wp2_with fail
    refine CC.out.mono ?_
    clear CC
    rintro e w3 ⟨rfl, n, rfl⟩
    have HI : Hid (GI w' (wr.drewN n) base p cp q cq X' Y' (Nat.gcd (2 * x + 1) (2 * y + 1))) := mkHid (H.out.2.drewN n)
    have HK : Hid (gk = X' + Y') := mkHid H.out.1
    clear H
    rcases Nat.lt_trichotomy X' Y' with hlt | heq | hgt
    · have hc := cmp_lt hlt
      have HLT : Hid (X' < Y') := mkHid hlt
      clear hlt
      have C1 := mkHid (subWords_any q 0 cq p 0 cp (M.dig Y') (M.dig X') _ HI.out.rq.words HI.out.rp.words HI.out.ne (dig_mono (Nat.le_of_lt HLT.out)) (by rw [M.val_dig, M.val_dig]; exact Nat.le_of_lt HLT.out) (by have := HI.out.ly; omega) (M.ok_dig _) (M.ok_dig _))
      go_wp2_with fail
      refine C1.out.mono ?_
      clear C1
      rintro e w4 ⟨rfl, zs, R⟩
      have HB4 : Hid (Below base w' w4) := mkHid (HI.out.below.trans (R.out.2.2.2.2.toBelow HI.out.bq (by have := HI.out.rp.lt; have := HI.out.bp; omega)))
      have HT4 : Hid (Tabs w4) := mkHid (HT.out.below HB4.out H6.out)
      have HR4 : Hid (Row w4 q cq zs) := mkHid (HI.out.rq.after R.out.2.2.2.2 R.out.2.2.2.1 (by have h1 := HI.out.rq.cap; have h2 := R.out.1; omega))
      have HP4 : Hid (Row w4 p cp (M.dig X')) := mkHid (HI.out.rp.keep R.out.2.2.2.2 HI.out.ne)
      have HV : Hid (M.val zs = Y' - X') := mkHid (by rw [R.out.2.2.1, M.val_dig, M.val_dig])
      have hzl : zs.length = (M.dig Y').length := R.out.1
      have C2 := mkHid (zeroBits_any q 0 cq zs w4 HR4.out.words (by have := HI.out.ly; omega) R.out.2.1 (by rw [HV.out]; have := HLT.out; omega) HT4.out)
      rw [hzl] at C2
      go_wp2_with fail
      refine C2.out.mono ?_
      clear C2
      rintro e w5 ⟨z, rfl, rfl, hz⟩
      obtain ⟨m, hm⟩ := hz.out.2
      rw [HV.out] at hm
      have EZ : Hid ((Y' - X') / 2 ^ z = 2 * m + 1) := mkHid (odd_div _ _ _ hm)
      have GZ : Hid (Nat.gcd X' (2 * m + 1) = Nat.gcd X' Y') := mkHid (gcd_step _ _ _ _ HI.out.ox (Nat.le_of_lt HLT.out) hm)
      have LZ : Hid (X' + (2 * m + 1) < X' + Y') := mkHid (odd_sub _ _ _ _ HI.out.oy HI.out.ox HLT.out hm)
      have LD : Hid ((M.dig (2 * m + 1)).length ≤ 1000) := mkHid (Nat.le_trans (dig_mono (by rw [← EZ.out]; exact Nat.le_trans (Nat.div_le_self _ _) (Nat.sub_le _ _))) HI.out.ly)
      clear hm
      have C3 := mkHid (shiftRight_any q cq z zs w5 HR4.out (by have := HI.out.ly; omega) R.out.2.1 (by have := hz.out.1; omega))
      rw [HV.out, EZ.out, hzl] at C3
      clear hzl
      go_wp2_with fail
      refine C3.out.mono ?_
      clear C3
      rintro e w6 ⟨rfl, R6⟩
      go_wp2_with fail
      have HF : Hid (Below base w' w6) := mkHid (HB4.out.trans (R6.out.2.toBelow HI.out.bq (by have := HP4.out.lt; have := HI.out.bp; omega)))
      have HGI : Hid (GI w' w6 base p cp q cq X' (2 * m + 1) (Nat.gcd (2 * x + 1) (2 * y + 1))) :=
        mkHid ⟨HI.out.ne, HI.out.bp, HI.out.bq, HP4.out.keep R6.out.2 HI.out.ne, R6.out.1, HI.out.ox, ⟨m, rfl⟩, by rw [GZ.out]; exact HI.out.g, HI.out.lx, LD.out, HF.out, HT.out.below HF.out H6.out⟩
      go_roundg (X' + (2 * m + 1))
      case measure => have := LZ.out; have := HK.out; omega
      case rel => exact ⟨p, cp, q, cq, X', 2 * m + 1, rfl, rfl, rfl, HGI.out⟩
    · subst heq
      have hc := cmp_eq X'
      have HGG : Hid (X' = Nat.gcd (2 * x + 1) (2 * y + 1)) := mkHid (by rw [← HI.out.g, Nat.gcd_self])
      have CL := mkHid (shiftLeft_any p 0 cp (min a b) (M.dig X') (wr.drewN n) HI.out.rp.words (by have := HI.out.lx; omega) (M.ok_dig _) (by have := HAB.out; omega))
      rw [show ((min a b : Nat) : Int) = min (a : Int) (b : Int) by omega] at CL
      go_wp2_with fail
      refine CL.out.mono ?_
      clear CL
      rintro e w4 ⟨b', rfl, zs, R⟩
      go_wp2_with fail
      go_ret
      have hb1 : Below base w' w4 := HI.out.below.trans (R.out.2.2.2.2.2.mono (by have := HI.out.rp.lt; have := HI.out.bp; omega))
      refine ⟨b', _, _, rfl, zs, mkHid ⟨R.out.1, R.out.2.1, ?_, by have h1 := R.out.2.2.2.1; have h2 := HI.out.rp.lt; have h3 := HI.out.bp; omega, R.out.2.2.2.2.1, hb1, ?_⟩⟩
      · rw [R.out.2.2.1, M.val_dig, HG.out, ← HGG.out]
      · have h1 := HAB.out
        have h2 := HI.out.lx
        have h3 : min a b ≤ 64000 := by omega
        omega
    · have hc := cmp_gt hgt
      have hlt := hgt
      have HJ := mkHid HI.out.symm
      clear HI hgt
      have HI := HJ
      clear HJ
      have HK2 : Hid (gk = Y' + X') := mkHid (by rw [HK.out]; omega)
      clear HK
      have HK := HK2
      clear HK2
      have HLT : Hid (Y' < X') := mkHid hlt
      clear hlt
      have C1 := mkHid (subWords_any p 0 cp q 0 cq (M.dig X') (M.dig Y') _ HI.out.rq.words HI.out.rp.words HI.out.ne (dig_mono (Nat.le_of_lt HLT.out)) (by rw [M.val_dig, M.val_dig]; exact Nat.le_of_lt HLT.out) (by have := HI.out.ly; omega) (M.ok_dig _) (M.ok_dig _))
      go_wp2_with fail
      refine C1.out.mono ?_
      clear C1
      rintro e w4 ⟨rfl, zs, R⟩
      have HB4 : Hid (Below base w' w4) := mkHid (HI.out.below.trans (R.out.2.2.2.2.toBelow HI.out.bq (by have := HI.out.rp.lt; have := HI.out.bp; omega)))
      have HT4 : Hid (Tabs w4) := mkHid (HT.out.below HB4.out H6.out)
      have HR4 : Hid (Row w4 p cp zs) := mkHid (HI.out.rq.after R.out.2.2.2.2 R.out.2.2.2.1 (by have h1 := HI.out.rq.cap; have h2 := R.out.1; omega))
      have HP4 : Hid (Row w4 q cq (M.dig Y')) := mkHid (HI.out.rp.keep R.out.2.2.2.2 HI.out.ne)
      have HV : Hid (M.val zs = X' - Y') := mkHid (by rw [R.out.2.2.1, M.val_dig, M.val_dig])
      have hzl : zs.length = (M.dig X').length := R.out.1
      have C2 := mkHid (zeroBits_any p 0 cp zs w4 HR4.out.words (by have := HI.out.ly; omega) R.out.2.1 (by rw [HV.out]; have := HLT.out; omega) HT4.out)
      rw [hzl] at C2
      go_wp2_with fail
      refine C2.out.mono ?_
      clear C2
      rintro e w5 ⟨z, rfl, rfl, hz⟩
      obtain ⟨m, hm⟩ := hz.out.2
      rw [HV.out] at hm
      have EZ : Hid ((X' - Y') / 2 ^ z = 2 * m + 1) := mkHid (odd_div _ _ _ hm)
      have GZ : Hid (Nat.gcd Y' (2 * m + 1) = Nat.gcd Y' X') := mkHid (gcd_step _ _ _ _ HI.out.ox (Nat.le_of_lt HLT.out) hm)
      have LZ : Hid (Y' + (2 * m + 1) < Y' + X') := mkHid (odd_sub _ _ _ _ HI.out.oy HI.out.ox HLT.out hm)
      have LD : Hid ((M.dig (2 * m + 1)).length ≤ 1000) := mkHid (Nat.le_trans (dig_mono (by rw [← EZ.out]; exact Nat.le_trans (Nat.div_le_self _ _) (Nat.sub_le _ _))) HI.out.ly)
      clear hm
      have C3 := mkHid (shiftRight_any p cp z zs w5 HR4.out (by have := HI.out.ly; omega) R.out.2.1 (by have := hz.out.1; omega))
      rw [HV.out, EZ.out, hzl] at C3
      clear hzl
      go_wp2_with fail
      refine C3.out.mono ?_
      clear C3
      rintro e w6 ⟨rfl, R6⟩
      go_wp2_with fail
      have HF : Hid (Below base w' w6) := mkHid (HB4.out.trans (R6.out.2.toBelow HI.out.bq (by have := HP4.out.lt; have := HI.out.bp; omega)))
      have HGI : Hid (GI w' w6 base q cq p cp Y' (2 * m + 1) (Nat.gcd (2 * x + 1) (2 * y + 1))) :=
        mkHid ⟨HI.out.ne, HI.out.bp, HI.out.bq, HP4.out.keep R6.out.2 HI.out.ne, R6.out.1, HI.out.ox, ⟨m, rfl⟩, by rw [GZ.out]; exact HI.out.g, HI.out.lx, LD.out, HF.out, HT.out.below HF.out H6.out⟩
      go_roundg (Y' + (2 * m + 1))
      case measure => have := LZ.out; have := HK.out; omega
      case rel => exact ⟨q, cq, p, cp, Y', 2 * m + 1, rfl, rfl, rfl, HGI.out⟩
end Go.Proofs.YtflcdpolfimggaaDoor
namespace Go.Proofs.YtflcdpolfimggaaDoor
open Go.RowKit

/-- Half of a quotient: q is at least the quotient of u 2^32 + t by n1 2^32 + n0, and r is what q n1 leaves of u. -/
structure Half (n1 n0 u t q r : Nat) : Prop where
  e : q * n1 + r = u
  b : (u * 4294967296 + t) / (n1 * 4294967296 + n0) ≤ q

theorem Half.lt {n1 n0 u t : Nat} (hu : u < n1 * 4294967296 + n0 ∧ t < 4294967296) : (u * 4294967296 + t) / (n1 * 4294967296 + n0) < 4294967296 := by
  rw [Nat.div_lt_iff_lt_mul (by omega)]
  have h := Nat.mul_le_mul_right 4294967296 (show u + 1 ≤ n1 * 4294967296 + n0 by omega)
  rw [Nat.mul_comm 4294967296]
  omega

theorem half_key (q n1 n0 r u : Nat) (e : q * n1 + r = u) : q * (n1 * 4294967296 + n0) + r * 4294967296 = u * 4294967296 + q * n0 := by
  subst e
  rw [Nat.mul_add, Nat.add_mul, Nat.mul_assoc]; omega

theorem Half.next {n1 n0 u t q r : Nat} (h : Half n1 n0 u t q r) (hu : u < n1 * 4294967296 + n0 ∧ t < 4294967296)
    (ht : 4294967296 ≤ q ∨ 4294967296 * r + t < q * n0) : Half n1 n0 u t (q - 1) (r + n1) := by
  have hd : 0 < n1 * 4294967296 + n0 := by omega
  have hgt : (u * 4294967296 + t) / (n1 * 4294967296 + n0) < q := by
    rcases ht with ht | ht
    · exact Nat.lt_of_lt_of_le (Half.lt hu) ht
    · rw [Nat.div_lt_iff_lt_mul hd]
      have := half_key q n1 n0 r u h.e
      omega
  obtain ⟨p, rfl⟩ : ∃ p, q = p + 1 := ⟨q - 1, by have := Nat.zero_lt_of_lt hgt; omega⟩
  refine ⟨?_, Nat.le_of_lt_succ hgt⟩
  have := h.e
  rw [Nat.add_mul, Nat.one_mul] at this
  simp only [Nat.add_sub_cancel]; omega

theorem Half.done {n1 n0 u t q r : Nat} (h : Half n1 n0 u t q r) (hu : u < n1 * 4294967296 + n0) (hle : q * n0 ≤ 4294967296 * r + t) : (u * 4294967296 + t) / (n1 * 4294967296 + n0) = q := by
  have hd : 0 < n1 * 4294967296 + n0 := by omega
  have h1 : q ≤ (u * 4294967296 + t) / (n1 * 4294967296 + n0) := by
    rw [Nat.le_div_iff_mul_le hd]
    have := half_key q n1 n0 r u h.e
    omega
  have := h.b
  omega

theorem Half.atTest {n1 n0 u t q r : Nat} (h : Half n1 n0 u t q r) (hu : u < n1 * 4294967296 + n0 ∧ t < 4294967296) (hle : q * n0 ≤ 4294967296 * r + t) :
    (u * 4294967296 + t) / (n1 * 4294967296 + n0) = q := h.done hu.1 hle

theorem Half.atBreak {n1 n0 u t q r : Nat} (h : Half n1 n0 u t q r) (hn0 : n0 < 4294967296) (hu : u < n1 * 4294967296 + n0 ∧ t < 4294967296) (hr : 4294967296 ≤ r) :
    (u * 4294967296 + t) / (n1 * 4294967296 + n0) = q := by
  refine h.done hu.1 ?_
  have hq : q ≤ 4294967296 := by
    apply Nat.le_of_not_lt; intro hlt
    have := Nat.mul_le_mul_right n1 (show 4294967297 ≤ q by omega)
    have := h.e
    omega
  have := Nat.mul_le_mul hq (show n0 ≤ 4294967295 by omega)
  omega

theorem Half.start {n1 n0 u t : Nat} (hn1 : 2147483648 ≤ n1) (hn0 : n0 < 4294967296) (hu : u < n1 * 4294967296 + n0 ∧ t < 4294967296) :
    Half n1 n0 u t (u / n1) (u % n1) ∧ u / n1 ≤ 4294967297 := by
  have hpos : 0 < n1 := by omega
  have hdm := Nat.div_add_mod u n1
  refine ⟨⟨by rw [Nat.mul_comm]; exact hdm, ?_⟩, ?_⟩
  · have h1 : (u * 4294967296 + t) / (n1 * 4294967296 + n0) ≤ (u * 4294967296 + t) / (n1 * 4294967296) := Nat.div_le_div_left (by omega) (by omega)
    have h2 : (u * 4294967296 + t) / (n1 * 4294967296) = u / n1 := by
      rw [Nat.mul_comm n1, ← Nat.div_div_eq_div_mul, Nat.mul_comm u, Nat.mul_add_div (by omega), Nat.div_eq_of_lt hu.2, Nat.add_zero]
    omega
  · have : u / n1 < 4294967298 := by
      rw [Nat.div_lt_iff_lt_mul hpos]; omega
    omega

set_option maxRecDepth 100000 in
set_option maxHeartbeats 4000000 in
theorem div64_far (hi lo y s d n1 n0 a b u v v1 v0 q1 p1 r1 x w1 u2 q2 p2 r2 z w2 f g : Nat) (w : World) (hs : s < 64) (h0 : ((hi : Int) == 0) = false) (hy : 0 < y) (hlt : hi < y) (hlz : Hid (∀ w, Calls Tryd.prog 94 #[.int .u64 y] w fun e w' => e = .returned (.int .i64 (s : Int)) ∧ w' = w))
    (e1 : IntKind.u64.wrap ((y : Int) * 2 ^ s) = (d : Int)) (e2 : (d : Int) / 4294967296 = (n1 : Int)) (e3 : bits .and .u64 (d : Int) 4294967295 = (n0 : Int))
    (e4 : IntKind.u64.wrap ((hi : Int) * 2 ^ s) = (a : Int)) (e5 : (lo : Int) / 2 ^ (64 - s) = (b : Int)) (e6 : bits .or .u64 (a : Int) (b : Int) = (u : Int))
    (e7 : IntKind.u64.wrap ((lo : Int) * 2 ^ s) = (v : Int)) (e8 : (v : Int) / 4294967296 = (v1 : Int)) (e9 : bits .and .u64 (v : Int) 4294967295 = (v0 : Int))
    (hn1 : Hid (2147483648 ≤ n1)) (bn1 : 1 ≤ n1) (cn1 : (n1 : Int) ≤ 4294967295) (hn0 : Hid (n0 < 4294967296)) (bv1 : (v1 : Int) ≤ 4294967295) (bv0 : (v0 : Int) ≤ 4294967295)
    (hltu : Hid (u < n1 * 4294967296 + n0 ∧ v1 < 4294967296)) (hltu2 : Hid (u2 < n1 * 4294967296 + n0 ∧ v0 < 4294967296))
    (e10 : (u : Int) / (n1 : Int) = (q1 : Int)) (e11 : (q1 : Int) * (n1 : Int) = (p1 : Int)) (e12 : (u : Int) - (p1 : Int) = (r1 : Int)) (b1 : (q1 : Int) ≤ 4294967297) (b2 : (r1 : Int) ≤ 4294967295) (b3 : (p1 : Int) ≤ 18446744073709551615)
    (g1 : Hid (q1 = u / n1 ∧ r1 = u % n1))
    (e13 : (x : Int) * (d : Int) = (w1 : Int)) (hx : Hid ((u * 4294967296 + v1) / (n1 * 4294967296 + n0) = x))
    (e14 : IntKind.u64.wrap (IntKind.u64.wrap (IntKind.u64.wrap ((u : Int) * 4294967296) + (v1 : Int)) - IntKind.u64.wrap (w1 : Int)) = (u2 : Int))
    (e15 : (u2 : Int) / (n1 : Int) = (q2 : Int)) (e16 : (q2 : Int) * (n1 : Int) = (p2 : Int)) (e17 : (u2 : Int) - (p2 : Int) = (r2 : Int)) (b4 : (q2 : Int) ≤ 4294967297) (b5 : (r2 : Int) ≤ 4294967295) (b6 : (p2 : Int) ≤ 18446744073709551615)
    (g2 : Hid (q2 = u2 / n1 ∧ r2 = u2 % n1))
    (e18 : (z : Int) * (d : Int) = (w2 : Int)) (hz : Hid ((u2 * 4294967296 + v0) / (n1 * 4294967296 + n0) = z)) (bx : (x : Int) ≤ 4294967295) (bz : (z : Int) ≤ 4294967295)
    (e19 : IntKind.u64.wrap (IntKind.u64.wrap (IntKind.u64.wrap ((u2 : Int) * 4294967296) + (v0 : Int)) - IntKind.u64.wrap (w2 : Int)) = (f : Int)) (e20 : (f : Int) / 2 ^ s = (g : Int)) :
    Calls Tryd.prog 86 #[.int .u64 hi, .int .u64 lo, .int .u64 y] w fun e w' => e = .returned (.tuple #[.int .u64 ((x : Int) * 4294967296 + (z : Int)), .int .u64 (g : Int)]) ∧ w' = w := by
  go_enter Tryd.func86, Tryd.ntmps86
  go_upto_block 0 with (go_at_call 94; refine (hlz.out _).mono ?_; rintro e w' ⟨rfl, rfl⟩)
  go_cut [15] (fun qv wx => qv = .int .u64 (x : Int) ∧ wx = w')
  case first =>
    go_wp2_with fail
    go_loop [15, 16] (fun qv rv => ∃ q r : Nat, qv = .int .u64 q ∧ rv = .int .u64 r ∧ (q : Int) ≤ 4294967297 ∧ (r : Int) ≤ 4294967295 ∧ Hid (Half n1 n0 u v1 q r)) (fun qv _ => (intOf qv).toNat)
    case atStart => exact ⟨q1, r1, rfl, rfl, b1, b2, by rw [g1.out.1, g1.out.2]; exact (Half.start hn1.out hn0.out hltu.out).1⟩
    case round =>
      obtain ⟨q, r, rfl, rfl, hq, hr, H⟩ := hrel
      by_cases big : (4294967296 : Int) ≤ q
      · have HN := mkHid (H.out.next hltu.out (Or.inl (by omega)))
        have hq1 : 1 ≤ q := by omega
        by_cases br : (4294967296 : Int) ≤ r + n1
        · have hcast : ((q - 1 : Nat) : Int) = (q : Int) - 1 := by omega
          have HQ := mkHid (HN.out.atBreak hn0.out hltu.out (by omega))
          go_wp2
          go_meet
          exact ⟨by rw [← hx.out, HQ.out]; show Value.int .u64 _ = _; rw [hcast], rfl⟩
        · go_wp2
          go_round
          case rel => exact ⟨q - 1, r + n1, by go_num, by go_num, by omega, by omega, HN.out⟩
          case measure => simp [intOf]; omega
      · have hqs : (q : Int) ≤ 4294967295 := by omega
        obtain ⟨m, em⟩ : ∃ m, q * n0 = m := ⟨_, rfl⟩
        have hm : (m : Int) ≤ 18446744073709551615 := by
          have := Nat.mul_le_mul (show q ≤ 4294967295 by omega) (show n0 ≤ 4294967295 by have := hn0.out; omega)
          omega
        have hmul : (q : Int) * (n0 : Int) = (m : Int) := by rw [← em]; exact (Int.natCast_mul q n0).symm
        have EM := mkHid em
        clear em
        by_cases tst : (4294967296 : Int) * r + v1 < m
        · have hq1 : 1 ≤ q := by
            rcases Nat.eq_zero_or_pos q with h | h
            · have := EM.out; rw [h] at this; omega
            · exact h
          have HN := mkHid (H.out.next hltu.out (Or.inr (by rw [EM.out]; omega)))
          by_cases br : (4294967296 : Int) ≤ r + n1
          · have hcast : ((q - 1 : Nat) : Int) = (q : Int) - 1 := by omega
            have HQ := mkHid (HN.out.atBreak hn0.out hltu.out (by omega))
            go_wp2
            go_meet
            exact ⟨by rw [← hx.out, HQ.out]; show Value.int .u64 _ = _; rw [hcast], rfl⟩
          · go_wp2
            go_round
            case rel => exact ⟨q - 1, r + n1, by go_num, by go_num, by omega, by omega, HN.out⟩
            case measure => simp [intOf]; omega
        · have HQ := mkHid (H.out.atTest hltu.out (by rw [EM.out]; omega))
          go_wp2
          go_meet
          exact ⟨by rw [← HQ.out, hx.out], rfl⟩
  case rest =>
    obtain ⟨rfl, rfl⟩ := hcut
    go_upto_block 2 with fail
    go_cut [18] (fun qv wx => qv = .int .u64 (z : Int) ∧ wx = wc)
    case first =>
      go_wp2_with fail
      go_loop [18, 16] (fun qv rv => ∃ q r : Nat, qv = .int .u64 q ∧ rv = .int .u64 r ∧ (q : Int) ≤ 4294967297 ∧ (r : Int) ≤ 4294967295 ∧ Hid (Half n1 n0 u2 v0 q r)) (fun qv _ => (intOf qv).toNat)
      case atStart => exact ⟨q2, r2, rfl, rfl, b4, b5, by rw [g2.out.1, g2.out.2]; exact (Half.start hn1.out hn0.out hltu2.out).1⟩
      case round =>
        obtain ⟨q, r, rfl, rfl, hq, hr, H⟩ := hrel
        by_cases big : (4294967296 : Int) ≤ q
        · have HN := mkHid (H.out.next hltu2.out (Or.inl (by omega)))
          have hq1 : 1 ≤ q := by omega
          by_cases br : (4294967296 : Int) ≤ r + n1
          · have hcast : ((q - 1 : Nat) : Int) = (q : Int) - 1 := by omega
            have HQ := mkHid (HN.out.atBreak hn0.out hltu2.out (by omega))
            go_wp2
            go_meet
            exact ⟨by rw [← hz.out, HQ.out]; show Value.int .u64 _ = _; rw [hcast], rfl⟩
          · go_wp2
            go_round
            case rel => exact ⟨q - 1, r + n1, by go_num, by go_num, by omega, by omega, HN.out⟩
            case measure => simp [intOf]; omega
        · have hqs : (q : Int) ≤ 4294967295 := by omega
          obtain ⟨m, em⟩ : ∃ m, q * n0 = m := ⟨_, rfl⟩
          have hm : (m : Int) ≤ 18446744073709551615 := by
            have := Nat.mul_le_mul (show q ≤ 4294967295 by omega) (show n0 ≤ 4294967295 by have := hn0.out; omega)
            omega
          have hmul : (q : Int) * (n0 : Int) = (m : Int) := by rw [← em]; exact (Int.natCast_mul q n0).symm
          have EM := mkHid em
          clear em
          by_cases tst : (4294967296 : Int) * r + v0 < m
          · have hq1 : 1 ≤ q := by
              rcases Nat.eq_zero_or_pos q with h | h
              · have := EM.out; rw [h] at this; omega
              · exact h
            have HN := mkHid (H.out.next hltu2.out (Or.inr (by rw [EM.out]; omega)))
            by_cases br : (4294967296 : Int) ≤ r + n1
            · have hcast : ((q - 1 : Nat) : Int) = (q : Int) - 1 := by omega
              have HQ := mkHid (HN.out.atBreak hn0.out hltu2.out (by omega))
              go_wp2
              go_meet
              exact ⟨by rw [← hz.out, HQ.out]; show Value.int .u64 _ = _; rw [hcast], rfl⟩
            · go_wp2
              go_round
              case rel => exact ⟨q - 1, r + n1, by go_num, by go_num, by omega, by omega, HN.out⟩
              case measure => simp [intOf]; omega
          · have HQ := mkHid (H.out.atTest hltu2.out (by rw [EM.out]; omega))
            go_wp2
            go_meet
            exact ⟨by rw [← HQ.out, hz.out], rfl⟩
    case rest =>
      obtain ⟨rfl, rfl⟩ := hcut
      go_wp2
      go_ret2
      exact ⟨rfl, rfl⟩

theorem wrap_nat (n : Nat) : IntKind.u64.wrap (n : Int) = ((n % 18446744073709551616 : Nat) : Int) := by rw [IntKind.wrap_u64]; omega
theorem wrap_small (n : Nat) (h : n < 18446744073709551616) : IntKind.u64.wrap (n : Int) = (n : Int) := by rw [wrap_nat, Nat.mod_eq_of_lt h]
theorem two_pow_cast (s : Nat) : ((2 : Int) ^ s) = ((2 ^ s : Nat) : Int) := by simp

theorem e14_arith (u v1 w1 u2 : Nat) (h : u * 4294967296 + v1 = w1 + u2) (h2 : u2 < 18446744073709551616) :
    IntKind.u64.wrap (IntKind.u64.wrap (IntKind.u64.wrap ((u : Int) * 4294967296) + (v1 : Int)) - IntKind.u64.wrap (w1 : Int)) = (u2 : Int) := by
  simp only [IntKind.wrap_u64]; omega

theorem div_split (n1 n0 d : Nat) (h : d = n1 * 4294967296 + n0) (u v1 : Nat) (hu : u < d) (hv : v1 < 4294967296) :
    (u * 4294967296 + v1) / d ≤ 4294967295 ∧ (u * 4294967296 + v1) % d < d ∧ u * 4294967296 + v1 = (u * 4294967296 + v1) / d * d + (u * 4294967296 + v1) % d := by
  have hd : 0 < d := by omega
  have h1 : (u * 4294967296 + v1) / d < 4294967296 := by rw [h] at hu ⊢; exact Half.lt ⟨hu, hv⟩
  exact ⟨by omega, Nat.mod_lt _ hd, (Nat.div_add_mod' _ _).symm⟩

theorem div_total (hi lo y P d x z u v1 v0 u2 f : Nat) (hP : 0 < P) (hd : d = y * P) (hu : u * 18446744073709551616 + (v1 * 4294967296 + v0) = (hi * 18446744073709551616 + lo) * P)
    (h1 : u * 4294967296 + v1 = x * d + u2) (h2 : u2 * 4294967296 + v0 = z * d + f) (hf : f < d) :
    (hi * 18446744073709551616 + lo) / y = x * 4294967296 + z ∧ (hi * 18446744073709551616 + lo) % y = f / P := by
  have hy : 0 < y := by
    rcases Nat.eq_zero_or_pos y with h | h
    · subst h; simp at hd; omega
    · exact h
  obtain ⟨N, hN⟩ : ∃ N, hi * 18446744073709551616 + lo = N := ⟨_, rfl⟩
  rw [hN] at hu ⊢
  have e : N * P = (x * 4294967296 + z) * d + f := by
    have k1 : (x * 4294967296 + z) * d = x * d * 4294967296 + z * d := by rw [Nat.add_mul, Nat.mul_right_comm]
    omega
  rw [hd] at e hf
  have e2 : N * P = (x * 4294967296 + z) * y * P + f := by rw [e, Nat.mul_assoc]
  have hle : (x * 4294967296 + z) * y ≤ N := Nat.le_of_mul_le_mul_right (by omega : (x * 4294967296 + z) * y * P ≤ N * P) hP
  obtain ⟨r, hr⟩ := Nat.exists_eq_add_of_le hle
  have ef : f = r * P := by rw [hr, Nat.add_mul] at e2; omega
  have hr2 : r < y := by rw [ef] at hf; exact Nat.lt_of_mul_lt_mul_right hf
  have q1 : f / P = r := by rw [ef, Nat.mul_div_cancel _ hP]
  rw [q1, hr]
  constructor
  · rw [Nat.mul_comm _ y, Nat.mul_add_div hy, Nat.div_eq_of_lt hr2, Nat.add_zero]
  · rw [Nat.mul_comm _ y, Nat.mul_add_mod, Nat.mod_eq_of_lt hr2]

theorem lead_pow (y : Nat) (hy : 0 < y) (hyB : y < 18446744073709551616) :
    64 - Lib.bitLen y < 64 ∧ 9223372036854775808 ≤ y * 2 ^ (64 - Lib.bitLen y) ∧ y * 2 ^ (64 - Lib.bitLen y) < 18446744073709551616 := by
  have h0 : y ≠ 0 := by omega
  have a := bl_lt y hyB
  have b := bl_le y hyB h0
  have c := bl_pos y hyB h0
  have d := bl_64 y hyB
  refine ⟨by omega, ?_, ?_⟩
  · have h := Nat.mul_le_mul_right (2 ^ (64 - Lib.bitLen y)) b
    rw [← Nat.pow_add, show Lib.bitLen y - 1 + (64 - Lib.bitLen y) = 63 by omega] at h
    exact h
  · have h := Nat.mul_lt_mul_of_pos_right a (Nat.two_pow_pos (64 - Lib.bitLen y))
    rw [← Nat.pow_add, show Lib.bitLen y + (64 - Lib.bitLen y) = 64 by omega] at h
    exact h

set_option maxRecDepth 100000 in
set_option maxHeartbeats 1000000 in
theorem div64_mid (hi lo y s d n1 n0 a b u v v1 v0 x u2 z f P : Nat) (w : World) (hs : s < 64) (h0 : hi ≠ 0) (hy : 0 < y) (hlt : hi < y) (hlz : ∀ w, Calls Tryd.prog 94 #[.int .u64 y] w fun e w' => e = .returned (.int .i64 (s : Int)) ∧ w' = w)
    (hPd : 2 ^ s = P) (hP : 0 < P) (hd : y * P = d) (hd2 : d < 18446744073709551616) (hd1' : (d : Int) / 4294967296 = (n1 : Int)) (hd0' : bits .and .u64 (d : Int) 4294967295 = (n0 : Int))
    (hap : IntKind.u64.wrap ((hi : Int) * 2 ^ s) = (a : Int)) (hbp : (lo : Int) / 2 ^ (64 - s) = (b : Int)) (hbn : bits .or .u64 (a : Int) (b : Int) = (u : Int))
    (hlp : IntKind.u64.wrap ((lo : Int) * 2 ^ s) = (v : Int)) (hv1' : (v : Int) / 4294967296 = (v1 : Int)) (hv0' : bits .and .u64 (v : Int) 4294967295 = (v0 : Int))
    (hn1 : 2147483648 ≤ n1 ∧ n1 ≤ 4294967295) (hn0 : n0 < 4294967296) (hv1 : v1 < 4294967296) (hv0 : v0 < 4294967296) (hdd : d = n1 * 4294967296 + n0) (hu : u < d)
    (hUv : u * 18446744073709551616 + (v1 * 4294967296 + v0) = (hi * 18446744073709551616 + lo) * P)
    (hx : (u * 4294967296 + v1) / d = x) (x1 : x ≤ 4294967295) (x2 : u2 < d) (x3 : u * 4294967296 + v1 = x * d + u2)
    (hz : (u2 * 4294967296 + v0) / d = z) (z1 : z ≤ 4294967295) (z2 : f < d) (z3 : u2 * 4294967296 + v0 = z * d + f) :
    Calls Tryd.prog 86 #[.int .u64 hi, .int .u64 lo, .int .u64 y] w fun e w' =>
      e = .returned (.tuple #[.int .u64 (((hi * 18446744073709551616 + lo) / y : Nat) : Int), .int .u64 (((hi * 18446744073709551616 + lo) % y : Nat) : Int)]) ∧ w' = w := by
  have hst1 := Half.start hn1.1 hn0 ⟨by rw [← hdd]; exact hu, hv1⟩
  have hst2 := Half.start hn1.1 hn0 ⟨by rw [← hdd]; exact x2, hv0⟩
  have ht := div_total hi lo y P d x z u v1 v0 u2 f hP hd.symm hUv x3 z3 z2
  rw [ht.1, ht.2]
  have hm1 := Nat.mod_lt u (show 0 < n1 by omega)
  have hdm1 := Nat.div_add_mod u n1
  have hm2 := Nat.mod_lt u2 (show 0 < n1 by omega)
  have hdm2 := Nat.div_add_mod u2 n1
  generalize hq1 : u / n1 = q1 at *
  generalize hr1 : u % n1 = r1 at *
  generalize hq2 : u2 / n1 = q2 at *
  generalize hr2 : u2 % n1 = r2 at *
  rw [Nat.mul_comm] at hdm1 hdm2
  generalize hp1 : q1 * n1 = p1 at *
  generalize hp2 : q2 * n1 = p2 at *
  refine (div64_far hi lo y s d n1 n0 a b u v v1 v0 q1 p1 r1 x (x * d) u2 q2 p2 r2 z (z * d) f (f / P) w hs (by simp; omega) hy hlt (Lib.hid hlz)
    (by rw [two_pow_cast, ← Int.natCast_mul, hPd, hd, wrap_small _ hd2]) hd1' hd0' hap hbp hbn hlp hv1' hv0' (Lib.hid hn1.1) (by omega) (by omega) (Lib.hid hn0) (by omega) (by omega)
    (Lib.hid ⟨by rw [← hdd]; exact hu, hv1⟩) (Lib.hid ⟨by rw [← hdd]; exact x2, hv0⟩) (by rw [← hq1]; rfl) (by rw [← hp1]; rfl) (by omega) (by omega) (by omega) (by omega) (Lib.hid ⟨by omega, by omega⟩)
    rfl (Lib.hid (by rw [← hdd]; exact hx)) (e14_arith _ _ _ _ x3 (by omega)) (by rw [← hq2]; rfl) (by rw [← hp2]; rfl) (by omega) (by omega) (by omega) (by omega) (Lib.hid ⟨by omega, by omega⟩)
    rfl (Lib.hid (by rw [← hdd]; exact hz)) (by omega) (by omega) (e14_arith _ _ _ _ z3 (by omega)) (by rw [two_pow_cast, hPd]; rfl)).mono ?_
  rintro e w' ⟨rfl, rfl⟩
  refine ⟨?_, rfl⟩
  rw [show ((x : Int) * 4294967296 + (z : Int)) = ((x * 4294967296 + z : Nat) : Int) by omega]

set_option maxRecDepth 100000 in
set_option maxHeartbeats 1000000 in
theorem div64_big (hi lo y : Nat) (w : World) (h0 : hi ≠ 0) (hlt : hi < y) (hyB : y < 18446744073709551616) (hlo : lo < 18446744073709551616) :
    Calls Tryd.prog 86 #[.int .u64 hi, .int .u64 lo, .int .u64 y] w fun e w' =>
      e = .returned (.tuple #[.int .u64 (((hi * 18446744073709551616 + lo) / y : Nat) : Int), .int .u64 (((hi * 18446744073709551616 + lo) % y : Nat) : Int)]) ∧ w' = w := by
  have hy : 0 < y := by omega
  obtain ⟨hs, hd1, hd2⟩ := lead_pow y hy hyB
  have hlz : ∀ w, Calls Tryd.prog 94 #[.int .u64 y] w fun e w' => e = .returned (.int .i64 (((64 - Lib.bitLen y : Nat) : Nat) : Int)) ∧ w' = w := fun w => by
    have := Tryd.bits_LeadingZeros64 y w (by omega) (by omega)
    have hb := bl_64 y hyB
    rw [Int.toNat_natCast, show (64 - (Lib.bitLen y : Int)) = ((64 - Lib.bitLen y : Nat) : Int) by omega] at this
    exact this
  generalize 64 - Lib.bitLen y = s at *
  have hP := Nat.two_pow_pos s
  have hbs : 2 ^ s * 2 ^ (64 - s) = 18446744073709551616 := by rw [← Nat.pow_add, show s + (64 - s) = 64 by omega]
  -- the parts
  generalize hPd : 2 ^ s = P at *
  generalize hRd : 2 ^ (64 - s) = R at *
  have hR : 0 < R := by rw [← hRd]; exact Nat.two_pow_pos _
  have ha : hi * P < 18446744073709551616 := Nat.lt_trans (Nat.mul_lt_mul_of_pos_right hlt hP) hd2
  have hb : lo / R < P := by rw [Nat.div_lt_iff_lt_mul hR, hbs]; exact hlo
  have hlb : lo * P = lo / R * 18446744073709551616 + lo * P % 18446744073709551616 := by
    have e1 : lo * P / 18446744073709551616 = lo / R := by rw [← hbs, Nat.mul_comm P R, Nat.mul_div_mul_right _ _ hP]
    have := Nat.div_add_mod (lo * P) 18446744073709551616
    rw [e1] at this; omega
  have hu : hi * P + lo / R < y * P := by
    have h1 : (hi + 1) * P ≤ y * P := Nat.mul_le_mul_right P hlt
    rw [Nat.add_mul, Nat.one_mul] at h1; omega
  have hU : (hi * P + lo / R) * 18446744073709551616 + lo * P % 18446744073709551616 = (hi * 18446744073709551616 + lo) * P := by
    rw [Nat.add_mul, Nat.add_mul, Nat.mul_assoc hi, Nat.mul_comm P, ← Nat.mul_assoc]; omega
  have hv : lo * P % 18446744073709551616 < 18446744073709551616 := Nat.mod_lt _ (by omega)
  have hor : hi * P ||| lo / R = hi * P + lo / R := by
    rw [← hPd] at hb ⊢
    exact or_disjoint _ _ s hb ⟨hi, Nat.mul_comm _ _⟩
  have hlp : IntKind.u64.wrap ((lo : Int) * 2 ^ s) = ((lo * P % 18446744073709551616 : Nat) : Int) := by rw [two_pow_cast, ← Int.natCast_mul, hPd, wrap_nat]
  generalize lo * P % 18446744073709551616 = v at *
  have hdP : y * P = y * P := rfl
  generalize hd : y * P = d at *
  have hbn : bits .or .u64 ((hi * P : Nat) : Int) ((lo / R : Nat) : Int) = ((hi * P + lo / R : Nat) : Int) := by rw [bits_or_u64_nat _ _ ha (by omega), hor]
  have hap : IntKind.u64.wrap ((hi : Int) * 2 ^ s) = ((hi * P : Nat) : Int) := by rw [two_pow_cast, ← Int.natCast_mul, hPd, wrap_small _ ha]
  have hbp : (lo : Int) / 2 ^ (64 - s) = ((lo / R : Nat) : Int) := by rw [two_pow_cast, hRd]; rfl
  generalize hi * P = a at *
  generalize lo / R = b at *
  generalize huu : a + b = u at *
  have hdd : d = d / 4294967296 * 4294967296 + d % 4294967296 := by omega
  have hvv : v = v / 4294967296 * 4294967296 + v % 4294967296 := by omega
  have hn1 : 2147483648 ≤ d / 4294967296 ∧ d / 4294967296 ≤ 4294967295 := by omega
  have hn0 : d % 4294967296 < 4294967296 := by omega
  have hv1 : v / 4294967296 < 4294967296 := by omega
  have hv0 : v % 4294967296 < 4294967296 := by omega
  have hd1' : (d : Int) / 4294967296 = ((d / 4294967296 : Nat) : Int) := by omega
  have hv1' : (v : Int) / 4294967296 = ((v / 4294967296 : Nat) : Int) := by omega
  have hd0' : bits .and .u64 (d : Int) 4294967295 = ((d % 4294967296 : Nat) : Int) := by rw [and_low32 _ (by omega) (by omega)]; omega
  have hv0' : bits .and .u64 (v : Int) 4294967295 = ((v % 4294967296 : Nat) : Int) := by rw [and_low32 _ (by omega) (by omega)]; omega
  have hUv : u * 18446744073709551616 + (v / 4294967296 * 4294967296 + v % 4294967296) = (hi * 18446744073709551616 + lo) * P := by rw [← hU]; omega
  generalize d / 4294967296 = n1 at *
  generalize d % 4294967296 = n0 at *
  generalize v / 4294967296 = v1 at *
  generalize v % 4294967296 = v0 at *
  obtain ⟨x1, x2, x3⟩ := div_split n1 n0 d hdd u v1 hu hv1
  obtain ⟨z1, z2, z3⟩ := div_split n1 n0 d hdd _ v0 x2 hv0
  exact div64_mid hi lo y s d n1 n0 a b u v v1 v0 _ _ _ _ P w hs h0 hy hlt hlz hPd hP hd hd2 hd1' hd0' hap hbp hbn hlp hv1' hv0' hn1 hn0 hv1 hv0 hdd hu hUv rfl x1 x2 x3 rfl z1 z2 z3

set_option maxRecDepth 100000 in
set_option maxHeartbeats 1000000 in
theorem div64_small (lo y : Nat) (w : World) (hy : 0 < y) (hlo : (lo : Int) ≤ 18446744073709551615) :
    Calls Tryd.prog 86 #[.int .u64 0, .int .u64 lo, .int .u64 y] w fun e w' => e = .returned (.tuple #[.int .u64 ((lo / y : Nat) : Int), .int .u64 ((lo % y : Nat) : Int)]) ∧ w' = w.drewN 1 := by
  have e1 : (lo : Int) / (y : Int) = ((lo / y : Nat) : Int) := rfl
  have b1 : ((lo / y : Nat) : Int) ≤ 18446744073709551615 := by have := Nat.div_le_self lo y; omega
  have e3 : ((y : Int) == 0) = false := by simp; omega
  generalize lo / y = q at *
  go_enter Tryd.func86, Tryd.ntmps86
  go_wp2
  go_region
  go_wp2
  go_ret2
  exact ⟨rfl, rfl⟩

/-- Div64: quotient and remainder of two words by one. -/
theorem div64_any (hi lo y : Nat) (w : World) (hlt : hi < y) (hyB : y < 18446744073709551616) (hlo : lo < 18446744073709551616) :
    Calls Tryd.prog 86 #[.int .u64 hi, .int .u64 lo, .int .u64 y] w fun e w' =>
      e = .returned (.tuple #[.int .u64 (((hi * 18446744073709551616 + lo) / y : Nat) : Int), .int .u64 (((hi * 18446744073709551616 + lo) % y : Nat) : Int)]) ∧ ∃ n, w' = w.drewN n := by
  by_cases h0 : hi = 0
  · subst h0
    refine (div64_small lo y w (by omega) (by omega)).mono ?_
    rintro e w' ⟨rfl, rfl⟩
    exact ⟨by simp, 1, rfl⟩
  · refine (div64_big hi lo y w h0 hlt hyB hlo).mono ?_
    rintro e w' ⟨rfl, rfl⟩
    exact ⟨rfl, 0, rfl⟩
end Go.Proofs.YtflcdpolfimggaaDoor
