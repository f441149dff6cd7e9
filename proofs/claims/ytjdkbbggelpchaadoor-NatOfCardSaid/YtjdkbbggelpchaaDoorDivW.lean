/- The contract of divideWords. -/
import Derived.Test.YtjdkbbggelpchaaDoorTake
import Derived.Test.YtjdkbbggelpchaaDoorShift
namespace Go.Proofs.YtjdkbbggelpchaaDoor
open Go.RowKit

theorem split_three {l : List Nat} {k : Nat} (h : l.length = k + 3) : ∃ p a b c, l = p ++ [a, b, c] ∧ p.length = k := by
  refine ⟨l.take k, l[k], l[k + 1], l[k + 2], ?_, by simp; omega⟩
  conv => lhs; rw [← List.take_append_drop k l]
  congr 1
  rw [List.drop_eq_getElem_cons (by omega), List.drop_eq_getElem_cons (by omega), List.drop_eq_getElem_cons (by omega), List.drop_of_length_le (by omega)]
theorem split_two {l : List Nat} {k : Nat} (h : l.length = k + 2) : ∃ p a b, l = p ++ [a, b] ∧ p.length = k := by
  refine ⟨l.take k, l[k], l[k + 1], ?_, by simp; omega⟩
  conv => lhs; rw [← List.take_append_drop k l]
  congr 1
  rw [List.drop_eq_getElem_cons (by omega), List.drop_eq_getElem_cons (by omega), List.drop_of_length_le (by omega)]

/-- The highest word of a divisor that was shifted has its highest bit. -/
theorem norm_top {l : List Nat} {k : Nat} (okl : M.Ok l) (hl : l.length = k + 1) (top : Nat) (ht : l[k]'(by omega) = top) (h0 : top ≠ 0) :
    M.val l * 2 ^ (64 - Lib.bitLen top) < M.B ^ (k + 1) ∧ M.B ^ k * 9223372036854775808 ≤ M.val l * 2 ^ (64 - Lib.bitLen top) := by
  have htB : top < 18446744073709551616 := by have := okl.get (i := k) (by omega); rwa [ht, M.B_eq] at this
  obtain ⟨_, h1, h2⟩ := lead_pow top (by omega) htB
  have h3 : (top + 1) * 2 ^ (64 - Lib.bitLen top) ≤ M.B := by
    have a := bl_lt top htB
    have d := bl_64 top htB
    have h := Nat.mul_le_mul_right (2 ^ (64 - Lib.bitLen top)) (show top + 1 ≤ 2 ^ Lib.bitLen top from a)
    rw [← Nat.pow_add, show Lib.bitLen top + (64 - Lib.bitLen top) = 64 by omega] at h
    exact h
  have hP : 0 < 2 ^ (64 - Lib.bitLen top) := Nat.two_pow_pos _
  generalize 2 ^ (64 - Lib.bitLen top) = P at *
  have hv := M.val_take_drop l k (by omega)
  rw [List.drop_eq_getElem_cons (by omega), List.drop_of_length_le (by omega), M.val_cons, M.val_nil, ht, Nat.mul_zero, Nat.add_zero] at hv
  have hlo := M.val_lt (okl.take k)
  rw [List.length_take, Nat.min_eq_left (by omega)] at hlo
  constructor
  · rw [Nat.pow_succ]
    have e1 : M.val l < M.B ^ k * (top + 1) := by rw [hv, Nat.mul_add]; omega
    calc M.val l * P < M.B ^ k * (top + 1) * P := Nat.mul_lt_mul_of_pos_right e1 hP
      _ = M.B ^ k * ((top + 1) * P) := Nat.mul_assoc _ _ _
      _ ≤ M.B ^ k * M.B := Nat.mul_le_mul_left _ h3
  · rw [hv, Nat.add_mul, Nat.mul_assoc]
    have := Nat.mul_le_mul_left (M.B ^ k) h1
    omega

/-- The highest word of a number with its highest bit. -/
theorem top_word {p : List Nat} {d0 d1 : Nat} (ok : M.Ok (p ++ [d0, d1])) (h : M.B ^ (p.length + 1) * 9223372036854775808 ≤ M.val (p ++ [d0, d1])) : M.B ≤ 2 * d1 := by
  have e : p ++ [d0, d1] = (p ++ [d0]) ++ [d1] := by simp
  rw [e, M.val_snoc] at h
  rw [e] at ok
  have hlo := M.val_lt ok.left
  simp only [List.length_append, List.length_cons, List.length_nil, Nat.zero_add] at h hlo
  have hB := M.B_pow_pos (p.length + 1)
  have : M.B ^ (p.length + 1) * 9223372036854775808 < M.B ^ (p.length + 1) * (d1 + 1) := by rw [Nat.mul_add, Nat.mul_one]; omega
  have := Nat.lt_of_mul_lt_mul_left this
  rw [M.B_eq]; omega

/-- What the rounds keep: c digits are still to be found; the rest is below D B^c. -/
structure DI (R0 D n m c : Nat) (ls qs : List Nat) : Prop where
  len : ls.length = m + 1
  ok : M.Ok ls
  okq : M.Ok qs
  lq : c + qs.length = m - n + 1
  lt : M.val ls < D * M.B ^ c
  e : R0 = M.val qs * M.B ^ c * D + M.val ls

/-- The window of a digit. -/
theorem DI.window {R0 D n m c : Nat} {ls qs : List Nat} (h : DI R0 D n m (c + 1) ls qs) (hn : n ≤ m) (hD : D ≤ M.B ^ n) :
    ∃ lo win hi, ls = lo ++ (win ++ hi) ∧ lo.length = c ∧ win.length = n + 1 ∧ M.val hi = 0 ∧ M.val win < D * M.B := by
  have hl := h.len
  have hlq := h.lq
  have e1 : ls = ls.take c ++ ((ls.drop c).take (n + 1) ++ (ls.drop c).drop (n + 1)) := by rw [List.take_append_drop, List.take_append_drop]
  have l1 : (ls.take c).length = c := by simp; omega
  have l2 : ((ls.drop c).take (n + 1)).length = n + 1 := by simp; omega
  have hv : M.val ls = M.val (ls.take c) + M.B ^ c * (M.val ((ls.drop c).take (n + 1)) + M.B ^ (n + 1) * M.val ((ls.drop c).drop (n + 1))) := by
    conv => lhs; rw [e1]
    rw [M.val_append, M.val_append, l1, l2]
  refine ⟨_, _, _, e1, l1, l2, ?_, ?_⟩
  · apply Classical.byContradiction; intro hne
    have h1 : M.B ^ (n + 1) * 1 ≤ M.B ^ (n + 1) * M.val ((ls.drop c).drop (n + 1)) := Nat.mul_le_mul_left _ (by omega)
    have h2 := Nat.mul_le_mul_left (M.B ^ c) (show M.B ^ (n + 1) ≤ M.val ((ls.drop c).take (n + 1)) + M.B ^ (n + 1) * M.val ((ls.drop c).drop (n + 1)) by omega)
    have h3 := h.lt
    have h4 : D * M.B ^ (c + 1) ≤ M.B ^ n * M.B ^ (c + 1) := Nat.mul_le_mul_right _ hD
    rw [← Nat.pow_add] at h2 h4
    rw [show n + (c + 1) = c + (n + 1) by omega] at h4
    omega
  · have h3 := h.lt
    have h2 : M.B ^ c * M.val ((ls.drop c).take (n + 1)) ≤ M.val ls := by rw [hv, Nat.mul_add]; omega
    apply Nat.lt_of_mul_lt_mul_left (a := M.B ^ c)
    have e2 : M.B ^ c * (D * M.B) = D * M.B ^ (c + 1) := by rw [Nat.pow_succ, Nat.mul_left_comm]
    omega

theorem DI.step {R0 D n m c : Nat} {lo win hi qs : List Nat} (h : DI R0 D n m (c + 1) (lo ++ (win ++ hi)) qs) (hD : 0 < D) (lc : lo.length = c) (hv : M.val hi = 0) (hw : M.val win < D * M.B) (zs : List Nat) (lz : zs.length + 1 = win.length)
    (okz : M.Ok zs) (hz : M.val zs = M.val win % D) : DI R0 D n m c (lo ++ ((zs ++ [0]) ++ hi)) (M.val win / D :: qs) := by
  have hq : M.val win / D < M.B := by rw [Nat.div_lt_iff_lt_mul hD, Nat.mul_comm]; exact hw
  have hdm := Nat.div_add_mod' (M.val win) D
  have hml := Nat.mod_lt (M.val win) hD
  have hlo := M.val_lt h.ok.left
  rw [lc] at hlo
  have e1 : M.val (lo ++ ((zs ++ [0]) ++ hi)) = M.val lo + M.B ^ c * (M.val win % D) := by
    rw [M.val_append, M.val_append, M.val_snoc, hv, hz, lc]; simp
  have e2 : M.val (lo ++ (win ++ hi)) = M.val lo + M.B ^ c * M.val win := by rw [M.val_append, M.val_append, hv, lc]; simp
  refine ⟨?_, h.ok.left.append ((okz.append (M.Ok.cons M.B_pos M.Ok.nil)).append h.ok.right.right), M.Ok.cons hq h.okq, by have := h.lq; simp; omega, ?_, ?_⟩
  · have := h.len; simp at this ⊢; omega
  · rw [e1, Nat.mul_comm D]
    have := Nat.mul_le_mul_left (M.B ^ c) (show M.val win % D + 1 ≤ D from hml)
    rw [Nat.mul_add, Nat.mul_one] at this
    omega
  · rw [h.e, e1, e2, M.val_cons]
    have e3 : M.B ^ c * M.val win = M.val win / D * M.B ^ c * D + M.B ^ c * (M.val win % D) := by
      conv => lhs; rw [← hdm]
      rw [Nat.mul_add, Nat.mul_right_comm, Nat.mul_comm (M.B ^ c)]
    have e4 : M.val qs * M.B ^ (c + 1) * D = M.B * M.val qs * M.B ^ c * D := by rw [Nat.pow_succ, Nat.mul_comm (M.B ^ c), ← Nat.mul_assoc, Nat.mul_comm (M.val qs)]
    rw [e3, e4, Nat.add_mul, Nat.add_mul]
    omega

theorem DI.end {R0 D n m : Nat} {ls qs : List Nat} (h : DI R0 D n m 0 ls qs) (hD : 0 < D) : M.val qs = R0 / D ∧ M.val ls = R0 % D := by
  have e := h.e
  have lt := h.lt
  rw [Nat.pow_zero, Nat.mul_one] at e lt
  rw [e]
  constructor
  · rw [Nat.mul_comm, Nat.mul_add_div hD, Nat.div_eq_of_lt lt, Nat.add_zero]
  · rw [Nat.mul_comm, Nat.mul_add_mod, Nat.mod_eq_of_lt lt]
theorem scale_div (X Y P : Nat) (hP : 0 < P) : X * P / (Y * P) = X / Y ∧ X * P % (Y * P) = X % Y * P := ⟨Nat.mul_div_mul_right X Y hP, Nat.mul_mod_mul_right P X Y⟩

set_option maxRecDepth 100000 in
set_option maxHeartbeats 1000000 in
theorem divideWords_any (bx cx by' cy X Y n m : Nat) (w : World) (hx : Words w bx 0 (M.dig X)) (hy : Words w by' 0 (M.dig Y)) (hm : (M.dig X).length = m) (hn : (M.dig Y).length = n + 2) (hle : n + 2 ≤ m) (hb : m ≤ 100000) :
    Calls Tryd.prog 48 #[.slice (some ⟨bx, 0, none⟩) m cx, .slice (some ⟨by', 0, none⟩) (n + 2) cy] w fun e w' =>
      ∃ bq cq br cr, e = .returned (.tuple #[.slice (some ⟨bq, 0, none⟩) (m - (n + 2) + 1) cq, .slice (some ⟨br, 0, none⟩) (M.dig (X % Y)).length cr]) ∧
      ∃ qs, Hid (qs.length = m - (n + 2) + 1 ∧ M.Ok qs ∧ M.val qs = X / Y ∧ Row w' bq cq qs ∧ Row w' br cr (M.dig (X % Y)) ∧ w.heap.size ≤ bq ∧ w.heap.size ≤ br ∧ Below w.heap.size w w') := by
  have HX := Lib.hid hx; clear hx
  have HY := Lib.hid hy; clear hy
  have HM := Lib.hid hm; clear hm
  have HN := Lib.hid hn; clear hn
  have Y0 : Hid (Y ≠ 0) := mkHid (by intro h; have := HN.out; rw [h, M.dig_zero] at this; simp at this)
  have hlt1 : n + 1 < (M.dig Y).length := by rw [HN.out]; omega
  obtain ⟨top, htop⟩ : ∃ top, (M.dig Y)[n + 1]'hlt1 = top := ⟨_, rfl⟩
  have T0 : Hid (top ≠ 0) := mkHid (by
    have h := M.dig_last (n := Y) (by intro h; have := HN.out; rw [h] at this; simp at this)
    rw [List.getLast_eq_getElem] at h
    have e : (M.dig Y).length - 1 = n + 1 := by rw [HN.out]; rfl
    rw [← htop]
    simpa only [e] using h)
  have TB : Hid (top < 18446744073709551616) := mkHid (by have := (M.ok_dig Y).get hlt1; rwa [htop, M.B_eq] at this)
  have NT := mkHid (norm_top (M.ok_dig Y) (k := n + 1) HN.out top htop T0.out)
  obtain ⟨hcell, -⟩ := HY.out (n + 1) hlt1
  rw [htop, Nat.zero_add] at hcell
  clear htop
  have CLZ : Hid (∀ W, Calls Tryd.prog 68 #[.int .u64 top] W fun e w' => e = .returned (.int .i64 (((64 - Lib.bitLen top : Nat) : Nat) : Int)) ∧ w' = W) := mkHid fun W => by
    have := Tryd.bits_LeadingZeros64 top W (by omega) (by have := TB.out; omega)
    have hb := bl_64 top TB.out
    rw [Int.toNat_natCast, show (64 - (Lib.bitLen top : Int)) = ((64 - Lib.bitLen top : Nat) : Int) by omega] at this
    exact this
  have hs64 : 64 - Lib.bitLen top < 64 := by have := bl_pos top TB.out T0.out; omega
  generalize 64 - Lib.bitLen top = s at *
  have hs0 : s / 64 = 0 := by omega
  have CY := mkHid (fun W (h : Words W by' 0 (M.dig Y)) => shiftLeft_any by' 0 cy s (M.dig Y) W h (by rw [HN.out]; omega) (M.ok_dig Y) (by omega))
  have CX := mkHid (fun W (h : Words W bx 0 (M.dig X)) => shiftLeft_any bx 0 cx s (M.dig X) W h (by rw [HM.out]; omega) (M.ok_dig X) (by omega))
  rw [hs0, M.val_dig] at CX CY
  rw [HM.out, Nat.zero_add] at CX
  rw [HN.out, Nat.zero_add] at CY
  rw [M.val_dig] at NT
  clear hs0
  have hsb : s ≤ 1000 := by omega
  have HS64 := mkHid hs64
  clear hs64
  obtain ⟨q, hq⟩ : ∃ q, m - (n + 2) + 1 = q := ⟨_, rfl⟩
  have hqi : (m : Int) - ((n : Int) + 2) + 1 = (q : Int) := by omega
  have hqb : q ≤ 100000 := by omega
  have hq1 : q + n + 1 = m := by omega
  rw [hq]
  have HQ := mkHid hq
  clear hq
  obtain ⟨i0, hi, hz0, hz1, hz2⟩ := info_parts info64
  have hi' := Lib.hid hi; have hz0' := Lib.hid hz0; have hz1' := Lib.hid hz1; have hz2' := Lib.hid hz2; clear hi hz0 hz1 hz2
  go_enter Tryd.func48, Tryd.ntmps48
  go_wp2_with fail
  refine (CLZ.out _).mono ?_
  rintro e w' ⟨rfl, rfl⟩
  go_wp2_with fail
  refine (CY.out _ HY.out).mono ?_
  rintro e w1 ⟨bd, rfl, zy, RY⟩
  have HX1 : Hid (Words w1 bx 0 (M.dig X)) := mkHid (HX.out.grows RY.out.2.2.2.2.2)
  go_wp2_with fail
  refine (CX.out _ HX1.out).mono ?_
  rintro e w2 ⟨br, rfl, zx, RX⟩
  clear CLZ CY CX hcell
  go_wp2_with (at_make; refine wpList_make_full _ rfl _ _ 60 rfl w2.heap.size 24 i0 (.int .u64 0) 1 Tryd.underlying60 hi'.out hz0'.out hz1'.out _ _ _ _ q rfl rfl (by omega) (by omega) ?bytes ?maxl ?base ?_)
  case bytes => rw [hz2'.out]; omega
  case maxl => unfold maxLen; omega
  case base => exact Nat.le_refl _
  intro w3 hown hgrow
  have HRQ : Hid (Row w3 w2.heap.size q (List.replicate q 0)) := mkHid (Row.made hown (by omega))
  have HB3 : Hid (Below w2.heap.size w2 w3) := mkHid (below_grown hgrow (Nat.le_refl _))
  clear hown hgrow hi' hz0' hz1' hz2' HX1
  -- the blocks
  have HBK : Hid (w'.heap.size ≤ bd ∧ bd < w1.heap.size ∧ w1.heap.size ≤ br ∧ br < w2.heap.size) := mkHid ⟨RY.out.2.2.2.1, RY.out.2.2.2.2.1.lt, RX.out.2.2.2.1, RX.out.2.2.2.2.1.lt⟩
  obtain ⟨D, hD⟩ : ∃ D, Y * 2 ^ s = D := ⟨_, rfl⟩
  obtain ⟨R0, hR0⟩ : ∃ R0, X * 2 ^ s = R0 := ⟨_, rfl⟩
  rw [hD] at NT RY
  rw [hR0] at RX
  have HD := mkHid hD
  have HR0 := mkHid hR0
  clear hD hR0
  -- the divisor: its highest word is 0
  obtain ⟨dz, hdz⟩ : ∃ dz, dz = zy.take (n + 2) := ⟨_, rfl⟩
  have LD : Hid (dz.length = n + 2) := mkHid (by rw [hdz]; have := RY.out.1; simp; omega)
  have OD : Hid (M.Ok dz) := mkHid (by rw [hdz]; exact RY.out.2.1.take _)
  have VD : Hid (M.val dz = D) := mkHid (by
    have h1 := M.val_take_drop zy (n + 2) (by have := RY.out.1; omega)
    rw [RY.out.2.2.1, ← hdz] at h1
    have h2 := NT.out.1
    have h3 : M.val (zy.drop (n + 2)) = 0 := by
      apply Classical.byContradiction; intro hne
      have := Nat.mul_le_mul_left (M.B ^ (n + 2)) (show 1 ≤ M.val (zy.drop (n + 2)) by omega)
      have e : M.B ^ (n + 1 + 1) = M.B ^ (n + 2) := rfl
      rw [e] at h2
      omega
    rw [h3, Nat.mul_zero, Nat.add_zero] at h1
    exact h1.symm)
  have HWD : Hid (Words w2 bd 0 dz) := mkHid (by rw [hdz]; exact ((RY.out.2.2.2.2.1.words).take _).grows RX.out.2.2.2.2.2)
  clear hdz
  have D0 : Hid (0 < D) := mkHid (by rw [← HD.out]; exact Nat.mul_pos (Nat.pos_of_ne_zero Y0.out) (Nat.two_pow_pos s))
  have HRX : Hid (Row w3 br (m + 1) zx) := mkHid (RX.out.2.2.2.2.1.below HB3.out HBK.out.2.2.2)
  have DI0 : Hid (DI R0 D (n + 2) m q zx []) := mkHid ⟨RX.out.1, RX.out.2.1, M.Ok.nil, by have := HQ.out; simp; omega, by
    rw [RX.out.2.2.1]
    have h1 : X < M.B ^ m := by have := M.val_lt (M.ok_dig X); rwa [M.val_dig, HM.out] at this
    have h2 := NT.out.2
    have h3 : R0 < M.B ^ m * 2 ^ s := by rw [← HR0.out]; exact Nat.mul_lt_mul_of_pos_right h1 (Nat.two_pow_pos s)
    have h4 : 2 ^ s ≤ 9223372036854775808 := by
      have := Nat.pow_le_pow_right (show 0 < 2 by omega) (show s ≤ 63 by have := HS64.out; omega)
      exact this
    have h5 : M.B ^ m * 2 ^ s ≤ M.B ^ m * 9223372036854775808 := Nat.mul_le_mul_left _ h4
    have h6 : M.B ^ m = M.B ^ (n + 1) * M.B ^ q := by rw [← Nat.pow_add]; congr 1; omega
    have h7 : M.B ^ m * 9223372036854775808 ≤ D * M.B ^ q := by rw [h6, Nat.mul_right_comm]; exact Nat.mul_le_mul_right _ h2
    omega, by rw [RX.out.2.2.1]; simp⟩
  obtain ⟨bq, hbq⟩ : ∃ bq, w2.heap.size = bq := ⟨_, rfl⟩
  rw [hbq] at HRQ HB3
  have HBQ := mkHid hbq
  go_wp2
  rw [hbq]
  clear hbq
  go_loopw [35] (fun iv wr => ∃ i c : Nat, i + c = q ∧ iv = .int .i64 i ∧ ∃ ls qs, Hid (DI R0 D (n + 2) m c ls qs ∧ Row wr br (m + 1) ls ∧ Row wr bq q (List.replicate c 0 ++ qs) ∧ Words wr bd 0 dz ∧ Below w'.heap.size w' wr))
    (fun iv _ => q - (intOf iv).toNat)
  case atStart => exact ⟨0, q, by omega, rfl, zx, [], DI0.out, HRX.out, by simpa using HRQ.out, HWD.out.below HB3.out (by have := HBK.out; have := HBQ.out; omega), (RY.out.2.2.2.2.2.trans (RX.out.2.2.2.2.2.mono RY.out.2.2.2.2.2.size)).trans (HB3.out.mono (by have h1 := RY.out.2.2.2.2.2.size; have h2 := RX.out.2.2.2.2.2.size; have h3 := HBQ.out; omega))⟩
  case round =>
    obtain ⟨i, c, hic, rfl, ls, qs, H⟩ := hrel
    by_cases hlt : i < q
    · obtain ⟨c, rfl⟩ : ∃ c', c = c' + 1 := ⟨c - 1, by omega⟩
      have hDn : Hid (D ≤ M.B ^ (n + 2)) := mkHid (by have := M.val_lt OD.out; rw [LD.out, VD.out] at this; omega)
      obtain ⟨lo, win, hi, hls, lc, lw, hv0, hwlt⟩ := H.out.1.window hle hDn.out
      subst hls
      obtain ⟨p, a, b, c3, hwin, hp⟩ := split_three (k := n) lw
      obtain ⟨dp, d0, d1, hdz, hdp⟩ := split_two LD.out
      have HW := H.out.2.1.words.right.left
      rw [Nat.zero_add, lc, hwin] at HW
      have CT := mkHid (takeDigit_any br c (m + 1 - c) bd 0 (n + 2 + 1) n p dp a b c3 d0 d1 wr HW (by rw [← hdz]; exact H.out.2.2.2.1) hp hdp (by rw [← hwin]; exact H.out.1.ok.right.left) (by rw [← hdz]; exact OD.out)
        (top_word (by rw [← hdz]; exact OD.out) (by rw [← hdz, VD.out, hdp]; exact NT.out.2)) (by rw [← hwin, ← hdz, VD.out]; exact hwlt) (by have := HBK.out; omega) (by omega) (by omega) (by omega))
      rw [← hwin, ← hdz, VD.out] at CT
      obtain ⟨dg, hdg⟩ : ∃ dg, M.val win / D = dg := ⟨_, rfl⟩
      rw [hdg] at CT
      have HDG := mkHid hdg
      have HLC := mkHid lc
      have HLW := mkHid lw
      have HV0 := mkHid hv0
      have HWLT := mkHid hwlt
      clear hdg lc lw hv0 hwlt HW hwin hp hdz hdp p dp
      have hci : (q : Int) - 1 - (i : Int) = (c : Int) := by omega
      have hcm : (c : Int) ≤ 100000 := by omega
      have hcn : c + n + 3 ≤ m + 1 := by omega
      have HRQ2 : Hid (Row wr bq q (List.replicate c 0 ++ 0 :: qs)) := mkHid (by
        have h := H.out.2.2.1
        rw [List.replicate_succ', List.append_assoc] at h
        exact h)
      have HBB : Hid (bq ≠ br ∧ bd ≠ bq) := mkHid (by have := HBK.out; have := HBQ.out; omega)
      go_wp2_with fail
      rw [show c + (n + 2) + 1 - c = n + 3 by omega]
      refine CT.out.mono ?_
      clear CT
      rintro e w4 ⟨rfl, zs, T⟩
      obtain ⟨hqc, hqf⟩ := (HRQ2.out.keep T.out.2.2.2.2 HBB.out.1).words.atMid (n := c) (by simp)
      rw [Nat.zero_add] at hqc hqf
      have hcq : c < q := by omega
      go_wp2
      go_roundw
      case measure => simp [intOf]; omega
      case rel =>
        have HT := T.out
        have e4 : Words w4 br 0 (lo ++ ((zs ++ [0]) ++ hi)) := by
          have h1 := H.out.2.1.words
          have h2 : Words w4 br 0 lo := h1.left.keepOut HT.2.2.2.2 (by left; have := HLC.out; omega)
          have h3 : Words w4 br (0 + lo.length) (zs ++ [0]) := by rw [Nat.zero_add, HLC.out]; exact HT.2.2.2.1
          have h4 : Words w4 br (0 + lo.length + (zs ++ [0]).length) hi := by
            have h5 := h1.right.right
            rw [HLC.out, HLW.out] at h5
            have h6 := h5.keepOut HT.2.2.2.2 (by right; omega)
            rw [HLC.out]
            simp only [List.length_append, HT.1, List.length_cons, List.length_nil]
            exact h6
          exact h2.append (h3.append h4)
        have hDI := H.out.1.step D0.out HLC.out HV0.out HWLT.out zs (by rw [HT.1, HLW.out]) HT.2.1 HT.2.2.1
        rw [HDG.out] at hDI
        have hwr : Wr wr w4 br 0 (m + 1) := HT.2.2.2.2.mono (Nat.zero_le _) (by omega)
        have hR4 : Row w4 br (m + 1) (lo ++ ((zs ++ [0]) ++ hi)) := H.out.2.1.after hwr e4 (by rw [hDI.len]; exact Nat.le_refl _)
        have hset : Wr w4 (w4.setCell ⟨bq, c, none⟩ (.int .u64 (dg : Int))) bq 0 q := (Wr.refl _ _ _ _).setCell (Nat.zero_le _) hcq _
        have hQ4 := HRQ2.out.keep HT.2.2.2.2 HBB.out.1
        have hQ5 : Row (w4.setCell ⟨bq, c, none⟩ (.int .u64 (dg : Int))) bq q (List.replicate c 0 ++ dg :: qs) := by
          have h := hQ4.words.setMid (n := c) (by simp) dg
          rw [Nat.zero_add] at h
          exact hQ4.after hset h (by have := hDI.lq; have := HQ.out; simp at *; omega)
        refine ⟨i + 1, c, by omega, by go_num, _, dg :: qs, mkHid ⟨hDI, hR4.keep hset HBB.out.1.symm, hQ5, ?_, ?_⟩⟩
        · exact (H.out.2.2.2.1.keep HT.2.2.2.2 (by have := HBK.out; omega)).keep hset HBB.out.2
        · have b1 : Below w'.heap.size wr w4 := hwr.toBelow (by have h1 := HBK.out; have h2 := RY.out.2.2.2.2.2.size; omega) H.out.2.2.2.2.size
          have b2 : Below w'.heap.size w4 _ := hset.toBelow (by have h1 := HBQ.out; have h2 := RY.out.2.2.2.2.2.size; have h3 := RX.out.2.2.2.2.2.size; omega) (Nat.le_trans H.out.2.2.2.2.size b1.size)
          exact (H.out.2.2.2.2.trans b1).trans b2
    · have hc0 : c = 0 := by omega
      subst hc0
      have hiq : i = q := by omega
      subst hiq
      have HE := mkHid (H.out.1.end D0.out)
      have hsd := scale_div X Y (2 ^ s) (Nat.two_pow_pos s)
      rw [HR0.out, HD.out] at hsd
      have HSD := mkHid hsd
      clear hsd
      obtain ⟨rs, hrs⟩ : ∃ rs, rs = ls.take (n + 2) := ⟨_, rfl⟩
      have LR : Hid (rs.length = n + 2) := mkHid (by rw [hrs]; have := H.out.1.len; simp; omega)
      have OR : Hid (M.Ok rs) := mkHid (by rw [hrs]; exact H.out.1.ok.take _)
      have VR : Hid (M.val rs = X % Y * 2 ^ s) := mkHid (by
        have h1 := M.val_take_drop ls (n + 2) (by have := H.out.1.len; omega)
        have h2 := H.out.1.lt
        rw [Nat.pow_zero, Nat.mul_one] at h2
        have h3 := M.val_lt OD.out
        rw [LD.out, VD.out] at h3
        have h4 : M.val (ls.drop (n + 2)) = 0 := by
          apply Classical.byContradiction; intro hne
          have := Nat.mul_le_mul_left (M.B ^ (n + 2)) (show 1 ≤ M.val (ls.drop (n + 2)) by omega)
          omega
        rw [h4, Nat.mul_zero, Nat.add_zero, ← hrs] at h1
        rw [← h1, HE.out.2, HSD.out.2])
      have RR : Hid (Row wr br (m + 1) rs) := mkHid (by rw [hrs]; exact H.out.2.1.take _)
      clear hrs
      have CS := mkHid (shiftRight_any br (m + 1) s rs wr RR.out (by rw [LR.out]; omega) OR.out (by rw [LR.out]; have := HS64.out; omega))
      rw [LR.out, VR.out, Nat.mul_div_cancel _ (Nat.two_pow_pos s)] at CS
      have hfit : (n : Int) + 2 ≤ (m : Int) + 1 := by omega
      go_wp2_with fail
      refine CS.out.mono ?_
      clear CS
      rintro e w5 ⟨rfl, S⟩
      have HBB : Hid (bq ≠ br) := mkHid (by have := HBK.out; have := HBQ.out; omega)
      go_wp2
      go_ret2
      refine ⟨bq, i, br, m + 1, rfl, qs, mkHid ⟨by have := H.out.1.lq; have := HQ.out; omega, H.out.1.okq, by rw [HE.out.1, HSD.out.1], ?_, S.out.1, by have h1 := HBQ.out; have h2 := RY.out.2.2.2.2.2.size; have h3 := RX.out.2.2.2.2.2.size; omega, by have h1 := HBK.out; have h2 := RY.out.2.2.2.2.2.size; omega, ?_⟩⟩
      · have h := H.out.2.2.1.keep S.out.2 HBB.out
        simpa using h
      · exact H.out.2.2.2.2.trans (S.out.2.toBelow (by have h1 := HBK.out; have h2 := RY.out.2.2.2.2.2.size; omega) H.out.2.2.2.2.size)
end Go.Proofs.YtjdkbbggelpchaaDoor
