/- Contracts of the specification's Div and Gcd. -/
import Derived.Test.YtjdkbbggelpchaaDoorSL
namespace Go.Proofs.YtjdkbbggelpchaaDoor
open Go.RowKit SD

theorem ds_ten : ds 10 = ⟨#[49, 48]⟩ := by kernel_rfl
theorem ds_ne_zero {n : Nat} (h : n ≠ 0) : ((ds n).toList == [48]) = false := by
  rw [beq_eq_false_iff_ne, ds_list]
  intro e
  exact h (D.dec_inj (show Lib.decDigits n = Lib.decDigits 0 by rw [e]; kernel_rfl))
/-- What the loops of Div keep: q's digits so far (those from place k on), and the rest. -/
structure DivI (w wr : World) (g N : Nat) (L : List Nat) (Q : Nat) : Prop where
  cells : DC wr g L
  below : Below w.heap.size w wr
  ge : w.heap.size ≤ g
  len : L.length = N
  dig : ∀ x ∈ L, x < 10
  val : val L = Q
theorem DivI.next {w wr w' : World} {g N Q : Nat} {L : List Nat} (h : DivI w wr g N L Q) (hb : Below wr.heap.size wr w') : DivI w w' g N L Q := ⟨h.cells.next hb, below_trans h.below hb h.below.size, h.ge, h.len, h.dig, h.val⟩
theorem DivI.step {w wr : World} {g N Q k x : Nat} {L : List Nat} (h : DivI w wr g N L Q) (hx : L[k]? = some x) (hx9 : x + 1 < 10) : DivI w (wr.setCell ⟨g, k, none⟩ (.int .i64 ((x + 1 : Nat) : Int))) g N (L.set k (x + 1)) (Q + 10 ^ k) := by
  refine ⟨h.cells.set _ _, below_setCell h.below h.ge _ _, h.ge, by rw [List.length_set]; exact h.len, dig_set h.dig hx9, ?_⟩
  have e1 := val_set L k (x + 1) x hx
  have e2 := h.val
  rw [Nat.mul_add] at e1
  omega
theorem DivI.to {w wr : World} {g N Q Q' : Nat} {L : List Nat} (h : DivI w wr g N L Q) (e : Q = Q') : DivI w wr g N L Q' := by subst e; exact h
/-- The digit of a number below it. -/
theorem get_dg (L : List Nat) : ∀ (k x : Nat), (∀ y ∈ L, y < 10) → L[k]? = some x → dg (val L) k = x := by
  induction L with
  | nil => intro k x _ h; simp at h
  | cons z L ih =>
    intro k x hd h
    have hz := hd z (by simp)
    cases k with
    | zero =>
      simp at h
      subst h
      simp only [dg, val, Nat.pow_zero, Nat.div_one]; omega
    | succ k =>
      simp at h
      have := ih k x (fun y hy => hd y (by simp [hy])) h
      rw [← this]
      simp only [dg, val, Nat.pow_succ]
      rw [Nat.mul_comm (10 ^ k) 10, ← Nat.div_div_eq_div_mul, show (z + 10 * val L) / 10 = val L by omega]
theorem sdiv_step (a b k : Nat) (hb : 0 < b) : a / 10 ^ k = a / 10 ^ (k + 1) * 10 + dg a k ∧ a / 10 ^ k % b = (a / 10 ^ (k + 1) % b * 10 + dg a k) % b ∧ a / 10 ^ k / b = (a / 10 ^ (k + 1)) / b * 10 + (a / 10 ^ (k + 1) % b * 10 + dg a k) / b := by
  have e : a / 10 ^ k = a / 10 ^ (k + 1) * 10 + dg a k := by
    unfold dg
    rw [Nat.pow_succ, ← Nat.div_div_eq_div_mul]; omega
  refine ⟨e, ?_, ?_⟩
  · rw [e, Nat.add_mod, Nat.mul_mod, Nat.add_mod (a / 10 ^ (k + 1) % b * 10), Nat.mul_mod (a / 10 ^ (k + 1) % b) 10, Nat.mod_mod]
  · have h1 := Nat.div_add_mod (a / 10 ^ (k + 1)) b
    rw [e]
    generalize a / 10 ^ (k + 1) = m at *
    generalize m / b = q at *
    generalize m % b = r at *
    subst h1
    rw [show (b * q + r) * 10 + dg a k = (r * 10 + dg a k) + b * (q * 10) by rw [Nat.add_mul, Nat.mul_assoc]; omega, Nat.add_mul_div_left _ _ hb]
    omega
/-- A string's number. -/
def sval (v : Value) : Nat := match v with | .string s => D.dv s.data.toList | _ => 0
theorem sval_ds (n : Nat) : sval (.string (ds n)) = n := by show D.dv (ds n).data.toList = n; rw [ds_data]; exact D.dv_dec n
theorem scmp_lt {a b : Nat} (h : a < b) : Lib.compareInt (a : Int) (b : Int) = -1 := by unfold Lib.compareInt; rw [if_pos (by omega)]
theorem scmp_ge {a b : Nat} (h : b ≤ a) : (0 : Int) ≤ Lib.compareInt (a : Int) (b : Int) := by unfold Lib.compareInt; rw [if_neg (by omega)]; split <;> omega
theorem DivI.digit {w wr : World} {g N k t Q : Nat} {L : List Nat} (h : DivI w wr g N L (10 ^ (k + 1) * Q + 10 ^ k * t)) (ht : t < 10) (hk : k < N) : L[k]? = some t := by
  obtain ⟨x, hx⟩ : ∃ x, L[k]? = some x := ⟨L[k]'(by rw [h.len]; exact hk), List.getElem?_eq_getElem _⟩
  have e := get_dg L k x h.dig hx
  rw [h.val] at e
  rw [hx, ← e]
  unfold dg
  rw [Nat.pow_succ, Nat.mul_assoc, ← Nat.mul_add, Nat.mul_div_cancel_left _ (Nat.pow_pos (by omega))]
  congr 1; omega

set_option maxRecDepth 100000 in
set_option maxHeartbeats 1000000 in
theorem sdiv_zero (a : Nat) (w : World) :
    Calls Tryd.prog 17 #[.string (ds a), .string (ds 0)] w fun e w' => e = .returned (.tuple #[.string (ds 0), .string (ds 0), .bool false]) ∧ Below w.heap.size w w' := by
  rw [ds_zero]
  go_enter Tryd.func17, Tryd.ntmps17
  go_wp2
  go_ret3
  exact ⟨rfl, Below.refl _ _⟩

set_option maxRecDepth 100000 in
set_option maxHeartbeats 8000000 in
theorem sdiv_pos (a b : Nat) (w : World) (hb : 0 < b) (ha : Lib.nDigits a ≤ 50000) :
    Calls Tryd.prog 17 #[.string (ds a), .string (ds b)] w fun e w' => e = .returned (.tuple #[.string (ds (a / b)), .string (ds (a % b)), .bool true]) ∧ Below w.heap.size w w' := by
  obtain ⟨i0, hi, hz0, hz1, hz2⟩ := info_parts infoI
  have hi' := Lib.hid hi; have hz0' := Lib.hid hz0; have hz1' := Lib.hid hz1; have hz2' := Lib.hid hz2; clear hi hz0 hz1 hz2
  have la := ds_size a
  have hb0 := ds_ne_zero (show b ≠ 0 by omega)
  obtain ⟨N, hN⟩ : ∃ N, Lib.nDigits a = N := ⟨_, rfl⟩
  have hnd1 : 0 < N := by have := Lib.nDigits_pos a; omega
  have HNA := mkHid hN
  rw [hN] at la ha
  have HMO := mkHid (fun (x : Nat) (h : x ≤ a) => show Lib.nDigits x ≤ N by rw [← hN]; exact nDigits_mono _ _ h)
  clear hN
  have e0 : IntKind.i64.wrap ((N : Int) - 1) = (N : Int) - 1 := IntWalk.i64_in _ (by omega)
  go_enter Tryd.func17, Tryd.ntmps17
  go_wp2_with (at_make; refine wpList_make_full _ rfl _ _ 64 rfl w.heap.size 3 i0 (.int .i64 0) 1 Tryd.underlying64 hi'.out hz0'.out hz1'.out _ _ _ _ N rfl rfl (by omega) (by omega) ?bytes ?maxl ?base ?_)
  case bytes => rw [hz2'.out]; omega
  case maxl => first | omega | (unfold maxLen; omega)
  case base => exact Nat.le_refl _
  intro w1 hown hgrow
  obtain ⟨g, hg⟩ : ∃ g, g = w.heap.size := ⟨_, rfl⟩
  have HM : Hid (DivI w w1 g N (List.replicate N 0) (10 ^ N * (a / 10 ^ N / b)) ∧ a / 10 ^ N % b = 0) := mkHid (by
    have h0 : a / 10 ^ N = 0 := Nat.div_eq_of_lt (nd_lt a N (by rw [HNA.out]; exact Nat.le_refl _))
    rw [h0, Nat.zero_div, Nat.mul_zero, Nat.zero_mod]
    exact ⟨⟨by rw [hg]; exact DC.made hown, below_grown hgrow (Nat.le_refl _), by omega, by simp, by intro x hx; have := (List.mem_replicate.1 hx).2; omega, val_zeros N⟩, rfl⟩)
  clear hown hgrow hi' hz0' hz1' hz2'
  rw [← hg]
  have HG := mkHid hg
  clear hg
  go_wp2
  go_loopw [8, 9] (fun sv iv wr => ∃ (k : Nat) (L : List Nat), sv = .string (ds (a / 10 ^ k % b)) ∧ iv = .int .i64 ((k : Int) - 1) ∧ k ≤ N ∧ Hid (DivI w wr g N L (10 ^ k * (a / 10 ^ k / b)))) (fun _ iv _ => (intOf iv + 1).toNat)
  case atStart => exact ⟨N, List.replicate N 0, by rw [HM.out.2]; exact congrArg _ ds_zero.symm, rfl, Nat.le_refl _, mkHid HM.out.1⟩
  case round =>
    obtain ⟨k, L, rfl, rfl, hk, H⟩ := hrel
    clear HM
    rcases Nat.eq_zero_or_pos k with rfl | hk0
    · have hf := form_any _ L wr (H.out.cells.dg (cap := N)) H.out.dig (by rw [H.out.len]; omega)
      rw [H.out.val, H.out.len, Nat.pow_zero, Nat.one_mul, Nat.div_one] at hf
      have HF := mkHid hf
      have HBW := mkHid H.out.below
      clear hf H
      rw [Nat.pow_zero, Nat.div_one, show ((0 : Nat) : Int) - 1 = -1 from rfl]
      go_wp2_with (go_at_call 40; refine (HF.out).mono ?_; rintro e w2 ⟨rfl, HB2⟩)
      go_ret3
      exact ⟨rfl, below_trans HBW.out HB2 HBW.out.size⟩
    · obtain ⟨j, rfl⟩ : ∃ j, k = j + 1 := ⟨k - 1, by omega⟩
      rw [show ((j + 1 : Nat) : Int) - 1 = (j : Int) by omega]
      obtain ⟨E1, E2, E3⟩ := sdiv_step a b j hb
      have hR10 : a / 10 ^ (j + 1) % b < b := Nat.mod_lt _ hb
      have hRa : a / 10 ^ (j + 1) % b * 10 + dg a j ≤ a := by
        have h1 : a / 10 ^ (j + 1) % b ≤ a / 10 ^ (j + 1) := Nat.mod_le _ _
        have h2 : a / 10 ^ j ≤ a := Nat.div_le_self _ _
        omega
      have hd10 := dg_lt a j
      obtain ⟨r0, hr0⟩ : ∃ r0, a / 10 ^ (j + 1) % b = r0 := ⟨_, rfl⟩
      obtain ⟨d, hd⟩ : ∃ d, dg a j = d := ⟨_, rfl⟩
      have HDA := mkHid (fun W => digit_any a j W (by rw [HNA.out]; omega))
      rw [hr0] at E2 E3 hR10 hRa ⊢
      rw [hd] at E1 E2 E3 hRa hd10 HDA
      obtain ⟨R, hR⟩ : ∃ R, r0 * 10 + d = R := ⟨_, rfl⟩
      have CM := mkHid (fun W => smul_any r0 10 W (by have := HMO.out r0 (by omega); omega) (by have : Lib.nDigits 10 ≤ 2 := D.nDigits_le 1 _ (by decide); omega))
      rw [ds_ten] at CM
      have CO := mkHid (fun W => sof_any d W (by omega))
      have CA := mkHid (fun W => sadd_any (r0 * 10) d W (by have := HMO.out (r0 * 10) (by omega); omega) (by have : Lib.nDigits d ≤ 1 := D.nDigits_le 0 _ (by omega); omega))
      rw [hR] at E2 E3 hRa CA
      have hRb : R < 10 * b := by omega
      have HE := mkHid (And.intro E2 E3)
      clear hr0 hd hR E1 E2 E3 hR10
      have f1 : IntKind.u64.wrap (d : Int) = (d : Int) := by rw [IntKind.wrap_u64]; omega
      have f2 : IntKind.i64.wrap ((j : Int) - 1) = (j : Int) - 1 := IntWalk.i64_in _ (by omega)
      generalize hs2 : ds (r0 * 10) = s2 at *
      generalize hs3 : ds d = s3 at *
      clear hs2 hs3
      obtain ⟨Q0, hQ0⟩ : ∃ Q0, a / 10 ^ (j + 1) / b = Q0 := ⟨_, rfl⟩
      rw [hQ0] at H HE
      clear hQ0
      have hj0 : (0 : Int) ≤ (j : Int) := by omega
      have hjN : (j : Int) < (N : Int) := by omega
      have hjn : j < N := by omega
      go_wp2_with (first
        | (go_at_call 19; refine (CM.out _).mono ?_; rintro e w2 ⟨rfl, hb⟩; have HX := mkHid (H.out.next hb); clear hb)
        | (go_at_call 39; refine (HDA.out _).mono ?_; rintro e w3 ⟨rfl, h3⟩; obtain rfl := h3.symm; clear h3)
        | (go_at_call 26; refine (CO.out _).mono ?_; rintro e w4 ⟨rfl, hb⟩; have HX := mkHid (HX.out.next hb); clear hb)
        | (go_at_call 13; refine (CA.out _).mono ?_; rintro e w5 ⟨rfl, hb⟩; have HX5 := mkHid (HX.out.next hb); clear hb))
      go_loopw [8] (fun sv wr => ∃ (r t : Nat) (L : List Nat), sv = .string (ds r) ∧ r + b * t = R ∧ Hid (DivI w wr g N L (10 ^ (j + 1) * Q0 + 10 ^ j * t))) (fun sv _ => sval sv)
      case atStart => exact ⟨R, 0, L, rfl, by simp, mkHid (HX5.out.to (by simp))⟩
      case round =>
        clear H HX5
        obtain ⟨r, t, L, rfl, hrt, H⟩ := hrel
        have CC := rcmp_any r b
        by_cases hle : b ≤ r
        · have hcv := scmp_ge hle
          generalize Lib.compareInt (r : Int) (b : Int) = cv at *
          replace CC := mkHid CC
          have ht9 : t + 1 < 10 := by
            apply Nat.lt_of_not_le; intro h9
            have : b * 9 ≤ b * t := Nat.mul_le_mul_left _ (by omega)
            omega
          have CS := mkHid (fun W => ssub_ge r b W (by have := HMO.out r (by omega); omega) hle)
          have hx := H.out.digit (by omega) hjn
          have HXG := mkHid hx
          have e1 : IntKind.i64.wrap ((t : Int) + 1) = ((t + 1 : Nat) : Int) := by rw [IntWalk.i64_in _ (by omega)]; omega
          have hlt : r - b < r := by omega
          have HRT : Hid (r - b + b * (t + 1) = R) := mkHid (by rw [Nat.mul_add]; omega)
          generalize hrb : r - b = rb at *
          clear hrt hrb hx
          go_wp2_with (first
            | (go_at_call 15; refine (CC.out _).mono ?_; rintro e w3 ⟨rfl, h3⟩; obtain rfl := h3.symm; clear h3)
            | (go_at_call 10; refine (CS.out _).mono ?_; rintro e w6 ⟨rfl, hb⟩; have HX6 := mkHid (H.out.next hb); clear hb; obtain ⟨hcx, hfx⟩ := HX6.out.cells _ t HXG.out))
          go_roundw
          case rel => exact ⟨rb, t + 1, L.set j (t + 1), rfl, HRT.out, mkHid ((HX6.out.step HXG.out ht9).to (by rw [Nat.mul_add, Nat.mul_one, Nat.add_assoc]))⟩
          case measure => rw [sval_ds, sval_ds]; exact hlt
        · rw [scmp_lt (by omega)] at CC
          replace CC := mkHid CC
          have hq : R / b = t := by rw [← hrt, Nat.add_mul_div_left _ _ hb, Nat.div_eq_of_lt (by omega), Nat.zero_add]
          have hr : R % b = r := by rw [← hrt, Nat.add_mul_mod_self_left, Nat.mod_eq_of_lt (by omega)]
          have HQR := mkHid (And.intro hq hr)
          clear hq hr hrt hle
          go_wp2_with (go_at_call 15; refine (CC.out _).mono ?_; rintro e w3 ⟨rfl, h3⟩; obtain rfl := h3.symm; clear h3)
          go_roundw
          case rel => exact ⟨j, L, by rw [HE.out.1, HQR.out.2], rfl, by omega, mkHid (H.out.to (by rw [HE.out.2, HQR.out.1, Nat.pow_succ, Nat.mul_assoc, ← Nat.mul_add, Nat.mul_comm 10 Q0]))⟩
          case measure => simp [intOf]

set_option maxRecDepth 100000 in
set_option maxHeartbeats 4000000 in
theorem sgcd_any (a b : Nat) (w : World) (ha : Lib.nDigits a ≤ 50000) (hb : Lib.nDigits b ≤ 50000) :
    Calls Tryd.prog 21 #[.string (ds a), .string (ds b)] w fun e w' => e = .returned (.string (ds (Nat.gcd a b))) ∧ Below w.heap.size w w' := by
  go_enter Tryd.func21, Tryd.ntmps21
  go_wp2
  go_loopw [0, 1] (fun av bv wr => ∃ (x y : Nat), av = .string (ds x) ∧ bv = .string (ds y) ∧ Hid (Nat.gcd x y = Nat.gcd a b ∧ Lib.nDigits x ≤ 50000 ∧ Lib.nDigits y ≤ 50000 ∧ Below w.heap.size w wr)) (fun _ bv _ => sval bv)
  case atStart => exact ⟨a, b, rfl, rfl, mkHid ⟨rfl, ha, hb, Below.refl _ _⟩⟩
  case round =>
    obtain ⟨x, y, rfl, rfl, H⟩ := hrel
    rcases Nat.eq_zero_or_pos y with rfl | hy
    · have HB := mkHid H.out.2.2.2
      have e : x = Nat.gcd a b := by have := H.out.1; rw [Nat.gcd_zero_right] at this; exact this
      rw [ds_zero, e]
      clear H e
      go_wp2
      go_ret
      exact ⟨rfl, HB.out⟩
    · have hy0 := ds_ne_zero (show y ≠ 0 by omega)
      have CD := mkHid (fun W => sdiv_pos x y W hy H.out.2.1)
      have hlt : x % y < y := Nat.mod_lt _ hy
      have HX : Hid (∀ wd, Below wr.heap.size wr wd → Nat.gcd y (x % y) = Nat.gcd a b ∧ Lib.nDigits y ≤ 50000 ∧ Lib.nDigits (x % y) ≤ 50000 ∧ Below w.heap.size w wd) := mkHid (fun wd hbd => by
        obtain ⟨h1, h2, h3, h4⟩ := H.out
        refine ⟨?_, h3, ?_, below_trans h4 hbd h4.size⟩
        · rw [← h1, Nat.gcd_comm x y, Nat.gcd_rec y x, Nat.gcd_comm]
        · have := nDigits_mono (x % y) y (by omega); omega)
      clear H
      generalize ds (x / y) = q at *
      generalize x % y = r at *
      go_wp2_with (go_at_call 17; refine (CD.out _).mono ?_; rintro e w2 ⟨rfl, hb⟩; have HR := mkHid (HX.out _ hb); clear hb)
      go_roundw
      case rel => exact ⟨y, r, rfl, rfl, HR⟩
      case measure => rw [sval_ds, sval_ds]; exact hlt
end Go.Proofs.YtjdkbbggelpchaaDoor
