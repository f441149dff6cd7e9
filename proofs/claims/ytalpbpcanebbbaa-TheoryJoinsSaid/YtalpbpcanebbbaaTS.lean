/- Contracts of the specification: Valid, Has, Holds, Contains, SameInts, abs. -/
import Derived.Test.YtalpbpcanebbbaaTU
namespace Go.Proofs.Ytalpbpcanebbbaa
open Go.RowKit VM LM TM

theorem shr_low (s : BitVec 128) (v : Int) (h1 : 1 ≤ v) (h2 : v ≤ 64) : has s v = decide (wd (lo s) / 2 ^ (v - 1).toNat % 2 = 1) := by
  have e : (v - 1).toNat < 64 := by omega
  rw [has_bit _ _ (by omega), show s.getLsbD (v - 1).toNat = (lo s).getLsbD (v - 1).toNat by rw [lo_bit]; simp only [e, decide_true, Bool.true_and]]
  show (lo s).toNat.testBit (v - 1).toNat = _
  rw [Nat.testBit_eq_decide_div_mod_eq, decide_eq_decide]
  unfold wd
  rw [show ((2 : Int) ^ (v - 1).toNat) = ((2 ^ (v - 1).toNat : Nat) : Int) by simp]
  omega
theorem shr_high (s : BitVec 128) (v : Int) (h1 : 65 ≤ v) (h2 : v ≤ 128) : has s v = decide (wd (hi s) / 2 ^ (v - 65).toNat % 2 = 1) := by
  have e : (v - 65).toNat < 64 := by omega
  have e2 : 64 + (v - 65).toNat = (v - 1).toNat := by omega
  rw [has_bit _ _ (by omega), show s.getLsbD (v - 1).toNat = (hi s).getLsbD (v - 65).toNat by rw [hi_bit, e2]; simp only [e, decide_true, Bool.true_and]]
  show (hi s).toNat.testBit (v - 65).toNat = _
  rw [Nat.testBit_eq_decide_div_mod_eq, decide_eq_decide]
  unfold wd
  rw [show ((2 : Int) ^ (v - 65).toNat) = ((2 ^ (v - 65).toNat : Nat) : Int) by simp]
  omega
set_option maxRecDepth 100000 in
set_option maxHeartbeats 2000000 in
theorem rcont_any (v : Value) (l : List Int) (x : Int) (w : World) (hv : Ints w v l) (hlen : l.length ≤ 9223372036854775807) :
    Calls Try.prog 67 #[v, .int .i64 x] w fun e w' => e = .returned (.bool (l.contains x)) ∧ w' = w := by
  obtain ⟨ao, cap, rfl, hc⟩ := hv.uni
  have HC := mkHid hc
  have HR : Hid (l.contains x = l.any (fun y => decide (y = x))) := mkHid (by
    rw [Bool.eq_iff_iff]; simp)
  rw [HR.out]
  clear hc hv
  go_enter Try.func67, Try.ntmps67
  go_wp2
  go_loopw [5] (fun iv wr => ∃ k : Nat, k ≤ l.length ∧ iv = .int .i64 (k : Int) ∧ Hid (∀ y ∈ l.take k, (fun y => decide (y = x)) y = false) ∧ wr = w) (fun iv _ => l.length - (intOf iv).toNat)
  case atStart => exact ⟨0, Nat.zero_le _, rfl, mkHid any_start, rfl⟩
  case round =>
    obtain ⟨k, hk, rfl, H, rfl⟩ := hrel
    by_cases hlt : k < l.length
    · obtain ⟨y, hy⟩ : ∃ y, l[k]? = some y := ⟨l[k], List.getElem?_eq_getElem hlt⟩
      obtain ⟨b, off, rfl, hcx⟩ := HC.out k y hy
      have hk1 : (k : Int) < (l.length : Int) := by omega
      have HY := mkHid hy
      clear hy
      by_cases hxy : y = x
      · have HF := mkHid (any_found (P := fun y => decide (y = x)) HY.out (by simp [hxy]))
        go_wp2
        go_ret
        exact ⟨by rw [HF.out]; rfl, rfl⟩
      · go_wp2
        go_roundw
        case rel => exact ⟨k + 1, by omega, by go_num, mkHid (any_step H.out HY.out (by simp [hxy])), trivial⟩
        case measure => simp [intOf]; omega
    · have hk1 : ¬ (k : Int) < (l.length : Int) := by omega
      have HF := mkHid (any_none H.out (by omega))
      go_wp2
      go_ret
      exact ⟨by rw [HF.out]; rfl, rfl⟩
set_option maxRecDepth 100000 in
set_option maxHeartbeats 2000000 in
/-- SameInts, for two lists of any numbers. -/
theorem rsameI_any (v u : Value) (l d : List Int) (w : World) (hv : Ints w v l) (hu : Ints w u d) (hlen : l.length ≤ 1000000) (hd : d.length ≤ 1000000) :
    Calls Try.prog 49 #[v, u] w fun e w' => e = .returned (.bool (decide (l = d))) ∧ ∃ m, w' = w.drewN m := by
  obtain ⟨ao, cap, rfl, hc⟩ := hv.uni
  obtain ⟨ao2, cap2, rfl, hc2⟩ := hu.uni
  have HC := mkHid hc
  have HC2 := mkHid hc2
  clear hc hc2 hv hu
  by_cases hne : l.length = d.length
  · generalize hres : decide (l = d) = res
    have HRES := mkHid hres
    have HL := mkHid hne
    rw [← hne]
    clear hres
    clear hne
    go_enter Try.func49, Try.ntmps49
    go_wp2
    go_loopw [5] (fun iv wr => ∃ k : Nat, k ≤ l.length ∧ iv = .int .i64 (k : Int) ∧ Hid (l.take k = d.take k) ∧ ∃ m, wr = w.drewN m) (fun iv _ => l.length - (intOf iv).toNat)
    case atStart => exact ⟨0, Nat.zero_le _, rfl, mkHid (by simp), 0, rfl⟩
    case round =>
      obtain ⟨k, hk, rfl, H, m, rfl⟩ := hrel
      by_cases hlt : k < l.length
      · obtain ⟨x, hx⟩ : ∃ x, l[k]? = some x := ⟨l[k], List.getElem?_eq_getElem hlt⟩
        obtain ⟨y, hy⟩ : ∃ y, d[k]? = some y := ⟨d[k]'(by have := HL.out; omega), List.getElem?_eq_getElem _⟩
        obtain ⟨b, off, rfl, hcx⟩ := HC.out k x hx
        obtain ⟨b2, off2, rfl, hcy⟩ := HC2.out k y hy
        have g1 : (w.drewN m).cell? ⟨b, off + k, none⟩ = some (.int .i64 x) := hcx
        have g2 : (w.drewN m).cell? ⟨b2, off2 + k, none⟩ = some (.int .i64 y) := hcy
        have hk1 : (k : Int) < (l.length : Int) := by omega
        have hk0 : (0 : Int) ≤ (k : Int) := by omega
        by_cases hxy : x = y
        · have HT : Hid (l.take (k + 1) = d.take (k + 1)) := mkHid (by rw [List.take_add_one, List.take_add_one, hx, hy, H.out, hxy])
          clear hx hy g1 g2
          go_wp2
          go_quiet (fail)
          go_wp2
          go_roundw
          case rel => exact ⟨k + 1, by omega, by go_num, mkHid HT.out, _, rfl⟩
          case measure => simp [intOf]; omega
        · have HF : Hid (decide (l = d) = false) := mkHid (decide_eq_false (fun e => by
            subst e; rw [hx] at hy; exact hxy (Option.some.inj hy)))
          clear hx hy g1 g2
          go_wp2
          go_quiet (fail)
          go_wp2
          go_ret
          exact ⟨by rw [← HRES.out, HF.out]; rfl, _, World.drewN_drewN _ _ _⟩
      · have hk1 : ¬ (k : Int) < (l.length : Int) := by omega
        have HF : Hid (decide (l = d) = true) := mkHid (decide_eq_true (by
          have := H.out
          rwa [show k = l.length by omega, List.take_length, HL.out, List.take_length] at this))
        go_wp2
        go_ret
        exact ⟨by rw [← HRES.out, HF.out]; rfl, _, rfl⟩
  · rw [decide_eq_false (fun e => hne (by rw [e]))]
    have hn2 : ¬ (l.length : Int) = (d.length : Int) := by omega
    go_enter Try.func49, Try.ntmps49
    go_wp2
    go_ret
    exact ⟨rfl, 0, rfl⟩
set_option maxRecDepth 100000 in
set_option maxHeartbeats 2000000 in
theorem rvalid_any (l n : Int) (w : World) (hn : 0 ≤ n ∧ n ≤ 128) :
    Calls Try.prog 37 #[.int .i64 l, .int .i64 n] w fun e w' => e = .returned (.bool (validL l n)) ∧ w' = w := by
  have e1 : IntKind.i64.wrap (-n) = -n := IntWalk.i64_in _ (by omega)
  by_cases h0 : l = 0
  · have er : validL l n = false := by rw [Bool.eq_false_iff]; intro k; exact ((validL_iff hn.2).1 k).1 h0
    rw [er]
    subst h0
    clear er
    go_enter Try.func37, Try.ntmps37
    go_wp2
    go_ret
    exact ⟨rfl, rfl⟩
  · have h00 : (l != 0) = true := by simp [h0]
    by_cases h1 : -n ≤ l
    · by_cases h2 : l ≤ n
      · have er : validL l n = true := (validL_iff hn.2).2 ⟨h0, h1, h2⟩
        rw [er]
        clear er
        go_enter Try.func37, Try.ntmps37
        go_wp2
        go_ret
        exact ⟨rfl, rfl⟩
      · have er : validL l n = false := by rw [Bool.eq_false_iff]; intro k; exact h2 ((validL_iff hn.2).1 k).2.2
        rw [er]
        clear er
        go_enter Try.func37, Try.ntmps37
        go_wp2
        go_ret
        exact ⟨rfl, rfl⟩
    · have er : validL l n = false := by rw [Bool.eq_false_iff]; intro k; exact h1 ((validL_iff hn.2).1 k).2.1
      rw [er]
      clear er
      go_enter Try.func37, Try.ntmps37
      go_wp2
      go_ret
      exact ⟨rfl, rfl⟩
set_option maxRecDepth 100000 in
theorem rabs_any (l : Int) (w : World) (h : -128 ≤ l ∧ l ≤ 128) :
    Calls Try.prog 71 #[.int .i64 l] w fun e w' => e = .returned (.int .i64 (if l < 0 then -l else l)) ∧ w' = w := by
  have e1 : IntKind.i64.wrap (-l) = -l := IntWalk.i64_in _ (by omega)
  by_cases h0 : l < 0
  · rw [if_pos h0]
    go_enter Try.func71, Try.ntmps71
    go_wp2
    go_ret
    exact ⟨rfl, rfl⟩
  · rw [if_neg h0]
    go_enter Try.func71, Try.ntmps71
    go_wp2
    go_ret
    exact ⟨rfl, rfl⟩
set_option maxRecDepth 100000 in
set_option maxHeartbeats 2000000 in
theorem rhasv_any (s : BitVec 128) (v : Int) (w : World) :
    Calls Try.prog 72 #[sv s, .int .i64 v] w fun e w' => e = .returned (.bool (has s v)) ∧ Below w.heap.size w w' := by
  by_cases h1 : 1 ≤ v
  · by_cases h2 : v ≤ 128
    · have e1 : IntKind.i64.wrap (v - 1) = v - 1 := IntWalk.i64_in _ (by omega)
      have e0 : (0 : Int) ≤ v - 1 := by omega
      by_cases hl : v ≤ 64
      · have e2 : (v - 1) / 64 = 0 := by omega
        have e3 : (v - 1) % 64 = v - 1 := by omega
        have e5 : (0 : Int) ≤ v - 1 := by omega
        have e4 : IntKind.u64.wrap (v - 1) = v - 1 := by rw [IntKind.wrap_u64]; omega
        rw [shr_low s v (by omega) hl]
        unfold sv
        have hx0 := wd_lo (lo s)
        generalize wd (lo s) = X at *
        generalize wd (hi s) = Y at *
        have ht : (X / 2 ^ (v.toNat - 1)).tmod 2 = X / 2 ^ (v.toNat - 1) % 2 := Int.tmod_eq_emod_of_nonneg (Int.ediv_nonneg hx0 (Int.le_of_lt (Int.pow_pos (by omega))))
        go_enter Try.func72, Try.ntmps72
        go_wp2
        go_ret
        exact ⟨by rw [show (v - 1).toNat = v.toNat - 1 by omega]; rfl, bal (Below.refl _ _) _⟩
      · have e2 : (v - 1) / 64 = 1 := by omega
        have e3 : (v - 1) % 64 = v - 65 := by omega
        have e5 : (0 : Int) ≤ v - 65 := by omega
        have e4 : IntKind.u64.wrap (v - 65) = v - 65 := by rw [IntKind.wrap_u64]; omega
        rw [shr_high s v (by omega) (by omega)]
        unfold sv
        have hx0 := wd_lo (hi s)
        generalize wd (lo s) = X at *
        generalize wd (hi s) = Y at *
        have ht : (Y / 2 ^ (v - 65).toNat).tmod 2 = Y / 2 ^ (v - 65).toNat % 2 := Int.tmod_eq_emod_of_nonneg (Int.ediv_nonneg hx0 (Int.le_of_lt (Int.pow_pos (by omega))))
        go_enter Try.func72, Try.ntmps72
        go_wp2
        go_ret
        exact ⟨rfl, bal (Below.refl _ _) _⟩
    · rw [has_none s v (by omega)]
      unfold sv
      generalize wd (lo s) = X at *
      generalize wd (hi s) = Y at *
      go_enter Try.func72, Try.ntmps72
      go_wp2
      go_ret
      exact ⟨rfl, bal (Below.refl _ _) _⟩
  · rw [has_none s v (by omega)]
    unfold sv
    generalize wd (lo s) = X at *
    generalize wd (hi s) = Y at *
    go_enter Try.func72, Try.ntmps72
    go_wp2
    go_ret
    exact ⟨rfl, bal (Below.refl _ _) _⟩
set_option maxRecDepth 100000 in
set_option maxHeartbeats 2000000 in
theorem rholds_any (a : BitVec 128) (l : Int) (w : World) (hl : -128 ≤ l ∧ l ≤ 128 ∧ l ≠ 0) :
    Calls Try.prog 56 #[sv a, .int .i64 l] w fun e w' => e = .returned (.bool (holdsL a l)) ∧ Below w.heap.size w w' := by
  have e1 : IntKind.i64.wrap (-l) = -l := IntWalk.i64_in _ (by omega)
  by_cases h : l < 0
  · have CH := mkHid (fun W => rhasv_any a (-l) W)
    have er : holdsL a l = !has a (-l) := by
      unfold holdsL
      rw [varL_down (by omega), decide_eq_true (show 0 < -l by omega), decide_eq_false (show ¬ 0 < l by omega)]
      cases has a (-l) <;> rfl
    rw [er]
    clear er
    generalize has a (-l) = b at *
    unfold sv at *
    generalize wd (lo a) = al at *
    generalize wd (hi a) = ah at *
    go_enter Try.func56, Try.ntmps56
    go_wp2_with (go_at_call 72; refine (CH.out _).mono ?_; rintro e w3 ⟨rfl, hb⟩)
    go_ret
    exact ⟨rfl, bnx (bal (Below.refl _ _) _) hb⟩
  · have CH := mkHid (fun W => rhasv_any a l W)
    have er : holdsL a l = has a l := by
      unfold holdsL
      rw [varL_up (by omega), decide_eq_true (show 0 < l by omega)]
      cases has a l <;> rfl
    rw [er]
    clear er
    generalize has a l = b at *
    unfold sv at *
    generalize wd (lo a) = al at *
    generalize wd (hi a) = ah at *
    go_enter Try.func56, Try.ntmps56
    go_wp2_with (go_at_call 72; refine (CH.out _).mono ?_; rintro e w3 ⟨rfl, hb⟩)
    go_ret
    exact ⟨rfl, bnx (bal (Below.refl _ _) _) hb⟩
end Go.Proofs.Ytalpbpcanebbbaa
