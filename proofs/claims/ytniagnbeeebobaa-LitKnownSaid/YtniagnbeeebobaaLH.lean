/- Contracts of the specification: In, Holds, Any, All, Same. -/
import Derived.Test.YtniagnbeeebobaaLR
namespace Go.Proofs.Ytniagnbeeebobaa
open Go.RowKit VM LM

theorem shr_low (s : BitVec 128) (v : Int) (h1 : 1 ≤ v) (h2 : v ≤ 64) : has s v = decide (wd (lo s) / 2 ^ (v - 1).toNat % 2 = 1) := by
  have e : (v - 1).toNat < 64 := by omega
  rw [has_bit _ _ (by omega), show s.getLsbD (v - 1).toNat = (lo s).getLsbD (v - 1).toNat by rw [lo_bit]; simp only [e, decide_true, Bool.true_and]]
  show (lo s).toNat.testBit (v - 1).toNat = _
  rw [Nat.testBit_eq_decide_div_mod_eq, decide_eq_decide]
  unfold wd
  rw [show ((2 : Int) ^ (v - 1).toNat) = ((2 ^ (v - 1).toNat : Nat) : Int) by simp]
  omega
theorem shr_high (s : BitVec 128) (v : Int) (h1 : 65 ≤ v) (h2 : v ≤ 128) : has s v = decide (wd (hi s) / 2 ^ (v - 65).toNat % 2 = 1) := by
  have e : (v - 65).toNat < 64 := by omega
  have e2 : 64 + (v - 65).toNat = (v - 1).toNat := by omega
  rw [has_bit _ _ (by omega), show s.getLsbD (v - 1).toNat = (hi s).getLsbD (v - 65).toNat by rw [hi_bit, e2]; simp only [e, decide_true, Bool.true_and]]
  show (hi s).toNat.testBit (v - 65).toNat = _
  rw [Nat.testBit_eq_decide_div_mod_eq, decide_eq_decide]
  unfold wd
  rw [show ((2 : Int) ^ (v - 65).toNat) = ((2 ^ (v - 65).toNat : Nat) : Int) by simp]
  omega

set_option maxRecDepth 100000 in
set_option maxHeartbeats 2000000 in
theorem rin_any (s : BitVec 128) (v : Int) (w : World) (h1 : 1 ≤ v) (h2 : v ≤ 128) :
    Calls Try.prog 40 #[sv s, .int .i64 v] w fun e w' => e = .returned (.bool (has s v)) ∧ Below w.heap.size w w' := by
  have e1 : IntKind.i64.wrap (v - 1) = v - 1 := IntWalk.i64_in _ (by omega)
  have e0 : (0 : Int) ≤ v - 1 := by omega
  by_cases hl : v ≤ 64
  · have e2 : (v - 1) / 64 = 0 := by omega
    have e3 : (v - 1) % 64 = v - 1 := by omega
    have e5 : (0 : Int) ≤ v - 1 := by omega
    have e4 : IntKind.u64.wrap (v - 1) = v - 1 := by rw [IntKind.wrap_u64]; omega
    rw [shr_low s v (by omega) hl]
    unfold sv
    have hx0 := wd_lo (lo s)
    generalize wd (lo s) = X at *
    generalize wd (hi s) = Y at *
    have ht : (X / 2 ^ (v.toNat - 1)).tmod 2 = X / 2 ^ (v.toNat - 1) % 2 := Int.tmod_eq_emod_of_nonneg (Int.ediv_nonneg hx0 (Int.le_of_lt (Int.pow_pos (by omega))))
    go_enter Try.func40, Try.ntmps40
    go_wp2
    go_ret
    exact ⟨by rw [show (v - 1).toNat = v.toNat - 1 by omega]; rfl, bal (Below.refl _ _) _⟩
  · have e2 : (v - 1) / 64 = 1 := by omega
    have e3 : (v - 1) % 64 = v - 65 := by omega
    have e5 : (0 : Int) ≤ v - 65 := by omega
    have e4 : IntKind.u64.wrap (v - 65) = v - 65 := by rw [IntKind.wrap_u64]; omega
    rw [shr_high s v (by omega) (by omega)]
    unfold sv
    have hx0 := wd_lo (hi s)
    generalize wd (lo s) = X at *
    generalize wd (hi s) = Y at *
    have ht : (Y / 2 ^ (v - 65).toNat).tmod 2 = Y / 2 ^ (v - 65).toNat % 2 := Int.tmod_eq_emod_of_nonneg (Int.ediv_nonneg hx0 (Int.le_of_lt (Int.pow_pos (by omega))))
    go_enter Try.func40, Try.ntmps40
    go_wp2
    go_ret
    exact ⟨rfl, bal (Below.refl _ _) _⟩

set_option maxRecDepth 100000 in
set_option maxHeartbeats 1000000 in
theorem rholds_any (a : BitVec 128) (l : Int) (w : World) :
    Calls Try.prog 24 #[sv a, .int .i64 l] w fun e w' => e = .returned (.bool (holdsL a l)) ∧ Below w.heap.size w w' := by
  have C := mkHid (fun W => rvar_any l W)
  have CH := mkHid (fun W (h : 0 < varL l) => rin_any a (varL l) W (by omega) (varL_hi l))
  unfold holdsL
  generalize varL l = v at *
  generalize has a v = b at *
  unfold sv at *
  generalize wd (lo a) = al at *
  generalize wd (hi a) = ah at *
  by_cases h1 : 0 < v
  · have CH := mkHid (fun W => CH.out W h1)
    go_enter Try.func24, Try.ntmps24
    go_wp2_with (first | (go_at_call 13; refine (C.out _).mono ?_; rintro e w2 ⟨rfl, rfl⟩) | (go_at_call 40; refine (CH.out _).mono ?_; rintro e w3 ⟨rfl, hb⟩))
    go_ret
    exact ⟨by simp [h1], bnx (bal (Below.refl _ _) _) hb⟩
  · go_enter Try.func24, Try.ntmps24
    go_wp2_with (first | (go_at_call 13; refine (C.out _).mono ?_; rintro e w2 ⟨rfl, rfl⟩))
    go_ret
    exact ⟨by rw [decide_eq_false (by omega : ¬ 0 < v)]; rfl, bal (Below.refl _ _) _⟩

set_option maxRecDepth 100000 in
set_option maxHeartbeats 2000000 in
/-- Same, for two lists of any numbers. -/
theorem rsame_any (v u : Value) (l d : List Int) (w : World) (hv : Ints w v l) (hu : Ints w u d) (hlen : l.length ≤ 1000000) (hd : d.length ≤ 1000000) :
    Calls Try.prog 22 #[v, u] w fun e w' => e = .returned (.bool (decide (l = d))) ∧ Below w.heap.size w w' := by
  obtain ⟨ao, cap, rfl, hc⟩ := hv.uni
  obtain ⟨ao2, cap2, rfl, hc2⟩ := hu.uni
  have HC := mkHid hc
  have HC2 := mkHid hc2
  clear hc hc2 hv hu
  by_cases hne : l.length = d.length
  · generalize hres : decide (l = d) = res
    have HRES := mkHid hres
    have HL := mkHid hne
    rw [← hne]
    clear hres
    clear hne
    go_enter Try.func22, Try.ntmps22
    go_wp2
    go_loopw [5] (fun iv wr => ∃ k : Nat, k ≤ l.length ∧ iv = .int .i64 (k : Int) ∧ Hid (l.take k = d.take k ∧ Below w.heap.size w wr)) (fun iv _ => l.length - (intOf iv).toNat)
    case atStart => exact ⟨0, Nat.zero_le _, rfl, mkHid ⟨by simp, Below.refl _ _⟩⟩
    case round =>
      obtain ⟨k, hk, rfl, H⟩ := hrel
      by_cases hlt : k < l.length
      · obtain ⟨x, hx⟩ : ∃ x, l[k]? = some x := ⟨l[k], List.getElem?_eq_getElem hlt⟩
        obtain ⟨y, hy⟩ : ∃ y, d[k]? = some y := ⟨d[k]'(by have := HL.out; omega), List.getElem?_eq_getElem _⟩
        obtain ⟨b, off, rfl, hcx⟩ := HC.out k x hx
        obtain ⟨b2, off2, rfl, hcy⟩ := HC2.out k y hy
        have g1 := cell_grows H.out.2 hcx
        have g2 := cell_grows H.out.2 hcy
        have hk1 : (k : Int) < (l.length : Int) := by omega
        have hk0 : (0 : Int) ≤ (k : Int) := by omega
        by_cases hxy : x = y
        · have HT : Hid (l.take (k + 1) = d.take (k + 1)) := mkHid (by rw [List.take_add_one, List.take_add_one, hx, hy, H.out.1, hxy])
          clear hx hy hcx hcy
          go_wp2
          go_quiet (fail)
          go_wp2
          go_roundw
          case rel => exact ⟨k + 1, by omega, by go_num, mkHid ⟨HT.out, bdr H.out.2 _⟩⟩
          case measure => simp [intOf]; omega
        · have HF : Hid (decide (l = d) = false) := mkHid (decide_eq_false (fun e => by
            subst e; rw [hx] at hy; exact hxy (Option.some.inj hy)))
          clear hx hy hcx hcy
          go_wp2
          go_quiet (fail)
          go_wp2
          go_ret
          exact ⟨by rw [← HRES.out, HF.out]; rfl, bdr H.out.2 _⟩
      · have hk1 : ¬ (k : Int) < (l.length : Int) := by omega
        have HF : Hid (decide (l = d) = true) := mkHid (decide_eq_true (by
          have := H.out.1
          rwa [show k = l.length by omega, List.take_length, HL.out, List.take_length] at this))
        go_wp2
        go_ret
        exact ⟨by rw [← HRES.out, HF.out]; rfl, H.out.2⟩
  · rw [decide_eq_false (fun e => hne (by rw [e]))]
    have hn2 : ¬ (l.length : Int) = (d.length : Int) := by omega
    go_enter Try.func22, Try.ntmps22
    go_wp2
    go_ret
    exact ⟨rfl, Below.refl _ _⟩
end Go.Proofs.Ytniagnbeeebobaa
