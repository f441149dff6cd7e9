/- The contract of estimate. -/
import Derived.Test.YtjdkbbggelpchaaDoorCmp
import Derived.Test.YtjdkbbggelpchaaDoorDiv64
import Derived.Deep.RegionWith
import Derived.Deep.DeepCutAuto
import Derived.Deep.LoopGhost
namespace Go.Proofs.YtjdkbbggelpchaaDoor
open Go.RowKit

theorem qaddN {P : Program} {f : FuncId} {args : Array Value} {w : World} {a n : Nat} {v : Value} (h : ∀ W : World, Calls P f args W fun e w' => e = .returned v ∧ ∃ m, w' = W.drewN m) :
    Calls P f args (w.drewN (a + n)) fun e w'' => e = .returned v ∧ ∃ m, w'' = w.drewN (a + m) :=
  (h _).mono fun _ _ h => ⟨h.1, by obtain ⟨m, hm⟩ := h.2; exact ⟨n + m, by rw [hm, World.drewN_drewN, Nat.add_assoc]⟩⟩

theorem or_two (w : World) (z1 z2 : Int) : Calls Tryd.prog 43 #[.slice (some ⟨w.heap.size, 0, none⟩) 2 2] (w.drew.alloc (.cells #[.int .i64 z1, .int .i64 z2] 3)) fun e w' => e = .returned (.int .i64 (orI [z1, z2])) ∧ w' = w.drew.alloc (.cells #[.int .i64 z1, .int .i64 z2] 3) := by
  refine or_any w.heap.size [z1, z2] 2 _ (by simp) ?_
  intro j h
  have hb : (w.drew.alloc (.cells #[.int .i64 z1, .int .i64 z2] 3)).heap[w.heap.size]? = some (.cells #[.int .i64 z1, .int .i64 z2] 3 (0, 0)) := heap_alloc_new w.drew _
  simp only [World.cell?, hb]
  match j, h with
  | 0, _ => rfl
  | 1, _ => rfl

/-- A quotient of three words by two, from above. -/
structure Est (b d1 d0 u t q r : Nat) : Prop where
  e : q * d1 + r = u
  b : (u * b + t) / (d1 * b + d0) ≤ q

theorem est_key (q d1 d0 r u b : Nat) (e : q * d1 + r = u) : q * (d1 * b + d0) + r * b = u * b + q * d0 := by
  subst e
  rw [Nat.mul_add, Nat.add_mul, Nat.mul_assoc]; omega

theorem Est.next {b d1 d0 u t q r : Nat} (h : Est b d1 d0 u t q r) (hD : 0 < d1 * b + d0) (ht : r * b + t < q * d0) : Est b d1 d0 u t (q - 1) (r + d1) ∧ 1 ≤ q := by
  have hgt : (u * b + t) / (d1 * b + d0) < q := by
    rw [Nat.div_lt_iff_lt_mul hD]
    have := est_key q d1 d0 r u b h.e
    omega
  obtain ⟨p, rfl⟩ : ∃ p, q = p + 1 := ⟨q - 1, by have := Nat.zero_lt_of_lt hgt; omega⟩
  refine ⟨⟨?_, Nat.le_of_lt_succ hgt⟩, by omega⟩
  have := h.e
  rw [Nat.add_mul, Nat.one_mul] at this
  simp only [Nat.add_sub_cancel]; omega

theorem Est.done {b d1 d0 u t q r : Nat} (h : Est b d1 d0 u t q r) (hD : 0 < d1 * b + d0) (hle : q * d0 ≤ r * b + t) : (u * b + t) / (d1 * b + d0) = q := by
  refine Nat.le_antisymm h.b ?_
  rw [Nat.le_div_iff_mul_le hD]
  have := est_key q d1 d0 r u b h.e
  omega

theorem Est.atCarry {b d1 d0 u t q r : Nat} (h : Est b d1 d0 u t q r) (hD : 0 < d1 * b + d0) (hq : q ≤ b) (h0 : d0 ≤ b) (hr : b ≤ r) :
    (u * b + t) / (d1 * b + d0) = q := by
  refine h.done hD ?_
  have := Nat.mul_le_mul hq h0
  have h2 := Nat.mul_le_mul_right b hr
  omega

theorem Est.start {b d1 d0 u t : Nat} (hd : 0 < d1) (ht : t < b) : Est b d1 d0 u t (u / d1) (u % d1) := by
  refine ⟨Nat.div_add_mod' u d1, ?_⟩
  have hb : 0 < b := by omega
  have h1 : (u * b + t) / (d1 * b + d0) ≤ (u * b + t) / (d1 * b) := Nat.div_le_div_left (by omega) (Nat.mul_pos hd hb)
  have h2 : (u * b + t) / (d1 * b) = u / d1 := by
    rw [Nat.mul_comm d1, ← Nat.div_div_eq_div_mul, Nat.mul_comm u, Nat.mul_add_div hb, Nat.div_eq_of_lt ht, Nat.add_zero]
  omega

/-- The test: the two comparisons, one behind the other. -/
theorem or_cmp (m r t : Nat) (ht : t < 18446744073709551616) :
    (r * 18446744073709551616 + t < m → orI [Lib.compareInt ((m / 18446744073709551616 : Nat) : Int) (r : Int), Lib.compareInt ((m % 18446744073709551616 : Nat) : Int) (t : Int)] = 1) ∧
    (m ≤ r * 18446744073709551616 + t → orI [Lib.compareInt ((m / 18446744073709551616 : Nat) : Int) (r : Int), Lib.compareInt ((m % 18446744073709551616 : Nat) : Int) (t : Int)] ≠ 1) := by
  have e := Nat.div_add_mod m 18446744073709551616
  have hl := Nat.mod_lt m (show 0 < 18446744073709551616 by omega)
  generalize m / 18446744073709551616 = h at *
  generalize m % 18446744073709551616 = l at *
  unfold orI Lib.compareInt
  constructor
  · intro hlt
    by_cases h1 : (h : Int) < (r : Int)
    · omega
    · by_cases h2 : (h : Int) > (r : Int)
      · rw [if_neg h1, if_pos h2]; rfl
      · have h3 : ¬ (l : Int) < (t : Int) := by omega
        have h4 : (l : Int) > (t : Int) := by omega
        rw [if_neg h1, if_neg h2, if_neg h3, if_pos h4]; rfl
  · intro hle
    by_cases h1 : (h : Int) < (r : Int)
    · rw [if_pos h1]; simp
    · by_cases h2 : (h : Int) > (r : Int)
      · omega
      · by_cases h3 : (l : Int) < (t : Int)
        · rw [if_neg h1, if_neg h2, if_pos h3]; simp [orI]
        · have h4 : ¬ (l : Int) > (t : Int) := by omega
          rw [if_neg h1, if_neg h2, if_neg h3, if_neg h4]; simp [orI]

/-- What estimate returns. -/
def est (r0 r1 r2 d0 d1 : Nat) : Nat := if r2 = d1 then 18446744073709551615 else ((r2 * 18446744073709551616 + r1) * 18446744073709551616 + r0) / (d1 * 18446744073709551616 + d0)

set_option maxRecDepth 100000 in
set_option maxHeartbeats 2000000 in
theorem estimate_eq (br or' cr bd od cd r0 r1 r2 d0 : Nat) (w : World) (hr : Words w br or' [r0, r1, r2]) (hd : Words w bd od [d0, r2]) :
    Calls Tryd.prog 77 #[.slice (some ⟨br, or', none⟩) 3 cr, .slice (some ⟨bd, od, none⟩) 2 cd] w fun e w' => e = .returned (.int .u64 ((est r0 r1 r2 d0 r2 : Nat) : Int)) ∧ Below w.heap.size w w' := by
  have hfin : Hid (((est r0 r1 r2 d0 r2 : Nat) : Int) = 18446744073709551615) := mkHid (by unfold est; rw [if_pos rfl]; rfl)
  obtain ⟨h2, -⟩ := hr 2 (by simp)
  obtain ⟨h4, -⟩ := hd 1 (by simp)
  clear hr hd
  simp at h2 h4
  go_enter Tryd.func77, Tryd.ntmps77
  go_wp2
  go_step3
  go_wp2
  go_region
  go_wp2
  rw [Exit.noGoto_ret]
  go_ret
  exact ⟨by rw [hfin.out]; rfl, (Below.refl _ _).drew⟩

set_option maxRecDepth 100000 in
set_option maxHeartbeats 2000000 in
theorem estimate_ne (br or' cr bd od cd r0 r1 r2 d0 d1 : Nat) (w : World) (hr : Words w br or' [r0, r1, r2]) (hd : Words w bd od [d0, d1]) (hlt : r2 < d1) (b0 : r0 < M.B) (b1 : r1 < M.B) (b2 : d0 < M.B) (b3 : d1 < M.B) :
    Calls Tryd.prog 77 #[.slice (some ⟨br, or', none⟩) 3 cr, .slice (some ⟨bd, od, none⟩) 2 cd] w fun e w' => e = .returned (.int .u64 ((est r0 r1 r2 d0 d1 : Nat) : Int)) ∧ Below w.heap.size w w' := by
  rw [M.B_eq] at b0 b1 b2 b3
  have hfin : Hid (est r0 r1 r2 d0 d1 = ((r2 * 18446744073709551616 + r1) * 18446744073709551616 + r0) / (d1 * 18446744073709551616 + d0)) := mkHid (by unfold est; rw [if_neg (by omega)])
  have HR := Lib.hid hr
  have HD := Lib.hid hd
  obtain ⟨h2, -⟩ := hr 2 (by simp)
  obtain ⟨h1, -⟩ := hr 1 (by simp)
  obtain ⟨h4, -⟩ := hd 1 (by simp)
  clear hr hd
  simp at h2 h1 h4
  have hne : ((r2 : Int) == (d1 : Int)) = false := by simp; omega
  have CD := mkHid (fun W => div64_any r2 r1 d1 W hlt b3 b1)
  have hd0 : 0 < d1 := by omega
  have ST : Hid (Est 18446744073709551616 d1 d0 (r2 * 18446744073709551616 + r1) r0 ((r2 * 18446744073709551616 + r1) / d1) ((r2 * 18446744073709551616 + r1) % d1)) := mkHid (Est.start hd0 b0)
  have BQ : Hid ((r2 * 18446744073709551616 + r1) / d1 < 18446744073709551616) := mkHid (by
    rw [Nat.div_lt_iff_lt_mul hd0]
    have := Nat.mul_le_mul_right 18446744073709551616 (show r2 + 1 ≤ d1 by omega)
    rw [Nat.mul_comm 18446744073709551616]; omega)
  have BR : Hid ((r2 * 18446744073709551616 + r1) % d1 < 18446744073709551616) := mkHid (Nat.lt_trans (Nat.mod_lt _ hd0) b3)
  obtain ⟨u, hu⟩ : ∃ u, r2 * 18446744073709551616 + r1 = u := ⟨_, rfl⟩
  rw [hu] at CD ST BQ BR hfin
  clear hu
  obtain ⟨q0, hq0⟩ : ∃ q0, u / d1 = q0 := ⟨_, rfl⟩
  obtain ⟨t0, ht0⟩ : ∃ t0, u % d1 = t0 := ⟨_, rfl⟩
  rw [hq0] at CD ST BQ
  rw [ht0] at CD ST BR
  clear hq0 ht0
  have B0 := Lib.hid b0; have B2 := Lib.hid b2; have B3 := Lib.hid b3; clear b0 b1 b2 b3
  have HD0 := Lib.hid hd0; clear hd0 hlt
  go_enter Tryd.func77, Tryd.ntmps77
  go_wp2
  go_step3
  go_wp2
  go_region
  go_wp2_with fail
  go_quiet ((go_at_call 67; exact qaddN CD.out))
  go_wp2
  generalize hW1 : w.drew.drewN nq = W1
  have HB1 : Hid (Below w.heap.size w W1) := mkHid (by rw [← hW1]; exact ⟨rfl, rfl, rfl, Nat.le_refl _, fun _ _ => rfl⟩)
  clear hW1 h1 h2 h4
  go_step3
  go_wp2
  go_loopg [5, 6, 7] (q0 + 1) (fun k qv tv cv wr => ∃ q t c : Nat, qv = .int .u64 q ∧ tv = .int .u64 t ∧ cv = .int .u64 c ∧ Hid (q ≤ q0 ∧ k = q + 1 ∧ t < 18446744073709551616 ∧ (c = 0 → Est 18446744073709551616 d1 d0 u r0 q t) ∧ (c ≠ 0 → est r0 r1 r2 d0 d1 = q) ∧ Below w.heap.size w wr))
  case atStart => exact ⟨q0, t0, 0, rfl, rfl, rfl, Nat.le_refl _, rfl, BR.out, fun _ => ST.out, fun h => absurd rfl h, HB1.out⟩
  case round =>
    clear HB1
    obtain ⟨q, t, c, rfl, rfl, rfl, H⟩ := hrel
    by_cases hc : c = 0
    · subst hc
      obtain ⟨h0, -⟩ := (HR.out.grows H.out.2.2.2.2.2) 0 (by simp)
      obtain ⟨h5, -⟩ := (HD.out.grows H.out.2.2.2.2.2) 0 (by simp)
      obtain ⟨h6, -⟩ := (HD.out.grows H.out.2.2.2.2.2) 1 (by simp)
      simp at h0 h5 h6
      have BQ2 : Hid (q < 18446744073709551616) := mkHid (Nat.lt_of_le_of_lt H.out.1 BQ.out)
      have HE : Hid (Est 18446744073709551616 d1 d0 u r0 q t) := mkHid (H.out.2.2.2.1 rfl)
      have HM := mkHid (Tryd.bits_Mul64 q d0 BQ2.out B2.out)
      have hor := or_cmp (q * d0) t r0 B0.out
      have HOR := mkHid hor
      clear hor
      obtain ⟨m, hm⟩ : ∃ m, q * d0 = m := ⟨_, rfl⟩
      have HMM := mkHid hm
      rw [hm] at HM HOR
      clear hm
      obtain ⟨hh, ehh⟩ : ∃ hh, m / 18446744073709551616 = hh := ⟨_, rfl⟩
      obtain ⟨ll, ell⟩ : ∃ ll, m % 18446744073709551616 = ll := ⟨_, rfl⟩
      rw [ehh, ell] at HM HOR
      clear ehh ell
      obtain ⟨z1, hz1⟩ : ∃ z1, Lib.compareInt (hh : Int) (t : Int) = z1 := ⟨_, rfl⟩
      obtain ⟨z2, hz2⟩ : ∃ z2, Lib.compareInt (ll : Int) (r0 : Int) = z2 := ⟨_, rfl⟩
      have C1 : Hid (∀ W, Calls Tryd.prog 46 #[.int .u64 hh, .int .u64 t] W fun e w' => e = .returned (.int .i64 z1) ∧ w' = W) := mkHid (fun W => by rw [← hz1]; exact compare64_any hh t W)
      have C2 : Hid (∀ W, Calls Tryd.prog 46 #[.int .u64 ll, .int .u64 r0] W fun e w' => e = .returned (.int .i64 z2) ∧ w' = W) := mkHid (fun W => by rw [← hz2]; exact compare64_any ll r0 W)
      rw [hz1, hz2] at HOR
      clear hz1 hz2
      obtain ⟨o, ho⟩ : ∃ o, orI [z1, z2] = o := ⟨_, rfl⟩
      rw [ho] at HOR
      have HO := mkHid ho
      clear ho
      go_upto_region 7 with (go_at_call 49; refine (HM.out _).mono ?_; rintro e w' ⟨rfl, rfl⟩)
      go_cut [49] (fun cv wx => cv = .int .i64 o ∧ wx = (w'.alloc (.cells #[.int .i64 z1, .int .i64 z2] 3)).drew)
      case first =>
        go_region_with (first
          | (go_at_call_of 46 (Value.int .u64 (hh : Int)); refine (C1.out _).mono ?_; rintro e w2 ⟨rfl, rfl⟩)
          | (go_at_call_of 46 (Value.int .u64 (ll : Int)); refine (C2.out _).mono ?_; rintro e w2 ⟨rfl, rfl⟩)
          | (go_at_call 43; refine (or_two _ z1 z2).mono ?_; rintro e w2 ⟨rfl, rfl⟩))
        all_goals (go_wp2_with fail; go_meet; exact ⟨by rw [← HO.out], rfl⟩)
      case rest =>
        obtain ⟨rfl, hwc⟩ := hcut
        have HBC : Hid (Below w.heap.size w wc) := mkHid (by rw [hwc]; exact ((Below.refl _ _).alloc H.out.2.2.2.2.2.size _).drew |> H.out.2.2.2.2.2.trans)
        have hc6 : wc.cell? ⟨bd, od + 1, none⟩ = some (.int .u64 (d1 : Int)) := by
          have := ((HD.out.grows HBC.out) 1 (by simp)).1
          simpa using this
        clear hwc h0 h5 h6
        by_cases tst : t * 18446744073709551616 + r0 < m
        · have ho1 := HOR.out.1 tst
          obtain ⟨hn, hq1⟩ := HE.out.next (by have := HD0.out; omega) (by rw [HMM.out]; exact tst)
          have HN := mkHid hn
          subst ho1
          clear hn tst
          have hadd := add64_run_c0 t d1
          have hs := Nat.div_add_mod (t + d1) 18446744073709551616
          have hsl := Nat.mod_lt (t + d1) (show 0 < 18446744073709551616 by omega)
          obtain ⟨s1, es1⟩ : ∃ s1, (t + d1) % 18446744073709551616 = s1 := ⟨_, rfl⟩
          obtain ⟨c1, ec1⟩ : ∃ c1, (t + d1) / 18446744073709551616 = c1 := ⟨_, rfl⟩
          rw [es1, ec1] at hadd hs
          rw [es1] at hsl
          have HS := mkHid hs; have HSL := mkHid hsl
          have hq1' : (q : Int) - 1 = ((q - 1 : Nat) : Int) := by omega
          have HQ1 := mkHid hq1'
          have hqb : (q : Int) ≤ 18446744073709551615 := by have := BQ2.out; omega
          clear hs hsl es1 ec1 hq1'
          go_wp2
          go_roundg q
          case measure => have := H.out.2.1; omega
          case rel =>
            refine ⟨q - 1, s1, c1, by rw [← HQ1.out], rfl, rfl, mkHid ⟨by have := H.out.1; omega, by omega, HSL.out, fun h => ?_, fun h => ?_, HBC.out⟩⟩
            · have e : s1 = t + d1 := by have := HS.out; rw [h] at this; omega
              rw [e]; exact HN.out
            · rw [hfin.out]
              exact HN.out.atCarry (by have := HD0.out; omega) (by have := BQ2.out; omega) (by have := B2.out; omega) (by have := HS.out; omega)
        · have ho1 : (o == 1) = false := by have := HOR.out.2 (by omega); simpa using this
          have HQ := mkHid (HE.out.done (by have := HD0.out; omega) (by rw [HMM.out]; omega))
          clear tst
          go_wp2
          rw [Exit.noGoto_ret]
          go_ret
          exact ⟨by rw [hfin.out, HQ.out]; rfl, HBC.out⟩
    · have hcb : ((c : Int) == 0) = false := by simp; omega
      have HQ := mkHid (H.out.2.2.2.2.1 hc)
      go_wp2
      rw [Exit.noGoto_ret]
      go_ret
      exact ⟨by rw [HQ.out]; rfl, H.out.2.2.2.2.2⟩
end Go.Proofs.YtjdkbbggelpchaaDoor
