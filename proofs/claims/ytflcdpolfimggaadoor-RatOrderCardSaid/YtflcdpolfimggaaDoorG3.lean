/- Contracts, laid one behind the other: Est Words Base AddW Sum Sub. -/
import Derived.Test.YtflcdpolfimggaaDoorG1
import Derived.Test.YtflcdpolfimggaaDoorG2
import Derived.Deep.RegionWith
import Derived.Deep.DeepCutAuto
import Derived.Deep.LoopGhost
import Derived.Deep.RegionHeld3
import Derived.Deep.CutBlock
namespace Go.Proofs.YtflcdpolfimggaaDoor
open Go.RowKit

theorem qaddN {P : Program} {f : FuncId} {args : Array Value} {w : World} {a n : Nat} {v : Value} (h : ∀ W : World, Calls P f args W fun e w' => e = .returned v ∧ ∃ m, w' = W.drewN m) :
    Calls P f args (w.drewN (a + n)) fun e w'' => e = .returned v ∧ ∃ m, w'' = w.drewN (a + m) :=
  (h _).mono fun _ _ h => ⟨h.1, by obtain ⟨m, hm⟩ := h.2; exact ⟨n + m, by rw [hm, World.drewN_drewN, Nat.add_assoc]⟩⟩

theorem or_two (w : World) (z1 z2 : Int) : Calls Tryd.prog 73 #[.slice (some ⟨w.heap.size, 0, none⟩) 2 2] (w.drew.alloc (.cells #[.int .i64 z1, .int .i64 z2] 3)) fun e w' => e = .returned (.int .i64 (orI [z1, z2])) ∧ w' = w.drew.alloc (.cells #[.int .i64 z1, .int .i64 z2] 3) := by
  refine or_any w.heap.size [z1, z2] 2 _ (by simp) ?_
  intro j h
  have hb : (w.drew.alloc (.cells #[.int .i64 z1, .int .i64 z2] 3)).heap[w.heap.size]? = some (.cells #[.int .i64 z1, .int .i64 z2] 3 (0, 0)) := heap_alloc_new w.drew _
  simp only [World.cell?, hb]
  match j, h with
  | 0, _ => rfl
  | 1, _ => rfl

/-- A quotient of three words by two, from above. -/
structure Est (b d1 d0 u t q r : Nat) : Prop where
  e : q * d1 + r = u
  b : (u * b + t) / (d1 * b + d0) ≤ q

theorem est_key (q d1 d0 r u b : Nat) (e : q * d1 + r = u) : q * (d1 * b + d0) + r * b = u * b + q * d0 := by
  subst e
  rw [Nat.mul_add, Nat.add_mul, Nat.mul_assoc]; omega

theorem Est.next {b d1 d0 u t q r : Nat} (h : Est b d1 d0 u t q r) (hD : 0 < d1 * b + d0) (ht : r * b + t < q * d0) : Est b d1 d0 u t (q - 1) (r + d1) ∧ 1 ≤ q := by
  have hgt : (u * b + t) / (d1 * b + d0) < q := by
    rw [Nat.div_lt_iff_lt_mul hD]
    have := est_key q d1 d0 r u b h.e
    omega
  obtain ⟨p, rfl⟩ : ∃ p, q = p + 1 := ⟨q - 1, by have := Nat.zero_lt_of_lt hgt; omega⟩
  refine ⟨⟨?_, Nat.le_of_lt_succ hgt⟩, by omega⟩
  have := h.e
  rw [Nat.add_mul, Nat.one_mul] at this
  simp only [Nat.add_sub_cancel]; omega

theorem Est.done {b d1 d0 u t q r : Nat} (h : Est b d1 d0 u t q r) (hD : 0 < d1 * b + d0) (hle : q * d0 ≤ r * b + t) : (u * b + t) / (d1 * b + d0) = q := by
  refine Nat.le_antisymm h.b ?_
  rw [Nat.le_div_iff_mul_le hD]
  have := est_key q d1 d0 r u b h.e
  omega

theorem Est.atCarry {b d1 d0 u t q r : Nat} (h : Est b d1 d0 u t q r) (hD : 0 < d1 * b + d0) (hq : q ≤ b) (h0 : d0 ≤ b) (hr : b ≤ r) :
    (u * b + t) / (d1 * b + d0) = q := by
  refine h.done hD ?_
  have := Nat.mul_le_mul hq h0
  have h2 := Nat.mul_le_mul_right b hr
  omega

theorem Est.start {b d1 d0 u t : Nat} (hd : 0 < d1) (ht : t < b) : Est b d1 d0 u t (u / d1) (u % d1) := by
  refine ⟨Nat.div_add_mod' u d1, ?_⟩
  have hb : 0 < b := by omega
  have h1 : (u * b + t) / (d1 * b + d0) ≤ (u * b + t) / (d1 * b) := Nat.div_le_div_left (by omega) (Nat.mul_pos hd hb)
  have h2 : (u * b + t) / (d1 * b) = u / d1 := by
    rw [Nat.mul_comm d1, ← Nat.div_div_eq_div_mul, Nat.mul_comm u, Nat.mul_add_div hb, Nat.div_eq_of_lt ht, Nat.add_zero]
  omega

/-- The test: the two comparisons, one behind the other. -/
theorem or_cmp (m r t : Nat) (ht : t < 18446744073709551616) :
    (r * 18446744073709551616 + t < m → orI [Lib.compareInt ((m / 18446744073709551616 : Nat) : Int) (r : Int), Lib.compareInt ((m % 18446744073709551616 : Nat) : Int) (t : Int)] = 1) ∧
    (m ≤ r * 18446744073709551616 + t → orI [Lib.compareInt ((m / 18446744073709551616 : Nat) : Int) (r : Int), Lib.compareInt ((m % 18446744073709551616 : Nat) : Int) (t : Int)] ≠ 1) := by
  have e := Nat.div_add_mod m 18446744073709551616
  have hl := Nat.mod_lt m (show 0 < 18446744073709551616 by omega)
  generalize m / 18446744073709551616 = h at *
  generalize m % 18446744073709551616 = l at *
  unfold orI Lib.compareInt
  constructor
  · intro hlt
    by_cases h1 : (h : Int) < (r : Int)
    · omega
    · by_cases h2 : (h : Int) > (r : Int)
      · rw [if_neg h1, if_pos h2]; rfl
      · have h3 : ¬ (l : Int) < (t : Int) := by omega
        have h4 : (l : Int) > (t : Int) := by omega
        rw [if_neg h1, if_neg h2, if_neg h3, if_pos h4]; rfl
  · intro hle
    by_cases h1 : (h : Int) < (r : Int)
    · rw [if_pos h1]; simp
    · by_cases h2 : (h : Int) > (r : Int)
      · omega
      · by_cases h3 : (l : Int) < (t : Int)
        · rw [if_neg h1, if_neg h2, if_pos h3]; simp [orI]
        · have h4 : ¬ (l : Int) > (t : Int) := by omega
          rw [if_neg h1, if_neg h2, if_neg h3, if_neg h4]; simp [orI]

/-- What estimate returns. -/
def est (r0 r1 r2 d0 d1 : Nat) : Nat := if r2 = d1 then 18446744073709551615 else ((r2 * 18446744073709551616 + r1) * 18446744073709551616 + r0) / (d1 * 18446744073709551616 + d0)

set_option maxRecDepth 100000 in
set_option maxHeartbeats 2000000 in
theorem estimate_eq (br or' cr bd od cd r0 r1 r2 d0 : Nat) (w : World) (hr : Words w br or' [r0, r1, r2]) (hd : Words w bd od [d0, r2]) :
    Calls Tryd.prog 108 #[.slice (some ⟨br, or', none⟩) 3 cr, .slice (some ⟨bd, od, none⟩) 2 cd] w fun e w' => e = .returned (.int .u64 ((est r0 r1 r2 d0 r2 : Nat) : Int)) ∧ Below w.heap.size w w' := by
  have hfin : Hid (((est r0 r1 r2 d0 r2 : Nat) : Int) = 18446744073709551615) := mkHid (by unfold est; rw [if_pos rfl]; rfl)
  obtain ⟨h2, -⟩ := hr 2 (by simp)
  obtain ⟨h4, -⟩ := hd 1 (by simp)
  clear hr hd
  simp at h2 h4
  go_enter Tryd.func108, Tryd.ntmps108
  go_wp2
  go_step3
  go_wp2
  go_region
  go_wp2
  rw [Exit.noGoto_ret]
  go_ret
  exact ⟨by rw [hfin.out]; rfl, (Below.refl _ _).drew⟩

set_option maxRecDepth 100000 in
set_option maxHeartbeats 2000000 in
theorem estimate_ne (br or' cr bd od cd r0 r1 r2 d0 d1 : Nat) (w : World) (hr : Words w br or' [r0, r1, r2]) (hd : Words w bd od [d0, d1]) (hlt : r2 < d1) (b0 : r0 < M.B) (b1 : r1 < M.B) (b2 : d0 < M.B) (b3 : d1 < M.B) :
    Calls Tryd.prog 108 #[.slice (some ⟨br, or', none⟩) 3 cr, .slice (some ⟨bd, od, none⟩) 2 cd] w fun e w' => e = .returned (.int .u64 ((est r0 r1 r2 d0 d1 : Nat) : Int)) ∧ Below w.heap.size w w' := by
  rw [M.B_eq] at b0 b1 b2 b3
  have hfin : Hid (est r0 r1 r2 d0 d1 = ((r2 * 18446744073709551616 + r1) * 18446744073709551616 + r0) / (d1 * 18446744073709551616 + d0)) := mkHid (by unfold est; rw [if_neg (by omega)])
  have HR := Lib.hid hr
  have HD := Lib.hid hd
  obtain ⟨h2, -⟩ := hr 2 (by simp)
  obtain ⟨h1, -⟩ := hr 1 (by simp)
  obtain ⟨h4, -⟩ := hd 1 (by simp)
  clear hr hd
  simp at h2 h1 h4
  have hne : ((r2 : Int) == (d1 : Int)) = false := by simp; omega
  have CD := mkHid (fun W => div64_any r2 r1 d1 W hlt b3 b1)
  have hd0 : 0 < d1 := by omega
  have ST : Hid (Est 18446744073709551616 d1 d0 (r2 * 18446744073709551616 + r1) r0 ((r2 * 18446744073709551616 + r1) / d1) ((r2 * 18446744073709551616 + r1) % d1)) := mkHid (Est.start hd0 b0)
  have BQ : Hid ((r2 * 18446744073709551616 + r1) / d1 < 18446744073709551616) := mkHid (by
    rw [Nat.div_lt_iff_lt_mul hd0]
    have := Nat.mul_le_mul_right 18446744073709551616 (show r2 + 1 ≤ d1 by omega)
    rw [Nat.mul_comm 18446744073709551616]; omega)
  have BR : Hid ((r2 * 18446744073709551616 + r1) % d1 < 18446744073709551616) := mkHid (Nat.lt_trans (Nat.mod_lt _ hd0) b3)
  obtain ⟨u, hu⟩ : ∃ u, r2 * 18446744073709551616 + r1 = u := ⟨_, rfl⟩
  rw [hu] at CD ST BQ BR hfin
  clear hu
  obtain ⟨q0, hq0⟩ : ∃ q0, u / d1 = q0 := ⟨_, rfl⟩
  obtain ⟨t0, ht0⟩ : ∃ t0, u % d1 = t0 := ⟨_, rfl⟩
  rw [hq0] at CD ST BQ
  rw [ht0] at CD ST BR
  clear hq0 ht0
  have B0 := Lib.hid b0; have B2 := Lib.hid b2; have B3 := Lib.hid b3; clear b0 b1 b2 b3
  have HD0 := Lib.hid hd0; clear hd0 hlt
  go_enter Tryd.func108, Tryd.ntmps108
  go_wp2
  go_step3
  go_wp2
  go_region
  go_wp2_with fail
  go_quiet ((go_at_call 86; exact qaddN CD.out))
  go_wp2
  generalize hW1 : w.drew.drewN nq = W1
  have HB1 : Hid (Below w.heap.size w W1) := mkHid (by rw [← hW1]; exact ⟨rfl, rfl, rfl, Nat.le_refl _, fun _ _ => rfl⟩)
  clear hW1 h1 h2 h4
  go_step3
  go_wp2
  go_loopg [5, 6, 7] (q0 + 1) (fun k qv tv cv wr => ∃ q t c : Nat, qv = .int .u64 q ∧ tv = .int .u64 t ∧ cv = .int .u64 c ∧ Hid (q ≤ q0 ∧ k = q + 1 ∧ t < 18446744073709551616 ∧ (c = 0 → Est 18446744073709551616 d1 d0 u r0 q t) ∧ (c ≠ 0 → est r0 r1 r2 d0 d1 = q) ∧ Below w.heap.size w wr))
  case atStart => exact ⟨q0, t0, 0, rfl, rfl, rfl, Nat.le_refl _, rfl, BR.out, fun _ => ST.out, fun h => absurd rfl h, HB1.out⟩
  case round =>
    clear HB1
    obtain ⟨q, t, c, rfl, rfl, rfl, H⟩ := hrel
    by_cases hc : c = 0
    · subst hc
      obtain ⟨h0, -⟩ := (HR.out.grows H.out.2.2.2.2.2) 0 (by simp)
      obtain ⟨h5, -⟩ := (HD.out.grows H.out.2.2.2.2.2) 0 (by simp)
      obtain ⟨h6, -⟩ := (HD.out.grows H.out.2.2.2.2.2) 1 (by simp)
      simp at h0 h5 h6
      have BQ2 : Hid (q < 18446744073709551616) := mkHid (Nat.lt_of_le_of_lt H.out.1 BQ.out)
      have HE : Hid (Est 18446744073709551616 d1 d0 u r0 q t) := mkHid (H.out.2.2.2.1 rfl)
      have HM := mkHid (Tryd.bits_Mul64 q d0 BQ2.out B2.out)
      have hor := or_cmp (q * d0) t r0 B0.out
      have HOR := mkHid hor
      clear hor
      obtain ⟨m, hm⟩ : ∃ m, q * d0 = m := ⟨_, rfl⟩
      have HMM := mkHid hm
      rw [hm] at HM HOR
      clear hm
      obtain ⟨hh, ehh⟩ : ∃ hh, m / 18446744073709551616 = hh := ⟨_, rfl⟩
      obtain ⟨ll, ell⟩ : ∃ ll, m % 18446744073709551616 = ll := ⟨_, rfl⟩
      rw [ehh, ell] at HM HOR
      clear ehh ell
      obtain ⟨z1, hz1⟩ : ∃ z1, Lib.compareInt (hh : Int) (t : Int) = z1 := ⟨_, rfl⟩
      obtain ⟨z2, hz2⟩ : ∃ z2, Lib.compareInt (ll : Int) (r0 : Int) = z2 := ⟨_, rfl⟩
      have C1 : Hid (∀ W, Calls Tryd.prog 76 #[.int .u64 hh, .int .u64 t] W fun e w' => e = .returned (.int .i64 z1) ∧ w' = W) := mkHid (fun W => by rw [← hz1]; exact compare64_any hh t W)
      have C2 : Hid (∀ W, Calls Tryd.prog 76 #[.int .u64 ll, .int .u64 r0] W fun e w' => e = .returned (.int .i64 z2) ∧ w' = W) := mkHid (fun W => by rw [← hz2]; exact compare64_any ll r0 W)
      rw [hz1, hz2] at HOR
      clear hz1 hz2
      obtain ⟨o, ho⟩ : ∃ o, orI [z1, z2] = o := ⟨_, rfl⟩
      rw [ho] at HOR
      have HO := mkHid ho
      clear ho
      go_upto_region 7 with (go_at_call 70; refine (HM.out _).mono ?_; rintro e w' ⟨rfl, rfl⟩)
      go_cut [49] (fun cv wx => cv = .int .i64 o ∧ wx = (w'.alloc (.cells #[.int .i64 z1, .int .i64 z2] 3)).drew)
      case first =>
        go_region_with (first
          | (go_at_call_of 76 (Value.int .u64 (hh : Int)); refine (C1.out _).mono ?_; rintro e w2 ⟨rfl, rfl⟩)
          | (go_at_call_of 76 (Value.int .u64 (ll : Int)); refine (C2.out _).mono ?_; rintro e w2 ⟨rfl, rfl⟩)
          | (go_at_call 73; refine (or_two _ z1 z2).mono ?_; rintro e w2 ⟨rfl, rfl⟩))
        all_goals (go_wp2_with fail; go_meet; exact ⟨by rw [← HO.out], rfl⟩)
      case rest =>
        obtain ⟨rfl, hwc⟩ := hcut
        have HBC : Hid (Below w.heap.size w wc) := mkHid (by rw [hwc]; exact ((Below.refl _ _).alloc H.out.2.2.2.2.2.size _).drew |> H.out.2.2.2.2.2.trans)
        have hc6 : wc.cell? ⟨bd, od + 1, none⟩ = some (.int .u64 (d1 : Int)) := by
          have := ((HD.out.grows HBC.out) 1 (by simp)).1
          simpa using this
        clear hwc h0 h5 h6
        by_cases tst : t * 18446744073709551616 + r0 < m
        · have ho1 := HOR.out.1 tst
          obtain ⟨hn, hq1⟩ := HE.out.next (by have := HD0.out; omega) (by rw [HMM.out]; exact tst)
          have HN := mkHid hn
          subst ho1
          clear hn tst
          have hadd := add64_run_c0 t d1
          have hs := Nat.div_add_mod (t + d1) 18446744073709551616
          have hsl := Nat.mod_lt (t + d1) (show 0 < 18446744073709551616 by omega)
          obtain ⟨s1, es1⟩ : ∃ s1, (t + d1) % 18446744073709551616 = s1 := ⟨_, rfl⟩
          obtain ⟨c1, ec1⟩ : ∃ c1, (t + d1) / 18446744073709551616 = c1 := ⟨_, rfl⟩
          rw [es1, ec1] at hadd hs
          rw [es1] at hsl
          have HS := mkHid hs; have HSL := mkHid hsl
          have hq1' : (q : Int) - 1 = ((q - 1 : Nat) : Int) := by omega
          have HQ1 := mkHid hq1'
          have hqb : (q : Int) ≤ 18446744073709551615 := by have := BQ2.out; omega
          clear hs hsl es1 ec1 hq1'
          go_wp2
          go_roundg q
          case measure => have := H.out.2.1; omega
          case rel =>
            refine ⟨q - 1, s1, c1, by rw [← HQ1.out], rfl, rfl, mkHid ⟨by have := H.out.1; omega, by omega, HSL.out, fun h => ?_, fun h => ?_, HBC.out⟩⟩
            · have e : s1 = t + d1 := by have := HS.out; rw [h] at this; omega
              rw [e]; exact HN.out
            · rw [hfin.out]
              exact HN.out.atCarry (by have := HD0.out; omega) (by have := BQ2.out; omega) (by have := B2.out; omega) (by have := HS.out; omega)
        · have ho1 : (o == 1) = false := by have := HOR.out.2 (by omega); simpa using this
          have HQ := mkHid (HE.out.done (by have := HD0.out; omega) (by rw [HMM.out]; omega))
          clear tst
          go_wp2
          rw [Exit.noGoto_ret]
          go_ret
          exact ⟨by rw [hfin.out, HQ.out]; rfl, HBC.out⟩
    · have hcb : ((c : Int) == 0) = false := by simp; omega
      have HQ := mkHid (H.out.2.2.2.2.1 hc)
      go_wp2
      rw [Exit.noGoto_ret]
      go_ret
      exact ⟨by rw [HQ.out]; rfl, H.out.2.2.2.2.2⟩
end Go.Proofs.YtflcdpolfimggaaDoor
namespace Go.Proofs.YtflcdpolfimggaaDoor
open Go.RowKit

/-- The words of a number, one at least. -/
def full (n : Nat) : List Nat := (n % M.B) :: (M.dig n).tail
theorem full_val (n : Nat) : M.val (full n) = n := by
  unfold full
  by_cases h0 : n = 0
  · subst h0; rw [M.dig_zero]; rfl
  · rw [M.val_cons, M.dig_pos h0, List.tail_cons, M.val_dig]; exact Nat.mod_add_div n M.B
theorem full_ok (n : Nat) : M.Ok (full n) := M.Ok.cons (Nat.mod_lt _ M.B_pos) fun x hx => M.ok_dig n x (List.mem_of_mem_tail hx)
theorem full_length (n : Nat) : (full n).length = (M.dig n).length - 1 + 1 := by simp [full]

theorem hb_get (l : List Nat) : ∀ (i k : Nat) (hi : i < l.length) (_ : k < 8), (l.flatMap be8)[8 * i + k]? = (be8 l[i])[k]? := by
  induction l with
  | nil => intro i k hi _; simp at hi
  | cons x l ih =>
    intro i k hi hk
    rw [List.flatMap_cons]
    cases i with
    | zero => rw [Nat.mul_zero, Nat.zero_add, List.getElem?_append_left (by rw [be8_length]; exact hk)]; rfl
    | succ i =>
      rw [List.getElem?_append_right (by rw [be8_length]; omega), be8_length, show 8 * (i + 1) + k - 8 = 8 * i + k by omega, ih i k (by simpa using hi) hk]
      rfl
theorem hs_get (n j : Nat) (h : j < (hs n).size) (h2 : j < (hb n).length) : (hs n)[j]'h = (hb n)[j]'h2 := rfl
theorem hs_begins (n i : Nat) (h : i < (M.dig n).length - 1) (x : Nat) (hx : (M.dig n).tail.reverse[i]'(by simp; omega) = x) : Begins ((hs n).extract (8 * i) (hs n).size) x := by
  have hsz := hs_size n
  have hes : ((hs n).extract (8 * i) (hs n).size).size = (hs n).size - 8 * i := by rw [ByteArray.size_extract]; omega
  refine ⟨by rw [hes, hsz]; omega, fun k hk h2 => ?_⟩
  have hb1 : 8 * i + k < (hb n).length := by rw [hb, flat_length]; simp; omega
  have e1 : ((hs n).extract (8 * i) (hs n).size)[k]'h2 = (hb n)[8 * i + k]'hb1 := by
    rw [ByteArray.getElem_extract]
    exact hs_get n _ _ _
  rw [e1]
  have e2 := hb_get (M.dig n).tail.reverse i k (by simp; omega) hk
  have e4 := List.getElem?_eq_getElem (l := be8 x) (i := k) (by rw [be8_length]; exact hk)
  rw [hx, e4] at e2
  have e3 : (hb n)[8 * i + k]? = some ((be8 x)[k]'(by rw [be8_length]; exact hk)) := e2
  rw [List.getElem?_eq_getElem hb1] at e3
  rw [Option.some.inj e3]
  exact be8_toNat x k hk

set_option maxRecDepth 100000 in
set_option maxHeartbeats 4000000 in
theorem words_any (n : Nat) (w : World) (hlen : (M.dig n).length ≤ 100000) :
    Calls Tryd.prog 55 #[natV n] w fun e w' => ∃ b cap, e = .returned (.slice (some ⟨b, 0, none⟩) (M.dig n).length cap) ∧ Hid (w.heap.size ≤ b ∧ Row w' b cap (M.dig n) ∧ Below w.heap.size w w' ∧ cap ≤ 100001) := by
  obtain ⟨m, hm⟩ : ∃ m, (M.dig n).length - 1 = m := ⟨_, rfl⟩
  have hsz : (hs n).size = 8 * m := by rw [hs_size, hm]
  have hmb : m ≤ 100000 := by omega
  have HBG : Hid (∀ i (_ : i < m) (x : Nat) (_ : (full n)[m - i]? = some x), Begins ((hs n).extract (8 * i) (hs n).size) x) := mkHid fun i hi x hx => by
    refine hs_begins n i (by omega) x ?_
    rw [List.getElem_reverse]
    have : (full n)[m - i]? = (M.dig n).tail[m - i - 1]? := by
      unfold full
      rw [show m - i = (m - i - 1) + 1 by omega, List.getElem?_cons_succ]
      rfl
    rw [this] at hx
    have hlt : m - i - 1 < (M.dig n).tail.length := by simp; omega
    rw [List.getElem?_eq_getElem hlt] at hx
    have hidx : (M.dig n).tail.length - 1 - i = m - i - 1 := by simp; omega
    simp only [hidx]
    exact Option.some.inj hx
  have FV := mkHid (full_val n)
  have FO := mkHid (full_ok n)
  have FL : Hid ((full n).length = m + 1) := mkHid (by rw [full_length, hm])
  have F0 : Hid ((full n)[0]? = some (n % M.B)) := mkHid rfl
  obtain ⟨lo, hlo⟩ : ∃ lo, n % M.B = lo := ⟨_, rfl⟩
  obtain ⟨hi, hhi⟩ : ∃ hi, hs n = hi := ⟨_, rfl⟩
  obtain ⟨fl, hfl⟩ : ∃ fl, full n = fl := ⟨_, rfl⟩
  unfold natV
  rw [hlo, hhi]
  rw [hlo] at F0
  rw [hhi] at hsz HBG
  rw [hfl] at FV FO FL F0 HBG
  clear hlo hhi hfl
  have hq : (hi.size : Int) / 8 = (m : Int) := by omega
  have hszb : (hi.size : Int) ≤ 9223372036854775807 := by omega
  have HSZ := mkHid hsz
  clear hsz
  obtain ⟨i0, hi0, hz0, hz1, hz2⟩ := info_parts info64
  have hi' := Lib.hid hi0; have hz0' := Lib.hid hz0; have hz1' := Lib.hid hz1; have hz2' := Lib.hid hz2; clear hi0 hz0 hz1 hz2
  have HM := mkHid hm
  clear hm
  go_enter Tryd.func55, Tryd.ntmps55
  go_wp2_with (at_make; refine wpList_make_full _ rfl _ _ 76 rfl (w.heap.size + 1) 22 i0 (.int .u64 0) 1 Tryd.underlying76 hi'.out hz0'.out hz1'.out _ _ _ _ (m + 1) rfl rfl (by omega) (by omega) ?bytes ?maxl ?base ?_)
  case bytes => rw [hz2'.out]; omega
  case maxl => unfold maxLen; omega
  case base => simp
  intro w1 hown hgrow
  have HR : Hid (Row w1 (w.heap.size + 1) (m + 1) (List.replicate (m + 1) 0)) := mkHid (by
    have h := hown
    have hsz2 : (w.alloc (.cells #[.int .u64 (lo : Int), .string hi] 24)).heap.size = w.heap.size + 1 := by simp
    rw [← hsz2] at h ⊢
    exact Row.made h (by omega))
  have HB1 : Hid (Below w.heap.size w w1) := mkHid (((Below.refl _ w).alloc (Nat.le_refl _) (.cells #[.int .u64 (lo : Int), .string hi] 24)).grown hgrow (by simp) (fun k hk => by cases hk))
  have hblk : w1.heap[w.heap.size]? = some (.cells #[.int .u64 (lo : Int), .string hi] 24 (0, 0)) := by
    rw [hgrow.block w.heap.size (by simp) (by simp)]; exact heap_alloc_new w _
  have hl0 : w1.cell? ⟨w.heap.size, 0, none⟩ = some (.int .u64 (lo : Int)) := by simp only [World.cell?, hblk]; rfl
  have hl1 : w1.cell? ⟨w.heap.size, 1, none⟩ = some (.string hi) := by simp only [World.cell?, hblk]; rfl
  have HBLK := mkHid hblk
  clear hown hgrow hblk hi' hz0' hz1' hz2'
  have hrep : List.replicate (m + 1) 0 = 0 :: List.replicate m 0 := List.replicate_succ
  rw [hrep] at HR
  clear hrep
  obtain ⟨hc0, hf0⟩ := (Words.atMid (p := []) (n := 0) HR.out.words rfl)
  rw [Nat.zero_add] at hc0 hf0
  have HS0 : Hid (Row (w1.setCell ⟨w.heap.size + 1, 0, none⟩ (.int .u64 (lo : Int))) (w.heap.size + 1) (m + 1) (lo :: List.replicate m 0)) := mkHid (by
    have h := Words.setMid (p := []) (n := 0) HR.out.words rfl lo
    rw [Nat.zero_add] at h
    exact HR.out.after ((Wr.refl _ _ 0 (m + 1)).setCell (Nat.zero_le _) (Nat.succ_pos _) _) h (by simp))
  have HB2 : Hid (Below (w.heap.size + 1) w1 (w1.setCell ⟨w.heap.size + 1, 0, none⟩ (.int .u64 (lo : Int)))) := mkHid ((Below.refl (w.heap.size + 1) w1).setCell (p := ⟨w.heap.size + 1, 0, none⟩) (Nat.le_refl _) _)
  have H0 : Hid (∀ wr, Below (w.heap.size + 1) w1 wr → wr.cell? ⟨w.heap.size, 1, none⟩ = some (.string hi)) := mkHid fun wr h => by
    rw [h.cell (p := ⟨w.heap.size, 1, none⟩) (Nat.lt_succ_self _)]
    simp only [World.cell?, HBLK.out]; rfl
  have HFL : Hid (fl = lo :: fl.drop 1) := mkHid (by
    have h1 := F0.out
    cases fl with
    | nil => simp at h1
    | cons a t => simp at h1; rw [h1]; rfl)
  go_wp2
  clear hl0 hl1 hc0 hf0
  go_loopw [18] (fun iv wr => ∃ i : Nat, i ≤ m ∧ iv = .int .i64 i ∧ Hid (Row wr (w.heap.size + 1) (m + 1) (lo :: (List.replicate (m - i) 0 ++ fl.drop (m - i + 1))) ∧ Below (w.heap.size + 1) w1 wr))
    (fun iv _ => m - (intOf iv).toNat)
  case atStart => exact ⟨0, Nat.zero_le _, rfl, by rw [Nat.sub_zero, List.drop_of_length_le (by rw [FL.out]; exact Nat.le_refl _), List.append_nil]; exact HS0.out, HB2.out⟩
  case round =>
    clear HS0 HB2
    obtain ⟨i, hi2, rfl, H⟩ := hrel
    by_cases hlt : i < m
    · obtain ⟨k, hk⟩ : ∃ k, m - i = k + 1 := ⟨m - i - 1, by omega⟩
      have hkl : Hid (k + 1 < fl.length) := mkHid (by rw [FL.out]; omega)
      obtain ⟨x, ex⟩ : ∃ x, fl[k + 1]'(hkl.out) = x := ⟨_, rfl⟩
      have BX : Hid (x < M.B) := mkHid (by rw [← ex]; exact FO.out.get hkl.out)
      have HD : Hid (fl.drop (k + 1) = x :: fl.drop (k + 2)) := mkHid (by rw [← ex]; exact List.drop_eq_getElem_cons hkl.out)
      have CL : Hid (∀ W, Calls Tryd.prog 84 #[.string (hi.extract (i * 8) hi.size)] W fun e w' => e = .returned (.int .u64 (x : Int)) ∧ ∃ n, w' = W.drewN n) := mkHid fun W => by
        have h1 := HBG.out i hlt x (by rw [hk, List.getElem?_eq_getElem hkl.out, ex])
        rw [Nat.mul_comm] at h1
        exact loadWord_any _ x W h1 BX.out (by rw [ByteArray.size_extract]; omega)
      have HW : Hid (Words wr (w.heap.size + 1) 0 ((lo :: List.replicate k 0) ++ 0 :: fl.drop (k + 2))) := mkHid (by
        have h := H.out.1.words
        rw [hk, List.replicate_succ', List.append_assoc] at h
        exact h)
      obtain ⟨hc1, hf1⟩ := HW.out.atMid (n := m - i) (by rw [hk]; simp)
      rw [Nat.zero_add] at hc1 hf1
      have hl1 := H0.out _ H.out.2
      have HK := mkHid hk
      have hi8 : (i : Int) * 8 ≤ (hi.size : Int) := by rw [HSZ.out]; omega
      clear hk ex
      go_wp2_with (go_at_call 84; refine (CL.out _).mono ?_; rintro e w2 ⟨rfl, nn, rfl⟩)
      go_roundw
      case measure => simp [intOf]; omega
      case rel =>
        have h := HW.out.setMid (n := m - i) (by rw [HK.out]; simp) x
        rw [Nat.zero_add] at h
        have hk2 := HK.out
        have e1 : (lo :: List.replicate k 0) ++ x :: fl.drop (k + 2) = lo :: (List.replicate (m - (i + 1)) 0 ++ fl.drop (m - (i + 1) + 1)) := by
          rw [show m - (i + 1) = k by omega, HD.out]; rfl
        rw [e1] at h
        refine ⟨i + 1, hlt, by go_num, mkHid ⟨?_, ?_⟩⟩
        · exact H.out.1.after (((Wr.refl _ _ 0 (m + 1)).drewN nn).setCell (Nat.zero_le _) (by omega) _) (h : Words ((wr.setCell _ _).drewN nn) _ _ _) (by simp [FL.out])
        · exact (H.out.2.setCell (p := ⟨w.heap.size + 1, m - i, none⟩) (Nat.le_refl _) _ : Below (w.heap.size + 1) w1 (wr.setCell _ _)).trans ⟨rfl, rfl, rfl, Nat.le_refl _, fun _ _ => rfl⟩
    · have hie : i = m := by omega
      subst hie
      have HR2 : Hid (Row wr (w.heap.size + 1) (i + 1) fl) := mkHid (by
        have h := H.out.1
        rw [Nat.sub_self] at h
        rw [HFL.out]; exact h)
      have CT := mkHid (trim_any (w.heap.size + 1) 0 (i + 1) fl wr (by unfold maxLen; omega) (by rw [FL.out]; exact Nat.le_refl _) FO.out HR2.out.words)
      rw [FL.out, FV.out] at CT
      go_wp2_with (go_at_call 58; refine CT.out.mono ?_; rintro e w2 ⟨rfl, rfl⟩)
      go_ret
      refine ⟨w.heap.size + 1, i + 1, rfl, mkHid ⟨by omega, ?_, HB1.out.trans (H.out.2.mono (Nat.le_succ _)), by omega⟩⟩
      have hp : M.dig n = fl.take (M.dig n).length := by
        have := M.dig_prefix FO.out
        rwa [FV.out] at this
      rw [hp]
      exact HR2.out.take _
end Go.Proofs.YtflcdpolfimggaaDoor
namespace Go.Proofs.YtflcdpolfimggaaDoor
open Go.RowKit

set_option maxHeartbeats 400000 in
theorem bothSmall_yes (l1 l2 : Nat) (w : World) :
    Calls Tryd.prog 51 #[.agg #[.int .u64 (l1 : Int), .string ⟨#[]⟩], .agg #[.int .u64 (l2 : Int), .string ⟨#[]⟩]] w fun e w' => e = .returned (.bool true) ∧ Below w.heap.size w w' := by
  go_enter Tryd.func51, Tryd.ntmps51
  go_wp2
  go_ret
  exact ⟨rfl, ((Below.refl _ _).alloc (Nat.le_refl _) _).alloc (by simp) _⟩

set_option maxHeartbeats 400000 in
theorem bothSmall_no1 (l1 l2 : Nat) (h1 h2 : ByteArray) (w : World) (h' : h1.toList.isEmpty = false) :
    Calls Tryd.prog 51 #[.agg #[.int .u64 (l1 : Int), .string h1], .agg #[.int .u64 (l2 : Int), .string h2]] w fun e w' => e = .returned (.bool false) ∧ Below w.heap.size w w' := by
  go_enter Tryd.func51, Tryd.ntmps51
  go_wp2
  go_ret
  exact ⟨rfl, ((Below.refl _ _).alloc (Nat.le_refl _) _).alloc (by simp) _⟩

set_option maxHeartbeats 400000 in
theorem bothSmall_no2 (l1 l2 : Nat) (h2 : ByteArray) (w : World) (h' : h2.toList.isEmpty = false) :
    Calls Tryd.prog 51 #[.agg #[.int .u64 (l1 : Int), .string ⟨#[]⟩], .agg #[.int .u64 (l2 : Int), .string h2]] w fun e w' => e = .returned (.bool false) ∧ Below w.heap.size w w' := by
  go_enter Tryd.func51, Tryd.ntmps51
  go_wp2
  go_ret
  exact ⟨rfl, ((Below.refl _ _).alloc (Nat.le_refl _) _).alloc (by simp) _⟩

theorem hs_ne {n : Nat} (h : M.B ≤ n) : (hs n).toList.isEmpty = false := by
  rw [ByteArray.toList_eq]
  have := hs_pos h
  cases he : (hs n).data.toList with
  | nil =>
    have h2 : (hs n).size = (hs n).data.toList.length := Array.length_toList.symm
    rw [he, List.length_nil] at h2; omega
  | cons a t => rfl

theorem bothSmall_any (a b : Nat) (w : World) :
    Calls Tryd.prog 51 #[natV a, natV b] w fun e w' => e = .returned (.bool (decide (a < M.B ∧ b < M.B))) ∧ Below w.heap.size w w' := by
  unfold natV
  rcases Nat.lt_or_ge a M.B with ha | ha
  · rw [hs_small ha]
    rcases Nat.lt_or_ge b M.B with hb | hb
    · rw [hs_small hb, decide_eq_true (show a < M.B ∧ b < M.B from ⟨ha, hb⟩)]
      exact bothSmall_yes _ _ w
    · rw [decide_eq_false (show ¬ (a < M.B ∧ b < M.B) by omega)]
      exact bothSmall_no2 _ _ _ w (hs_ne hb)
  · rw [decide_eq_false (show ¬ (a < M.B ∧ b < M.B) by omega)]
    exact bothSmall_no1 _ _ _ _ w (hs_ne ha)

set_option maxRecDepth 100000 in
set_option maxHeartbeats 1000000 in
theorem cmp_same (l : Nat) (h : ByteArray) (w : World) :
    Calls Tryd.prog 48 #[.agg #[.int .u64 (l : Int), .string h], .agg #[.int .u64 (l : Int), .string h]] w fun e w' => e = .returned (.int .i64 0) ∧ Below w.heap.size w w' := by
  go_enter Tryd.func48, Tryd.ntmps48
  go_wp2
  go_ret
  exact ⟨rfl, ((Below.refl _ _).alloc (Nat.le_refl _) _).alloc (by simp) _⟩

theorem or_three (w : World) (o1 o2 : Obj) (z1 z2 z3 : Int) : Calls Tryd.prog 73 #[.slice (some ⟨w.heap.size + 1 + 1, 0, none⟩) 3 3] (((w.alloc o1).alloc o2).alloc (.cells #[.int .i64 z1, .int .i64 z2, .int .i64 z3] 3)).drew fun e w' => e = .returned (.int .i64 (orI [z1, z2, z3])) ∧ w' = (((w.alloc o1).alloc o2).alloc (.cells #[.int .i64 z1, .int .i64 z2, .int .i64 z3] 3)).drew := by
  refine or_any (w.heap.size + 1 + 1) [z1, z2, z3] 3 _ (by simp) ?_
  intro j h
  have hs : ((w.alloc o1).alloc o2).heap.size = w.heap.size + 1 + 1 := by simp
  have hb : (((w.alloc o1).alloc o2).alloc (.cells #[.int .i64 z1, .int .i64 z2, .int .i64 z3] 3)).heap[w.heap.size + 1 + 1]? = some (.cells #[.int .i64 z1, .int .i64 z2, .int .i64 z3] 3 (0, 0)) := by rw [← hs]; exact heap_alloc_new _ _
  have hb2 : (((w.alloc o1).alloc o2).alloc (.cells #[.int .i64 z1, .int .i64 z2, .int .i64 z3] 3)).drew.heap[w.heap.size + 1 + 1]? = some (.cells #[.int .i64 z1, .int .i64 z2, .int .i64 z3] 3 (0, 0)) := hb
  simp only [World.cell?, hb2]
  match j, h with
  | 0, _ => rfl
  | 1, _ => rfl
  | 2, _ => rfl

set_option maxRecDepth 100000 in
set_option maxHeartbeats 1000000 in
theorem cmp_diff1 (l1 l2 : Nat) (h1 h2 : ByteArray) (w : World) (hne : ¬ (l1 : Int) = (l2 : Int)) :
    Calls Tryd.prog 48 #[.agg #[.int .u64 (l1 : Int), .string h1], .agg #[.int .u64 (l2 : Int), .string h2]] w fun e w' => e = .returned (.int .i64 (orI [Lib.compareInt (h1.size : Int) (h2.size : Int), Lib.compareBytes h1.data.toList h2.data.toList, Lib.compareInt (l1 : Int) (l2 : Int)])) ∧ Below w.heap.size w w' := by
  obtain ⟨z1, hz1⟩ : ∃ z1, Lib.compareInt (h1.size : Int) (h2.size : Int) = z1 := ⟨_, rfl⟩
  obtain ⟨z2, hz2⟩ : ∃ z2, Lib.compareBytes h1.data.toList h2.data.toList = z2 := ⟨_, rfl⟩
  obtain ⟨z3, hz3⟩ : ∃ z3, Lib.compareInt (l1 : Int) (l2 : Int) = z3 := ⟨_, rfl⟩
  have C1 : Hid (∀ W, Calls Tryd.prog 74 #[.int .i64 h1.size, .int .i64 h2.size] W fun e w' => e = .returned (.int .i64 z1) ∧ w' = W) := mkHid fun W => by rw [← hz1]; exact Tryd.cmp_Compare_int _ _ W
  have C2 : Hid (∀ W, Calls Tryd.prog 75 #[.string h1, .string h2] W fun e w' => e = .returned (.int .i64 z2) ∧ w' = W) := mkHid fun W => by rw [← hz2]; exact Tryd.strings_Compare _ _ W
  have C3 : Hid (∀ W, Calls Tryd.prog 76 #[.int .u64 l1, .int .u64 l2] W fun e w' => e = .returned (.int .i64 z3) ∧ w' = W) := mkHid fun W => by rw [← hz3]; exact compare64_any _ _ W
  rw [hz1, hz2, hz3]
  clear hz1 hz2 hz3
  go_enter Tryd.func48, Tryd.ntmps48
  go_wp2
  go_region_held3 (fun w' => w'.cell? ⟨w.heap.size, 0, none⟩ = some (.int .u64 (l1 : Int)) ∧ w'.cell? ⟨w.heap.size, 1, none⟩ = some (.string h1) ∧ w'.cell? ⟨w.heap.size + 1, 0, none⟩ = some (.int .u64 (l2 : Int)) ∧ w'.cell? ⟨w.heap.size + 1, 1, none⟩ = some (.string h2)) (go_keep)
    (first
      | (go_at_call 74; refine (C1.out _).mono ?_; rintro e w2 ⟨rfl, rfl⟩)
      | (go_at_call 75; refine (C2.out _).mono ?_; rintro e w2 ⟨rfl, rfl⟩)
      | (go_at_call 76; refine (C3.out _).mono ?_; rintro e w2 ⟨rfl, rfl⟩)
      | (go_at_call 73; refine (or_three _ _ _ z1 z2 z3).mono ?_; rintro e w2 ⟨rfl, rfl⟩))
  go_wp2
  go_ret
  exact ⟨rfl, (((Below.refl _ _).alloc (Nat.le_refl _) _).alloc (by simp) _).alloc (by simp; omega) _ |>.drew⟩

set_option maxRecDepth 100000 in
set_option maxHeartbeats 1000000 in
theorem cmp_diff2 (l : Nat) (h1 h2 : ByteArray) (w : World) (hne : ¬ h1.toList = h2.toList) :
    Calls Tryd.prog 48 #[.agg #[.int .u64 (l : Int), .string h1], .agg #[.int .u64 (l : Int), .string h2]] w fun e w' => e = .returned (.int .i64 (orI [Lib.compareInt (h1.size : Int) (h2.size : Int), Lib.compareBytes h1.data.toList h2.data.toList, Lib.compareInt (l : Int) (l : Int)])) ∧ Below w.heap.size w w' := by
  obtain ⟨z1, hz1⟩ : ∃ z1, Lib.compareInt (h1.size : Int) (h2.size : Int) = z1 := ⟨_, rfl⟩
  obtain ⟨z2, hz2⟩ : ∃ z2, Lib.compareBytes h1.data.toList h2.data.toList = z2 := ⟨_, rfl⟩
  obtain ⟨z3, hz3⟩ : ∃ z3, Lib.compareInt (l : Int) (l : Int) = z3 := ⟨_, rfl⟩
  have C1 : Hid (∀ W, Calls Tryd.prog 74 #[.int .i64 h1.size, .int .i64 h2.size] W fun e w' => e = .returned (.int .i64 z1) ∧ w' = W) := mkHid fun W => by rw [← hz1]; exact Tryd.cmp_Compare_int _ _ W
  have C2 : Hid (∀ W, Calls Tryd.prog 75 #[.string h1, .string h2] W fun e w' => e = .returned (.int .i64 z2) ∧ w' = W) := mkHid fun W => by rw [← hz2]; exact Tryd.strings_Compare _ _ W
  have C3 : Hid (∀ W, Calls Tryd.prog 76 #[.int .u64 l, .int .u64 l] W fun e w' => e = .returned (.int .i64 z3) ∧ w' = W) := mkHid fun W => by rw [← hz3]; exact compare64_any _ _ W
  rw [hz1, hz2, hz3]
  clear hz1 hz2 hz3
  go_enter Tryd.func48, Tryd.ntmps48
  go_wp2
  go_region_held3 (fun w' => w'.cell? ⟨w.heap.size, 0, none⟩ = some (.int .u64 (l : Int)) ∧ w'.cell? ⟨w.heap.size, 1, none⟩ = some (.string h1) ∧ w'.cell? ⟨w.heap.size + 1, 0, none⟩ = some (.int .u64 (l : Int)) ∧ w'.cell? ⟨w.heap.size + 1, 1, none⟩ = some (.string h2)) (go_keep)
    (first
      | (go_at_call 74; refine (C1.out _).mono ?_; rintro e w2 ⟨rfl, rfl⟩)
      | (go_at_call 75; refine (C2.out _).mono ?_; rintro e w2 ⟨rfl, rfl⟩)
      | (go_at_call 76; refine (C3.out _).mono ?_; rintro e w2 ⟨rfl, rfl⟩)
      | (go_at_call 73; refine (or_three _ _ _ z1 z2 z3).mono ?_; rintro e w2 ⟨rfl, rfl⟩))
  go_wp2
  go_ret
  exact ⟨rfl, (((Below.refl _ _).alloc (Nat.le_refl _) _).alloc (by simp) _).alloc (by simp; omega) _ |>.drew⟩

theorem cmp_raw (a b : Nat) (w : World) :
    Calls Tryd.prog 48 #[natV a, natV b] w fun e w' => e = .returned (.int .i64 (orI [Lib.compareInt ((hs a).size : Int) ((hs b).size : Int), Lib.compareBytes (hb a) (hb b), Lib.compareInt ((a % M.B : Nat) : Int) ((b % M.B : Nat) : Int)])) ∧ Below w.heap.size w w' := by
  have e (n : Nat) : hb n = (hs n).data.toList := by simp [hs]
  rw [e a, e b]
  unfold natV
  by_cases hl : ((a % M.B : Nat) : Int) = ((b % M.B : Nat) : Int)
  · rw [← hl]
    by_cases hh : (hs a).toList = (hs b).toList
    · have hh2 : hs a = hs b := by
        rw [ByteArray.toList_eq, ByteArray.toList_eq] at hh
        exact ByteArray.ext (Array.toList_inj.1 hh)
      rw [hh2]
      refine (cmp_same _ _ w).mono ?_
      rintro e w' ⟨rfl, hb⟩
      refine ⟨?_, hb⟩
      have e1 : ∀ z : Int, Lib.compareInt z z = 0 := fun z => by simp [Lib.compareInt]
      have e2 : ∀ l : List UInt8, Lib.compareBytes l l = 0 := by
        intro l
        induction l with
        | nil => rfl
        | cons x l ih => simp [Lib.compareBytes, ih, UInt8.lt_irrefl]
      rw [e1, e1, e2]; rfl
    · exact cmp_diff2 _ _ _ w hh
  · exact cmp_diff1 _ _ _ _ w hl

/-- The number of which these are the bytes, the highest first. -/
def bval : List UInt8 → Nat
  | [] => 0
  | x :: l => x.toNat * 256 ^ l.length + bval l
theorem bval_lt (l : List UInt8) : bval l < 256 ^ l.length := by
  induction l with
  | nil => exact Nat.one_pos
  | cons x l ih =>
    have hx := x.toNat_lt
    have : (x.toNat + 1) * 256 ^ l.length ≤ 256 * 256 ^ l.length := Nat.mul_le_mul_right _ (by omega)
    rw [Nat.add_mul, Nat.one_mul] at this
    rw [List.length_cons, Nat.pow_succ, Nat.mul_comm (256 ^ l.length) 256]
    unfold bval
    omega
theorem ci_lt {x y : Nat} (h : x < y) : Lib.compareInt (x : Int) (y : Int) = -1 := by
  unfold Lib.compareInt; rw [if_pos (by omega)]
theorem ci_gt {x y : Nat} (h : y < x) : Lib.compareInt (x : Int) (y : Int) = 1 := by
  unfold Lib.compareInt; rw [if_neg (by omega), if_pos (by omega)]
theorem ci_eq (x : Int) : Lib.compareInt x x = 0 := by simp [Lib.compareInt]
theorem cmpb : ∀ (a b : List UInt8), a.length = b.length → Lib.compareBytes a b = Lib.compareInt (bval a : Int) (bval b : Int)
  | [], [], _ => (ci_eq _).symm
  | x :: a, y :: b, h => by
    have hl : a.length = b.length := by simpa using h
    have ha := bval_lt a
    have hb := bval_lt b
    unfold Lib.compareBytes bval
    rw [hl] at ha ⊢
    by_cases h1 : x < y
    · rw [if_pos h1]
      have h2 : x.toNat < y.toNat := UInt8.lt_iff_toNat_lt.1 h1
      have : (x.toNat + 1) * 256 ^ b.length ≤ y.toNat * 256 ^ b.length := Nat.mul_le_mul_right _ h2
      rw [Nat.add_mul, Nat.one_mul] at this
      rw [ci_lt (by omega)]
    · rw [if_neg h1]
      by_cases h2 : y < x
      · rw [if_pos h2]
        have h2 : y.toNat < x.toNat := UInt8.lt_iff_toNat_lt.1 h2
        have : (y.toNat + 1) * 256 ^ b.length ≤ x.toNat * 256 ^ b.length := Nat.mul_le_mul_right _ h2
        rw [Nat.add_mul, Nat.one_mul] at this
        rw [ci_gt (by omega)]
      · rw [if_neg h2, cmpb a b hl]
        have e : x.toNat = y.toNat := by
          have h1' := mt UInt8.lt_iff_toNat_lt.2 h1
          have h2' := mt UInt8.lt_iff_toNat_lt.2 h2
          omega
        rw [e]
        rcases Nat.lt_trichotomy (bval a) (bval b) with h | h | h
        · rw [ci_lt h, ci_lt (by omega)]
        · rw [h, ci_eq, ci_eq]
        · rw [ci_gt h, ci_gt (by omega)]
theorem bval_append (a b : List UInt8) : bval (a ++ b) = bval a * 256 ^ b.length + bval b := by
  induction a with
  | nil => simp [bval]
  | cons x a ih =>
    show x.toNat * 256 ^ (a ++ b).length + bval (a ++ b) = (x.toNat * 256 ^ a.length + bval a) * 256 ^ b.length + bval b
    rw [ih, List.length_append, Nat.pow_add, Nat.add_mul, Nat.mul_assoc, Nat.add_assoc]
theorem bval8 (c7 c6 c5 c4 c3 c2 c1 c0 : Nat) : c7 * 256 ^ (0 + 1 + 1 + 1 + 1 + 1 + 1 + 1) + (c6 * 256 ^ (0 + 1 + 1 + 1 + 1 + 1 + 1) + (c5 * 256 ^ (0 + 1 + 1 + 1 + 1 + 1) + (c4 * 256 ^ (0 + 1 + 1 + 1 + 1) + (c3 * 256 ^ (0 + 1 + 1 + 1) + (c2 * 256 ^ (0 + 1 + 1) + (c1 * 256 ^ (0 + 1) + (c0 * 256 ^ 0 + 0)))))))
    = c7 * 72057594037927936 + c6 * 281474976710656 + c5 * 1099511627776 + c4 * 4294967296 + c3 * 16777216 + c2 * 65536 + c1 * 256 + c0 := by
  simp only [Nat.reduceAdd, Nat.reducePow, Nat.zero_add, Nat.add_zero, Nat.mul_one, Nat.add_assoc]
theorem bval_be8 (x : Nat) (h : x < M.B) : bval (be8 x) = x := by
  have e (c : Nat) (hc : c < 256) : (UInt8.ofNat c).toNat = c := by simp [Nat.mod_eq_of_lt hc]
  have := by8_sum x (by rw [← M.B_eq]; exact h)
  simp only [be8, bval, List.length_cons, List.length_nil]
  rw [e _ (by8_lt x 7), e _ (by8_lt x 6), e _ (by8_lt x 5), e _ (by8_lt x 4), e _ (by8_lt x 3), e _ (by8_lt x 2), e _ (by8_lt x 1), e _ (by8_lt x 0)]
  exact (bval8 _ _ _ _ _ _ _ _).trans this
theorem B_256 : M.B = 256 ^ 8 := by rw [M.B_eq]
theorem bval_flat (l : List Nat) (h : M.Ok l) : bval (l.reverse.flatMap be8) = M.val l := by
  induction l with
  | nil => rfl
  | cons x l ih =>
    rw [List.reverse_cons, List.flatMap_append, bval_append, ih h.tail, M.val_cons]
    have : [x].flatMap be8 = be8 x := by simp
    rw [this, bval_be8 x h.head, be8_length, B_256, Nat.mul_comm, Nat.add_comm]
theorem dig_tail (n : Nat) : M.val (M.dig n).tail = n / M.B := by
  by_cases h0 : n = 0
  · subst h0; rw [M.dig_zero]; simp
  · rw [M.dig_pos h0, List.tail_cons, M.val_dig]
theorem bval_hb (n : Nat) : bval (hb n) = n / M.B := by
  unfold hb
  rw [bval_flat _ (fun x hx => M.ok_dig n x (List.mem_of_mem_tail hx)), dig_tail]
theorem hs_hb (n : Nat) : (hs n).size = (hb n).length := rfl
theorem hs_lt {a b : Nat} (h : (hs a).size < (hs b).size) : a < b := by
  rw [hs_size, hs_size] at h
  have h1 : a < M.B ^ (M.dig a).length := M.dig_length_le.1 (Nat.le_refl _)
  have h2 : ¬ b < M.B ^ (M.dig a).length := fun hc => by
    have := M.dig_length_le.2 hc; omega
  omega
theorem or3 (x y z : Int) : orI [x, y, z] = if x = 0 then (if y = 0 then z else y) else x := by
  simp only [orI]
  split <;> try rfl
  split <;> try rfl
  split <;> simp_all
theorem cmp_plain (a b : Nat) : orI [Lib.compareInt ((hs a).size : Int) ((hs b).size : Int), Lib.compareBytes (hb a) (hb b), Lib.compareInt ((a % M.B : Nat) : Int) ((b % M.B : Nat) : Int)] = Lib.compareInt (a : Int) (b : Int) := by
  rw [or3]
  rcases Nat.lt_trichotomy (hs a).size (hs b).size with h | h | h
  · rw [ci_lt h, ci_lt (hs_lt h)]; rfl
  · rw [h, ci_eq, if_pos rfl, cmpb _ _ (by rw [← hs_hb, ← hs_hb, h]), bval_hb, bval_hb]
    rcases Nat.lt_trichotomy (a / M.B) (b / M.B) with h | h | h
    · rw [ci_lt h, ci_lt (Nat.lt_of_div_lt_div h)]; rfl
    · have ha := Nat.div_add_mod a M.B
      have hb := Nat.div_add_mod b M.B
      rw [h] at ha ⊢
      rw [ci_eq, if_pos rfl]
      revert ha hb
      generalize M.B * (b / M.B) = k
      generalize a % M.B = x
      generalize b % M.B = y
      intro ha hb
      rcases Nat.lt_trichotomy x y with h | h | h
      · rw [ci_lt h, ci_lt (by omega)]
      · rw [h, ci_eq, show a = b by omega, ci_eq]
      · rw [ci_gt h, ci_gt (by omega)]
    · rw [ci_gt h, ci_gt (Nat.lt_of_div_lt_div h)]; rfl
  · rw [ci_gt h, ci_gt (hs_lt h)]; rfl

theorem cmp_any (a b : Nat) (w : World) :
    Calls Tryd.prog 48 #[natV a, natV b] w fun e w' => e = .returned (.int .i64 (Lib.compareInt (a : Int) (b : Int))) ∧ Below w.heap.size w w' := by
  rw [← cmp_plain]
  exact cmp_raw a b w

end Go.Proofs.YtflcdpolfimggaaDoor
namespace Go.Proofs.YtflcdpolfimggaaDoor
open Go.RowKit

/-- After i rounds: the words written, the carry. -/
def AddInv (xs ys : List Nat) (i c : Nat) (zs : List Nat) : Prop :=
  zs.length = i ∧ M.Ok zs ∧ c ≤ 1 ∧ M.val zs + M.B ^ i * c = M.val (xs.take i) + M.val (ys.take i)

theorem AddInv.start (xs ys : List Nat) : AddInv xs ys 0 0 [] := ⟨rfl, M.Ok.nil, by omega, by simp⟩

theorem add_arith (b p z c x y d c' X Y : Nat) (h : z + p * c = X + Y) (hs : x + y + c = d + b * c') : z + p * d + p * b * c' = X + p * x + (Y + p * y) := by
  have : p * (x + y + c) = p * (d + b * c') := by rw [hs]
  simp only [Nat.mul_add, ← Nat.mul_assoc] at this
  omega

theorem AddInv.step {xs ys : List Nat} {i c : Nat} {zs : List Nat} (h : AddInv xs ys i c zs) (x y : Nat) (hx : M.val (xs.take (i + 1)) = M.val (xs.take i) + M.B ^ i * x)
    (hy : M.val (ys.take (i + 1)) = M.val (ys.take i) + M.B ^ i * y) (bx : x < M.B) (by' : y < M.B) :
    AddInv xs ys (i + 1) ((x + y + c) / 18446744073709551616) (zs ++ [(x + y + c) % 18446744073709551616]) := by
  obtain ⟨h1, h2, h3, h4⟩ := h
  refine ⟨by simp [h1], h2.append (M.Ok.cons (Nat.mod_lt _ (by omega)) M.Ok.nil), ?_, ?_⟩
  · unfold M.B at bx by'; omega
  · rw [M.val_snoc, h1, hx, hy, Nat.pow_succ]
    refine add_arith _ _ _ c x y _ _ _ _ h4 ?_
    have := Nat.mod_add_div (x + y + c) 18446744073709551616
    rw [← M.B_eq] at this ⊢; omega

set_option maxRecDepth 100000 in
set_option maxHeartbeats 1000000 in
theorem addWords_any (bx ox cx by' oy cy : Nat) (xs ys : List Nat) (w : World) (hx : Words w bx ox xs) (hy : Words w by' oy ys) (hne : by' ≠ bx) (hle : ys.length ≤ xs.length)
    (hb : xs.length ≤ 1152921504606846976) (okx : M.Ok xs) (oky : M.Ok ys) :
    Calls Tryd.prog 69 #[.slice (some ⟨bx, ox, none⟩) xs.length cx, .slice (some ⟨by', oy, none⟩) ys.length cy] w fun e w' => e = .returned (.tuple #[]) ∧
      ∃ zs, Hid (zs.length = xs.length ∧ M.Ok zs ∧ M.val zs = (M.val xs + M.val ys) % M.B ^ xs.length ∧ Words w' bx ox zs ∧ Wr w w' bx ox (ox + xs.length)) := by
  have HX := Lib.hid hx; clear hx
  have HY := Lib.hid hy; clear hy
  have OX := Lib.hid okx; clear okx
  have OY := Lib.hid oky; clear oky
  have HNE := Lib.hid hne; clear hne
  go_enter Tryd.func69, Tryd.ntmps69
  go_wp2
  go_loopw [4, 9] (fun cv iv wr => ∃ i c : Nat, i ≤ ys.length ∧ iv = .int .i64 i ∧ cv = .int .u64 c ∧ ∃ zs, Hid (AddInv xs ys i c zs ∧ Words wr bx ox (zs ++ xs.drop i) ∧ Wr w wr bx ox (ox + xs.length)))
    (fun _ iv _ => ys.length - (intOf iv).toNat)
  case atStart => exact ⟨0, 0, by omega, rfl, rfl, [], AddInv.start _ _, by simpa using HX.out, Wr.refl _ _ _ _⟩
  case round =>
    obtain ⟨i, c, hi, rfl, rfl, zs, H⟩ := hrel
    by_cases hlt : i < ys.length
    · have hcx := (H.out.2.1).at H.out.1.1 (show i < xs.length by omega)
      have hcy := ((HY.out).keep H.out.2.2 HNE.out) i hlt
      obtain ⟨hcx, hfx⟩ := hcx
      obtain ⟨hcy, -⟩ := hcy
      obtain ⟨x, ex⟩ : ∃ x, xs[i] = x := ⟨_, rfl⟩
      obtain ⟨y, ey⟩ : ∃ y, ys[i] = y := ⟨_, rfl⟩
      rw [ex] at hcx; rw [ey] at hcy
      have EX := Lib.hid ex; have EY := Lib.hid ey; clear ex ey
      have hc1 : c ≤ 1 := H.out.1.2.2.1
      have hadd := add64_run x y c hc1
      have hix : i < xs.length := by omega
      go_wp2
      go_region
      go_wp2
      go_roundw
      case rel =>
        refine ⟨i + 1, (x + y + c) / 18446744073709551616, hlt, by go_num, rfl, zs ++ [(x + y + c) % 18446744073709551616], ?_⟩
        obtain ⟨h1, h2, h3⟩ := H.out
        have k1 := M.val_take_succ (l := xs) hix
        have k2 := M.val_take_succ (l := ys) hlt
        have b1 := OX.out.get hix
        have b2 := OY.out.get hlt
        rw [EX.out] at k1 b1; rw [EY.out] at k2 b2
        exact ⟨h1.step x y k1 k2 b1 b2, h2.snoc h1.1 hix _, (h3.setCell (by omega) (by omega) _).drew⟩
      case measure => simp [intOf]; omega
    · have hie : i = ys.length := by omega
      subst hie
      go_wp2
      obtain ⟨wo, rfl⟩ : ∃ wo : World, wo = wr := ⟨_, rfl⟩
      go_loopw [4, 6] (fun cv iv wr => ∃ i c : Nat, ys.length ≤ i ∧ i ≤ xs.length ∧ iv = .int .i64 i ∧ cv = .int .u64 c ∧ ∃ zs, Hid (AddInv xs ys i c zs ∧ Words wr bx ox (zs ++ xs.drop i) ∧ Wr w wr bx ox (ox + xs.length)))
        (fun _ iv _ => xs.length - (intOf iv).toNat)
      case atStart => exact ⟨ys.length, c, Nat.le_refl _, hle, rfl, rfl, zs, H⟩
      case round =>
        clear H
        obtain ⟨i, c, hi1, hi2, rfl, rfl, zs, H⟩ := hrel
        have hc1 : c ≤ 1 := H.out.1.2.2.1
        by_cases hc0 : c = 0
        · subst hc0
          go_wp2
          go_end0
          refine ⟨rfl, zs ++ xs.drop i, mkHid ?_⟩
          obtain ⟨⟨h1, h2, h3, h4⟩, h5, h6⟩ := H.out
          have hok := h2.append (OX.out.drop i)
          have hlen : (zs ++ xs.drop i).length = xs.length := by simp [h1]; omega
          have hv := M.val_lt hok
          rw [hlen] at hv
          have e1 := M.val_append zs (xs.drop i)
          have e2 := M.val_take_drop xs i hi2
          rw [List.take_of_length_le hi1] at h4
          have e3 : M.val (zs ++ xs.drop i) = M.val xs + M.val ys := by rw [e1, h1]; omega
          exact ⟨hlen, hok, by rw [← e3, Nat.mod_eq_of_lt hv], h5, h6⟩
        · have hc2 : 0 < c := by omega
          by_cases hlt : i < xs.length
          · obtain ⟨hcx, hfx⟩ := (H.out.2.1).at H.out.1.1 hlt
            obtain ⟨x, ex⟩ : ∃ x, xs[i] = x := ⟨_, rfl⟩
            rw [ex] at hcx
            have EX := Lib.hid ex; clear ex
            have hadd := add64_run_y0 x c hc1
            go_wp2
            go_roundw
            case rel =>
              refine ⟨i + 1, (x + 0 + c) / 18446744073709551616, by omega, hlt, by go_num, rfl, zs ++ [(x + 0 + c) % 18446744073709551616], ?_⟩
              obtain ⟨h1, h2, h3⟩ := H.out
              have k1 := M.val_take_succ (l := xs) hlt
              have b1 := OX.out.get hlt
              rw [EX.out] at k1 b1
              have k2 : M.val (ys.take (i + 1)) = M.val (ys.take i) + M.B ^ i * 0 := by rw [List.take_of_length_le (by omega), List.take_of_length_le (by omega)]; simp
              exact ⟨h1.step x 0 k1 k2 b1 M.B_pos, h2.snoc h1.1 hlt _, h3.setCell (by omega) (by omega) _⟩
            case measure => simp [intOf]; omega
          · have hie : i = xs.length := by omega
            subst hie
            go_wp2
            go_end0
            refine ⟨rfl, zs, mkHid ?_⟩
            obtain ⟨⟨h1, h2, h3, h4⟩, h5, h6⟩ := H.out
            rw [List.take_of_length_le (Nat.le_refl _), List.take_of_length_le hi1] at h4
            have hv := M.val_lt h2
            rw [h1] at hv
            simp only [List.drop_length, List.append_nil] at h5
            exact ⟨h1, h2, by rw [← h4, Nat.add_mul_mod_self_left, Nat.mod_eq_of_lt hv], h5, h6⟩
end Go.Proofs.YtflcdpolfimggaaDoor
namespace Go.Proofs.YtflcdpolfimggaaDoor
open Go.RowKit

/-- A number in a block of its own. -/
def At2 (w : World) (b l : Nat) (h : ByteArray) : Prop :=
  w.cell? ⟨b, 0, none⟩ = some (.int .u64 (l : Int)) ∧ w.cell? ⟨b, 1, none⟩ = some (.string h) ∧ w.frozen? ⟨b, 0, none⟩ = false ∧ w.frozen? ⟨b, 1, none⟩ = false
theorem At2.lt {w : World} {b l : Nat} {h : ByteArray} (H : At2 w b l h) : b < w.heap.size := World.block_lt_of_cell? w _ H.1
theorem At2.below {w w' : World} {b l B : Nat} {h : ByteArray} (H : At2 w b l h) (hb : Below B w w') (hB : b < B) : At2 w' b l h :=
  ⟨(hb.cell (p := ⟨b, 0, none⟩) hB).trans H.1, (hb.cell (p := ⟨b, 1, none⟩) hB).trans H.2.1, (hb.frozen (p := ⟨b, 0, none⟩) hB).trans H.2.2.1, (hb.frozen (p := ⟨b, 1, none⟩) hB).trans H.2.2.2⟩
theorem At2.grows {w w' : World} {b l : Nat} {h : ByteArray} (H : At2 w b l h) (hb : Below w.heap.size w w') : At2 w' b l h := H.below hb H.lt
theorem At2.new (w : World) (n l : Nat) (h : ByteArray) (hn : n = w.heap.size) : At2 (w.alloc (.cells #[.int .u64 (l : Int), .string h] 24)) n l h := by
  subst hn
  have hb : (w.alloc (.cells #[.int .u64 (l : Int), .string h] 24)).heap[w.heap.size]? = some (.cells #[.int .u64 (l : Int), .string h] 24 (0, 0)) := heap_alloc_new w _
  refine ⟨?_, ?_, ?_, ?_⟩
  · simp only [World.cell?, hb]; rfl
  · simp only [World.cell?, hb]; rfl
  · simp only [World.frozen?, hb]; rfl
  · simp only [World.frozen?, hb]; rfl
theorem At2.alloc {w : World} {b l : Nat} {h : ByteArray} (H : At2 w b l h) (o : Obj) : At2 (w.alloc o) b l h := H.grows ((Below.refl _ _).alloc (Nat.le_refl _) o)
theorem At2.set {w : World} {b l : Nat} {h : ByteArray} (H : At2 w b l h) (l' : Nat) (h' : ByteArray) : At2 ((w.setCell ⟨b, 0, none⟩ (.int .u64 (l' : Int))).setCell ⟨b, 1, none⟩ (.string h')) b l' h' := by
  obtain ⟨h0, h1, f0, f1⟩ := H
  have hc : ∃ c e fr, w.heap[b]? = some (.cells c e fr) := by
    unfold World.cell? at h0
    split at h0
    · rename_i c e fr hb; exact ⟨c, e, fr, hb⟩
    · simp at h0
  obtain ⟨c, e, fr, hb⟩ := hc
  have hb' : ((w.setCell ⟨b, 0, none⟩ (.int .u64 (l' : Int))).setCell ⟨b, 1, none⟩ (.string h')).heap[b]? = some (.cells ((c.setIfInBounds 0 (.int .u64 (l' : Int))).setIfInBounds 1 (.string h')) e fr) := by
    simp [World.setCell, Array.getElem?_modify, hb]
  simp only [At2, World.cell?, World.frozen?, hb, hb', Option.isSome_none, Bool.false_eq_true, if_false] at h0 h1 f0 f1 ⊢
  have l0 := (Array.getElem?_eq_some_iff.1 h0).1
  have l1 := (Array.getElem?_eq_some_iff.1 h1).1
  refine ⟨?_, ?_, f0, f1⟩
  · rw [Array.getElem?_setIfInBounds, if_neg (by omega), Array.getElem?_setIfInBounds, if_pos rfl, if_pos l0]
  · rw [Array.getElem?_setIfInBounds, if_pos rfl, if_pos (by simpa using l1)]
theorem At2.setOff {w : World} {b b' l : Nat} {h : ByteArray} (H : At2 w b l h) (hne : b ≠ b') (x y : Value) : At2 ((w.setCell ⟨b', 0, none⟩ x).setCell ⟨b', 1, none⟩ y) b l h := by
  have e : ((w.setCell ⟨b', 0, none⟩ x).setCell ⟨b', 1, none⟩ y).heap[b]? = w.heap[b]? := (Below.heap_setCell _ _ _ _ hne).trans (Below.heap_setCell _ _ _ _ hne)
  exact ⟨(World.cell?_of_block (a := ⟨b, 0, none⟩) e).trans H.1, (World.cell?_of_block (a := ⟨b, 1, none⟩) e).trans H.2.1, (World.frozen?_of_block (a := ⟨b, 0, none⟩) e).trans H.2.2.1, (World.frozen?_of_block (a := ⟨b, 1, none⟩) e).trans H.2.2.2⟩
/-- W is w but for draws. -/
def Drawn (w W : World) : Prop := W.heap = w.heap ∧ W.os = w.os ∧ W.tape = w.tape ∧ W.output = w.output
theorem At2.past {w W w' : World} {b l : Nat} {h : ByteArray} (H : At2 w b l h) (hb : Below W.heap.size W w') (hW : Drawn w W) : At2 w' b l h := by
  have e : W.heap[b]? = w.heap[b]? := by rw [hW.1]
  have H' : At2 W b l h := ⟨(World.cell?_of_block (a := ⟨b, 0, none⟩) e).trans H.1, (World.cell?_of_block (a := ⟨b, 1, none⟩) e).trans H.2.1, (World.frozen?_of_block (a := ⟨b, 0, none⟩) e).trans H.2.2.1, (World.frozen?_of_block (a := ⟨b, 1, none⟩) e).trans H.2.2.2⟩
  exact H'.grows hb
theorem below_past {w w1 W w' : World} {B : Nat} (H : Below B w w1) (hb : Below W.heap.size W w') (hW : Drawn w1 W) (hB : B ≤ w1.heap.size) : Below B w w' := by
  obtain ⟨e, e1, e2, e3⟩ := hW
  refine H.trans ⟨hb.os.trans e1, hb.tape.trans e2, hb.output.trans e3, by rw [← e]; exact hb.size, fun k hk => ?_⟩
  rw [hb.block k (by rw [e]; omega), e]
theorem row_past {w W w' : World} {b cap : Nat} {l : List Nat} (H : Row w b cap l) (hb : Below W.heap.size W w') (hW : Drawn w W) : Row w' b cap l :=
  H.ofBlock (by have := H.lt; rw [hb.block b (by rw [hW.1]; exact this), hW.1])
theorem size_past {w W : World} (hW : Drawn w W) : W.heap.size = w.heap.size := by rw [hW.1]
/-- Two calls of words, one behind the other. -/
theorem two_words {w wc W w3 V w4 : World} {B bx cx by' cy p : Nat} {l m : List Nat} {h : ByteArray} (HC : At2 wc p 0 h ∧ Below w.heap.size w wc ∧ B ≤ wc.heap.size)
    (H3 : W.heap.size ≤ bx ∧ Row w3 bx cx l ∧ Below W.heap.size W w3 ∧ cx ≤ 100001) (hW : Drawn wc W) (H4 : V.heap.size ≤ by' ∧ Row w4 by' cy m ∧ Below V.heap.size V w4 ∧ cy ≤ 100001) (hV : Drawn w3 V) :
    At2 w4 p 0 h ∧ Below w.heap.size w w4 ∧ B ≤ w4.heap.size ∧ B ≤ bx ∧ bx < by' ∧ Row w4 bx cx l ∧ Row w4 by' cy m := by
  have e1 := size_past hW
  have e2 := size_past hV
  have e3 := H3.2.2.1.size
  have e4 := H4.2.2.1.size
  have e5 := H3.2.1.lt
  have e6 := HC.2.1.size
  exact ⟨(HC.1.past H3.2.2.1 hW).past H4.2.2.1 hV, below_past (below_past HC.2.1 H3.2.2.1 hW e6) H4.2.2.1 hV (by omega), by omega, by omega, by omega, row_past H3.2.1 H4.2.2.1 hV, H4.2.1⟩
/-- Three numbers are boxed: two that came in, and a result. -/
def World.box3 (w : World) (la lb : Nat) (ha hb : ByteArray) : World :=
  ((w.alloc (.cells #[.int .u64 (la : Int), .string ha] 24)).alloc (.cells #[.int .u64 (lb : Int), .string hb] 24)).alloc (.cells #[.int .u64 0, .string ⟨#[]⟩] 24)
theorem box3_a (w : World) (la lb : Nat) (ha hb : ByteArray) : At2 (World.box3 w la lb ha hb) w.heap.size la ha := ((At2.new w _ la ha rfl).alloc _).alloc _
theorem box3_b (w : World) (la lb : Nat) (ha hb : ByteArray) : At2 (World.box3 w la lb ha hb) (w.heap.size + 1) lb hb := (At2.new _ _ lb hb (by simp)).alloc _
theorem box3_c (w : World) (la lb : Nat) (ha hb : ByteArray) : At2 (World.box3 w la lb ha hb) (w.heap.size + 1 + 1) 0 ⟨#[]⟩ := At2.new _ _ 0 _ (by simp)
theorem box3_below (w : World) (la lb : Nat) (ha hb : ByteArray) : Below w.heap.size w (World.box3 w la lb ha hb) :=
  (((Below.refl _ _).alloc (Nat.le_refl _) _).alloc (by simp) _).alloc (by simp; omega) _
theorem box3_size (w : World) (la lb : Nat) (ha hb : ByteArray) : (World.box3 w la lb ha hb).heap.size = w.heap.size + 1 + 1 + 1 := by simp [World.box3]
theorem setCells_below {w W : World} (h : Below w.heap.size w W) (b : Nat) (hb : w.heap.size ≤ b) (x y : Value) : Below w.heap.size w ((W.setCell ⟨b, 0, none⟩ x).setCell ⟨b, 1, none⟩ y) :=
  (h.setCell (p := ⟨b, 0, none⟩) hb _).setCell (p := ⟨b, 1, none⟩) hb _
theorem At2.drew {w : World} {b l : Nat} {h : ByteArray} (H : At2 w b l h) : At2 w.drew b l h := H

set_option maxRecDepth 100000 in
set_option maxHeartbeats 1000000 in
theorem add_small (a b : Nat) (w : World) (h : a + b < M.B) :
    Calls Tryd.prog 42 #[natV a, natV b] w fun e w' => e = .returned (natV (a + b)) ∧ Below w.heap.size w w' := by
  have ha : a < M.B := by omega
  have hb : b < M.B := by omega
  have CB := mkHid (fun W => bothSmall_any a b W)
  have CO := mkHid (fun W => of_any (a + b) W h)
  rw [decide_eq_true (show a < M.B ∧ b < M.B from ⟨ha, hb⟩)] at CB
  have CA := mkHid (fun W => add64_run_c0 a b W)
  rw [Nat.mod_eq_of_lt (show a + b < 18446744073709551616 from h), Nat.div_eq_of_lt (show a + b < 18446744073709551616 from h)] at CA
  unfold natV at CB CO ⊢
  rw [Nat.mod_eq_of_lt ha, Nat.mod_eq_of_lt hb] at CB ⊢
  clear h ha hb
  generalize hs a = h1 at *
  generalize hs b = h2 at *
  generalize hs (a + b) = h3 at *
  generalize (a + b) % M.B = l3 at *
  generalize a + b = s at *
  have hCA := CA.out
  go_enter Tryd.func42, Tryd.ntmps42
  go_wp2_with (first
    | (go_at_call 51; refine (CB.out _).mono ?_; rintro e w1 ⟨rfl, hb⟩; have HB1 : Hid (Below (w.heap.size + 1 + 1 + 1) (World.box3 w a b h1 h2) w1) := mkHid (hb.mono (by simp)); obtain ⟨hc1, hf1⟩ := old_cells hb; clear hb)
    | (go_at_call 37; refine (CO.out _).mono ?_; rintro e w2 ⟨rfl, hb⟩; have HB2 : Hid (Below (w.heap.size + 1 + 1 + 1) (World.box3 w a b h1 h2) w2) := mkHid (HB1.out.trans (hb.mono (by have := HB1.out.size; rw [box3_size] at this; exact this))); clear hb hc1 hf1; obtain ⟨h10, h11, hf10, hf11⟩ := (box3_c w a b h1 h2).below HB2.out (by omega)))
  refine bodyPost_ret (v := .agg #[.int .u64 (l3 : Int), .string h3]) (by simp [results, Tryd.results42, go_sem, h10, h11]) rfl ⟨rfl, ?_⟩
  exact setCells_below ((box3_below w a b h1 h2).trans (HB2.out.mono (by omega))) _ (by omega) _ _

set_option maxRecDepth 100000 in
set_option maxHeartbeats 2000000 in
theorem add_main (a b : Nat) (w : World) (hnot : ¬ a + b < M.B) (la : (M.dig a).length ≤ 90000) (lb : (M.dig b).length ≤ 90000) :
    Calls Tryd.prog 42 #[natV a, natV b] w fun e w' => e = .returned (natV (a + b)) ∧ Below w.heap.size w w' := by
  have CB := mkHid (fun W => bothSmall_any a b W)
  have CC := mkHid (fun W => cmp_any a b W)
  obtain ⟨bs, hbs⟩ : ∃ bs, decide (a < M.B ∧ b < M.B) = bs := ⟨_, rfl⟩
  rw [hbs] at CB
  obtain ⟨x, y, hx⟩ : ∃ x y, (Lib.compareInt (a : Int) b < 0 → x = b ∧ y = a) ∧ (¬ Lib.compareInt (a : Int) b < 0 → x = a ∧ y = b) := by
    by_cases h : Lib.compareInt (a : Int) b < 0
    · exact ⟨b, a, fun _ => ⟨rfl, rfl⟩, fun h' => absurd h h'⟩
    · exact ⟨a, b, fun h' => absurd h' h, fun _ => ⟨rfl, rfl⟩⟩
  have hxy : x + y = a + b ∧ y ≤ x ∧ (M.dig x).length ≤ 90000 ∧ (M.dig y).length ≤ 90000 := by
    rcases Nat.lt_or_ge a b with h | h
    · obtain ⟨rfl, rfl⟩ := hx.1 (by rw [ci_lt h]; decide)
      exact ⟨Nat.add_comm _ _, by omega, lb, la⟩
    · obtain ⟨rfl, rfl⟩ := hx.2 (by
        rcases Nat.lt_or_ge b a with h2 | h2
        · rw [ci_gt h2]; decide
        · rw [show a = b by omega, ci_eq]; decide)
      exact ⟨rfl, h, la, lb⟩
  generalize hz : Lib.compareInt (a : Int) b = z at *
  have HX := mkHid hx
  obtain ⟨hs1, hle, lx, ly⟩ := hxy
  have hcar : Hid (bs = true → ¬ (a % M.B + b % M.B) / 18446744073709551616 = 0) := mkHid fun hb => by
    subst hb
    have := of_decide_eq_true hbs
    rw [Nat.mod_eq_of_lt this.1, Nat.mod_eq_of_lt this.2]
    rw [← M.B_eq]
    intro h0
    have := (Nat.div_eq_zero_iff_lt M.B_pos).1 h0
    exact hnot this
  rw [← hs1]
  have CWX := mkHid (fun W => words_any x W (by omega))
  have CWY := mkHid (fun W => words_any y W (by omega))
  have hlx : (M.dig y).length ≤ (M.dig x).length := by
    apply M.dig_length_le.2
    have := M.dig_length_le (n := x) (k := (M.dig x).length) |>.1 (Nat.le_refl _)
    omega
  clear hx hbs hz hnot la lb
  obtain ⟨car, hcr⟩ : ∃ car, (a % M.B + b % M.B) / 18446744073709551616 = car := ⟨_, rfl⟩
  rw [hcr] at hcar
  have CA := mkHid (fun W => add64_run_c0 (a % M.B) (b % M.B) W)
  rw [hcr] at CA
  have CP := mkHid (fun (b cap : Nat) (l : List Nat) (W : World) (hw : Row W b cap l) (hl : l.length ≤ 100000) (okl : M.Ok l) => pack_any b cap l W hw hl okl)
  have HX : Hid ((z < 0 → (x % M.B = b % M.B ∧ hs x = hs b) ∧ y % M.B = a % M.B ∧ hs y = hs a) ∧ (¬ z < 0 → (x % M.B = a % M.B ∧ hs x = hs a) ∧ y % M.B = b % M.B ∧ hs y = hs b)) := mkHid ⟨fun h => by obtain ⟨rfl, rfl⟩ := HX.out.1 h; simp, fun h => by obtain ⟨rfl, rfl⟩ := HX.out.2 h; simp⟩
  obtain ⟨ln, hln⟩ : ∃ ln, (M.dig x).length = ln := ⟨_, rfl⟩
  have hl1 : ln ≤ 90000 := by omega
  have HV : Hid (∀ zs : List Nat, M.val zs = (M.val (M.dig x) + M.val (M.dig y)) % M.B ^ (ln + 1) → natV (M.val zs) = natV (x + y)) := mkHid (fun zs h => by
    rw [M.val_dig, M.val_dig, Nat.mod_eq_of_lt] at h
    · rw [h]
    · have h1 : x < M.B ^ ln := M.dig_length_le.1 (by omega)
      have h2 : y < M.B ^ ln := by omega
      have h3 : 2 * M.B ^ ln ≤ M.B * M.B ^ ln := Nat.mul_le_mul_right _ M.one_lt_B
      rw [Nat.pow_succ, Nat.mul_comm _ M.B]
      omega)
  have HLN := mkHid hln
  rw [hln] at CWX
  obtain ⟨lm, hlm⟩ : ∃ lm, (M.dig y).length = lm := ⟨_, rfl⟩
  rw [hlm] at CWY
  have HLM := mkHid hlm
  have OX := mkHid (M.ok_dig x)
  have OY := mkHid (M.ok_dig y)
  have hlmn : lm ≤ ln := by omega
  clear hln hlm hle lx ly hlx
  obtain ⟨i0, hi0, hz0, hz1, hz2⟩ := info_parts info64
  have hi' := Lib.hid hi0; have hz0' := Lib.hid hz0; have hz1' := Lib.hid hz1; have hz2' := Lib.hid hz2; clear hi0 hz0 hz1 hz2
  have hsz1 : Hid ((Tryd.prog.info? 22).map (·.size) = some 1) := mkHid (by rw [hi'.out]; simp [hz1'.out])
  unfold natV at CB CC CWX CWY HV ⊢
  clear hcr hs1
  generalize x % M.B = xl at *
  generalize y % M.B = yl at *
  generalize a % M.B = al at *
  generalize b % M.B = bl at *
  generalize hs x = xh at *
  generalize hs y = yh at *
  generalize hs a = ah at *
  generalize hs b = bh at *
  generalize hs (x + y) = sh at *
  generalize (x + y) % M.B = sl at *
  have hCA := CA.out
  go_enter Tryd.func42, Tryd.ntmps42
  go_upto_if 12 with (go_at_call 51; refine (CB.out _).mono ?_; rintro e w1 ⟨rfl, hb⟩; have HB1 : Hid (Below (w.heap.size + 1 + 1 + 1) (World.box3 w al bl ah bh) w1) := mkHid (hb.mono (by simp)); clear hb)
  obtain ⟨h10, h11, hf10, hf11⟩ := (box3_a w al bl ah bh).below HB1.out (by omega)
  obtain ⟨h20, h21, hf20, hf21⟩ := (box3_b w al bl ah bh).below HB1.out (by omega)
  go_cut [] (fun wx => Below (w.heap.size + 1 + 1 + 1) (World.box3 w al bl ah bh) wx)
  case first =>
    rcases bs with _ | _
    · go_wp2
      go_meet
      exact HB1.out
    · have hc0 : ¬ (car : Int) = 0 := by have := hcar.out rfl; omega
      go_wp2
      go_meet
      exact HB1.out
  case rest =>
    have HB2 := mkHid hcut
    obtain ⟨h10, h11, hf10, hf11⟩ := (box3_a w al bl ah bh).below hcut (by omega)
    obtain ⟨h20, h21, hf20, hf21⟩ := (box3_b w al bl ah bh).below hcut (by omega)
    clear hcut HB1 CA hCA CB
    go_upto_if 28 with (go_at_call 48; refine (CC.out _).mono ?_; rintro e w2 ⟨rfl, hb⟩; have HB3 : Hid (Below (w.heap.size + 1 + 1 + 1) (World.box3 w al bl ah bh) w2) := mkHid (HB2.out.trans (hb.mono (by have := HB2.out.size; rw [box3_size] at this; exact this))); clear hb)
    clear h10 h11 hf10 hf11 h20 h21 hf20 hf21
    have G1 := (box3_a w al bl ah bh).below HB3.out (by omega)
    have G2 := (box3_b w al bl ah bh).below HB3.out (by omega)
    have G3 := (box3_c w al bl ah bh).below HB3.out (by omega)
    have HB4 := mkHid ((box3_below w al bl ah bh).trans (HB3.out.mono (by omega)))
    have HS4 := mkHid HB3.out.size
    rw [box3_size] at HS4
    obtain ⟨h10, h11, hf10, hf11⟩ := G1
    obtain ⟨h20, h21, hf20, hf21⟩ := G2
    go_cut [] (fun wx => At2 wx w.heap.size xl xh ∧ At2 wx (w.heap.size + 1) yl yh ∧ At2 wx (w.heap.size + 1 + 1) 0 ⟨#[]⟩ ∧ Below w.heap.size w wx ∧ w.heap.size + 1 + 1 + 1 ≤ wx.heap.size)
    case first =>
      go_wp2
      · rename_i ht
        go_meet
        obtain ⟨⟨e1, e2⟩, e3, e4⟩ := HX.out.1 ht
        rw [e1, e2, e3, e4]
        have A1 : At2 w2 w.heap.size al ah := ⟨h10, h11, hf10, hf11⟩
        have A2 : At2 w2 (w.heap.size + 1) bl bh := ⟨h20, h21, hf20, hf21⟩
        exact ⟨(A1.set _ _).setOff (by omega) _ _, (A2.setOff (by omega) _ _).set _ _, (G3.setOff (by omega) _ _).setOff (by omega) _ _, setCells_below (setCells_below HB4.out _ (Nat.le_refl _) _ _) _ (by omega) _ _, by simpa using HS4.out⟩
      · rename_i ht
        go_meet
        obtain ⟨⟨e1, e2⟩, e3, e4⟩ := HX.out.2 ht
        rw [e1, e2, e3, e4]
        exact ⟨⟨h10, h11, hf10, hf11⟩, ⟨h20, h21, hf20, hf21⟩, G3, HB4.out, HS4.out⟩
    case rest =>
      rename_i wd
      clear HB2 HB3 HB4 HS4 h10 h11 hf10 hf11 h20 h21 hf20 hf21 G3 HX hcar
      have HC := mkHid hcut
      obtain ⟨⟨h10, h11, hf10, hf11⟩, ⟨h20, h21, hf20, hf21⟩, hcut⟩ := hcut
      clear hcut
      go_upto_region 7 with fail
      go_cut [7, 8] (fun v7 v8 wx => ∃ bx cx by' cy, v7 = .slice (some ⟨bx, 0, none⟩) ln cx ∧ v8 = .slice (some ⟨by', 0, none⟩) lm cy ∧ Hid (At2 wx (w.heap.size + 1 + 1) 0 ⟨#[]⟩ ∧ Below w.heap.size w wx ∧ w.heap.size + 1 + 1 + 1 ≤ wx.heap.size ∧ w.heap.size + 1 + 1 + 1 ≤ bx ∧ bx < by' ∧ Row wx bx cx (M.dig x) ∧ Row wx by' cy (M.dig y)))
      case first =>
        go_region_with (first
          | (go_at_call_of 55 (Value.agg #[.int .u64 (xl : Int), .string xh]); refine (CWX.out _).mono ?_; rintro e w3 ⟨bx, cx, rfl, H3⟩; obtain ⟨h30, h31, hf30, hf31⟩ := HC.out.2.1.past H3.out.2.2.1 ⟨rfl, rfl, rfl, rfl⟩)
          | (go_at_call_of 55 (Value.agg #[.int .u64 (yl : Int), .string yh]); refine (CWY.out _).mono ?_; rintro e w4 ⟨by', cy, rfl, H4⟩))
        all_goals (go_wp2_with fail; go_meet; refine ⟨bx, cx, by', cy, rfl, rfl, mkHid (two_words HC.out.2.2 H3.out ⟨rfl, rfl, rfl, rfl⟩ H4.out ⟨rfl, rfl, rfl, rfl⟩)⟩)
      case rest =>
        obtain ⟨bx, cx, by', cy, rfl, rfl, H⟩ := hcut
        clear HC h10 h11 hf10 hf11 h20 h21 hf20 hf21 CWX CWY CC
        have hcl : (ln : Int) ≤ 90000 := by omega
        go_wp2_with (at_make; refine wpList_make_full _ rfl _ _ 76 rfl wc.heap.size 22 i0 (.int .u64 0) 1 Tryd.underlying76 hi'.out hz0'.out hz1'.out _ _ _ _ (ln + 1) rfl rfl (by omega) (by omega) ?bytes ?maxl ?base ?_)
        case bytes => rw [hz2'.out]; omega
        case maxl => unfold maxLen; omega
        case base => exact Nat.le_refl _
        intro w1 hown hgrow
        have HR : Hid (Row w1 wc.heap.size (ln + 1) (List.replicate (ln + 1) 0)) := mkHid (Row.made hown (by omega))
        have HB1 : Hid (Below wc.heap.size wc w1) := mkHid (below_grown hgrow (Nat.le_refl _))
        clear hown hgrow
        obtain ⟨cur, hcur, hsize⟩ := HR.out.cur
        have HCUR := Lib.hid hcur; have HSZ := Lib.hid hsize; clear hcur hsize
        go_wp2_with (with_reducible refine wpList_copy_own rfl (.tmp 39) (.tmp 40) 76 76 rfl 22 Tryd.underlying76 hsz1.out wc.heap.size 0 _ _ ⟨bx, 0, none⟩ _ _ rfl rfl cur 22 HCUR.out (ws (M.dig x)) ?c1 ?c2 ?c3 ?c4 ?_)
        case c1 => rw [ws_length, HLN.out]; exact (Nat.min_eq_left (by omega)).symm
        case c2 => exact words_cells (H.out.2.2.2.2.2.1.grows HB1.out).words
        case c3 => rw [ws_length, HLN.out]; have := HSZ.out; omega
        case c4 => exact ws_one _
        have HR2 := mkHid (HR.out.spliced (by simp) cur HCUR.out (cs := M.dig x) (off := 0) (by have := HLN.out; omega))
        have HB2 := mkHid (below_setRow HB1.out (Nat.le_refl _) (cur.toList.take 0 ++ (ws (M.dig x) ++ cur.toList.drop (0 + (ws (M.dig x)).length))).toArray)
        have hrow : cur.toList.take 0 ++ (ws (M.dig x) ++ cur.toList.drop (0 + (ws (M.dig x)).length)) = ws (M.dig x) ++ cur.toList.drop (ws (M.dig x)).length := by simp
        rw [hrow] at HR2 HB2
        generalize w1.setRow wc.heap.size _ = w2 at HR2 HB2 ⊢
        clear HCUR HSZ HR hrow
        have hm : List.take 0 (List.replicate (ln + 1) 0) ++ (M.dig x ++ List.drop (0 + (M.dig x).length) (List.replicate (ln + 1) 0)) = M.dig x ++ [0] := by
          rw [HLN.out, List.drop_replicate, show ln + 1 - (0 + ln) = 1 by omega]; rfl
        rw [hm] at HR2
        clear hm
        have hlen : (M.dig x ++ [0]).length = ln + 1 := by rw [List.length_append, HLN.out]; rfl
        have CAW := mkHid (addWords_any wc.heap.size 0 (ln + 1) by' 0 cy (M.dig x ++ [0]) (M.dig y) w2 HR2.out.words (H.out.2.2.2.2.2.2.grows HB2.out).words (by have := H.out.2.2.2.2.2.2.lt; omega) (by rw [hlen, HLM.out]; omega) (by rw [hlen]; omega) (OX.out.append (M.Ok.zeros 1)) OY.out)
        have hv0 : M.val (M.dig x ++ [0]) = M.val (M.dig x) := by rw [M.val_snoc, Nat.mul_zero, Nat.add_zero]
        rw [hlen, HLM.out, hv0] at CAW
        have HLE := mkHid hlen
        clear hlen hv0
        go_wp2_with fail
        refine CAW.out.mono ?_
        clear CAW
        rintro e w5 ⟨rfl, zs, R⟩
        have R2 := mkHid (HR2.out.after R.out.2.2.2.2 R.out.2.2.2.1 (by rw [R.out.1]; exact Nat.le_refl _))
        have HB3 := mkHid (HB2.out.trans (R.out.2.2.2.2.toBelow (Nat.le_refl _) HB2.out.size))
        have CPZ := mkHid (fun W hw => CP.out wc.heap.size (ln + 1) zs W hw (by rw [R.out.1]; omega) R.out.2.1)
        have HZV := HV.out zs R.out.2.2.1
        have HZL := R.out.1
        unfold natV at CPZ
        rw [HZV, HZL] at CPZ
        clear HZV HZL
        have HA5 := mkHid (H.out.1.past HB3.out ⟨rfl, rfl, rfl, rfl⟩)
        have HB5 := mkHid (below_past H.out.2.1 HB3.out ⟨rfl, rfl, rfl, rfl⟩ H.out.2.1.size)
        clear HB2 HR2 HB3 HB1 HV
        go_wp2_with (go_at_call 53; refine (CPZ.out _ R2.out).mono ?_; rintro e w6 ⟨rfl, hb⟩; have HB6 := mkHid hb; obtain ⟨h10, h11, hf10, hf11⟩ := HA5.out.past hb ⟨rfl, rfl, rfl, rfl⟩; clear hb)
        refine bodyPost_ret (v := .agg #[.int .u64 (sl : Int), .string sh]) (by simp [results, Tryd.results42, go_sem, h10, h11]) rfl ⟨rfl, ?_⟩
        exact setCells_below (below_past HB5.out HB6.out ⟨rfl, rfl, rfl, rfl⟩ HB5.out.size) _ (by omega) _ _

theorem add_any (a b : Nat) (w : World) (la : (M.dig a).length ≤ 90000) (lb : (M.dig b).length ≤ 90000) :
    Calls Tryd.prog 42 #[natV a, natV b] w fun e w' => e = .returned (natV (a + b)) ∧ Below w.heap.size w w' := by
  by_cases h : a + b < M.B
  · exact add_small a b w h
  · exact add_main a b w h la lb

end Go.Proofs.YtflcdpolfimggaaDoor
namespace Go.Proofs.YtflcdpolfimggaaDoor
open Go.RowKit

set_option maxRecDepth 100000 in
set_option maxHeartbeats 1000000 in
theorem sub_less (a b : Nat) (w : World) (h : a < b) :
    Calls Tryd.prog 46 #[natV a, natV b] w fun e w' => e = .returned (.tuple #[natV 0, .bool false]) ∧ Below w.heap.size w w' := by
  have CC := mkHid (fun W => cmp_any a b W)
  rw [ci_lt h] at CC
  unfold natV at CC ⊢
  rw [hs_small M.B_pos, Nat.zero_mod]
  generalize a % M.B = al at *
  generalize b % M.B = bl at *
  generalize hs a = ah at *
  generalize hs b = bh at *
  clear h
  go_enter Tryd.func46, Tryd.ntmps46
  go_wp2_with (go_at_call 48; refine (CC.out _).mono ?_; rintro e w1 ⟨rfl, hb⟩; have HB1 : Hid (Below (w.heap.size + 1 + 1 + 1) (World.box3 w al bl ah bh) w1) := mkHid (hb.mono (by simp)); obtain ⟨h10, h11, hf10, hf11⟩ := (box3_c w al bl ah bh).below HB1.out (by omega); clear hb)
  refine bodyPost_ret (v := .tuple #[.agg #[.int .u64 ((0 : Nat) : Int), .string ⟨#[]⟩], .bool false]) (by simp [results, Tryd.results46, go_sem, h10, h11]) rfl ⟨rfl, ?_⟩
  exact setCells_below ((box3_below w al bl ah bh).trans (HB1.out.mono (by omega))) _ (by omega) _ _

set_option maxRecDepth 100000 in
set_option maxHeartbeats 1000000 in
theorem sub_small (a b : Nat) (w : World) (h : b ≤ a) (ha : a < M.B) :
    Calls Tryd.prog 46 #[natV a, natV b] w fun e w' => e = .returned (.tuple #[natV (a - b), .bool true]) ∧ Below w.heap.size w w' := by
  have CC := mkHid (fun W => cmp_any a b W)
  obtain ⟨z, hz⟩ : ∃ z, Lib.compareInt (a : Int) b = z := ⟨_, rfl⟩
  have hz0 : ¬ z < 0 := by
    rw [← hz]
    rcases Nat.lt_or_ge b a with h2 | h2
    · rw [ci_gt h2]; decide
    · rw [show a = b by omega, ci_eq]; decide
  rw [hz] at CC
  have hb : b < M.B := by omega
  have CB := mkHid (fun W => bothSmall_any a b W)
  rw [decide_eq_true (show a < M.B ∧ b < M.B from ⟨ha, hb⟩)] at CB
  have CO := mkHid (fun W => of_any (a - b) W (by omega))
  have hwr : IntKind.u64.wrap ((a : Int) - (b : Int)) = ((a - b : Nat) : Int) := by rw [IntKind.wrap_u64]; unfold M.B at ha; omega
  have hwr2 : ((a : Int) - (b : Int)) % 18446744073709551616 = ((a - b : Nat) : Int) := by unfold M.B at ha; omega
  unfold natV at CC CB CO ⊢
  rw [Nat.mod_eq_of_lt ha, Nat.mod_eq_of_lt hb] at CB CC ⊢
  clear h ha hb hz
  generalize hs a = ah at *
  generalize hs b = bh at *
  generalize hs (a - b) = h3 at *
  generalize (a - b) % M.B = l3 at *
  generalize a - b = s at *
  go_enter Tryd.func46, Tryd.ntmps46
  go_wp2_with (first
    | (go_at_call 48; refine (CC.out _).mono ?_; rintro e w1 ⟨rfl, hb⟩; have HB1 : Hid (Below (w.heap.size + 1 + 1 + 1) (World.box3 w a b ah bh) w1) := mkHid (hb.mono (by simp)); obtain ⟨ha10, ha11, haf10, haf11⟩ := (box3_a w a b ah bh).below HB1.out (by omega); obtain ⟨hb10, hb11, hbf10, hbf11⟩ := (box3_b w a b ah bh).below HB1.out (by omega); clear hb)
    | (go_at_call 51; refine (CB.out _).mono ?_; rintro e w2 ⟨rfl, hb⟩; have HB2 : Hid (Below (w.heap.size + 1 + 1 + 1) (World.box3 w a b ah bh) w2) := mkHid (HB1.out.trans (hb.mono (by have := HB1.out.size; rw [box3_size] at this; exact this))); clear hb ha10 ha11 haf10 haf11 hb10 hb11 hbf10 hbf11; obtain ⟨ha10, ha11, haf10, haf11⟩ := (box3_a w a b ah bh).below HB2.out (by omega); obtain ⟨hb10, hb11, hbf10, hbf11⟩ := (box3_b w a b ah bh).below HB2.out (by omega))
    | (go_at_call 37; refine (CO.out _).mono ?_; rintro e w3 ⟨rfl, hb⟩; have HB3 : Hid (Below (w.heap.size + 1 + 1 + 1) (World.box3 w a b ah bh) w3) := mkHid (HB2.out.trans (hb.mono (by have := HB2.out.size; rw [box3_size] at this; exact this))); clear hb; obtain ⟨h10, h11, hf10, hf11⟩ := (box3_c w a b ah bh).below HB3.out (by omega)))
  refine bodyPost_ret (v := .tuple #[.agg #[.int .u64 (l3 : Int), .string h3], .bool true]) (by simp [results, Tryd.results46, go_sem, h10, h11]) rfl ⟨rfl, ?_⟩
  exact setCells_below ((box3_below w a b ah bh).trans (HB3.out.mono (by omega))) _ (by omega) _ _

set_option maxRecDepth 100000 in
set_option maxHeartbeats 1000000 in
theorem sub_large (a b : Nat) (w : World) (h : b ≤ a) (ha : M.B ≤ a) (la : (M.dig a).length ≤ 90000) :
    Calls Tryd.prog 46 #[natV a, natV b] w fun e w' => e = .returned (.tuple #[natV (a - b), .bool true]) ∧ Below w.heap.size w w' := by
  have CC := mkHid (fun W => cmp_any a b W)
  obtain ⟨z, hz⟩ : ∃ z, Lib.compareInt (a : Int) b = z := ⟨_, rfl⟩
  have hz0 : ¬ z < 0 := by
    rw [← hz]
    rcases Nat.lt_or_ge b a with h2 | h2
    · rw [ci_gt h2]; decide
    · rw [show a = b by omega, ci_eq]; decide
  rw [hz] at CC
  have CB := mkHid (fun W => bothSmall_any a b W)
  rw [decide_eq_false (show ¬ (a < M.B ∧ b < M.B) by omega)] at CB
  have hlb : (M.dig b).length ≤ (M.dig a).length := M.dig_length_le.2 (by have := M.dig_length_le (n := a) |>.1 (Nat.le_refl _); omega)
  have CWA := mkHid (fun W => words_any a W (by omega))
  have CWB := mkHid (fun W => words_any b W (by omega))
  have CP := mkHid (fun (b cap : Nat) (l : List Nat) (W : World) (hw : Row W b cap l) (hl : l.length ≤ 100000) (okl : M.Ok l) => pack_any b cap l W hw hl okl)
  have HV : Hid (∀ zs : List Nat, M.val zs = M.val (M.dig a) - M.val (M.dig b) → natV (M.val zs) = natV (a - b)) := mkHid (fun zs h => by rw [h, M.val_dig, M.val_dig])
  have OA := mkHid (M.ok_dig a)
  have OB := mkHid (M.ok_dig b)
  have HVB : Hid (M.val (M.dig b) ≤ M.val (M.dig a)) := mkHid (by rw [M.val_dig, M.val_dig]; exact h)
  obtain ⟨ln, hln⟩ : ∃ ln, (M.dig a).length = ln := ⟨_, rfl⟩
  obtain ⟨lm, hlm⟩ : ∃ lm, (M.dig b).length = lm := ⟨_, rfl⟩
  rw [hln] at CWA hlb la
  rw [hlm] at CWB hlb
  have HLN := mkHid hln
  have HLM := mkHid hlm
  unfold natV at CC CB CWA CWB HV ⊢
  clear h ha hz hln hlm
  generalize a % M.B = al at *
  generalize b % M.B = bl at *
  generalize hs a = ah at *
  generalize hs b = bh at *
  generalize hs (a - b) = h3 at *
  generalize (a - b) % M.B = l3 at *
  go_enter Tryd.func46, Tryd.ntmps46
  go_wp2_with (first
    | (go_at_call 48; refine (CC.out _).mono ?_; rintro e w1 ⟨rfl, hb⟩; have HB1 : Hid (Below (w.heap.size + 1 + 1 + 1) (World.box3 w al bl ah bh) w1) := mkHid (hb.mono (by simp)); obtain ⟨ha10, ha11, haf10, haf11⟩ := (box3_a w al bl ah bh).below HB1.out (by omega); obtain ⟨hb10, hb11, hbf10, hbf11⟩ := (box3_b w al bl ah bh).below HB1.out (by omega); clear hb)
    | (go_at_call 51; refine (CB.out _).mono ?_; rintro e w2 ⟨rfl, hb⟩; have HB2 : Hid (Below (w.heap.size + 1 + 1 + 1) (World.box3 w al bl ah bh) w2) := mkHid (HB1.out.trans (hb.mono (by have := HB1.out.size; rw [box3_size] at this; exact this))); clear hb ha10 ha11 haf10 haf11 hb10 hb11 hbf10 hbf11; obtain ⟨ha10, ha11, haf10, haf11⟩ := (box3_a w al bl ah bh).below HB2.out (by omega))
    | (go_at_call_of 55 (Value.agg #[.int .u64 (al : Int), .string ah]); refine (CWA.out _).mono ?_; rintro e w3 ⟨bx, cx, rfl, H3⟩; have HB3 : Hid (Below (w.heap.size + 1 + 1 + 1) (World.box3 w al bl ah bh) w3) := mkHid (HB2.out.trans (H3.out.2.2.1.mono (by have := HB2.out.size; rw [box3_size] at this; exact this))); clear ha10 ha11 haf10 haf11; obtain ⟨hb10, hb11, hbf10, hbf11⟩ := (box3_b w al bl ah bh).below HB3.out (by omega))
    | (go_at_call_of 55 (Value.agg #[.int .u64 (bl : Int), .string bh]); refine (CWB.out _).mono ?_; rintro e w4 ⟨by', cy, rfl, H4⟩))
  have HS2 := mkHid HB2.out.size
  rw [box3_size] at HS2
  have T := mkHid (two_words (w := w) (B := w.heap.size + 1 + 1 + 1) (p := w.heap.size + 1 + 1) (h := ⟨#[]⟩) ⟨(box3_c w al bl ah bh).below HB2.out (by omega), (box3_below w al bl ah bh).trans (HB2.out.mono (by omega)), HS2.out⟩ H3.out ⟨rfl, rfl, rfl, rfl⟩ H4.out ⟨rfl, rfl, rfl, rfl⟩)
  clear hb10 hb11 hbf10 hbf11 HB1 HB2 HB3 HS2 H3 H4 CC CB CWA CWB
  have CSW := mkHid (subWords_any bx 0 cx by' 0 cy (M.dig a) (M.dig b) w4 T.out.2.2.2.2.2.1.words T.out.2.2.2.2.2.2.words (by have := T.out.2.2.2.2.1; omega) (by rw [HLN.out, HLM.out]; exact hlb) HVB.out (by rw [HLN.out]; omega) OA.out OB.out)
  rw [HLN.out, HLM.out] at CSW
  refine CSW.out.mono ?_
  clear CSW
  rintro e w5 ⟨rfl, zs, R⟩
  have R2 := mkHid (T.out.2.2.2.2.2.1.after R.out.2.2.2.2 R.out.2.2.2.1 (by rw [R.out.1, ← HLN.out]; exact T.out.2.2.2.2.2.1.cap.2))
  have HB5 := mkHid (T.out.2.1.trans (R.out.2.2.2.2.toBelow (by have := T.out.2.2.2.1; omega) T.out.2.1.size))
  have HA5 := mkHid (At2.below T.out.1 (R.out.2.2.2.2.toBelow (B := w.heap.size + 1 + 1 + 1) T.out.2.2.2.1 T.out.2.2.1) (by omega))
  have CPZ := mkHid (fun W hw => CP.out bx cx zs W hw (by rw [R.out.1]; omega) R.out.2.1)
  have HZV := HV.out zs R.out.2.2.1
  have HZL := R.out.1
  unfold natV at CPZ
  rw [HZV, HZL] at CPZ
  clear HZV HZL
  go_wp2_with (go_at_call 53; refine (CPZ.out _ R2.out).mono ?_; rintro e w6 ⟨rfl, hb⟩; have HB6 := mkHid hb; obtain ⟨h10, h11, hf10, hf11⟩ := HA5.out.past hb ⟨rfl, rfl, rfl, rfl⟩; clear hb)
  refine bodyPost_ret (v := .tuple #[.agg #[.int .u64 (l3 : Int), .string h3], .bool true]) (by simp [results, Tryd.results46, go_sem, h10, h11]) rfl ⟨rfl, ?_⟩
  exact setCells_below (below_past HB5.out HB6.out ⟨rfl, rfl, rfl, rfl⟩ HB5.out.size) _ (by omega) _ _

theorem sub_any (a b : Nat) (w : World) (la : (M.dig a).length ≤ 90000) :
    Calls Tryd.prog 46 #[natV a, natV b] w fun e w' => e = .returned (.tuple #[natV (a - b), .bool (decide (b ≤ a))]) ∧ Below w.heap.size w w' := by
  by_cases h : a < b
  · rw [show a - b = 0 by omega, decide_eq_false (by omega)]
    exact sub_less a b w h
  · rw [decide_eq_true (show b ≤ a by omega)]
    rcases Nat.lt_or_ge a M.B with ha | ha
    · exact sub_small a b w (by omega) ha
    · exact sub_large a b w (by omega) ha la

end Go.Proofs.YtflcdpolfimggaaDoor
