/- Contracts of vars: Union, Minus, With, Sub, All, Of. -/
import Derived.Test.YtalpbpcanebbbaaTI
namespace Go.Proofs.Ytalpbpcanebbbaa
open Go.RowKit VM LM

theorem eq_words (w : World) (x0 x1 y0 y1 : Int) :
    (Op.equalIn 10000 36 (.agg #[.int .u64 x0, .int .u64 x1]) (.agg #[.int .u64 y0, .int .u64 y1])).run Try.prog w = .ok (x0 == y0 && x1 == y1) w := by
  obtain ⟨i, hi, _⟩ := info_parts (show (Try.prog.info? 34).map (fun i => (i.zero, i.size, i.bytes)) = some (some (.int .u64 0), 1, 8) by kernel_rfl)
  have hu : Try.prog.underlying 36 = some (.array 2 34) := Try.underlying36
  have he : Try.prog.underlying 34 = some (.int .u64) := Try.underlying34
  have hc : Try.prog.cellsOf 34 = 1 := by kernel_rfl
  rw [run_equalIn_array w 9999 _ _ hu hi, hc]
  have p0 : ∀ (a b : Int) (w : World), (part 34 #[.int .u64 a, .int .u64 b] 0).run Try.prog w = .ok (.int .u64 a) w := fun a b w => by simp [part, isAgg, run_underlying he]
  have p1 : ∀ (a b : Int) (w : World), (part 34 #[.int .u64 a, .int .u64 b] 1).run Try.prog w = .ok (.int .u64 b) w := fun a b w => by simp [part, isAgg, run_underlying he]
  have pe : ∀ (a b : Int) (w : World), (Op.equalIn 9999 34 (.int .u64 a) (.int .u64 b)).run Try.prog w = .ok (a == b) w := fun a b w => run_equalIn_int w 9998 _ .u64 .u64 _ _ he
  simp only [List.range, List.range.loop, Op.eqItems, Sem.run_bind, Nat.mul_one, p0, pe, Result.andThen_ok]
  cases x0 == y0
  · simp
  · simp only [Bool.not_true, Bool.false_eq_true, if_false, Sem.run_bind, p1, pe, Result.andThen_ok, Bool.true_and]
    cases x1 == y1 <;> simp
/-- '==' of two sets. -/
theorem eq_sets (a b : BitVec 128) (w : World) : (Op.equalIn 10000 36 (sv a) (sv b)).run Try.prog w = .ok (decide (a = b)) w := by
  unfold sv
  rw [eq_words]
  congr 1
  rw [Bool.eq_iff_iff]
  simp only [Bool.and_eq_true, beq_iff_eq, decide_eq_true_eq, wd_inj]
  exact ⟨fun ⟨h, k⟩ => ext_lohi h k, fun h => by rw [h]; exact ⟨rfl, rfl⟩⟩
set_option maxRecDepth 100000 in
set_option maxHeartbeats 1000000 in
theorem union_any (a b : BitVec 128) (w : World) :
    Calls Try.prog 70 #[sv a, sv b] w fun e w' => e = .returned (sv (a ||| b)) ∧ Below w.heap.size w w' := by
  have h1 := or_wd (lo a) (lo b)
  have h2 := or_wd (hi a) (hi b)
  rw [← lo_or] at h1
  rw [← hi_or] at h2
  unfold sv
  generalize wd (lo a) = al at *
  generalize wd (lo b) = bl at *
  generalize wd (hi a) = ah at *
  generalize wd (hi b) = bh at *
  generalize wd (lo (a ||| b)) = cl at *
  generalize wd (hi (a ||| b)) = ch at *
  go_enter Try.func70, Try.ntmps70
  go_wp2
  refine bodyPost_ret (v := .agg #[.int .u64 cl, .int .u64 ch]) (by simp [results, Try.results70, go_sem]) rfl ⟨rfl, ?_⟩
  exact bal (bal (bal (Below.refl _ _) _) _) _
set_option maxRecDepth 100000 in
set_option maxHeartbeats 1000000 in
theorem minus_any (a b : BitVec 128) (w : World) :
    Calls Try.prog 81 #[sv a, sv b] w fun e w' => e = .returned (sv (a &&& ~~~b)) ∧ Below w.heap.size w w' := by
  have h1 := andNot_wd (lo a) (lo b)
  have h2 := andNot_wd (hi a) (hi b)
  rw [← lo_minus] at h1
  rw [← hi_minus] at h2
  unfold sv
  generalize wd (lo a) = al at *
  generalize wd (lo b) = bl at *
  generalize wd (hi a) = ah at *
  generalize wd (hi b) = bh at *
  generalize wd (lo (a &&& ~~~b)) = cl at *
  generalize wd (hi (a &&& ~~~b)) = ch at *
  go_enter Try.func81, Try.ntmps81
  go_wp2
  refine bodyPost_ret (v := .agg #[.int .u64 cl, .int .u64 ch]) (by simp [results, Try.results81, go_sem]) rfl ⟨rfl, ?_⟩
  exact bal (bal (bal (Below.refl _ _) _) _) _
set_option maxRecDepth 100000 in
set_option maxHeartbeats 1000000 in
theorem with_any (s : BitVec 128) (v : Int) (w : World) :
    Calls Try.prog 83 #[sv s, .int .i64 v] w fun e w' => e = .returned (sv (withV s v)) ∧ Below w.heap.size w w' := by
  unfold sv
  by_cases h : 65 ≤ v ∧ v ≤ 128
  · have C := mkHid (fun w => place_high v w h)
    have h1 := or_wd (hi s) (hi (bit v))
    rw [lo_with, hi_with, lo_high v h.1, or_zero]
    clear h
    generalize wd (lo s) = al at *
    generalize wd (hi s) = ah at *
    generalize wd (hi (bit v)) = m at *
    generalize wd (hi s ||| hi (bit v)) = ch at *
    go_enter Try.func83, Try.ntmps83
    go_wp2_with (go_at_call 84; refine (C.out _).mono ?_; rintro e w2 ⟨rfl, n, rfl⟩)
    refine bodyPost_ret (v := .agg #[.int .u64 al, .int .u64 ch]) (by simp [results, Try.results83, go_sem]) rfl ⟨rfl, ?_⟩
    exact bst (bst (bst (bdr (bal (bal (Below.refl _ _) _) _) _) (Nat.le_refl _) _) (Nat.le_succ _) _) (Nat.le_succ _) _
  · have C := mkHid (fun w => place_low v w h)
    have h1 := or_wd (lo s) (lo (bit v))
    rw [lo_with, hi_with, hi_low v h, or_zero]
    clear h
    generalize wd (lo s) = al at *
    generalize wd (hi s) = ah at *
    generalize wd (lo (bit v)) = m at *
    generalize wd (lo s ||| lo (bit v)) = ch at *
    go_enter Try.func83, Try.ntmps83
    go_wp2_with (go_at_call 84; refine (C.out _).mono ?_; rintro e w2 ⟨rfl, n, rfl⟩)
    refine bodyPost_ret (v := .agg #[.int .u64 ch, .int .u64 ah]) (by simp [results, Try.results83, go_sem]) rfl ⟨rfl, ?_⟩
    exact bst (bst (bst (bdr (bal (bal (Below.refl _ _) _) _) _) (Nat.le_refl _) _) (Nat.le_succ _) _) (Nat.le_succ _) _
def subV (a b : BitVec 128) : Bool := decide (a &&& ~~~b = 0#128)
theorem sv_empty : sv 0#128 = .agg #[.int .u64 0, .int .u64 0] := rfl
set_option maxRecDepth 100000 in
set_option maxHeartbeats 1000000 in
theorem sub_any (a b : BitVec 128) (w : World) :
    Calls Try.prog 50 #[sv a, sv b] w fun e w' => e = .returned (.bool (subV a b)) ∧ Below w.heap.size w w' := by
  have C := mkHid (fun W => minus_any a b W)
  have E := eq_sets (a &&& ~~~b) 0#128
  rw [sv_empty] at E
  unfold subV
  generalize decide (a &&& ~~~b = 0#128) = r at *
  unfold sv at *
  generalize wd (lo a) = al at *
  generalize wd (lo b) = bl at *
  generalize wd (hi a) = ah at *
  generalize wd (hi b) = bh at *
  generalize wd (lo (a &&& ~~~b)) = cl at *
  generalize wd (hi (a &&& ~~~b)) = ch at *
  go_enter Try.func50, Try.ntmps50
  go_wp2_with (go_at_call 81; refine (C.out _).mono ?_; rintro e w' ⟨rfl, hb⟩)
  go_ret
  exact ⟨rfl, bnx (bal (bal (Below.refl _ _) _) _) hb⟩
set_option maxRecDepth 100000 in
set_option maxHeartbeats 1000000 in
theorem all_any (n : Int) (w : World) (hlo : -9223372036854775808 ≤ n) (hhi : n ≤ 9223372036854775807) :
    Calls Try.prog 51 #[.int .i64 n] w fun e w' => e = .returned (sv (all n)) ∧ Below w.heap.size w w' := by
  unfold sv
  by_cases h0 : n < 0
  · have el : wd (lo (all n)) = 0 := by rw [lo_all, show n.toNat = 0 by omega]; rfl
    have er : wd (hi (all n)) = 0 := by rw [hi_all, show (n - 64).toNat = 0 by omega]; rfl
    rw [el, er]
    clear el er
    have m0 : max n 0 = 0 := by omega
    have m1 : max (-64 : Int) 0 = 0 := by omega
    clear h0 hlo hhi
    go_enter Try.func51, Try.ntmps51
    go_wp2
    go_region
    go_wp2
    refine bodyPost_ret (v := .agg #[.int .u64 0, .int .u64 0]) (by simp [results, Try.results51, go_sem]) rfl ⟨rfl, ?_⟩
    exact (bal (Below.refl _ _) _).drew
  · have h1 : 0 ≤ n := by omega
    have m0 : max n 0 = n := by omega
    have e1 : IntKind.i64.wrap (n - 64) = n - 64 := IntWalk.i64_in _ (by omega)
    clear hlo
    by_cases h2 : n < 64
    · have h3 : n - 64 < 0 := by omega
      have m1 : max (n - 64) 0 = 0 := by omega
      have el : IntKind.u64.wrap (IntKind.u64.wrap (2 ^ n.toNat) - 1) = wd (lo (all n)) := by rw [lo_all, show min n.toNat 64 = n.toNat by omega]; exact ones _ (by omega)
      have er : wd (hi (all n)) = 0 := by rw [hi_all, show (n - 64).toNat = 0 by omega]; rfl
      rw [er]
      clear er
      generalize wd (lo (all n)) = L at *
      go_enter Try.func51, Try.ntmps51
      go_wp2
      go_region
      go_wp2
      refine bodyPost_ret (v := .agg #[.int .u64 L, .int .u64 0]) (by simp [results, Try.results51, go_sem]) rfl ⟨rfl, ?_⟩
      exact (bal (Below.refl _ _) _).drew
    · have h3 : ¬ n - 64 < 0 := by omega
      have m1 : max (n - 64) 0 = n - 64 := by omega
      have h4 : 0 ≤ n - 64 := by omega
      have el : IntKind.u64.wrap (IntKind.u64.wrap 18446744073709551616 - 1) = wd (lo (all n)) := by rw [lo_all, show min n.toNat 64 = 64 by omega]; exact ones 64 (by omega)
      have er : IntKind.u64.wrap (IntKind.u64.wrap (2 ^ min (n - 64).toNat 64) - 1) = wd (hi (all n)) := by rw [hi_all]; exact ones _ (by omega)
      generalize wd (lo (all n)) = L at *
      generalize wd (hi (all n)) = R at *
      go_enter Try.func51, Try.ntmps51
      go_wp2
      go_region
      go_wp2
      refine bodyPost_ret (v := .agg #[.int .u64 L, .int .u64 R]) (by simp [results, Try.results51, go_sem]) rfl ⟨rfl, ?_⟩
      exact (bal (Below.refl _ _) _).drew
set_option maxRecDepth 100000 in
set_option maxHeartbeats 2000000 in
theorem of_nil (ao : Option Addr) (cap : Nat) (w : World) : Calls Try.prog 59 #[.slice ao 0 cap] w fun e w' => e = .returned (sv 0#128) ∧ Below w.heap.size w w' := by
  rw [sv_empty]
  go_enter Try.func59, Try.ntmps59
  go_wp2
  refine wp_loop_rounds 1 ?_
  rw [rounds_succ]
  go_wp2
  refine bodyPost_ret (v := .agg #[.int .u64 0, .int .u64 0]) (by simp [results, Try.results59, go_sem]) rfl ⟨rfl, ?_⟩
  exact bal (bal (Below.refl _ _) _) _
set_option maxRecDepth 100000 in
set_option maxHeartbeats 2000000 in
theorem of_some (l : List Int) (b off cap : Nat) (w : World) (hlen : l.length ≤ 9223372036854775807) (hcells : ∀ j (x : Int), l[j]? = some x → w.cell? ⟨b, off + j, none⟩ = some (.int .i64 x)) :
    Calls Try.prog 59 #[.slice (some ⟨b, off, none⟩) l.length cap] w fun e w' => e = .returned (sv (ofL l)) ∧ Below w.heap.size w w' := by
  have HBLT : Hid (0 < l.length → b < w.heap.size) := mkHid fun h => World.block_lt_of_cell? w _ (hcells 0 l[0] (List.getElem?_eq_getElem h))
  have HC := mkHid hcells
  have HB := mkHid (bal (bal (Below.refl _ w) (.cells #[.int .u64 0, .int .u64 0] 36)) (.cells #[.int .u64 0, .int .u64 0] 36))
  have HA1 := mkHid (AtS.new (w.alloc (.cells #[.int .u64 0, .int .u64 0] 36)) (w.heap.size + 1) 0 0 36 (by simp))
  have HA0 := mkHid ((AtS.new w w.heap.size 0 0 36 rfl).alloc (.cells #[.int .u64 0, .int .u64 0] 36))
  clear hcells
  go_enter Try.func59, Try.ntmps59
  go_wp2
  go_loopw [8] (fun iv wr => ∃ k : Nat, k ≤ l.length ∧ iv = .int .i64 (k : Int) ∧ Hid (AtS wr (w.heap.size + 1) (wd (lo (ofL (l.take k)))) (wd (hi (ofL (l.take k)))) ∧ AtS wr w.heap.size 0 0 ∧ Below w.heap.size w wr)) (fun iv _ => l.length - (intOf iv).toNat)
  case atStart => exact ⟨0, Nat.zero_le _, rfl, mkHid ⟨by rw [List.take_zero]; exact HA1.out, HA0.out, HB.out⟩⟩
  case round =>
    obtain ⟨k, hk, rfl, H⟩ := hrel
    obtain ⟨a1, a2, af1, af2⟩ := H.out.1
    by_cases hlt : k < l.length
    · obtain ⟨x, hx⟩ : ∃ x, l[k]? = some x := ⟨l[k], List.getElem?_eq_getElem hlt⟩
      have hcx := cell_grows H.out.2.2 (HC.out k x hx)
      have et : Hid (ofL (l.take (k + 1)) = withV (ofL (l.take k)) x) := mkHid (by
        rw [List.take_add_one, hx]; exact ofL_snoc _ _)
      have C := mkHid (fun W => with_any (ofL (l.take k)) x W)
      have HW := mkHid H.out.2
      have HAT := mkHid H.out.1
      unfold sv at C
      clear H HA1 HA0 HB hx
      generalize wd (lo (ofL (l.take k))) = l1 at *
      generalize wd (hi (ofL (l.take k))) = h1 at *
      generalize hl2 : wd (lo (withV (ofL (l.take k)) x)) = l2 at *
      generalize hh2 : wd (hi (withV (ofL (l.take k)) x)) = h2 at *
      have E2 := mkHid hl2; have E3 := mkHid hh2
      clear hl2 hh2
      have hk1 : (k : Int) < (l.length : Int) := by omega
      go_wp2_with (go_at_call 83; refine (C.out _).mono ?_; rintro e w2 ⟨rfl, hb⟩; have HA4 := mkHid (HAT.out.grows hb); have HR4 := mkHid (HW.out.1.grows hb); have HB4 := mkHid (bnx HW.out.2 hb); obtain ⟨c1, c2, cf1, cf2⟩ := HA4.out; clear hb)
      go_roundw
      case rel => exact ⟨k + 1, by omega, by go_num, mkHid ⟨by rw [et.out, E2.out, E3.out]; exact HA4.out.set l2 h2, HR4.out.setOff (by omega) _ _, bst2 HB4.out _ (by omega) _ _⟩⟩
      case measure => simp [intOf]; omega
    · have hkl : k = l.length := by omega
      obtain ⟨r1, r2, rf1, rf2⟩ := H.out.2.1
      have HBW := mkHid H.out.2.2
      have et : Hid (ofL (l.take k) = ofL l) := mkHid (by rw [hkl, List.take_length])
      have hk1 : ¬ (k : Int) < (l.length : Int) := by omega
      clear H HA1 HA0 HB hkl
      generalize hl1 : wd (lo (ofL (l.take k))) = l1 at *
      generalize hh1 : wd (hi (ofL (l.take k))) = h1 at *
      have ES : Hid (Value.agg #[.int .u64 l1, .int .u64 h1] = sv (ofL l)) := mkHid (by rw [← et.out, ← hl1, ← hh1]; rfl)
      clear hl1 hh1 et
      go_wp2
      refine bodyPost_ret (v := .agg #[.int .u64 l1, .int .u64 h1]) (by simp [results, Try.results59, go_sem, r1, r2]) rfl ⟨by rw [ES.out], ?_⟩
      exact bst2 HBW.out _ (Nat.le_refl _) _ _
theorem of_any (v : Value) (l : List Int) (w : World) (hv : Ints w v l) (hlen : l.length ≤ 9223372036854775807) :
    Calls Try.prog 59 #[v] w fun e w' => e = .returned (sv (ofL l)) ∧ Below w.heap.size w w' := by
  rcases hv with ⟨rfl, ao, cap, rfl⟩ | ⟨b, off, cap, rfl, h3⟩
  · exact of_nil ao cap w
  · exact of_some l b off cap w hlen h3
end Go.Proofs.Ytalpbpcanebbbaa
