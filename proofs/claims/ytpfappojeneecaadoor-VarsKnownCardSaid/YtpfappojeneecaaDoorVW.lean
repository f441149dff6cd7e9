/- Walks over sets: the contracts of package vars. -/
import Derived.Test.YtpfappojeneecaaDoorProg
import Derived.Test.YtpfappojeneecaaDoorVM
import Derived.WalkKit
import Derived.WalkSpells
import Derived.WalkLawsBesides
import Derived.Lib.Hide
import Derived.Laws.Externs
import Derived.StillTailTactics
import Derived.Deep.QuietTactic
import Derived.BigQuiet
import Derived.Handy
import Derived.Deep.Draws
import Derived.IntWalk
import Derived.ChangeKeysEq
import Derived.Shelf.Spec.TrailingZeros
namespace Go.Proofs.YtpfappojeneecaaDoor
open Go.RowKit VM

theorem mkHid {p : Prop} (h : p) : Hid p := h
/-- A set as the model has it. -/
def sv (s : BitVec 128) : Value := .agg #[.int .u64 (wd (lo s)), .int .u64 (wd (hi s))]

theorem bal {w w' : World} (h : Below w.heap.size w w') (o : Obj) : Below w.heap.size w (w'.alloc o) := h.alloc h.size o
theorem bdr {w w' : World} (h : Below w.heap.size w w') (n : Nat) : Below w.heap.size w (w'.drewN n) := ⟨h.os, h.tape, h.output, h.size, h.block⟩
theorem bst {w w' : World} (h : Below w.heap.size w w') {p : Addr} (hp : w.heap.size ≤ p.block) (u : Value) : Below w.heap.size w (w'.setCell p u) := h.setCell hp u
theorem bnx {w w' w2 : World} (h : Below w.heap.size w w') (k : Below w'.heap.size w' w2) : Below w.heap.size w w2 := h.trans (k.mono h.size)

theorem eq_words (w : World) (x0 x1 y0 y1 : Int) :
    (Op.equalIn 10000 26 (.agg #[.int .u64 x0, .int .u64 x1]) (.agg #[.int .u64 y0, .int .u64 y1])).run Tryd.prog w = .ok (x0 == y0 && x1 == y1) w := by
  obtain ⟨i, hi, _⟩ := info_parts (show (Tryd.prog.info? 24).map (fun i => (i.zero, i.size, i.bytes)) = some (some (.int .u64 0), 1, 8) by kernel_rfl)
  have hu : Tryd.prog.underlying 26 = some (.array 2 24) := Tryd.underlying26
  have he : Tryd.prog.underlying 24 = some (.int .u64) := Tryd.underlying24
  have hc : Tryd.prog.cellsOf 24 = 1 := by kernel_rfl
  rw [run_equalIn_array w 9999 _ _ hu hi, hc]
  have p0 : ∀ (a b : Int) (w : World), (part 24 #[.int .u64 a, .int .u64 b] 0).run Tryd.prog w = .ok (.int .u64 a) w := fun a b w => by simp [part, isAgg, run_underlying he]
  have p1 : ∀ (a b : Int) (w : World), (part 24 #[.int .u64 a, .int .u64 b] 1).run Tryd.prog w = .ok (.int .u64 b) w := fun a b w => by simp [part, isAgg, run_underlying he]
  have pe : ∀ (a b : Int) (w : World), (Op.equalIn 9999 24 (.int .u64 a) (.int .u64 b)).run Tryd.prog w = .ok (a == b) w := fun a b w => run_equalIn_int w 9998 _ .u64 .u64 _ _ he
  simp only [List.range, List.range.loop, Op.eqItems, Sem.run_bind, Nat.mul_one, p0, pe, Result.andThen_ok]
  cases x0 == y0
  · simp
  · simp only [Bool.not_true, Bool.false_eq_true, if_false, Sem.run_bind, p1, pe, Result.andThen_ok, Bool.true_and]
    cases x1 == y1 <;> simp
/-- '==' of two sets. -/
theorem eq_sets (a b : BitVec 128) (w : World) : (Op.equalIn 10000 26 (sv a) (sv b)).run Tryd.prog w = .ok (decide (a = b)) w := by
  unfold sv
  rw [eq_words]
  congr 1
  rw [Bool.eq_iff_iff]
  simp only [Bool.and_eq_true, beq_iff_eq, decide_eq_true_eq, wd_inj]
  exact ⟨fun ⟨h, k⟩ => ext_lohi h k, fun h => by rw [h]; exact ⟨rfl, rfl⟩⟩

set_option maxRecDepth 100000 in
set_option maxHeartbeats 1000000 in
theorem cut_any (a b : BitVec 128) (w : World) :
    Calls Tryd.prog 27 #[sv a, sv b] w fun e w' => e = .returned (sv (a &&& b)) ∧ Below w.heap.size w w' := by
  have h1 := and_wd (lo a) (lo b)
  have h2 := and_wd (hi a) (hi b)
  rw [← lo_and] at h1
  rw [← hi_and] at h2
  unfold sv
  generalize wd (lo a) = al at *
  generalize wd (lo b) = bl at *
  generalize wd (hi a) = ah at *
  generalize wd (hi b) = bh at *
  generalize wd (lo (a &&& b)) = cl at *
  generalize wd (hi (a &&& b)) = ch at *
  go_enter Tryd.func27, Tryd.ntmps27
  go_wp2
  refine bodyPost_ret (v := .agg #[.int .u64 cl, .int .u64 ch]) (by simp [results, Tryd.results27, go_sem]) rfl ⟨rfl, ?_⟩
  exact bal (bal (bal (Below.refl _ _) _) _) _

set_option maxRecDepth 100000 in
set_option maxHeartbeats 1000000 in
theorem union_any (a b : BitVec 128) (w : World) :
    Calls Tryd.prog 25 #[sv a, sv b] w fun e w' => e = .returned (sv (a ||| b)) ∧ Below w.heap.size w w' := by
  have h1 := or_wd (lo a) (lo b)
  have h2 := or_wd (hi a) (hi b)
  rw [← lo_or] at h1
  rw [← hi_or] at h2
  unfold sv
  generalize wd (lo a) = al at *
  generalize wd (lo b) = bl at *
  generalize wd (hi a) = ah at *
  generalize wd (hi b) = bh at *
  generalize wd (lo (a ||| b)) = cl at *
  generalize wd (hi (a ||| b)) = ch at *
  go_enter Tryd.func25, Tryd.ntmps25
  go_wp2
  refine bodyPost_ret (v := .agg #[.int .u64 cl, .int .u64 ch]) (by simp [results, Tryd.results25, go_sem]) rfl ⟨rfl, ?_⟩
  exact bal (bal (bal (Below.refl _ _) _) _) _

set_option maxRecDepth 100000 in
set_option maxHeartbeats 1000000 in
theorem minus_any (a b : BitVec 128) (w : World) :
    Calls Tryd.prog 29 #[sv a, sv b] w fun e w' => e = .returned (sv (a &&& ~~~b)) ∧ Below w.heap.size w w' := by
  have h1 := andNot_wd (lo a) (lo b)
  have h2 := andNot_wd (hi a) (hi b)
  rw [← lo_minus] at h1
  rw [← hi_minus] at h2
  unfold sv
  generalize wd (lo a) = al at *
  generalize wd (lo b) = bl at *
  generalize wd (hi a) = ah at *
  generalize wd (hi b) = bh at *
  generalize wd (lo (a &&& ~~~b)) = cl at *
  generalize wd (hi (a &&& ~~~b)) = ch at *
  go_enter Tryd.func29, Tryd.ntmps29
  go_wp2
  refine bodyPost_ret (v := .agg #[.int .u64 cl, .int .u64 ch]) (by simp [results, Tryd.results29, go_sem]) rfl ⟨rfl, ?_⟩
  exact bal (bal (bal (Below.refl _ _) _) _) _

set_option maxRecDepth 100000 in
set_option maxHeartbeats 1000000 in
theorem place_none (v : Int) (w : World) (hv : ¬ (1 ≤ v ∧ v ≤ 128)) :
    Calls Tryd.prog 43 #[.int .i64 v] w fun e w' => e = .returned (.tuple #[.int .i64 0, .int .u64 0]) ∧ w = w' := by
  by_cases h1 : v < 1
  · go_enter Tryd.func43, Tryd.ntmps43
    go_wp2
    go_ret2
    exact ⟨rfl, rfl⟩
  · have h2 : 128 < v := by omega
    go_enter Tryd.func43, Tryd.ntmps43
    go_wp2
    go_ret2
    exact ⟨rfl, rfl⟩

set_option maxRecDepth 100000 in
set_option maxHeartbeats 1000000 in
theorem place_some (v : Int) (w : World) (h1 : 1 ≤ v) (h2 : v ≤ 128) :
    Calls Tryd.prog 43 #[.int .i64 v] w fun e w' => e = .returned (.tuple #[.int .i64 ((v - 1) / 64), .int .u64 (2 ^ ((v - 1) % 64).toNat)]) ∧ ∃ n, w' = w.drewN n := by
  have h3 : ¬ v < 1 := by omega
  have h4 : ¬ 128 < v := by omega
  have e1 : IntKind.i64.wrap (v - 1) = v - 1 := IntWalk.i64_in _ (by omega)
  have e2 : (0:Int) ≤ v - 1 := by omega
  have e3 : IntKind.u64.wrap (2 ^ ((v - 1) % 64).toNat) = 2 ^ ((v - 1) % 64).toNat := by
    have h5 : ((v - 1) % 64).toNat < 64 := by omega
    have h6 : 2 ^ ((v - 1) % 64).toNat < 2 ^ 64 := Nat.pow_lt_pow_right (by omega) h5
    have h7 : ((2 : Int) ^ ((v - 1) % 64).toNat) = ((2 ^ ((v - 1) % 64).toNat : Nat) : Int) := by simp
    rw [IntKind.wrap_u64, h7]
    generalize 2 ^ ((v - 1) % 64).toNat = m at *
    omega
  go_enter Tryd.func43, Tryd.ntmps43
  go_wp2
  go_quiet (fail)
  go_wp2
  go_ret2
  exact ⟨rfl, _, rfl⟩

/-- place, where the bit lies in the first word, or nowhere. -/
theorem place_low (v : Int) (w : World) (h : ¬ (65 ≤ v ∧ v ≤ 128)) :
    Calls Tryd.prog 43 #[.int .i64 v] w fun e w' => e = .returned (.tuple #[.int .i64 0, .int .u64 (wd (lo (bit v)))]) ∧ ∃ n, w' = w.drewN n := by
  by_cases h1 : 1 ≤ v ∧ v ≤ 128
  · refine (place_some v w h1.1 h1.2).mono fun e w' ⟨he, hw⟩ => ⟨?_, hw⟩
    rw [he, lo_low v h1.1 (by omega), show (v - 1) / 64 = 0 by omega, show (v - 1) % 64 = v - 1 by omega]
  · refine (place_none v w h1).mono fun e w' ⟨he, hw⟩ => ⟨?_, 0, hw ▸ rfl⟩
    rw [he, bit_none v h1, lo_zero, wd_zero]
theorem place_high (v : Int) (w : World) (h : 65 ≤ v ∧ v ≤ 128) :
    Calls Tryd.prog 43 #[.int .i64 v] w fun e w' => e = .returned (.tuple #[.int .i64 1, .int .u64 (wd (hi (bit v)))]) ∧ ∃ n, w' = w.drewN n := by
  refine (place_some v w (by omega) h.2).mono fun e w' ⟨he, hw⟩ => ⟨?_, hw⟩
  rw [he, hi_high v h.1 h.2, show (v - 1) / 64 = 1 by omega, show (v - 1) % 64 = v - 65 by omega]

set_option maxRecDepth 100000 in
set_option maxHeartbeats 1000000 in
theorem with_any (s : BitVec 128) (v : Int) (w : World) :
    Calls Tryd.prog 21 #[sv s, .int .i64 v] w fun e w' => e = .returned (sv (withV s v)) ∧ Below w.heap.size w w' := by
  unfold sv
  by_cases h : 65 ≤ v ∧ v ≤ 128
  · have C := mkHid (fun w => place_high v w h)
    have h1 := or_wd (hi s) (hi (bit v))
    rw [lo_with, hi_with, lo_high v h.1, or_zero]
    clear h
    generalize wd (lo s) = al at *
    generalize wd (hi s) = ah at *
    generalize wd (hi (bit v)) = m at *
    generalize wd (hi s ||| hi (bit v)) = ch at *
    go_enter Tryd.func21, Tryd.ntmps21
    go_wp2_with (go_at_call 43; refine (C.out _).mono ?_; rintro e w2 ⟨rfl, n, rfl⟩)
    refine bodyPost_ret (v := .agg #[.int .u64 al, .int .u64 ch]) (by simp [results, Tryd.results21, go_sem]) rfl ⟨rfl, ?_⟩
    exact bst (bst (bst (bdr (bal (bal (Below.refl _ _) _) _) _) (Nat.le_refl _) _) (Nat.le_succ _) _) (Nat.le_succ _) _
  · have C := mkHid (fun w => place_low v w h)
    have h1 := or_wd (lo s) (lo (bit v))
    rw [lo_with, hi_with, hi_low v h, or_zero]
    clear h
    generalize wd (lo s) = al at *
    generalize wd (hi s) = ah at *
    generalize wd (lo (bit v)) = m at *
    generalize wd (lo s ||| lo (bit v)) = ch at *
    go_enter Tryd.func21, Tryd.ntmps21
    go_wp2_with (go_at_call 43; refine (C.out _).mono ?_; rintro e w2 ⟨rfl, n, rfl⟩)
    refine bodyPost_ret (v := .agg #[.int .u64 ch, .int .u64 ah]) (by simp [results, Tryd.results21, go_sem]) rfl ⟨rfl, ?_⟩
    exact bst (bst (bst (bdr (bal (bal (Below.refl _ _) _) _) _) (Nat.le_refl _) _) (Nat.le_succ _) _) (Nat.le_succ _) _
set_option maxRecDepth 100000 in
set_option maxHeartbeats 1000000 in
theorem without_any (s : BitVec 128) (v : Int) (w : World) :
    Calls Tryd.prog 23 #[sv s, .int .i64 v] w fun e w' => e = .returned (sv (without s v)) ∧ Below w.heap.size w w' := by
  unfold sv
  by_cases h : 65 ≤ v ∧ v ≤ 128
  · have C := mkHid (fun w => place_high v w h)
    have h1 := andNot_wd (hi s) (hi (bit v))
    rw [lo_without, hi_without, lo_high v h.1, minus_zero]
    clear h
    generalize wd (lo s) = al at *
    generalize wd (hi s) = ah at *
    generalize wd (hi (bit v)) = m at *
    generalize wd (hi s &&& ~~~hi (bit v)) = ch at *
    go_enter Tryd.func23, Tryd.ntmps23
    go_wp2_with (go_at_call 43; refine (C.out _).mono ?_; rintro e w2 ⟨rfl, n, rfl⟩)
    refine bodyPost_ret (v := .agg #[.int .u64 al, .int .u64 ch]) (by simp [results, Tryd.results23, go_sem]) rfl ⟨rfl, ?_⟩
    exact bst (bst (bst (bdr (bal (bal (Below.refl _ _) _) _) _) (Nat.le_refl _) _) (Nat.le_succ _) _) (Nat.le_succ _) _
  · have C := mkHid (fun w => place_low v w h)
    have h1 := andNot_wd (lo s) (lo (bit v))
    rw [lo_without, hi_without, hi_low v h, minus_zero]
    clear h
    generalize wd (lo s) = al at *
    generalize wd (hi s) = ah at *
    generalize wd (lo (bit v)) = m at *
    generalize wd (lo s &&& ~~~lo (bit v)) = ch at *
    go_enter Tryd.func23, Tryd.ntmps23
    go_wp2_with (go_at_call 43; refine (C.out _).mono ?_; rintro e w2 ⟨rfl, n, rfl⟩)
    refine bodyPost_ret (v := .agg #[.int .u64 ch, .int .u64 ah]) (by simp [results, Tryd.results23, go_sem]) rfl ⟨rfl, ?_⟩
    exact bst (bst (bst (bdr (bal (bal (Below.refl _ _) _) _) _) (Nat.le_refl _) _) (Nat.le_succ _) _) (Nat.le_succ _) _
set_option maxRecDepth 100000 in
set_option maxHeartbeats 1000000 in
theorem has_any (s : BitVec 128) (v : Int) (w : World) :
    Calls Tryd.prog 19 #[sv s, .int .i64 v] w fun e w' => e = .returned (.bool (has s v)) ∧ Below w.heap.size w w' := by
  unfold sv
  by_cases h : 65 ≤ v ∧ v ≤ 128
  · have C := mkHid (fun w => place_high v w h)
    have h1 := and_wd (hi s) (hi (bit v))
    have h0 := dz (hi s &&& hi (bit v))
    rw [has_high s v h.1, h0]
    clear h h0
    generalize wd (lo s) = al at *
    generalize wd (hi s) = ah at *
    generalize wd (hi (bit v)) = m at *
    generalize wd (hi s &&& hi (bit v)) = ch at *
    go_enter Tryd.func19, Tryd.ntmps19
    go_wp2_with (go_at_call 43; refine (C.out _).mono ?_; rintro e w2 ⟨rfl, n, rfl⟩)
    go_ret
    exact ⟨rfl, bdr (bal (Below.refl _ _) _) _⟩
  · have C := mkHid (fun w => place_low v w h)
    have h1 := and_wd (lo s) (lo (bit v))
    have h0 := dz (lo s &&& lo (bit v))
    rw [has_low s v h, h0]
    clear h h0
    generalize wd (lo s) = al at *
    generalize wd (hi s) = ah at *
    generalize wd (lo (bit v)) = m at *
    generalize wd (lo s &&& lo (bit v)) = ch at *
    go_enter Tryd.func19, Tryd.ntmps19
    go_wp2_with (go_at_call 43; refine (C.out _).mono ?_; rintro e w2 ⟨rfl, n, rfl⟩)
    go_ret
    exact ⟨rfl, bdr (bal (Below.refl _ _) _) _⟩

set_option maxRecDepth 100000 in
set_option maxHeartbeats 1000000 in
theorem less_any (a b : BitVec 128) (w : World) :
    Calls Tryd.prog 39 #[sv a, sv b] w fun e w' => e = .returned (.bool (less a b)) ∧ Below w.heap.size w w' := by
  unfold sv
  by_cases h : lo a = lo b
  · rw [less_high a b h]
    have hx := xor_wd (hi a) (hi b)
    have hn := neg_wd (hi a ^^^ hi b)
    have ha1 := and_wd (hi b) (hi a ^^^ hi b)
    have ha2 := and_wd (hi b &&& (hi a ^^^ hi b)) (-(hi a ^^^ hi b))
    have hz := dz (hi b &&& (hi a ^^^ hi b) &&& -(hi a ^^^ hi b))
    have hl : lessW (hi a) (hi b) = !decide (hi b &&& (hi a ^^^ hi b) &&& -(hi a ^^^ hi b) = 0#64) := rfl
    rw [hl, h, hz]
    clear hl h hz
    generalize wd (hi b &&& (hi a ^^^ hi b) &&& -(hi a ^^^ hi b)) = ch at *
    generalize wd (hi b &&& (hi a ^^^ hi b)) = x1 at *
    generalize wd (-(hi a ^^^ hi b)) = x2 at *
    generalize wd (hi a ^^^ hi b) = x3 at *
    generalize wd (lo b) = bl at *
    generalize wd (hi a) = ah at *
    generalize wd (hi b) = bh at *
    generalize wd (lo a) = al at *
    go_enter Tryd.func39, Tryd.ntmps39
    go_wp2
    go_quiet (fail)
    go_wp2
    go_ret
    exact ⟨rfl, bdr (bal (bal (Below.refl _ _) _) _) _⟩
  · rw [less_low a b h]
    have hne : ¬ wd (lo a) = wd (lo b) := fun k => h (wd_inj.1 k)
    have hx := xor_wd (lo a) (lo b)
    have hn := neg_wd (lo a ^^^ lo b)
    have ha1 := and_wd (lo b) (lo a ^^^ lo b)
    have ha2 := and_wd (lo b &&& (lo a ^^^ lo b)) (-(lo a ^^^ lo b))
    have hz := dz (lo b &&& (lo a ^^^ lo b) &&& -(lo a ^^^ lo b))
    have hl : lessW (lo a) (lo b) = !decide (lo b &&& (lo a ^^^ lo b) &&& -(lo a ^^^ lo b) = 0#64) := rfl
    rw [hl, hz]
    clear hl h hz
    generalize wd (lo b &&& (lo a ^^^ lo b) &&& -(lo a ^^^ lo b)) = ch at *
    generalize wd (lo b &&& (lo a ^^^ lo b)) = x1 at *
    generalize wd (-(lo a ^^^ lo b)) = x2 at *
    generalize wd (lo a ^^^ lo b) = x3 at *
    generalize wd (lo b) = bl at *
    generalize wd (hi a) = ah at *
    generalize wd (hi b) = bh at *
    generalize wd (lo a) = al at *
    go_enter Tryd.func39, Tryd.ntmps39
    go_wp2
    go_quiet (fail)
    go_wp2
    go_ret
    exact ⟨rfl, bdr (bal (bal (Below.refl _ _) _) _) _⟩
end Go.Proofs.YtpfappojeneecaaDoor
