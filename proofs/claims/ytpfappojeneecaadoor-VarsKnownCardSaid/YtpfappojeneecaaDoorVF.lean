/- The contracts of least, First, All, Sub, Of. -/
import Derived.Test.YtpfappojeneecaaDoorVW
import Derived.Shelf.Spec.TrailingZeros
import Derived.RegionTactic
import Derived.BigRegion
namespace Go.Proofs.YtpfappojeneecaaDoor
open Go.RowKit VM

/-- The table that math/bits.TrailingZeros64 reads. -/
def Tab (w : World) : Prop := ∀ j, j < Lib.deBruijn64tab.length → w.cell? ⟨0, j, none⟩ = some (.int .u8 (Lib.deBruijn64tab.getD j 0))
theorem Tab.lt {w : World} (h : Tab w) : 0 < w.heap.size := World.block_lt_of_cell? w _ (h 0 (by decide))
theorem Tab.below {w w' : World} (h : Tab w) (hb : Below w.heap.size w w') : Tab w' := fun j hj => by rw [hb.cell h.lt]; exact h j hj
theorem Tab.drewN {w : World} (h : Tab w) (n : Nat) : Tab (w.drewN n) := h

theorem tz_core (x k idx : Nat) (w : World) (hx0 : ((x : Int) == 0) = false)
    (key : IntKind.u64.wrap (bits BinOp.and IntKind.u64 (x : Int) (IntKind.u64.wrap (-(x : Int))) * 285870213051353865) / 288230376151711744 = (idx : Int))
    (hi : idx < 64) (hk : k < 64) (hcell : w.cell? ⟨0, idx, none⟩ = some (.int .u8 k)) :
    Calls Tryd.prog 48 #[.int .u64 x] w fun e w' => e = .returned (.int .i64 k) ∧ w = w' := by
  go_enter Tryd.func48, Tryd.ntmps48
  go_wp2_with (simp only [key])
  go_ret
  exact ⟨rfl, rfl⟩
theorem tz_any (x : Nat) (hx0 : x ≠ 0) (hx : x < 18446744073709551616) (w : World) (ht : Tab w) :
    Calls Tryd.prog 48 #[.int .u64 x] w fun e w' => e = .returned (.int .i64 (Lib.ctz 64 x : Int)) ∧ w = w' := by
  obtain ⟨hlow, hk⟩ := Lib.lowest_bit 64 x hx0 hx
  obtain ⟨hi, htab⟩ := Lib.deBruijn64_at _ hk
  have hcell := ht _ hi
  rw [htab] at hcell
  exact tz_core x _ _ w (by simp; omega) (tz64_key x _ hx hx0 hlow) hi hk hcell

/-- The lowest bit of a word that is not 0. -/
def low (x : BitVec 64) : Nat := Lib.ctz 64 x.toNat
theorem ne_nat {x : BitVec 64} (h : x ≠ 0#64) : x.toNat ≠ 0 := fun e => h (BitVec.eq_of_toNat_eq (by simpa using e))
theorem low_spec (x : BitVec 64) (h : x ≠ 0#64) : low x < 64 ∧ x.getLsbD (low x) = true ∧ ∀ j, j < low x → x.getLsbD j = false := by
  obtain ⟨hlow, hk⟩ := Lib.lowest_bit 64 x.toNat (ne_nat h) x.isLt
  have e : x &&& -x = BitVec.twoPow 64 (low x) := by
    apply BitVec.eq_of_toNat_eq
    have h1 : 0 < x.toNat := Nat.pos_of_ne_zero (ne_nat h)
    have h2 : (-x).toNat = 2 ^ 64 - x.toNat := by
      rw [BitVec.toNat_neg]
      exact Nat.mod_eq_of_lt (by omega)
    rw [BitVec.toNat_and, h2, BitVec.toNat_twoPow, Nat.mod_eq_of_lt (show 2 ^ low x < 2 ^ 64 from Nat.pow_lt_pow_right (by omega) hk)]
    exact hlow
  have hb : ∀ i, (x &&& -x).getLsbD i = (decide (low x < 64) && decide (low x = i)) := fun i => by rw [e, BitVec.getLsbD_twoPow]
  have h3 : (x &&& -x).getLsbD (low x) = true := by
    rw [hb]; simp only [decide_true, Bool.and_true, decide_eq_true_eq]; exact hk
  rw [BitVec.getLsbD_and, BitVec.getLsbD_neg] at h3
  simp only [Bool.and_eq_true] at h3
  obtain ⟨hx, hn⟩ := h3
  refine ⟨hk, hx, fun j hj => ?_⟩
  rw [hx] at hn
  have h64 : low x < 64 := hk
  simp only [h64, decide_true, Bool.true_and, Bool.true_bne, Bool.not_eq_true', decide_eq_false_iff_not, not_exists, not_and] at hn
  simpa using hn j hj

theorem least_any (i : Int) (x : BitVec 64) (w : World) (hi : 0 ≤ i ∧ i ≤ 1) (hx : x ≠ 0#64) (ht : Tab w) :
    Calls Tryd.prog 46 #[.int .i64 i, .int .u64 (wd x)] w fun e w' => e = .returned (.int .i64 (i * 64 + (low x : Nat) + 1)) ∧ w = w' := by
  have C := mkHid (tz_any x.toNat (ne_nat hx) x.isLt w ht)
  have hk := (low_spec x hx).1
  change Hid (Calls Tryd.prog 48 #[.int .u64 (wd x)] w fun e w' => e = .returned (.int .i64 ((low x : Nat) : Int)) ∧ w = w') at C
  generalize wd x = X at *
  generalize low x = k at *
  clear hx ht
  go_enter Tryd.func46, Tryd.ntmps46
  go_wp2_with (go_at_call 48; refine C.out.mono ?_; rintro e w' ⟨rfl, rfl⟩)
  go_ret
  exact ⟨rfl, rfl⟩

/-- The least variable, 0 if there is none. -/
def firstV (s : BitVec 128) : Int := if lo s ≠ 0#64 then (low (lo s) : Int) + 1 else if hi s ≠ 0#64 then 64 + (low (hi s) : Int) + 1 else 0

set_option maxRecDepth 100000 in
set_option maxHeartbeats 1000000 in
theorem first_any (s : BitVec 128) (w : World) (ht : Tab w) :
    Calls Tryd.prog 37 #[sv s] w fun e w' => e = .returned (.int .i64 (firstV s)) ∧ Below w.heap.size w w' := by
  have HT := mkHid (ht.below (bal (Below.refl _ _) (.cells #[.int .u64 (wd (lo s)), .int .u64 (wd (hi s))] 26)))
  clear ht
  unfold sv firstV
  by_cases h0 : lo s ≠ 0#64
  · have C := mkHid (least_any 0 (lo s) _ (by omega) h0 HT.out)
    have hne : ¬ wd (lo s) = 0 := fun k => h0 ((wd_eq0 _).1 k)
    rw [if_pos h0]
    clear h0 HT
    generalize wd (lo s) = al at *
    generalize wd (hi s) = ah at *
    generalize low (lo s) = k at *
    go_enter Tryd.func37, Tryd.ntmps37
    go_wp2_with (go_at_call 46; refine C.out.mono ?_; rintro e w' ⟨rfl, rfl⟩)
    go_ret
    exact ⟨by simp, bal (Below.refl _ _) _⟩
  · rw [if_neg h0]
    have h0' : lo s = 0#64 := Classical.byContradiction h0
    have hz := (wd_eq0 (lo s)).2 h0'
    clear h0
    by_cases h1 : hi s ≠ 0#64
    · have C := mkHid (least_any 1 (hi s) _ (by omega) h1 HT.out)
      have hne : ¬ wd (hi s) = 0 := fun k => h1 ((wd_eq0 _).1 k)
      rw [if_pos h1]
      rw [hz] at C ⊢
      clear h1 HT hz h0'
      generalize wd (hi s) = ah at *
      generalize low (hi s) = k at *
      go_enter Tryd.func37, Tryd.ntmps37
      go_wp2_with (go_at_call 46; refine C.out.mono ?_; rintro e w' ⟨rfl, rfl⟩)
      go_ret
      exact ⟨by simp, bal (Below.refl _ _) _⟩
    · rw [if_neg h1]
      have hy := (wd_eq0 (hi s)).2 (Classical.byContradiction h1)
      rw [hz, hy]
      clear HT hz hy h1 h0'
      go_enter Tryd.func37, Tryd.ntmps37
      go_wp2
      go_ret
      exact ⟨rfl, bal (Below.refl _ _) _⟩

theorem sv_inj {a b : BitVec 128} (h : wd (lo a) = wd (lo b)) (k : wd (hi a) = wd (hi b)) : a = b := ext_lohi (wd_inj.1 h) (wd_inj.1 k)
def subV (a b : BitVec 128) : Bool := decide (a &&& ~~~b = 0#128)

theorem sv_empty : sv 0#128 = .agg #[.int .u64 0, .int .u64 0] := rfl
set_option maxRecDepth 100000 in
set_option maxHeartbeats 1000000 in
theorem sub_any (a b : BitVec 128) (w : World) :
    Calls Tryd.prog 31 #[sv a, sv b] w fun e w' => e = .returned (.bool (subV a b)) ∧ Below w.heap.size w w' := by
  have C := mkHid (fun W => minus_any a b W)
  have E := eq_sets (a &&& ~~~b) 0#128
  rw [sv_empty] at E
  unfold subV
  generalize decide (a &&& ~~~b = 0#128) = r at *
  unfold sv at *
  generalize wd (lo a) = al at *
  generalize wd (lo b) = bl at *
  generalize wd (hi a) = ah at *
  generalize wd (hi b) = bh at *
  generalize wd (lo (a &&& ~~~b)) = cl at *
  generalize wd (hi (a &&& ~~~b)) = ch at *
  go_enter Tryd.func31, Tryd.ntmps31
  go_wp2_with (go_at_call 29; refine (C.out _).mono ?_; rintro e w' ⟨rfl, hb⟩)
  go_ret
  exact ⟨rfl, bnx (bal (bal (Below.refl _ _) _) _) hb⟩

set_option maxRecDepth 100000 in
set_option maxHeartbeats 1000000 in
theorem all_any (n : Int) (w : World) (hlo : -9223372036854775808 ≤ n) (hhi : n ≤ 9223372036854775807) :
    Calls Tryd.prog 17 #[.int .i64 n] w fun e w' => e = .returned (sv (all n)) ∧ Below w.heap.size w w' := by
  unfold sv
  by_cases h0 : n < 0
  · have el : wd (lo (all n)) = 0 := by rw [lo_all, show n.toNat = 0 by omega]; rfl
    have er : wd (hi (all n)) = 0 := by rw [hi_all, show (n - 64).toNat = 0 by omega]; rfl
    rw [el, er]
    clear el er
    go_enter Tryd.func17, Tryd.ntmps17
    go_wp2
    go_region
    go_wp2
    refine bodyPost_ret (v := .agg #[.int .u64 0, .int .u64 0]) (by simp [results, Tryd.results17, go_sem]) rfl ⟨rfl, ?_⟩
    exact (bal (Below.refl _ _) _).drew
  · have h1 : 0 ≤ n := by omega
    have e1 : IntKind.i64.wrap (n - 64) = n - 64 := IntWalk.i64_in _ (by omega)
    clear hlo
    by_cases h2 : n < 64
    · have h3 : n - 64 < 0 := by omega
      have el : IntKind.u64.wrap (IntKind.u64.wrap (2 ^ n.toNat) - 1) = wd (lo (all n)) := by rw [lo_all, show min n.toNat 64 = n.toNat by omega]; exact ones _ (by omega)
      have er : wd (hi (all n)) = 0 := by rw [hi_all, show (n - 64).toNat = 0 by omega]; rfl
      rw [er]
      clear er
      generalize wd (lo (all n)) = L at *
      go_enter Tryd.func17, Tryd.ntmps17
      go_wp2
      go_region
      go_wp2
      refine bodyPost_ret (v := .agg #[.int .u64 L, .int .u64 0]) (by simp [results, Tryd.results17, go_sem]) rfl ⟨rfl, ?_⟩
      exact (bal (Below.refl _ _) _).drew
    · have h3 : ¬ n - 64 < 0 := by omega
      have h4 : 0 ≤ n - 64 := by omega
      have el : IntKind.u64.wrap (IntKind.u64.wrap 18446744073709551616 - 1) = wd (lo (all n)) := by rw [lo_all, show min n.toNat 64 = 64 by omega]; exact ones 64 (by omega)
      have er : IntKind.u64.wrap (IntKind.u64.wrap (2 ^ min (n - 64).toNat 64) - 1) = wd (hi (all n)) := by rw [hi_all]; exact ones _ (by omega)
      generalize wd (lo (all n)) = L at *
      generalize wd (hi (all n)) = R at *
      go_enter Tryd.func17, Tryd.ntmps17
      go_wp2
      go_region
      go_wp2
      refine bodyPost_ret (v := .agg #[.int .u64 L, .int .u64 R]) (by simp [results, Tryd.results17, go_sem]) rfl ⟨rfl, ?_⟩
      exact (bal (Below.refl _ _) _).drew
end Go.Proofs.YtpfappojeneecaaDoor
