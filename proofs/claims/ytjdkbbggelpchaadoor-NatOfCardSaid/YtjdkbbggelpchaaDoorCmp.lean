/- Comparisons; low bits. -/
import Derived.Test.YtjdkbbggelpchaaDoorW2
import Derived.Test.YtjdkbbggelpchaaDoorShelf
import Derived.Test.YtjdkbbggelpchaaDoorBits
import Derived.Shelf.Spec.TrailingZeros
namespace Go.Proofs.YtjdkbbggelpchaaDoor
open Go.RowKit

set_option maxHeartbeats 400000 in
theorem compare64_any (x y : Nat) (w : World) :
    Calls Tryd.prog 46 #[.int .u64 x, .int .u64 y] w fun e w' => e = .returned (.int .i64 (Lib.compareInt x y)) ∧ w' = w := by
  by_cases h1 : (x : Int) < (y : Int)
  · have hc : Lib.compareInt x y = -1 := by unfold Lib.compareInt; rw [if_pos h1]
    go_enter Tryd.func46, Tryd.ntmps46
    go_wp2
    go_ret
    exact ⟨by first | rfl | (rw [hc]; rfl), rfl⟩
  · by_cases h2 : (y : Int) < (x : Int)
    · have hc : Lib.compareInt x y = 1 := by unfold Lib.compareInt; rw [if_neg h1, if_pos (show (x : Int) > y from h2)]
      go_enter Tryd.func46, Tryd.ntmps46
      go_wp2
      go_ret
      exact ⟨by first | rfl | (rw [hc]; rfl), rfl⟩
    · have hc : Lib.compareInt x y = 0 := by unfold Lib.compareInt; rw [if_neg h1, if_neg (show ¬ (x : Int) > y from h2)]
      go_enter Tryd.func46, Tryd.ntmps46
      go_wp2
      go_ret
      exact ⟨by first | rfl | (rw [hc]; rfl), rfl⟩

/-- The first one that is not 0. -/
def orI : List Int → Int
  | [] => 0
  | z :: zs => if z = 0 then orI zs else z

set_option maxHeartbeats 400000 in
theorem or_any (b : Nat) (zs : List Int) (cap : Nat) (w : World) (hb : zs.length ≤ 1000) (hc : ∀ j (h : j < zs.length), w.cell? ⟨b, j, none⟩ = some (.int .i64 zs[j])) :
    Calls Tryd.prog 43 #[.slice (some ⟨b, 0, none⟩) zs.length cap] w fun e w' => e = .returned (.int .i64 (orI zs)) ∧ w' = w := by
  have HC := Lib.hid hc; clear hc
  go_enter Tryd.func43, Tryd.ntmps43
  go_wp2
  go_loop [8] (fun iv => ∃ i : Nat, i ≤ zs.length ∧ iv = .int .i64 i ∧ Hid (orI (zs.drop i) = orI zs)) (fun iv => zs.length - (intOf iv).toNat)
  case atStart => exact ⟨0, by omega, rfl, rfl⟩
  case round =>
    obtain ⟨i, hi, rfl, H⟩ := hrel
    by_cases hlt : i < zs.length
    · have hcell := HC.out i hlt
      obtain ⟨z, ez⟩ : ∃ z, zs[i] = z := ⟨_, rfl⟩
      rw [ez] at hcell
      have hd : zs.drop i = z :: zs.drop (i + 1) := by rw [← ez]; exact List.drop_eq_getElem_cons hlt
      have H2 : Hid ((if z = 0 then orI (zs.drop (i + 1)) else z) = orI zs) := mkHid (by rw [← H.out, hd]; rfl)
      clear ez hd
      by_cases hz : z = 0
      · subst hz
        go_wp2
        go_round
        case rel => exact ⟨i + 1, hlt, by go_num, mkHid (by have := H2.out; rwa [if_pos rfl] at this)⟩
        case measure => simp [intOf]; omega
      · have hzb : (z == 0) = false := by simpa using hz
        have hzn : (z != 0) = true := by simpa using hz
        go_wp2
        go_ret
        exact ⟨by have := H2.out; rw [if_neg hz] at this; rw [← this]; rfl, rfl⟩
    · have hie : i = zs.length := by omega
      subst hie
      go_wp2
      go_ret
      exact ⟨by rw [← H.out]; simp [orI], rfl⟩

/-- The tables that the library's functions read. -/
def Tabs (w : World) : Prop := (∀ j, j < Lib.deBruijn64tab.length → w.cell? ⟨3, j, none⟩ = some (.int .u8 (Lib.deBruijn64tab.getD j 0))) ∧ Lib.TabIs Tryd.prog w "internal/strconv.uint64pow10" .u64 Lib.pow10Tab
theorem Tabs.below {w w' : World} {B : Nat} (h : Tabs w) (hb : Below B w w') (hB : 6 ≤ B) : Tabs w' := by
  refine ⟨fun j hj => ?_, ?_⟩
  · rw [hb.cell (show 3 < B by omega)]; exact h.1 j hj
  · have h2 := h.2
    unfold Lib.TabIs World.var? at h2 ⊢
    have hg : Tryd.prog.globalNamed "internal/strconv.uint64pow10" = some 4 := by kernel_rfl
    rw [hg] at h2 ⊢
    simp only [Option.bind_some] at h2 ⊢
    rw [hb.block _ (by omega)]; exact h2
theorem Tabs.wr {w w' : World} {b lo hi : Nat} (h : Tabs w) (hw : Wr w w' b lo hi) (hb : 6 ≤ b) (hs : 6 ≤ w.heap.size) : Tabs w' := h.below (hw.toBelow hb hs) (Nat.le_refl _)
theorem Tabs.drewN {w : World} (h : Tabs w) (n : Nat) : Tabs (w.drewN n) := h

theorem tz_core (x k idx : Nat) (w : World) (hx0 : ((x : Int) == 0) = false)
    (key : IntKind.u64.wrap (bits BinOp.and IntKind.u64 (x : Int) (IntKind.u64.wrap (-(x : Int))) * 285870213051353865) / 288230376151711744 = (idx : Int))
    (hi : idx < 64) (hk : k < 64) (hcell : w.cell? ⟨3, idx, none⟩ = some (.int .u8 k)) :
    Calls Tryd.prog 79 #[.int .u64 x] w fun e w' => e = .returned (.int .i64 k) ∧ w' = w := by
  go_enter Tryd.func79, Tryd.ntmps79
  go_wp2_with (simp only [key])
  go_ret
  exact ⟨rfl, rfl⟩

theorem tz_any (x : Nat) (hx0 : x ≠ 0) (hx : x < 18446744073709551616) (w : World) (ht : Tabs w) :
    Calls Tryd.prog 79 #[.int .u64 x] w fun e w' => e = .returned (.int .i64 (Lib.ctz 64 x : Int)) ∧ w' = w := by
  obtain ⟨hlow, hk⟩ := Lib.lowest_bit 64 x hx0 hx
  obtain ⟨hi, htab⟩ := Lib.deBruijn64_at _ hk
  have hcell := ht.1 _ hi
  rw [htab] at hcell
  exact tz_core x _ _ w (by simp; omega) (tz64_key x _ hx hx0 hlow) hi hk hcell

set_option maxHeartbeats 400000 in
theorem zeroBits_any (b off cap : Nat) (l : List Nat) (w : World) (hw : Words w b off l) (hlen : l.length ≤ 1000000) (okl : M.Ok l) (hv : M.val l ≠ 0) (ht : Tabs w) :
    Calls Tryd.prog 71 #[.slice (some ⟨b, off, none⟩) l.length cap] w fun e w' => ∃ z : Nat, e = .returned (.int .i64 z) ∧ w' = w ∧ Hid (z < 64 * l.length ∧ ∃ m, M.val l = 2 ^ z * (2 * m + 1)) := by
  have HW := Lib.hid hw; clear hw
  have OL := Lib.hid okl; clear okl
  have HV := Lib.hid hv; clear hv
  have HT := Lib.hid ht; clear ht
  have hpos : Hid (∀ i, M.val (l.take i) = 0 → i < l.length) := mkHid fun i hi => by
    apply Nat.lt_of_not_le; intro hle
    rw [List.take_of_length_le hle] at hi; exact HV.out hi
  go_enter Tryd.func71, Tryd.ntmps71
  go_wp2
  go_loop [3] (fun iv => ∃ i : Nat, i < l.length ∧ iv = .int .i64 i ∧ Hid (M.val (l.take i) = 0)) (fun iv => l.length - (intOf iv).toNat)
  case atStart => exact ⟨0, hpos.out 0 (by simp), rfl, by simp [Hid]⟩
  case round =>
    obtain ⟨i, hi, rfl, H⟩ := hrel
    obtain ⟨hcell, -⟩ := HW.out i hi
    obtain ⟨x, ex⟩ : ∃ x, l[i] = x := ⟨_, rfl⟩
    rw [ex] at hcell
    have BX : Hid (x < M.B) := mkHid (by rw [← ex]; exact OL.out.get hi)
    have k1 := M.val_take_succ (l := l) hi
    rw [ex, H.out] at k1
    have K1 := mkHid k1
    have EX := Lib.hid ex
    clear ex k1
    by_cases hx : x = 0
    · subst hx
      have h2 : M.val (l.take (i + 1)) = 0 := by have := K1.out; simpa using this
      have h3 := hpos.out _ h2
      have H2 := mkHid h2
      clear h2
      go_wp2
      go_round
      case rel => exact ⟨i + 1, h3, by go_num, H2⟩
      case measure => simp [intOf]; omega
    · have HT2 : Hid (∀ w', w' = w → Calls Tryd.prog 79 #[.int .u64 x] w' fun e w'' => e = .returned (.int .i64 (Lib.ctz 64 x : Int)) ∧ w'' = w') := mkHid fun w' he => by subst he; exact tz_any x hx BX.out w' HT.out
      obtain ⟨m, hm, hk⟩ := Lib.ctzFrom_spec 64 x (by omega) BX.out
      have hcz : Lib.ctz 64 x = Lib.ctzFrom 64 x := by unfold Lib.ctz; rw [if_neg hx]
      rw [← hcz] at hm hk
      have HM := mkHid hm
      have hx0 : ((x : Int) == 0) = false := by simp; omega
      clear hm hcz
      generalize Lib.ctz 64 x = t at *
      go_wp2_with (go_at_call 79; refine (HT2.out _ rfl).mono ?_; rintro e w' ⟨rfl, rfl⟩)
      go_ret
      refine ⟨i * 64 + t, by go_num, rfl, mkHid ⟨by omega, ?_⟩⟩
      have e1 := M.val_take_drop l i (by omega)
      rw [List.drop_eq_getElem_cons hi, M.val_cons, EX.out, H.out, Nat.zero_add, HM.out] at e1
      refine ⟨m + 2 ^ (63 - t) * M.val (l.drop (i + 1)), ?_⟩
      rw [e1]
      have e2 : M.B = 2 ^ t * (2 * 2 ^ (63 - t)) := by
        rw [← Nat.pow_succ', ← Nat.pow_add, show t + (63 - t).succ = 64 by omega]; rfl
      rw [show M.B ^ i = 2 ^ (i * 64) by rw [show M.B = 2 ^ 64 from rfl, ← Nat.pow_mul, Nat.mul_comm], Nat.pow_add, Nat.mul_assoc]
      congr 1
      conv => lhs; rhs; rw [e2, Nat.mul_assoc]
      rw [← Nat.mul_add]
      congr 1
      rw [Nat.mul_add, Nat.mul_assoc]; omega
end Go.Proofs.YtjdkbbggelpchaaDoor
