/- The contract of List: a range over a function. -/
import Derived.Test.YtpfappojeneecaaDoorVEach
import Derived.Test.YtpfappojeneecaaDoorVLen
import Derived.RangeFuncBox
import Derived.RangeFuncLeaves
import Derived.RangeFuncCalls
import Derived.Shelf.Abstract
import Derived.OwnWalkIn
import Derived.TacticsInMore
import Derived.LoopNIn
import Derived.LoopIn
import Derived.Maps.AppendAt
namespace Go.Proofs.YtpfappojeneecaaDoor
open Go.RowKit Go.Shelf VM

attribute [local go_sem] Oper.semAt_some

set_option maxRecDepth 100000 in
set_option maxHeartbeats 4000000 in
/-- The iterator: all variables of the set come, ascending, whatever the loop's body does that keeps what lay before. -/
theorem each1_in (n : Nat) (hn : 1 ≤ n) (l Bn n₀ : Nat) (s : BitVec 128) (J Jx : List Int → World → Prop) (hg : 0 < n₀)
    (hY : ∀ pre x W, J pre W → pre.length < (lst s 128).length → YieldAt Fence.wide (n - 1) Tryd.prog l #[.int .i64 x] W fun e W' =>
      (e = .returned (.bool true) ∧ J (pre ++ [x]) W' ∧ Below n₀ W W') ∨ (e = .returned (.bool false) ∧ Jx (pre ++ [x]) W'))
    (W : World) (hB : AtS W Bn (wd (lo s)) (wd (hi s))) (hT : Tab W) (h0 : J [] W) :
    CallsIn Fence.wide n Tryd.prog 47 #[.func (.yield l) #[] #[], .pointer (some ⟨Bn, 0, none⟩)] W fun e W' => (∃ v, e = .returned v) ∧
      ((∃ ys, ys = lst s 128 ∧ J ys W') ∨ (∃ pre, pre <+: lst s 128 ∧ Jx pre W')) := by
  have i0 : ∀ (a b : Int) w, (Instr.index 26 (.agg #[.int .u64 a, .int .u64 b]) (.int .i64 0)).run Tryd.prog w = .ok (.int .u64 a) w := fun _ _ _ => by kernel_rfl
  have i1 : ∀ (a b : Int) w, (Instr.index 26 (.agg #[.int .u64 a, .int .u64 b]) (.int .i64 1)).run Tryd.prog w = .ok (.int .u64 b) w := fun _ _ _ => by kernel_rfl
  obtain ⟨p1, p2, -, -⟩ := hB
  refine callsIn_of_wp Tryd.func47 rfl trivial ?_ rfl
  simp only [Tryd.ntmps47, List.size_toArray, List.length_cons, List.length_nil, Nat.reduceAdd, Nat.reduceSub, Array.replicate_succ, Array.replicate_zero, List.push_toArray, List.append_toArray, List.nil_append, List.cons_append]
  gi_wp2
  gi_loopw [7] (fun iv wr => ∃ i : Nat, i ≤ 2 ∧ iv = .int .i64 (i : Int) ∧ Hid (J (lst s (64 * i)) wr ∧ Tab wr)) (fun iv _ => 2 - (intOf iv).toNat)
  case atStart => exact ⟨0, by omega, rfl, mkHid ⟨h0, hT⟩⟩
  case round =>
    obtain ⟨i, hi2, rfl, H⟩ := hrel
    clear h0 hT p1 p2
    rcases (by omega : i = 0 ∨ i = 1 ∨ i = 2) with rfl | rfl | rfl
    · rw [show ((0 : Nat) : Int) = 0 from rfl]
      gi_wp2
      obtain ⟨wo, rfl⟩ : ∃ wo : World, wo = wr := ⟨_, rfl⟩
      gi_loopw [5] (fun rv wi => ∃ (r : BitVec 64) (p : Nat), p ≤ 64 ∧ rv = .int .u64 (wd r) ∧ Hid (From (lo s) r p ∧ J (lst s (64 * 0 + p)) wi ∧ Tab wi)) (fun rv _ => (intOf rv).toNat)
      case atStart => exact ⟨lo s, 0, by omega, rfl, mkHid ⟨From.start _, H.out.1, H.out.2⟩⟩
      case round =>
        obtain ⟨r, p, hp, rfl, HI⟩ := hrel
        by_cases hr : r = 0#64
        · subst hr
          have hend := each_end (s := s) (i := 0) (by omega) hp (show From (word s 0) _ _ from HI.out.1)
          have hJ := HI.out.2.1
          rw [hend] at hJ
          have HJ := mkHid hJ
          have HT2 := mkHid HI.out.2.2
          have hz : wd 0#64 = 0 := rfl
          clear HI H hJ hend
          gi_wp2
          go_roundw
          case rel => exact ⟨0 + 1, by omega, rfl, mkHid ⟨HJ.out, HT2.out⟩⟩
          case measure => simp [intOf]
        · obtain ⟨hst, hlow⟩ := each_step (s := s) (i := 0) (by omega) (show From (word s 0) _ _ from HI.out.1) hr
          have hnx := HI.out.1.next hr
          have hJ := HI.out.2.1
          have hT2 := HI.out.2.2
          have hne : ¬ wd r = 0 := fun e => hr ((wd_eq0 _).1 e)
          have hst : lst s (64 * 0 + low r + 1) = lst s (64 * 0 + p) ++ [((0 : Int) * 64 + (low r : Nat) + 1)] := hst
          obtain ⟨x, hx⟩ : ∃ x : Int, x = (0 : Int) * 64 + (low r : Nat) + 1 := ⟨_, rfl⟩
          have hC := least_any (0 : Int) r wr (by omega) hr hT2
          rw [← hx] at hC hst
          have hpf := lst_prefix s (64 * 0 + low r + 1) (128 - (64 * 0 + low r + 1))
          rw [show 64 * 0 + low r + 1 + (128 - (64 * 0 + low r + 1)) = 128 by omega, hst] at hpf
          have HPF := mkHid hpf
          clear hpf
          have hlen : (lst s (64 * 0 + p)).length < (lst s 128).length := by
            have h1 := (lst_prefix s (64 * 0 + low r + 1) (128 - (64 * 0 + low r + 1))).length_le
            rw [show 64 * 0 + low r + 1 + (128 - (64 * 0 + low r + 1)) = 128 by omega, hst] at h1
            rw [List.length_append] at h1
            simp only [List.length_cons, List.length_nil] at h1
            omega
          obtain ⟨fn, tmps, assign, body, hy, hR⟩ := hY _ x wr hJ hlen
          have e1 : IntKind.u64.wrap (wd r - 1) = wd (r - 1#64) := sub_wd r 1#64
          have e2 := and_wd r (r - 1#64)
          have hm : wd (r &&& (r - 1#64)) < wd r := by
            have h1 : (r &&& (r - 1#64)).toNat ≤ (r - 1#64).toNat := by rw [BitVec.toNat_and]; exact Nat.and_le_right
            have h2 : 0 < r.toNat := Nat.pos_of_ne_zero (ne_nat hr)
            have h3 : (r - 1#64).toNat = r.toNat - 1 := by
              rw [BitVec.toNat_sub]
              have := r.isLt
              simp
              omega
            unfold wd; omega
          have hm0 := wd_lo (r &&& (r - 1#64))
          have HST := mkHid hst
          have HNX := mkHid hnx
          have HL := mkHid hlow
          have HM := mkHid (And.intro hm hm0)
          clear hst hnx hlow hr hx HI H hJ hlen hm hm0
          gi_wp2_with (refine ⟨trivial, ?_⟩; gi_at_call 46; refine (callsIn_wide.2 hC).mono ?_; rintro e w2 ⟨rfl, rfl⟩)
          refine hR.mono ?_
          rintro e w3 (⟨rfl, hJ3, hk3⟩ | ⟨rfl, hJx3⟩)
          · have hT3 : Tab w3 := fun j hj => (hk3.cell (p := ⟨_, j, none⟩) hg).trans (hT2 j hj)
            gi_wp2
            go_roundw
            case rel => exact ⟨_, low r + 1, by have := HL.out; omega, rfl, mkHid ⟨HNX.out, by rw [← Nat.add_assoc, HST.out]; exact hJ3, hT3⟩⟩
            case measure => have := HM.out; simp [intOf]; omega
          · gi_wp2
            refine bodyPost_ret (results_none rfl _ _ _) rfl ?_
            exact ⟨⟨_, rfl⟩, .inr ⟨_, HPF.out, hJx3⟩⟩
    · rw [show ((1 : Nat) : Int) = 1 from rfl]
      gi_wp2
      obtain ⟨wo, rfl⟩ : ∃ wo : World, wo = wr := ⟨_, rfl⟩
      gi_loopw [5] (fun rv wi => ∃ (r : BitVec 64) (p : Nat), p ≤ 64 ∧ rv = .int .u64 (wd r) ∧ Hid (From (hi s) r p ∧ J (lst s (64 * 1 + p)) wi ∧ Tab wi)) (fun rv _ => (intOf rv).toNat)
      case atStart => exact ⟨hi s, 0, by omega, rfl, mkHid ⟨From.start _, H.out.1, H.out.2⟩⟩
      case round =>
        obtain ⟨r, p, hp, rfl, HI⟩ := hrel
        by_cases hr : r = 0#64
        · subst hr
          have hend := each_end (s := s) (i := 1) (by omega) hp (show From (word s 1) _ _ from HI.out.1)
          have hJ := HI.out.2.1
          rw [hend] at hJ
          have HJ := mkHid hJ
          have HT2 := mkHid HI.out.2.2
          have hz : wd 0#64 = 0 := rfl
          clear HI H hJ hend
          gi_wp2
          go_roundw
          case rel => exact ⟨1 + 1, by omega, rfl, mkHid ⟨HJ.out, HT2.out⟩⟩
          case measure => simp [intOf]
        · obtain ⟨hst, hlow⟩ := each_step (s := s) (i := 1) (by omega) (show From (word s 1) _ _ from HI.out.1) hr
          have hnx := HI.out.1.next hr
          have hJ := HI.out.2.1
          have hT2 := HI.out.2.2
          have hne : ¬ wd r = 0 := fun e => hr ((wd_eq0 _).1 e)
          have hst : lst s (64 * 1 + low r + 1) = lst s (64 * 1 + p) ++ [((1 : Int) * 64 + (low r : Nat) + 1)] := hst
          obtain ⟨x, hx⟩ : ∃ x : Int, x = (1 : Int) * 64 + (low r : Nat) + 1 := ⟨_, rfl⟩
          have hC := least_any (1 : Int) r wr (by omega) hr hT2
          rw [← hx] at hC hst
          have hpf := lst_prefix s (64 * 1 + low r + 1) (128 - (64 * 1 + low r + 1))
          rw [show 64 * 1 + low r + 1 + (128 - (64 * 1 + low r + 1)) = 128 by omega, hst] at hpf
          have HPF := mkHid hpf
          clear hpf
          have hlen : (lst s (64 * 1 + p)).length < (lst s 128).length := by
            have h1 := (lst_prefix s (64 * 1 + low r + 1) (128 - (64 * 1 + low r + 1))).length_le
            rw [show 64 * 1 + low r + 1 + (128 - (64 * 1 + low r + 1)) = 128 by omega, hst] at h1
            rw [List.length_append] at h1
            simp only [List.length_cons, List.length_nil] at h1
            omega
          obtain ⟨fn, tmps, assign, body, hy, hR⟩ := hY _ x wr hJ hlen
          have e1 : IntKind.u64.wrap (wd r - 1) = wd (r - 1#64) := sub_wd r 1#64
          have e2 := and_wd r (r - 1#64)
          have hm : wd (r &&& (r - 1#64)) < wd r := by
            have h1 : (r &&& (r - 1#64)).toNat ≤ (r - 1#64).toNat := by rw [BitVec.toNat_and]; exact Nat.and_le_right
            have h2 : 0 < r.toNat := Nat.pos_of_ne_zero (ne_nat hr)
            have h3 : (r - 1#64).toNat = r.toNat - 1 := by
              rw [BitVec.toNat_sub]
              have := r.isLt
              simp
              omega
            unfold wd; omega
          have hm0 := wd_lo (r &&& (r - 1#64))
          have HST := mkHid hst
          have HNX := mkHid hnx
          have HL := mkHid hlow
          have HM := mkHid (And.intro hm hm0)
          clear hst hnx hlow hr hx HI H hJ hlen hm hm0
          gi_wp2_with (refine ⟨trivial, ?_⟩; gi_at_call 46; refine (callsIn_wide.2 hC).mono ?_; rintro e w2 ⟨rfl, rfl⟩)
          refine hR.mono ?_
          rintro e w3 (⟨rfl, hJ3, hk3⟩ | ⟨rfl, hJx3⟩)
          · have hT3 : Tab w3 := fun j hj => (hk3.cell (p := ⟨_, j, none⟩) hg).trans (hT2 j hj)
            gi_wp2
            go_roundw
            case rel => exact ⟨_, low r + 1, by have := HL.out; omega, rfl, mkHid ⟨HNX.out, by rw [← Nat.add_assoc, HST.out]; exact hJ3, hT3⟩⟩
            case measure => have := HM.out; simp [intOf]; omega
          · gi_wp2
            refine bodyPost_ret (results_none rfl _ _ _) rfl ?_
            exact ⟨⟨_, rfl⟩, .inr ⟨_, HPF.out, hJx3⟩⟩
    · have hJ := H.out.1
      clear H
      gi_wp2
      go_end0
      exact ⟨⟨_, rfl⟩, .inl ⟨_, rfl, hJ⟩⟩
end Go.Proofs.YtpfappojeneecaaDoor
