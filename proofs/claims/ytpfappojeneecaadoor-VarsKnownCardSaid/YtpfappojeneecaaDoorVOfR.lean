/- The specification's Of. -/
import Derived.Test.YtpfappojeneecaaDoorVList
namespace Go.Proofs.YtpfappojeneecaaDoor
open Go.RowKit VM

theorem Bools.put1 {w : World} {b : Nat} {s : BitVec 128} {m : Nat} (h : Bools w b s) (h1 : 1 ≤ m) (h2 : m ≤ 128) : Bools (w.setCell ⟨b, m, none⟩ (.bool true)) b (withV s m) := by
  have e : has (withV s m) (m : Int) = true := by rw [has_with, decide_eq_true (p := 1 ≤ (m : Int) ∧ (m : Int) ≤ 128 ∧ (m : Int) = m) ⟨by omega, by omega, rfl⟩, Bool.or_true]
  have := Bools.set (s' := withV s m) h m (fun j _ hne => by
    rw [has_with, decide_eq_false (p := 1 ≤ (m : Int) ∧ (m : Int) ≤ 128 ∧ (j : Int) = m) (fun x => hne (by omega)), Bool.or_false])
  rwa [e] at this
theorem with_none (s : BitVec 128) (v : Int) (h : ¬ (1 ≤ v ∧ v ≤ 128)) : withV s v = s := by unfold withV; rw [bit_none v h]; exact BitVec.or_zero

set_option maxRecDepth 100000 in
set_option maxHeartbeats 2000000 in
theorem rof_nil (ao : Option Addr) (cap : Nat) (w : World) : Calls Tryd.prog 15 #[.slice ao 0 cap] w fun e w' => e = .returned (sv 0#128) ∧ Below w.heap.size w w' := by
  have HZ := mkHid (Bools.new (w.alloc (.cells #[.int .u64 0, .int .u64 0] 26)) (w.heap.size + 1) (by simp))
  have CS := mkHid (fun W h => set_any (w.heap.size + 1) 0#128 W h)
  have HA0 := mkHid (((AtS.new w w.heap.size 0 0 26 rfl).alloc (.cells falses 4)))
  have HB := mkHid (bal (bal (Below.refl _ w) (.cells #[.int .u64 0, .int .u64 0] 26)) (.cells falses 4))
  rw [sv_empty] at *
  go_enter Tryd.func15, Tryd.ntmps15
  go_wp2_with (go_at_call 41; refine (none_any _).mono ?_; rintro e w1 ⟨rfl, rfl⟩)
  refine wp_loop_rounds 1 ?_
  rw [rounds_succ]
  go_wp2_with (go_at_call 42; refine (CS.out _ HZ.out).mono ?_; rintro e w7 ⟨rfl, hw⟩; have HA7 := mkHid (HA0.out.grows hw); have HB7 := mkHid (bnx HB.out hw); obtain ⟨c1, c2, cf1, cf2⟩ := HA7.out; clear hw)
  refine bodyPost_ret (v := .agg #[.int .u64 0, .int .u64 0]) (by simp [results, Tryd.results15, go_sem, c1, c2]) rfl ⟨rfl, ?_⟩
  exact bst2 HB7.out _ (by omega) _ _

set_option maxRecDepth 100000 in
set_option maxHeartbeats 4000000 in
theorem rof_some (l : List Int) (b off cap : Nat) (w : World) (ht : Tab w) (hlen : l.length ≤ 9223372036854775807) (hcells : ∀ j (x : Int), l[j]? = some x → w.cell? ⟨b, off + j, none⟩ = some (.int .i64 x)) :
    Calls Tryd.prog 15 #[.slice (some ⟨b, off, none⟩) l.length cap] w fun e w' => e = .returned (sv (ofL l)) ∧ Below w.heap.size w w' := by
  have HG := mkHid ht.lt
  have HC := mkHid hcells
  have HT := mkHid (((On.nil ht).box 0 0 26 w.heap.size rfl).alloc (.cells falses 4))
  have HZ := mkHid (Bools.new (w.alloc (.cells #[.int .u64 0, .int .u64 0] 26)) (w.heap.size + 1) (by simp))
  have CS := mkHid (fun W h => set_any (w.heap.size + 1) (ofL l) W h)
  clear ht hcells
  generalize hr0 : wd (lo (ofL l)) = r0
  generalize hr1 : wd (hi (ofL l)) = r1
  have ES : Hid (Value.agg #[.int .u64 r0, .int .u64 r1] = sv (ofL l)) := mkHid (by rw [← hr0, ← hr1]; rfl)
  rw [← ES.out] at CS ⊢
  clear hr0 hr1
  go_enter Tryd.func15, Tryd.ntmps15
  go_wp2_with (go_at_call 41; refine (none_any _).mono ?_; rintro e w1 ⟨rfl, rfl⟩)
  go_loopw [4] (fun iv wr => ∃ k : Nat, k ≤ l.length ∧ iv = .int .i64 (k : Int) ∧ Hid (Bools wr (w.heap.size + 1) (ofL (l.take k)) ∧ On w wr [(w.heap.size, 0, 0)])) (fun iv _ => l.length - (intOf iv).toNat)
  case atStart => exact ⟨0, Nat.zero_le _, rfl, mkHid ⟨by rw [List.take_zero]; exact HZ.out, HT.out⟩⟩
  case round =>
    obtain ⟨k, hk1, rfl, H⟩ := hrel
    clear HT HZ
    by_cases hlt : k < l.length
    · obtain ⟨x, hx⟩ : ∃ x, l[k]? = some x := ⟨l[k], List.getElem?_eq_getElem hlt⟩
      have hO := H.out.2
      have hZ := H.out.1
      have hcx := cell_grows hO.below (HC.out k x hx)
      have et : Hid (ofL (l.take (k + 1)) = withV (ofL (l.take k)) x) := mkHid (by rw [List.take_add_one, hx]; exact ofL_snoc _ _)
      have hk3 : (k : Int) < (l.length : Int) := by omega
      clear H hx
      by_cases hin : 1 ≤ x ∧ x ≤ 128
      · obtain ⟨m, rfl⟩ : ∃ m : Nat, x = (m : Int) := ⟨x.toNat, by omega⟩
        have i1 : (1 : Int) ≤ (m : Int) := hin.1
        have i2 : (m : Int) ≤ 128 := hin.2
        have i3 : m < 129 := by omega
        obtain ⟨zc, zf⟩ := hZ m i3
        clear hin
        go_wp2
        go_roundw
        case rel => exact ⟨k + 1, by omega, by go_num, mkHid ⟨by rw [et.out]; exact hZ.put1 (by omega) (by omega), hO.st _ _ _ (by omega) (by simp) (hO.tab.off _ _ _ (by have := HG.out; omega))⟩⟩
        case measure => simp [intOf]; omega
      · have HX := mkHid (with_none (ofL (l.take k)) x hin)
        by_cases i1 : 1 ≤ x
        · have i2 : ¬ x ≤ 128 := by omega
          clear hin
          go_wp2
          go_roundw
          case rel => exact ⟨k + 1, by omega, by go_num, mkHid ⟨by rw [et.out, HX.out]; exact hZ, hO⟩⟩
          case measure => simp [intOf]; omega
        · clear hin
          go_wp2
          go_roundw
          case rel => exact ⟨k + 1, by omega, by go_num, mkHid ⟨by rw [et.out, HX.out]; exact hZ, hO⟩⟩
          case measure => simp [intOf]; omega
    · have hZ := H.out.1
      rw [show l.take k = l by rw [show k = l.length by omega, List.take_length]] at hZ
      have hO := H.out.2
      have HZ := mkHid hZ
      have hk3 : ¬ (k : Int) < (l.length : Int) := by omega
      clear H hZ
      go_wp2_with (go_at_call 42; refine (CS.out _ HZ.out).mono ?_; rintro e w7 ⟨rfl, hw⟩; have hO' := hO.next hw; obtain ⟨c1, c2, cf1, cf2⟩ := hO'.h1; clear hw)
      refine bodyPost_ret (v := .agg #[.int .u64 r0, .int .u64 r1]) (by simp [results, Tryd.results15, go_sem, c1, c2]) rfl ⟨rfl, ?_⟩
      exact bst2 hO'.below _ (by omega) _ _
theorem rof_any (v : Value) (l : List Int) (w : World) (ht : Tab w) (hv : Ints w v l) (hlen : l.length ≤ 9223372036854775807) :
    Calls Tryd.prog 15 #[v] w fun e w' => e = .returned (sv (ofL l)) ∧ Below w.heap.size w w' := by
  rcases hv with ⟨rfl, ao, cap, rfl⟩ | ⟨b, off, cap, rfl, h3⟩
  · exact rof_nil ao cap w
  · exact rof_some l b off cap w ht hlen h3
end Go.Proofs.YtpfappojeneecaaDoor
