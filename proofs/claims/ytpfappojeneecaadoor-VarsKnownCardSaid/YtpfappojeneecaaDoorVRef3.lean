/- The specification's Cut, Minus, Without, All, Of, Sub. -/
import Derived.Test.YtpfappojeneecaaDoorVRef2
namespace Go.Proofs.YtpfappojeneecaaDoor
open Go.RowKit VM

theorem Bools.put {w : World} {b : Nat} {t : BitVec 128} {k : Nat} {v : Bool} (h : Bools w b (upTo t k)) (hv : has t (k : Int) = v) : Bools (w.setCell ⟨b, k, none⟩ (.bool v)) b (upTo t ((k : Int) + 1)) := by
  have e : has (upTo t ((k : Int) + 1)) (k : Int) = v := by rw [has_upTo, hv, decide_eq_true (by omega), Bool.and_true]
  have := Bools.set (s' := upTo t ((k : Int) + 1)) h k (fun j _ hne => by
    rw [has_upTo, has_upTo]; congr 1; rw [decide_eq_decide]; omega)
  rwa [e] at this
theorem On.st {w W : World} {l : List (Nat × Int × Int)} (h : On w W l) (b o : Nat) (v : Value) (hb : w.heap.size ≤ b) (hn : ∀ x ∈ l, x.1 ≠ b) (ht : Tab (W.setCell ⟨b, o, none⟩ v)) : On w (W.setCell ⟨b, o, none⟩ v) l :=
  ⟨bst h.below hb _, ht, fun x hx => (h.cells x hx).setOff1 (hn x hx) o v⟩
theorem Tab.off {w : World} (h : Tab w) (b o : Nat) (v : Value) (hb : 0 ≠ b) : Tab (w.setCell ⟨b, o, none⟩ v) := fun j hj => by
  have e : (w.setCell ⟨b, o, none⟩ v).heap[0]? = w.heap[0]? := Below.heap_setCell _ _ _ _ hb
  exact (World.cell?_of_block (a := ⟨_, j, none⟩) e).trans (h j hj)

set_option maxRecDepth 100000 in
set_option maxHeartbeats 4000000 in
theorem rcut_any (a b : BitVec 128) (w : World) (ht : Tab w) :
    Calls Tryd.prog 28 #[sv a, sv b] w fun e w' => e = .returned (sv (a &&& b)) ∧ Below w.heap.size w w' := by
  have hg := ht.lt
  have HG := mkHid hg
  have HT := mkHid (((((On.nil ht).box (wd (lo a)) (wd (hi a)) 26 w.heap.size rfl).box (wd (lo b)) (wd (hi b)) 26 (w.heap.size + 1) (by simp)).box 0 0 26 (w.heap.size + 1 + 1) (by simp)).alloc (.cells falses 4))
  have HZ := mkHid (Bools.new (((w.alloc (.cells #[.int .u64 (wd (lo a)), .int .u64 (wd (hi a))] 26)).alloc (.cells #[.int .u64 (wd (lo b)), .int .u64 (wd (hi b))] 26)).alloc (.cells #[.int .u64 0, .int .u64 0] 26)) (w.heap.size + 1 + 1 + 1) (by simp))
  have CA := mkHid (fun v W => rhas_any a v W)
  have CB := mkHid (fun v W => rhas_any b v W)
  have HV : Hid (∀ k : Int, has (a &&& b) k = (has a k && has b k)) := mkHid (fun k => by rw [has_and])
  have CS := mkHid (fun W h => set_any (w.heap.size + 1 + 1 + 1) (a &&& b) W h)
  clear ht hg
  unfold sv at *
  generalize (a &&& b) = t at *
  generalize wd (lo a) = a0 at *
  generalize wd (hi a) = a1 at *
  generalize wd (lo b) = b0 at *
  generalize wd (hi b) = b1 at *
  generalize hr0 : wd (lo t) = r0 at *
  generalize hr1 : wd (hi t) = r1 at *
  clear hr0 hr1
  go_enter Tryd.func28, Tryd.ntmps28
  go_wp2_with (go_at_call 41; refine (none_any _).mono ?_; rintro e w1 ⟨rfl, rfl⟩)
  go_loopw [6] (fun iv wr => ∃ k : Nat, 1 ≤ k ∧ k ≤ 129 ∧ iv = .int .i64 (k : Int) ∧ Hid (Bools wr (w.heap.size + 1 + 1 + 1) (upTo t k) ∧ On w wr [(w.heap.size + 1 + 1, 0, 0), (w.heap.size + 1, b0, b1), (w.heap.size, a0, a1)])) (fun iv _ => 129 - (intOf iv).toNat)
  case atStart => exact ⟨1, by omega, by omega, rfl, mkHid ⟨by rw [show (((1 : Nat) : Int)) = 1 from rfl, upTo_one]; exact HZ.out, HT.out⟩⟩
  case round =>
    obtain ⟨k, hk1, hk2, rfl, H⟩ := hrel
    clear HT HZ
    by_cases hlt : k < 129
    · have hk3 : (k : Int) ≤ 128 := by omega
      have hO := H.out.2
      have hZ := H.out.1
      obtain ⟨p1, p2, -, -⟩ := hO.h3
      obtain ⟨q1, q2, -, -⟩ := hO.h2
      obtain ⟨zc, zf⟩ := hZ k hlt
      have CAk := mkHid (fun W => CA.out k W)
      have CBk := mkHid (fun W => CB.out k W)
      have hv := HV.out k
      clear H CA CB
      cases hka : has a k <;> cases hkb : has b k
      all_goals
        rw [hka] at CAk
        rw [hkb] at CBk
        rw [hka, hkb] at hv
        have HVK := mkHid hv
        clear hv hka hkb
        go_wp2_with (first
          | (go_at_call 20; have hO : On w _ _ := (by assumption); ((with_reducible refine (CAk.out _).mono ?_); rintro e w6 ⟨rfl, hw⟩; have hO' := On.next hO hw; obtain ⟨p1, p2, -, -⟩ := hO'.h3; obtain ⟨q1, q2, -, -⟩ := hO'.h2; have hZ' := Bools.grows (by assumption) hw; obtain ⟨zc, zf⟩ := hZ' _ hlt; clear hw))
          | (go_at_call 20; have hO : On w _ _ := (by assumption); ((with_reducible refine (CBk.out _).mono ?_); rintro e w6 ⟨rfl, hw⟩; have hO' := On.next hO hw; obtain ⟨p1, p2, -, -⟩ := hO'.h3; obtain ⟨q1, q2, -, -⟩ := hO'.h2; have hZ' := Bools.grows (by assumption) hw; obtain ⟨zc, zf⟩ := hZ' _ hlt; clear hw)))
        have hO : On w _ _ := (by assumption)
        have hZ : Bools _ _ _ := (by assumption)
        go_roundw
        case rel => exact ⟨k + 1, by omega, by omega, by go_num, mkHid ⟨by rw [show ((k + 1 : Nat) : Int) = (k : Int) + 1 by omega]; exact hZ.put HVK.out, hO.st _ _ _ (by omega) (by simp; omega) (hO.tab.off _ _ _ (by have := HG.out; omega))⟩⟩
        case measure => simp [intOf]; omega
    · have ES := upTo_end t (k : Int) (by omega)
      have hZ := H.out.1
      rw [ES] at hZ
      have hO := H.out.2
      have HZ := mkHid hZ
      have hk3 : ¬ (k : Int) ≤ 128 := by omega
      clear H ES hZ
      go_wp2_with (go_at_call 42; refine (CS.out _ HZ.out).mono ?_; rintro e w7 ⟨rfl, hw⟩; have hO' := hO.next hw; obtain ⟨c1, c2, cf1, cf2⟩ := hO'.h1; clear hw)
      refine bodyPost_ret (v := .agg #[.int .u64 r0, .int .u64 r1]) (by simp [results, Tryd.results28, go_sem, c1, c2]) rfl ⟨rfl, ?_⟩
      exact bst2 hO'.below _ (by omega) _ _

set_option maxRecDepth 100000 in
set_option maxHeartbeats 4000000 in
theorem rminus_any (a b : BitVec 128) (w : World) (ht : Tab w) :
    Calls Tryd.prog 30 #[sv a, sv b] w fun e w' => e = .returned (sv (a &&& ~~~b)) ∧ Below w.heap.size w w' := by
  have hg := ht.lt
  have HG := mkHid hg
  have HT := mkHid (((((On.nil ht).box (wd (lo a)) (wd (hi a)) 26 w.heap.size rfl).box (wd (lo b)) (wd (hi b)) 26 (w.heap.size + 1) (by simp)).box 0 0 26 (w.heap.size + 1 + 1) (by simp)).alloc (.cells falses 4))
  have HZ := mkHid (Bools.new (((w.alloc (.cells #[.int .u64 (wd (lo a)), .int .u64 (wd (hi a))] 26)).alloc (.cells #[.int .u64 (wd (lo b)), .int .u64 (wd (hi b))] 26)).alloc (.cells #[.int .u64 0, .int .u64 0] 26)) (w.heap.size + 1 + 1 + 1) (by simp))
  have CA := mkHid (fun v W => rhas_any a v W)
  have CB := mkHid (fun v W => rhas_any b v W)
  have HV : Hid (∀ k : Int, has (a &&& ~~~b) k = (has a k && !has b k)) := mkHid (fun k => by rw [has_minus])
  have CS := mkHid (fun W h => set_any (w.heap.size + 1 + 1 + 1) (a &&& ~~~b) W h)
  clear ht hg
  unfold sv at *
  generalize (a &&& ~~~b) = t at *
  generalize wd (lo a) = a0 at *
  generalize wd (hi a) = a1 at *
  generalize wd (lo b) = b0 at *
  generalize wd (hi b) = b1 at *
  generalize hr0 : wd (lo t) = r0 at *
  generalize hr1 : wd (hi t) = r1 at *
  clear hr0 hr1
  go_enter Tryd.func30, Tryd.ntmps30
  go_wp2_with (go_at_call 41; refine (none_any _).mono ?_; rintro e w1 ⟨rfl, rfl⟩)
  go_loopw [6] (fun iv wr => ∃ k : Nat, 1 ≤ k ∧ k ≤ 129 ∧ iv = .int .i64 (k : Int) ∧ Hid (Bools wr (w.heap.size + 1 + 1 + 1) (upTo t k) ∧ On w wr [(w.heap.size + 1 + 1, 0, 0), (w.heap.size + 1, b0, b1), (w.heap.size, a0, a1)])) (fun iv _ => 129 - (intOf iv).toNat)
  case atStart => exact ⟨1, by omega, by omega, rfl, mkHid ⟨by rw [show (((1 : Nat) : Int)) = 1 from rfl, upTo_one]; exact HZ.out, HT.out⟩⟩
  case round =>
    obtain ⟨k, hk1, hk2, rfl, H⟩ := hrel
    clear HT HZ
    by_cases hlt : k < 129
    · have hk3 : (k : Int) ≤ 128 := by omega
      have hO := H.out.2
      have hZ := H.out.1
      obtain ⟨p1, p2, -, -⟩ := hO.h3
      obtain ⟨q1, q2, -, -⟩ := hO.h2
      obtain ⟨zc, zf⟩ := hZ k hlt
      have CAk := mkHid (fun W => CA.out k W)
      have CBk := mkHid (fun W => CB.out k W)
      have hv := HV.out k
      clear H CA CB
      cases hka : has a k <;> cases hkb : has b k
      all_goals
        rw [hka] at CAk
        rw [hkb] at CBk
        rw [hka, hkb] at hv
        have HVK := mkHid hv
        clear hv hka hkb
        go_wp2_with (first
          | (go_at_call 20; have hO : On w _ _ := (by assumption); ((with_reducible refine (CAk.out _).mono ?_); rintro e w6 ⟨rfl, hw⟩; have hO' := On.next hO hw; obtain ⟨p1, p2, -, -⟩ := hO'.h3; obtain ⟨q1, q2, -, -⟩ := hO'.h2; have hZ' := Bools.grows (by assumption) hw; obtain ⟨zc, zf⟩ := hZ' _ hlt; clear hw))
          | (go_at_call 20; have hO : On w _ _ := (by assumption); ((with_reducible refine (CBk.out _).mono ?_); rintro e w6 ⟨rfl, hw⟩; have hO' := On.next hO hw; obtain ⟨p1, p2, -, -⟩ := hO'.h3; obtain ⟨q1, q2, -, -⟩ := hO'.h2; have hZ' := Bools.grows (by assumption) hw; obtain ⟨zc, zf⟩ := hZ' _ hlt; clear hw)))
        have hO : On w _ _ := (by assumption)
        have hZ : Bools _ _ _ := (by assumption)
        go_roundw
        case rel => exact ⟨k + 1, by omega, by omega, by go_num, mkHid ⟨by rw [show ((k + 1 : Nat) : Int) = (k : Int) + 1 by omega]; exact hZ.put HVK.out, hO.st _ _ _ (by omega) (by simp; omega) (hO.tab.off _ _ _ (by have := HG.out; omega))⟩⟩
        case measure => simp [intOf]; omega
    · have ES := upTo_end t (k : Int) (by omega)
      have hZ := H.out.1
      rw [ES] at hZ
      have hO := H.out.2
      have HZ := mkHid hZ
      have hk3 : ¬ (k : Int) ≤ 128 := by omega
      clear H ES hZ
      go_wp2_with (go_at_call 42; refine (CS.out _ HZ.out).mono ?_; rintro e w7 ⟨rfl, hw⟩; have hO' := hO.next hw; obtain ⟨c1, c2, cf1, cf2⟩ := hO'.h1; clear hw)
      refine bodyPost_ret (v := .agg #[.int .u64 r0, .int .u64 r1]) (by simp [results, Tryd.results30, go_sem, c1, c2]) rfl ⟨rfl, ?_⟩
      exact bst2 hO'.below _ (by omega) _ _

set_option maxRecDepth 100000 in
set_option maxHeartbeats 4000000 in
theorem rwithout_any (a : BitVec 128) (v : Int) (w : World) (ht : Tab w) :
    Calls Tryd.prog 24 #[sv a, .int .i64 v] w fun e w' => e = .returned (sv (without a v)) ∧ Below w.heap.size w w' := by
  have hg := ht.lt
  have HG := mkHid hg
  have HT := mkHid ((((On.nil ht).box (wd (lo a)) (wd (hi a)) 26 w.heap.size rfl).box 0 0 26 (w.heap.size + 1) (by simp)).alloc (.cells falses 4))
  have HZ := mkHid (Bools.new ((w.alloc (.cells #[.int .u64 (wd (lo a)), .int .u64 (wd (hi a))] 26)).alloc (.cells #[.int .u64 0, .int .u64 0] 26)) (w.heap.size + 1 + 1) (by simp))
  have CA := mkHid (fun v W => rhas_any a v W)
  have HV : Hid (∀ k : Int, 1 ≤ k → k ≤ 128 → has (without a v) k = (has a k && !decide (k = v))) := mkHid (fun k h1 h2 => by
    rw [has_without]; congr 2; rw [decide_eq_decide]; exact ⟨fun h => h.2.2, fun h => ⟨by omega, by omega, h⟩⟩)
  have CS := mkHid (fun W h => set_any (w.heap.size + 1 + 1) (without a v) W h)
  clear ht hg
  unfold sv at *
  generalize (without a v) = t at *
  generalize wd (lo a) = a0 at *
  generalize wd (hi a) = a1 at *
  generalize hr0 : wd (lo t) = r0 at *
  generalize hr1 : wd (hi t) = r1 at *
  clear hr0 hr1
  go_enter Tryd.func24, Tryd.ntmps24
  go_wp2_with (go_at_call 41; refine (none_any _).mono ?_; rintro e w1 ⟨rfl, rfl⟩)
  go_loopw [6] (fun iv wr => ∃ k : Nat, 1 ≤ k ∧ k ≤ 129 ∧ iv = .int .i64 (k : Int) ∧ Hid (Bools wr (w.heap.size + 1 + 1) (upTo t k) ∧ On w wr [(w.heap.size + 1, 0, 0), (w.heap.size, a0, a1)])) (fun iv _ => 129 - (intOf iv).toNat)
  case atStart => exact ⟨1, by omega, by omega, rfl, mkHid ⟨by rw [show (((1 : Nat) : Int)) = 1 from rfl, upTo_one]; exact HZ.out, HT.out⟩⟩
  case round =>
    obtain ⟨k, hk1, hk2, rfl, H⟩ := hrel
    clear HT HZ
    by_cases hlt : k < 129
    · have hk3 : (k : Int) ≤ 128 := by omega
      have hO := H.out.2
      have hZ := H.out.1
      obtain ⟨p1, p2, -, -⟩ := hO.h2
      obtain ⟨zc, zf⟩ := hZ k hlt
      have CAk := mkHid (fun W => CA.out k W)
      have hv := HV.out k (by omega) hk3
      clear H CA
      by_cases hkv : (k : Int) = v
      · subst hkv
        rw [decide_eq_true rfl] at hv
        cases hka : has a k
        all_goals
          rw [hka] at CAk
          rw [hka] at hv
          have HVK := mkHid hv
          clear hv hka
          go_wp2_with (go_at_call 20; have hO : On w _ _ := (by assumption); ((with_reducible refine (CAk.out _).mono ?_); rintro e w6 ⟨rfl, hw⟩; have hO' := On.next hO hw; obtain ⟨p1, p2, -, -⟩ := hO'.h2; have hZ' := Bools.grows (by assumption) hw; obtain ⟨zc, zf⟩ := hZ' _ hlt; clear hw))
          have hO : On w _ _ := (by assumption)
          have hZ : Bools _ _ _ := (by assumption)
          go_roundw
          case rel => exact ⟨k + 1, by omega, by omega, by go_num, mkHid ⟨by rw [show ((k + 1 : Nat) : Int) = (k : Int) + 1 by omega]; exact hZ.put HVK.out, hO.st _ _ _ (by omega) (by simp; omega) (hO.tab.off _ _ _ (by have := HG.out; omega))⟩⟩
          case measure => simp [intOf]; omega
      · rw [decide_eq_false hkv] at hv
        have hkn : ((k : Int) != v) = true := by simpa using hkv
        cases hka : has a k
        all_goals
          rw [hka] at CAk
          rw [hka] at hv
          have HVK := mkHid hv
          clear hv hka
          go_wp2_with (go_at_call 20; have hO : On w _ _ := (by assumption); ((with_reducible refine (CAk.out _).mono ?_); rintro e w6 ⟨rfl, hw⟩; have hO' := On.next hO hw; obtain ⟨p1, p2, -, -⟩ := hO'.h2; have hZ' := Bools.grows (by assumption) hw; obtain ⟨zc, zf⟩ := hZ' _ hlt; clear hw))
          have hO : On w _ _ := (by assumption)
          have hZ : Bools _ _ _ := (by assumption)
          go_roundw
          case rel => exact ⟨k + 1, by omega, by omega, by go_num, mkHid ⟨by rw [show ((k + 1 : Nat) : Int) = (k : Int) + 1 by omega]; exact hZ.put HVK.out, hO.st _ _ _ (by omega) (by simp; omega) (hO.tab.off _ _ _ (by have := HG.out; omega))⟩⟩
          case measure => simp [intOf]; omega
    · have ES := upTo_end t (k : Int) (by omega)
      have hZ := H.out.1
      rw [ES] at hZ
      have hO := H.out.2
      have HZ := mkHid hZ
      have hk3 : ¬ (k : Int) ≤ 128 := by omega
      clear H ES hZ
      go_wp2_with (go_at_call 42; refine (CS.out _ HZ.out).mono ?_; rintro e w7 ⟨rfl, hw⟩; have hO' := hO.next hw; obtain ⟨c1, c2, cf1, cf2⟩ := hO'.h1; clear hw)
      refine bodyPost_ret (v := .agg #[.int .u64 r0, .int .u64 r1]) (by simp [results, Tryd.results24, go_sem, c1, c2]) rfl ⟨rfl, ?_⟩
      exact bst2 hO'.below _ (by omega) _ _

set_option maxRecDepth 100000 in
set_option maxHeartbeats 4000000 in
theorem rall_any (n : Int) (w : World) (ht : Tab w) :
    Calls Tryd.prog 18 #[.int .i64 n] w fun e w' => e = .returned (sv (all n)) ∧ Below w.heap.size w w' := by
  have hg := ht.lt
  have HG := mkHid hg
  have HT := mkHid (((On.nil ht).box 0 0 26 w.heap.size rfl).alloc (.cells falses 4))
  have HZ := mkHid (Bools.new (w.alloc (.cells #[.int .u64 0, .int .u64 0] 26)) (w.heap.size + 1) (by simp))
  have HV : Hid (∀ k : Int, has (all n) k = decide (1 ≤ k ∧ k ≤ 128 ∧ k ≤ n)) := mkHid (fun k => has_all n k)
  have CS := mkHid (fun W h => set_any (w.heap.size + 1) (all n) W h)
  clear ht hg
  unfold sv at *
  generalize all n = t at *
  generalize hr0 : wd (lo t) = r0 at *
  generalize hr1 : wd (hi t) = r1 at *
  clear hr0 hr1
  go_enter Tryd.func18, Tryd.ntmps18
  go_wp2_with (go_at_call 41; refine (none_any _).mono ?_; rintro e w1 ⟨rfl, rfl⟩)
  go_loopw [4] (fun iv wr => ∃ k : Nat, 1 ≤ k ∧ k ≤ 129 ∧ iv = .int .i64 (k : Int) ∧ Hid (Bools wr (w.heap.size + 1) (upTo t k) ∧ On w wr [(w.heap.size, 0, 0)])) (fun iv _ => 129 - (intOf iv).toNat)
  case atStart => exact ⟨1, by omega, by omega, rfl, mkHid ⟨by rw [show (((1 : Nat) : Int)) = 1 from rfl, upTo_one]; exact HZ.out, HT.out⟩⟩
  case round =>
    obtain ⟨k, hk1, hk2, rfl, H⟩ := hrel
    clear HT HZ
    by_cases hlt : k < 129 ∧ (k : Int) ≤ n
    · have hk3 : (k : Int) ≤ 128 := by omega
      have hk4 : (k : Int) ≤ n := hlt.2
      have hO := H.out.2
      have hZ := H.out.1
      obtain ⟨zc, zf⟩ := hZ k hlt.1
      have HVK : Hid (has t k = true) := mkHid (by rw [HV.out, decide_eq_true_eq]; omega)
      clear H hlt
      go_wp2
      go_roundw
      case rel => exact ⟨k + 1, by omega, by omega, by go_num, mkHid ⟨by rw [show ((k + 1 : Nat) : Int) = (k : Int) + 1 by omega]; exact hZ.put HVK.out, hO.st _ _ _ (by omega) (by simp) (hO.tab.off _ _ _ (by have := HG.out; omega))⟩⟩
      case measure => simp [intOf]; omega
    · have ES : upTo t (k : Int) = t := ext_has fun v h1 h2 => by
        rw [has_upTo]
        by_cases hv : v < k
        · rw [decide_eq_true hv, Bool.and_true]
        · rw [decide_eq_false hv, Bool.and_false, HV.out]
          symm; rw [decide_eq_false_iff_not]; omega
      have hZ := H.out.1
      rw [ES] at hZ
      have hO := H.out.2
      have HZ := mkHid hZ
      clear H ES hZ
      by_cases hk3 : (k : Int) ≤ 128
      · have hk4 : ¬ (k : Int) ≤ n := by omega
        clear hlt
        go_wp2_with (go_at_call 42; refine (CS.out _ HZ.out).mono ?_; rintro e w7 ⟨rfl, hw⟩; have hO' := hO.next hw; obtain ⟨c1, c2, cf1, cf2⟩ := hO'.h1; clear hw)
        refine bodyPost_ret (v := .agg #[.int .u64 r0, .int .u64 r1]) (by simp [results, Tryd.results18, go_sem, c1, c2]) rfl ⟨rfl, ?_⟩
        exact bst2 hO'.below _ (by omega) _ _
      · clear hlt
        go_wp2_with (go_at_call 42; refine (CS.out _ HZ.out).mono ?_; rintro e w7 ⟨rfl, hw⟩; have hO' := hO.next hw; obtain ⟨c1, c2, cf1, cf2⟩ := hO'.h1; clear hw)
        refine bodyPost_ret (v := .agg #[.int .u64 r0, .int .u64 r1]) (by simp [results, Tryd.results18, go_sem, c1, c2]) rfl ⟨rfl, ?_⟩
        exact bst2 hO'.below _ (by omega) _ _

theorem sub_at (a b : BitVec 128) (k : Int) (h3 : has a k = true) (h4 : has b k = false) : subV a b = false := by
  unfold subV
  rw [decide_eq_false_iff_not]
  intro h
  have := congrArg (fun s => has s k) h
  simp only [has_minus, h3, h4, has_empty] at this
  cases this
theorem sub_all (a b : BitVec 128) (h : ∀ u, 1 ≤ u → u < 129 → has a u = true → has b u = true) : subV a b = true := by
  unfold subV
  rw [decide_eq_true_eq]
  refine ext_has fun v h1 h2 => ?_
  rw [has_minus, has_empty]
  cases ha : has a v
  · rfl
  · rw [h v h1 (by omega) ha]; rfl
set_option maxRecDepth 100000 in
set_option maxHeartbeats 4000000 in
theorem rsub_any (a b : BitVec 128) (w : World) (ht : Tab w) :
    Calls Tryd.prog 32 #[sv a, sv b] w fun e w' => e = .returned (.bool (subV a b)) ∧ Below w.heap.size w w' := by
  have CA := mkHid (fun v W => rhas_any a v W)
  have CB := mkHid (fun v W => rhas_any b v W)
  have HT := mkHid (((On.nil ht).box (wd (lo a)) (wd (hi a)) 26 w.heap.size rfl).box (wd (lo b)) (wd (hi b)) 26 (w.heap.size + 1) (by simp))
  have HL := mkHid (sub_at a b)
  have HM := mkHid (sub_all a b)
  generalize subV a b = res at *
  clear ht
  unfold sv at *
  generalize wd (lo a) = a0 at *
  generalize wd (hi a) = a1 at *
  generalize wd (lo b) = b0 at *
  generalize wd (hi b) = b1 at *
  go_enter Tryd.func32, Tryd.ntmps32
  go_wp2
  go_loopw [5] (fun iv wr => ∃ k : Int, 1 ≤ k ∧ k ≤ 129 ∧ iv = .int .i64 k ∧ Hid ((∀ u, 1 ≤ u → u < k → has a u = true → has b u = true) ∧ On w wr [(w.heap.size + 1, b0, b1), (w.heap.size, a0, a1)])) (fun iv _ => (129 - intOf iv).toNat)
  case atStart => exact ⟨1, by omega, by omega, rfl, mkHid ⟨fun u h1 h2 => by omega, HT.out⟩⟩
  case round =>
    obtain ⟨k, hk1, hk2, rfl, H⟩ := hrel
    clear HT
    by_cases hlt : k ≤ 128
    · have HA := mkHid H.out.1
      have hO := H.out.2
      obtain ⟨p1, p2, -, -⟩ := hO.h2
      obtain ⟨q1, q2, -, -⟩ := hO.h1
      have CAk := mkHid (fun W => CA.out k W)
      have CBk := mkHid (fun W => CB.out k W)
      clear H CA CB
      cases hka : has a k <;> cases hkb : has b k
      all_goals
        rw [hka] at CAk
        rw [hkb] at CBk
        have HKA := mkHid hka
        have HKB := mkHid hkb
        clear hka hkb
        go_wp2_with (first
          | (go_at_call 20; have hO : On w _ _ := (by assumption); ((with_reducible refine (CAk.out _).mono ?_); rintro e w6 ⟨rfl, hw⟩; have hO' := On.next hO hw; obtain ⟨p1, p2, -, -⟩ := hO'.h2; obtain ⟨q1, q2, -, -⟩ := hO'.h1; clear hw))
          | (go_at_call 20; have hO : On w _ _ := (by assumption); ((with_reducible refine (CBk.out _).mono ?_); rintro e w6 ⟨rfl, hw⟩; have hO' := On.next hO hw; obtain ⟨p1, p2, -, -⟩ := hO'.h2; obtain ⟨q1, q2, -, -⟩ := hO'.h1; clear hw)))
        have hO : On w _ _ := (by assumption)
      · go_roundw
        case rel => exact ⟨k + 1, by omega, by omega, rfl, mkHid ⟨fun u h1 h2 h3 => by
          by_cases e : u = k
          · rw [e, HKA.out] at h3; cases h3
          · exact HA.out u h1 (by omega) h3, hO⟩⟩
        case measure => simp [intOf]; omega
      · go_roundw
        case rel => exact ⟨k + 1, by omega, by omega, rfl, mkHid ⟨fun u h1 h2 h3 => by
          by_cases e : u = k
          · rw [e, HKA.out] at h3; cases h3
          · exact HA.out u h1 (by omega) h3, hO⟩⟩
        case measure => simp [intOf]; omega
      · have HR := mkHid (HL.out k HKA.out HKB.out)
        go_ret
        exact ⟨by rw [HR.out]; rfl, hO.below⟩
      · go_roundw
        case rel => exact ⟨k + 1, by omega, by omega, rfl, mkHid ⟨fun u h1 h2 h3 => by
          by_cases e : u = k
          · rw [e]; exact HKB.out
          · exact HA.out u h1 (by omega) h3, hO⟩⟩
        case measure => simp [intOf]; omega
    · have HR := mkHid (HM.out (fun u h1 h2 h3 => H.out.1 u h1 (by omega) h3))
      have HB := mkHid H.out.2.below
      clear H
      go_wp2
      go_ret
      exact ⟨by rw [HR.out]; rfl, HB.out⟩

end Go.Proofs.YtpfappojeneecaaDoor
