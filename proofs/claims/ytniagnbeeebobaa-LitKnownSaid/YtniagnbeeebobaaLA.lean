/- Contracts: IndexFunc and ContainsFunc at a predicate that may make memory; Any, All. -/
import Derived.Test.YtniagnbeeebobaaLC
namespace Go.Proofs.Ytniagnbeeebobaa
open Go.RowKit VM LM

/-- What is asked of a predicate: it answers P, and turns nothing that lay in w. -/
def PredG (g : Nat) (lb : Array Value) (P : Int → Bool) (l : List Int) (w : World) : Prop :=
  ∀ W x, Below w.heap.size w W → x ∈ l → Calls Try.prog g (#[.int .i64 x] ++ lb) W fun e w' => e = .returned (.bool (P x)) ∧ Below w.heap.size w w'

set_option maxRecDepth 100000 in
set_option maxHeartbeats 2000000 in
theorem index_any (g : Nat) (lb : Array Value) (eg : ∀ args w, (callFunc g args).run Try.prog w = .ok (.enter g args) w) (P : Int → Bool) (v : Value) (l : List Int) (w : World) (hv : Ints w v l) (hlen : l.length ≤ 1000000) (hP : PredG g lb P l w) :
    Calls Try.prog 56 #[v, .func (.func g) #[] lb] w fun e w' => ∃ i : Int, e = .returned (.int .i64 i) ∧ decide (0 ≤ i) = l.any P ∧ Below w.heap.size w w' := by
  obtain ⟨ao, cap, rfl, hc⟩ := hv.uni
  have HC := mkHid hc
  have HP := mkHid hP
  clear hc hv hP
  go_enter Try.func56, Try.ntmps56
  go_wp2
  go_loopw [8] (fun iv wr => ∃ k : Nat, k ≤ l.length ∧ iv = .int .i64 (k : Int) ∧ Hid ((∀ y ∈ l.take k, P y = false) ∧ Below w.heap.size w wr)) (fun iv _ => l.length - (intOf iv).toNat)
  case atStart => exact ⟨0, Nat.zero_le _, rfl, mkHid ⟨any_start, Below.refl _ _⟩⟩
  case round =>
    obtain ⟨k, hk, rfl, H⟩ := hrel
    by_cases hlt : k < l.length
    · obtain ⟨y, hy⟩ : ∃ y, l[k]? = some y := ⟨l[k], List.getElem?_eq_getElem hlt⟩
      obtain ⟨b, off, rfl, hcx0⟩ := HC.out k y hy
      have hcx := cell_grows H.out.2 hcx0
      have hk1 : (k : Int) < (l.length : Int) := by omega
      have HY := mkHid hy
      have hcall := HP.out wr y H.out.2 (List.mem_of_getElem? hy)
      clear hy hcx0
      cases hp : P y
      · have HPF := mkHid hp
        rw [hp] at hcall
        clear hp
        go_wp2_with (go_at_fn g; refine hcall.mono ?_; rintro e w' ⟨rfl, hb'⟩)
        have HB := mkHid hb'
        clear hb'
        go_roundw
        case rel => exact ⟨k + 1, by omega, by go_num, mkHid ⟨any_step H.out.1 HY.out HPF.out, HB.out⟩⟩
        case measure => simp [intOf]; omega
      · have HF := mkHid (any_found (P := P) HY.out hp)
        rw [hp] at hcall
        clear hp
        go_wp2_with (go_at_fn g; refine hcall.mono ?_; rintro e w' ⟨rfl, hb'⟩)
        go_ret
        exact ⟨_, rfl, by rw [HF.out]; simp, hb'⟩
    · have hk1 : ¬ (k : Int) < (l.length : Int) := by omega
      have HF := mkHid (any_none H.out.1 (by omega))
      go_wp2
      go_ret
      exact ⟨_, rfl, by rw [HF.out]; simp, H.out.2⟩

set_option maxRecDepth 100000 in
set_option maxHeartbeats 2000000 in
theorem contains_any (g : Nat) (lb : Array Value) (eg : ∀ args w, (callFunc g args).run Try.prog w = .ok (.enter g args) w) (P : Int → Bool) (v : Value) (l : List Int) (w : World) (hv : Ints w v l) (hlen : l.length ≤ 1000000) (hP : PredG g lb P l w) :
    Calls Try.prog 41 #[v, .func (.func g) #[] lb] w fun e w' => e = .returned (.bool (l.any P)) ∧ Below w.heap.size w w' := by
  have C := mkHid (index_any g lb eg P v l w hv hlen hP)
  obtain ⟨ao, cap, rfl⟩ := hv.form
  clear hv hP eg
  generalize l.any P = r at *
  go_enter Try.func41, Try.ntmps41
  go_wp2_with (go_at_call 56; refine C.out.mono ?_; rintro e w2 ⟨i, rfl, hi, hb⟩; have HI := mkHid hi; clear hi)
  go_ret
  exact ⟨by rw [← HI.out]; rfl, hb⟩

set_option maxRecDepth 100000 in
set_option maxHeartbeats 2000000 in
theorem any1_any (a : BitVec 128) (x : Int) (B : Nat) (w : World) (hA : AtS w B (wd (lo a)) (wd (hi a))) (h : In64 x) :
    Calls Try.prog 42 #[.int .i64 x, .pointer (some ⟨B, 0, none⟩)] w fun e w' => e = .returned (.bool (holdsL a x)) ∧ Below w.heap.size w w' := by
  have C := mkHid (fun W => holds_any a x W h)
  generalize holdsL a x = r at *
  unfold sv at *
  generalize wd (lo a) = al at *
  generalize wd (hi a) = ah at *
  obtain ⟨c1, c2, -, -⟩ := hA
  go_enter Try.func42, Try.ntmps42
  go_wp2_with (go_at_call 23; refine (C.out _).mono ?_; rintro e w2 ⟨rfl, hb⟩)
  go_ret
  exact ⟨rfl, hb⟩
set_option maxRecDepth 100000 in
set_option maxHeartbeats 2000000 in
theorem all1_any (a : BitVec 128) (x : Int) (B : Nat) (w : World) (hA : AtS w B (wd (lo a)) (wd (hi a))) (h : In64 x) :
    Calls Try.prog 43 #[.int .i64 x, .pointer (some ⟨B, 0, none⟩)] w fun e w' => e = .returned (.bool (!holdsL a x)) ∧ Below w.heap.size w w' := by
  have C := mkHid (fun W => holds_any a x W h)
  generalize holdsL a x = r at *
  unfold sv at *
  generalize wd (lo a) = al at *
  generalize wd (hi a) = ah at *
  obtain ⟨c1, c2, -, -⟩ := hA
  go_enter Try.func43, Try.ntmps43
  go_wp2_with (go_at_call 23; refine (C.out _).mono ?_; rintro e w2 ⟨rfl, hb⟩)
  go_ret
  exact ⟨rfl, hb⟩

set_option maxRecDepth 100000 in
set_option maxHeartbeats 2000000 in
theorem anyL_any (a : BitVec 128) (v : Value) (l : List Int) (w : World) (hv : Ints w v l) (hlen : l.length ≤ 1000000) (h64 : ∀ x ∈ l, In64 x) :
    Calls Try.prog 25 #[sv a, v] w fun e w' => e = .returned (.bool (anyL a l)) ∧ Below w.heap.size w w' := by
  have eg : ∀ args w, (callFunc 42 args).run Try.prog w = .ok (.enter 42 args) w := enters_of Try.func42 (by kernel_rfl) rfl
  have hA := AtS.new w w.heap.size (wd (lo a)) (wd (hi a)) 36 rfl
  have hB := bal (Below.refl _ w) (.cells #[.int .u64 (wd (lo a)), .int .u64 (wd (hi a))] 36)
  have C := mkHid (contains_any 42 #[.pointer (some ⟨w.heap.size, 0, none⟩)] eg (holdsL a) v l _ (hv.next hB) hlen (fun W x hb hx =>
    (any1_any a x w.heap.size W (hA.grows hb) (h64 x hx)).mono fun e w' ⟨he, hb'⟩ => ⟨he, bnx hb hb'⟩))
  have HB := mkHid hB
  change Hid (Calls Try.prog 41 _ _ fun e w' => e = .returned (.bool (anyL a l)) ∧ _) at C
  obtain ⟨ao, cap, rfl⟩ := hv.form
  clear hv h64 hA hB eg
  generalize anyL a l = r at *
  unfold sv at *
  generalize wd (lo a) = al at *
  generalize wd (hi a) = ah at *
  go_enter Try.func25, Try.ntmps25
  go_wp2_with (go_at_call 41; refine C.out.mono ?_; rintro e w2 ⟨rfl, hb⟩)
  go_ret
  exact ⟨rfl, bnx HB.out hb⟩
set_option maxRecDepth 100000 in
set_option maxHeartbeats 2000000 in
theorem allL_any (a : BitVec 128) (v : Value) (l : List Int) (w : World) (hv : Ints w v l) (hlen : l.length ≤ 1000000) (h64 : ∀ x ∈ l, In64 x) :
    Calls Try.prog 27 #[sv a, v] w fun e w' => e = .returned (.bool (allL a l)) ∧ Below w.heap.size w w' := by
  have eg : ∀ args w, (callFunc 43 args).run Try.prog w = .ok (.enter 43 args) w := enters_of Try.func43 (by kernel_rfl) rfl
  have hA := AtS.new w w.heap.size (wd (lo a)) (wd (hi a)) 36 rfl
  have hB := bal (Below.refl _ w) (.cells #[.int .u64 (wd (lo a)), .int .u64 (wd (hi a))] 36)
  have C := mkHid (contains_any 43 #[.pointer (some ⟨w.heap.size, 0, none⟩)] eg (fun x => !holdsL a x) v l _ (hv.next hB) hlen (fun W x hb hx =>
    (all1_any a x w.heap.size W (hA.grows hb) (h64 x hx)).mono fun e w' ⟨he, hb'⟩ => ⟨he, bnx hb hb'⟩))
  have HB := mkHid hB
  have HE : Hid (allL a l = !l.any fun x => !holdsL a x) := mkHid (by unfold allL; rw [List.all_eq_not_any_not])
  rw [HE.out]
  obtain ⟨ao, cap, rfl⟩ := hv.form
  clear hv h64 hA hB eg HE
  generalize (l.any fun x => !holdsL a x) = r at *
  unfold sv at *
  generalize wd (lo a) = al at *
  generalize wd (hi a) = ah at *
  go_enter Try.func27, Try.ntmps27
  go_wp2_with (go_at_call 41; refine C.out.mono ?_; rintro e w2 ⟨rfl, hb⟩)
  go_ret
  exact ⟨rfl, bnx HB.out hb⟩
end Go.Proofs.Ytniagnbeeebobaa
