/- Contracts of the specification: Any, All. -/
import Derived.Test.YtniagnbeeebobaaLH
import Derived.Deep.RegionHeld3
namespace Go.Proofs.Ytniagnbeeebobaa
open Go.RowKit VM LM

/-- The world has grown from w, and its block n holds the set's words. -/
def Bx (w W : World) (n : Nat) (x y : Int) : Prop := Below w.heap.size w W ∧ AtS W n x y
theorem Bx.next {w W w' : World} {n : Nat} {x y : Int} (h : Bx w W n x y) (hw : Below W.heap.size W w') : Bx w w' n x y := ⟨bnx h.1 hw, h.2.grows hw⟩

set_option maxRecDepth 100000 in
set_option maxHeartbeats 4000000 in
theorem rany_any (a : BitVec 128) (v : Value) (l : List Int) (w : World) (hv : Ints w v l) (hlen : l.length ≤ 1000000) :
    Calls Try.prog 26 #[sv a, v] w fun e w' => e = .returned (.bool (anyL a l)) ∧ Below w.heap.size w w' := by
  obtain ⟨ao, cap, rfl, hc⟩ := hv.uni
  have HC := mkHid hc
  have CH := mkHid (fun x W => rholds_any a x W)
  have HX := mkHid (show Bx w (w.alloc (.cells #[.int .u64 (wd (lo a)), .int .u64 (wd (hi a))] 36)) w.heap.size (wd (lo a)) (wd (hi a)) from ⟨bal (Below.refl _ _) _, AtS.new w w.heap.size _ _ _ rfl⟩)
  have HRES : Hid (anyL a l = l.any (holdsL a)) := mkHid (by rfl)
  rw [HRES.out]
  generalize hres : l.any (holdsL a) = res
  have HR := mkHid hres
  clear hc hv hres HRES
  unfold sv at *
  generalize wd (lo a) = al at *
  generalize wd (hi a) = ah at *
  go_enter Try.func26, Try.ntmps26
  go_wp2
  go_loopw [5] (fun iv wr => ∃ k : Nat, k ≤ l.length ∧ iv = .int .i64 (k : Int) ∧ Hid ((∀ y ∈ l.take k, holdsL a y = false) ∧ Bx w wr w.heap.size al ah)) (fun iv _ => l.length - (intOf iv).toNat)
  case atStart => exact ⟨0, Nat.zero_le _, rfl, mkHid ⟨any_start, HX.out⟩⟩
  case round =>
    obtain ⟨k, hk, rfl, H⟩ := hrel
    clear HX
    by_cases hlt : k < l.length
    · obtain ⟨y, hy⟩ : ∃ y, l[k]? = some y := ⟨l[k], List.getElem?_eq_getElem hlt⟩
      obtain ⟨b, off, rfl, hcx0⟩ := HC.out k y hy
      have p3 := cell_grows H.out.2.1 hcx0
      have hk1 : (k : Int) < (l.length : Int) := by omega
      have hk0 : (0 : Int) ≤ (k : Int) := by omega
      have HY := mkHid hy
      have C := mkHid (CH.out y)
      have hs0 : Bx w wr.drew w.heap.size al ah := ⟨H.out.2.1.drew, H.out.2.2⟩
      obtain ⟨p1, p2, -, -⟩ := H.out.2.2
      clear hy hcx0 CH
      cases hp : holdsL a y
      · have HP := mkHid hp
        rw [hp] at C
        clear hp
        go_wp2
        go_region_held3 (fun W => Bx w W w.heap.size al ah ∧ W.cell? ⟨w.heap.size, 0, none⟩ = some (.int .u64 al) ∧ W.cell? ⟨w.heap.size, 1, none⟩ = some (.int .u64 ah) ∧ W.cell? ⟨b, off + k, none⟩ = some (.int .i64 y))
          (first
            | (with_reducible exact ⟨hS.1.next hw, cell_grows hw hS.2.1, cell_grows hw hS.2.2.1, cell_grows hw hS.2.2.2⟩)
            | exact ⟨hs0, p1, p2, p3⟩)
          (first
            | (go_at_call 24; have hS : Bx w _ _ _ _ ∧ _ := (by assumption); ((with_reducible refine (C.out _).mono ?_); rintro e w6 ⟨rfl, hw⟩)))
        have hT' : Bx w _ _ _ _ ∧ _ := (by assumption)
        have HB := mkHid hT'.1
        clear hT'
        go_wp2
        go_roundw
        case rel => exact ⟨k + 1, by omega, by go_num, mkHid ⟨any_step H.out.1 HY.out HP.out, HB.out⟩⟩
        case measure => simp [intOf]; omega
      · have HP := mkHid hp
        rw [hp] at C
        clear hp
        go_wp2
        go_region_held3 (fun W => Bx w W w.heap.size al ah ∧ W.cell? ⟨w.heap.size, 0, none⟩ = some (.int .u64 al) ∧ W.cell? ⟨w.heap.size, 1, none⟩ = some (.int .u64 ah) ∧ W.cell? ⟨b, off + k, none⟩ = some (.int .i64 y))
          (first
            | (with_reducible exact ⟨hS.1.next hw, cell_grows hw hS.2.1, cell_grows hw hS.2.2.1, cell_grows hw hS.2.2.2⟩)
            | exact ⟨hs0, p1, p2, p3⟩)
          (first
            | (go_at_call 24; have hS : Bx w _ _ _ _ ∧ _ := (by assumption); ((with_reducible refine (C.out _).mono ?_); rintro e w6 ⟨rfl, hw⟩)))
        have hT' : Bx w _ _ _ _ ∧ _ := (by assumption)
        have HB := mkHid hT'.1
        clear hT'
        have HF := mkHid (any_found (P := holdsL a) HY.out HP.out)
        go_wp2
        go_ret
        exact ⟨by rw [← HR.out, HF.out]; rfl, HB.out.1⟩
    · have hk1 : ¬ (k : Int) < (l.length : Int) := by omega
      have HF := mkHid (any_none (P := holdsL a) H.out.1 (by omega))
      go_wp2
      go_ret
      exact ⟨by rw [← HR.out, HF.out]; rfl, H.out.2.1⟩

set_option maxRecDepth 100000 in
set_option maxHeartbeats 4000000 in
theorem rall_any (a : BitVec 128) (v : Value) (l : List Int) (w : World) (hv : Ints w v l) (hlen : l.length ≤ 1000000) :
    Calls Try.prog 28 #[sv a, v] w fun e w' => e = .returned (.bool (allL a l)) ∧ Below w.heap.size w w' := by
  obtain ⟨ao, cap, rfl, hc⟩ := hv.uni
  have HC := mkHid hc
  have CH := mkHid (fun x W => rholds_any a x W)
  have HX := mkHid (show Bx w (w.alloc (.cells #[.int .u64 (wd (lo a)), .int .u64 (wd (hi a))] 36)) w.heap.size (wd (lo a)) (wd (hi a)) from ⟨bal (Below.refl _ _) _, AtS.new w w.heap.size _ _ _ rfl⟩)
  have HRES : Hid (allL a l = !l.any (fun x => !holdsL a x)) := mkHid (by unfold allL; rw [List.all_eq_not_any_not])
  rw [HRES.out]
  generalize hres : (l.any fun x => !holdsL a x) = res
  have HR := mkHid hres
  clear hc hv hres HRES
  unfold sv at *
  generalize wd (lo a) = al at *
  generalize wd (hi a) = ah at *
  go_enter Try.func28, Try.ntmps28
  go_wp2
  go_loopw [5] (fun iv wr => ∃ k : Nat, k ≤ l.length ∧ iv = .int .i64 (k : Int) ∧ Hid ((∀ y ∈ l.take k, (fun x => !holdsL a x) y = false) ∧ Bx w wr w.heap.size al ah)) (fun iv _ => l.length - (intOf iv).toNat)
  case atStart => exact ⟨0, Nat.zero_le _, rfl, mkHid ⟨any_start, HX.out⟩⟩
  case round =>
    obtain ⟨k, hk, rfl, H⟩ := hrel
    clear HX
    by_cases hlt : k < l.length
    · obtain ⟨y, hy⟩ : ∃ y, l[k]? = some y := ⟨l[k], List.getElem?_eq_getElem hlt⟩
      obtain ⟨b, off, rfl, hcx0⟩ := HC.out k y hy
      have p3 := cell_grows H.out.2.1 hcx0
      have hk1 : (k : Int) < (l.length : Int) := by omega
      have hk0 : (0 : Int) ≤ (k : Int) := by omega
      have HY := mkHid hy
      have C := mkHid (CH.out y)
      have hs0 : Bx w wr.drew w.heap.size al ah := ⟨H.out.2.1.drew, H.out.2.2⟩
      obtain ⟨p1, p2, -, -⟩ := H.out.2.2
      clear hy hcx0 CH
      cases hp : holdsL a y
      · have HP := mkHid hp
        rw [hp] at C
        clear hp
        go_wp2
        go_region_held3 (fun W => Bx w W w.heap.size al ah ∧ W.cell? ⟨w.heap.size, 0, none⟩ = some (.int .u64 al) ∧ W.cell? ⟨w.heap.size, 1, none⟩ = some (.int .u64 ah) ∧ W.cell? ⟨b, off + k, none⟩ = some (.int .i64 y))
          (first
            | (with_reducible exact ⟨hS.1.next hw, cell_grows hw hS.2.1, cell_grows hw hS.2.2.1, cell_grows hw hS.2.2.2⟩)
            | exact ⟨hs0, p1, p2, p3⟩)
          (first
            | (go_at_call 24; have hS : Bx w _ _ _ _ ∧ _ := (by assumption); ((with_reducible refine (C.out _).mono ?_); rintro e w6 ⟨rfl, hw⟩)))
        have hT' : Bx w _ _ _ _ ∧ _ := (by assumption)
        have HB := mkHid hT'.1
        clear hT'
        have HF := mkHid (any_found (P := fun x => !holdsL a x) HY.out (by simp [HP.out]))
        go_wp2
        go_ret
        exact ⟨by rw [← HR.out, HF.out]; rfl, HB.out.1⟩
      · have HP := mkHid hp
        rw [hp] at C
        clear hp
        go_wp2
        go_region_held3 (fun W => Bx w W w.heap.size al ah ∧ W.cell? ⟨w.heap.size, 0, none⟩ = some (.int .u64 al) ∧ W.cell? ⟨w.heap.size, 1, none⟩ = some (.int .u64 ah) ∧ W.cell? ⟨b, off + k, none⟩ = some (.int .i64 y))
          (first
            | (with_reducible exact ⟨hS.1.next hw, cell_grows hw hS.2.1, cell_grows hw hS.2.2.1, cell_grows hw hS.2.2.2⟩)
            | exact ⟨hs0, p1, p2, p3⟩)
          (first
            | (go_at_call 24; have hS : Bx w _ _ _ _ ∧ _ := (by assumption); ((with_reducible refine (C.out _).mono ?_); rintro e w6 ⟨rfl, hw⟩)))
        have hT' : Bx w _ _ _ _ ∧ _ := (by assumption)
        have HB := mkHid hT'.1
        clear hT'
        go_wp2
        go_roundw
        case rel => exact ⟨k + 1, by omega, by go_num, mkHid ⟨any_step (P := fun x => !holdsL a x) H.out.1 HY.out (by simp [HP.out]), HB.out⟩⟩
        case measure => simp [intOf]; omega
    · have hk1 : ¬ (k : Int) < (l.length : Int) := by omega
      have HF := mkHid (any_none (P := fun x => !holdsL a x) H.out.1 (by omega))
      go_wp2
      go_ret
      exact ⟨by rw [← HR.out, HF.out]; rfl, H.out.2.1⟩

end Go.Proofs.Ytniagnbeeebobaa
