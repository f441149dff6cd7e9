/- VarsLaws: the laws of sets, and of their numbers. -/
import Derived.Test.YtpfappojeneecaaDoorVTotal
import Derived.Test.YtpfappojeneecaaDoorVLen
namespace Go.Proofs.YtpfappojeneecaaDoor
open Go.RowKit VM

theorem dist (a b c : BitVec 128) : (a &&& b) ||| (a &&& c) = a &&& (b ||| c) := by
  refine BitVec.eq_of_getLsbD_eq fun i _ => ?_
  simp only [BitVec.getLsbD_or, BitVec.getLsbD_and]
  cases a.getLsbD i <;> simp
theorem compl (a b : BitVec 128) : a &&& (all 128 &&& ~~~b) = a &&& ~~~b := by
  refine ext_has fun v h1 h2 => ?_
  rw [has_and, has_minus, has_minus, has_all]
  have : decide (1 ≤ v ∧ v ≤ 128 ∧ v ≤ 128) = true := by simp only [decide_eq_true_eq]; omega
  rw [this, Bool.true_and]

set_option maxRecDepth 100000 in
set_option maxHeartbeats 8000000 in
theorem laws_any (a b c : BitVec 128) (w : World) (ht : Tab w) :
    Calls Tryd.prog 8 #[sv a, sv b, sv c] w fun e w' => e = .returned (.bool true) ∧ Below w.heap.size w w' := by
  have hT := Tri.start ht (wd (lo a)) (wd (hi a)) (wd (lo b)) (wd (hi b)) (wd (lo c)) (wd (hi c)) 26
  clear ht
  have Uab := fun W => union_any a b W
  have Uba := fun W => union_any b a W
  rw [BitVec.or_comm b a] at Uba
  have Cab := fun W => cut_any a b W
  have Cba := fun W => cut_any b a W
  rw [BitVec.and_comm b a] at Cba
  have Ubc := fun W => union_any b c W
  have Cae := fun W => cut_any a (b ||| c) W
  have Cac := fun W => cut_any a c W
  have Udf := fun W => union_any (a &&& b) (a &&& c) W
  rw [dist a b c] at Udf
  have Mab := fun W => minus_any a b W
  have Mtb := fun W => minus_any (all 128) b W
  have Can := fun W => cut_any a (all 128 &&& ~~~b) W
  rw [compl a b] at Can
  have La := fun W => len_any a W
  have Lb := fun W => len_any b W
  have Lu := fun W => len_any (a ||| b) W
  have Ld := fun W => len_any (a &&& b) W
  have At := fun W => all_any 128 W (by omega) (by omega)
  have hcard := card_laws a b
  have ga := card_le a
  have gb := card_le b
  have gu := card_le (a ||| b)
  have gd := card_le (a &&& b)
  have Eu := fun W => eq_words W (wd (lo (a ||| b))) (wd (hi (a ||| b))) (wd (lo (a ||| b))) (wd (hi (a ||| b)))
  have Ed := fun W => eq_words W (wd (lo (a &&& b))) (wd (hi (a &&& b))) (wd (lo (a &&& b))) (wd (hi (a &&& b)))
  have Ex := fun W => eq_words W (wd (lo (a &&& (b ||| c)))) (wd (hi (a &&& (b ||| c)))) (wd (lo (a &&& (b ||| c)))) (wd (hi (a &&& (b ||| c))))
  have Em := fun W => eq_words W (wd (lo (a &&& ~~~b))) (wd (hi (a &&& ~~~b))) (wd (lo (a &&& ~~~b))) (wd (hi (a &&& ~~~b)))
  simp only [beq_self_eq_true, Bool.and_self] at Eu Ed Ex Em
  unfold sv at *
  generalize wd (lo a) = a0 at *
  generalize wd (hi a) = a1 at *
  generalize wd (lo b) = b0 at *
  generalize wd (hi b) = b1 at *
  generalize wd (lo c) = c0 at *
  generalize wd (hi c) = c1 at *
  generalize wd (lo (a ||| b)) = u0 at *
  generalize wd (hi (a ||| b)) = u1 at *
  generalize wd (lo (a &&& b)) = d0 at *
  generalize wd (hi (a &&& b)) = d1 at *
  generalize wd (lo (b ||| c)) = e0 at *
  generalize wd (hi (b ||| c)) = e1 at *
  generalize wd (lo (a &&& (b ||| c))) = x0 at *
  generalize wd (hi (a &&& (b ||| c))) = x1 at *
  generalize wd (lo (a &&& c)) = f0 at *
  generalize wd (hi (a &&& c)) = f1 at *
  generalize wd (lo (a &&& ~~~b)) = m0 at *
  generalize wd (hi (a &&& ~~~b)) = m1 at *
  generalize wd (lo (all 128)) = t0 at *
  generalize wd (hi (all 128)) = t1 at *
  generalize wd (lo (all 128 &&& ~~~b)) = n0 at *
  generalize wd (hi (all 128 &&& ~~~b)) = n1 at *
  generalize card a = ka at *
  generalize card b = kb at *
  generalize card (a ||| b) = ku at *
  generalize card (a &&& b) = kd at *
  have Uab := mkHid Uab
  have Uba := mkHid Uba
  have Cab := mkHid Cab
  have Cba := mkHid Cba
  have Ubc := mkHid Ubc
  have Cae := mkHid Cae
  have Cac := mkHid Cac
  have Udf := mkHid Udf
  have Mab := mkHid Mab
  have Mtb := mkHid Mtb
  have Can := mkHid Can
  have La := mkHid La
  have Lb := mkHid Lb
  have Lu := mkHid Lu
  have Ld := mkHid Ld
  have At := mkHid At
  have e1 : IntKind.i64.wrap ((ka : Int) + (kb : Int)) = ((ka + kb : Nat) : Int) := by rw [IntWalk.i64_in _ (by omega)]; omega
  have e2 : IntKind.i64.wrap ((ku : Int) + (kd : Int)) = ((ka + kb : Nat) : Int) := by rw [IntWalk.i64_in _ (by omega)]; omega
  have e3 : (ka : Int) + kb = ku + kd := by omega
  clear hcard
  obtain ⟨p1, p2, q1, q2, r1, r2⟩ := hT.cells
  go_enter Tryd.func8, Tryd.ntmps8
  go_wp2
  have hs0 := hT.drew
  go_region_held3 (fun W => Tri w W w.heap.size (w.heap.size + 1) (w.heap.size + 1 + 1) a0 a1 b0 b1 c0 c1 ∧ W.cell? ⟨w.heap.size, 0, none⟩ = some (.int .u64 a0) ∧ W.cell? ⟨w.heap.size, 1, none⟩ = some (.int .u64 a1) ∧ W.cell? ⟨w.heap.size + 1, 0, none⟩ = some (.int .u64 b0) ∧ W.cell? ⟨w.heap.size + 1, 1, none⟩ = some (.int .u64 b1) ∧ W.cell? ⟨w.heap.size + 1 + 1, 0, none⟩ = some (.int .u64 c0) ∧ W.cell? ⟨w.heap.size + 1 + 1, 1, none⟩ = some (.int .u64 c1))
    (first
      | (with_reducible exact ⟨hS.1.next hw, cell_grows hw hS.2.1, cell_grows hw hS.2.2.1, cell_grows hw hS.2.2.2.1, cell_grows hw hS.2.2.2.2.1, cell_grows hw hS.2.2.2.2.2.1, cell_grows hw hS.2.2.2.2.2.2⟩)
      | exact ⟨hs0, p1, p2, q1, q2, r1, r2⟩)
    (first
      | (go_at_call 25; have hS : Tri w _ _ _ _ _ _ _ _ _ _ ∧ _ := (by assumption); ((with_reducible refine (Uab.out _).mono ?_); rintro e w6 ⟨rfl, hw⟩))
      | (go_at_call 25; have hS : Tri w _ _ _ _ _ _ _ _ _ _ ∧ _ := (by assumption); ((with_reducible refine (Uba.out _).mono ?_); rintro e w6 ⟨rfl, hw⟩))
      | (go_at_call 27; have hS : Tri w _ _ _ _ _ _ _ _ _ _ ∧ _ := (by assumption); ((with_reducible refine (Cab.out _).mono ?_); rintro e w6 ⟨rfl, hw⟩))
      | (go_at_call 27; have hS : Tri w _ _ _ _ _ _ _ _ _ _ ∧ _ := (by assumption); ((with_reducible refine (Cba.out _).mono ?_); rintro e w6 ⟨rfl, hw⟩)))
  have hT' : Tri w _ _ _ _ _ _ _ _ _ _ ∧ _ := (by assumption)
  obtain ⟨hT, p1, p2, q1, q2, r1, r2⟩ := hT'
  have hs0 := hT.drew
  go_wp2
  go_region_held3 (fun W => Tri w W w.heap.size (w.heap.size + 1) (w.heap.size + 1 + 1) a0 a1 b0 b1 c0 c1 ∧ W.cell? ⟨w.heap.size, 0, none⟩ = some (.int .u64 a0) ∧ W.cell? ⟨w.heap.size, 1, none⟩ = some (.int .u64 a1) ∧ W.cell? ⟨w.heap.size + 1, 0, none⟩ = some (.int .u64 b0) ∧ W.cell? ⟨w.heap.size + 1, 1, none⟩ = some (.int .u64 b1) ∧ W.cell? ⟨w.heap.size + 1 + 1, 0, none⟩ = some (.int .u64 c0) ∧ W.cell? ⟨w.heap.size + 1 + 1, 1, none⟩ = some (.int .u64 c1))
    (first
      | (with_reducible exact ⟨hS.1.next hw, cell_grows hw hS.2.1, cell_grows hw hS.2.2.1, cell_grows hw hS.2.2.2.1, cell_grows hw hS.2.2.2.2.1, cell_grows hw hS.2.2.2.2.2.1, cell_grows hw hS.2.2.2.2.2.2⟩)
      | exact ⟨hs0, p1, p2, q1, q2, r1, r2⟩)
    (first
      | (go_at_call 25; have hS : Tri w _ _ _ _ _ _ _ _ _ _ ∧ _ := (by assumption); ((with_reducible refine (Ubc.out _).mono ?_); rintro e w6 ⟨rfl, hw⟩))
      | (go_at_call 27; have hS : Tri w _ _ _ _ _ _ _ _ _ _ ∧ _ := (by assumption); ((with_reducible refine (Cae.out _).mono ?_); rintro e w6 ⟨rfl, hw⟩))
      | (go_at_call 27; have hS : Tri w _ _ _ _ _ _ _ _ _ _ ∧ _ := (by assumption); ((with_reducible refine (Cab.out _).mono ?_); rintro e w6 ⟨rfl, hw⟩))
      | (go_at_call 27; have hS : Tri w _ _ _ _ _ _ _ _ _ _ ∧ _ := (by assumption); ((with_reducible refine (Cac.out _).mono ?_); rintro e w6 ⟨rfl, hw⟩))
      | (go_at_call 25; have hS : Tri w _ _ _ _ _ _ _ _ _ _ ∧ _ := (by assumption); ((with_reducible refine (Udf.out _).mono ?_); rintro e w6 ⟨rfl, hw⟩))
      | (go_at_call 29; have hS : Tri w _ _ _ _ _ _ _ _ _ _ ∧ _ := (by assumption); ((with_reducible refine (Mab.out _).mono ?_); rintro e w6 ⟨rfl, hw⟩))
      | (go_at_call 17; have hS : Tri w _ _ _ _ _ _ _ _ _ _ ∧ _ := (by assumption); ((with_reducible refine (At.out _).mono ?_); rintro e w6 ⟨rfl, hw⟩))
      | (go_at_call 29; have hS : Tri w _ _ _ _ _ _ _ _ _ _ ∧ _ := (by assumption); ((with_reducible refine (Mtb.out _).mono ?_); rintro e w6 ⟨rfl, hw⟩))
      | (go_at_call 27; have hS : Tri w _ _ _ _ _ _ _ _ _ _ ∧ _ := (by assumption); ((with_reducible refine (Can.out _).mono ?_); rintro e w6 ⟨rfl, hw⟩)))
  have hT' : Tri w _ _ _ _ _ _ _ _ _ _ ∧ _ := (by assumption)
  obtain ⟨hT, p1, p2, q1, q2, r1, r2⟩ := hT'
  have hs0 := hT.drew
  go_wp2
  go_region_held3 (fun W => Tri w W w.heap.size (w.heap.size + 1) (w.heap.size + 1 + 1) a0 a1 b0 b1 c0 c1 ∧ W.cell? ⟨w.heap.size, 0, none⟩ = some (.int .u64 a0) ∧ W.cell? ⟨w.heap.size, 1, none⟩ = some (.int .u64 a1) ∧ W.cell? ⟨w.heap.size + 1, 0, none⟩ = some (.int .u64 b0) ∧ W.cell? ⟨w.heap.size + 1, 1, none⟩ = some (.int .u64 b1) ∧ W.cell? ⟨w.heap.size + 1 + 1, 0, none⟩ = some (.int .u64 c0) ∧ W.cell? ⟨w.heap.size + 1 + 1, 1, none⟩ = some (.int .u64 c1))
    (first
      | (with_reducible exact ⟨hS.1.next hw, cell_grows hw hS.2.1, cell_grows hw hS.2.2.1, cell_grows hw hS.2.2.2.1, cell_grows hw hS.2.2.2.2.1, cell_grows hw hS.2.2.2.2.2.1, cell_grows hw hS.2.2.2.2.2.2⟩)
      | exact ⟨hs0, p1, p2, q1, q2, r1, r2⟩)
    (first
      | (go_at_call 33; have hS : Tri w _ _ _ _ _ _ _ _ _ _ ∧ _ := (by assumption); ((with_reducible refine (La.out _).mono ?_); rintro e w6 ⟨rfl, hw⟩))
      | (go_at_call 33; have hS : Tri w _ _ _ _ _ _ _ _ _ _ ∧ _ := (by assumption); ((with_reducible refine (Lb.out _).mono ?_); rintro e w6 ⟨rfl, hw⟩))
      | (go_at_call 25; have hS : Tri w _ _ _ _ _ _ _ _ _ _ ∧ _ := (by assumption); ((with_reducible refine (Uab.out _).mono ?_); rintro e w6 ⟨rfl, hw⟩))
      | (go_at_call 33; have hS : Tri w _ _ _ _ _ _ _ _ _ _ ∧ _ := (by assumption); ((with_reducible refine (Lu.out _).mono ?_); rintro e w6 ⟨rfl, hw⟩))
      | (go_at_call 27; have hS : Tri w _ _ _ _ _ _ _ _ _ _ ∧ _ := (by assumption); ((with_reducible refine (Cab.out _).mono ?_); rintro e w6 ⟨rfl, hw⟩))
      | (go_at_call 33; have hS : Tri w _ _ _ _ _ _ _ _ _ _ ∧ _ := (by assumption); ((with_reducible refine (Ld.out _).mono ?_); rintro e w6 ⟨rfl, hw⟩))
      | (go_at_call 13; have hS : Tri w _ _ _ _ _ _ _ _ _ _ ∧ _ := (by assumption); ((with_reducible refine (works_any _ hS.1.tab).mono ?_); rintro e w6 ⟨rfl, hw⟩)))
  have hT' : Tri w _ _ _ _ _ _ _ _ _ _ ∧ _ := (by assumption)
  have HB := mkHid hT'.1.below
  clear hT'
  go_wp2
  go_ret
  exact ⟨rfl, HB.out⟩
end Go.Proofs.YtpfappojeneecaaDoor
