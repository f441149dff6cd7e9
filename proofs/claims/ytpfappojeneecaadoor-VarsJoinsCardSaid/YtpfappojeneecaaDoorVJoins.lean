/- VarsJoins: Union, Cut, Minus and Sub return what the chapter specifies. -/
import Derived.Test.YtpfappojeneecaaDoorVWorks
import Derived.Test.YtpfappojeneecaaDoorVWithR
namespace Go.Proofs.YtpfappojeneecaaDoor
open Go.RowKit VM

set_option maxRecDepth 100000 in
set_option maxHeartbeats 8000000 in
theorem joins_any (a b : BitVec 128) (w : World) (ht : Tab w) :
    Calls Tryd.prog 5 #[sv a, sv b] w fun e w' => e = .returned (.bool true) ∧ Below w.heap.size w w' := by
  have hT := (((On.nil ht).box (wd (lo a)) (wd (hi a)) 26 (w.heap.size) rfl).box (wd (lo b)) (wd (hi b)) 26 (w.heap.size + 1) (by simp))
  clear ht
  have CU := fun W => union_any a b W
  have RU := fun W hT => runion_any a b W hT
  have CC := fun W => cut_any a b W
  have RC := fun W hT => rcut_any a b W hT
  have CM := fun W => minus_any a b W
  have RM := fun W hT => rminus_any a b W hT
  have CS := fun W => sub_any a b W
  have RS := fun W hT => rsub_any a b W hT
  have Eu := fun W => eq_words W (wd (lo (a ||| b))) (wd (hi (a ||| b))) (wd (lo (a ||| b))) (wd (hi (a ||| b)))
  have Ed := fun W => eq_words W (wd (lo (a &&& b))) (wd (hi (a &&& b))) (wd (lo (a &&& b))) (wd (hi (a &&& b)))
  have Em := fun W => eq_words W (wd (lo (a &&& ~~~b))) (wd (hi (a &&& ~~~b))) (wd (lo (a &&& ~~~b))) (wd (hi (a &&& ~~~b)))
  simp only [beq_self_eq_true, Bool.and_self] at Eu Ed Em
  unfold sv at *
  generalize wd (lo a) = a0 at *
  generalize wd (hi a) = a1 at *
  generalize wd (lo b) = b0 at *
  generalize wd (hi b) = b1 at *
  generalize wd (lo (a ||| b)) = u0 at *
  generalize wd (hi (a ||| b)) = u1 at *
  generalize wd (lo (a &&& b)) = d0 at *
  generalize wd (hi (a &&& b)) = d1 at *
  generalize wd (lo (a &&& ~~~b)) = m0 at *
  generalize wd (hi (a &&& ~~~b)) = m1 at *
  generalize subV a b = r at *
  have CU := mkHid CU
  have RU := mkHid RU
  have CC := mkHid CC
  have RC := mkHid RC
  have CM := mkHid CM
  have RM := mkHid RM
  have CS := mkHid CS
  have RS := mkHid RS
  obtain ⟨p00, p01, -, -⟩ := hT.h2
  obtain ⟨p10, p11, -, -⟩ := hT.h1
  go_enter Tryd.func5, Tryd.ntmps5
  go_wp2
  have hs0 := hT.drew
  go_region_held3 (fun W => On w W [(w.heap.size + 1, b0, b1), (w.heap.size, a0, a1)] ∧ W.cell? ⟨w.heap.size, 0, none⟩ = some (.int .u64 a0) ∧ W.cell? ⟨w.heap.size, 1, none⟩ = some (.int .u64 a1) ∧ W.cell? ⟨w.heap.size + 1, 0, none⟩ = some (.int .u64 b0) ∧ W.cell? ⟨w.heap.size + 1, 1, none⟩ = some (.int .u64 b1))
    (first
      | (with_reducible exact ⟨hS.1.next hw, cell_grows hw hS.2.1, cell_grows hw hS.2.2.1, cell_grows hw hS.2.2.2.1, cell_grows hw hS.2.2.2.2⟩)
      | exact ⟨hs0, p00, p01, p10, p11⟩)
    (first
      | (go_at_call 25; have hS : On w _ _ ∧ _ := (by assumption); ((with_reducible refine (CU.out _).mono ?_); rintro e w6 ⟨rfl, hw⟩))
      | (go_at_call 26; have hS : On w _ _ ∧ _ := (by assumption); ((with_reducible refine (RU.out _ hS.1.tab).mono ?_); rintro e w6 ⟨rfl, hw⟩))
      | (go_at_call 27; have hS : On w _ _ ∧ _ := (by assumption); ((with_reducible refine (CC.out _).mono ?_); rintro e w6 ⟨rfl, hw⟩))
      | (go_at_call 28; have hS : On w _ _ ∧ _ := (by assumption); ((with_reducible refine (RC.out _ hS.1.tab).mono ?_); rintro e w6 ⟨rfl, hw⟩))
      | (go_at_call 29; have hS : On w _ _ ∧ _ := (by assumption); ((with_reducible refine (CM.out _).mono ?_); rintro e w6 ⟨rfl, hw⟩))
      | (go_at_call 30; have hS : On w _ _ ∧ _ := (by assumption); ((with_reducible refine (RM.out _ hS.1.tab).mono ?_); rintro e w6 ⟨rfl, hw⟩))
      | (go_at_call 31; have hS : On w _ _ ∧ _ := (by assumption); ((with_reducible refine (CS.out _).mono ?_); rintro e w6 ⟨rfl, hw⟩))
      | (go_at_call 32; have hS : On w _ _ ∧ _ := (by assumption); ((with_reducible refine (RS.out _ hS.1.tab).mono ?_); rintro e w6 ⟨rfl, hw⟩))
      | (go_at_call 13; have hS : On w _ _ ∧ _ := (by assumption); ((with_reducible refine (works_any _ hS.1.tab).mono ?_); rintro e w6 ⟨rfl, hw⟩)))
  have hT' : On w _ _ ∧ _ := (by assumption)
  have HB := mkHid hT'.1.below
  clear hT'
  go_wp2
  go_ret
  exact ⟨rfl, HB.out⟩
end Go.Proofs.YtpfappojeneecaaDoor
