/- VarsOrders: Less reports what the chapter specifies. -/
import Derived.Test.YtpfappojeneecaaDoorVWorks
import Derived.Test.YtpfappojeneecaaDoorVRef
namespace Go.Proofs.YtpfappojeneecaaDoor
open Go.RowKit VM

set_option maxRecDepth 100000 in
set_option maxHeartbeats 8000000 in
theorem orders_any (a b : BitVec 128) (w : World) (ht : Tab w) :
    Calls Tryd.prog 7 #[sv a, sv b] w fun e w' => e = .returned (.bool true) ∧ Below w.heap.size w w' := by
  have hT := (((On.nil ht).box (wd (lo a)) (wd (hi a)) 26 (w.heap.size) rfl).box (wd (lo b)) (wd (hi b)) 26 (w.heap.size + 1) (by simp))
  clear ht
  have CL := fun W => less_any a b W
  have CR := fun W hT => rless_any a b W hT
  unfold sv at *
  generalize wd (lo a) = a0 at *
  generalize wd (hi a) = a1 at *
  generalize wd (lo b) = b0 at *
  generalize wd (hi b) = b1 at *
  generalize less a b = r at *
  have CL := mkHid CL
  have CR := mkHid CR
  obtain ⟨p00, p01, -, -⟩ := hT.h2
  obtain ⟨p10, p11, -, -⟩ := hT.h1
  go_enter Tryd.func7, Tryd.ntmps7
  go_wp2
  have hs0 := hT.drew
  go_region_held3 (fun W => On w W [(w.heap.size + 1, b0, b1), (w.heap.size, a0, a1)] ∧ W.cell? ⟨w.heap.size, 0, none⟩ = some (.int .u64 a0) ∧ W.cell? ⟨w.heap.size, 1, none⟩ = some (.int .u64 a1) ∧ W.cell? ⟨w.heap.size + 1, 0, none⟩ = some (.int .u64 b0) ∧ W.cell? ⟨w.heap.size + 1, 1, none⟩ = some (.int .u64 b1))
    (first
      | (with_reducible exact ⟨hS.1.next hw, cell_grows hw hS.2.1, cell_grows hw hS.2.2.1, cell_grows hw hS.2.2.2.1, cell_grows hw hS.2.2.2.2⟩)
      | exact ⟨hs0, p00, p01, p10, p11⟩)
    (first
      | (go_at_call 39; have hS : On w _ _ ∧ _ := (by assumption); ((with_reducible refine (CL.out _).mono ?_); rintro e w6 ⟨rfl, hw⟩))
      | (go_at_call 40; have hS : On w _ _ ∧ _ := (by assumption); ((with_reducible refine (CR.out _ hS.1.tab).mono ?_); rintro e w6 ⟨rfl, hw⟩))
      | (go_at_call 13; have hS : On w _ _ ∧ _ := (by assumption); ((with_reducible refine (works_any _ hS.1.tab).mono ?_); rintro e w6 ⟨rfl, hw⟩)))
  have hT' : On w _ _ ∧ _ := (by assumption)
  have HB := mkHid hT'.1.below
  clear hT'
  go_wp2
  go_ret
  exact ⟨rfl, HB.out⟩
end Go.Proofs.YtpfappojeneecaaDoor
