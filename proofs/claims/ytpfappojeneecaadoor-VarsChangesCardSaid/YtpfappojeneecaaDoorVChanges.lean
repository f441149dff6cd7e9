/- VarsChanges: Has, With and Without return what the chapter specifies. -/
import Derived.Test.YtpfappojeneecaaDoorVWorks
import Derived.Test.YtpfappojeneecaaDoorVWithR
namespace Go.Proofs.YtpfappojeneecaaDoor
open Go.RowKit VM

set_option maxRecDepth 100000 in
set_option maxHeartbeats 8000000 in
theorem changes_any (s : BitVec 128) (v : Int) (w : World) (ht : Tab w) (_ : -9223372036854775808 ≤ v) (_ : v ≤ 9223372036854775807) :
    Calls Tryd.prog 4 #[sv s, .int .i64 v] w fun e w' => e = .returned (.bool true) ∧ Below w.heap.size w w' := by
  have hT := ((On.nil ht).box (wd (lo s)) (wd (hi s)) 26 (w.heap.size) rfl)
  clear ht
  have CH := fun W => has_any s v W
  have RH := fun W => rhas_any s v W
  have CW := fun W => with_any s v W
  have RW := fun W hT => rwith_any s v W hT
  have CO := fun W => without_any s v W
  have RO := fun W hT => rwithout_any s v W hT
  have Eu := fun W => eq_words W (wd (lo (withV s v))) (wd (hi (withV s v))) (wd (lo (withV s v))) (wd (hi (withV s v)))
  have Em := fun W => eq_words W (wd (lo (without s v))) (wd (hi (without s v))) (wd (lo (without s v))) (wd (hi (without s v)))
  simp only [beq_self_eq_true, Bool.and_self] at Eu Em
  unfold sv at *
  generalize wd (lo s) = s0 at *
  generalize wd (hi s) = s1 at *
  generalize wd (lo (withV s v)) = u0 at *
  generalize wd (hi (withV s v)) = u1 at *
  generalize wd (lo (without s v)) = m0 at *
  generalize wd (hi (without s v)) = m1 at *
  generalize has s v = r at *
  have CH := mkHid CH
  have RH := mkHid RH
  have CW := mkHid CW
  have RW := mkHid RW
  have CO := mkHid CO
  have RO := mkHid RO
  obtain ⟨p00, p01, -, -⟩ := hT.h1
  go_enter Tryd.func4, Tryd.ntmps4
  go_wp2
  have hs0 := hT.drew
  go_region_held3 (fun W => On w W [(w.heap.size, s0, s1)] ∧ W.cell? ⟨w.heap.size, 0, none⟩ = some (.int .u64 s0) ∧ W.cell? ⟨w.heap.size, 1, none⟩ = some (.int .u64 s1))
    (first
      | (with_reducible exact ⟨hS.1.next hw, cell_grows hw hS.2.1, cell_grows hw hS.2.2⟩)
      | exact ⟨hs0, p00, p01⟩)
    (first
      | (go_at_call 19; have hS : On w _ _ ∧ _ := (by assumption); ((with_reducible refine (CH.out _).mono ?_); rintro e w6 ⟨rfl, hw⟩))
      | (go_at_call 20; have hS : On w _ _ ∧ _ := (by assumption); ((with_reducible refine (RH.out _).mono ?_); rintro e w6 ⟨rfl, hw⟩))
      | (go_at_call 21; have hS : On w _ _ ∧ _ := (by assumption); ((with_reducible refine (CW.out _).mono ?_); rintro e w6 ⟨rfl, hw⟩))
      | (go_at_call 22; have hS : On w _ _ ∧ _ := (by assumption); ((with_reducible refine (RW.out _ hS.1.tab).mono ?_); rintro e w6 ⟨rfl, hw⟩))
      | (go_at_call 23; have hS : On w _ _ ∧ _ := (by assumption); ((with_reducible refine (CO.out _).mono ?_); rintro e w6 ⟨rfl, hw⟩))
      | (go_at_call 24; have hS : On w _ _ ∧ _ := (by assumption); ((with_reducible refine (RO.out _ hS.1.tab).mono ?_); rintro e w6 ⟨rfl, hw⟩))
      | (go_at_call 13; have hS : On w _ _ ∧ _ := (by assumption); ((with_reducible refine (works_any _ hS.1.tab).mono ?_); rintro e w6 ⟨rfl, hw⟩)))
  have hT' : On w _ _ ∧ _ := (by assumption)
  have HB := mkHid hT'.1.below
  clear hT'
  go_wp2
  go_ret
  exact ⟨rfl, HB.out⟩
end Go.Proofs.YtpfappojeneecaaDoor
