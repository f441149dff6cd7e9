/- LitForms: Var and Valid answer what the specification of the chapter answers. -/
import Derived.Test.YtniagnbeeebobaaLX
namespace Go.Proofs.Ytniagnbeeebobaa
open Go.RowKit VM LM

set_option maxRecDepth 100000 in
set_option maxHeartbeats 4000000 in
theorem forms_any (l n : Int) (w : World) (h : In64 l) (_ : In64 n) :
    Calls Try.prog 3 #[.int .i64 l, .int .i64 n] w fun e w' => e = .returned (.bool true) ∧ Below w.heap.size w w' := by
  have C1 := mkHid (fun W => var_any l W h)
  have C2 := mkHid (fun W => rvar_any l W)
  have C3 := mkHid (fun W => valid_any l n W h)
  have C4 := mkHid (fun W => rvalid_any l n W)
  have CW := mkHid works_any
  clear h
  generalize varL l = v at *
  generalize validL l n = b at *
  go_enter Try.func3, Try.ntmps3
  go_wp2_with (first
    | (go_at_call 12; refine (C1.out _).mono ?_; rintro e w2 ⟨rfl, rfl⟩)
    | (go_at_call 13; refine (C2.out _).mono ?_; rintro e w2 ⟨rfl, rfl⟩)
    | (go_at_call 14; refine (C3.out _).mono ?_; rintro e w2 ⟨rfl, rfl⟩)
    | (go_at_call 15; refine (C4.out _).mono ?_; rintro e w2 ⟨rfl, rfl⟩)
    | (go_at_call 16; refine (CW.out _).mono ?_; rintro e w2 ⟨rfl, hb⟩))
  go_ret
  exact ⟨rfl, hb⟩
end Go.Proofs.Ytniagnbeeebobaa
