/- LitKnown: the examples of the chapter. -/
import Derived.Test.YtniagnbeeebobaaLX
namespace Go.Proofs.Ytniagnbeeebobaa
open Go.RowKit VM LM

theorem kn1 : tmB [3, -3] 3 = false := by decide +kernel
theorem kn2 : tmB [0] 3 = false := by decide +kernel
theorem kn3 : clE [4] 3 = 1 := by decide +kernel
theorem kn4 : rsB [1] [1] 1 = false := by decide +kernel
theorem kn5 : varL 0 = 0 := by decide +kernel
theorem kn6 : varL 129 = 0 := by decide +kernel
theorem kn7 : varL (-9223372036854775808) = 0 := by decide +kernel
theorem kn8 : validL (-5) 5 = true := by decide +kernel
theorem kn9 : validL (-5) 4 = false := by decide +kernel
theorem kn10 : validL 128 1000 = true := by decide +kernel
theorem kn11 : anyL 0#128 [] = false := rfl
theorem kn12 : allL 0#128 [] = true := rfl
theorem kn13 : holdsL 0#128 (-128) = true := by decide +kernel
theorem kn14 : sv 0#128 = .agg #[.int .u64 0, .int .u64 0] := by kernel_rfl
theorem ints_nil (W : World) : Ints W (.slice none 0 0) [] := .inl ⟨rfl, none, 0, rfl⟩

set_option maxRecDepth 100000 in
set_option maxHeartbeats 8000000 in
theorem litKnown_any (w : World) :
    Calls Try.prog 11 #[] w fun e w' => e = .returned (.bool true) ∧ Below w.heap.size w w' := by
  have CW := mkHid works_any
  have T1 := term_new [3, -3] #[.int .i64 3, .int .i64 (-3)] 2 3 rfl rfl (by decide) (lit64 (by decide))
  have T2 := term_new [0] #[.int .i64 0] 1 3 rfl rfl (by decide) (lit64 (by decide))
  have C1 := clause_new [4] #[.int .i64 4] 1 3 rfl rfl (by decide) (lit64 (by decide))
  have R1 := resolve_new [1] [1] #[.int .i64 1] #[.int .i64 1] 1 1 1 rfl rfl rfl rfl (by decide) (by decide) (lit64 (by decide)) (lit64 (by decide))
  have V1 := fun W => var_any 0 W (by unfold In64; omega)
  have V2 := fun W => var_any 129 W (by unfold In64; omega)
  have V3 := fun W => var_any (-9223372036854775808) W (by unfold In64; omega)
  have D1 := fun W => valid_any (-5) 5 W (by unfold In64; omega)
  have D2 := fun W => valid_any (-5) 4 W (by unfold In64; omega)
  have D3 := fun W => valid_any 128 1000 W (by unfold In64; omega)
  have A1 := fun W => anyL_any 0#128 _ [] W (ints_nil W) (by decide) (by simp)
  have A2 := fun W => allL_any 0#128 _ [] W (ints_nil W) (by decide) (by simp)
  have H1 := fun W => holds_any 0#128 (-128) W (by unfold In64; omega)
  rw [kn1] at T1
  rw [kn2] at T2
  rw [kn3] at C1
  rw [kn4] at R1
  rw [kn5] at V1
  rw [kn6] at V2
  rw [kn7] at V3
  rw [kn8] at D1
  rw [kn9] at D2
  rw [kn10] at D3
  rw [kn11, kn14] at A1
  rw [kn12, kn14] at A2
  rw [kn13, kn14] at H1
  generalize tmL [3, -3] 3 = r1 at *
  generalize tmL [0] 3 = r2 at *
  generalize clL [4] 3 = r3 at *
  generalize clB [4] 3 = b3 at *
  generalize rsL [1] [1] 1 = r4 at *
  have T1 := mkHid T1
  have T2 := mkHid T2
  have C1 := mkHid C1
  have R1 := mkHid R1
  have V1 := mkHid V1
  have V2 := mkHid V2
  have V3 := mkHid V3
  have D1 := mkHid D1
  have D2 := mkHid D2
  have D3 := mkHid D3
  have A1 := mkHid A1
  have A2 := mkHid A2
  have H1 := mkHid H1
  have HB := mkHid (Below.refl w.heap.size w)
  go_enter Try.func11, Try.ntmps11
  go_wp2_with (first
    | (go_at_call 18; with_reducible refine (T1.out _).mono ?_; rintro e w1 ⟨u1, rfl, H⟩; have HB := mkHid (bnx HB.out H.out.2); clear H)
    | (go_at_call 18; with_reducible refine (T2.out _).mono ?_; rintro e w2 ⟨u2, rfl, H⟩; have HB := mkHid (bnx HB.out H.out.2); clear H)
    | (go_at_call 20; with_reducible refine (C1.out _).mono ?_; rintro e w3 ⟨u3, rfl, H⟩; have HB := mkHid (bnx HB.out H.out.2); clear H)
    | (go_at_call 29; with_reducible refine (R1.out _).mono ?_; rintro e w4 ⟨u4, rfl, H⟩; have HB := mkHid (bnx HB.out H.out.2); clear H)
    | (go_at_call 12; with_reducible refine (V1.out _).mono ?_; rintro e w9 ⟨rfl, rfl⟩)
    | (go_at_call 12; with_reducible refine (V2.out _).mono ?_; rintro e w9 ⟨rfl, rfl⟩)
    | (go_at_call 12; with_reducible refine (V3.out _).mono ?_; rintro e w9 ⟨rfl, rfl⟩)
    | (go_at_call 14; with_reducible refine (D1.out _).mono ?_; rintro e w9 ⟨rfl, rfl⟩)
    | (go_at_call 14; with_reducible refine (D2.out _).mono ?_; rintro e w9 ⟨rfl, rfl⟩)
    | (go_at_call 14; with_reducible refine (D3.out _).mono ?_; rintro e w9 ⟨rfl, rfl⟩)
    | (go_at_call 25; with_reducible refine (A1.out _).mono ?_; rintro e w9 ⟨rfl, hb⟩; have HB := mkHid (bnx HB.out hb); clear hb)
    | (go_at_call 27; with_reducible refine (A2.out _).mono ?_; rintro e w9 ⟨rfl, hb⟩; have HB := mkHid (bnx HB.out hb); clear hb)
    | (go_at_call 23; with_reducible refine (H1.out _).mono ?_; rintro e w9 ⟨rfl, hb⟩; have HB := mkHid (bnx HB.out hb); clear hb)
    | (go_at_call 16; refine (CW.out _).mono ?_; rintro e w9 ⟨rfl, hb⟩; have HB := mkHid (bnx HB.out hb); clear hb))
  go_ret
  exact ⟨rfl, HB.out⟩
end Go.Proofs.Ytniagnbeeebobaa
