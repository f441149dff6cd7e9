/- TheoryJoins: the variables of a theory, and the conjunction of two, are as specified, for all theories that are light. -/
import Derived.Test.YtalpbpcanebbbaaUT
import Derived.Test.YtalpbpcanebbbaaTRow
namespace Go.Proofs.Ytalpbpcanebbbaa
open Go.ChangeShapes Go.WideShapes Go.ChangeAt Go.RowKit VM LM

set_option maxRecDepth 100000 in
theorem theoryJoins_contract (H : Type) (enc : TypeId × Value → H) (W : World) (base : Nat) (args : Array Value) (ds gs : List (DataW H)) (before : List MemPlace)
    (hval : ∀ (j : Nat) t v, Try.f7.params[j]? = some t → args[j]? = some v → Value.okWide Try.prog W .any base t v)
    (hW : DataW.Whole enc Try.prog Try.f7.params.toList Rows.theoryJoinsSpec.vars false W args.toList ds gs before) :
    Calls Try.prog 7 args W fun e W' => ∃ v, e = .returned v ∧ Rows.theoryJoinsSpec.post enc Try.prog Try.f7 false true false false W args v W' := by
  have hW' := hW
  obtain ⟨p, q, hA0, hV, rfl, _, _⟩ := hW
  have hA : DataW.TrodAll enc Try.prog W 0 (fun _ => true) true Try.f7.params.toList args.toList ds p := hA0
  rw [Try.params7] at hA hval
  obtain ⟨v0, vs0, d0, ds0, p0, q0, hargs, rfl, rfl, h0, r0⟩ := trodAll_cons hA
  obtain ⟨v1, vs1, d1, ds1, p1, q1, rfl, rfl, rfl, h1, r1⟩ := trodAll_cons r0
  obtain ⟨rfl, rfl, rfl⟩ := trodAll_nil r1
  obtain rfl : args = #[v0, v1] := by cases args; simp_all
  obtain ⟨rfl, rfl⟩ := trodVars_none hV
  have hlt := hW'.lt
  obtain ⟨n0, v0', L0, rfl, b0, x0⟩ := theory_of h0 (hval 0 24 v0 rfl rfl)
  obtain ⟨n1, v1', L1, rfl, b1, x1⟩ := theory_of h1 (hval 1 24 v1 rfl rfl)
  refine (joins_law n0 v0' L0 n1 v1' L1 W b0 x0 b1 x1).mono fun e W' ⟨he, hb⟩ => ?_
  subst he
  refine ⟨_, rfl, _, _, _, [], _, [], hW', trodAll_cons_mk (shut_bool Try.underlying4 _) trodAll_mk0, trodAll_cons_mk (reread readT lessT h0 hb fun x hx => ?_) (trodAll_cons_mk (reread readT lessT h1 hb fun x hx => ?_) trodAll_mk0), rfl, hb.frame _, fun h => by cases h⟩
  all_goals
    have := hlt x (by simp [hx])
    simpa using this

set_option maxRecDepth 100000 in
theorem theoryJoins_lifted (os : Os) (started : os.Started) (H : Type) (enc : TypeId × Value → H) :
    ReturnsInHanded {} Try.checked os 7 .any (Rows.theoryJoinsSpec.pre6 enc Try.prog Try.f7 [] false) (Rows.theoryJoinsSpec.post enc Try.prog Try.f7 false true false false) := by
  refine returnsInHanded_of_change (C := Try.checked) own started (by kernel_rfl) Try.func7
    (ChangeSpec.witness6 false ⟨#[], #[.agg #[.int .i64 0, .slice none 0 0], .agg #[.int .i64 0, .slice none 0 0]], []⟩ 8 (by kernel_rfl) (by kernel_rfl) (by kernel_rfl) (by kernel_rfl)) ?_
  intro W base args ds gs before hval hW _ _
  exact theoryJoins_contract H enc W base args ds gs before hval hW

theorem theoryJoins_said : Rows.TheoryJoinsSaid :=
  OpenClaim.holds_of_wide 7 Try.f7 rfl rfl rfl rfl rfl rfl rfl ⟨rfl, rfl, rfl, rfl, rfl⟩ rfl rfl rfl rfl rfl (by kernel_rfl) Try.func7 (by kernel_rfl)
    (of_decide_eq_true (by kernel_rfl)) (by unfold Func.isWrapper; first | (rw [if_pos (by decide +kernel)]; kernel_rfl) | (rw [if_neg (by decide +kernel)]; exact ⟨rfl, rfl⟩))
    (fun os started H enc _ => theoryJoins_lifted os started H enc)
end Go.Proofs.Ytalpbpcanebbbaa
