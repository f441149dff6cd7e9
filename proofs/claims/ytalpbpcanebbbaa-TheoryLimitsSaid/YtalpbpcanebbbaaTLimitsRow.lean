/- TheoryLimits: 4096 clauses are not too many, and 4097 are; 128 literals in a clause, and 129: check and conjunction are as specified, for all three numbers. -/
import Derived.Test.YtalpbpcanebbbaaUS
import Derived.Test.YtalpbpcanebbbaaURow
namespace Go.Proofs.Ytalpbpcanebbbaa
open Go.ChangeShapes Go.WideShapes Go.ChangeAt Go.RowKit VM LM

set_option maxRecDepth 100000 in
theorem theoryLimits_contract (H : Type) (enc : TypeId × Value → H) (W : World) (base : Nat) (args : Array Value) (ds gs : List (DataW H)) (before : List MemPlace)
    (hval : ∀ (j : Nat) t v, Try.f8.params[j]? = some t → args[j]? = some v → Value.okWide Try.prog W .any base t v)
    (hW : DataW.Whole enc Try.prog Try.f8.params.toList Rows.theoryLimitsSpec.vars false W args.toList ds gs before) :
    Calls Try.prog 8 args W fun e W' => ∃ v, e = .returned v ∧ Rows.theoryLimitsSpec.post enc Try.prog Try.f8 false true false false W args v W' := by
  have hW' := hW
  obtain ⟨p, q, hA0, hV, rfl, _, _⟩ := hW
  have hA : DataW.TrodAll enc Try.prog W 0 (fun _ => true) true Try.f8.params.toList args.toList ds p := hA0
  rw [Try.params8] at hA hval
  obtain ⟨v0, vs0, d0, ds0, p0, q0, hargs, rfl, rfl, h0, r0⟩ := trodAll_cons hA
  obtain ⟨v1, vs1, d1, ds1, p1, q1, rfl, rfl, rfl, h1, r1⟩ := trodAll_cons r0
  obtain ⟨v2, vs2, d2, ds2, p2, q2, rfl, rfl, rfl, h2, r2⟩ := trodAll_cons r1
  obtain ⟨rfl, rfl, rfl⟩ := trodAll_nil r2
  obtain rfl : args = #[v0, v1, v2] := by cases args; simp_all
  obtain ⟨rfl, rfl⟩ := trodVars_none hV
  have hlt := hW'.lt
  obtain ⟨n0, rfl, b0, c0⟩ := u16_of h0 (okWide_int Try.underlying43 (hval 0 43 v0 rfl rfl))
  obtain ⟨n1, rfl, b1, c1⟩ := u16_of h1 (okWide_int Try.underlying43 (hval 1 43 v1 rfl rfl))
  obtain ⟨n2, rfl, b2, c2⟩ := u16_of h2 (okWide_int Try.underlying43 (hval 2 43 v2 rfl rfl))
  refine (limits_law n0 n1 n2 W ⟨b0, c0⟩ ⟨b1, c1⟩ ⟨b2, c2⟩).mono fun e W' ⟨he, hb⟩ => ?_
  subst he
  refine ⟨_, rfl, _, _, _, [], _, [], hW', trodAll_cons_mk (shut_bool Try.underlying4 _) trodAll_mk0, trodAll_cons_mk (reread readW lessW h0 hb fun x hx => ?_) (trodAll_cons_mk (reread readW lessW h1 hb fun x hx => ?_) (trodAll_cons_mk (reread readW lessW h2 hb fun x hx => ?_) trodAll_mk0)), rfl, hb.frame _, fun h => by cases h⟩
  all_goals
    have := hlt x (by simp [hx])
    simpa using this

set_option maxRecDepth 100000 in
theorem theoryLimits_lifted (os : Os) (started : os.Started) (H : Type) (enc : TypeId × Value → H) :
    ReturnsInHanded {} Try.checked os 8 .any (Rows.theoryLimitsSpec.pre6 enc Try.prog Try.f8 [] false) (Rows.theoryLimitsSpec.post enc Try.prog Try.f8 false true false false) := by
  refine returnsInHanded_of_change (C := Try.checked) own started (by kernel_rfl) Try.func8
    (ChangeSpec.witness6 false ⟨#[], #[.int .u16 0, .int .u16 0, .int .u16 0], []⟩ 8 (by kernel_rfl) (by kernel_rfl) (by kernel_rfl) (by kernel_rfl)) ?_
  intro W base args ds gs before hval hW _ _
  exact theoryLimits_contract H enc W base args ds gs before hval hW

theorem theoryLimits_said : Rows.TheoryLimitsSaid :=
  OpenClaim.holds_of_wide 8 Try.f8 rfl rfl rfl rfl rfl rfl rfl ⟨rfl, rfl, rfl, rfl, rfl⟩ rfl rfl rfl rfl rfl (by kernel_rfl) Try.func8 (by kernel_rfl)
    (of_decide_eq_true (by kernel_rfl)) (by unfold Func.isWrapper; first | (rw [if_pos (by decide +kernel)]; kernel_rfl) | (rw [if_neg (by decide +kernel)]; exact ⟨rfl, rfl⟩))
    (fun os started H enc _ => theoryLimits_lifted os started H enc)
end Go.Proofs.Ytalpbpcanebbbaa
