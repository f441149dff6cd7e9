/- LitSubsumes: Subsumes answers what the specification of the chapter answers, for all lists of at most 500 numbers. No condition beyond the row's own. -/
import Derived.Test.YtniagnbeeebobaaLSubs
import Derived.Test.YtniagnbeeebobaaLRow
namespace Go.Proofs.Ytniagnbeeebobaa
open Go.ChangeShapes Go.WideShapes Go.ChangeAt Go.RowKit VM LM

set_option maxRecDepth 100000 in
theorem litSubsumes_contract (H : Type) (enc : TypeId × Value → H) (W : World) (base : Nat) (args : Array Value) (ds gs : List (DataW H)) (before : List MemPlace)
    (hval : ∀ (j : Nat) t v, Try.f7.params[j]? = some t → args[j]? = some v → Value.okWide Try.prog W .any base t v)
    (hW : DataW.Whole enc Try.prog Try.f7.params.toList Rows.litSubsumesSpec.vars false W args.toList ds gs before) :
    Calls Try.prog 7 args W fun e W' => ∃ v, e = .returned v ∧ Rows.litSubsumesSpec.post enc Try.prog Try.f7 false true false false W args v W' := by
  have hW' := hW
  obtain ⟨p, q, hA0, hV, rfl, _, _⟩ := hW
  have hA : DataW.TrodAll enc Try.prog W 0 (fun _ => true) true Try.f7.params.toList args.toList ds p := hA0
  rw [Try.params7] at hA hval
  obtain ⟨v0, vs0, d0, ds0, p0, q0, hargs, rfl, rfl, h0, r0⟩ := trodAll_cons hA
  obtain ⟨v1, vs1, d1, ds1, p1, q1, rfl, rfl, rfl, h1, r1⟩ := trodAll_cons r0
  obtain ⟨rfl, rfl, rfl⟩ := trodAll_nil r1
  obtain rfl : args = #[v0, v1] := by cases args; simp_all
  obtain ⟨rfl, rfl⟩ := trodVars_none hV
  have hlt := hW'.lt
  obtain ⟨l0, x0, y0, z0⟩ := ints_of h0 (okWide_slice Try.underlying25 (hval 0 25 v0 rfl rfl))
  obtain ⟨l1, x1, y1, z1⟩ := ints_of h1 (okWide_slice Try.underlying25 (hval 1 25 v1 rfl rfl))
  refine (litSubs_any v0 l0 v1 l1 W x0 y0 z0 x1 y1 z1).mono fun e W' ⟨he, hb⟩ => ?_
  subst he
  refine ⟨_, rfl, _, _, _, [], _, [], hW', trodAll_cons_mk (shut_bool Try.underlying4 _) trodAll_mk0, trodAll_cons_mk (reread readL lessL h0 hb fun x hx => ?_) (trodAll_cons_mk (reread readL lessL h1 hb fun x hx => ?_) trodAll_mk0), rfl, hb.frame _, fun h => by cases h⟩
  all_goals
    have := hlt x (by simp [hx])
    simpa using this

set_option maxRecDepth 100000 in
theorem litSubsumes_lifted (os : Os) (started : os.Started) (H : Type) (enc : TypeId × Value → H) :
    ReturnsInHanded {} Try.checked os 7 .any (Rows.litSubsumesSpec.pre6 enc Try.prog Try.f7 [] false) (Rows.litSubsumesSpec.post enc Try.prog Try.f7 false true false false) := by
  refine returnsInHanded_of_change (C := Try.checked) own started (by kernel_rfl) Try.func7
    (ChangeSpec.witness6 false ⟨#[], #[.slice none 0 0, .slice none 0 0], []⟩ 8 (by kernel_rfl) (by kernel_rfl) (by kernel_rfl) (by kernel_rfl)) ?_
  intro W base args ds gs before hval hW _ _
  exact litSubsumes_contract H enc W base args ds gs before hval hW

theorem litSubsumes_said : Rows.LitSubsumesSaid :=
  OpenClaim.holds_of_wide 7 Try.f7 rfl rfl rfl rfl rfl rfl rfl ⟨rfl, rfl, rfl, rfl, rfl⟩ rfl rfl rfl rfl rfl (by kernel_rfl) Try.func7 (by kernel_rfl)
    (of_decide_eq_true (by kernel_rfl)) (by unfold Func.isWrapper; first | (rw [if_pos (by decide +kernel)]; kernel_rfl) | (rw [if_neg (by decide +kernel)]; exact ⟨rfl, rfl⟩))
    (fun os started H enc _ => litSubsumes_lifted os started H enc)
end Go.Proofs.Ytniagnbeeebobaa
