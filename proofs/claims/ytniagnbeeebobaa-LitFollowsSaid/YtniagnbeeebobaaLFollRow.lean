/- LitFollows: where two clauses are true, so is their resolvent, and where a clause is true, so is each one that it subsumes, for clauses of at most 500 literals. No condition beyond the row's own. -/
import Derived.Test.YtniagnbeeebobaaLFoll
import Derived.Test.YtniagnbeeebobaaLRow
namespace Go.Proofs.Ytniagnbeeebobaa
open Go.ChangeShapes Go.WideShapes Go.ChangeAt Go.RowKit VM LM

set_option maxRecDepth 100000 in
theorem litFollows_contract (H : Type) (enc : TypeId × Value → H) (W : World) (base : Nat) (args : Array Value) (ds gs : List (DataW H)) (before : List MemPlace)
    (hval : ∀ (j : Nat) t v, Try.f10.params[j]? = some t → args[j]? = some v → Value.okWide Try.prog W .any base t v)
    (hW : DataW.Whole enc Try.prog Try.f10.params.toList Rows.litFollowsSpec.vars false W args.toList ds gs before) :
    Calls Try.prog 10 args W fun e W' => ∃ v, e = .returned v ∧ Rows.litFollowsSpec.post enc Try.prog Try.f10 false true false false W args v W' := by
  have hW' := hW
  obtain ⟨p, q, hA0, hV, rfl, _, _⟩ := hW
  have hA : DataW.TrodAll enc Try.prog W 0 (fun _ => true) true Try.f10.params.toList args.toList ds p := hA0
  rw [Try.params10] at hA hval
  obtain ⟨v0, vs0, d0, ds0, p0, q0, hargs, rfl, rfl, h0, r0⟩ := trodAll_cons hA
  obtain ⟨v1, vs1, d1, ds1, p1, q1, rfl, rfl, rfl, h1, r1⟩ := trodAll_cons r0
  obtain ⟨v2, vs2, d2, ds2, p2, q2, rfl, rfl, rfl, h2, r2⟩ := trodAll_cons r1
  obtain ⟨v3, vs3, d3, ds3, p3, q3, rfl, rfl, rfl, h3, r3⟩ := trodAll_cons r2
  obtain ⟨rfl, rfl, rfl⟩ := trodAll_nil r3
  obtain rfl : args = #[v0, v1, v2, v3] := by cases args; simp_all
  obtain ⟨rfl, rfl⟩ := trodVars_none hV
  have hlt := hW'.lt
  obtain ⟨s0, rfl⟩ := set_of h0 (hval 0 36 v0 rfl rfl)
  obtain ⟨l1, x1, y1, z1⟩ := ints_of h1 (okWide_slice Try.underlying25 (hval 1 25 v1 rfl rfl))
  obtain ⟨l2, x2, y2, z2⟩ := ints_of h2 (okWide_slice Try.underlying25 (hval 2 25 v2 rfl rfl))
  obtain ⟨n3, rfl, b3, c3⟩ := int_of h3 (okWide_int Try.underlying3 (hval 3 3 v3 rfl rfl))
  refine (litFollows_any s0 v1 l1 v2 l2 n3 W x1 y1 z1 x2 y2 z2 ⟨b3, c3⟩).mono fun e W' ⟨he, hb⟩ => ?_
  subst he
  refine ⟨_, rfl, _, _, _, [], _, [], hW', trodAll_cons_mk (shut_bool Try.underlying4 _) trodAll_mk0, trodAll_cons_mk (reread readS lessS h0 hb fun x hx => ?_) (trodAll_cons_mk (reread readL lessL h1 hb fun x hx => ?_) (trodAll_cons_mk (reread readL lessL h2 hb fun x hx => ?_) (trodAll_cons_mk (reread readI lessI h3 hb fun x hx => ?_) trodAll_mk0))), rfl, hb.frame _, fun h => by cases h⟩
  all_goals
    have := hlt x (by simp [hx])
    simpa using this

set_option maxRecDepth 100000 in
theorem litFollows_lifted (os : Os) (started : os.Started) (H : Type) (enc : TypeId × Value → H) :
    ReturnsInHanded {} Try.checked os 10 .any (Rows.litFollowsSpec.pre6 enc Try.prog Try.f10 [] false) (Rows.litFollowsSpec.post enc Try.prog Try.f10 false true false false) := by
  refine returnsInHanded_of_change (C := Try.checked) own started (by kernel_rfl) Try.func10
    (ChangeSpec.witness6 false ⟨#[], #[.agg #[.int .u64 0, .int .u64 0], .slice none 0 0, .slice none 0 0, .int .i64 0], []⟩ 8 (by kernel_rfl) (by kernel_rfl) (by kernel_rfl) (by kernel_rfl)) ?_
  intro W base args ds gs before hval hW _ _
  exact litFollows_contract H enc W base args ds gs before hval hW

theorem litFollows_said : Rows.LitFollowsSaid :=
  OpenClaim.holds_of_wide 10 Try.f10 rfl rfl rfl rfl rfl rfl rfl ⟨rfl, rfl, rfl, rfl, rfl⟩ rfl rfl rfl rfl rfl (by kernel_rfl) Try.func10 (by kernel_rfl)
    (of_decide_eq_true (by kernel_rfl)) (by unfold Func.isWrapper; first | (rw [if_pos (by decide +kernel)]; kernel_rfl) | (rw [if_neg (by decide +kernel)]; exact ⟨rfl, rfl⟩))
    (fun os started H enc _ => litFollows_lifted os started H enc)
end Go.Proofs.Ytniagnbeeebobaa
