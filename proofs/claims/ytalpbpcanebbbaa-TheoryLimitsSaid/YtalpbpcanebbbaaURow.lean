/- What a row's list of parameters gives: small numbers that came in. -/
import Derived.Test.YtalpbpcanebbbaaTRow
namespace Go.Proofs.Ytalpbpcanebbbaa
open Go.ChangeShapes Go.WideShapes Go.ChangeAt Go.RowKit VM LM

section
variable {H : Type} {enc : TypeId × Value → H}
theorem u8_of {W : World} {v : Value} {d : DataW H} {p : List MemPlace} (h : DataW.Trod enc Try.prog W 0 (fun _ => true) true 5 v d p) (hv : ∃ n, v = .int .u8 n) : ∃ n : Int, v = .int .u8 n ∧ 0 ≤ n ∧ n ≤ 255 := by
  obtain ⟨fuel, hf⟩ := h
  obtain ⟨n, rfl⟩ := hv
  obtain ⟨m, e0, _, w0⟩ := DataW.trod_int Try.underlying5 hf
  simp [Value.cells] at e0
  subst e0
  simp [Lit.wf, IntKind.min, IntKind.max, IntKind.signed, IntKind.bits] at w0
  exact ⟨n, rfl, by omega, by omega⟩
theorem u16_of {W : World} {v : Value} {d : DataW H} {p : List MemPlace} (h : DataW.Trod enc Try.prog W 0 (fun _ => true) true 43 v d p) (hv : ∃ n, v = .int .u16 n) : ∃ n : Int, v = .int .u16 n ∧ 0 ≤ n ∧ n ≤ 65535 := by
  obtain ⟨fuel, hf⟩ := h
  obtain ⟨n, rfl⟩ := hv
  obtain ⟨m, e0, _, w0⟩ := DataW.trod_int Try.underlying43 hf
  simp [Value.cells] at e0
  subst e0
  simp [Lit.wf, IntKind.min, IntKind.max, IntKind.signed, IntKind.bits] at w0
  exact ⟨n, rfl, by omega, by omega⟩
end
theorem readB : Try.prog.readableRec 5 = true := by kernel_rfl
theorem lessB : 5 < Try.prog.types.size := of_decide_eq_true (by kernel_rfl)
theorem readW : Try.prog.readableRec 43 = true := by kernel_rfl
theorem lessW : 43 < Try.prog.types.size := of_decide_eq_true (by kernel_rfl)
end Go.Proofs.Ytalpbpcanebbbaa
