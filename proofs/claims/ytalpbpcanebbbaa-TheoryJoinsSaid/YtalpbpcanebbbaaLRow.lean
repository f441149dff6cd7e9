/- What a row's list of parameters gives: sets, numbers and lists that came in. -/
import Derived.Test.YtalpbpcanebbbaaRows
import Derived.Test.YtalpbpcanebbbaaChecked
import Derived.Test.YtalpbpcanebbbaaLM
import Derived.Test.YtalpbpcanebbbaaLW
import Derived.ProofKit
import Derived.OpenShut
import Derived.ChangeSame
import Derived.Carry
import Derived.Lib.ItoaMem
namespace Go.Proofs.Ytalpbpcanebbbaa
open Go.ChangeShapes Go.WideShapes Go.ChangeAt Go.RowKit VM

theorem own : ownKnob Try.prog.godebug = none := by kernel_rfl
theorem cellsI : Try.prog.cellsOf 3 = 1 := by kernel_rfl
theorem cells64 : Try.prog.cellsOf 34 = 1 := by kernel_rfl
theorem cellsS : Try.prog.cellsOf 36 = 2 := by kernel_rfl
theorem laidOut : laidOutB Try.prog = true := by kernel_rfl

section
variable {H : Type} {enc : TypeId × Value → H}
set_option maxRecDepth 100000 in
/-- A set that came in. -/
theorem set_of {W W' : World} {r : Reach} {b0 : Nat} {v : Value} {d : DataW H} {p : List MemPlace} (h : DataW.Trod enc Try.prog W 0 (fun _ => true) true 36 v d p) (hv : Value.okWide Try.prog W' r b0 36 v) : ∃ s, v = sv s := by
  have hu : Try.prog.underlying 36 = some (.array 2 34) := Try.underlying36
  simp only [Value.okWide, hu] at hv
  obtain ⟨⟨cs⟩, rfl, hsz, _⟩ := hv
  obtain ⟨fuel, hf⟩ := h
  obtain ⟨xs, m, _, _, _, hn, hi⟩ := DataW.trod_array hu hf
  rw [cellsS] at hsz
  match cs, hsz with
  | [c0, c1], _ =>
    match xs, hn with
    | [x0, x1], _ =>
      have h0 := hi 0 (by omega)
      have h1 := hi 1 (by omega)
      rw [cells64] at h0 h1
      simp [Value.cells] at h0 h1
      obtain ⟨n0, e0, _, w0⟩ := DataW.trod_int Try.underlying34 h0
      obtain ⟨n1, e1, _, w1⟩ := DataW.trod_int Try.underlying34 h1
      simp only [List.cons.injEq, and_true] at e0 e1
      subst e0 e1
      simp [Lit.wf, IntKind.min, IntKind.max, IntKind.signed, IntKind.bits] at w0 w1
      obtain ⟨y0, rfl⟩ := of_wd n0 (by omega) (by omega)
      obtain ⟨y1, rfl⟩ := of_wd n1 (by omega) (by omega)
      exact ⟨mk y0 y1, by rw [sv, lo_mk, hi_mk]⟩

/-- A number that came in. -/
theorem int_of {W : World} {v : Value} {d : DataW H} {p : List MemPlace} (h : DataW.Trod enc Try.prog W 0 (fun _ => true) true 3 v d p) (hv : ∃ n, v = .int .i64 n) : ∃ n : Int, v = .int .i64 n ∧ -9223372036854775808 ≤ n ∧ n ≤ 9223372036854775807 := by
  obtain ⟨fuel, hf⟩ := h
  obtain ⟨n, rfl⟩ := hv
  obtain ⟨m, e0, _, w0⟩ := DataW.trod_int Try.underlying3 hf
  simp [Value.cells] at e0
  subst e0
  simp [Lit.wf, IntKind.min, IntKind.max, IntKind.signed, IntKind.bits] at w0
  exact ⟨n, rfl, by omega, by omega⟩

/-- A list of numbers that came in. -/
theorem ints_of {W : World} {v : Value} {d : DataW H} {p : List MemPlace} (h : DataW.Trod enc Try.prog W 0 (fun _ => true) true 38 v d p) (hv : ∃ ao len cap, v = .slice ao len cap) : ∃ l : List Int, Ints W v l ∧ l.length ≤ 9223372036854775807 ∧ ∀ x ∈ l, -9223372036854775808 ≤ x ∧ x ≤ 9223372036854775807 := by
  obtain ⟨fuel, hf⟩ := h
  obtain ⟨ao, len, cap, rfl⟩ := hv
  rcases open_ints Try.underlying38 Try.underlying3 cellsI hf with ⟨hcs, _⟩ | ⟨a, len', cap', zs, hcs, hl1, hl, hmx, hz, _, hcell, hwz⟩
  · simp [Value.cells] at hcs
    obtain ⟨rfl, rfl, rfl⟩ := hcs
    exact ⟨[], .inl ⟨rfl, none, 0, rfl⟩, by simp, by simp⟩
  · simp [Value.cells] at hcs
    obtain ⟨rfl, rfl, rfl⟩ := hcs
    simp only [if_true] at hz
    by_cases h0 : len = 0
    · subst h0
      exact ⟨[], .inl ⟨rfl, _, _, rfl⟩, by simp, by simp⟩
    · obtain ⟨b, off, spot⟩ := a
      have hspot : spot = none := by simpa [Addr.add] using World.cell?_spot (hcell 0 (by omega))
      subst hspot
      have hlen : (zs.take len).length = len := by rw [List.length_take]; omega
      refine ⟨zs.take len, .inr ⟨b, off, cap, by rw [hlen], ?_⟩, ?_, ?_⟩
      · intro j x hj
        rw [List.getElem?_take] at hj
        split at hj
        · have hjl := (List.getElem?_eq_some_iff.1 hj).1
          have e := hcell j hjl
          rw [show zs.getD j 0 = x by simp [List.getD, hj]] at e
          rw [← e, Lib.add_plain]
        · cases hj
      · rw [hlen]; unfold maxLen at hmx; omega
      · intro x hx
        have := hwz x (List.mem_of_mem_take hx)
        simp [Lit.wf, IntKind.min, IntKind.max, IntKind.signed, IntKind.bits] at this
        omega

/-- An argument reads behind the call as it read before. -/
theorem reread {t : TypeId} (hr : Try.prog.readableRec t = true) (ht : t < Try.prog.types.size) {W W' : World} {v : Value} {d : DataW H} {p : List MemPlace} (h : DataW.Trod enc Try.prog W 0 (fun _ => true) true t v d p) (hb : Below W.heap.size W W') (hlt : ∀ x ∈ p, x.block < W.heap.size) :
    DataW.Trod enc Try.prog W' 0 (fun b => decide (b < W.heap.size)) true t v d p :=
  Below.trod laidOut hr ht h hb hlt
end
theorem readS : Try.prog.readableRec 36 = true := by kernel_rfl
theorem lessS : 36 < Try.prog.types.size := of_decide_eq_true (by kernel_rfl)
theorem readI : Try.prog.readableRec 3 = true := by kernel_rfl
theorem lessI : 3 < Try.prog.types.size := of_decide_eq_true (by kernel_rfl)
theorem readL : Try.prog.readableRec 38 = true := by kernel_rfl
theorem lessL : 38 < Try.prog.types.size := of_decide_eq_true (by kernel_rfl)
end Go.Proofs.Ytalpbpcanebbbaa
