/- What a row's list of parameters gives: theories and small numbers that came in. -/
import Derived.Test.YtalpbpcanebbbaaLRow
import Derived.Test.YtalpbpcanebbbaaTW
namespace Go.Proofs.Ytalpbpcanebbbaa
open Go.ChangeShapes Go.WideShapes Go.ChangeAt Go.RowKit VM LM

theorem cellsLI : Try.prog.cellsOf 38 = 1 := by kernel_rfl
theorem cellsLLI : Try.prog.cellsOf 22 = 1 := by kernel_rfl
theorem cellsT : Try.prog.cellsOf 24 = 2 := by kernel_rfl

section
variable {H : Type} {enc : TypeId × Value → H}
theorem one_cell {w : World} {a : Addr} {base : Nat} {cs : List Value} (h : w.cells? base a 1 = some cs) : ∃ v, w.cell? (a.add 0) = some v ∧ cs = [v] := by
  unfold World.cells? at h
  split at h
  · cases hv : w.cell? (a.add 0) with
    | none => simp [List.range, List.range.loop, hv] at h
    | some v => simp [List.range, List.range.loop, hv] at h; exact ⟨v, rfl, h.symm⟩
  · cases h
/-- A list of lists of numbers that came in. -/
theorem cls_of {W : World} {fuel : Nat} {cs : List Value} {x : DataW H × List MemPlace} (h : DataW.trod enc Try.prog W 0 (fun _ => true) true fuel 22 cs = some x) : ∃ v L, cs = [v] ∧ Th W v L := by
  rcases DataW.trod_slice Try.underlying22 h with ⟨rfl, _⟩ | ⟨a, len, cap, elems, rest, n, _, rfl, _, _, hl, hm, hlen, hel, _, _⟩
  · exact ⟨_, [], rfl, ⟨none, 0, rfl, fun j c hj => by simp at hj⟩, by simp, by simp, by simp⟩
  · rw [cellsLI] at hel
    have key : ∀ i, i < len → ∃ c v, W.cell? (a.add i) = some v ∧ Ints W v c ∧ c.length ≤ 9223372036854775807 ∧ ∀ x ∈ c, In64 x := by
      intro i hi
      have e := hel i hi
      rw [List.getElem?_eq_getElem (by omega)] at e
      obtain ⟨cs, h1, h2⟩ := Option.bind_eq_some_iff.1 e
      obtain ⟨v, h3, rfl⟩ := one_cell h1
      have e0 : (a.add (i * 1)).add 0 = a.add i := by rw [Nat.mul_one]; unfold Addr.add; cases a.spot <;> simp
      rw [e0] at h3
      have hv : ∃ ao len cap, v = .slice ao len cap := by
        rcases DataW.trod_slice Try.underlying38 h2 with ⟨h4, _⟩ | ⟨a', l', c', _, _, _, _, h4, _⟩
        · exact ⟨none, 0, 0, by simpa using h4⟩
        · exact ⟨some a', l', c', by simpa using h4⟩
      obtain ⟨ao', len', cap', rfl⟩ := hv
      obtain ⟨c, q1, q2, q3⟩ := ints_of (enc := enc) (d := elems[i].1) (p := elems[i].2) ⟨n, by simpa [Value.cells] using h2⟩ ⟨ao', len', cap', rfl⟩
      exact ⟨c, _, h3, q1, q2, fun x hx => q3 x hx⟩
    by_cases h0 : len = 0
    · subst h0
      exact ⟨_, [], rfl, ⟨some a, cap, rfl, fun j c hj => by simp at hj⟩, by simp, by simp, by simp⟩
    · obtain ⟨b, off, spot⟩ := a
      have hspot : spot = none := by
        obtain ⟨_, v, h3, _⟩ := key 0 (by omega)
        simpa [Addr.add] using World.cell?_spot h3
      subst hspot
      have key2 : ∀ i, i < len → ∃ c v, W.cell? ⟨b, off + i, none⟩ = some v ∧ Ints W v c ∧ c.length ≤ 9223372036854775807 ∧ ∀ x ∈ c, In64 x := by
        intro i hi
        have := key i hi
        rwa [Lib.add_plain] at this
      let f : Nat → List Int := fun i => if h : i < len then Classical.choose (key2 i h) else []
      have hf : ∀ i, i < len → ∃ v, W.cell? ⟨b, off + i, none⟩ = some v ∧ Ints W v (f i) ∧ (f i).length ≤ 9223372036854775807 ∧ ∀ x ∈ f i, In64 x := by
        intro i hi
        have e : f i = Classical.choose (key2 i hi) := dif_pos hi
        rw [e]
        exact Classical.choose_spec (key2 i hi)
      have hL : ((List.range len).map f).length = len := by simp
      have hmem : ∀ c ∈ (List.range len).map f, ∃ i, i < len ∧ f i = c := by
        intro c hc
        obtain ⟨i, hi, e⟩ := List.mem_map.1 hc
        exact ⟨i, by simpa using hi, e⟩
      refine ⟨_, (List.range len).map f, rfl, ⟨some ⟨b, off, none⟩, cap, by rw [hL], fun j c hj => ?_⟩, by rw [hL]; unfold maxLen at hm; omega, fun c hc => ?_, fun c hc => ?_⟩
      · have hjl : j < len := by
          have := (List.getElem?_eq_some_iff.1 hj).1
          rwa [hL] at this
        rw [List.getElem?_map, List.getElem?_range hjl] at hj
        obtain rfl := Option.some.inj hj
        obtain ⟨v, h1, h2, _⟩ := hf j hjl
        exact ⟨b, off, v, rfl, h1, h2⟩
      · obtain ⟨i, hi, rfl⟩ := hmem c hc
        exact (hf i hi).choose_spec.2.2.1
      · obtain ⟨i, hi, rfl⟩ := hmem c hc
        exact (hf i hi).choose_spec.2.2.2
set_option maxRecDepth 100000 in
/-- A theory that came in. -/
theorem theory_of {W W' : World} {r : Reach} {b0 : Nat} {v : Value} {d : DataW H} {p : List MemPlace} (h : DataW.Trod enc Try.prog W 0 (fun _ => true) true 24 v d p) (hv : Value.okWide Try.prog W' r b0 24 v) : ∃ n u L, v = .agg #[.int .i64 n, u] ∧ In64 n ∧ Th W u L := by
  have hu := show Try.prog.underlying 24 = some (.struct _) from Try.underlying24
  obtain ⟨⟨cs⟩, rfl, hsz⟩ := okWide_struct hu hv
  rw [cellsT] at hsz
  obtain ⟨fuel, hf⟩ := h
  obtain ⟨y0, y1, n, _, _, h0, h1⟩ := trod_struct2 hu hf
  match cs, hsz with
  | [c0, c1], _ =>
    simp only [cellsI, cellsLLI, Value.cells] at h0 h1
    simp at h0 h1
    obtain ⟨m, e0, _, w0⟩ := DataW.trod_int Try.underlying3 h0
    obtain ⟨u, L, e1, hT⟩ := cls_of h1
    simp at e0 e1
    subst e0 e1
    simp [Lit.wf, IntKind.min, IntKind.max, IntKind.signed, IntKind.bits] at w0
    exact ⟨m, _, L, rfl, ⟨by omega, by omega⟩, hT⟩
end
theorem readT : Try.prog.readableRec 24 = true := by kernel_rfl
theorem lessT : 24 < Try.prog.types.size := of_decide_eq_true (by kernel_rfl)
end Go.Proofs.Ytalpbpcanebbbaa
