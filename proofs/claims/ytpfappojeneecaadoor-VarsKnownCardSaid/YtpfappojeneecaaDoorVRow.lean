/- What a row's list of variables gives, sets and numbers that came in, and the world of the witnesses. -/
import Derived.Test.YtpfappojeneecaaDoorCards
import Derived.Test.YtpfappojeneecaaDoorTie
import Derived.Test.YtpfappojeneecaaDoorVOf
import Derived.ProofKit
import Derived.OpenShut
import Derived.ChangeSame
import Derived.Deep.DeepHandedRow
import Derived.Lib.LaidTab
import Derived.Lib.ItoaMem
namespace Go.Proofs.YtpfappojeneecaaDoor
open Go.ChangeShapes Go.WideShapes Go.ChangeAt Go.RowKit VM

theorem own : ownKnob Tryd.prog.godebug = none := by kernel_rfl
theorem g64 : Tryd.prog.globalNamed "math/bits.deBruijn64tab" = some 0 := by kernel_rfl
theorem g64T : (Tryd.prog.globals[0]?).map (·.type) = some 54 := by kernel_rfl
theorem cells8 : Tryd.prog.cellsOf 5 = 1 := by kernel_rfl
theorem cellsI : Tryd.prog.cellsOf 3 = 1 := by kernel_rfl
theorem cells64 : Tryd.prog.cellsOf 24 = 1 := by kernel_rfl
theorem cellsS : Tryd.prog.cellsOf 26 = 2 := by kernel_rfl
theorem cellsA64 : Tryd.prog.cellsOf 54 = 64 := by kernel_rfl
theorem laidOut : laidOutB Tryd.prog = true := by kernel_rfl

/-- The rows' list. -/
abbrev laid1 : List (String × DataW Unit) := [("math/bits.deBruijn64tab", Rows.laid_math_bits_deBruijn64tab)]
theorem data64 : (Rows.laid_math_bits_deBruijn64tab : DataW Unit) = Lib.tabData .u8 (Lib.deBruijn64tab.map fun n : Nat => (n : Int)) := by kernel_rfl
theorem tab_of {W : World} (h0 : laidMetH Tryd.prog laid1 W) : Tab W := by
  have h : laidMet Tryd.prog laid1 W := h0
  unfold laid1 at h
  rw [data64] at h
  have t64 := Lib.tabIs_of_head g64 g64T Tryd.underlying54 Tryd.underlying5 cells8 cellsA64 h
  intro j hj
  have := t64.cell g64 j (by simpa using hj)
  rw [this]
  simp [List.getD]
  congr 2
  cases (Lib.deBruijn64tab[j]?) <;> rfl

/-- A world for the witnesses: the settled one, the table holding what its initialiser lays. -/
def setTab (cs : List Value) : Obj → Obj
  | .cells _ t frozen => .cells cs.toArray t frozen
  | o => o
noncomputable def laidWorld (os : Os) : World :=
  { World.holding Tryd.prog os ⟨#[], #[], []⟩ with heap := (World.holding Tryd.prog os ⟨#[], #[], []⟩).heap.modify 0 (setTab (Lib.deBruijn64tab.map fun n : Nat => Value.int .u8 (n : Int))) }
theorem laid_met0 (os : Os) : laidMet Tryd.prog laid1 ((laidWorld os).forCall (fun _ _ => 0) ⟨#[], #[], []⟩).memory :=
  laidMet_of_run' 8 (by kernel_rfl) (by kernel_rfl)

section
variable {H : Type} {enc : TypeId × Value → H}
/-- A set that came in. -/
theorem set_of {W W' : World} {r : Reach} {b0 : Nat} {v : Value} {d : DataW H} {p : List MemPlace} (h : DataW.Trod enc Tryd.prog W 0 (fun _ => true) true 26 v d p) (hv : Value.okWide Tryd.prog W' r b0 26 v) : ∃ s, v = sv s := by
  have hu : Tryd.prog.underlying 26 = some (.array 2 24) := Tryd.underlying26
  simp only [Value.okWide, hu] at hv
  obtain ⟨⟨cs⟩, rfl, hsz, _⟩ := hv
  obtain ⟨fuel, hf⟩ := h
  obtain ⟨xs, m, _, _, _, hn, hi⟩ := DataW.trod_array hu hf
  rw [cellsS] at hsz
  match cs, hsz with
  | [c0, c1], _ =>
    match xs, hn with
    | [x0, x1], _ =>
      have h0 := hi 0 (by omega)
      have h1 := hi 1 (by omega)
      rw [cells64] at h0 h1
      simp [Value.cells] at h0 h1
      obtain ⟨n0, e0, _, w0⟩ := DataW.trod_int Tryd.underlying24 h0
      obtain ⟨n1, e1, _, w1⟩ := DataW.trod_int Tryd.underlying24 h1
      simp only [List.cons.injEq, and_true] at e0 e1
      subst e0 e1
      simp [Lit.wf, IntKind.min, IntKind.max, IntKind.signed, IntKind.bits] at w0 w1
      obtain ⟨y0, rfl⟩ := of_wd n0 (by omega) (by omega)
      obtain ⟨y1, rfl⟩ := of_wd n1 (by omega) (by omega)
      exact ⟨mk y0 y1, by rw [sv, lo_mk, hi_mk]⟩

/-- A number that came in. -/
theorem int_of {W : World} {v : Value} {d : DataW H} {p : List MemPlace} (h : DataW.Trod enc Tryd.prog W 0 (fun _ => true) true 3 v d p) (hv : ∃ n, v = .int .i64 n) : ∃ n : Int, v = .int .i64 n ∧ -9223372036854775808 ≤ n ∧ n ≤ 9223372036854775807 := by
  obtain ⟨fuel, hf⟩ := h
  obtain ⟨n, rfl⟩ := hv
  obtain ⟨m, e0, _, w0⟩ := DataW.trod_int Tryd.underlying3 hf
  simp [Value.cells] at e0
  subst e0
  simp [Lit.wf, IntKind.min, IntKind.max, IntKind.signed, IntKind.bits] at w0
  exact ⟨n, rfl, by omega, by omega⟩

/-- A list of numbers that came in. -/
theorem ints_of {W : World} {v : Value} {d : DataW H} {p : List MemPlace} (h : DataW.Trod enc Tryd.prog W 0 (fun _ => true) true 22 v d p) (hv : ∃ ao len cap, v = .slice ao len cap) : ∃ l : List Int, Ints W v l ∧ l.length ≤ 9223372036854775807 ∧ ∀ x ∈ l, -9223372036854775808 ≤ x ∧ x ≤ 9223372036854775807 := by
  obtain ⟨fuel, hf⟩ := h
  obtain ⟨ao, len, cap, rfl⟩ := hv
  rcases open_ints Tryd.underlying22 Tryd.underlying3 cellsI hf with ⟨hcs, _⟩ | ⟨a, len', cap', zs, hcs, hl1, hl, hmx, hz, _, hcell, hwz⟩
  · simp [Value.cells] at hcs
    obtain ⟨rfl, rfl, rfl⟩ := hcs
    exact ⟨[], .inl ⟨rfl, none, 0, rfl⟩, by simp, by simp⟩
  · simp [Value.cells] at hcs
    obtain ⟨rfl, rfl, rfl⟩ := hcs
    simp only [if_true] at hz
    by_cases h0 : len = 0
    · subst h0
      exact ⟨[], .inl ⟨rfl, _, _, rfl⟩, by simp, by simp⟩
    · obtain ⟨b, off, spot⟩ := a
      have hspot : spot = none := by simpa [Addr.add] using World.cell?_spot (hcell 0 (by omega))
      subst hspot
      have hlen : (zs.take len).length = len := by rw [List.length_take]; omega
      refine ⟨zs.take len, .inr ⟨b, off, cap, by rw [hlen], ?_⟩, ?_, ?_⟩
      · intro j x hj
        rw [List.getElem?_take] at hj
        split at hj
        · have hjl := (List.getElem?_eq_some_iff.1 hj).1
          have e := hcell j hjl
          rw [show zs.getD j 0 = x by simp [List.getD, hj]] at e
          rw [← e, Lib.add_plain]
        · cases hj
      · rw [hlen]; unfold maxLen at hmx; omega
      · intro x hx
        have := hwz x (List.mem_of_mem_take hx)
        simp [Lit.wf, IntKind.min, IntKind.max, IntKind.signed, IntKind.bits] at this
        omega

/-- An argument reads behind the call as it read before. -/
theorem reread {t : TypeId} (hr : Tryd.prog.readableRec t = true) (ht : t < Tryd.prog.types.size) {W W' : World} {v : Value} {d : DataW H} {p : List MemPlace} (h : DataW.Trod enc Tryd.prog W 0 (fun _ => true) true t v d p) (hb : Below W.heap.size W W') (hlt : ∀ x ∈ p, x.block < W.heap.size) :
    DataW.Trod enc Tryd.prog W' 0 (fun b => decide (b < W.heap.size)) true t v d p :=
  Below.trod laidOut hr ht h hb hlt
end
theorem readS : Tryd.prog.readableRec 26 = true := by kernel_rfl
theorem lessS : 26 < Tryd.prog.types.size := of_decide_eq_true (by kernel_rfl)
theorem readI : Tryd.prog.readableRec 3 = true := by kernel_rfl
theorem lessI : 3 < Tryd.prog.types.size := of_decide_eq_true (by kernel_rfl)
theorem readL : Tryd.prog.readableRec 22 = true := by kernel_rfl
theorem lessL : 22 < Tryd.prog.types.size := of_decide_eq_true (by kernel_rfl)
end Go.Proofs.YtpfappojeneecaaDoor
