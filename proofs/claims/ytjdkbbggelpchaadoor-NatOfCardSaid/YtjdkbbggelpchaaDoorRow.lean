/- What a row's list of variables gives, and the worlds of the witnesses. -/
import Derived.Test.YtjdkbbggelpchaaDoorCards
import Derived.Test.YtjdkbbggelpchaaDoorTie
import Derived.Test.YtjdkbbggelpchaaDoorV32
import Derived.ProofKit
import Derived.OpenShut
import Derived.ChangeSame
import Derived.Deep.DeepHandedRow
import Derived.Lib.LaidTab
namespace Go.Proofs.YtjdkbbggelpchaaDoor
open Go.ChangeShapes Go.WideShapes Go.ChangeAt Go.RowKit

theorem own : ownKnob Tryd.prog.godebug = none := by kernel_rfl
theorem g64 : Tryd.prog.globalNamed "math/bits.deBruijn64tab" = some 3 := by kernel_rfl
theorem g64T : (Tryd.prog.globals[3]?).map (·.type) = some 108 := by kernel_rfl
theorem g10 : Tryd.prog.globalNamed "internal/strconv.uint64pow10" = some 4 := by kernel_rfl
theorem g10T : (Tryd.prog.globals[4]?).map (·.type) = some 111 := by kernel_rfl
theorem g32 : Tryd.prog.globalNamed "math/bits.deBruijn32tab" = some 5 := by kernel_rfl
theorem g32T : (Tryd.prog.globals[5]?).map (·.type) = some 117 := by kernel_rfl
theorem cells8 : Tryd.prog.cellsOf 5 = 1 := by kernel_rfl
theorem cells64 : Tryd.prog.cellsOf 24 = 1 := by kernel_rfl
theorem cellsA32 : Tryd.prog.cellsOf 117 = 32 := by kernel_rfl
theorem cellsA64 : Tryd.prog.cellsOf 108 = 64 := by kernel_rfl
theorem cellsA20 : Tryd.prog.cellsOf 111 = 20 := by kernel_rfl

/-- The rows' list. -/
abbrev laid3 : List (String × DataW Unit) := [("math/bits.deBruijn32tab", Rows.laid_math_bits_deBruijn32tab), ("math/bits.deBruijn64tab", Rows.laid_math_bits_deBruijn64tab), ("internal/strconv.uint64pow10", Rows.laid_internal_strconv_uint64pow10)]
def tab32 : List Int := [0, 1, 28, 2, 29, 14, 24, 3, 30, 22, 20, 15, 25, 17, 4, 8, 31, 27, 13, 23, 21, 19, 16, 7, 26, 12, 18, 6, 11, 5, 10, 9]
theorem data32 : (Rows.laid_math_bits_deBruijn32tab : DataW Unit) = Lib.tabData .u8 tab32 := by kernel_rfl
theorem data64 : (Rows.laid_math_bits_deBruijn64tab : DataW Unit) = Lib.tabData .u8 (Lib.deBruijn64tab.map fun n : Nat => (n : Int)) := by kernel_rfl
theorem data10 : (Rows.laid_internal_strconv_uint64pow10 : DataW Unit) = Lib.tabData .u64 Lib.pow10Tab := by kernel_rfl
theorem laidMet_next {P : Program} {x : String × DataW Unit} {r : List (String × DataW Unit)} {w : World} (h : laidMet P (x :: r) w) : laidMet P r w := by
  obtain ⟨ps, hv, hnd, hrows⟩ := h
  obtain ⟨n, d⟩ := x
  obtain ⟨g, t, cs, fuel, p, q, _, _, _, _, hq, rfl⟩ := hv
  exact ⟨q, hq, List.Nodup.sublist (List.sublist_append_right _ _) hnd, fun b off hm => hrows b off (List.mem_append_right _ hm)⟩
theorem tabs_of {W : World} (h0 : laidMetH Tryd.prog laid3 W) : Tabs W ∧ 6 ≤ W.heap.size := by
  have h : laidMet Tryd.prog laid3 W := h0
  unfold laid3 at h
  rw [data32, data64, data10] at h
  have t32 := Lib.tabIs_of_head g32 g32T Tryd.underlying117 Tryd.underlying5 cells8 cellsA32 h
  have h1 := laidMet_next h
  have t64 := Lib.tabIs_of_head g64 g64T Tryd.underlying108 Tryd.underlying5 cells8 cellsA64 h1
  have h2 := laidMet_next h1
  have t10 := Lib.tabIs_of_head g10 g10T Tryd.underlying111 Tryd.underlying24 cells64 cellsA20 h2
  refine ⟨⟨fun j hj => ?_, t10⟩, World.block_lt_of_cell? W _ (t32.cell g32 0 (by decide))⟩
  have := t64.cell g64 j (by simpa using hj)
  rw [this]
  simp [List.getD]
  congr 2
  cases (Lib.deBruijn64tab[j]?) <;> rfl

/-- A world for the witnesses: the settled one, the tables holding what their initialisers lay. -/
def setTab (cs : List Value) : Obj → Obj
  | .cells _ t frozen => .cells cs.toArray t frozen
  | o => o
noncomputable def laidWorld (os : Os) : World :=
  { World.holding Tryd.prog os ⟨#[], #[], []⟩ with heap := (((World.holding Tryd.prog os ⟨#[], #[], []⟩).heap.modify 5 (setTab (tab32.map (Value.int .u8)))).modify 3 (setTab (Lib.deBruijn64tab.map fun n : Nat => Value.int .u8 (n : Int)))).modify 4 (setTab (Lib.pow10Tab.map (Value.int .u64))) }
theorem laid_met0 (os : Os) : laidMet Tryd.prog laid3 ((laidWorld os).forCall (fun _ _ => 0) ⟨#[], #[], []⟩).memory :=
  laidMet_of_run' 8 (by kernel_rfl) (by kernel_rfl)

theorem laidOut : laidOutB Tryd.prog = true := by kernel_rfl
theorem cells32 : Tryd.prog.cellsOf 87 = 1 := by kernel_rfl

section
variable {H : Type} {enc : TypeId × Value → H}
/-- What came in as words of 32 bits. -/
theorem in32_of {W : World} {v : Value} {d : DataW H} {p : List MemPlace} (h : DataW.Trod enc Tryd.prog W 0 (fun _ => true) true 22 v d p) (hv : ∃ ao len cap, v = .slice ao len cap) : ∃ l, In32 W v l := by
  obtain ⟨fuel, hf⟩ := h
  obtain ⟨ao, len, cap, rfl⟩ := hv
  rcases open_ints Tryd.underlying22 Tryd.underlying87 cells32 hf with ⟨hcs, _⟩ | ⟨a, len', cap', zs, hcs, _, hl, _, hz, _, hcell, hwz⟩
  · simp [Value.cells] at hcs
    obtain ⟨rfl, rfl, rfl⟩ := hcs
    exact ⟨[], by simp, .inl ⟨rfl, none, 0, rfl⟩⟩
  · simp [Value.cells] at hcs
    obtain ⟨rfl, rfl, rfl⟩ := hcs
    simp only [if_true] at hz
    by_cases h0 : len = 0
    · subst h0
      exact ⟨[], by simp, .inl ⟨rfl, _, _, rfl⟩⟩
    · obtain ⟨b, off, spot⟩ := a
      have hspot : spot = none := by simpa [Addr.add] using World.cell?_spot (hcell 0 (by omega))
      subst hspot
      have hb : ∀ n ∈ zs, 0 ≤ n ∧ n < 4294967296 := fun n hn => by
        have := hwz n hn
        simp [Lit.wf, IntKind.min, IntKind.max, IntKind.signed, IntKind.bits] at this
        omega
      refine ⟨(zs.take len).map Int.toNat, ?_, .inr ⟨b, off, cap, ?_, ?_⟩⟩
      · intro x hx
        obtain ⟨n, hn, rfl⟩ := List.mem_map.1 hx
        have := hb n (List.mem_of_mem_take hn)
        omega
      · simp; omega
      · intro j x hx
        rw [List.getElem?_map] at hx
        obtain ⟨n, hn, rfl⟩ := Option.map_eq_some_iff.1 hx
        rw [List.getElem?_take] at hn
        split at hn
        · have hj := (List.getElem?_eq_some_iff.1 hn).1
          have e := hcell j hj
          rw [show zs.getD j 0 = n by simp [List.getD, hn]] at e
          have hm := hb n (List.mem_of_getElem? hn)
          rw [show ((n.toNat : Nat) : Int) = n by omega]
          rw [← e, Lib.add_plain]
        · cases hn

/-- An argument reads behind the call as it read before. -/
theorem reread {W W' : World} {v : Value} {d : DataW H} {p : List MemPlace} (h : DataW.Trod enc Tryd.prog W 0 (fun _ => true) true 22 v d p) (hb : Below W.heap.size W W') (hlt : ∀ x ∈ p, x.block < W.heap.size) :
    DataW.Trod enc Tryd.prog W' 0 (fun b => decide (b < W.heap.size)) true 22 v d p :=
  Below.trod laidOut (by kernel_rfl) (of_decide_eq_true (by kernel_rfl)) h hb hlt
end
end Go.Proofs.YtjdkbbggelpchaaDoor
