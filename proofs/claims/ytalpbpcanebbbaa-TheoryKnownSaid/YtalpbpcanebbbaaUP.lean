/- The law TheoryKnown. -/
import Derived.Test.YtalpbpcanebbbaaUE
import Derived.Test.YtalpbpcanebbbaaUC
namespace Go.Proofs.Ytalpbpcanebbbaa
open Go.RowKit VM LM TM

def Tiny (L : List (List Int)) : Prop := L.length ≤ 100 ∧ ∀ c ∈ L, c.length ≤ 100 ∧ ∀ x ∈ c, -1000 ≤ x ∧ x ≤ 1000
theorem Tiny.th {L : List (List Int)} (h : Tiny L) {w : World} {v : Value} (k : Cls w v L) : Th w v L :=
  ⟨k, by have := h.1; omega, fun c hc => by have := (h.2 c hc).1; omega, fun c hc x hx => by have := (h.2 c hc).2 x hx; unfold In64; omega⟩
theorem tiny_nil : Tiny [] := ⟨by simp, fun c hc => by simp at hc⟩
theorem tiny_one (c : List Int) (h : c.length ≤ 100 ∧ ∀ x ∈ c, -1000 ≤ x ∧ x ≤ 1000) : Tiny [c] := ⟨by simp, fun d hd => by simp at hd; rw [hd]; exact h⟩
theorem cls_nil (w : World) : Cls w (.slice none 0 0) [] := ⟨none, 0, rfl, fun j c hc => by simp at hc⟩
theorem cls1 (W : World) (k : Nat) (hk : k = W.heap.size) (c : List Int) (x : Value) (hx : Ints W x c) : Cls (W.alloc (.cells #[x] 38)) (.slice (some ⟨k, 0, none⟩) 1 1) [c] := by
  subst hk; exact cls_new W [x] [c] _ (.cons hx (.nil _)) _ _ rfl rfl
theorem eval_is {n : Int} {v : Value} {L : List (List Int)} {s : BitVec 128} {x y : Int} {r : Bool} (hs : sv s = .agg #[.int .u64 x, .int .u64 y]) (he : evT n L s = r) (ht : Tiny L) (w : World) (h : Cls w v L) :
    Calls Try.prog 24 #[.agg #[.int .i64 n, v], .agg #[.int .u64 x, .int .u64 y]] w fun e w' => e = .returned (.bool r) ∧ Below w.heap.size w w' := by
  have := eval_any n v L s w (ht.th h)
  rw [hs, he] at this
  exact this
theorem check_is {n : Int} {v : Value} {L : List (List Int)} {q : Int} (hq : ckT n L = q) (ht : Tiny L) (w : World) (h : Cls w v L) :
    Calls Try.prog 17 #[.agg #[.int .i64 n, v]] w fun e w' => e = .returned (.int .i64 q) ∧ Below w.heap.size w w' := by
  have := check_any n v L w (ht.th h)
  rw [hq] at this
  exact this
theorem smp_tiny : Tiny smp := by unfold Tiny smp; decide
theorem four_tiny : Tiny [[4]] := tiny_one _ (by decide)
theorem given1_smp (v tv : Value) (w : World) (h : Cls w v smp) (ht : Ints w tv [-1, 3]) :
    Calls Try.prog 26 #[.agg #[.int .i64 3, v], tv] w fun e w' => ∃ u, e = .returned (.tuple #[.agg #[.int .i64 3, u], .int .i64 0]) ∧ Hid (OwnC w' w.heap.size u [] ∧ Below w.heap.size w w') := by
  have := given_calls 3 v tv smp [-1, 3] w (smp_tiny.th h) ht (by decide) (by unfold In64; decide)
  rw [show gvE 3 smp [-1, 3] = 0 by kernel_rfl, show gvL [-1, 3] smp = [] by kernel_rfl, if_pos rfl, if_pos rfl] at this
  exact this
theorem given2_smp (v tv : Value) (w : World) (h : Cls w v smp) (ht : Ints w tv [1, -1]) :
    Calls Try.prog 26 #[.agg #[.int .i64 3, v], tv] w fun e w' => ∃ u, e = .returned (.tuple #[.agg #[.int .i64 0, u], .int .i64 1]) ∧ Hid (OwnC w' w.heap.size u [] ∧ Below w.heap.size w w') := by
  have := given_calls 3 v tv smp [1, -1] w (smp_tiny.th h) ht (by decide) (by unfold In64; decide)
  rw [show gvE 3 smp [1, -1] = 1 by kernel_rfl, if_neg (by omega), if_neg (by omega)] at this
  exact this
theorem join_smp (v u : Value) (w : World) (h : Cls w v smp) (k : Cls w u [[4]]) :
    Calls Try.prog 28 #[.agg #[.int .i64 3, v], .agg #[.int .i64 4, u]] w fun e w' => ∃ x, e = .returned (.tuple #[.agg #[.int .i64 4, x], .int .i64 0]) ∧ Hid (OwnC w' w.heap.size x (smp ++ [[4]]) ∧ Below w.heap.size w w') := by
  have := join_any 3 4 v u smp [[4]] w (smp_tiny.th h) (four_tiny.th k)
  rw [show jnE 3 smp 4 [[4]] = 0 by kernel_rfl, if_pos rfl, if_pos rfl, show max (3 : Int) 4 = 4 by decide] at this
  exact this
theorem vars_four (v : Value) (w : World) (h : Cls w v [[4]]) :
    Calls Try.prog 30 #[.agg #[.int .i64 3, v]] w fun e w' => e = .returned (.agg #[.int .u64 0, .int .u64 0]) ∧ Below w.heap.size w w' := by
  have := Vars_any 3 v [[4]] w (four_tiny.th h)
  rw [show vrT 3 [[4]] = 0#128 by kernel_rfl, sv_empty] at this
  exact this
theorem same_nil (v : Value) (w : World) (h : Cls w v []) :
    Calls Try.prog 33 #[.agg #[.int .i64 3, v], .int .i64 3, .slice none 0 0] w fun e w' => e = .returned (.bool true) ∧ Below w.heap.size w w' :=
  same_yes 3 v _ [] w h (cls_nil w) (by simp) (by simp)
theorem e_smp0 : evT 3 smp 0#128 = false := by kernel_rfl
theorem e_smp12 : evT 3 smp 12#128 = false := by kernel_rfl
theorem e_wrong : evT 3 [[4]] 8#128 = false := by kernel_rfl
theorem e_none : evT 0 [] 0#128 = true := by kernel_rfl
theorem e_none1 : evT 0 [] 1#128 = false := by kernel_rfl
theorem e_empty : evT 0 [[]] 0#128 = false := by kernel_rfl
theorem sv12 : sv 12#128 = .agg #[.int .u64 12, .int .u64 0] := by kernel_rfl
theorem sv8 : sv 8#128 = .agg #[.int .u64 8, .int .u64 0] := by kernel_rfl
theorem sv1 : sv 1#128 = .agg #[.int .u64 1, .int .u64 0] := by kernel_rfl
end Go.Proofs.Ytalpbpcanebbbaa
