/- Appending one number to a slice of the call's own; the order of literals step by step. -/
import Derived.Test.YtalpbpcanebbbaaTU
namespace Go.Proofs.Ytalpbpcanebbbaa
open Go.RowKit VM LM

/-- append of one number to a slice of the call's own. -/
theorem wpList_app1 {w W : World} {ops : Array Oper} {rest : List Oper} {o : Oper} {a : Act} {Q : Exit → Act → World → Prop} (hgd : o.guard = none) (s y : Operand)
    (ho : o.op = .call { callee := .builtin .append, args := #[s, y], argTypes := #[38, 38] })
    {base : Nat} {v : Value} {l : List Int} {x : Int} (hs : a.eval s = v) (hx : a.eval y = .slice (some ⟨W.heap.size, 0, none⟩) 1 1) (hown : Own W base v l) (hlen : l.length ≤ 1000000) (hbase : base ≤ W.heap.size) (hb : Below base w W)
    (h : ∀ v' w', Hid (Own w' base v' (l ++ [x]) ∧ Below base w w') → wpList Try.prog ops Q rest (a.put o.dst v') w') :
    wpList Try.prog ops Q (o :: rest) a (W.alloc (.cells #[.int .i64 x] 3)) := by
  have h0 : Own (W.alloc (.cells #[.int .i64 x] 3)) base v l := hown.below (bal (Below.refl _ _) _)
  have hb0 : Below base w (W.alloc (.cells #[.int .i64 x] 3)) := hb.alloc hbase _
  refine wpList_app hgd s y ho hs hx h0 (Ints.new W [x] 3 _ rfl) (by simp; omega) (by simp; omega) fun v' w' ho' hg => h v' w' (mkHid ⟨ho', ?_⟩)
  exact Own.bel hb0 (by simp; omega) h0 hg

theorem ordK_length (l : List Int) : ∀ k, (ordK l k).length ≤ 2 * k := by
  intro k
  induction k with
  | zero => simp [ordK]
  | succ k ih =>
    rw [ordK, List.length_append, List.length_append]
    have e1 : (if l.contains (-((k : Int) + 1)) then [-((k : Int) + 1)] else []).length ≤ 1 := by split <;> simp
    have e2 : (if l.contains ((k : Int) + 1) then [(k : Int) + 1] else []).length ≤ 1 := by split <;> simp
    omega
theorem ordK_ff {l : List Int} {k : Nat} (h1 : l.contains (-((k : Int) + 1)) = false) (h2 : l.contains ((k : Int) + 1) = false) : ordK l (k + 1) = ordK l k := by
  rw [ordK, h1, h2]; simp
theorem ordK_tf {l : List Int} {k : Nat} (h1 : l.contains (-((k : Int) + 1)) = true) (h2 : l.contains ((k : Int) + 1) = false) : ordK l (k + 1) = ordK l k ++ [-((k : Int) + 1)] := by
  rw [ordK, h1, h2]; simp
theorem ordK_ft {l : List Int} {k : Nat} (h1 : l.contains (-((k : Int) + 1)) = false) (h2 : l.contains ((k : Int) + 1) = true) : ordK l (k + 1) = ordK l k ++ [(k : Int) + 1] := by
  rw [ordK, h1, h2]; simp
theorem ordK_tt {l : List Int} {k : Nat} (h1 : l.contains (-((k : Int) + 1)) = true) (h2 : l.contains ((k : Int) + 1) = true) : ordK l (k + 1) = ordK l k ++ [-((k : Int) + 1)] ++ [(k : Int) + 1] := by
  rw [ordK, h1, h2]; simp
end Go.Proofs.Ytalpbpcanebbbaa
