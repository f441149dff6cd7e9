/- Pieces of TheoryLimits: appending one list to a boxed theory of many; a made list. -/
import Derived.Test.YtalpbpcanebbbaaUJ
namespace Go.Proofs.Ytalpbpcanebbbaa
open Go.RowKit VM LM TM

theorem own_new (W : World) (base : Nat) (l : List Int) (hb : base ≤ W.heap.size) (hl : l.length ≤ 1000000) : Own (W.alloc (.cells (l.map (Value.int .i64)).toArray 3)) base (.slice (some ⟨W.heap.size, 0, none⟩) l.length l.length) l := by
  refine ⟨by simp, .inr ⟨W.heap.size, l.length, (l.map (Value.int .i64)).toArray, rfl, hb, heap_alloc_new W _, Nat.le_refl _, by unfold maxLen; omega, by simp, by simp only [Nat.mul_one]; exact List.take_of_length_le (by simp)⟩⟩
theorem own_made {w' : World} {base : Nat} {v : Value} {n : Nat} (h : w'.ownsRow base 3 1 v n (madeCells #[Value.int .i64 0] n).toList) : Own w' base v (List.replicate n 0) := by
  unfold Own
  have e : (madeCells #[Value.int .i64 0] n).toList = (List.replicate n (0 : Int)).map (Value.int .i64) := by
    refine List.ext_getElem? fun j => ?_
    by_cases hj : j < n
    · simp [madeCells, hj, Nat.mod_one]
    · simp [madeCells, hj]
  rw [e] at h
  simpa using h
/-- The clauses of a theory that is made by appending. -/
structure LC (m : Nat) (M : List (List Int)) : Prop where
  len : M.length = m
  c : ∀ c ∈ M, c.length ≤ 140 ∧ ∀ x ∈ c, In64 x
theorem LC.nil : LC 0 [] := ⟨rfl, fun c hc => by simp at hc⟩
theorem LC.snoc {m : Nat} {M : List (List Int)} {c : List Int} (h : LC m M) (hc : c.length ≤ 140 ∧ ∀ x ∈ c, In64 x) : LC (m + 1) (M ++ [c]) := by
  refine ⟨by simp [h.len], fun d hd => ?_⟩
  rcases List.mem_append.1 hd with hd | hd
  · exact h.c d hd
  · simp at hd; rw [hd]; exact hc
theorem LC.th {m : Nat} {M : List (List Int)} (h : LC m M) (hm : m ≤ 10000) {w : World} {v : Value} (k : Cls w v M) : Th w v M :=
  ⟨k, by rw [h.len]; omega, fun c hc => by have := (h.c c hc).1; omega, fun c hc => (h.c c hc).2⟩
theorem OI.app1 {Wk W w8 : World} {n : Int} {v3 v9 x : Value} {xs : List Value} {M : List (List Int)} {c : List Int} (H : OI Wk W n v3 xs M) (hx : Own W Wk.heap.size x c)
    (h8 : OwnV w8 Wk.heap.size v9 (xs ++ [x]) ∧ (W.alloc (.cells #[x] 38)).grownBy w8 v3.ownBlock ∧ Below Wk.heap.size Wk w8) : TB w8 Wk.heap.size n v3 ∧ OI Wk (w8.setCell ⟨Wk.heap.size, 1, none⟩ v9) n v9 (xs ++ [x]) (M ++ [c]) := by
  have al : Below W.heap.size W (W.alloc (.cells #[x] 38)) := bal (Below.refl _ _) _
  have l0 := H.l.below al
  have t8 : TB w8 Wk.heap.size n v3 := (H.o.grows al).kept h8.2.1 (l0.not_tb (H.o.grows al))
  refine ⟨t8, h8.2.2.setCell (p := ⟨Wk.heap.size, 1, none⟩) (Nat.le_refl _) _, t8.set1 _, h8.1.set t8, by simp [H.e], fun j y f h1 h2 => ?_⟩
  rcases snoc_get H.e h1 h2 with ⟨h1, h2⟩ | ⟨rfl, rfl⟩
  · exact (H.k j y f h1 h2).imp (fun h => ((h.below al).kept h8.2.1 l0.not_int).setT t8) id
  · exact .inl (((hx.below al).kept h8.2.1 l0.not_int).setT t8)
end Go.Proofs.Ytalpbpcanebbbaa
