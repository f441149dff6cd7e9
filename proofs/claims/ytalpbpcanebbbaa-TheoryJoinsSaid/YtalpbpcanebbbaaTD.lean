/- Clauses sorted, each kept once: plain. -/
import Derived.Test.YtalpbpcanebbbaaTM
namespace Go.Proofs.Ytalpbpcanebbbaa.TM
open Go VM LM

/-- The first k elements without those that are the same as the one before. -/
def dd (L : List (List Int)) : Nat → List (List Int)
  | 0 => []
  | k + 1 => dd L k ++ (if k = 0 ∨ L[k - 1]? ≠ L[k]? then (L[k]?).toList else [])
theorem dd_keep {L : List (List Int)} {k : Nat} {c : List Int} (hc : L[k]? = some c) (h : k = 0 ∨ L[k - 1]? ≠ some c) : dd L (k + 1) = dd L k ++ [c] := by
  rw [dd, hc, if_pos h]; rfl
theorem dd_drop {L : List (List Int)} {k : Nat} {c : List Int} (hc : L[k]? = some c) (h0 : k ≠ 0) (h : L[k - 1]? = some c) : dd L (k + 1) = dd L k := by
  rw [dd, hc, if_neg (by rw [h]; simp [h0])]; simp
theorem dd_length (L : List (List Int)) : ∀ k, (dd L k).length ≤ k
  | 0 => by simp [dd]
  | k + 1 => by
    rw [dd, List.length_append]
    have := dd_length L k
    have h2 : (if k = 0 ∨ L[k - 1]? ≠ L[k]? then (L[k]?).toList else []).length ≤ 1 := by
      split
      · cases L[k]? <;> simp
      · simp
    omega
def le (a b : List Int) : Prop := a = b ∨ bef a b = true
theorem le_bef {a b c : List Int} (h : le a b) (k : bef b c = true) : bef a c = true := by
  rcases h with rfl | h
  · exact k
  · exact bef_trans h k
theorem le_of_not {a b : List Int} (h : bef b a = false) : le a b := by
  by_cases e : a = b
  · exact .inl e
  · rcases bef_total e with k | k
    · exact .inr k
    · rw [k] at h; cases h
theorem dd_sorted (L : List (List Int)) (hs : L.Pairwise le) : ∀ k, k ≤ L.length → (dd L k).Pairwise (fun c d => bef c d = true) ∧ ∀ x, x ∈ dd L k ↔ x ∈ L.take k := by
  intro k
  induction k with
  | zero => intro _; simp [dd]
  | succ k ih =>
    intro hk
    obtain ⟨h1, h2⟩ := ih (by omega)
    have hkl : k < L.length := by omega
    have hc : L[k]? = some L[k] := List.getElem?_eq_getElem hkl
    have htk : L.take (k + 1) = L.take k ++ [L[k]] := by rw [List.take_add_one, hc]; rfl
    have hp := List.pairwise_iff_getElem.1 hs
    by_cases h : k = 0 ∨ L[k - 1]? ≠ some L[k]
    · rw [dd_keep hc h]
      refine ⟨?_, fun x => by rw [List.mem_append, h2, htk, List.mem_append]⟩
      rw [List.pairwise_append]
      refine ⟨h1, by simp, fun a ha b hb => ?_⟩
      rw [List.mem_singleton] at hb
      subst hb
      obtain ⟨j, hj, e⟩ := List.getElem_of_mem ((h2 a).1 ha)
      rw [List.length_take] at hj
      rw [List.getElem_take] at e
      have hk0 : k ≠ 0 := by omega
      have hpr : L[k - 1]'(by omega) ≠ L[k] := by
        rcases h with h | h
        · exact absurd h hk0
        · intro e2; apply h; rw [List.getElem?_eq_getElem (by omega), e2]
      have hl : le a (L[k - 1]'(by omega)) := by
        by_cases hjk : j = k - 1
        · left; rw [← e]; simp [hjk]
        · rw [← e]; exact hp j (k - 1) (by omega) (by omega) (by omega)
      refine le_bef hl ?_
      rcases hp (k - 1) k (by omega) hkl (by omega) with e2 | e2
      · exact absurd e2 hpr
      · exact e2
    · have hk0 : k ≠ 0 := fun e => h (.inl e)
      have hpr : L[k - 1]? = some L[k] := Classical.byContradiction fun e => h (.inr e)
      rw [dd_drop hc hk0 hpr]
      refine ⟨h1, fun x => ?_⟩
      rw [h2, htk, List.mem_append, List.mem_singleton]
      constructor
      · exact .inl
      · rintro (e | e)
        · exact e
        · subst e
          have : L[k] ∈ L.take k := by
            rw [List.mem_take_iff_getElem]
            exact ⟨k - 1, by omega, by have := List.getElem?_eq_some_iff.1 hpr; obtain ⟨_, e⟩ := this; exact e⟩
          exact this
/-- What the program makes of the clauses in order is the normal form. -/
theorem dd_nmK (L S : List (List Int)) (hs : S.Pairwise le) (hm : ∀ x, x ∈ S ↔ ∃ c ∈ L, opp c = false ∧ x = order c) : dd S S.length = nmK L := by
  obtain ⟨h1, h2⟩ := dd_sorted S hs S.length (Nat.le_refl _)
  refine bef_ext h1 (nmK_sorted L) fun x => ?_
  rw [h2, List.take_length, hm, mem_nmK]
end Go.Proofs.Ytalpbpcanebbbaa.TM
