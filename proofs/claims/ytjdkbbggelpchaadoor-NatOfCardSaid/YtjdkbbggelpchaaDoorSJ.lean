/- The contract of the specification's Mul. -/
import Derived.Test.YtjdkbbggelpchaaDoorSI
import Derived.Deep.QuietTactic
import Derived.BigQuiet
namespace Go.Proofs.YtjdkbbggelpchaaDoor
open Go.RowKit SD
open Go.Lib hiding dg

/-- The cells of block g. -/
def DC (w : World) (g : Nat) (L : List Nat) : Prop := ∀ (j x : Nat), L[j]? = some x → w.cell? ⟨g, j, none⟩ = some (.int .i64 (x : Int)) ∧ w.frozen? ⟨g, j, none⟩ = false
theorem DC.made {w w' : World} {n : Nat} (h : w'.ownsRow w.heap.size 3 1 (.slice (some ⟨w.heap.size, 0, none⟩) n n) n (madeCells #[Value.int .i64 0] n).toList) : DC w' w.heap.size (List.replicate n 0) := by
  obtain ⟨_, h⟩ := h
  rcases h with ⟨e, _⟩ | ⟨g, cap, cur, e, hg, hc, h1, h2, h3, h4⟩
  · cases e
  · injection e with e1 e2 e3
    injection e1 with e1
    injection e1 with e1 _ _
    subst e1
    intro j x hj
    have hjn : j < n := by have := (List.getElem?_eq_some_iff.1 hj).1; simpa using this
    have hx : x = 0 := by rw [List.getElem?_replicate, if_pos hjn] at hj; injection hj with hj; exact hj.symm
    subst hx
    refine ⟨?_, ?_⟩
    · have hj' : (madeCells #[Value.int .i64 0] n).toList[j]? = some (.int .i64 0) := by
        simp [madeCells, hjn, Nat.mod_one]
      rw [← h4, List.getElem?_take] at hj'
      split at hj'
      · simp only [World.cell?, hc]
        rw [Array.getElem?_toList] at hj'
        simpa using hj'
      · cases hj'
    · simp only [World.frozen?, hc]
      simp
theorem DC.set {w : World} {g : Nat} {L : List Nat} (h : DC w g L) (i y : Nat) : DC (w.setCell ⟨g, i, none⟩ (.int .i64 (y : Int))) g (L.set i y) := by
  intro j x hj
  obtain ⟨x0, hx0⟩ : ∃ x0, L[j]? = some x0 := by
    have := (List.getElem?_eq_some_iff.1 hj).1
    rw [List.length_set] at this
    exact ⟨L[j], List.getElem?_eq_getElem this⟩
  obtain ⟨h1, h2⟩ := h j x0 hx0
  have hc : ∃ c e fr, w.heap[g]? = some (.cells c e fr) := by
    unfold World.cell? at h1
    split at h1
    · rename_i c e fr hb; exact ⟨c, e, fr, hb⟩
    · simp at h1
  obtain ⟨c, e, fr, hb⟩ := hc
  have hb' : (w.setCell ⟨g, i, none⟩ (.int .i64 (y : Int))).heap[g]? = some (.cells (c.setIfInBounds i (.int .i64 (y : Int))) e fr) := by
    simp [World.setCell, Array.getElem?_modify, hb]
  constructor
  · simp only [World.cell?, hb, hb'] at h1 ⊢
    have h1' : c[j]? = some (.int .i64 (x0 : Int)) := by simpa using h1
    have hlt := (Array.getElem?_eq_some_iff.1 h1').1
    simp only [Option.isSome_none, Bool.false_eq_true, if_false]
    rw [Array.getElem?_setIfInBounds]
    by_cases hij : i = j
    · subst hij
      rw [List.getElem?_set_self (List.getElem?_eq_some_iff.1 hx0).1] at hj
      injection hj with hj
      subst hj
      rw [if_pos rfl, if_pos hlt]
    · rw [List.getElem?_set_ne hij, hx0] at hj
      injection hj with hj
      subst hj
      rw [if_neg hij, h1']
  · simp only [World.frozen?, hb, hb'] at h2 ⊢
    exact h2
theorem DC.drewN {w : World} {g : Nat} {L : List Nat} (h : DC w g L) (n : Nat) : DC (w.drewN n) g L := h
theorem DC.dg {w : World} {g cap : Nat} {L : List Nat} (h : DC w g L) : Dg w (.slice (some ⟨g, 0, none⟩) L.length cap) L :=
  .inr ⟨g, 0, cap, rfl, fun j x hj => by rw [Nat.zero_add]; exact (h j x hj).1⟩
theorem DC.next {w w' : World} {g : Nat} {L : List Nat} (h : DC w g L) (hb : Below w.heap.size w w') : DC w' g L := fun j x hj => by
  obtain ⟨h1, h2⟩ := h j x hj
  have hlt := World.block_lt_of_cell? w _ h1
  exact ⟨cell_grow2 hb h1, (World.frozen?_of_block (w := w) (w' := w') (a := ⟨g, j, none⟩) (hb.block g hlt)).trans h2⟩
theorem below_setCell {B : Nat} {w W : World} (h : Below B w W) {g : Nat} (hg : B ≤ g) (i : Nat) (v : Value) : Below B w (W.setCell ⟨g, i, none⟩ v) :=
  ⟨h.os, h.tape, h.output, by have := h.size; simpa [World.setCell] using this, fun k hk => (Below.heap_setCell _ _ _ _ (by simp; omega)).trans (h.block k hk)⟩

/-- What the loops keep: the cells, and their value but for u. -/
structure MulI (w wr : World) (g N : Nat) (L : List Nat) (u T : Nat) : Prop where
  cells : DC wr g L
  below : Below w.heap.size w wr
  ge : w.heap.size ≤ g
  len : L.length = N
  dig : ∀ x ∈ L, x < 10
  val : val L + u = T
theorem MulI.drewN {w wr : World} {g N u T : Nat} {L : List Nat} (h : MulI w wr g N L u T) (n : Nat) : MulI w (wr.drewN n) g N L u T := ⟨h.cells, below_drew h.below n, h.ge, h.len, h.dig, h.val⟩
theorem MulI.to {w wr : World} {g N u T u' T' : Nat} {L : List Nat} (h : MulI w wr g N L u T) (h1 : u = u') (h2 : T = T') : MulI w wr g N L u' T' := by subst h1; subst h2; exact h
theorem dig_set {L : List Nat} {i y : Nat} (h : ∀ x ∈ L, x < 10) (hy : y < 10) : ∀ x ∈ L.set i y, x < 10 := fun x hx => by
  rcases List.mem_or_eq_of_mem_set hx with h1 | h1
  · exact h x h1
  · omega
theorem MulI.step {w wr : World} {g N : Nat} {L : List Nat} {a b i j c x s y z : Nat} (h : MulI w wr g N L (10 ^ (i + j) * c) (a % 10 ^ i * b + 10 ^ i * (dg a i * (b % 10 ^ j)))) (hx : L[i + j]? = some x)
    (hs : x + dg a i * dg b j + c = s) (hy : s % 10 = y) (hz : s / 10 = z) :
    MulI w (wr.setCell ⟨g, i + j, none⟩ (.int .i64 (y : Int))) g N (L.set (i + j) y) (10 ^ (i + (j + 1)) * z) (a % 10 ^ i * b + 10 ^ i * (dg a i * (b % 10 ^ (j + 1)))) := by
  refine ⟨h.cells.set _ _, below_setCell h.below h.ge _ _, h.ge, by rw [List.length_set]; exact h.len, dig_set h.dig (by omega), ?_⟩
  have e1 := val_set L (i + j) y x hx
  have e2 := h.val
  rw [pow_split b j, ← Nat.add_assoc i j 1, Nat.pow_succ]
  have e3 : 10 ^ i * (dg a i * (b % 10 ^ j + 10 ^ j * dg b j)) = 10 ^ i * (dg a i * (b % 10 ^ j)) + 10 ^ (i + j) * (dg a i * dg b j) := by
    rw [Nat.mul_add, Nat.mul_add, Nat.pow_add]
    congr 1
    ac_rfl
  rw [e3]
  have e4 : 10 ^ (i + j) * x + 10 ^ (i + j) * (dg a i * dg b j) + 10 ^ (i + j) * c = 10 ^ (i + j) * y + 10 ^ (i + j) * 10 * z := by
    rw [Nat.mul_assoc, ← Nat.mul_add, ← Nat.mul_add, ← Nat.mul_add]
    congr 1; omega
  omega
theorem MulI.room {w wr : World} {g N : Nat} {L : List Nat} {a b i j c : Nat} (h : MulI w wr g N L (10 ^ (i + j) * c) (a % 10 ^ i * b + 10 ^ i * (dg a i * (b % 10 ^ j)))) (hc : 0 < c) : i + j < nDigits a + nDigits b := by
  apply Nat.lt_of_not_le; intro hle
  have e := h.val
  have h1 : a % 10 ^ i * b + 10 ^ i * (dg a i * (b % 10 ^ j)) ≤ a * b := by
    have hb : b % 10 ^ j ≤ b := Nat.mod_le _ _
    have h2 : 10 ^ i * (dg a i * (b % 10 ^ j)) ≤ 10 ^ i * (dg a i * b) := Nat.mul_le_mul_left _ (Nat.mul_le_mul_left _ hb)
    have h3 : a % 10 ^ i * b + 10 ^ i * (dg a i * b) = a % 10 ^ (i + 1) * b := by rw [pow_split, Nat.add_mul, Nat.mul_assoc]
    have h4 : a % 10 ^ (i + 1) * b ≤ a * b := Nat.mul_le_mul_right _ (Nat.mod_le _ _)
    omega
  have h5 : a * b < 10 ^ (nDigits a + nDigits b) := by
    rw [Nat.pow_add]
    have h6 := lt_pow_nDigits a
    have h7 := lt_pow_nDigits b
    exact Nat.mul_lt_mul_of_lt_of_le h6 (Nat.le_of_lt h7) (Nat.pow_pos (by omega))
  have h8 : 10 ^ (nDigits a + nDigits b) ≤ 10 ^ (i + j) := Nat.pow_le_pow_right (by omega) hle
  have h9 : 10 ^ (i + j) * 1 ≤ 10 ^ (i + j) * c := Nat.mul_le_mul_left _ hc
  omega
theorem MulI.done {w wr : World} {g N : Nat} {L : List Nat} {a b i j : Nat} (h : MulI w wr g N L (10 ^ (i + j) * 0) (a % 10 ^ i * b + 10 ^ i * (dg a i * (b % 10 ^ j)))) (hj : nDigits b ≤ j) : MulI w wr g N L 0 (a % 10 ^ (i + 1) * b) :=
  h.to (by simp) (by rw [mod_all b j hj, pow_split, Nat.add_mul, Nat.mul_assoc])

end Go.Proofs.YtjdkbbggelpchaaDoor
