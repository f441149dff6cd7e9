/- Lists of words of 32 bits, and more on worlds that grow. -/
import Derived.Test.YtjdkbbggelpchaaDoorLaw
import Derived.Deep.RegionHeld3
namespace Go.Proofs.YtjdkbbggelpchaaDoor
open Go.RowKit

/-- The number of words of 32 bits, the lowest one first. -/
def v32 : List Nat → Nat
  | [] => 0
  | x :: xs => x + 4294967296 * v32 xs
theorem v32_lt (l : List Nat) (h : ∀ x ∈ l, x < 4294967296) : v32 l < 4294967296 ^ l.length := by
  induction l with
  | nil => simp [v32]
  | cons x l ih =>
    have h1 := ih (fun y hy => h y (by simp [hy]))
    have h2 := h x (by simp)
    simp only [v32, List.length_cons]
    rw [Nat.pow_succ, Nat.mul_comm _ 4294967296]
    have h3 : 4294967296 * (v32 l + 1) ≤ 4294967296 * 4294967296 ^ l.length := Nat.mul_le_mul_left _ h1
    rw [Nat.mul_add] at h3
    omega
theorem v32_drop {l : List Nat} {k x : Nat} (h : l[k]? = some x) : v32 (l.drop k) = v32 (l.drop (k + 1)) * 4294967296 + x := by
  obtain ⟨hk, e⟩ := List.getElem?_eq_some_iff.1 h
  rw [List.drop_eq_getElem_cons hk, e, v32]; omega
theorem v32_sm (l : List Nat) (h : ∀ x ∈ l, x < 4294967296) (k : Nat) (hk : l.length ≤ 2 * k) : v32 l < M.B ^ k := by
  have e : M.B ^ k = 4294967296 ^ (2 * k) := by rw [Nat.pow_mul]; rfl
  rw [e]
  exact Nat.lt_of_lt_of_le (v32_lt l h) (Nat.pow_le_pow_right (by omega) hk)

/-- A slice of words of 32 bits that came in: empty, or cells. -/
def In32 (w : World) (v : Value) (l : List Nat) : Prop :=
  (∀ x ∈ l, x < 4294967296) ∧ ((l = [] ∧ ∃ ao cap, v = .slice ao 0 cap) ∨ ∃ b off cap, v = .slice (some ⟨b, off, none⟩) l.length cap ∧ ∀ j (x : Nat), l[j]? = some x → w.cell? ⟨b, off + j, none⟩ = some (.int .u32 (x : Int)))
theorem In32.form {w : World} {v : Value} {l : List Nat} (h : In32 w v l) : ∃ ao cap, v = .slice ao l.length cap := by
  rcases h.2 with ⟨rfl, ao, cap, rfl⟩ | ⟨b, off, cap, rfl, _⟩
  · exact ⟨ao, cap, rfl⟩
  · exact ⟨_, _, rfl⟩
theorem In32.next {w w' : World} {v : Value} {l : List Nat} (h : In32 w v l) (hb : Below w.heap.size w w') : In32 w' v l :=
  ⟨h.1, h.2.imp id fun ⟨b, off, cap, e, h3⟩ => ⟨b, off, cap, e, fun j x hj => St.cell hb (h3 j x hj)⟩⟩

theorem St.below' {w W : World} (h : St w W) : Below w.heap.size w W := h.below
theorem St.cellB {w W : World} (h : St w W) {b o : Nat} {v : Value} (hc : w.cell? ⟨b, o, none⟩ = some v) : W.cell? ⟨b, o, none⟩ = some v := St.cell h.below hc
theorem St.setCells {w W : World} (h : St w W) (b : Nat) (hb : w.heap.size ≤ b) (x y : Value) : St w ((W.setCell ⟨b, 0, none⟩ x).setCell ⟨b, 1, none⟩ y) := by
  have hB : Below w.heap.size W ((W.setCell ⟨b, 0, none⟩ x).setCell ⟨b, 1, none⟩ y) := ((Below.refl _ W).setCell (p := ⟨b, 0, none⟩) hb _).setCell (p := ⟨b, 1, none⟩) hb _
  exact ⟨h.below.trans hB, h.tabs.below hB h.six, h.six⟩
theorem St.cellSet {W : World} {b o p : Nat} {v : Value} (h : W.cell? ⟨b, o, none⟩ = some v) (hne : b ≠ p) (x y : Value) : ((W.setCell ⟨p, 0, none⟩ x).setCell ⟨p, 1, none⟩ y).cell? ⟨b, o, none⟩ = some v := by
  have e : ((W.setCell ⟨p, 0, none⟩ x).setCell ⟨p, 1, none⟩ y).heap[b]? = W.heap[b]? := (Below.heap_setCell _ _ _ _ hne).trans (Below.heap_setCell _ _ _ _ hne)
  exact (World.cell?_of_block (a := ⟨b, o, none⟩) e).trans h
theorem pow_g (n : Nat) (h : n ≤ 4096) : Gives 30 #[.int .i64 (n : Int)] (nv (2 ^ n)) := fun W _ _ => pow2_in n h W

end Go.Proofs.YtjdkbbggelpchaaDoor
