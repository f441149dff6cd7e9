/- Contracts, laid one behind the other: M W W2 Bits Bytes Trim AppW Pack Cmp. -/
import Derived.Test.YtflcdpolfimggaaDoorProg
import Derived.WalkKit
import Derived.WalkSpells
import Derived.WalkLawsBesides
import Derived.Lib.Hide
import Derived.Laws.Externs
import Derived.Shelf.Spec.BitsCarry
import Derived.StillTailTactics
import Derived.Deep.QuietTactic
import Derived.BigQuiet
import Derived.Handy
import Derived.Deep.Draws
import Derived.Laws.CopyOwn
import Derived.Lib.BitFns
import Derived.Laws.BytesString
import Derived.Laws.BytesArg
import Derived.Test.YtflcdpolfimggaaDoorShelf
import Derived.Shelf.Spec.TrailingZeros
namespace Go.Proofs.YtflcdpolfimggaaDoor
namespace M

/-- The base: 2 to the power 64. -/
def B : Nat := 18446744073709551616
theorem B_eq : B = 18446744073709551616 := rfl
theorem B_pos : 0 < B := by unfold B; omega
theorem one_lt_B : 1 < B := by unfold B; omega
theorem B_pow_pos (n : Nat) : 0 < B ^ n := Nat.pow_pos B_pos

/-- The number of a list of words. -/
def val : List Nat → Nat
  | [] => 0
  | x :: xs => x + B * val xs
/-- Each word is one. -/
def Ok (l : List Nat) : Prop := ∀ x ∈ l, x < B

@[simp] theorem val_nil : val [] = 0 := rfl
theorem val_cons (x : Nat) (l : List Nat) : val (x :: l) = x + B * val l := rfl
theorem Ok.nil : Ok [] := by intro x hx; cases hx
theorem Ok.cons {x : Nat} {l : List Nat} (hx : x < B) (h : Ok l) : Ok (x :: l) := by
  intro y hy
  rcases List.mem_cons.1 hy with rfl | hy
  · exact hx
  · exact h y hy
theorem Ok.head {x : Nat} {l : List Nat} (h : Ok (x :: l)) : x < B := h x (by simp)
theorem Ok.tail {x : Nat} {l : List Nat} (h : Ok (x :: l)) : Ok l := fun y hy => h y (by simp [hy])
theorem Ok.append {a b : List Nat} (ha : Ok a) (hb : Ok b) : Ok (a ++ b) := by
  intro y hy
  rcases List.mem_append.1 hy with h | h
  · exact ha y h
  · exact hb y h
theorem Ok.left {a b : List Nat} (h : Ok (a ++ b)) : Ok a := fun y hy => h y (by simp [hy])
theorem Ok.right {a b : List Nat} (h : Ok (a ++ b)) : Ok b := fun y hy => h y (by simp [hy])
theorem Ok.take {l : List Nat} (h : Ok l) (i : Nat) : Ok (l.take i) := fun y hy => h y (List.mem_of_mem_take hy)
theorem Ok.drop {l : List Nat} (h : Ok l) (i : Nat) : Ok (l.drop i) := fun y hy => h y (List.mem_of_mem_drop hy)
theorem Ok.get {l : List Nat} (h : Ok l) {i : Nat} (hi : i < l.length) : l[i] < B := h _ (List.getElem_mem hi)
theorem Ok.zeros (n : Nat) : Ok (List.replicate n 0) := by
  intro y hy; rw [List.eq_of_mem_replicate hy]; exact B_pos

theorem val_append (a b : List Nat) : val (a ++ b) = val a + B ^ a.length * val b := by
  induction a with
  | nil => simp
  | cons x a ih =>
    simp only [List.cons_append, val_cons, ih, List.length_cons, Nat.pow_succ]
    rw [Nat.mul_add, ← Nat.add_assoc, ← Nat.mul_assoc, Nat.mul_comm (B ^ a.length) B]

theorem val_snoc (a : List Nat) (x : Nat) : val (a ++ [x]) = val a + B ^ a.length * x := by
  rw [val_append]; simp [val_cons]

theorem val_zeros (n : Nat) : val (List.replicate n 0) = 0 := by
  induction n with
  | zero => rfl
  | succ n ih => rw [List.replicate_succ, val_cons, ih]; simp

theorem val_take_succ {l : List Nat} {i : Nat} (hi : i < l.length) : val (l.take (i + 1)) = val (l.take i) + B ^ i * l[i] := by
  rw [List.take_succ_eq_append_getElem hi, val_snoc, List.length_take, Nat.min_eq_left (by omega)]

theorem val_take_drop (l : List Nat) (i : Nat) (hi : i ≤ l.length) : val l = val (l.take i) + B ^ i * val (l.drop i) := by
  conv => lhs; rw [← List.take_append_drop i l]
  rw [val_append, List.length_take, Nat.min_eq_left hi]

theorem val_lt {l : List Nat} (h : Ok l) : val l < B ^ l.length := by
  induction l with
  | nil => simp
  | cons x l ih =>
    have h1 := ih h.tail
    have h2 := h.head
    rw [val_cons, List.length_cons, Nat.pow_succ, Nat.mul_comm _ B]
    calc x + B * val l < B + B * val l := by omega
      _ = B * (val l + 1) := by rw [Nat.mul_add]; omega
      _ ≤ B * B ^ l.length := Nat.mul_le_mul_left _ h1

/-- Two lists of as many words with the same number are the same. -/
theorem val_inj {a b : List Nat} (ha : Ok a) (hb : Ok b) (hl : a.length = b.length) (h : val a = val b) : a = b := by
  induction a generalizing b with
  | nil => cases b with
    | nil => rfl
    | cons y b => simp at hl
  | cons x a ih =>
    cases b with
    | nil => simp at hl
    | cons y b =>
      simp only [val_cons] at h
      have hx := ha.head
      have hy := hb.head
      have hm : x = y := by
        have h1 := congrArg (· % B) h
        simp only [Nat.add_mul_mod_self_left] at h1
        rwa [Nat.mod_eq_of_lt hx, Nat.mod_eq_of_lt hy] at h1
      subst hm
      have : val a = val b := Nat.eq_of_mul_eq_mul_left B_pos (by omega)
      rw [ih ha.tail hb.tail (by simpa using hl) this]

/-- The words of a number, none that is 0 at the end. -/
def dig (n : Nat) : List Nat := if _h : n = 0 then [] else (n % B) :: dig (n / B)
termination_by n
decreasing_by exact Nat.div_lt_self (by omega) one_lt_B

theorem dig_zero : dig 0 = [] := by rw [dig]; simp
theorem dig_pos {n : Nat} (h : n ≠ 0) : dig n = (n % B) :: dig (n / B) := by rw [dig]; simp [h]
theorem dig_eq_nil {n : Nat} : dig n = [] ↔ n = 0 := by
  constructor
  · intro h; apply Classical.byContradiction; intro hn; rw [dig_pos hn] at h; cases h
  · rintro rfl; exact dig_zero

theorem val_dig (n : Nat) : val (dig n) = n := by
  induction n using Nat.strongRecOn with
  | ind n ih =>
    by_cases h : n = 0
    · subst h; rw [dig_zero]; rfl
    · rw [dig_pos h, val_cons, ih (n / B) (Nat.div_lt_self (by omega) one_lt_B)]
      have := Nat.mod_add_div n B; exact this

theorem ok_dig (n : Nat) : Ok (dig n) := by
  induction n using Nat.strongRecOn with
  | ind n ih =>
    by_cases h : n = 0
    · subst h; rw [dig_zero]; exact Ok.nil
    · rw [dig_pos h]; exact (ih (n / B) (Nat.div_lt_self (by omega) one_lt_B)).cons (Nat.mod_lt _ B_pos)

/-- A list whose last word is not 0 is the list of the words of its number. -/
theorem dig_val {l : List Nat} (h : Ok l) (hl : ∀ h0 : l ≠ [], l.getLast h0 ≠ 0) : dig (val l) = l := by
  induction l with
  | nil => exact dig_zero
  | cons x l ih =>
    have hx := h.head
    have hne : val (x :: l) ≠ 0 := by
      intro h0
      rw [val_cons] at h0
      have hx0 : x = 0 := by omega
      have hv : val l = 0 := by
        have : B * val l = 0 := by omega
        rcases Nat.mul_eq_zero.1 this with h1 | h1
        · exact absurd h1 (by have := B_pos; omega)
        · exact h1
      by_cases hn : l = []
      · subst hn; exact hl (by simp) (by simpa using hx0)
      · have hi := ih h.tail (fun h0 => by have := hl (by simp); rwa [List.getLast_cons hn] at this)
        rw [hv, dig_zero] at hi; exact hn hi.symm
    rw [dig_pos hne, val_cons]
    have e1 : (x + B * val l) % B = x := by rw [Nat.add_mul_mod_self_left, Nat.mod_eq_of_lt hx]
    have e2 : (x + B * val l) / B = val l := by rw [Nat.add_mul_div_left _ _ B_pos, Nat.div_eq_of_lt hx]; omega
    rw [e1, e2, ih h.tail]
    intro h0
    have := hl (by simp)
    rwa [List.getLast_cons h0] at this

theorem dig_last {n : Nat} (h : dig n ≠ []) : (dig n).getLast h ≠ 0 := by
  induction n using Nat.strongRecOn with
  | ind n ih =>
    by_cases h0 : n = 0
    · subst h0; exact absurd dig_zero h
    · have e := dig_pos h0
      by_cases hn : dig (n / B) = []
      · have hd : n / B = 0 := dig_eq_nil.1 hn
        have hlt : n < B := (Nat.div_eq_zero_iff_lt B_pos).1 hd
        have hg : (dig n).getLast h = n := by
          have : dig n = [n] := by rw [e, hn, Nat.mod_eq_of_lt hlt]
          simp [this]
        rw [hg]; exact h0
      · have := ih (n / B) (Nat.div_lt_self (by omega) one_lt_B) hn
        have hg : (dig n).getLast h = (dig (n / B)).getLast hn := by
          simp only [e, List.getLast_cons hn]
        rw [hg]; exact this

theorem dig_length_le {n k : Nat} : (dig n).length ≤ k ↔ n < B ^ k := by
  induction k generalizing n with
  | zero => simp [dig_eq_nil]
  | succ k ih =>
    by_cases h : n = 0
    · subst h; simp [dig_zero, B_pow_pos]
    · rw [dig_pos h, List.length_cons, Nat.add_le_add_iff_right, ih, Nat.pow_succ, Nat.div_lt_iff_lt_mul B_pos]

theorem dig_small {n : Nat} (h : n ≠ 0) (hB : n < B) : dig n = [n] := by
  rw [dig_pos h, Nat.mod_eq_of_lt hB, Nat.div_eq_of_lt hB, dig_zero]

/-- What is left when the words 0 at the end are cut off. -/
theorem dig_of_append_zero {l : List Nat} : ∀ n, dig (val (l ++ List.replicate n 0)) = dig (val l) := by
  intro n; rw [val_append, val_zeros]; simp

theorem val_dropLast_zero {l : List Nat} (h : l ≠ []) (h0 : l.getLast h = 0) : val l.dropLast = val l := by
  conv => rhs; rw [← List.dropLast_concat_getLast h, h0]
  rw [val_snoc]; simp

theorem le_dig_length {n k : Nat} (h : B ^ k ≤ n) : k < (dig n).length := by
  apply Nat.lt_of_not_le; intro h'
  have := dig_length_le.1 h'; omega

/-- A list has at least as many words as its number needs. -/
theorem dig_length_val {l : List Nat} (h : Ok l) : (dig (val l)).length ≤ l.length := dig_length_le.2 (val_lt h)

theorem val_lower {n : Nat} (h : n ≠ 0) : B ^ ((dig n).length - 1) ≤ n := by
  apply Nat.le_of_not_lt; intro h'
  have h1 := dig_length_le.2 h'
  have h2 : (dig n).length ≠ 0 := by intro h0; exact h (dig_eq_nil.1 (List.length_eq_zero_iff.1 h0))
  omega

/-- The words of a list's number are the list's first ones. -/
theorem dig_take {l : List Nat} (h : Ok l) (k : Nat) (hk : k ≤ l.length) (hv : val (l.take k) = val l) (hn : ∀ h0 : 0 < k, l[k - 1]'(by omega) ≠ 0) : dig (val l) = l.take k := by
  rw [← hv]
  refine dig_val (h.take k) fun h0 => ?_
  have hk0 : 0 < k := by
    rcases Nat.eq_zero_or_pos k with h1 | h1
    · subst h1; simp at h0
    · exact h1
  have := hn hk0
  have e : (l.take k).getLast h0 = l[k - 1]'(by omega) := by
    rw [List.getLast_eq_getElem]
    simp only [List.length_take, Nat.min_eq_left hk, List.getElem_take]
  rw [e]; exact this

theorem dig_prefix {l : List Nat} (h : Ok l) : dig (val l) = l.take (dig (val l)).length := by
  have hle := dig_length_val h
  refine val_inj (ok_dig _) (h.take _) (by simp; omega) ?_
  have h1 := val_take_drop l _ hle
  have h2 : val (l.take (dig (val l)).length) < B ^ (dig (val l)).length := by
    have := val_lt (h.take (dig (val l)).length)
    rwa [List.length_take, Nat.min_eq_left hle] at this
  have h3 := val_lt (ok_dig (val l))
  rw [val_dig] at h3 ⊢
  have h4 : val (l.drop (dig (val l)).length) = 0 := by
    apply Classical.byContradiction; intro hne
    have : B ^ (dig (val l)).length * 1 ≤ B ^ (dig (val l)).length * val (l.drop (dig (val l)).length) := Nat.mul_le_mul_left _ (by omega)
    omega
  rw [h4] at h1; omega

end M
end Go.Proofs.YtflcdpolfimggaaDoor
namespace Go.Proofs.YtflcdpolfimggaaDoor
open Go.RowKit

theorem mkHid {p : Prop} (h : p) : Hid p := h

/-- The cells from 'off' on in block b hold the words l, and none of them is frozen. -/
def Words (w : World) (b off : Nat) (l : List Nat) : Prop :=
  ∀ j (h : j < l.length), w.cell? ⟨b, off + j, none⟩ = some (.int .u64 ((l[j] : Nat) : Int)) ∧ w.frozen? ⟨b, off + j, none⟩ = false

/-- w' is w but for the cells from lo up to hi in block b, and for new blocks. -/
structure Wr (w w' : World) (b lo hi : Nat) : Prop where
  os : w'.os = w.os
  tape : w'.tape = w.tape
  output : w'.output = w.output
  size : w.heap.size ≤ w'.heap.size
  block : ∀ k, k < w.heap.size → k ≠ b → w'.heap[k]? = w.heap[k]?
  own : ∀ cur e fr, w.heap[b]? = some (.cells cur e fr) → ∃ cur', w'.heap[b]? = some (.cells cur' e fr) ∧ cur'.size = cur.size ∧ ∀ k, k < lo ∨ hi ≤ k → cur'[k]? = cur[k]?

theorem Wr.refl (w : World) (b lo hi : Nat) : Wr w w b lo hi := ⟨rfl, rfl, rfl, Nat.le_refl _, fun _ _ _ => rfl, fun cur _ _ h => ⟨cur, h, rfl, fun _ _ => rfl⟩⟩
theorem Wr.trans {a c d : World} {b lo hi : Nat} (h : Wr a c b lo hi) (k : Wr c d b lo hi) : Wr a d b lo hi :=
  ⟨k.os.trans h.os, k.tape.trans h.tape, k.output.trans h.output, Nat.le_trans h.size k.size,
   fun i hi hb => (k.block i (Nat.lt_of_lt_of_le hi h.size) hb).trans (h.block i hi hb),
   fun cur e fr hc => by
     obtain ⟨c1, g1, s1, e1⟩ := h.own cur e fr hc
     obtain ⟨c2, g2, s2, e2⟩ := k.own c1 e fr g1
     exact ⟨c2, g2, s2.trans s1, fun j hj => (e2 j hj).trans (e1 j hj)⟩⟩
theorem Wr.mono {w w' : World} {b lo hi lo' hi' : Nat} (h : Wr w w' b lo hi) (h1 : lo' ≤ lo) (h2 : hi ≤ hi') : Wr w w' b lo' hi' :=
  ⟨h.os, h.tape, h.output, h.size, h.block, fun cur e fr hc => by
    obtain ⟨c1, g1, s1, e1⟩ := h.own cur e fr hc
    exact ⟨c1, g1, s1, fun j hj => e1 j (by omega)⟩⟩
theorem Wr.drew {w w' : World} {b lo hi : Nat} (h : Wr w w' b lo hi) : Wr w w'.drew b lo hi := ⟨h.os, h.tape, h.output, h.size, h.block, h.own⟩
theorem Wr.drewN {w w' : World} {b lo hi : Nat} (h : Wr w w' b lo hi) (n : Nat) : Wr w (w'.drewN n) b lo hi := ⟨h.os, h.tape, h.output, h.size, h.block, h.own⟩
theorem Wr.ofBelow {w w' : World} (h : Below w.heap.size w w') (b lo hi : Nat) : Wr w w' b lo hi :=
  ⟨h.os, h.tape, h.output, h.size, fun k hk _ => h.block k hk, fun cur e fr hc => ⟨cur, by rw [h.block b (Array.getElem?_eq_some_iff.1 hc).1]; exact hc, rfl, fun _ _ => rfl⟩⟩
theorem Wr.alloc {w w' : World} {b lo hi : Nat} (h : Wr w w' b lo hi) (o : Obj) : Wr w (w'.alloc o) b lo hi :=
  h.trans (Wr.ofBelow ((Below.refl _ _).alloc (Nat.le_refl _) o) b lo hi)
theorem Wr.setCell {w w' : World} {b lo hi : Nat} (h : Wr w w' b lo hi) {k : Nat} (h1 : lo ≤ k) (h2 : k < hi) (v : Value) : Wr w (w'.setCell ⟨b, k, none⟩ v) b lo hi := by
  refine h.trans ⟨rfl, rfl, rfl, by simp [World.setCell], fun i _ hb => Below.heap_setCell _ _ _ _ hb, fun cur e fr hc => ⟨cur.setIfInBounds k v, ?_, by simp, fun j hj => ?_⟩⟩
  · simp [World.setCell, Array.getElem?_modify, hc]
  · rw [Array.getElem?_setIfInBounds, if_neg (by omega)]
theorem Wr.toBelow {w w' : World} {b lo hi B : Nat} (h : Wr w w' b lo hi) (hb : B ≤ b) (hB : B ≤ w.heap.size) : Below B w w' :=
  ⟨h.os, h.tape, h.output, h.size, fun k hk => h.block k (by omega) (by omega)⟩

theorem Words.nil (w : World) (b off : Nat) : Words w b off [] := by intro j h; simp at h
theorem Words.lt {w : World} {b off : Nat} {l : List Nat} (h : Words w b off l) (hl : 0 < l.length) : b < w.heap.size := World.block_lt_of_cell? w _ (h 0 hl).1
theorem Words.ofBlock {w w' : World} {b off : Nat} {l : List Nat} (h : Words w b off l) (he : 0 < l.length → w'.heap[b]? = w.heap[b]?) : Words w' b off l := by
  intro j hj
  have e := he (by omega)
  exact ⟨(World.cell?_of_block (w := w) (w' := w') (a := ⟨b, off + j, none⟩) e).trans (h j hj).1, (World.frozen?_of_block (w := w) (w' := w') (a := ⟨b, off + j, none⟩) e).trans (h j hj).2⟩
theorem Words.keep {w w' : World} {b b' off lo hi : Nat} {l : List Nat} (h : Words w b off l) (hw : Wr w w' b' lo hi) (hne : b ≠ b') : Words w' b off l :=
  h.ofBlock fun hl => hw.block b (h.lt hl) hne
theorem Words.below {w w' : World} {b off B : Nat} {l : List Nat} (h : Words w b off l) (hw : Below B w w') (hb : b < B) : Words w' b off l := h.ofBlock fun _ => hw.block b hb
theorem Words.grows {w w' : World} {b off : Nat} {l : List Nat} (h : Words w b off l) (hw : Below w.heap.size w w') : Words w' b off l := h.ofBlock fun hl => hw.block b (h.lt hl)
theorem Words.keepOut {w w' : World} {b off lo hi : Nat} {l : List Nat} (h : Words w b off l) (hw : Wr w w' b lo hi) (ho : off + l.length ≤ lo ∨ hi ≤ off) : Words w' b off l := by
  intro j hj
  obtain ⟨h1, h2⟩ := h j hj
  have hlt := World.block_lt_of_cell? w _ h1
  have hc : ∃ c e fr, w.heap[b]? = some (.cells c e fr) := by
    unfold World.cell? at h1
    split at h1
    · rename_i c e fr hb; exact ⟨c, e, fr, hb⟩
    · simp at h1
  obtain ⟨c, e, fr, hb⟩ := hc
  obtain ⟨c', hb', hs, he⟩ := hw.own c e fr hb
  constructor
  · simp only [World.cell?, hb, hb'] at h1 ⊢
    rw [he _ (by omega)]; exact h1
  · simp only [World.frozen?, hb, hb'] at h2 ⊢
    exact h2
theorem Words.drewN {w : World} {b off : Nat} {l : List Nat} (h : Words w b off l) (n : Nat) : Words (w.drewN n) b off l := h
theorem Words.left {w : World} {b off : Nat} {l m : List Nat} (h : Words w b off (l ++ m)) : Words w b off l := by
  intro j hj
  have := h j (by simp; omega)
  rwa [List.getElem_append_left hj] at this
theorem Words.right {w : World} {b off : Nat} {l m : List Nat} (h : Words w b off (l ++ m)) : Words w b (off + l.length) m := by
  intro j hj
  have := h (l.length + j) (by simp; omega)
  rw [List.getElem_append_right (by omega)] at this
  simp only [Nat.add_sub_cancel_left] at this
  rw [Nat.add_assoc]; exact this
theorem Words.take {w : World} {b off : Nat} {l : List Nat} (h : Words w b off l) (k : Nat) : Words w b off (l.take k) := by
  intro j hj
  have h1 : j < l.length := by simp at hj; omega
  have := h j h1
  rw [List.getElem_take]; exact this
theorem Words.drop {w : World} {b off : Nat} {l : List Nat} (h : Words w b off l) (k : Nat) : Words w b (off + k) (l.drop k) := by
  intro j hj
  have h1 : k + j < l.length := by simp at hj; omega
  have := h (k + j) h1
  rw [List.getElem_drop, Nat.add_assoc]; exact this
theorem Words.append {w : World} {b off : Nat} {l m : List Nat} (h : Words w b off l) (k : Words w b (off + l.length) m) : Words w b off (l ++ m) := by
  intro j hj
  by_cases hl : j < l.length
  · rw [List.getElem_append_left hl]; exact h j hl
  · have := k (j - l.length) (by simp at hj; omega)
    rw [List.getElem_append_right (by omega)]
    rwa [show off + l.length + (j - l.length) = off + j by omega] at this
/-- One word is stored. -/
theorem Words.set {w : World} {b off : Nat} {l : List Nat} (h : Words w b off l) (i : Nat) (x : Nat) : Words (w.setCell ⟨b, off + i, none⟩ (.int .u64 (x : Int))) b off (l.set i x) := by
  intro j hj
  have hj' : j < l.length := by simpa using hj
  obtain ⟨h1, h2⟩ := h j hj'
  have hc : ∃ c e fr, w.heap[b]? = some (.cells c e fr) := by
    unfold World.cell? at h1
    split at h1
    · rename_i c e fr hb; exact ⟨c, e, fr, hb⟩
    · simp at h1
  obtain ⟨c, e, fr, hb⟩ := hc
  have hb' : (w.setCell ⟨b, off + i, none⟩ (.int .u64 (x : Int))).heap[b]? = some (.cells (c.setIfInBounds (off + i) (.int .u64 (x : Int))) e fr) := by
    simp [World.setCell, Array.getElem?_modify, hb]
  constructor
  · simp only [World.cell?, hb, hb'] at h1 ⊢
    have h1' : c[off + j]? = some (.int .u64 ((l[j] : Nat) : Int)) := by simpa using h1
    have hlt := (Array.getElem?_eq_some_iff.1 h1').1
    simp only [Option.isSome_none, Bool.false_eq_true, if_false]
    rw [Array.getElem?_setIfInBounds]
    by_cases hij : i = j
    · subst hij; rw [if_pos rfl, if_pos hlt]; simp
    · rw [if_neg (by omega), h1', List.getElem_set_ne hij]
  · simp only [World.frozen?, hb, hb'] at h2 ⊢
    exact h2
theorem Words.snoc {w : World} {b off : Nat} {zs l : List Nat} {i : Nat} (h : Words w b off (zs ++ l.drop i)) (hz : zs.length = i) (hi : i < l.length) (x : Nat) :
    Words (w.setCell ⟨b, off + i, none⟩ (.int .u64 (x : Int))) b off ((zs ++ [x]) ++ l.drop (i + 1)) := by
  have := h.set i x
  have e : (zs ++ l.drop i).set i x = (zs ++ [x]) ++ l.drop (i + 1) := by
    rw [List.set_append_right _ _ (by omega), hz, Nat.sub_self, List.drop_eq_getElem_cons hi]
    simp only [List.set_cons_zero, List.append_assoc, List.cons_append, List.nil_append]
  rwa [e] at this
theorem Words.at {w : World} {b off : Nat} {zs l : List Nat} {i : Nat} (h : Words w b off (zs ++ l.drop i)) (hz : zs.length = i) (hi : i < l.length) :
    w.cell? ⟨b, off + i, none⟩ = some (.int .u64 ((l[i] : Nat) : Int)) ∧ w.frozen? ⟨b, off + i, none⟩ = false := by
  have := h i (by simp; omega)
  rwa [show (zs ++ l.drop i)[i]'(by simp; omega) = l[i] by rw [List.getElem_append_right (by omega)]; simp [hz]] at this

theorem take_succ_get {l : List Nat} {k : Nat} (zs : List Nat) (hk : k < l.length) : (l.take (k + 1) ++ zs)[k]? = some l[k] := by
  rw [List.getElem?_append_left (by simp; omega), List.getElem?_take_of_lt (by omega), List.getElem?_eq_getElem hk]
theorem Words.atTop {w : World} {b off : Nat} {zs l : List Nat} {k : Nat} (h : Words w b off (l.take (k + 1) ++ zs)) (hk : k < l.length) :
    w.cell? ⟨b, off + k, none⟩ = some (.int .u64 ((l[k] : Nat) : Int)) ∧ w.frozen? ⟨b, off + k, none⟩ = false := by
  have hlt : k < (l.take (k + 1) ++ zs).length := by simp; omega
  have := h k hlt
  have e := take_succ_get zs hk
  rw [List.getElem?_eq_getElem hlt] at e
  rw [Option.some.inj e] at this
  exact this
theorem Words.snocTop {w : World} {b off : Nat} {zs l : List Nat} {k : Nat} (h : Words w b off (l.take (k + 1) ++ zs)) (hk : k < l.length) (x : Nat) :
    Words (w.setCell ⟨b, off + k, none⟩ (.int .u64 (x : Int))) b off (l.take k ++ (x :: zs)) := by
  have := h.set k x
  have e : (l.take (k + 1) ++ zs).set k x = l.take k ++ (x :: zs) := by
    rw [List.take_succ_eq_append_getElem hk, List.append_assoc, List.set_append_right _ _ (by simp; omega)]
    simp [Nat.min_eq_left (Nat.le_of_lt hk)]
  rwa [e] at this

/-- Words as values. -/
def ws (l : List Nat) : List Value := l.map fun x : Nat => Value.int .u64 ((x : Nat) : Int)
theorem ws_length (l : List Nat) : (ws l).length = l.length := by simp [ws]
/-- Block b is a row of words of the call's own: room for 'cap' of them, the first ones are l. -/
def Row (w : World) (b cap : Nat) (l : List Nat) : Prop :=
  ∃ cur, w.heap[b]? = some (.cells cur 22 (0, 0)) ∧ cur.size = cap ∧ cap ≤ maxLen ∧ l.length ≤ cap ∧ ∀ j (h : j < l.length), cur[j]? = some (.int .u64 ((l[j] : Nat) : Int))
theorem Row.cap {w : World} {b cap : Nat} {l : List Nat} (h : Row w b cap l) : cap ≤ maxLen ∧ l.length ≤ cap := by obtain ⟨_, _, _, h1, h2, _⟩ := h; exact ⟨h1, h2⟩
theorem Row.lt {w : World} {b cap : Nat} {l : List Nat} (h : Row w b cap l) : b < w.heap.size := by obtain ⟨_, h, _⟩ := h; exact (Array.getElem?_eq_some_iff.1 h).1
theorem Row.words {w : World} {b cap : Nat} {l : List Nat} (h : Row w b cap l) : Words w b 0 l := by
  obtain ⟨cur, hb, _, _, _, hc⟩ := h
  intro j hj
  constructor
  · simp only [World.cell?, hb, Nat.zero_add]; exact hc j hj
  · simp [World.frozen?, hb]
theorem Row.ofBlock {w w' : World} {b cap : Nat} {l : List Nat} (h : Row w b cap l) (he : w'.heap[b]? = w.heap[b]?) : Row w' b cap l := by
  obtain ⟨cur, hb, r⟩ := h
  exact ⟨cur, he.trans hb, r⟩
theorem Row.keep {w w' : World} {b b' cap lo hi : Nat} {l : List Nat} (h : Row w b cap l) (hw : Wr w w' b' lo hi) (hne : b ≠ b') : Row w' b cap l := h.ofBlock (hw.block b h.lt hne)
theorem Row.below {w w' : World} {b cap B : Nat} {l : List Nat} (h : Row w b cap l) (hw : Below B w w') (hb : b < B) : Row w' b cap l := h.ofBlock (hw.block b hb)
theorem Row.grows {w w' : World} {b cap : Nat} {l : List Nat} (h : Row w b cap l) (hw : Below w.heap.size w w') : Row w' b cap l := h.ofBlock (hw.block b h.lt)
theorem Row.after {w w' : World} {b cap lo hi : Nat} {l l' : List Nat} (h : Row w b cap l) (hw : Wr w w' b lo hi) (hl : Words w' b 0 l') (hc : l'.length ≤ cap) : Row w' b cap l' := by
  obtain ⟨cur, hb, hs, hm, _, _⟩ := h
  obtain ⟨cur', hb', hs', _⟩ := hw.own cur _ _ hb
  refine ⟨cur', hb', by omega, hm, hc, fun j hj => ?_⟩
  have := (hl j hj).1
  simpa only [World.cell?, hb', Nat.zero_add, Option.isSome_none, Bool.false_eq_true, if_false] using this
theorem Row.take {w : World} {b cap : Nat} {l : List Nat} (h : Row w b cap l) (k : Nat) : Row w b cap (l.take k) := by
  obtain ⟨cur, hb, hs, hm, hl, hc⟩ := h
  exact ⟨cur, hb, hs, hm, by simp; omega, fun j hj => by rw [List.getElem_take]; exact hc j (by simp at hj; omega)⟩
theorem Row.own {w : World} {b cap base : Nat} {l : List Nat} (h : Row w b cap l) (hb : base ≤ b) :
    w.ownsRow base 22 1 (.slice (some ⟨b, 0, none⟩) l.length cap) l.length (ws l) := by
  obtain ⟨cur, hb', hs, hm, hl, hc⟩ := h
  refine ⟨by simp [ws], .inr ⟨b, cap, cur, rfl, hb, hb', hl, hm, by omega, ?_⟩⟩
  apply List.ext_getElem
  · simp [ws]; omega
  · intro j h1 h2
    have hj : j < l.length := by simpa [ws] using h2
    have := hc j hj
    simp only [ws, List.getElem_take, List.getElem_map, Array.getElem_toList]
    exact (Array.getElem?_eq_some_iff.1 this).2
theorem Row.ofOwn {w : World} {base n : Nat} {v : Value} {l : List Nat} (h : w.ownsRow base 22 1 v n (ws l)) (hn : 0 < n) :
    ∃ b cap, v = .slice (some ⟨b, 0, none⟩) l.length cap ∧ base ≤ b ∧ Row w b cap l ∧ n = l.length := by
  obtain ⟨h1, h2⟩ := h
  rcases h2 with ⟨_, h2⟩ | ⟨g, cap, cur, rfl, hb, hg, hc, hm, hs, ht⟩
  · omega
  · have hl : n = l.length := by simpa [ws] using h1.symm
    subst hl
    refine ⟨g, cap, rfl, hb, ⟨cur, hg, by omega, hm, hc, fun j hj => ?_⟩, rfl⟩
    have := congrArg (fun l => l[j]?) ht
    simp only [ws, Nat.mul_one, List.getElem?_map] at this
    rw [List.getElem?_take_of_lt (by omega)] at this
    simpa [List.getElem?_eq_getElem hj] using this

theorem info64 : (Tryd.prog.info? 22).map (fun i => (i.zero, i.size, i.bytes)) = some (some (.int .u64 0), 1, 8) := by kernel_rfl
theorem new_one (w : World) (v : Value) (e : TypeId) : ∀ j u, [v][j]? = some u → (w.alloc (.cells #[v] e)).cell? ((⟨w.heap.size, 0, none⟩ : Addr).add j) = some u := by
  intro j u hu
  cases j with
  | succ j => simp at hu
  | zero =>
    have hv : v = u := by simpa using hu
    subst hv
    have h : (w.alloc (.cells #[v] e)).heap[w.heap.size]? = some (.cells #[v] e (0, 0)) := heap_alloc_new w _
    have ha : (⟨w.heap.size, 0, none⟩ : Addr).add 0 = ⟨w.heap.size, 0, none⟩ := by unfold Addr.add; split <;> rfl
    rw [ha]
    simp only [World.cell?, h]
    rfl
theorem ws_append (l m : List Nat) : ws l ++ ws m = ws (l ++ m) := by simp [ws]

/-! ### The functions that the compiler knows -/
theorem add64_run (x y c : Nat) (hc : c ≤ 1) (w : World) :
    (callFunc 68 #[.int .u64 x, .int .u64 y, .int .u64 c]).run Tryd.prog w =
      .ok (.value (.tuple #[.int .u64 (((x + y + c) % 18446744073709551616 : Nat) : Int), .int .u64 (((x + y + c) / 18446744073709551616 : Nat) : Int)])) w := by
  rw [run_callFunc_extern Tryd.func68 (by kernel_rfl) (by kernel_rfl) (by kernel_rfl) (e := add64Entry) (by kernel_rfl), run_add64 x y c (by omega) (by omega) (by omega) (by omega)]
  simp only [Result.andThen]
  congr 5 <;> omega

theorem add64_run_y0 (x c : Nat) (hc : c ≤ 1) (w : World) :
    (callFunc 68 #[.int .u64 x, .int .u64 0, .int .u64 c]).run Tryd.prog w =
      .ok (.value (.tuple #[.int .u64 (((x + 0 + c) % 18446744073709551616 : Nat) : Int), .int .u64 (((x + 0 + c) / 18446744073709551616 : Nat) : Int)])) w := add64_run x 0 c hc w
theorem add64_run_c0 (x y : Nat) (w : World) :
    (callFunc 68 #[.int .u64 x, .int .u64 y, .int .u64 0]).run Tryd.prog w =
      .ok (.value (.tuple #[.int .u64 (((x + y) % 18446744073709551616 : Nat) : Int), .int .u64 (((x + y) / 18446744073709551616 : Nat) : Int)])) w := add64_run x y 0 (by omega) w
/-- A difference of words, and what is borrowed. -/
def dif (x y b : Nat) : Nat := (x + 18446744073709551616 - y - b) % 18446744073709551616
def bor (x y b : Nat) : Nat := if x < y + b then 1 else 0
theorem bor_le (x y b : Nat) : bor x y b ≤ 1 := by unfold bor; split <;> omega
theorem dif_bor {x y b : Nat} (hx : x < M.B) (hy : y < M.B) (hb : b ≤ 1) : dif x y b + y + b = x + M.B * bor x y b := by
  unfold dif bor M.B at *; split <;> omega
theorem dif_lt (x y b : Nat) : dif x y b < M.B := Nat.mod_lt _ (by omega)
theorem sub64_run (x y b : Nat) (hb : b ≤ 1) (w : World) :
    (callFunc 89 #[.int .u64 x, .int .u64 y, .int .u64 b]).run Tryd.prog w =
      .ok (.value (.tuple #[.int .u64 ((dif x y b : Nat) : Int), .int .u64 ((bor x y b : Nat) : Int)])) w := by
  rw [run_callFunc_extern Tryd.func89 (by kernel_rfl) (by kernel_rfl) (by kernel_rfl) (e := sub64Entry) (by kernel_rfl), run_sub64 x y b hb]
  rfl
theorem sub64_run_y0 (x b : Nat) (hb : b ≤ 1) (w : World) :
    (callFunc 89 #[.int .u64 x, .int .u64 0, .int .u64 b]).run Tryd.prog w =
      .ok (.value (.tuple #[.int .u64 ((dif x 0 b : Nat) : Int), .int .u64 ((bor x 0 b : Nat) : Int)])) w := sub64_run x 0 b hb w
theorem sub64_run_b0 (x y : Nat) (w : World) :
    (callFunc 89 #[.int .u64 x, .int .u64 y, .int .u64 0]).run Tryd.prog w =
      .ok (.value (.tuple #[.int .u64 ((dif x y 0 : Nat) : Int), .int .u64 ((bor x y 0 : Nat) : Int)])) w := sub64_run x y 0 (by omega) w
end Go.Proofs.YtflcdpolfimggaaDoor
namespace Go.Proofs.YtflcdpolfimggaaDoor
open Go.RowKit

theorem made_ws (n : Nat) : (madeCells #[Value.int .u64 0] n).toList = ws (List.replicate n 0) := by
  apply List.ext_getElem
  · simp [madeCells, ws]
  · intro j h1 h2
    simp [madeCells, ws, Nat.mod_one]

/-- A new row of zeros. -/
theorem Row.made {w w' : World} {n : Nat} (h : w'.ownsRow w.heap.size 22 1 (.slice (some ⟨w.heap.size, 0, none⟩) n n) n (madeCells #[Value.int .u64 0] n).toList) (hg : 0 < n) : Row w' w.heap.size n (List.replicate n 0) := by
  rw [made_ws] at h
  obtain ⟨b, cap, hv, _, hr, hn⟩ := Row.ofOwn h hg
  injection hv with h1 h2 h3
  injection h1 with h1
  injection h1 with h1
  subst h1; subst h3
  exact hr

/-- What copy leaves. -/
theorem Row.spliced {w : World} {g cap off : Nat} {L cs : List Nat} (h : Row w g cap L) (hL : L.length = cap) (cur : Array Value) (hc : w.heap[g]? = some (.cells cur 22 (0, 0))) (hfit : off + cs.length ≤ cap) :
    Row (w.setRow g (cur.toList.take off ++ (ws cs ++ cur.toList.drop (off + (ws cs).length))).toArray) g cap (L.take off ++ (cs ++ L.drop (off + cs.length))) := by
  obtain ⟨cur', hb, hs, hm, hl, hj⟩ := h
  rw [hb] at hc
  injection hc with hc
  injection hc with hc
  subst hc
  have hcur : cur'.toList = ws L := by
    apply List.ext_getElem
    · simp [ws]; omega
    · intro j h1 h2
      have hjl : j < L.length := by simpa [ws] using h2
      have := hj j hjl
      simp only [ws, List.getElem_map, Array.getElem_toList]
      exact (Array.getElem?_eq_some_iff.1 this).2
  have hrow : cur'.toList.take off ++ (ws cs ++ cur'.toList.drop (off + (ws cs).length)) = ws (L.take off ++ (cs ++ L.drop (off + cs.length))) := by
    rw [hcur, ws_length]; simp [ws]
  rw [hrow]
  have hlen : (L.take off ++ (cs ++ L.drop (off + cs.length))).length = cap := by simp; omega
  refine ⟨_, setRow_heap w g _ _ _ _ hb, by simp [ws_length, hlen], hm, by omega, fun j hj => ?_⟩
  rw [List.getElem?_toArray, ws, List.getElem?_map, List.getElem?_eq_getElem hj]; rfl

theorem Row.cur {w : World} {b cap : Nat} {l : List Nat} (h : Row w b cap l) : ∃ cur, w.heap[b]? = some (.cells cur 22 (0, 0)) ∧ cur.size = cap := by
  obtain ⟨cur, h1, h2, _⟩ := h; exact ⟨cur, h1, h2⟩

theorem words_cells {w : World} {b off : Nat} {l : List Nat} (h : Words w b off l) : ∀ j v, (ws l)[j]? = some v → w.cell? ((⟨b, off, none⟩ : Addr).add j) = some v := by
  intro j v hv
  have hj : j < l.length := by
    apply Nat.lt_of_not_le; intro hle
    rw [List.getElem?_eq_none (by rw [ws_length]; exact hle)] at hv; cases hv
  have h1 := (h j hj).1
  have e : (⟨b, off, none⟩ : Addr).add j = ⟨b, off + j, none⟩ := by unfold Addr.add; split <;> simp_all
  rw [e, h1]
  simpa [ws, List.getElem?_eq_getElem hj] using hv
theorem ws_one (l : List Nat) : ∀ u ∈ ws l, u.oneCell' = true := by
  intro u hu
  simp only [ws, List.mem_map] at hu
  obtain ⟨x, _, rfl⟩ := hu
  rfl
theorem below_grown {w w' : World} {B : Nat} (h : w.grownBy w' none) (hB : B ≤ w.heap.size) : Below B w w' :=
  (Below.refl B w).grown h hB (fun k hk => by cases hk)
theorem Words.atMid {w : World} {b off n x : Nat} {p r : List Nat} (h : Words w b off (p ++ x :: r)) (hn : p.length = n) :
    w.cell? ⟨b, off + n, none⟩ = some (.int .u64 (x : Int)) ∧ w.frozen? ⟨b, off + n, none⟩ = false := by
  have := h n (by simp; omega)
  rwa [show (p ++ x :: r)[n]'(by simp; omega) = x by rw [List.getElem_append_right (by omega)]; simp [hn]] at this
theorem Words.setMid {w : World} {b off n x : Nat} {p r : List Nat} (h : Words w b off (p ++ x :: r)) (hn : p.length = n) (y : Nat) :
    Words (w.setCell ⟨b, off + n, none⟩ (.int .u64 (y : Int))) b off (p ++ y :: r) := by
  have := h.set n y
  rwa [List.set_append_right _ _ (by omega), show n - p.length = 0 by omega, List.set_cons_zero] at this
theorem Words.zero {w : World} {b : Nat} {l : List Nat} {off : Nat} (h : Words w b (0 + off) l) : Words w b off l := by rwa [Nat.zero_add] at h
theorem splice_get (cur : Array Value) (off : Nat) (cs : List Value) (k : Nat) (hfit : off + cs.length ≤ cur.size) :
    (cur.toList.take off ++ (cs ++ cur.toList.drop (off + cs.length))).toArray[k]? = if off ≤ k ∧ k < off + cs.length then cs[k - off]? else cur[k]? := by
  rw [List.getElem?_toArray]
  by_cases h1 : k < off
  · rw [if_neg (by omega), List.getElem?_append_left (by simp; omega), List.getElem?_take_of_lt h1, Array.getElem?_toList]
  · rw [List.getElem?_append_right (by simp; omega)]
    have e : k - (cur.toList.take off).length = k - off := by simp; omega
    rw [e]
    by_cases h2 : k < off + cs.length
    · rw [if_pos ⟨by omega, h2⟩, List.getElem?_append_left (by omega)]
    · rw [if_neg (by omega), List.getElem?_append_right (by omega), List.getElem?_drop, Array.getElem?_toList]
      congr 1; omega
theorem Wr.spliced {w : World} {g off : Nat} {cs : List Value} (cur : Array Value) {e : TypeId} {fr : Nat × Nat} (hc : w.heap[g]? = some (.cells cur e fr)) (hfit : off + cs.length ≤ cur.size) :
    Wr w (w.setRow g (cur.toList.take off ++ (cs ++ cur.toList.drop (off + cs.length))).toArray) g off (off + cs.length) :=
  ⟨rfl, rfl, rfl, by simp [World.setRow], fun k _ hk => setRow_other w g k _ hk, fun cur' e' fr' hc' => by
    rw [hc] at hc'
    injection hc' with hc'
    injection hc' with h1 h2 h3
    subst h1; subst h2; subst h3
    refine ⟨_, setRow_heap w g _ _ _ _ hc, by simp; omega, fun k hk => ?_⟩
    rw [splice_get cur off cs k hfit, if_neg (by omega)]⟩
theorem Words.spliced {w : World} {g off : Nat} {cs : List Nat} (cur : Array Value) {e : TypeId} (hc : w.heap[g]? = some (.cells cur e (0, 0))) (hfit : off + cs.length ≤ cur.size) :
    Words (w.setRow g (cur.toList.take off ++ (ws cs ++ cur.toList.drop (off + (ws cs).length))).toArray) g off cs := by
  intro j hj
  have hg := setRow_heap w g _ (cur.toList.take off ++ (ws cs ++ cur.toList.drop (off + (ws cs).length))).toArray _ _ hc
  constructor
  · simp only [World.cell?, hg, Option.isSome_none, Bool.false_eq_true, if_false]
    rw [splice_get cur off (ws cs) _ (by rw [ws_length]; exact hfit), ws_length, if_pos ⟨by omega, by omega⟩]
    simp [ws, List.getElem?_eq_getElem hj]
  · simp [World.frozen?, hg]
theorem ok_of_drop_zero {l : List Nat} (h : M.Ok l) (k : Nat) (hk : k ≤ l.length) : M.val (l.drop k) = M.val l / M.B ^ k := by
  have e := M.val_take_drop l k hk
  have lt := M.val_lt (h.take k)
  rw [List.length_take, Nat.min_eq_left hk] at lt
  rw [e, Nat.add_mul_div_left _ _ (M.B_pow_pos k), Nat.div_eq_of_lt lt, Nat.zero_add]
/-- s[l:] -/
theorem slice_l (b off n cap l : Nat) (h : l ≤ n) (hlt : l < cap) (W : World) :
    (Instr.slice 76 (.slice (some ⟨b, off, none⟩) n cap) (some (.int .i64 (l : Int))) none none).run Tryd.prog W = .ok (.slice (some ⟨b, off + l, none⟩) (n - l) (cap - l)) W := by
  have hu : Tryd.prog.underlying 76 = some (.slice (Tryd.prog.elem 76)) := by kernel_rfl
  have he : Tryd.prog.elem 76 = 22 := by kernel_rfl
  rw [run_slice_l W 76 (some ⟨b, off, none⟩) n cap hu .i64 (l : Int) (by omega) (by omega), he, Tryd.sizeOf22 W]
  simp only [Result.andThen, sliced]
  have h1 : ¬ cap = l := by omega
  rcases Nat.eq_zero_or_pos l with hl | hl
  · subst hl; simp [h1, Addr.add]
  · have h2 : ¬ l = 0 := by omega
    simp [h1, h2, Addr.add]
theorem addr_if (b off k : Nat) : (if k = 0 then (⟨b, off, none⟩ : Addr) else ⟨b, off + k, none⟩) = ⟨b, off + k, none⟩ := by
  split
  · rename_i h; rw [h]; rfl
  · rfl
end Go.Proofs.YtflcdpolfimggaaDoor
namespace Go.Proofs.YtflcdpolfimggaaDoor

theorem aux_spec : ∀ (f x : Nat), x < 2 ^ f → x < 2 ^ Lib.bitLenAux f x ∧ (x ≠ 0 → 2 ^ (Lib.bitLenAux f x - 1) ≤ x ∧ 1 ≤ Lib.bitLenAux f x) ∧ Lib.bitLenAux f x ≤ f
  | 0, x, h => by
    have : x = 0 := by simpa using h
    subst this
    exact ⟨by simp [Lib.bitLenAux], fun h => absurd rfl h, by simp [Lib.bitLenAux]⟩
  | f + 1, x, h => by
    unfold Lib.bitLenAux
    by_cases h0 : x = 0
    · subst h0; simp
    · rw [if_neg h0]
      have hx : x / 2 < 2 ^ f := by rw [Nat.div_lt_iff_lt_mul (by omega)]; rw [Nat.pow_succ] at h; exact h
      obtain ⟨h1, h2, h3⟩ := aux_spec f (x / 2) hx
      refine ⟨?_, fun _ => ⟨?_, by omega⟩, by omega⟩
      · rw [Nat.add_comm, Nat.pow_succ]; omega
      · by_cases hh : x / 2 = 0
        · have : Lib.bitLenAux f (x / 2) = 0 := by rw [hh]; cases f <;> simp [Lib.bitLenAux]
          rw [this]; simp; omega
        · obtain ⟨h4, h5⟩ := h2 hh
          obtain ⟨k, hk⟩ : ∃ k, Lib.bitLenAux f (x / 2) = k + 1 := ⟨_, (Nat.sub_add_cancel h5).symm⟩
          rw [hk] at h4 ⊢
          simp only [Nat.add_sub_cancel] at h4
          rw [show 1 + (k + 1) - 1 = k + 1 by omega, Nat.pow_succ]; omega

theorem bl_lt (x : Nat) (h : x < 18446744073709551616) : x < 2 ^ Lib.bitLen x := (aux_spec 64 x h).1
theorem bl_le (x : Nat) (h : x < 18446744073709551616) (h0 : x ≠ 0) : 2 ^ (Lib.bitLen x - 1) ≤ x := ((aux_spec 64 x h).2.1 h0).1
theorem bl_pos (x : Nat) (h : x < 18446744073709551616) (h0 : x ≠ 0) : 1 ≤ Lib.bitLen x := ((aux_spec 64 x h).2.1 h0).2
theorem bl_64 (x : Nat) (h : x < 18446744073709551616) : Lib.bitLen x ≤ 64 := (aux_spec 64 x h).2.2
theorem bl_zero : Lib.bitLen 0 = 0 := by simp [Lib.bitLen, Lib.bitLenAux]

/-- The length is the only one. -/
theorem bl_uniq (x k : Nat) (h : x < 18446744073709551616) (h1 : 2 ^ k ≤ x) (h2 : x < 2 ^ (k + 1)) : Lib.bitLen x = k + 1 := by
  have h0 : x ≠ 0 := by have := Nat.two_pow_pos k; omega
  have a := bl_lt x h
  have b := bl_le x h h0
  have c := bl_pos x h h0
  have d1 : Lib.bitLen x ≤ k + 1 := by
    apply Nat.le_of_not_lt; intro hlt
    have := Nat.pow_le_pow_right (show 0 < 2 by omega) (show k + 1 ≤ Lib.bitLen x - 1 by omega)
    omega
  have d2 : k < Lib.bitLen x := by
    apply Nat.lt_of_not_le; intro hle
    have := Nat.pow_le_pow_right (show 0 < 2 by omega) hle
    omega
  omega

theorem or_disjoint (a b s : Nat) (hb : b < 2 ^ s) (ha : 2 ^ s ∣ a) : a ||| b = a + b := by
  obtain ⟨k, rfl⟩ := ha
  rw [Nat.mul_comm, ← Nat.shiftLeft_eq]
  exact (Nat.shiftLeft_add_eq_or_of_lt hb k).symm

end Go.Proofs.YtflcdpolfimggaaDoor
namespace Go.Proofs.YtflcdpolfimggaaDoor
open Go.RowKit

def by8 (x k : Nat) : Nat := x / 256 ^ k % 256
/-- The eight bytes of a word. -/
def be8 (x : Nat) : List UInt8 := [UInt8.ofNat (by8 x 7), UInt8.ofNat (by8 x 6), UInt8.ofNat (by8 x 5), UInt8.ofNat (by8 x 4), UInt8.ofNat (by8 x 3), UInt8.ofNat (by8 x 2), UInt8.ofNat (by8 x 1), UInt8.ofNat (by8 x 0)]
theorem be8_length (x : Nat) : (be8 x).length = 8 := rfl
theorem by8_lt (x k : Nat) : by8 x k < 256 := Nat.mod_lt _ (by omega)
theorem by8_sum (x : Nat) (h : x < 18446744073709551616) :
    by8 x 7 * 72057594037927936 + by8 x 6 * 281474976710656 + by8 x 5 * 1099511627776 + by8 x 4 * 4294967296 + by8 x 3 * 16777216 + by8 x 2 * 65536 + by8 x 1 * 256 + by8 x 0 = x := by
  have e (k : Nat) : x / 256 ^ (k + 1) = x / 256 ^ k / 256 := by rw [Nat.pow_succ, Nat.div_div_eq_div_mul]
  have e0 : x / 256 ^ 0 = x := by simp
  have h1 : x / 256 ^ 1 = x / 256 := by rw [Nat.pow_one]
  have h2 : x / 256 ^ 2 = x / 256 / 256 := by rw [e 1, h1]
  have h3 : x / 256 ^ 3 = x / 256 / 256 / 256 := by rw [e 2, h2]
  have h4 : x / 256 ^ 4 = x / 256 / 256 / 256 / 256 := by rw [e 3, h3]
  have h5 : x / 256 ^ 5 = x / 256 / 256 / 256 / 256 / 256 := by rw [e 4, h4]
  have h6 : x / 256 ^ 6 = x / 256 / 256 / 256 / 256 / 256 / 256 := by rw [e 5, h5]
  have h7 : x / 256 ^ 7 = x / 256 / 256 / 256 / 256 / 256 / 256 / 256 := by rw [e 6, h6]
  unfold by8
  rw [e0, h7, h6, h5, h4, h3, h2, h1]
  omega

theorem or_nat (a b s : Nat) (ha : a < 18446744073709551616) (hb : b < 2 ^ s) (hs : s ≤ 64) (hd : 2 ^ s ∣ a) : bits .or .u64 (a : Int) (b : Int) = ((a + b : Nat) : Int) := by
  have : 2 ^ s ≤ 2 ^ 64 := Nat.pow_le_pow_right (by omega) hs
  rw [bits_or_u64_nat _ _ ha (by omega), or_disjoint a b s hb hd]

/-- A string that begins with the bytes of a word. -/
def Begins (s : ByteArray) (x : Nat) : Prop := 8 ≤ s.size ∧ ∀ k (_ : k < 8) (h2 : k < s.size), (s[k]'h2).toNat = by8 x (7 - k)

theorem or_step (p q : Int) (a b s : Nat) (hp : p = (a : Int)) (hq : q = (b : Int)) (ha : a < 18446744073709551616) (hb : b < 2 ^ s) (hs : s ≤ 64) (hd : 2 ^ s ∣ a) : bits .or .u64 p q = ((a + b : Nat) : Int) := by
  rw [hp, hq]; exact or_nat a b s ha hb hs hd

theorem or_chain (c0 c1 c2 c3 c4 c5 c6 c7 : Nat) (h0 : c0 < 256) (h1 : c1 < 256) (h2 : c2 < 256) (h3 : c3 < 256) (h4 : c4 < 256) (h5 : c5 < 256) (h6 : c6 < 256) (h7 : c7 < 256) :
    bits .or .u64 (bits .or .u64 (bits .or .u64 (bits .or .u64 (bits .or .u64 (bits .or .u64 (bits .or .u64 ((c0 : Int) * 72057594037927936) ((c1 : Int) * 281474976710656)) ((c2 : Int) * 1099511627776)) ((c3 : Int) * 4294967296)) ((c4 : Int) * 16777216)) ((c5 : Int) * 65536)) ((c6 : Int) * 256)) (c7 : Int) = ((c0 * 72057594037927936 + c1 * 281474976710656 + c2 * 1099511627776 + c3 * 4294967296 + c4 * 16777216 + c5 * 65536 + c6 * 256 + c7 : Nat) : Int) := by
  have s1 : bits .or .u64 ((c0 : Int) * 72057594037927936 : Int) ((c1 : Int) * 281474976710656) = ((c0 * 72057594037927936 + c1 * 281474976710656 : Nat) : Int) :=
    or_step _ _ (c0 * 72057594037927936) (c1 * 281474976710656) 56 (by omega) (by omega) (by omega) (by omega) (by omega) (by omega)
  have s2 : bits .or .u64 ((c0 * 72057594037927936 + c1 * 281474976710656 : Nat) : Int) ((c2 : Int) * 1099511627776) = ((c0 * 72057594037927936 + c1 * 281474976710656 + c2 * 1099511627776 : Nat) : Int) :=
    or_step _ _ (c0 * 72057594037927936 + c1 * 281474976710656) (c2 * 1099511627776) 48 (by omega) (by omega) (by omega) (by omega) (by omega) (by omega)
  have s3 : bits .or .u64 ((c0 * 72057594037927936 + c1 * 281474976710656 + c2 * 1099511627776 : Nat) : Int) ((c3 : Int) * 4294967296) = ((c0 * 72057594037927936 + c1 * 281474976710656 + c2 * 1099511627776 + c3 * 4294967296 : Nat) : Int) :=
    or_step _ _ (c0 * 72057594037927936 + c1 * 281474976710656 + c2 * 1099511627776) (c3 * 4294967296) 40 (by omega) (by omega) (by omega) (by omega) (by omega) (by omega)
  have s4 : bits .or .u64 ((c0 * 72057594037927936 + c1 * 281474976710656 + c2 * 1099511627776 + c3 * 4294967296 : Nat) : Int) ((c4 : Int) * 16777216) = ((c0 * 72057594037927936 + c1 * 281474976710656 + c2 * 1099511627776 + c3 * 4294967296 + c4 * 16777216 : Nat) : Int) :=
    or_step _ _ (c0 * 72057594037927936 + c1 * 281474976710656 + c2 * 1099511627776 + c3 * 4294967296) (c4 * 16777216) 32 (by omega) (by omega) (by omega) (by omega) (by omega) (by omega)
  have s5 : bits .or .u64 ((c0 * 72057594037927936 + c1 * 281474976710656 + c2 * 1099511627776 + c3 * 4294967296 + c4 * 16777216 : Nat) : Int) ((c5 : Int) * 65536) = ((c0 * 72057594037927936 + c1 * 281474976710656 + c2 * 1099511627776 + c3 * 4294967296 + c4 * 16777216 + c5 * 65536 : Nat) : Int) :=
    or_step _ _ (c0 * 72057594037927936 + c1 * 281474976710656 + c2 * 1099511627776 + c3 * 4294967296 + c4 * 16777216) (c5 * 65536) 24 (by omega) (by omega) (by omega) (by omega) (by omega) (by omega)
  have s6 : bits .or .u64 ((c0 * 72057594037927936 + c1 * 281474976710656 + c2 * 1099511627776 + c3 * 4294967296 + c4 * 16777216 + c5 * 65536 : Nat) : Int) ((c6 : Int) * 256) = ((c0 * 72057594037927936 + c1 * 281474976710656 + c2 * 1099511627776 + c3 * 4294967296 + c4 * 16777216 + c5 * 65536 + c6 * 256 : Nat) : Int) :=
    or_step _ _ (c0 * 72057594037927936 + c1 * 281474976710656 + c2 * 1099511627776 + c3 * 4294967296 + c4 * 16777216 + c5 * 65536) (c6 * 256) 16 (by omega) (by omega) (by omega) (by omega) (by omega) (by omega)
  have s7 : bits .or .u64 ((c0 * 72057594037927936 + c1 * 281474976710656 + c2 * 1099511627776 + c3 * 4294967296 + c4 * 16777216 + c5 * 65536 + c6 * 256 : Nat) : Int) (c7 : Int) = ((c0 * 72057594037927936 + c1 * 281474976710656 + c2 * 1099511627776 + c3 * 4294967296 + c4 * 16777216 + c5 * 65536 + c6 * 256 + c7 : Nat) : Int) :=
    or_step _ _ (c0 * 72057594037927936 + c1 * 281474976710656 + c2 * 1099511627776 + c3 * 4294967296 + c4 * 16777216 + c5 * 65536 + c6 * 256) (c7) 8 (by omega) (by omega) (by omega) (by omega) (by omega) (by omega)
  rw [s1, s2, s3, s4, s5, s6, s7]

set_option maxRecDepth 100000 in
set_option maxHeartbeats 4000000 in
theorem loadWord_any (s : ByteArray) (x : Nat) (w : World) (hs : Begins s x) (hx : x < M.B) (hmax : (s.size : Int) ≤ 9223372036854775807) :
    Calls Tryd.prog 84 #[.string s] w fun e w' => e = .returned (.int .u64 (x : Int)) ∧ ∃ n, w' = w.drewN n := by
  rw [M.B_eq] at hx
  obtain ⟨h8, hk⟩ := hs
  have b0 := hk 0 (by omega) (by omega)
  have b1 := hk 1 (by omega) (by omega)
  have b2 := hk 2 (by omega) (by omega)
  have b3 := hk 3 (by omega) (by omega)
  have b4 := hk 4 (by omega) (by omega)
  have b5 := hk 5 (by omega) (by omega)
  have b6 := hk 6 (by omega) (by omega)
  have b7 := hk 7 (by omega) (by omega)
  clear hk
  simp only [Nat.sub_zero, show 7 - 1 = 6 from rfl, show 7 - 2 = 5 from rfl, show 7 - 3 = 4 from rfl, show 7 - 4 = 3 from rfl, show 7 - 5 = 2 from rfl, show 7 - 6 = 1 from rfl, show 7 - 7 = 0 from rfl] at b0 b1 b2 b3 b4 b5 b6 b7
  have hsum := by8_sum x hx
  have l0 := by8_lt x 7; have l1 := by8_lt x 6; have l2 := by8_lt x 5; have l3 := by8_lt x 4; have l4 := by8_lt x 3; have l5 := by8_lt x 2; have l6 := by8_lt x 1; have l7 := by8_lt x 0
  generalize by8 x 7 = c0 at *
  generalize by8 x 6 = c1 at *
  generalize by8 x 5 = c2 at *
  generalize by8 x 4 = c3 at *
  generalize by8 x 3 = c4 at *
  generalize by8 x 2 = c5 at *
  generalize by8 x 1 = c6 at *
  generalize by8 x 0 = c7 at *
  have q1 : (1 : Int) < (s.size : Int) := by omega
  have q2 : (2 : Int) < (s.size : Int) := by omega
  have q3 : (3 : Int) < (s.size : Int) := by omega
  have q4 : (4 : Int) < (s.size : Int) := by omega
  have q5 : (5 : Int) < (s.size : Int) := by omega
  have q6 : (6 : Int) < (s.size : Int) := by omega
  have q7 : (7 : Int) < (s.size : Int) := by omega
  have q0 : 0 < s.size := by omega
  have HS := mkHid hsum
  clear hsum
  go_enter Tryd.func84, Tryd.ntmps84
  go_wp2
  go_quiet (fail)
  go_wp2
  go_ret
  refine ⟨?_, _, rfl⟩
  rw [← HS.out, ← or_chain c0 c1 c2 c3 c4 c5 c6 c7 l0 l1 l2 l3 l4 l5 l6 l7]
  rfl
end Go.Proofs.YtflcdpolfimggaaDoor
namespace Go.Proofs.YtflcdpolfimggaaDoor
open Go.RowKit

set_option maxHeartbeats 400000 in
theorem trim_any (b off cap : Nat) (l : List Nat) (w : World) (hm : cap ≤ maxLen) (hc : l.length ≤ cap) (hok : M.Ok l) (hw : Words w b off l) :
    Calls Tryd.prog 58 #[.slice (some ⟨b, off, none⟩) l.length cap] w fun e w' => e = .returned (.slice (some ⟨b, off, none⟩) (M.dig (M.val l)).length cap) ∧ w = w' := by
  unfold maxLen at hm
  have HW := Lib.hid hw; clear hw
  have HOK := Lib.hid hok; clear hok
  go_enter Tryd.func58, Tryd.ntmps58
  go_wp2
  go_loop [0] (fun v => ∃ k : Nat, k ≤ l.length ∧ v = .slice (some ⟨b, off, none⟩) k cap ∧ Hid (M.val (l.take k) = M.val l)) (fun v => match v with | .slice _ k _ => k | _ => 0)
  case atStart => exact ⟨l.length, Nat.le_refl _, rfl, by simp [Hid]⟩
  case round =>
    obtain ⟨k, hk, rfl, hv⟩ := hrel
    by_cases hk0 : k = 0
    · subst hk0
      go_wp2
      go_ret
      refine ⟨?_, rfl⟩
      have h := M.dig_take HOK.out 0 hk hv.out (fun h0 => absurd h0 (by omega))
      rw [h]; rfl
    · obtain ⟨m, rfl⟩ : ∃ m, k = m + 1 := ⟨k - 1, by omega⟩
      clear hk0
      have hm0 : 0 < m + 1 := by omega
      have hcell : w.cell? ⟨b, off + m, none⟩ = some (.int .u64 ((l[m] : Nat) : Int)) := (HW.out m (by omega)).1
      obtain ⟨x, hx⟩ : ∃ x, l[m] = x := ⟨_, rfl⟩
      rw [hx] at hcell
      have HX := Lib.hid hx; clear hx
      by_cases hz : x = 0
      · subst hz
        go_wp2
        refine ⟨⟨m, by omega, rfl, ?_⟩, by simp⟩
        have h1 := M.val_take_succ (l := l) (i := m) (by omega)
        rw [HX.out, hv.out] at h1
        show M.val (l.take m) = M.val l
        omega
      · go_wp2
        go_ret
        refine ⟨?_, rfl⟩
        have h := M.dig_take HOK.out (m + 1) hk hv.out (fun _ => by simp only [Nat.add_sub_cancel]; rw [HX.out]; exact hz)
        rw [h, List.length_take, Nat.min_eq_left hk]; rfl
end Go.Proofs.YtflcdpolfimggaaDoor
namespace Go.Proofs.YtflcdpolfimggaaDoor
open Go.RowKit

/-- Bytes as values. -/
def bv (l : List UInt8) : List Value := l.map fun b : UInt8 => Value.int .u8 (b.toNat : Int)
theorem bv_append (a b : List UInt8) : bv a ++ bv b = bv (a ++ b) := by simp [bv]
theorem bv_length (a : List UInt8) : (bv a).length = a.length := by simp [bv]

theorem new_list (w : World) (arr : Array Value) (e : TypeId) : ∀ j u, arr.toList[j]? = some u → (w.alloc (.cells arr e)).cell? ((⟨w.heap.size, 0, none⟩ : Addr).add j) = some u := by
  intro j u hu
  have h : (w.alloc (.cells arr e)).heap[w.heap.size]? = some (.cells arr e (0, 0)) := heap_alloc_new w _
  have ha : (⟨w.heap.size, 0, none⟩ : Addr).add j = ⟨w.heap.size, j, none⟩ := by unfold Addr.add; split <;> simp_all
  rw [ha]
  simp only [World.cell?, h]
  simpa using hu

theorem u8_byte (x k : Nat) (m : Int) (hm : m = ((256 ^ k : Nat) : Int)) : (x : Int) / m % 256 = ((by8 x k : Nat) : Int) := by
  rw [hm]; rfl
theorem u8_low (x : Nat) : IntKind.u8.wrap (x : Int) = ((by8 x 0 : Nat) : Int) := by
  rw [IntKind.wrap_u8]; unfold by8; simp
theorem u8_of (c : Nat) (h : c < 256) : ((UInt8.ofNat c).toNat : Int) = (c : Int) := by
  simp [Nat.mod_eq_of_lt h]
theorem bv_be8 (x : Nat) : bv (be8 x) = [.int .u8 ((by8 x 7 : Nat) : Int), .int .u8 ((by8 x 6 : Nat) : Int), .int .u8 ((by8 x 5 : Nat) : Int), .int .u8 ((by8 x 4 : Nat) : Int), .int .u8 ((by8 x 3 : Nat) : Int), .int .u8 ((by8 x 2 : Nat) : Int), .int .u8 ((by8 x 1 : Nat) : Int), .int .u8 ((by8 x 0 : Nat) : Int)] := by
  simp only [bv, be8, List.map_cons, List.map_nil, u8_of _ (by8_lt x _)]

theorem info8 : (Tryd.prog.info? 5).map (fun i => (i.zero, i.size, i.bytes)) = some (some (.int .u8 0), 1, 1) := by kernel_rfl

set_option maxRecDepth 100000 in
set_option maxHeartbeats 1000000 in
theorem appendWord_any (base n x : Nat) (v : Value) (xs : List Value) (w : World) (hown : w.ownsRow base 5 1 v n xs) (hn : n ≤ 10000000) (hbw : base ≤ w.heap.size) :
    Calls Tryd.prog 79 #[v, .int .u64 x] w fun e w' => ∃ v', e = .returned v' ∧ Hid (w'.ownsRow base 5 1 v' (n + 8) (xs ++ bv (be8 x)) ∧ Below base w w') := by
  have e7 := u8_byte x 7 72057594037927936 (by rfl)
  have e6 := u8_byte x 6 281474976710656 (by rfl)
  have e5 := u8_byte x 5 1099511627776 (by rfl)
  have e4 := u8_byte x 4 4294967296 (by rfl)
  have e3 := u8_byte x 3 16777216 (by rfl)
  have e2 := u8_byte x 2 65536 (by rfl)
  have e1 := u8_byte x 1 256 (by rfl)
  have e0 := u8_low x
  have HV := mkHid (bv_be8 x)
  generalize by8 x 7 = c0 at *
  generalize by8 x 6 = c1 at *
  generalize by8 x 5 = c2 at *
  generalize by8 x 4 = c3 at *
  generalize by8 x 3 = c4 at *
  generalize by8 x 2 = c5 at *
  generalize by8 x 1 = c6 at *
  generalize by8 x 0 = c7 at *
  have HO := Lib.hid hown; clear hown
  obtain ⟨i0, hi, hz0, hz1, hz2⟩ := info_parts info8
  have hi' := Lib.hid hi; have hz0' := Lib.hid hz0; have hz1' := Lib.hid hz1; have hz2' := Lib.hid hz2; clear hi hz0 hz1 hz2
  go_enter Tryd.func79, Tryd.ntmps79
  go_wp2_with (at_builtin; refine wpList_append_own _ rfl _ _ 100 rfl base 5 i0 (.int .u8 0) 1 1 Tryd.underlying100 hi'.out hz0'.out hz1'.out hz2'.out rfl (by decide) _ _ _ rfl (HO.out.alloc _) ⟨w.heap.size, 0, none⟩ 8 8 [.int .u8 c0, .int .u8 c1, .int .u8 c2, .int .u8 c3, .int .u8 c4, .int .u8 c5, .int .u8 c6, .int .u8 c7] rfl rfl ?c1 ?c2 ?c3 ?c4 ?c5 ?_)
  case c1 => exact new_list w #[.int .u8 c0, .int .u8 c1, .int .u8 c2, .int .u8 c3, .int .u8 c4, .int .u8 c5, .int .u8 c6, .int .u8 c7] 5
  case c2 => intro u hu; simp only [List.mem_cons, List.not_mem_nil, or_false] at hu; rcases hu with rfl | rfl | rfl | rfl | rfl | rfl | rfl | rfl <;> rfl
  case c3 => unfold maxLen; omega
  case c4 => omega
  case c5 => simp; omega
  intro v' w' hown' hgrow _
  have HOW := Lib.hid hown'; have HG := Lib.hid hgrow; clear hown' hgrow
  go_wp2
  go_ret
  refine ⟨v', rfl, mkHid ⟨by rw [HV.out]; exact HOW.out, ?_⟩⟩
  have e2 : Below base w (w.alloc (.cells #[.int .u8 c0, .int .u8 c1, .int .u8 c2, .int .u8 c3, .int .u8 c4, .int .u8 c5, .int .u8 c6, .int .u8 c7] 5)) := (Below.refl _ _).alloc hbw _
  exact e2.grown HG.out (by simp; omega) (fun k hk => (HO.out.lt k hk).1)

/-! ### Numbers as values -/
/-- The bytes of the words above the lowest one, the highest one first. -/
def hb (n : Nat) : List UInt8 := ((M.dig n).tail.reverse).flatMap be8
def hs (n : Nat) : ByteArray := ⟨(hb n).toArray⟩
/-- A number as the program holds it. -/
@[reducible] def natV (n : Nat) : Value := .agg #[.int .u64 ((n % M.B : Nat) : Int), .string (hs n)]

theorem flat_length (l : List Nat) : (l.flatMap be8).length = 8 * l.length := by
  induction l with
  | nil => rfl
  | cons x l ih => rw [List.flatMap_cons, List.length_append, ih, be8_length, List.length_cons]; omega
theorem hs_size (n : Nat) : (hs n).size = 8 * ((M.dig n).length - 1) := by
  show (hb n).toArray.size = _
  rw [List.size_toArray, hb, flat_length]; simp
theorem hb_small {n : Nat} (h : n < M.B) : hb n = [] := by
  unfold hb
  by_cases h0 : n = 0
  · subst h0; rw [M.dig_zero]; rfl
  · rw [M.dig_small h0 h]; rfl
theorem hs_small {n : Nat} (h : n < M.B) : hs n = ⟨#[]⟩ := by unfold hs; rw [hb_small h]
theorem hs_pos {n : Nat} (h : M.B ≤ n) : 0 < (hs n).size := by
  rw [hs_size]
  have := M.le_dig_length (n := n) (k := 1) (by rw [Nat.pow_one]; exact h)
  omega
theorem be8_toNat (x : Nat) (k : Nat) (h : k < 8) : ((be8 x)[k]'(by rw [be8_length]; exact h)).toNat = by8 x (7 - k) := by
  have e (c : Nat) (hc : c < 256) : (UInt8.ofNat c).toNat = c := by simp [Nat.mod_eq_of_lt hc]
  match k, h with
  | 0, _ => exact e _ (by8_lt x 7)
  | 1, _ => exact e _ (by8_lt x 6)
  | 2, _ => exact e _ (by8_lt x 5)
  | 3, _ => exact e _ (by8_lt x 4)
  | 4, _ => exact e _ (by8_lt x 3)
  | 5, _ => exact e _ (by8_lt x 2)
  | 6, _ => exact e _ (by8_lt x 1)
  | 7, _ => exact e _ (by8_lt x 0)
theorem be8_inj {x y : Nat} (hx : x < M.B) (hy : y < M.B) (h : be8 x = be8 y) : x = y := by
  rw [M.B_eq] at hx hy
  have e (k : Nat) (hk : k < 8) : by8 x (7 - k) = by8 y (7 - k) := by
    rw [← be8_toNat x k hk, ← be8_toNat y k hk]; simp only [h]
  have h0 := e 0 (by omega); have h1 := e 1 (by omega); have h2 := e 2 (by omega); have h3 := e 3 (by omega)
  have h4 := e 4 (by omega); have h5 := e 5 (by omega); have h6 := e 6 (by omega); have h7 := e 7 (by omega)
  have sx := by8_sum x hx
  have sy := by8_sum y hy
  simp only [Nat.sub_zero, show 7 - 1 = 6 from rfl, show 7 - 2 = 5 from rfl, show 7 - 3 = 4 from rfl, show 7 - 4 = 3 from rfl, show 7 - 5 = 2 from rfl, show 7 - 6 = 1 from rfl, show 7 - 7 = 0 from rfl] at h0 h1 h2 h3 h4 h5 h6 h7
  rw [h0, h1, h2, h3, h4, h5, h6, h7] at sx
  exact sx.symm.trans sy
theorem flat_inj : ∀ {a b : List Nat}, M.Ok a → M.Ok b → a.flatMap be8 = b.flatMap be8 → a = b
  | [], [], _, _, _ => rfl
  | [], y :: b, _, _, h => by
    have := congrArg List.length h; rw [flat_length, flat_length] at this; simp at this
  | x :: a, [], _, _, h => by
    have := congrArg List.length h; rw [flat_length, flat_length] at this; simp at this
  | x :: a, y :: b, ha, hb', h => by
    rw [List.flatMap_cons, List.flatMap_cons] at h
    obtain ⟨h1, h2⟩ := List.append_inj h (by rw [be8_length, be8_length])
    rw [be8_inj ha.head hb'.head h1, flat_inj ha.tail hb'.tail h2]
theorem hs_inj {a b : Nat} (h : hs a = hs b) (hl : a % M.B = b % M.B) : a = b := by
  have h1 : hb a = hb b := by
    have := congrArg (fun s : ByteArray => s.data.toList) h
    simpa [hs] using this
  have okr (n : Nat) : M.Ok (M.dig n).tail.reverse := fun x hx => M.ok_dig n x (List.mem_of_mem_tail (List.mem_reverse.1 hx))
  have h2 := flat_inj (okr a) (okr b) h1
  have h3 : (M.dig a).tail = (M.dig b).tail := by
    have := congrArg List.reverse h2
    rwa [List.reverse_reverse, List.reverse_reverse] at this
  have hd (n : Nat) : n = n % M.B + M.B * M.val (M.dig n).tail := by
    by_cases h0 : n = 0
    · subst h0; rw [M.dig_zero]; rfl
    · conv => lhs; rw [← M.val_dig n, M.dig_pos h0, M.val_cons]
      rw [M.dig_pos h0, List.tail_cons]
  rw [hd a, hd b, hl, h3]
theorem natV_inj {a b : Nat} : natV a = natV b ↔ a = b := by
  constructor
  · intro h
    injection h with h
    have h1 := congrArg (fun l : Array Value => l[0]?) h
    have h2 := congrArg (fun l : Array Value => l[1]?) h
    simp at h1 h2
    exact hs_inj h2 (by omega)
  · rintro rfl; rfl
end Go.Proofs.YtflcdpolfimggaaDoor
namespace Go.Proofs.YtflcdpolfimggaaDoor
open Go.RowKit

set_option maxHeartbeats 400000 in
theorem of_any (n : Nat) (w : World) (h : n < M.B) :
    Calls Tryd.prog 37 #[.int .u64 n] w fun e w' => e = .returned (natV n) ∧ Below w.heap.size w w' := by
  have e1 : n % M.B = n := Nat.mod_eq_of_lt h
  unfold natV
  rw [e1, hs_small h]
  clear e1 h
  go_enter Tryd.func37, Tryd.ntmps37
  go_wp2
  refine bodyPost_ret (v := .agg #[.int .u64 (n : Int), .string ⟨#[]⟩]) (by simp [results, Tryd.results37, go_sem]) rfl ⟨rfl, ?_⟩
  exact ((Below.refl _ _).alloc (Nat.le_refl _) _)

theorem ownsRow_cells {w : World} {base n : Nat} {v : Value} {l : List UInt8} (h : w.ownsRow base 5 1 v n (bv l)) (hn : 0 < n) :
    ∃ b cap, v = .slice (some ⟨b, 0, none⟩) n cap ∧ n = l.length ∧ ∀ i, i < n → w.cell? ⟨b, 0 + i, none⟩ = some (.int .u8 ((l.map fun b : UInt8 => (b.toNat : Int)).getD i 0)) := by
  obtain ⟨h1, h2⟩ := h
  rcases h2 with ⟨_, h2⟩ | ⟨g, cap, cur, rfl, hb, hg, hc, hm, hs, ht⟩
  · omega
  · have hl : n = l.length := by simpa [bv] using h1.symm
    refine ⟨g, cap, rfl, hl, fun i hi => ?_⟩
    simp only [World.cell?, hg, Nat.zero_add]
    have := congrArg (fun l => l[i]?) ht
    simp only [Nat.mul_one, bv, List.getElem?_map] at this
    rw [List.getElem?_take_of_lt (by omega)] at this
    have hil : i < l.length := by omega
    rw [List.getElem?_eq_getElem hil] at this
    simp only [Option.isSome_none, Bool.false_eq_true, if_false]
    rw [List.getD_eq_getElem?_getD, List.getElem?_map, List.getElem?_eq_getElem hil]
    simpa using this
theorem strOf (l : List UInt8) : strOfNums (l.map fun b : UInt8 => (b.toNat : Int)) = ⟨l.toArray⟩ := by
  unfold strOfNums
  congr 1
  rw [List.map_map]
  have : ((fun n : Int => UInt8.ofNat n.toNat) ∘ fun b : UInt8 => (b.toNat : Int)) = id := by
    funext b; simp
  rw [this, List.map_id]

theorem rev_take : ∀ (l : List Nat), l.reverse.take (l.length - 1) = l.tail.reverse
  | [] => rfl
  | x :: t => by
    rw [List.reverse_cons, List.tail_cons, List.length_cons, Nat.add_sub_cancel, List.take_append_of_le_length (by simp), List.take_of_length_le (by simp)]
theorem flat_succ (l : List Nat) (i : Nat) (h : i < l.length) : bv ((l.take (i + 1)).flatMap be8) = bv ((l.take i).flatMap be8) ++ bv (be8 l[i]) := by
  rw [bv_append, List.take_succ_eq_append_getElem h, List.flatMap_append]; simp

theorem old_cells {W w1 : World} (hb : Below W.heap.size W w1) : (∀ b o, b < W.heap.size → w1.cell? ⟨b, o, none⟩ = W.cell? ⟨b, o, none⟩) ∧ (∀ b o, b < W.heap.size → w1.frozen? ⟨b, o, none⟩ = W.frozen? ⟨b, o, none⟩) :=
  ⟨fun b o h => hb.cell (p := ⟨b, o, none⟩) h, fun b o h => hb.frozen (p := ⟨b, o, none⟩) h⟩

set_option maxRecDepth 100000 in
set_option maxHeartbeats 1000000 in
theorem pack_small (b cap : Nat) (l : List Nat) (w : World) (hw : Row w b cap l) (hlen : l.length ≤ 100000) (okl : M.Ok l) (hv : M.val l < M.B) :
    Calls Tryd.prog 53 #[.slice (some ⟨b, 0, none⟩) l.length cap] w fun e w' => e = .returned (natV (M.val l)) ∧ Below w.heap.size w w' := by
  have HW := Lib.hid hw; clear hw
  have OL := Lib.hid okl; clear okl
  have CT : Hid (∀ W, Below w.heap.size w W → Calls Tryd.prog 58 #[.slice (some ⟨b, 0, none⟩) l.length cap] W fun e w' => e = .returned (.slice (some ⟨b, 0, none⟩) (M.dig (M.val l)).length cap) ∧ W = w') := mkHid fun W hW =>
    trim_any b 0 cap l W HW.out.cap.1 HW.out.cap.2 OL.out (HW.out.words.grows hW)
  by_cases h0 : M.val l = 0
  · rw [h0, M.dig_zero] at CT
    rw [h0]
    have e2 : hs 0 = ⟨#[]⟩ := hs_small M.B_pos
    have e3 : (0 : Nat) % M.B = 0 := Nat.zero_mod _
    unfold natV
    rw [e2, e3]
    clear e2 e3 h0 hv
    simp only [List.length_nil] at CT
    go_enter Tryd.func53, Tryd.ntmps53
    go_wp2_with (go_at_call 58; refine (CT.out _ ((Below.refl _ _).alloc (Nat.le_refl _) _)).mono ?_; rintro e w' ⟨rfl, rfl⟩)
    refine bodyPost_ret (v := .agg #[.int .u64 ((0 : Nat) : Int), .string ⟨#[]⟩]) (by simp [results, Tryd.results53, go_sem]) rfl ⟨rfl, ?_⟩
    exact ((Below.refl _ _).alloc (Nat.le_refl _) _)
  · have hd := M.dig_small h0 hv
    rw [hd] at CT
    simp only [List.length_cons, List.length_nil, Nat.zero_add] at CT
    have hp := M.dig_prefix OL.out
    rw [hd] at hp
    have hl : 0 < l.length := by
      cases l with
      | nil => simp at h0
      | cons a t => simp
    have hcell : Hid (∀ W, Below w.heap.size w W → W.cell? ⟨b, 0, none⟩ = some (.int .u64 ((M.val l : Nat) : Int))) := mkHid fun W hW => by
      have h1 := ((HW.out.words.grows hW) 0 hl).1
      have h2 : l[0] = M.val l := by
        have := congrArg (fun l => l[0]?) hp
        simp only [List.length_cons, List.length_nil, Nat.zero_add, List.getElem?_cons_zero] at this
        rw [List.getElem?_take_of_lt (by omega), List.getElem?_eq_getElem hl] at this
        exact (Option.some.inj this).symm
      rw [h2] at h1
      exact h1
    have CO := mkHid (fun W => of_any (M.val l) W hv)
    unfold natV at CO ⊢
    clear hp hd
    generalize M.val l % M.B = lo at *
    generalize hs (M.val l) = hi at *
    generalize M.val l = v at *
    have hc1 := hcell.out _ ((Below.refl _ w).alloc (Nat.le_refl _) (.cells #[.int .u64 0, .string ⟨#[]⟩] 24))
    go_enter Tryd.func53, Tryd.ntmps53
    go_wp2_with (go_at_call 58; refine (CT.out _ ((Below.refl _ _).alloc (Nat.le_refl _) _)).mono ?_; rintro e w' ⟨rfl, rfl⟩)
    refine (CO.out _).mono ?_
    rintro e w1 ⟨rfl, hb⟩
    obtain ⟨hc, hf⟩ := old_cells hb
    have HB := mkHid hb
    clear hb hc1
    go_wp2
    refine bodyPost_ret (v := .agg #[.int .u64 (lo : Int), .string hi]) (by simp [results, Tryd.results53, go_sem, hc]) rfl ⟨rfl, ?_⟩
    have h1 := ((Below.refl w.heap.size w).alloc (Nat.le_refl _) (.cells #[.int .u64 0, .string ⟨#[]⟩] 24)).trans (HB.out.mono (by simp))
    exact (h1.setCell (p := ⟨w.heap.size, 0, none⟩) (Nat.le_refl _) _).setCell (p := ⟨w.heap.size, 1, none⟩) (Nat.le_refl _) _

set_option maxRecDepth 100000 in
set_option maxHeartbeats 2000000 in
theorem pack_large (b cap : Nat) (l : List Nat) (w : World) (hw : Row w b cap l) (hlen : l.length ≤ 100000) (okl : M.Ok l) (hv : M.B ≤ M.val l) :
    Calls Tryd.prog 53 #[.slice (some ⟨b, 0, none⟩) l.length cap] w fun e w' => e = .returned (natV (M.val l)) ∧ Below w.heap.size w w' := by
  have HW := Lib.hid hw; clear hw
  have OL := Lib.hid okl; clear okl
  have CT : Hid (∀ W, Below w.heap.size w W → Calls Tryd.prog 58 #[.slice (some ⟨b, 0, none⟩) l.length cap] W fun e w' => e = .returned (.slice (some ⟨b, 0, none⟩) (M.dig (M.val l)).length cap) ∧ W = w') := mkHid fun W hW =>
    trim_any b 0 cap l W HW.out.cap.1 HW.out.cap.2 OL.out (HW.out.words.grows hW)
  have hp := M.dig_prefix OL.out
  have h2 := M.le_dig_length (n := M.val l) (k := 1) (by rw [Nat.pow_one]; exact hv)
  have h3 := M.dig_length_val OL.out
  have HD : Hid (Words w b 0 (M.dig (M.val l))) := mkHid (by rw [hp]; exact HW.out.words.take _)
  have HBV : Hid (bv (((M.dig (M.val l)).reverse.take ((M.dig (M.val l)).length - 1)).flatMap be8) = bv (hb (M.val l))) := mkHid (by
    unfold hb
    rw [rev_take])
  have HLO : Hid ((M.dig (M.val l))[0]? = some (M.val l % M.B)) := mkHid (by rw [M.dig_pos (by have := M.B_pos; omega)]; rfl)
  obtain ⟨m, hm⟩ : ∃ m, (M.dig (M.val l)).length = m + 2 := ⟨(M.dig (M.val l)).length - 2, by omega⟩
  rw [hm] at CT HBV
  have hmb : m ≤ 100000 := by omega
  have HM := mkHid hm
  unfold natV
  have HHS : Hid (hs (M.val l) = ⟨(hb (M.val l)).toArray⟩) := mkHid rfl
  have HHL : Hid ((hb (M.val l)).length = 8 * (m + 1)) := mkHid (by rw [hb, flat_length]; simp; omega)
  clear hp h2 h3 hm
  generalize hb (M.val l) = bytes at *
  generalize hs (M.val l) = hi at *
  generalize M.val l % M.B = lo at *
  generalize M.dig (M.val l) = ds at *
  obtain ⟨i0, hi0, hz0, hz1, hz2⟩ := info_parts info8
  have hi' := Lib.hid hi0; have hz0' := Lib.hid hz0; have hz1' := Lib.hid hz1; have hz2' := Lib.hid hz2; clear hi0 hz0 hz1 hz2
  have hm1 : (m : Int) + 2 - 1 = (m : Int) + 1 := by omega
  go_enter Tryd.func53, Tryd.ntmps53
  go_wp2_with (first | (go_at_call 58; refine (CT.out _ ((Below.refl _ _).alloc (Nat.le_refl _) _)).mono ?_; rintro e w' ⟨rfl, rfl⟩) | (at_make; refine wpList_make_own _ rfl _ _ 100 rfl (w.heap.size + 1) 5 i0 (.int .u8 0) 1 Tryd.underlying100 hi'.out hz0'.out hz1'.out _ _ _ ((m + 1) * 8) rfl rfl (by omega) ?bytes ?maxl ?base ?_))
  case bytes => rw [hz2'.out]; omega
  case maxl => unfold maxLen; omega
  case base => simp
  intro w1 hown hgrow
  have hblk : w1.heap[w.heap.size]? = some (.cells #[.int .u64 0, .string ⟨#[]⟩] 24 (0, 0)) := by
    rw [hgrow.block w.heap.size (by simp) (by simp)]; exact heap_alloc_new w _
  have HBLK := mkHid hblk
  have HB1 : Hid (Below w.heap.size w w1) := mkHid (((Below.refl _ w).alloc (Nat.le_refl _) (.cells #[.int .u64 0, .string ⟨#[]⟩] 24)).grown hgrow (by simp) (fun k hk => by cases hk))
  have HS1 : Hid (w.heap.size + 1 ≤ w1.heap.size) := mkHid (by have := hgrow.size; simpa using this)
  have HO := mkHid hown
  clear hown hgrow hblk hi' hz0' hz1' hz2'
  have HC : Hid (∀ W, Below (w.heap.size + 1) w1 W → ∀ o v, (#[.int .u64 0, .string ⟨#[]⟩] : Array Value)[o]? = some v → W.cell? ⟨w.heap.size, o, none⟩ = some v ∧ W.frozen? ⟨w.heap.size, o, none⟩ = false) := mkHid fun W hW o v ho => by
    have hb := (hW.block w.heap.size (Nat.lt_succ_self _)).trans HBLK.out
    constructor
    · simp only [World.cell?, hb]; exact ho
    · simp [World.frozen?, hb]
  go_wp2
  go_loopw [3, 26] (fun bvv iv wr => ∃ i : Nat, i ≤ m + 1 ∧ iv = .int .i64 i ∧ Hid (wr.ownsRow (w.heap.size + 1) 5 1 bvv (8 * i) (bv ((ds.reverse.take i).flatMap be8)) ∧ Below (w.heap.size + 1) w1 wr))
    (fun _ iv _ => m + 1 - (intOf iv).toNat)
  case atStart => exact ⟨0, Nat.zero_le _, rfl, HO.out, Below.refl _ _⟩
  case round =>
    clear HO
    obtain ⟨i, hi2, rfl, H⟩ := hrel
    by_cases hlt : i < m + 1
    · have hk : m + 1 - i < ds.length := by rw [HM.out]; omega
      obtain ⟨x, ex⟩ : ∃ x, ds[m + 1 - i]'hk = x := ⟨_, rfl⟩
      have hir : i < ds.reverse.length := by rw [List.length_reverse, HM.out]; omega
      have hrx : ds.reverse[i]'hir = x := by
        rw [List.getElem_reverse, ← ex]
        congr 1
        rw [HM.out]; omega
      have HF := mkHid (flat_succ ds.reverse i hir)
      rw [hrx] at HF
      obtain ⟨hc, -⟩ := ((HD.out.grows HB1.out).below H.out.2 (by have h1 := HW.out.lt; omega)) (m + 1 - i) hk
      rw [ex, Nat.zero_add] at hc
      have CA := mkHid (appendWord_any (w.heap.size + 1) (8 * i) x u3 _ wr H.out.1 (by omega) (Nat.le_trans HS1.out H.out.2.size))
      clear ex hk hir hrx
      go_wp2_with fail
      refine CA.out.mono ?_
      clear CA
      rintro e w2 ⟨v', rfl, R⟩
      go_wp2
      go_roundw
      case measure => simp [intOf]; omega
      case rel => exact ⟨i + 1, by omega, by go_num, mkHid ⟨by rw [HF.out, Nat.mul_add, Nat.mul_one]; exact R.out.1, H.out.2.trans R.out.2⟩⟩
    · have hie : i = m + 1 := by omega
      subst hie
      have hown := H.out.1
      rw [show m + 1 = m + 2 - 1 from rfl, HBV.out, show m + 2 - 1 = m + 1 from rfl] at hown
      obtain ⟨g, gc, rfl, hgl, hgc⟩ := ownsRow_cells hown (by omega)
      have hconv := run_convert_bytes_arg (P := Tryd.prog) wr.drew 100 5 Tryd.underlying100 Tryd.underlying5 g 0 (8 * (m + 1)) gc (bytes.map fun b : UInt8 => (b.toNat : Int)) (by simp; omega) hgc 9 Tryd.underlying9
      rw [strOf, ← HHS.out] at hconv
      obtain ⟨hl0, -⟩ := ((HD.out.grows HB1.out).below H.out.2 (by have h1 := HW.out.lt; omega)) 0 (by rw [HM.out]; omega)
      have hds0 : ds[0]'(by rw [HM.out]; omega) = lo := by
        have := HLO.out
        rw [List.getElem?_eq_getElem (by rw [HM.out]; omega)] at this
        exact Option.some.inj this
      rw [hds0, Nat.add_zero] at hl0
      obtain ⟨hr0, hf0⟩ := HC.out wr H.out.2 0 _ rfl
      obtain ⟨hr1, hf1⟩ := HC.out wr H.out.2 1 _ rfl
      have HG := mkHid hown
      clear hown hgl hgc hds0
      go_wp2
      go_region
      go_wp2_with fail
      refine bodyPost_ret (v := .agg #[.int .u64 (lo : Int), .string hi]) (by simp [results, Tryd.results53, go_sem, hr0, hr1]) rfl ⟨rfl, ?_⟩
      have h1 : Below w.heap.size w wr := HB1.out.trans (H.out.2.mono (Nat.le_succ _))
      exact ((h1.setCell (p := ⟨w.heap.size, 0, none⟩) (Nat.le_refl _) _).setCell (p := ⟨w.heap.size, 1, none⟩) (Nat.le_refl _) _).drew

theorem pack_any (b cap : Nat) (l : List Nat) (w : World) (hw : Row w b cap l) (hlen : l.length ≤ 100000) (okl : M.Ok l) :
    Calls Tryd.prog 53 #[.slice (some ⟨b, 0, none⟩) l.length cap] w fun e w' => e = .returned (natV (M.val l)) ∧ Below w.heap.size w w' := by
  rcases Nat.lt_or_ge (M.val l) M.B with h | h
  · exact pack_small b cap l w hw hlen okl h
  · exact pack_large b cap l w hw hlen okl h
end Go.Proofs.YtflcdpolfimggaaDoor
namespace Go.Proofs.YtflcdpolfimggaaDoor
open Go.RowKit

set_option maxHeartbeats 400000 in
theorem compare64_any (x y : Nat) (w : World) :
    Calls Tryd.prog 76 #[.int .u64 x, .int .u64 y] w fun e w' => e = .returned (.int .i64 (Lib.compareInt x y)) ∧ w' = w := by
  by_cases h1 : (x : Int) < (y : Int)
  · have hc : Lib.compareInt x y = -1 := by unfold Lib.compareInt; rw [if_pos h1]
    go_enter Tryd.func76, Tryd.ntmps76
    go_wp2
    go_ret
    exact ⟨by first | rfl | (rw [hc]; rfl), rfl⟩
  · by_cases h2 : (y : Int) < (x : Int)
    · have hc : Lib.compareInt x y = 1 := by unfold Lib.compareInt; rw [if_neg h1, if_pos (show (x : Int) > y from h2)]
      go_enter Tryd.func76, Tryd.ntmps76
      go_wp2
      go_ret
      exact ⟨by first | rfl | (rw [hc]; rfl), rfl⟩
    · have hc : Lib.compareInt x y = 0 := by unfold Lib.compareInt; rw [if_neg h1, if_neg (show ¬ (x : Int) > y from h2)]
      go_enter Tryd.func76, Tryd.ntmps76
      go_wp2
      go_ret
      exact ⟨by first | rfl | (rw [hc]; rfl), rfl⟩

/-- The first one that is not 0. -/
def orI : List Int → Int
  | [] => 0
  | z :: zs => if z = 0 then orI zs else z

set_option maxHeartbeats 400000 in
theorem or_any (b : Nat) (zs : List Int) (cap : Nat) (w : World) (hb : zs.length ≤ 1000) (hc : ∀ j (h : j < zs.length), w.cell? ⟨b, j, none⟩ = some (.int .i64 zs[j])) :
    Calls Tryd.prog 73 #[.slice (some ⟨b, 0, none⟩) zs.length cap] w fun e w' => e = .returned (.int .i64 (orI zs)) ∧ w' = w := by
  have HC := Lib.hid hc; clear hc
  go_enter Tryd.func73, Tryd.ntmps73
  go_wp2
  go_loop [8] (fun iv => ∃ i : Nat, i ≤ zs.length ∧ iv = .int .i64 i ∧ Hid (orI (zs.drop i) = orI zs)) (fun iv => zs.length - (intOf iv).toNat)
  case atStart => exact ⟨0, by omega, rfl, rfl⟩
  case round =>
    obtain ⟨i, hi, rfl, H⟩ := hrel
    by_cases hlt : i < zs.length
    · have hcell := HC.out i hlt
      obtain ⟨z, ez⟩ : ∃ z, zs[i] = z := ⟨_, rfl⟩
      rw [ez] at hcell
      have hd : zs.drop i = z :: zs.drop (i + 1) := by rw [← ez]; exact List.drop_eq_getElem_cons hlt
      have H2 : Hid ((if z = 0 then orI (zs.drop (i + 1)) else z) = orI zs) := mkHid (by rw [← H.out, hd]; rfl)
      clear ez hd
      by_cases hz : z = 0
      · subst hz
        go_wp2
        go_round
        case rel => exact ⟨i + 1, hlt, by go_num, mkHid (by have := H2.out; rwa [if_pos rfl] at this)⟩
        case measure => simp [intOf]; omega
      · have hzb : (z == 0) = false := by simpa using hz
        have hzn : (z != 0) = true := by simpa using hz
        go_wp2
        go_ret
        exact ⟨by have := H2.out; rw [if_neg hz] at this; rw [← this]; rfl, rfl⟩
    · have hie : i = zs.length := by omega
      subst hie
      go_wp2
      go_ret
      exact ⟨by rw [← H.out]; simp [orI], rfl⟩

/-- The tables that the library's functions read. -/
def Tabs (w : World) : Prop := (∀ j, j < Lib.deBruijn64tab.length → w.cell? ⟨3, j, none⟩ = some (.int .u8 (Lib.deBruijn64tab.getD j 0))) ∧ Lib.TabIs Tryd.prog w "internal/strconv.uint64pow10" .u64 Lib.pow10Tab
theorem Tabs.below {w w' : World} {B : Nat} (h : Tabs w) (hb : Below B w w') (hB : 6 ≤ B) : Tabs w' := by
  refine ⟨fun j hj => ?_, ?_⟩
  · rw [hb.cell (show 3 < B by omega)]; exact h.1 j hj
  · have h2 := h.2
    unfold Lib.TabIs World.var? at h2 ⊢
    have hg : Tryd.prog.globalNamed "internal/strconv.uint64pow10" = some 4 := by kernel_rfl
    rw [hg] at h2 ⊢
    simp only [Option.bind_some] at h2 ⊢
    rw [hb.block _ (by omega)]; exact h2
theorem Tabs.wr {w w' : World} {b lo hi : Nat} (h : Tabs w) (hw : Wr w w' b lo hi) (hb : 6 ≤ b) (hs : 6 ≤ w.heap.size) : Tabs w' := h.below (hw.toBelow hb hs) (Nat.le_refl _)
theorem Tabs.drewN {w : World} (h : Tabs w) (n : Nat) : Tabs (w.drewN n) := h

theorem tz_core (x k idx : Nat) (w : World) (hx0 : ((x : Int) == 0) = false)
    (key : IntKind.u64.wrap (bits BinOp.and IntKind.u64 (x : Int) (IntKind.u64.wrap (-(x : Int))) * 285870213051353865) / 288230376151711744 = (idx : Int))
    (hi : idx < 64) (hk : k < 64) (hcell : w.cell? ⟨3, idx, none⟩ = some (.int .u8 k)) :
    Calls Tryd.prog 96 #[.int .u64 x] w fun e w' => e = .returned (.int .i64 k) ∧ w' = w := by
  go_enter Tryd.func96, Tryd.ntmps96
  go_wp2_with (simp only [key])
  go_ret
  exact ⟨rfl, rfl⟩

theorem tz_any (x : Nat) (hx0 : x ≠ 0) (hx : x < 18446744073709551616) (w : World) (ht : Tabs w) :
    Calls Tryd.prog 96 #[.int .u64 x] w fun e w' => e = .returned (.int .i64 (Lib.ctz 64 x : Int)) ∧ w' = w := by
  obtain ⟨hlow, hk⟩ := Lib.lowest_bit 64 x hx0 hx
  obtain ⟨hi, htab⟩ := Lib.deBruijn64_at _ hk
  have hcell := ht.1 _ hi
  rw [htab] at hcell
  exact tz_core x _ _ w (by simp; omega) (tz64_key x _ hx hx0 hlow) hi hk hcell

set_option maxHeartbeats 400000 in
theorem zeroBits_any (b off cap : Nat) (l : List Nat) (w : World) (hw : Words w b off l) (hlen : l.length ≤ 1000000) (okl : M.Ok l) (hv : M.val l ≠ 0) (ht : Tabs w) :
    Calls Tryd.prog 80 #[.slice (some ⟨b, off, none⟩) l.length cap] w fun e w' => ∃ z : Nat, e = .returned (.int .i64 z) ∧ w' = w ∧ Hid (z < 64 * l.length ∧ ∃ m, M.val l = 2 ^ z * (2 * m + 1)) := by
  have HW := Lib.hid hw; clear hw
  have OL := Lib.hid okl; clear okl
  have HV := Lib.hid hv; clear hv
  have HT := Lib.hid ht; clear ht
  have hpos : Hid (∀ i, M.val (l.take i) = 0 → i < l.length) := mkHid fun i hi => by
    apply Nat.lt_of_not_le; intro hle
    rw [List.take_of_length_le hle] at hi; exact HV.out hi
  go_enter Tryd.func80, Tryd.ntmps80
  go_wp2
  go_loop [3] (fun iv => ∃ i : Nat, i < l.length ∧ iv = .int .i64 i ∧ Hid (M.val (l.take i) = 0)) (fun iv => l.length - (intOf iv).toNat)
  case atStart => exact ⟨0, hpos.out 0 (by simp), rfl, by simp [Hid]⟩
  case round =>
    obtain ⟨i, hi, rfl, H⟩ := hrel
    obtain ⟨hcell, -⟩ := HW.out i hi
    obtain ⟨x, ex⟩ : ∃ x, l[i] = x := ⟨_, rfl⟩
    rw [ex] at hcell
    have BX : Hid (x < M.B) := mkHid (by rw [← ex]; exact OL.out.get hi)
    have k1 := M.val_take_succ (l := l) hi
    rw [ex, H.out] at k1
    have K1 := mkHid k1
    have EX := Lib.hid ex
    clear ex k1
    by_cases hx : x = 0
    · subst hx
      have h2 : M.val (l.take (i + 1)) = 0 := by have := K1.out; simpa using this
      have h3 := hpos.out _ h2
      have H2 := mkHid h2
      clear h2
      go_wp2
      go_round
      case rel => exact ⟨i + 1, h3, by go_num, H2⟩
      case measure => simp [intOf]; omega
    · have HT2 : Hid (∀ w', w' = w → Calls Tryd.prog 96 #[.int .u64 x] w' fun e w'' => e = .returned (.int .i64 (Lib.ctz 64 x : Int)) ∧ w'' = w') := mkHid fun w' he => by subst he; exact tz_any x hx BX.out w' HT.out
      obtain ⟨m, hm, hk⟩ := Lib.ctzFrom_spec 64 x (by omega) BX.out
      have hcz : Lib.ctz 64 x = Lib.ctzFrom 64 x := by unfold Lib.ctz; rw [if_neg hx]
      rw [← hcz] at hm hk
      have HM := mkHid hm
      have hx0 : ((x : Int) == 0) = false := by simp; omega
      clear hm hcz
      generalize Lib.ctz 64 x = t at *
      go_wp2_with (go_at_call 96; refine (HT2.out _ rfl).mono ?_; rintro e w' ⟨rfl, rfl⟩)
      go_ret
      refine ⟨i * 64 + t, by go_num, rfl, mkHid ⟨by omega, ?_⟩⟩
      have e1 := M.val_take_drop l i (by omega)
      rw [List.drop_eq_getElem_cons hi, M.val_cons, EX.out, H.out, Nat.zero_add, HM.out] at e1
      refine ⟨m + 2 ^ (63 - t) * M.val (l.drop (i + 1)), ?_⟩
      rw [e1]
      have e2 : M.B = 2 ^ t * (2 * 2 ^ (63 - t)) := by
        rw [← Nat.pow_succ', ← Nat.pow_add, show t + (63 - t).succ = 64 by omega]; rfl
      rw [show M.B ^ i = 2 ^ (i * 64) by rw [show M.B = 2 ^ 64 from rfl, ← Nat.pow_mul, Nat.mul_comm], Nat.pow_add, Nat.mul_assoc]
      congr 1
      conv => lhs; rhs; rw [e2, Nat.mul_assoc]
      rw [← Nat.mul_add]
      congr 1
      rw [Nat.mul_add, Nat.mul_assoc]; omega
end Go.Proofs.YtflcdpolfimggaaDoor
