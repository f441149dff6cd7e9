/- Worlds: cells that hold words, and what a call leaves as it was. -/
import Derived.Test.YtjdkbbggelpchaaDoorProg
import Derived.Test.YtjdkbbggelpchaaDoorM
import Derived.WalkKit
import Derived.WalkSpells
import Derived.WalkLawsBesides
import Derived.Lib.Hide
import Derived.Laws.Externs
import Derived.Shelf.Spec.BitsCarry
import Derived.StillTailTactics
import Derived.Deep.QuietTactic
import Derived.BigQuiet
import Derived.Handy
import Derived.Deep.Draws
namespace Go.Proofs.YtjdkbbggelpchaaDoor
open Go.RowKit

theorem mkHid {p : Prop} (h : p) : Hid p := h

/-- The cells from 'off' on in block b hold the words l, and none of them is frozen. -/
def Words (w : World) (b off : Nat) (l : List Nat) : Prop :=
  ∀ j (h : j < l.length), w.cell? ⟨b, off + j, none⟩ = some (.int .u64 ((l[j] : Nat) : Int)) ∧ w.frozen? ⟨b, off + j, none⟩ = false

/-- w' is w but for the cells from lo up to hi in block b, and for new blocks. -/
structure Wr (w w' : World) (b lo hi : Nat) : Prop where
  os : w'.os = w.os
  tape : w'.tape = w.tape
  output : w'.output = w.output
  size : w.heap.size ≤ w'.heap.size
  block : ∀ k, k < w.heap.size → k ≠ b → w'.heap[k]? = w.heap[k]?
  own : ∀ cur e fr, w.heap[b]? = some (.cells cur e fr) → ∃ cur', w'.heap[b]? = some (.cells cur' e fr) ∧ cur'.size = cur.size ∧ ∀ k, k < lo ∨ hi ≤ k → cur'[k]? = cur[k]?

theorem Wr.refl (w : World) (b lo hi : Nat) : Wr w w b lo hi := ⟨rfl, rfl, rfl, Nat.le_refl _, fun _ _ _ => rfl, fun cur _ _ h => ⟨cur, h, rfl, fun _ _ => rfl⟩⟩
theorem Wr.trans {a c d : World} {b lo hi : Nat} (h : Wr a c b lo hi) (k : Wr c d b lo hi) : Wr a d b lo hi :=
  ⟨k.os.trans h.os, k.tape.trans h.tape, k.output.trans h.output, Nat.le_trans h.size k.size,
   fun i hi hb => (k.block i (Nat.lt_of_lt_of_le hi h.size) hb).trans (h.block i hi hb),
   fun cur e fr hc => by
     obtain ⟨c1, g1, s1, e1⟩ := h.own cur e fr hc
     obtain ⟨c2, g2, s2, e2⟩ := k.own c1 e fr g1
     exact ⟨c2, g2, s2.trans s1, fun j hj => (e2 j hj).trans (e1 j hj)⟩⟩
theorem Wr.mono {w w' : World} {b lo hi lo' hi' : Nat} (h : Wr w w' b lo hi) (h1 : lo' ≤ lo) (h2 : hi ≤ hi') : Wr w w' b lo' hi' :=
  ⟨h.os, h.tape, h.output, h.size, h.block, fun cur e fr hc => by
    obtain ⟨c1, g1, s1, e1⟩ := h.own cur e fr hc
    exact ⟨c1, g1, s1, fun j hj => e1 j (by omega)⟩⟩
theorem Wr.drew {w w' : World} {b lo hi : Nat} (h : Wr w w' b lo hi) : Wr w w'.drew b lo hi := ⟨h.os, h.tape, h.output, h.size, h.block, h.own⟩
theorem Wr.drewN {w w' : World} {b lo hi : Nat} (h : Wr w w' b lo hi) (n : Nat) : Wr w (w'.drewN n) b lo hi := ⟨h.os, h.tape, h.output, h.size, h.block, h.own⟩
theorem Wr.ofBelow {w w' : World} (h : Below w.heap.size w w') (b lo hi : Nat) : Wr w w' b lo hi :=
  ⟨h.os, h.tape, h.output, h.size, fun k hk _ => h.block k hk, fun cur e fr hc => ⟨cur, by rw [h.block b (Array.getElem?_eq_some_iff.1 hc).1]; exact hc, rfl, fun _ _ => rfl⟩⟩
theorem Wr.alloc {w w' : World} {b lo hi : Nat} (h : Wr w w' b lo hi) (o : Obj) : Wr w (w'.alloc o) b lo hi :=
  h.trans (Wr.ofBelow ((Below.refl _ _).alloc (Nat.le_refl _) o) b lo hi)
theorem Wr.setCell {w w' : World} {b lo hi : Nat} (h : Wr w w' b lo hi) {k : Nat} (h1 : lo ≤ k) (h2 : k < hi) (v : Value) : Wr w (w'.setCell ⟨b, k, none⟩ v) b lo hi := by
  refine h.trans ⟨rfl, rfl, rfl, by simp [World.setCell], fun i _ hb => Below.heap_setCell _ _ _ _ hb, fun cur e fr hc => ⟨cur.setIfInBounds k v, ?_, by simp, fun j hj => ?_⟩⟩
  · simp [World.setCell, Array.getElem?_modify, hc]
  · rw [Array.getElem?_setIfInBounds, if_neg (by omega)]
theorem Wr.toBelow {w w' : World} {b lo hi B : Nat} (h : Wr w w' b lo hi) (hb : B ≤ b) (hB : B ≤ w.heap.size) : Below B w w' :=
  ⟨h.os, h.tape, h.output, h.size, fun k hk => h.block k (by omega) (by omega)⟩

theorem Words.nil (w : World) (b off : Nat) : Words w b off [] := by intro j h; simp at h
theorem Words.lt {w : World} {b off : Nat} {l : List Nat} (h : Words w b off l) (hl : 0 < l.length) : b < w.heap.size := World.block_lt_of_cell? w _ (h 0 hl).1
theorem Words.ofBlock {w w' : World} {b off : Nat} {l : List Nat} (h : Words w b off l) (he : 0 < l.length → w'.heap[b]? = w.heap[b]?) : Words w' b off l := by
  intro j hj
  have e := he (by omega)
  exact ⟨(World.cell?_of_block (w := w) (w' := w') (a := ⟨b, off + j, none⟩) e).trans (h j hj).1, (World.frozen?_of_block (w := w) (w' := w') (a := ⟨b, off + j, none⟩) e).trans (h j hj).2⟩
theorem Words.keep {w w' : World} {b b' off lo hi : Nat} {l : List Nat} (h : Words w b off l) (hw : Wr w w' b' lo hi) (hne : b ≠ b') : Words w' b off l :=
  h.ofBlock fun hl => hw.block b (h.lt hl) hne
theorem Words.below {w w' : World} {b off B : Nat} {l : List Nat} (h : Words w b off l) (hw : Below B w w') (hb : b < B) : Words w' b off l := h.ofBlock fun _ => hw.block b hb
theorem Words.grows {w w' : World} {b off : Nat} {l : List Nat} (h : Words w b off l) (hw : Below w.heap.size w w') : Words w' b off l := h.ofBlock fun hl => hw.block b (h.lt hl)
theorem Words.keepOut {w w' : World} {b off lo hi : Nat} {l : List Nat} (h : Words w b off l) (hw : Wr w w' b lo hi) (ho : off + l.length ≤ lo ∨ hi ≤ off) : Words w' b off l := by
  intro j hj
  obtain ⟨h1, h2⟩ := h j hj
  have hlt := World.block_lt_of_cell? w _ h1
  have hc : ∃ c e fr, w.heap[b]? = some (.cells c e fr) := by
    unfold World.cell? at h1
    split at h1
    · rename_i c e fr hb; exact ⟨c, e, fr, hb⟩
    · simp at h1
  obtain ⟨c, e, fr, hb⟩ := hc
  obtain ⟨c', hb', hs, he⟩ := hw.own c e fr hb
  constructor
  · simp only [World.cell?, hb, hb'] at h1 ⊢
    rw [he _ (by omega)]; exact h1
  · simp only [World.frozen?, hb, hb'] at h2 ⊢
    exact h2
theorem Words.drewN {w : World} {b off : Nat} {l : List Nat} (h : Words w b off l) (n : Nat) : Words (w.drewN n) b off l := h
theorem Words.left {w : World} {b off : Nat} {l m : List Nat} (h : Words w b off (l ++ m)) : Words w b off l := by
  intro j hj
  have := h j (by simp; omega)
  rwa [List.getElem_append_left hj] at this
theorem Words.right {w : World} {b off : Nat} {l m : List Nat} (h : Words w b off (l ++ m)) : Words w b (off + l.length) m := by
  intro j hj
  have := h (l.length + j) (by simp; omega)
  rw [List.getElem_append_right (by omega)] at this
  simp only [Nat.add_sub_cancel_left] at this
  rw [Nat.add_assoc]; exact this
theorem Words.take {w : World} {b off : Nat} {l : List Nat} (h : Words w b off l) (k : Nat) : Words w b off (l.take k) := by
  intro j hj
  have h1 : j < l.length := by simp at hj; omega
  have := h j h1
  rw [List.getElem_take]; exact this
theorem Words.drop {w : World} {b off : Nat} {l : List Nat} (h : Words w b off l) (k : Nat) : Words w b (off + k) (l.drop k) := by
  intro j hj
  have h1 : k + j < l.length := by simp at hj; omega
  have := h (k + j) h1
  rw [List.getElem_drop, Nat.add_assoc]; exact this
theorem Words.append {w : World} {b off : Nat} {l m : List Nat} (h : Words w b off l) (k : Words w b (off + l.length) m) : Words w b off (l ++ m) := by
  intro j hj
  by_cases hl : j < l.length
  · rw [List.getElem_append_left hl]; exact h j hl
  · have := k (j - l.length) (by simp at hj; omega)
    rw [List.getElem_append_right (by omega)]
    rwa [show off + l.length + (j - l.length) = off + j by omega] at this
/-- One word is stored. -/
theorem Words.set {w : World} {b off : Nat} {l : List Nat} (h : Words w b off l) (i : Nat) (x : Nat) : Words (w.setCell ⟨b, off + i, none⟩ (.int .u64 (x : Int))) b off (l.set i x) := by
  intro j hj
  have hj' : j < l.length := by simpa using hj
  obtain ⟨h1, h2⟩ := h j hj'
  have hc : ∃ c e fr, w.heap[b]? = some (.cells c e fr) := by
    unfold World.cell? at h1
    split at h1
    · rename_i c e fr hb; exact ⟨c, e, fr, hb⟩
    · simp at h1
  obtain ⟨c, e, fr, hb⟩ := hc
  have hb' : (w.setCell ⟨b, off + i, none⟩ (.int .u64 (x : Int))).heap[b]? = some (.cells (c.setIfInBounds (off + i) (.int .u64 (x : Int))) e fr) := by
    simp [World.setCell, Array.getElem?_modify, hb]
  constructor
  · simp only [World.cell?, hb, hb'] at h1 ⊢
    have h1' : c[off + j]? = some (.int .u64 ((l[j] : Nat) : Int)) := by simpa using h1
    have hlt := (Array.getElem?_eq_some_iff.1 h1').1
    simp only [Option.isSome_none, Bool.false_eq_true, if_false]
    rw [Array.getElem?_setIfInBounds]
    by_cases hij : i = j
    · subst hij; rw [if_pos rfl, if_pos hlt]; simp
    · rw [if_neg (by omega), h1', List.getElem_set_ne hij]
  · simp only [World.frozen?, hb, hb'] at h2 ⊢
    exact h2
theorem Words.snoc {w : World} {b off : Nat} {zs l : List Nat} {i : Nat} (h : Words w b off (zs ++ l.drop i)) (hz : zs.length = i) (hi : i < l.length) (x : Nat) :
    Words (w.setCell ⟨b, off + i, none⟩ (.int .u64 (x : Int))) b off ((zs ++ [x]) ++ l.drop (i + 1)) := by
  have := h.set i x
  have e : (zs ++ l.drop i).set i x = (zs ++ [x]) ++ l.drop (i + 1) := by
    rw [List.set_append_right _ _ (by omega), hz, Nat.sub_self, List.drop_eq_getElem_cons hi]
    simp only [List.set_cons_zero, List.append_assoc, List.cons_append, List.nil_append]
  rwa [e] at this
theorem Words.at {w : World} {b off : Nat} {zs l : List Nat} {i : Nat} (h : Words w b off (zs ++ l.drop i)) (hz : zs.length = i) (hi : i < l.length) :
    w.cell? ⟨b, off + i, none⟩ = some (.int .u64 ((l[i] : Nat) : Int)) ∧ w.frozen? ⟨b, off + i, none⟩ = false := by
  have := h i (by simp; omega)
  rwa [show (zs ++ l.drop i)[i]'(by simp; omega) = l[i] by rw [List.getElem_append_right (by omega)]; simp [hz]] at this

theorem take_succ_get {l : List Nat} {k : Nat} (zs : List Nat) (hk : k < l.length) : (l.take (k + 1) ++ zs)[k]? = some l[k] := by
  rw [List.getElem?_append_left (by simp; omega), List.getElem?_take_of_lt (by omega), List.getElem?_eq_getElem hk]
theorem Words.atTop {w : World} {b off : Nat} {zs l : List Nat} {k : Nat} (h : Words w b off (l.take (k + 1) ++ zs)) (hk : k < l.length) :
    w.cell? ⟨b, off + k, none⟩ = some (.int .u64 ((l[k] : Nat) : Int)) ∧ w.frozen? ⟨b, off + k, none⟩ = false := by
  have hlt : k < (l.take (k + 1) ++ zs).length := by simp; omega
  have := h k hlt
  have e := take_succ_get zs hk
  rw [List.getElem?_eq_getElem hlt] at e
  rw [Option.some.inj e] at this
  exact this
theorem Words.snocTop {w : World} {b off : Nat} {zs l : List Nat} {k : Nat} (h : Words w b off (l.take (k + 1) ++ zs)) (hk : k < l.length) (x : Nat) :
    Words (w.setCell ⟨b, off + k, none⟩ (.int .u64 (x : Int))) b off (l.take k ++ (x :: zs)) := by
  have := h.set k x
  have e : (l.take (k + 1) ++ zs).set k x = l.take k ++ (x :: zs) := by
    rw [List.take_succ_eq_append_getElem hk, List.append_assoc, List.set_append_right _ _ (by simp; omega)]
    simp [Nat.min_eq_left (Nat.le_of_lt hk)]
  rwa [e] at this

/-- Words as values. -/
def ws (l : List Nat) : List Value := l.map fun x : Nat => Value.int .u64 ((x : Nat) : Int)
theorem ws_length (l : List Nat) : (ws l).length = l.length := by simp [ws]
/-- Block b is a row of words of the call's own: room for 'cap' of them, the first ones are l. -/
def Row (w : World) (b cap : Nat) (l : List Nat) : Prop :=
  ∃ cur, w.heap[b]? = some (.cells cur 24 (0, 0)) ∧ cur.size = cap ∧ cap ≤ maxLen ∧ l.length ≤ cap ∧ ∀ j (h : j < l.length), cur[j]? = some (.int .u64 ((l[j] : Nat) : Int))
theorem Row.cap {w : World} {b cap : Nat} {l : List Nat} (h : Row w b cap l) : cap ≤ maxLen ∧ l.length ≤ cap := by obtain ⟨_, _, _, h1, h2, _⟩ := h; exact ⟨h1, h2⟩
theorem Row.lt {w : World} {b cap : Nat} {l : List Nat} (h : Row w b cap l) : b < w.heap.size := by obtain ⟨_, h, _⟩ := h; exact (Array.getElem?_eq_some_iff.1 h).1
theorem Row.words {w : World} {b cap : Nat} {l : List Nat} (h : Row w b cap l) : Words w b 0 l := by
  obtain ⟨cur, hb, _, _, _, hc⟩ := h
  intro j hj
  constructor
  · simp only [World.cell?, hb, Nat.zero_add]; exact hc j hj
  · simp [World.frozen?, hb]
theorem Row.ofBlock {w w' : World} {b cap : Nat} {l : List Nat} (h : Row w b cap l) (he : w'.heap[b]? = w.heap[b]?) : Row w' b cap l := by
  obtain ⟨cur, hb, r⟩ := h
  exact ⟨cur, he.trans hb, r⟩
theorem Row.keep {w w' : World} {b b' cap lo hi : Nat} {l : List Nat} (h : Row w b cap l) (hw : Wr w w' b' lo hi) (hne : b ≠ b') : Row w' b cap l := h.ofBlock (hw.block b h.lt hne)
theorem Row.below {w w' : World} {b cap B : Nat} {l : List Nat} (h : Row w b cap l) (hw : Below B w w') (hb : b < B) : Row w' b cap l := h.ofBlock (hw.block b hb)
theorem Row.grows {w w' : World} {b cap : Nat} {l : List Nat} (h : Row w b cap l) (hw : Below w.heap.size w w') : Row w' b cap l := h.ofBlock (hw.block b h.lt)
theorem Row.after {w w' : World} {b cap lo hi : Nat} {l l' : List Nat} (h : Row w b cap l) (hw : Wr w w' b lo hi) (hl : Words w' b 0 l') (hc : l'.length ≤ cap) : Row w' b cap l' := by
  obtain ⟨cur, hb, hs, hm, _, _⟩ := h
  obtain ⟨cur', hb', hs', _⟩ := hw.own cur _ _ hb
  refine ⟨cur', hb', by omega, hm, hc, fun j hj => ?_⟩
  have := (hl j hj).1
  simpa only [World.cell?, hb', Nat.zero_add, Option.isSome_none, Bool.false_eq_true, if_false] using this
theorem Row.take {w : World} {b cap : Nat} {l : List Nat} (h : Row w b cap l) (k : Nat) : Row w b cap (l.take k) := by
  obtain ⟨cur, hb, hs, hm, hl, hc⟩ := h
  exact ⟨cur, hb, hs, hm, by simp; omega, fun j hj => by rw [List.getElem_take]; exact hc j (by simp at hj; omega)⟩
theorem Row.own {w : World} {b cap base : Nat} {l : List Nat} (h : Row w b cap l) (hb : base ≤ b) :
    w.ownsRow base 24 1 (.slice (some ⟨b, 0, none⟩) l.length cap) l.length (ws l) := by
  obtain ⟨cur, hb', hs, hm, hl, hc⟩ := h
  refine ⟨by simp [ws], .inr ⟨b, cap, cur, rfl, hb, hb', hl, hm, by omega, ?_⟩⟩
  apply List.ext_getElem
  · simp [ws]; omega
  · intro j h1 h2
    have hj : j < l.length := by simpa [ws] using h2
    have := hc j hj
    simp only [ws, List.getElem_take, List.getElem_map, Array.getElem_toList]
    exact (Array.getElem?_eq_some_iff.1 this).2
theorem Row.ofOwn {w : World} {base n : Nat} {v : Value} {l : List Nat} (h : w.ownsRow base 24 1 v n (ws l)) (hn : 0 < n) :
    ∃ b cap, v = .slice (some ⟨b, 0, none⟩) l.length cap ∧ base ≤ b ∧ Row w b cap l ∧ n = l.length := by
  obtain ⟨h1, h2⟩ := h
  rcases h2 with ⟨_, h2⟩ | ⟨g, cap, cur, rfl, hb, hg, hc, hm, hs, ht⟩
  · omega
  · have hl : n = l.length := by simpa [ws] using h1.symm
    subst hl
    refine ⟨g, cap, rfl, hb, ⟨cur, hg, by omega, hm, hc, fun j hj => ?_⟩, rfl⟩
    have := congrArg (fun l => l[j]?) ht
    simp only [ws, Nat.mul_one, List.getElem?_map] at this
    rw [List.getElem?_take_of_lt (by omega)] at this
    simpa [List.getElem?_eq_getElem hj] using this

theorem info64 : (Tryd.prog.info? 24).map (fun i => (i.zero, i.size, i.bytes)) = some (some (.int .u64 0), 1, 8) := by kernel_rfl
theorem new_one (w : World) (v : Value) (e : TypeId) : ∀ j u, [v][j]? = some u → (w.alloc (.cells #[v] e)).cell? ((⟨w.heap.size, 0, none⟩ : Addr).add j) = some u := by
  intro j u hu
  cases j with
  | succ j => simp at hu
  | zero =>
    have hv : v = u := by simpa using hu
    subst hv
    have h : (w.alloc (.cells #[v] e)).heap[w.heap.size]? = some (.cells #[v] e (0, 0)) := heap_alloc_new w _
    have ha : (⟨w.heap.size, 0, none⟩ : Addr).add 0 = ⟨w.heap.size, 0, none⟩ := by unfold Addr.add; split <;> rfl
    rw [ha]
    simp only [World.cell?, h]
    rfl
theorem ws_append (l m : List Nat) : ws l ++ ws m = ws (l ++ m) := by simp [ws]

/-! ### The functions that the compiler knows -/
theorem add64_run (x y c : Nat) (hc : c ≤ 1) (w : World) :
    (callFunc 41 #[.int .u64 x, .int .u64 y, .int .u64 c]).run Tryd.prog w =
      .ok (.value (.tuple #[.int .u64 (((x + y + c) % 18446744073709551616 : Nat) : Int), .int .u64 (((x + y + c) / 18446744073709551616 : Nat) : Int)])) w := by
  rw [run_callFunc_extern Tryd.func41 (by kernel_rfl) (by kernel_rfl) (by kernel_rfl) (e := add64Entry) (by kernel_rfl), run_add64 x y c (by omega) (by omega) (by omega) (by omega)]
  simp only [Result.andThen]
  congr 5 <;> omega

theorem add64_run_y0 (x c : Nat) (hc : c ≤ 1) (w : World) :
    (callFunc 41 #[.int .u64 x, .int .u64 0, .int .u64 c]).run Tryd.prog w =
      .ok (.value (.tuple #[.int .u64 (((x + 0 + c) % 18446744073709551616 : Nat) : Int), .int .u64 (((x + 0 + c) / 18446744073709551616 : Nat) : Int)])) w := add64_run x 0 c hc w
theorem add64_run_c0 (x y : Nat) (w : World) :
    (callFunc 41 #[.int .u64 x, .int .u64 y, .int .u64 0]).run Tryd.prog w =
      .ok (.value (.tuple #[.int .u64 (((x + y) % 18446744073709551616 : Nat) : Int), .int .u64 (((x + y) / 18446744073709551616 : Nat) : Int)])) w := add64_run x y 0 (by omega) w
/-- A difference of words, and what is borrowed. -/
def dif (x y b : Nat) : Nat := (x + 18446744073709551616 - y - b) % 18446744073709551616
def bor (x y b : Nat) : Nat := if x < y + b then 1 else 0
theorem bor_le (x y b : Nat) : bor x y b ≤ 1 := by unfold bor; split <;> omega
theorem dif_bor {x y b : Nat} (hx : x < M.B) (hy : y < M.B) (hb : b ≤ 1) : dif x y b + y + b = x + M.B * bor x y b := by
  unfold dif bor M.B at *; split <;> omega
theorem dif_lt (x y b : Nat) : dif x y b < M.B := Nat.mod_lt _ (by omega)
theorem sub64_run (x y b : Nat) (hb : b ≤ 1) (w : World) :
    (callFunc 62 #[.int .u64 x, .int .u64 y, .int .u64 b]).run Tryd.prog w =
      .ok (.value (.tuple #[.int .u64 ((dif x y b : Nat) : Int), .int .u64 ((bor x y b : Nat) : Int)])) w := by
  rw [run_callFunc_extern Tryd.func62 (by kernel_rfl) (by kernel_rfl) (by kernel_rfl) (e := sub64Entry) (by kernel_rfl), run_sub64 x y b hb]
  rfl
theorem sub64_run_y0 (x b : Nat) (hb : b ≤ 1) (w : World) :
    (callFunc 62 #[.int .u64 x, .int .u64 0, .int .u64 b]).run Tryd.prog w =
      .ok (.value (.tuple #[.int .u64 ((dif x 0 b : Nat) : Int), .int .u64 ((bor x 0 b : Nat) : Int)])) w := sub64_run x 0 b hb w
theorem sub64_run_b0 (x y : Nat) (w : World) :
    (callFunc 62 #[.int .u64 x, .int .u64 y, .int .u64 0]).run Tryd.prog w =
      .ok (.value (.tuple #[.int .u64 ((dif x y 0 : Nat) : Int), .int .u64 ((bor x y 0 : Nat) : Int)])) w := sub64_run x y 0 (by omega) w
end Go.Proofs.YtjdkbbggelpchaaDoor
