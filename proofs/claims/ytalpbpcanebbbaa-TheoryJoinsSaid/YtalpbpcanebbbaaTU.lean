/- The iterator over the clauses in which no literal is true. -/
import Derived.Test.YtalpbpcanebbbaaTA
import Derived.RangeFuncBox
import Derived.RangeFuncLeaves
import Derived.RangeFuncCalls
import Derived.Shelf.Abstract
import Derived.OwnWalkIn
import Derived.TacticsInMore
import Derived.LoopNIn
import Derived.LoopIn
import Derived.Maps.AppendAt
namespace Go.Proofs.Ytalpbpcanebbbaa
open Go.RowKit Go.Shelf VM LM TM

attribute [local go_sem] Oper.semAt_some

/-- The numbers of the clauses in which no literal is true. -/
def unK (P : Int → Bool) (L : List (List Int)) (k : Nat) : List Nat := (List.range k).filter fun j => !(L.getD j []).any P
def un (P : Int → Bool) (L : List (List Int)) : List Nat := unK P L L.length
theorem unK_yes {P : Int → Bool} {L : List (List Int)} {k : Nat} {c : List Int} (hc : L[k]? = some c) (h : c.any P = true) : unK P L (k + 1) = unK P L k := by
  unfold unK; rw [List.range_succ, List.filter_append]
  simp [List.getD, hc, h]
theorem unK_no {P : Int → Bool} {L : List (List Int)} {k : Nat} {c : List Int} (hc : L[k]? = some c) (h : c.any P = false) : unK P L (k + 1) = unK P L k ++ [k] := by
  unfold unK; rw [List.range_succ, List.filter_append]
  simp [List.getD, hc, h]
theorem unK_prefix (P : Int → Bool) (L : List (List Int)) (k : Nat) : ∀ d, unK P L k <+: unK P L (k + d)
  | 0 => List.prefix_refl _
  | d + 1 => by
    refine (unK_prefix P L k d).trans ?_
    rw [show k + (d + 1) = (k + d) + 1 by omega]
    unfold unK; rw [List.range_succ, List.filter_append]
    exact List.prefix_append _ _
theorem unK_pre {P : Int → Bool} {L : List (List Int)} {k : Nat} (h : k ≤ L.length) : unK P L k <+: un P L := by
  have := unK_prefix P L k (L.length - k)
  rwa [show k + (L.length - k) = L.length by omega] at this
theorem un_map {α : Type} (P : Int → Bool) (L : List (List Int)) (f : List Int → α) : (un P L).map (fun j => f (L.getD j [])) = (L.filter fun c => !c.any P).map f := by
  have key : ∀ k, k ≤ L.length → (unK P L k).map (fun j => f (L.getD j [])) = ((L.take k).filter fun c => !c.any P).map f := by
    intro k
    induction k with
    | zero => intro _; simp [unK]
    | succ k ih =>
      intro hk
      have ih := ih (by omega)
      have hc : L[k]? = some L[k] := List.getElem?_eq_getElem (by omega)
      rw [List.take_add_one, hc, List.filter_append, List.map_append]
      cases h : L[k].any P
      · rw [unK_no hc h, List.map_append, ih]
        simp [List.getD, hc, h]
      · rw [unK_yes hc h, ih]
        simp [h]
  have := key L.length (Nat.le_refl _)
  rwa [List.take_length] at this
def rowAt (xs : List Value) (j : Nat) : Value := xs.getD j (.slice none 0 0)
theorem rowAt_get {xs : List Value} {j : Nat} {x : Value} (h : xs[j]? = some x) : rowAt xs j = x := by simp [rowAt, List.getD, h]
theorem Rows.at {w : World} {xs : List Value} {L : List (List Int)} (h : Rows w xs L) (j : Nat) : Ints w (rowAt xs j) (L.getD j []) := by
  rcases Nat.lt_or_ge j xs.length with hj | hj
  · have h1 := List.getElem?_eq_getElem hj
    have h2 := List.getElem?_eq_getElem (show j < L.length by rw [← h.1]; exact hj)
    rw [rowAt_get h1]
    simp only [List.getD, h2]
    exact h.2 j _ _ h1 h2
  · have h1 : xs[j]? = none := List.getElem?_eq_none hj
    have h2 : L[j]? = none := List.getElem?_eq_none (by rw [← h.1]; exact hj)
    simp only [rowAt, List.getD, h1, h2]
    exact .inl ⟨rfl, none, 0, rfl⟩
theorem getD_mem {L : List (List Int)} {p : List Int → Prop} (h : ∀ c ∈ L, p c) (h0 : p []) (j : Nat) : p (L.getD j []) := by
  cases hj : L[j]? with
  | none => simp only [List.getD, hj]; exact h0
  | some c => simp only [List.getD, hj]; exact h c (List.mem_of_getElem? hj)
theorem below_grown {A B : World} (h : Below A.heap.size A B) : A.grownBy B none := ⟨h.os, h.tape, h.output, h.size, fun k hk _ => h.block k hk⟩

set_option maxRecDepth 100000 in
set_option maxHeartbeats 4000000 in
/-- The iterator: the clauses in which no literal is true come, in order, whatever the loop's body does that keeps what is needed. -/
theorem unsat_in (n : Nat) (hn : 1 ≤ n) (l Bt Bf g : Nat) (lb : Array Value) (P : Int → Bool) (eg : ∀ args w, (callFunc g args).run Try.prog w = .ok (.enter g args) w)
    (ao : Option Addr) (cap : Nat) (xs : List Value) (L : List (List Int)) (St : World → Prop) (hlen : L.length ≤ 1000000) (hlens : ∀ c ∈ L, c.length ≤ 1000000)
    (hSV : ∀ W, St W → (∀ j x, xs[j]? = some x → ∃ b off, ao = some ⟨b, off, none⟩ ∧ W.cell? ⟨b, off + j, none⟩ = some x) ∧ Rows W xs L ∧ W.cell? ⟨Bt, 1, none⟩ = some (.slice ao L.length cap) ∧ W.cell? ⟨Bf, 0, none⟩ = some (.func (.func g) #[] lb) ∧ ∀ c ∈ L, PredG g lb P c W)
    (hSB : ∀ W W', St W → Below W.heap.size W W' → St W')
    (J Jx : List Nat → World → Prop) (hJ : ∀ s A B, J s A → Below A.heap.size A B → J s B)
    (hY : ∀ pre j W, J pre W → pre.length < (un P L).length → YieldAt Fence.wide (n - 1) Try.prog l #[rowAt xs j] W fun e W' =>
      (e = .returned (.bool true) ∧ J (pre ++ [j]) W' ∧ (St W → St W')) ∨ (e = .returned (.bool false) ∧ Jx (pre ++ [j]) W'))
    (W : World) (hS : St W) (h0 : J [] W) :
    CallsIn Fence.wide n Try.prog 82 #[.func (.yield l) #[] #[], .pointer (some ⟨Bt, 0, none⟩), .pointer (some ⟨Bf, 0, none⟩)] W fun e W' => (∃ v, e = .returned v) ∧
      ((∃ ys, ys = un P L ∧ J ys W') ∨ (∃ pre, pre <+: un P L ∧ Jx pre W')) := by
  obtain ⟨p1, p2, p3, p4, p5⟩ := hSV W hS
  have HSV := mkHid hSV
  have HSB := mkHid hSB
  have HJ := mkHid hJ
  have HY := mkHid hY
  have HLS := mkHid hlens
  clear p1 p2 p5 hSV hSB hJ hY hlens
  refine callsIn_of_wp Try.func82 rfl trivial ?_ rfl
  simp only [Try.ntmps82, List.size_toArray, List.length_cons, List.length_nil, Nat.reduceAdd, Nat.reduceSub, Array.replicate_succ, Array.replicate_zero, List.push_toArray, List.append_toArray, List.nil_append, List.cons_append]
  gi_wp2
  gi_loopw [9] (fun iv wr => ∃ k : Nat, k ≤ L.length ∧ iv = .int .i64 (k : Int) ∧ Hid (J (unK P L k) wr ∧ St wr)) (fun iv _ => L.length - (intOf iv).toNat)
  case atStart => exact ⟨0, by omega, rfl, mkHid ⟨h0, hS⟩⟩
  case round =>
    obtain ⟨k, hk, rfl, H⟩ := hrel
    clear h0 hS p3 p4
    by_cases hlt : k < L.length
    · obtain ⟨q1, q2, q3, q4, q5⟩ := HSV.out wr H.out.2
      have hc : L[k]? = some L[k] := List.getElem?_eq_getElem hlt
      have hx : xs[k]? = some (xs[k]'(by rw [q2.1]; exact hlt)) := List.getElem?_eq_getElem _
      obtain ⟨c, hce⟩ : ∃ c, L[k] = c := ⟨_, rfl⟩
      rw [hce] at hc
      obtain ⟨x, hxe⟩ : ∃ x, (xs[k]'(by rw [q2.1]; exact hlt)) = x := ⟨_, rfl⟩
      rw [hxe] at hx
      obtain ⟨b, off, rfl, hcx⟩ := q1 k x hx
      have hi := q2.2 k x c hx hc
      have hk1 : (k : Int) < (L.length : Int) := by omega
      have hk0 : (0 : Int) ≤ (k : Int) := by omega
      have hm := List.mem_of_getElem? hc
      have hC := contains_any g lb eg P x c wr hi (HLS.out c hm) (q5 c hm)
      have HRX := mkHid (rowAt_get hx)
      have HC := mkHid hc
      clear q1 q2 q3 q5 hx hi hm hxe hce hc
      cases hp : c.any P
      · rw [hp] at hC
        have HU := mkHid (unK_no HC.out hp)
        have HPR := mkHid (unK_pre (P := P) (L := L) (k := k + 1) (by omega))
        have hll : (unK P L k).length < (un P L).length := by
          have := HPR.out.length_le
          rw [HU.out, List.length_append] at this
          simp at this; omega
        have HLL := mkHid hll
        clear hp hll
        gi_wp2_with (refine ⟨trivial, ?_⟩; gi_at_call 73; refine (callsIn_wide.2 hC).mono ?_; rintro e w2 ⟨rfl, hb⟩; have HB := mkHid hb; clear hb; obtain ⟨fn, tmps, assign, body, hy, hR⟩ := HY.out _ k w2 (HJ.out _ _ _ H.out.1 HB.out) HLL.out; rw [HRX.out] at hy)
        refine hR.mono ?_
        rintro e w3 (⟨rfl, hJ3, hk3⟩ | ⟨rfl, hJx3⟩)
        · have hS3 := hk3 (HSB.out _ _ H.out.2 HB.out)
          gi_wp2
          go_roundw
          case rel => exact ⟨k + 1, by omega, by go_num, mkHid ⟨by rw [HU.out]; exact hJ3, hS3⟩⟩
          case measure => simp [intOf]; omega
        · gi_wp2
          refine bodyPost_ret (results_none rfl _ _ _) rfl ?_
          exact ⟨⟨_, rfl⟩, .inr ⟨_, by rw [← HU.out]; exact HPR.out, hJx3⟩⟩
      · rw [hp] at hC
        have HU := mkHid (unK_yes HC.out hp)
        clear hp
        gi_wp2_with (first | (refine ⟨trivial, ?_⟩; gi_at_call 73; refine (callsIn_wide.2 hC).mono ?_; rintro e w2 ⟨rfl, hb⟩; have HB := mkHid hb; clear hb))
        refine ⟨fun f hf => (by cases hf), ?_⟩
        gi_wp2
        go_roundw
        case rel => exact ⟨k + 1, by omega, by go_num, mkHid ⟨by rw [HU.out]; exact HJ.out _ _ _ H.out.1 HB.out, HSB.out _ _ H.out.2 HB.out⟩⟩
        case measure => simp [intOf]; omega
    · have hk1 : ¬ (k : Int) < (L.length : Int) := by omega
      have HE : Hid (unK P L k = un P L) := mkHid (by unfold un; rw [show k = L.length by omega])
      have hJ := H.out.1
      clear H
      gi_wp2
      go_end0
      exact ⟨⟨_, rfl⟩, .inl (by rw [← HE.out]; exact hJ)⟩
theorem unsat_stops (n : Nat) (hn : 1 ≤ n) (Bt Bf g : Nat) (lb : Array Value) (P : Int → Bool) (eg : ∀ args w, (callFunc g args).run Try.prog w = .ok (.enter g args) w)
    (ao : Option Addr) (cap : Nat) (xs : List Value) (L : List (List Int)) (St : World → Prop) (hlen : L.length ≤ 1000000) (hlens : ∀ c ∈ L, c.length ≤ 1000000)
    (hSV : ∀ W, St W → (∀ j x, xs[j]? = some x → ∃ b off, ao = some ⟨b, off, none⟩ ∧ W.cell? ⟨b, off + j, none⟩ = some x) ∧ Rows W xs L ∧ W.cell? ⟨Bt, 1, none⟩ = some (.slice ao L.length cap) ∧ W.cell? ⟨Bf, 0, none⟩ = some (.func (.func g) #[] lb) ∧ ∀ c ∈ L, PredG g lb P c W)
    (hSB : ∀ W W', St W → Below W.heap.size W W' → St W') (w : World) (hS : St w) :
    SeqStopsK Fence.wide n Try.prog 82 #[.pointer (some ⟨Bt, 0, none⟩), .pointer (some ⟨Bf, 0, none⟩)] (fun j : Nat => #[rowAt xs j]) (fun A B => St A → St B) (fun ys => ys = un P L) (fun pre => pre <+: un P L) (un P L).length w := fun l J Jx W hW hJ _ hY h0 =>
  unsat_in n hn l Bt Bf g lb P eg ao cap xs L St hlen hlens hSV hSB J Jx (fun s A B h hb => hJ s A B none h (below_grown hb) (fun r e => by cases e)) hY W (hSB _ _ hS hW) h0
theorem cell_boxf (w : World) (v : Value) (t : TypeId) (k : Nat) (hk : k = w.heap.size) : (w.alloc (.cells #[v] t)).cell? ⟨k, 0, none⟩ = some v := by
  subst hk; exact cell_new1 w v t
set_option maxRecDepth 100000 in
theorem unsatisfied_any (n : Int) (v : Value) (g : Nat) (lb : Array Value) (w : World) :
    Calls Try.prog 52 #[.agg #[.int .i64 n, v], .func (.func g) #[] lb] w fun e w' => e = .returned (.func (.func 82) #[] #[.pointer (some ⟨w.heap.size, 0, none⟩), .pointer (some ⟨w.heap.size + 1, 0, none⟩)]) ∧
      w' = (w.alloc (.cells #[.int .i64 n, v] 24)).alloc (.cells #[.func (.func g) #[] lb] 73) := by
  have hmf : ∀ (fn : Fn) (first cap : Array Value) (w : World), (Instr.makeFunc fn first cap).run Try.prog w = .ok (.func fn first cap) w := fun _ _ _ _ => rfl
  go_enter Try.func52, Try.ntmps52
  go_wp2
  go_ret
  exact ⟨rfl, rfl⟩
end Go.Proofs.Ytalpbpcanebbbaa
