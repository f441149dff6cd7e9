/- The contract of Len. -/
import Derived.Test.YtjdkbbggelpchaaDoorSum
namespace Go.Proofs.YtjdkbbggelpchaaDoor
open Go.RowKit

/-- The number of bits. -/
def lenN (n : Nat) : Nat := 64 * ((M.dig n).length - 1) + Lib.bitLen ((M.dig n).getLastD 0)

set_option maxHeartbeats 400000 in
theorem len_small_raw (l : Nat) (hl : (l : Int) ≤ 18446744073709551615) (w : World) :
    Calls Tryd.prog 27 #[.agg #[.int .u64 (l : Int), .string ⟨#[]⟩]] w fun e w' => e = .returned (.int .i64 (Lib.bitLen l : Int)) ∧ Below w.heap.size w w' := by
  have C := mkHid (fun W => Tryd.bits_Len64 (l : Int) W (by omega) hl)
  rw [Int.toNat_natCast] at C
  go_enter Tryd.func27, Tryd.ntmps27
  go_wp2_with (go_at_call 56; refine (C.out _).mono ?_; rintro e w' ⟨rfl, rfl⟩)
  go_ret
  exact ⟨rfl, (Below.refl _ _).alloc (Nat.le_refl _) _⟩

theorem below_drewN {B : Nat} {w w' : World} (h : Below B w w') (n : Nat) : Below B w (w'.drewN n) := ⟨h.os, h.tape, h.output, h.size, h.block⟩
theorem qN {P : Program} {f : FuncId} {args : Array Value} {w : World} {n : Nat} {v : Value} (h : ∀ W : World, Calls P f args W fun e w' => e = .returned v ∧ ∃ m, w' = W.drewN m) :
    Calls P f args (w.drewN n) fun e w'' => e = .returned v ∧ ∃ m, w'' = w.drewN m :=
  (h _).mono fun _ _ h => ⟨h.1, by obtain ⟨m, hm⟩ := h.2; exact ⟨n + m, by rw [hm, World.drewN_drewN]⟩⟩
theorem q0 {P : Program} {f : FuncId} {args : Array Value} {w : World} {n : Nat} {v : Value} (h : ∀ W : World, Calls P f args W fun e w' => e = .returned v ∧ w' = W) :
    Calls P f args (w.drewN n) fun e w'' => e = .returned v ∧ ∃ m, w'' = w.drewN m := (h _).mono fun _ _ h => ⟨h.1, n, h.2⟩

set_option maxRecDepth 100000 in
set_option maxHeartbeats 1000000 in
theorem len_large_raw (l x k : Nat) (h : ByteArray) (w : World) (hne : h.toList.isEmpty = false) (hb : Begins h x) (hx : x < M.B) (hk : h.size = 8 * k) (hk2 : k ≤ 100000) :
    Calls Tryd.prog 27 #[.agg #[.int .u64 (l : Int), .string h]] w fun e w' => e = .returned (.int .i64 ((64 * k + Lib.bitLen x : Nat) : Int)) ∧ Below w.heap.size w w' := by
  have C := mkHid (fun W => Tryd.bits_Len64 (x : Int) W (by omega) (by unfold M.B at hx; omega))
  rw [Int.toNat_natCast] at C
  have D := mkHid (fun W => loadWord_any h x W hb hx (by omega))
  have hb64 := bl_64 x hx
  generalize Lib.bitLen x = bl at *
  have e : ((64 * k + bl : Nat) : Int) = (h.size : Int) * 8 + (bl : Int) := by omega
  rw [e]
  have hs1 : (h.size : Int) ≤ 800000 := by omega
  have hbl : (bl : Int) ≤ 64 := by omega
  have hw1 : IntKind.i64.wrap ((h.size : Int) * 8) = (h.size : Int) * 8 := by rw [IntKind.wrap_i64]; omega
  have hw2 : IntKind.i64.wrap ((h.size : Int) * 8 + (bl : Int)) = (h.size : Int) * 8 + (bl : Int) := by rw [IntKind.wrap_i64]; omega
  clear hb hx hk hk2 e hb64
  go_enter Tryd.func27, Tryd.ntmps27
  go_wp2_with fail
  go_quiet (first
    | (go_at_call 57; first | exact qaddN D.out | exact qN D.out | exact D.out _)
    | (go_at_call 56; first | exact qadd C.out | exact q0 C.out | exact Calls.quiet_of_same (C.out _)))
  go_wp2
  go_ret
  refine ⟨rfl, ?_⟩
  exact below_drewN ((Below.refl _ _).alloc (Nat.le_refl _) _) _

theorem top_of : ∀ (l : List Nat) (h : 0 < l.tail.reverse.length), l.tail.reverse[0]'h = l.getLastD 0
  | [], h => by simp at h
  | [a], h => by simp at h
  | a :: c :: t, h => by
    rw [List.getElem_reverse]
    simp [List.getLastD, List.getLast_eq_getElem]

theorem len_any (n : Nat) (w : World) (hl : (M.dig n).length ≤ 100000) :
    Calls Tryd.prog 27 #[natV n] w fun e w' => e = .returned (.int .i64 (lenN n : Int)) ∧ Below w.heap.size w w' := by
  unfold natV
  rcases Nat.lt_or_ge n M.B with h | h
  · rw [hs_small h, Nat.mod_eq_of_lt h]
    have e : lenN n = Lib.bitLen n := by
      unfold lenN
      by_cases h0 : n = 0
      · subst h0; rw [M.dig_zero]; simp
      · rw [M.dig_small h0 h]; simp
    rw [e]
    exact len_small_raw n (by unfold M.B at h; omega) w
  · have h2 := M.le_dig_length (n := n) (k := 1) (by rw [Nat.pow_one]; exact h)
    have hrev : 0 < (M.dig n).tail.reverse.length := by simp; omega
    have hx := top_of (M.dig n) hrev
    have hb := hs_begins n 0 (by omega) _ hx
    have he : (hs n).extract (8 * 0) (hs n).size = hs n := by simp
    rw [he] at hb
    refine len_large_raw _ _ _ _ w (hs_ne h) hb ?_ (hs_size n) (by omega)
    rw [← hx]
    exact M.ok_dig n _ (List.mem_of_mem_tail (List.mem_reverse.1 (List.getElem_mem hrev)))

end Go.Proofs.YtjdkbbggelpchaaDoor
