/- The contract of appendWord; numbers as values; Of, Uint, bothSmall. -/
import Derived.Test.YtjdkbbggelpchaaDoorBytes
import Derived.Test.YtjdkbbggelpchaaDoorTrim
import Derived.Test.YtjdkbbggelpchaaDoorShelf
namespace Go.Proofs.YtjdkbbggelpchaaDoor
open Go.RowKit

/-- Bytes as values. -/
def bv (l : List UInt8) : List Value := l.map fun b : UInt8 => Value.int .u8 (b.toNat : Int)
theorem bv_append (a b : List UInt8) : bv a ++ bv b = bv (a ++ b) := by simp [bv]
theorem bv_length (a : List UInt8) : (bv a).length = a.length := by simp [bv]

theorem new_list (w : World) (arr : Array Value) (e : TypeId) : ∀ j u, arr.toList[j]? = some u → (w.alloc (.cells arr e)).cell? ((⟨w.heap.size, 0, none⟩ : Addr).add j) = some u := by
  intro j u hu
  have h : (w.alloc (.cells arr e)).heap[w.heap.size]? = some (.cells arr e (0, 0)) := heap_alloc_new w _
  have ha : (⟨w.heap.size, 0, none⟩ : Addr).add j = ⟨w.heap.size, j, none⟩ := by unfold Addr.add; split <;> simp_all
  rw [ha]
  simp only [World.cell?, h]
  simpa using hu

theorem u8_byte (x k : Nat) (m : Int) (hm : m = ((256 ^ k : Nat) : Int)) : (x : Int) / m % 256 = ((by8 x k : Nat) : Int) := by
  rw [hm]; rfl
theorem u8_low (x : Nat) : IntKind.u8.wrap (x : Int) = ((by8 x 0 : Nat) : Int) := by
  rw [IntKind.wrap_u8]; unfold by8; simp
theorem u8_of (c : Nat) (h : c < 256) : ((UInt8.ofNat c).toNat : Int) = (c : Int) := by
  simp [Nat.mod_eq_of_lt h]
theorem bv_be8 (x : Nat) : bv (be8 x) = [.int .u8 ((by8 x 7 : Nat) : Int), .int .u8 ((by8 x 6 : Nat) : Int), .int .u8 ((by8 x 5 : Nat) : Int), .int .u8 ((by8 x 4 : Nat) : Int), .int .u8 ((by8 x 3 : Nat) : Int), .int .u8 ((by8 x 2 : Nat) : Int), .int .u8 ((by8 x 1 : Nat) : Int), .int .u8 ((by8 x 0 : Nat) : Int)] := by
  simp only [bv, be8, List.map_cons, List.map_nil, u8_of _ (by8_lt x _)]

theorem info8 : (Tryd.prog.info? 5).map (fun i => (i.zero, i.size, i.bytes)) = some (some (.int .u8 0), 1, 1) := by kernel_rfl

set_option maxRecDepth 100000 in
set_option maxHeartbeats 1000000 in
theorem appendWord_any (base n x : Nat) (v : Value) (xs : List Value) (w : World) (hown : w.ownsRow base 5 1 v n xs) (hn : n ≤ 10000000) (hbw : base ≤ w.heap.size) :
    Calls Tryd.prog 63 #[v, .int .u64 x] w fun e w' => ∃ v', e = .returned v' ∧ Hid (w'.ownsRow base 5 1 v' (n + 8) (xs ++ bv (be8 x)) ∧ Below base w w') := by
  have e7 := u8_byte x 7 72057594037927936 (by rfl)
  have e6 := u8_byte x 6 281474976710656 (by rfl)
  have e5 := u8_byte x 5 1099511627776 (by rfl)
  have e4 := u8_byte x 4 4294967296 (by rfl)
  have e3 := u8_byte x 3 16777216 (by rfl)
  have e2 := u8_byte x 2 65536 (by rfl)
  have e1 := u8_byte x 1 256 (by rfl)
  have e0 := u8_low x
  have HV := mkHid (bv_be8 x)
  generalize by8 x 7 = c0 at *
  generalize by8 x 6 = c1 at *
  generalize by8 x 5 = c2 at *
  generalize by8 x 4 = c3 at *
  generalize by8 x 3 = c4 at *
  generalize by8 x 2 = c5 at *
  generalize by8 x 1 = c6 at *
  generalize by8 x 0 = c7 at *
  have HO := Lib.hid hown; clear hown
  obtain ⟨i0, hi, hz0, hz1, hz2⟩ := info_parts info8
  have hi' := Lib.hid hi; have hz0' := Lib.hid hz0; have hz1' := Lib.hid hz1; have hz2' := Lib.hid hz2; clear hi hz0 hz1 hz2
  go_enter Tryd.func63, Tryd.ntmps63
  go_wp2_with (at_builtin; refine wpList_append_own _ rfl _ _ 88 rfl base 5 i0 (.int .u8 0) 1 1 Tryd.underlying88 hi'.out hz0'.out hz1'.out hz2'.out rfl (by decide) _ _ _ rfl (HO.out.alloc _) ⟨w.heap.size, 0, none⟩ 8 8 [.int .u8 c0, .int .u8 c1, .int .u8 c2, .int .u8 c3, .int .u8 c4, .int .u8 c5, .int .u8 c6, .int .u8 c7] rfl rfl ?c1 ?c2 ?c3 ?c4 ?c5 ?_)
  case c1 => exact new_list w #[.int .u8 c0, .int .u8 c1, .int .u8 c2, .int .u8 c3, .int .u8 c4, .int .u8 c5, .int .u8 c6, .int .u8 c7] 5
  case c2 => intro u hu; simp only [List.mem_cons, List.not_mem_nil, or_false] at hu; rcases hu with rfl | rfl | rfl | rfl | rfl | rfl | rfl | rfl <;> rfl
  case c3 => unfold maxLen; omega
  case c4 => omega
  case c5 => simp; omega
  intro v' w' hown' hgrow _
  have HOW := Lib.hid hown'; have HG := Lib.hid hgrow; clear hown' hgrow
  go_wp2
  go_ret
  refine ⟨v', rfl, mkHid ⟨by rw [HV.out]; exact HOW.out, ?_⟩⟩
  have e2 : Below base w (w.alloc (.cells #[.int .u8 c0, .int .u8 c1, .int .u8 c2, .int .u8 c3, .int .u8 c4, .int .u8 c5, .int .u8 c6, .int .u8 c7] 5)) := (Below.refl _ _).alloc hbw _
  exact e2.grown HG.out (by simp; omega) (fun k hk => (HO.out.lt k hk).1)

/-! ### Numbers as values -/
/-- The bytes of the words above the lowest one, the highest one first. -/
def hb (n : Nat) : List UInt8 := ((M.dig n).tail.reverse).flatMap be8
def hs (n : Nat) : ByteArray := ⟨(hb n).toArray⟩
/-- A number as the program holds it. -/
@[reducible] def natV (n : Nat) : Value := .agg #[.int .u64 ((n % M.B : Nat) : Int), .string (hs n)]

theorem flat_length (l : List Nat) : (l.flatMap be8).length = 8 * l.length := by
  induction l with
  | nil => rfl
  | cons x l ih => rw [List.flatMap_cons, List.length_append, ih, be8_length, List.length_cons]; omega
theorem hs_size (n : Nat) : (hs n).size = 8 * ((M.dig n).length - 1) := by
  show (hb n).toArray.size = _
  rw [List.size_toArray, hb, flat_length]; simp
theorem hb_small {n : Nat} (h : n < M.B) : hb n = [] := by
  unfold hb
  by_cases h0 : n = 0
  · subst h0; rw [M.dig_zero]; rfl
  · rw [M.dig_small h0 h]; rfl
theorem hs_small {n : Nat} (h : n < M.B) : hs n = ⟨#[]⟩ := by unfold hs; rw [hb_small h]
theorem hs_pos {n : Nat} (h : M.B ≤ n) : 0 < (hs n).size := by
  rw [hs_size]
  have := M.le_dig_length (n := n) (k := 1) (by rw [Nat.pow_one]; exact h)
  omega
theorem be8_toNat (x : Nat) (k : Nat) (h : k < 8) : ((be8 x)[k]'(by rw [be8_length]; exact h)).toNat = by8 x (7 - k) := by
  have e (c : Nat) (hc : c < 256) : (UInt8.ofNat c).toNat = c := by simp [Nat.mod_eq_of_lt hc]
  match k, h with
  | 0, _ => exact e _ (by8_lt x 7)
  | 1, _ => exact e _ (by8_lt x 6)
  | 2, _ => exact e _ (by8_lt x 5)
  | 3, _ => exact e _ (by8_lt x 4)
  | 4, _ => exact e _ (by8_lt x 3)
  | 5, _ => exact e _ (by8_lt x 2)
  | 6, _ => exact e _ (by8_lt x 1)
  | 7, _ => exact e _ (by8_lt x 0)
theorem be8_inj {x y : Nat} (hx : x < M.B) (hy : y < M.B) (h : be8 x = be8 y) : x = y := by
  rw [M.B_eq] at hx hy
  have e (k : Nat) (hk : k < 8) : by8 x (7 - k) = by8 y (7 - k) := by
    rw [← be8_toNat x k hk, ← be8_toNat y k hk]; simp only [h]
  have h0 := e 0 (by omega); have h1 := e 1 (by omega); have h2 := e 2 (by omega); have h3 := e 3 (by omega)
  have h4 := e 4 (by omega); have h5 := e 5 (by omega); have h6 := e 6 (by omega); have h7 := e 7 (by omega)
  have sx := by8_sum x hx
  have sy := by8_sum y hy
  simp only [Nat.sub_zero, show 7 - 1 = 6 from rfl, show 7 - 2 = 5 from rfl, show 7 - 3 = 4 from rfl, show 7 - 4 = 3 from rfl, show 7 - 5 = 2 from rfl, show 7 - 6 = 1 from rfl, show 7 - 7 = 0 from rfl] at h0 h1 h2 h3 h4 h5 h6 h7
  rw [h0, h1, h2, h3, h4, h5, h6, h7] at sx
  exact sx.symm.trans sy
theorem flat_inj : ∀ {a b : List Nat}, M.Ok a → M.Ok b → a.flatMap be8 = b.flatMap be8 → a = b
  | [], [], _, _, _ => rfl
  | [], y :: b, _, _, h => by
    have := congrArg List.length h; rw [flat_length, flat_length] at this; simp at this
  | x :: a, [], _, _, h => by
    have := congrArg List.length h; rw [flat_length, flat_length] at this; simp at this
  | x :: a, y :: b, ha, hb', h => by
    rw [List.flatMap_cons, List.flatMap_cons] at h
    obtain ⟨h1, h2⟩ := List.append_inj h (by rw [be8_length, be8_length])
    rw [be8_inj ha.head hb'.head h1, flat_inj ha.tail hb'.tail h2]
theorem hs_inj {a b : Nat} (h : hs a = hs b) (hl : a % M.B = b % M.B) : a = b := by
  have h1 : hb a = hb b := by
    have := congrArg (fun s : ByteArray => s.data.toList) h
    simpa [hs] using this
  have okr (n : Nat) : M.Ok (M.dig n).tail.reverse := fun x hx => M.ok_dig n x (List.mem_of_mem_tail (List.mem_reverse.1 hx))
  have h2 := flat_inj (okr a) (okr b) h1
  have h3 : (M.dig a).tail = (M.dig b).tail := by
    have := congrArg List.reverse h2
    rwa [List.reverse_reverse, List.reverse_reverse] at this
  have hd (n : Nat) : n = n % M.B + M.B * M.val (M.dig n).tail := by
    by_cases h0 : n = 0
    · subst h0; rw [M.dig_zero]; rfl
    · conv => lhs; rw [← M.val_dig n, M.dig_pos h0, M.val_cons]
      rw [M.dig_pos h0, List.tail_cons]
  rw [hd a, hd b, hl, h3]
theorem natV_inj {a b : Nat} : natV a = natV b ↔ a = b := by
  constructor
  · intro h
    injection h with h
    have h1 := congrArg (fun l : Array Value => l[0]?) h
    have h2 := congrArg (fun l : Array Value => l[1]?) h
    simp at h1 h2
    exact hs_inj h2 (by omega)
  · rintro rfl; rfl
end Go.Proofs.YtjdkbbggelpchaaDoor
