/- Contracts of the specification's Words, and of the laws' number and is. -/
import Derived.Test.YtjdkbbggelpchaaDoorSK
import Derived.Test.YtjdkbbggelpchaaDoorV32
namespace Go.Proofs.YtjdkbbggelpchaaDoor
open Go.RowKit SD

theorem nd_words (l : List Nat) (h : ∀ x ∈ l, x < 4294967296) (hl : l.length ≤ 24) : Lib.nDigits (v32 l) ≤ 241 := by
  refine D.nDigits_le 240 _ (Nat.lt_of_lt_of_le (v32_lt l h) (Nat.le_trans (Nat.pow_le_pow_right (by omega) hl) ?_))
  decide
theorem ds_2_32 : ds 4294967296 = ⟨#[52, 50, 57, 52, 57, 54, 55, 50, 57, 54]⟩ := by kernel_rfl
theorem ds_zero : ds 0 = ⟨#[48]⟩ := by kernel_rfl

set_option maxRecDepth 100000 in
set_option maxHeartbeats 2000000 in
theorem words_nil (ao : Option Addr) (cap : Nat) (w : World) : Calls Tryd.prog 34 #[.slice ao 0 cap] w fun e w' => e = .returned (.string (ds 0)) ∧ Below w.heap.size w w' := by
  rw [ds_zero]
  go_enter Tryd.func34, Tryd.ntmps34
  go_wp2
  refine wp_loop_rounds 1 ?_
  rw [rounds_succ]
  go_wp2
  go_ret
  exact ⟨rfl, Below.refl _ _⟩

set_option maxRecDepth 100000 in
set_option maxHeartbeats 4000000 in
theorem words_some (l : List Nat) (b off cap : Nat) (w : World) (hl : ∀ x ∈ l, x < 4294967296) (hcells : ∀ j (x : Nat), l[j]? = some x → w.cell? ⟨b, off + j, none⟩ = some (.int .u32 (x : Int)))
    (h24 : l.length ≤ 24) :
    Calls Tryd.prog 34 #[.slice (some ⟨b, off, none⟩) l.length cap] w fun e w' => e = .returned (.string (ds (v32 l))) ∧ Below w.heap.size w w' := by
  have HC := mkHid hcells
  have HLT := mkHid hl
  have HND := mkHid (fun k => nd_words (l.drop k) (fun x hx => hl x (List.mem_of_mem_drop hx)) (by simp; omega))
  clear hl hcells
  go_enter Tryd.func34, Tryd.ntmps34
  go_wp2
  go_loopw [3, 4] (fun sv iv wr => ∃ k : Nat, k ≤ l.length ∧ iv = .int .i64 ((k : Int) - 1) ∧ sv = .string (ds (v32 (l.drop k))) ∧ Hid (Below w.heap.size w wr)) (fun _ iv _ => (intOf iv + 1).toNat)
  case atStart => exact ⟨l.length, Nat.le_refl _, rfl, by rw [List.drop_length]; exact congrArg _ ds_zero.symm, mkHid (Below.refl _ _)⟩
  case round =>
    obtain ⟨k, hk, rfl, rfl, H⟩ := hrel
    rcases Nat.eq_zero_or_pos k with h0 | h0
    · subst h0
      rw [List.drop_zero]
      go_wp2
      go_ret
      exact ⟨rfl, H.out⟩
    · obtain ⟨j, rfl⟩ : ∃ j, k = j + 1 := ⟨k - 1, by omega⟩
      obtain ⟨x, hx⟩ : ∃ x, l[j]? = some x := ⟨l[j]'(by omega), List.getElem?_eq_getElem (by omega)⟩
      have hx32 := HLT.out x (List.mem_of_getElem? hx)
      have hcx : wr.cell? ⟨b, off + j, none⟩ = some (.int .u32 (x : Int)) := St.cell H.out (HC.out j x hx)
      have HV := mkHid (v32_drop hx)
      have HX := mkHid (HC.out j x hx)
      have CM := mkHid (fun W => smul_any (v32 (l.drop (j + 1))) 4294967296 W (by have := HND.out (j + 1); omega) (by have : Lib.nDigits 4294967296 ≤ 10 := D.nDigits_le 9 _ (by decide); omega))
      have CO := mkHid (fun W => sof_any x W (by omega))
      have hm : v32 (l.drop (j + 1)) * 4294967296 ≤ v32 (l.drop j) := by rw [HV.out]; omega
      have hxl : x ≤ v32 (l.drop j) := by rw [HV.out]; omega
      have CA := mkHid (fun W => sadd_any (v32 (l.drop (j + 1)) * 4294967296) x W (by have := HND.out j; have := nDigits_mono _ _ hm; omega) (by have := HND.out j; have := nDigits_mono _ _ hxl; omega))
      rw [← HV.out] at CA
      rw [ds_2_32] at CM
      have hji : ((j + 1 : Nat) : Int) - 1 = (j : Int) := by omega
      rw [hji]
      have hw64 : IntKind.u64.wrap (x : Int) = (x : Int) := by rw [IntKind.wrap_u64]; omega
      have hj0 : (0 : Int) ≤ (j : Int) := by omega
      have hj1 : (j : Int) < (l.length : Int) := by omega
      clear hx hm hxl HV
      generalize hs1 : ds (v32 (l.drop (j + 1))) = s1 at *
      generalize hs2 : ds (v32 (l.drop (j + 1)) * 4294967296) = s2 at *
      generalize hs3 : ds x = s3 at *
      generalize hs4 : ds (v32 (l.drop j)) = s4 at *
      have HS4 := mkHid hs4
      clear hs1 hs2 hs3 hs4
      go_wp2_with fail
      go_region_with (first
        | (go_at_call 19; refine (CM.out _).mono ?_; rintro e w1 ⟨rfl, hb⟩; have HB1 := mkHid (below_trans (below_drew H.out 1) hb H.out.size); have hcx1 := St.cell hb (w' := w1) hcx; clear hb)
        | (go_at_call 26; refine (CO.out _).mono ?_; rintro e w2 ⟨rfl, hb⟩; have HB2 := mkHid (below_trans HB1.out hb HB1.out.size); clear hb)
        | (go_at_call 13; refine (CA.out _).mono ?_; rintro e w3 ⟨rfl, hb⟩; have HB3 := mkHid (below_trans HB2.out hb HB2.out.size); clear hb))
      all_goals
        go_wp2_with fail
        go_roundw
        case rel => exact ⟨j, by omega, by rfl, by rw [HS4.out], HB3⟩
        case measure => simp [intOf]

theorem words_g (v : Value) (l : List Nat) (w W : World) (hv : In32 w v l) (h24 : l.length ≤ 24) (hs : Below w.heap.size w W) :
    Calls Tryd.prog 34 #[v] W fun e w' => e = .returned (.string (ds (v32 l))) ∧ Below W.heap.size W w' := by
  obtain ⟨hl, h⟩ := hv.next hs
  rcases h with ⟨rfl, ao, cap, rfl⟩ | ⟨b, off, cap, rfl, h3⟩
  · exact words_nil ao cap W
  · exact words_some l b off cap W hl h3 h24

set_option maxRecDepth 100000 in
set_option maxHeartbeats 2000000 in
theorem number_g (v : Value) (l : List Nat) (w W : World) (hv : In32 w v l) (h24 : l.length ≤ 24) (hs : St w W) :
    Calls Tryd.prog 8 #[v] W fun e w' => e = .returned (.tuple #[nv (v32 l), .string (ds (v32 l))]) ∧ Below W.heap.size W w' := by
  have CW := mkHid (fun W' (h : St w W') => words_g v l w W' hv h24 h.below)
  have CR := mkHid (readn_g (v32 l) (by have := nd_words l hv.1 h24; omega))
  rw [show (⟨(Lib.decDigits (v32 l)).toArray⟩ : ByteArray) = ds (v32 l) from rfl] at CR
  have HS := mkHid (hs.alloc (.cells #[.int .u64 0, .string ⟨#[]⟩] 26))
  have HA := mkHid (At2.new W W.heap.size 0 ⟨#[]⟩ rfl)
  have HW0 := mkHid hs
  clear hv h24 hs
  unfold nv at CR ⊢
  generalize lo (v32 l) = a at *
  generalize hi (v32 l) = g at *
  generalize ds (v32 l) = s at *
  go_enter Tryd.func8, Tryd.ntmps8
  go_wp2_with (first
    | (go_at_call 34; refine (CW.out _ HS.out).mono ?_; rintro e w1 ⟨rfl, hb⟩; have HS1 := mkHid (HS.out.next hb); have HA1 := mkHid (HA.out.grows hb); have HB1 := mkHid hb; clear hb)
    | (go_at_call 22; refine (CR.out _ HS1.out.tabs HS1.out.six').mono ?_; rintro e w2 ⟨rfl, hb⟩; have HS2 := mkHid (HS1.out.next hb); have HA2 := mkHid (HA1.out.grows hb); have HB2 := mkHid hb; clear hb; obtain ⟨ha1, ha2, haf1, haf2⟩ := HA2.out.alloc (.cells #[.int .u64 (a : Int), .string g] 26)))
  refine bodyPost_ret (v := .tuple #[.agg #[.int .u64 (a : Int), .string g], .string s]) (by simp [results, Tryd.results8, go_sem, ha1, ha2]) rfl ⟨rfl, ?_⟩
  exact setCells_below ((((Below.refl W.heap.size W).alloc (Nat.le_refl _) _).trans (HB1.out.mono (by simp))).trans (HB2.out.mono (by have := HB1.out.size; simp at this; omega)) |>.alloc (by have := HB1.out.size; have := HB2.out.size; simp at *; omega) _) _ (Nat.le_refl _) _ _

set_option maxRecDepth 100000 in
set_option maxHeartbeats 1000000 in
theorem is_g (n : Nat) (h : Sm n) : Gives 11 #[nv n, .string (ds n)] (.bool true) := by
  intro W ht h6
  have CT := mkHid (text_g n h)
  rw [show (⟨(Lib.decDigits n).toArray⟩ : ByteArray) = ds n from rfl] at CT
  have HS := mkHid ((St.refl ht h6).alloc (.cells #[.int .u64 (lo n : Int), .string (hi n)] 26))
  clear h ht h6
  unfold nv at CT ⊢
  generalize lo n = a at *
  generalize hi n = g at *
  generalize ds n = s at *
  go_enter Tryd.func11, Tryd.ntmps11
  go_wp2_with (go_at_call 33; refine (CT.out _ HS.out.tabs HS.out.six').mono ?_; rintro e w2 ⟨rfl, hb⟩; have HS2 := mkHid (HS.out.next hb); clear hb)
  go_ret
  exact ⟨rfl, HS2.out.below⟩
end Go.Proofs.YtjdkbbggelpchaaDoor
