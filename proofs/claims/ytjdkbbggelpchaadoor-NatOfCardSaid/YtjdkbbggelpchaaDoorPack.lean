/- The contracts of Of and pack. -/
import Derived.Test.YtjdkbbggelpchaaDoorAppW
namespace Go.Proofs.YtjdkbbggelpchaaDoor
open Go.RowKit

set_option maxHeartbeats 400000 in
theorem of_any (n : Nat) (w : World) (h : n < M.B) :
    Calls Tryd.prog 24 #[.int .u64 n] w fun e w' => e = .returned (natV n) ∧ Below w.heap.size w w' := by
  have e1 : n % M.B = n := Nat.mod_eq_of_lt h
  unfold natV
  rw [e1, hs_small h]
  clear e1 h
  go_enter Tryd.func24, Tryd.ntmps24
  go_wp2
  refine bodyPost_ret (v := .agg #[.int .u64 (n : Int), .string ⟨#[]⟩]) (by simp [results, Tryd.results24, go_sem]) rfl ⟨rfl, ?_⟩
  exact ((Below.refl _ _).alloc (Nat.le_refl _) _)

theorem ownsRow_cells {w : World} {base n : Nat} {v : Value} {l : List UInt8} (h : w.ownsRow base 5 1 v n (bv l)) (hn : 0 < n) :
    ∃ b cap, v = .slice (some ⟨b, 0, none⟩) n cap ∧ n = l.length ∧ ∀ i, i < n → w.cell? ⟨b, 0 + i, none⟩ = some (.int .u8 ((l.map fun b : UInt8 => (b.toNat : Int)).getD i 0)) := by
  obtain ⟨h1, h2⟩ := h
  rcases h2 with ⟨_, h2⟩ | ⟨g, cap, cur, rfl, hb, hg, hc, hm, hs, ht⟩
  · omega
  · have hl : n = l.length := by simpa [bv] using h1.symm
    refine ⟨g, cap, rfl, hl, fun i hi => ?_⟩
    simp only [World.cell?, hg, Nat.zero_add]
    have := congrArg (fun l => l[i]?) ht
    simp only [Nat.mul_one, bv, List.getElem?_map] at this
    rw [List.getElem?_take_of_lt (by omega)] at this
    have hil : i < l.length := by omega
    rw [List.getElem?_eq_getElem hil] at this
    simp only [Option.isSome_none, Bool.false_eq_true, if_false]
    rw [List.getD_eq_getElem?_getD, List.getElem?_map, List.getElem?_eq_getElem hil]
    simpa using this
theorem strOf (l : List UInt8) : strOfNums (l.map fun b : UInt8 => (b.toNat : Int)) = ⟨l.toArray⟩ := by
  unfold strOfNums
  congr 1
  rw [List.map_map]
  have : ((fun n : Int => UInt8.ofNat n.toNat) ∘ fun b : UInt8 => (b.toNat : Int)) = id := by
    funext b; simp
  rw [this, List.map_id]

theorem rev_take : ∀ (l : List Nat), l.reverse.take (l.length - 1) = l.tail.reverse
  | [] => rfl
  | x :: t => by
    rw [List.reverse_cons, List.tail_cons, List.length_cons, Nat.add_sub_cancel, List.take_append_of_le_length (by simp), List.take_of_length_le (by simp)]
theorem flat_succ (l : List Nat) (i : Nat) (h : i < l.length) : bv ((l.take (i + 1)).flatMap be8) = bv ((l.take i).flatMap be8) ++ bv (be8 l[i]) := by
  rw [bv_append, List.take_succ_eq_append_getElem h, List.flatMap_append]; simp

theorem old_cells {W w1 : World} (hb : Below W.heap.size W w1) : (∀ b o, b < W.heap.size → w1.cell? ⟨b, o, none⟩ = W.cell? ⟨b, o, none⟩) ∧ (∀ b o, b < W.heap.size → w1.frozen? ⟨b, o, none⟩ = W.frozen? ⟨b, o, none⟩) :=
  ⟨fun b o h => hb.cell (p := ⟨b, o, none⟩) h, fun b o h => hb.frozen (p := ⟨b, o, none⟩) h⟩

set_option maxRecDepth 100000 in
set_option maxHeartbeats 1000000 in
theorem pack_small (b cap : Nat) (l : List Nat) (w : World) (hw : Row w b cap l) (hlen : l.length ≤ 100000) (okl : M.Ok l) (hv : M.val l < M.B) :
    Calls Tryd.prog 38 #[.slice (some ⟨b, 0, none⟩) l.length cap] w fun e w' => e = .returned (natV (M.val l)) ∧ Below w.heap.size w w' := by
  have HW := Lib.hid hw; clear hw
  have OL := Lib.hid okl; clear okl
  have CT : Hid (∀ W, Below w.heap.size w W → Calls Tryd.prog 54 #[.slice (some ⟨b, 0, none⟩) l.length cap] W fun e w' => e = .returned (.slice (some ⟨b, 0, none⟩) (M.dig (M.val l)).length cap) ∧ W = w') := mkHid fun W hW =>
    trim_any b 0 cap l W HW.out.cap.1 HW.out.cap.2 OL.out (HW.out.words.grows hW)
  by_cases h0 : M.val l = 0
  · rw [h0, M.dig_zero] at CT
    rw [h0]
    have e2 : hs 0 = ⟨#[]⟩ := hs_small M.B_pos
    have e3 : (0 : Nat) % M.B = 0 := Nat.zero_mod _
    unfold natV
    rw [e2, e3]
    clear e2 e3 h0 hv
    simp only [List.length_nil] at CT
    go_enter Tryd.func38, Tryd.ntmps38
    go_wp2_with (go_at_call 54; refine (CT.out _ ((Below.refl _ _).alloc (Nat.le_refl _) _)).mono ?_; rintro e w' ⟨rfl, rfl⟩)
    refine bodyPost_ret (v := .agg #[.int .u64 ((0 : Nat) : Int), .string ⟨#[]⟩]) (by simp [results, Tryd.results38, go_sem]) rfl ⟨rfl, ?_⟩
    exact ((Below.refl _ _).alloc (Nat.le_refl _) _)
  · have hd := M.dig_small h0 hv
    rw [hd] at CT
    simp only [List.length_cons, List.length_nil, Nat.zero_add] at CT
    have hp := M.dig_prefix OL.out
    rw [hd] at hp
    have hl : 0 < l.length := by
      cases l with
      | nil => simp at h0
      | cons a t => simp
    have hcell : Hid (∀ W, Below w.heap.size w W → W.cell? ⟨b, 0, none⟩ = some (.int .u64 ((M.val l : Nat) : Int))) := mkHid fun W hW => by
      have h1 := ((HW.out.words.grows hW) 0 hl).1
      have h2 : l[0] = M.val l := by
        have := congrArg (fun l => l[0]?) hp
        simp only [List.length_cons, List.length_nil, Nat.zero_add, List.getElem?_cons_zero] at this
        rw [List.getElem?_take_of_lt (by omega), List.getElem?_eq_getElem hl] at this
        exact (Option.some.inj this).symm
      rw [h2] at h1
      exact h1
    have CO := mkHid (fun W => of_any (M.val l) W hv)
    unfold natV at CO ⊢
    clear hp hd
    generalize M.val l % M.B = lo at *
    generalize hs (M.val l) = hi at *
    generalize M.val l = v at *
    have hc1 := hcell.out _ ((Below.refl _ w).alloc (Nat.le_refl _) (.cells #[.int .u64 0, .string ⟨#[]⟩] 26))
    go_enter Tryd.func38, Tryd.ntmps38
    go_wp2_with (go_at_call 54; refine (CT.out _ ((Below.refl _ _).alloc (Nat.le_refl _) _)).mono ?_; rintro e w' ⟨rfl, rfl⟩)
    refine (CO.out _).mono ?_
    rintro e w1 ⟨rfl, hb⟩
    obtain ⟨hc, hf⟩ := old_cells hb
    have HB := mkHid hb
    clear hb hc1
    go_wp2
    refine bodyPost_ret (v := .agg #[.int .u64 (lo : Int), .string hi]) (by simp [results, Tryd.results38, go_sem, hc]) rfl ⟨rfl, ?_⟩
    have h1 := ((Below.refl w.heap.size w).alloc (Nat.le_refl _) (.cells #[.int .u64 0, .string ⟨#[]⟩] 26)).trans (HB.out.mono (by simp))
    exact (h1.setCell (p := ⟨w.heap.size, 0, none⟩) (Nat.le_refl _) _).setCell (p := ⟨w.heap.size, 1, none⟩) (Nat.le_refl _) _

set_option maxRecDepth 100000 in
set_option maxHeartbeats 2000000 in
theorem pack_large (b cap : Nat) (l : List Nat) (w : World) (hw : Row w b cap l) (hlen : l.length ≤ 100000) (okl : M.Ok l) (hv : M.B ≤ M.val l) :
    Calls Tryd.prog 38 #[.slice (some ⟨b, 0, none⟩) l.length cap] w fun e w' => e = .returned (natV (M.val l)) ∧ Below w.heap.size w w' := by
  have HW := Lib.hid hw; clear hw
  have OL := Lib.hid okl; clear okl
  have CT : Hid (∀ W, Below w.heap.size w W → Calls Tryd.prog 54 #[.slice (some ⟨b, 0, none⟩) l.length cap] W fun e w' => e = .returned (.slice (some ⟨b, 0, none⟩) (M.dig (M.val l)).length cap) ∧ W = w') := mkHid fun W hW =>
    trim_any b 0 cap l W HW.out.cap.1 HW.out.cap.2 OL.out (HW.out.words.grows hW)
  have hp := M.dig_prefix OL.out
  have h2 := M.le_dig_length (n := M.val l) (k := 1) (by rw [Nat.pow_one]; exact hv)
  have h3 := M.dig_length_val OL.out
  have HD : Hid (Words w b 0 (M.dig (M.val l))) := mkHid (by rw [hp]; exact HW.out.words.take _)
  have HBV : Hid (bv (((M.dig (M.val l)).reverse.take ((M.dig (M.val l)).length - 1)).flatMap be8) = bv (hb (M.val l))) := mkHid (by
    unfold hb
    rw [rev_take])
  have HLO : Hid ((M.dig (M.val l))[0]? = some (M.val l % M.B)) := mkHid (by rw [M.dig_pos (by have := M.B_pos; omega)]; rfl)
  obtain ⟨m, hm⟩ : ∃ m, (M.dig (M.val l)).length = m + 2 := ⟨(M.dig (M.val l)).length - 2, by omega⟩
  rw [hm] at CT HBV
  have hmb : m ≤ 100000 := by omega
  have HM := mkHid hm
  unfold natV
  have HHS : Hid (hs (M.val l) = ⟨(hb (M.val l)).toArray⟩) := mkHid rfl
  have HHL : Hid ((hb (M.val l)).length = 8 * (m + 1)) := mkHid (by rw [hb, flat_length]; simp; omega)
  clear hp h2 h3 hm
  generalize hb (M.val l) = bytes at *
  generalize hs (M.val l) = hi at *
  generalize M.val l % M.B = lo at *
  generalize M.dig (M.val l) = ds at *
  obtain ⟨i0, hi0, hz0, hz1, hz2⟩ := info_parts info8
  have hi' := Lib.hid hi0; have hz0' := Lib.hid hz0; have hz1' := Lib.hid hz1; have hz2' := Lib.hid hz2; clear hi0 hz0 hz1 hz2
  have hm1 : (m : Int) + 2 - 1 = (m : Int) + 1 := by omega
  go_enter Tryd.func38, Tryd.ntmps38
  go_wp2_with (first | (go_at_call 54; refine (CT.out _ ((Below.refl _ _).alloc (Nat.le_refl _) _)).mono ?_; rintro e w' ⟨rfl, rfl⟩) | (at_make; refine wpList_make_own _ rfl _ _ 88 rfl (w.heap.size + 1) 5 i0 (.int .u8 0) 1 Tryd.underlying88 hi'.out hz0'.out hz1'.out _ _ _ ((m + 1) * 8) rfl rfl (by omega) ?bytes ?maxl ?base ?_))
  case bytes => rw [hz2'.out]; omega
  case maxl => unfold maxLen; omega
  case base => simp
  intro w1 hown hgrow
  have hblk : w1.heap[w.heap.size]? = some (.cells #[.int .u64 0, .string ⟨#[]⟩] 26 (0, 0)) := by
    rw [hgrow.block w.heap.size (by simp) (by simp)]; exact heap_alloc_new w _
  have HBLK := mkHid hblk
  have HB1 : Hid (Below w.heap.size w w1) := mkHid (((Below.refl _ w).alloc (Nat.le_refl _) (.cells #[.int .u64 0, .string ⟨#[]⟩] 26)).grown hgrow (by simp) (fun k hk => by cases hk))
  have HS1 : Hid (w.heap.size + 1 ≤ w1.heap.size) := mkHid (by have := hgrow.size; simpa using this)
  have HO := mkHid hown
  clear hown hgrow hblk hi' hz0' hz1' hz2'
  have HC : Hid (∀ W, Below (w.heap.size + 1) w1 W → ∀ o v, (#[.int .u64 0, .string ⟨#[]⟩] : Array Value)[o]? = some v → W.cell? ⟨w.heap.size, o, none⟩ = some v ∧ W.frozen? ⟨w.heap.size, o, none⟩ = false) := mkHid fun W hW o v ho => by
    have hb := (hW.block w.heap.size (Nat.lt_succ_self _)).trans HBLK.out
    constructor
    · simp only [World.cell?, hb]; exact ho
    · simp [World.frozen?, hb]
  go_wp2
  go_loopw [3, 26] (fun bvv iv wr => ∃ i : Nat, i ≤ m + 1 ∧ iv = .int .i64 i ∧ Hid (wr.ownsRow (w.heap.size + 1) 5 1 bvv (8 * i) (bv ((ds.reverse.take i).flatMap be8)) ∧ Below (w.heap.size + 1) w1 wr))
    (fun _ iv _ => m + 1 - (intOf iv).toNat)
  case atStart => exact ⟨0, Nat.zero_le _, rfl, HO.out, Below.refl _ _⟩
  case round =>
    clear HO
    obtain ⟨i, hi2, rfl, H⟩ := hrel
    by_cases hlt : i < m + 1
    · have hk : m + 1 - i < ds.length := by rw [HM.out]; omega
      obtain ⟨x, ex⟩ : ∃ x, ds[m + 1 - i]'hk = x := ⟨_, rfl⟩
      have hir : i < ds.reverse.length := by rw [List.length_reverse, HM.out]; omega
      have hrx : ds.reverse[i]'hir = x := by
        rw [List.getElem_reverse, ← ex]
        congr 1
        rw [HM.out]; omega
      have HF := mkHid (flat_succ ds.reverse i hir)
      rw [hrx] at HF
      obtain ⟨hc, -⟩ := ((HD.out.grows HB1.out).below H.out.2 (by have h1 := HW.out.lt; omega)) (m + 1 - i) hk
      rw [ex, Nat.zero_add] at hc
      have CA := mkHid (appendWord_any (w.heap.size + 1) (8 * i) x u3 _ wr H.out.1 (by omega) (Nat.le_trans HS1.out H.out.2.size))
      clear ex hk hir hrx
      go_wp2_with fail
      refine CA.out.mono ?_
      clear CA
      rintro e w2 ⟨v', rfl, R⟩
      go_wp2
      go_roundw
      case measure => simp [intOf]; omega
      case rel => exact ⟨i + 1, by omega, by go_num, mkHid ⟨by rw [HF.out, Nat.mul_add, Nat.mul_one]; exact R.out.1, H.out.2.trans R.out.2⟩⟩
    · have hie : i = m + 1 := by omega
      subst hie
      have hown := H.out.1
      rw [show m + 1 = m + 2 - 1 from rfl, HBV.out, show m + 2 - 1 = m + 1 from rfl] at hown
      obtain ⟨g, gc, rfl, hgl, hgc⟩ := ownsRow_cells hown (by omega)
      have hconv := run_convert_bytes_arg (P := Tryd.prog) wr.drew 88 5 Tryd.underlying88 Tryd.underlying5 g 0 (8 * (m + 1)) gc (bytes.map fun b : UInt8 => (b.toNat : Int)) (by simp; omega) hgc 9 Tryd.underlying9
      rw [strOf, ← HHS.out] at hconv
      obtain ⟨hl0, -⟩ := ((HD.out.grows HB1.out).below H.out.2 (by have h1 := HW.out.lt; omega)) 0 (by rw [HM.out]; omega)
      have hds0 : ds[0]'(by rw [HM.out]; omega) = lo := by
        have := HLO.out
        rw [List.getElem?_eq_getElem (by rw [HM.out]; omega)] at this
        exact Option.some.inj this
      rw [hds0, Nat.add_zero] at hl0
      obtain ⟨hr0, hf0⟩ := HC.out wr H.out.2 0 _ rfl
      obtain ⟨hr1, hf1⟩ := HC.out wr H.out.2 1 _ rfl
      have HG := mkHid hown
      clear hown hgl hgc hds0
      go_wp2
      go_region
      go_wp2_with fail
      refine bodyPost_ret (v := .agg #[.int .u64 (lo : Int), .string hi]) (by simp [results, Tryd.results38, go_sem, hr0, hr1]) rfl ⟨rfl, ?_⟩
      have h1 : Below w.heap.size w wr := HB1.out.trans (H.out.2.mono (Nat.le_succ _))
      exact ((h1.setCell (p := ⟨w.heap.size, 0, none⟩) (Nat.le_refl _) _).setCell (p := ⟨w.heap.size, 1, none⟩) (Nat.le_refl _) _).drew

theorem pack_any (b cap : Nat) (l : List Nat) (w : World) (hw : Row w b cap l) (hlen : l.length ≤ 100000) (okl : M.Ok l) :
    Calls Tryd.prog 38 #[.slice (some ⟨b, 0, none⟩) l.length cap] w fun e w' => e = .returned (natV (M.val l)) ∧ Below w.heap.size w w' := by
  rcases Nat.lt_or_ge (M.val l) M.B with h | h
  · exact pack_small b cap l w hw hlen okl h
  · exact pack_large b cap l w hw hlen okl h
end Go.Proofs.YtjdkbbggelpchaaDoor
