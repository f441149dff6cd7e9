/- The contract of words. -/
import Derived.Test.YtjdkbbggelpchaaDoorAppW
namespace Go.Proofs.YtjdkbbggelpchaaDoor
open Go.RowKit

/-- The words of a number, one at least. -/
def full (n : Nat) : List Nat := (n % M.B) :: (M.dig n).tail
theorem full_val (n : Nat) : M.val (full n) = n := by
  unfold full
  by_cases h0 : n = 0
  · subst h0; rw [M.dig_zero]; rfl
  · rw [M.val_cons, M.dig_pos h0, List.tail_cons, M.val_dig]; exact Nat.mod_add_div n M.B
theorem full_ok (n : Nat) : M.Ok (full n) := M.Ok.cons (Nat.mod_lt _ M.B_pos) fun x hx => M.ok_dig n x (List.mem_of_mem_tail hx)
theorem full_length (n : Nat) : (full n).length = (M.dig n).length - 1 + 1 := by simp [full]

theorem hb_get (l : List Nat) : ∀ (i k : Nat) (hi : i < l.length) (_ : k < 8), (l.flatMap be8)[8 * i + k]? = (be8 l[i])[k]? := by
  induction l with
  | nil => intro i k hi _; simp at hi
  | cons x l ih =>
    intro i k hi hk
    rw [List.flatMap_cons]
    cases i with
    | zero => rw [Nat.mul_zero, Nat.zero_add, List.getElem?_append_left (by rw [be8_length]; exact hk)]; rfl
    | succ i =>
      rw [List.getElem?_append_right (by rw [be8_length]; omega), be8_length, show 8 * (i + 1) + k - 8 = 8 * i + k by omega, ih i k (by simpa using hi) hk]
      rfl
theorem hs_get (n j : Nat) (h : j < (hs n).size) (h2 : j < (hb n).length) : (hs n)[j]'h = (hb n)[j]'h2 := rfl
theorem hs_begins (n i : Nat) (h : i < (M.dig n).length - 1) (x : Nat) (hx : (M.dig n).tail.reverse[i]'(by simp; omega) = x) : Begins ((hs n).extract (8 * i) (hs n).size) x := by
  have hsz := hs_size n
  have hes : ((hs n).extract (8 * i) (hs n).size).size = (hs n).size - 8 * i := by rw [ByteArray.size_extract]; omega
  refine ⟨by rw [hes, hsz]; omega, fun k hk h2 => ?_⟩
  have hb1 : 8 * i + k < (hb n).length := by rw [hb, flat_length]; simp; omega
  have e1 : ((hs n).extract (8 * i) (hs n).size)[k]'h2 = (hb n)[8 * i + k]'hb1 := by
    rw [ByteArray.getElem_extract]
    exact hs_get n _ _ _
  rw [e1]
  have e2 := hb_get (M.dig n).tail.reverse i k (by simp; omega) hk
  have e4 := List.getElem?_eq_getElem (l := be8 x) (i := k) (by rw [be8_length]; exact hk)
  rw [hx, e4] at e2
  have e3 : (hb n)[8 * i + k]? = some ((be8 x)[k]'(by rw [be8_length]; exact hk)) := e2
  rw [List.getElem?_eq_getElem hb1] at e3
  rw [Option.some.inj e3]
  exact be8_toNat x k hk

set_option maxRecDepth 100000 in
set_option maxHeartbeats 4000000 in
theorem words_any (n : Nat) (w : World) (hlen : (M.dig n).length ≤ 100000) :
    Calls Tryd.prog 36 #[natV n] w fun e w' => ∃ b cap, e = .returned (.slice (some ⟨b, 0, none⟩) (M.dig n).length cap) ∧ Hid (w.heap.size ≤ b ∧ Row w' b cap (M.dig n) ∧ Below w.heap.size w w' ∧ cap ≤ 100001) := by
  obtain ⟨m, hm⟩ : ∃ m, (M.dig n).length - 1 = m := ⟨_, rfl⟩
  have hsz : (hs n).size = 8 * m := by rw [hs_size, hm]
  have hmb : m ≤ 100000 := by omega
  have HBG : Hid (∀ i (_ : i < m) (x : Nat) (_ : (full n)[m - i]? = some x), Begins ((hs n).extract (8 * i) (hs n).size) x) := mkHid fun i hi x hx => by
    refine hs_begins n i (by omega) x ?_
    rw [List.getElem_reverse]
    have : (full n)[m - i]? = (M.dig n).tail[m - i - 1]? := by
      unfold full
      rw [show m - i = (m - i - 1) + 1 by omega, List.getElem?_cons_succ]
      rfl
    rw [this] at hx
    have hlt : m - i - 1 < (M.dig n).tail.length := by simp; omega
    rw [List.getElem?_eq_getElem hlt] at hx
    have hidx : (M.dig n).tail.length - 1 - i = m - i - 1 := by simp; omega
    simp only [hidx]
    exact Option.some.inj hx
  have FV := mkHid (full_val n)
  have FO := mkHid (full_ok n)
  have FL : Hid ((full n).length = m + 1) := mkHid (by rw [full_length, hm])
  have F0 : Hid ((full n)[0]? = some (n % M.B)) := mkHid rfl
  obtain ⟨lo, hlo⟩ : ∃ lo, n % M.B = lo := ⟨_, rfl⟩
  obtain ⟨hi, hhi⟩ : ∃ hi, hs n = hi := ⟨_, rfl⟩
  obtain ⟨fl, hfl⟩ : ∃ fl, full n = fl := ⟨_, rfl⟩
  unfold natV
  rw [hlo, hhi]
  rw [hlo] at F0
  rw [hhi] at hsz HBG
  rw [hfl] at FV FO FL F0 HBG
  clear hlo hhi hfl
  have hq : (hi.size : Int) / 8 = (m : Int) := by omega
  have hszb : (hi.size : Int) ≤ 9223372036854775807 := by omega
  have HSZ := mkHid hsz
  clear hsz
  obtain ⟨i0, hi0, hz0, hz1, hz2⟩ := info_parts info64
  have hi' := Lib.hid hi0; have hz0' := Lib.hid hz0; have hz1' := Lib.hid hz1; have hz2' := Lib.hid hz2; clear hi0 hz0 hz1 hz2
  have HM := mkHid hm
  clear hm
  go_enter Tryd.func36, Tryd.ntmps36
  go_wp2_with (at_make; refine wpList_make_full _ rfl _ _ 60 rfl (w.heap.size + 1) 24 i0 (.int .u64 0) 1 Tryd.underlying60 hi'.out hz0'.out hz1'.out _ _ _ _ (m + 1) rfl rfl (by omega) (by omega) ?bytes ?maxl ?base ?_)
  case bytes => rw [hz2'.out]; omega
  case maxl => unfold maxLen; omega
  case base => simp
  intro w1 hown hgrow
  have HR : Hid (Row w1 (w.heap.size + 1) (m + 1) (List.replicate (m + 1) 0)) := mkHid (by
    have h := hown
    have hsz2 : (w.alloc (.cells #[.int .u64 (lo : Int), .string hi] 26)).heap.size = w.heap.size + 1 := by simp
    rw [← hsz2] at h ⊢
    exact Row.made h (by omega))
  have HB1 : Hid (Below w.heap.size w w1) := mkHid (((Below.refl _ w).alloc (Nat.le_refl _) (.cells #[.int .u64 (lo : Int), .string hi] 26)).grown hgrow (by simp) (fun k hk => by cases hk))
  have hblk : w1.heap[w.heap.size]? = some (.cells #[.int .u64 (lo : Int), .string hi] 26 (0, 0)) := by
    rw [hgrow.block w.heap.size (by simp) (by simp)]; exact heap_alloc_new w _
  have hl0 : w1.cell? ⟨w.heap.size, 0, none⟩ = some (.int .u64 (lo : Int)) := by simp only [World.cell?, hblk]; rfl
  have hl1 : w1.cell? ⟨w.heap.size, 1, none⟩ = some (.string hi) := by simp only [World.cell?, hblk]; rfl
  have HBLK := mkHid hblk
  clear hown hgrow hblk hi' hz0' hz1' hz2'
  have hrep : List.replicate (m + 1) 0 = 0 :: List.replicate m 0 := List.replicate_succ
  rw [hrep] at HR
  clear hrep
  obtain ⟨hc0, hf0⟩ := (Words.atMid (p := []) (n := 0) HR.out.words rfl)
  rw [Nat.zero_add] at hc0 hf0
  have HS0 : Hid (Row (w1.setCell ⟨w.heap.size + 1, 0, none⟩ (.int .u64 (lo : Int))) (w.heap.size + 1) (m + 1) (lo :: List.replicate m 0)) := mkHid (by
    have h := Words.setMid (p := []) (n := 0) HR.out.words rfl lo
    rw [Nat.zero_add] at h
    exact HR.out.after ((Wr.refl _ _ 0 (m + 1)).setCell (Nat.zero_le _) (Nat.succ_pos _) _) h (by simp))
  have HB2 : Hid (Below (w.heap.size + 1) w1 (w1.setCell ⟨w.heap.size + 1, 0, none⟩ (.int .u64 (lo : Int)))) := mkHid ((Below.refl (w.heap.size + 1) w1).setCell (p := ⟨w.heap.size + 1, 0, none⟩) (Nat.le_refl _) _)
  have H0 : Hid (∀ wr, Below (w.heap.size + 1) w1 wr → wr.cell? ⟨w.heap.size, 1, none⟩ = some (.string hi)) := mkHid fun wr h => by
    rw [h.cell (p := ⟨w.heap.size, 1, none⟩) (Nat.lt_succ_self _)]
    simp only [World.cell?, HBLK.out]; rfl
  have HFL : Hid (fl = lo :: fl.drop 1) := mkHid (by
    have h1 := F0.out
    cases fl with
    | nil => simp at h1
    | cons a t => simp at h1; rw [h1]; rfl)
  go_wp2
  clear hl0 hl1 hc0 hf0
  go_loopw [18] (fun iv wr => ∃ i : Nat, i ≤ m ∧ iv = .int .i64 i ∧ Hid (Row wr (w.heap.size + 1) (m + 1) (lo :: (List.replicate (m - i) 0 ++ fl.drop (m - i + 1))) ∧ Below (w.heap.size + 1) w1 wr))
    (fun iv _ => m - (intOf iv).toNat)
  case atStart => exact ⟨0, Nat.zero_le _, rfl, by rw [Nat.sub_zero, List.drop_of_length_le (by rw [FL.out]; exact Nat.le_refl _), List.append_nil]; exact HS0.out, HB2.out⟩
  case round =>
    clear HS0 HB2
    obtain ⟨i, hi2, rfl, H⟩ := hrel
    by_cases hlt : i < m
    · obtain ⟨k, hk⟩ : ∃ k, m - i = k + 1 := ⟨m - i - 1, by omega⟩
      have hkl : Hid (k + 1 < fl.length) := mkHid (by rw [FL.out]; omega)
      obtain ⟨x, ex⟩ : ∃ x, fl[k + 1]'(hkl.out) = x := ⟨_, rfl⟩
      have BX : Hid (x < M.B) := mkHid (by rw [← ex]; exact FO.out.get hkl.out)
      have HD : Hid (fl.drop (k + 1) = x :: fl.drop (k + 2)) := mkHid (by rw [← ex]; exact List.drop_eq_getElem_cons hkl.out)
      have CL : Hid (∀ W, Calls Tryd.prog 57 #[.string (hi.extract (i * 8) hi.size)] W fun e w' => e = .returned (.int .u64 (x : Int)) ∧ ∃ n, w' = W.drewN n) := mkHid fun W => by
        have h1 := HBG.out i hlt x (by rw [hk, List.getElem?_eq_getElem hkl.out, ex])
        rw [Nat.mul_comm] at h1
        exact loadWord_any _ x W h1 BX.out (by rw [ByteArray.size_extract]; omega)
      have HW : Hid (Words wr (w.heap.size + 1) 0 ((lo :: List.replicate k 0) ++ 0 :: fl.drop (k + 2))) := mkHid (by
        have h := H.out.1.words
        rw [hk, List.replicate_succ', List.append_assoc] at h
        exact h)
      obtain ⟨hc1, hf1⟩ := HW.out.atMid (n := m - i) (by rw [hk]; simp)
      rw [Nat.zero_add] at hc1 hf1
      have hl1 := H0.out _ H.out.2
      have HK := mkHid hk
      have hi8 : (i : Int) * 8 ≤ (hi.size : Int) := by rw [HSZ.out]; omega
      clear hk ex
      go_wp2_with (go_at_call 57; refine (CL.out _).mono ?_; rintro e w2 ⟨rfl, nn, rfl⟩)
      go_roundw
      case measure => simp [intOf]; omega
      case rel =>
        have h := HW.out.setMid (n := m - i) (by rw [HK.out]; simp) x
        rw [Nat.zero_add] at h
        have hk2 := HK.out
        have e1 : (lo :: List.replicate k 0) ++ x :: fl.drop (k + 2) = lo :: (List.replicate (m - (i + 1)) 0 ++ fl.drop (m - (i + 1) + 1)) := by
          rw [show m - (i + 1) = k by omega, HD.out]; rfl
        rw [e1] at h
        refine ⟨i + 1, hlt, by go_num, mkHid ⟨?_, ?_⟩⟩
        · exact H.out.1.after (((Wr.refl _ _ 0 (m + 1)).drewN nn).setCell (Nat.zero_le _) (by omega) _) (h : Words ((wr.setCell _ _).drewN nn) _ _ _) (by simp [FL.out])
        · exact (H.out.2.setCell (p := ⟨w.heap.size + 1, m - i, none⟩) (Nat.le_refl _) _ : Below (w.heap.size + 1) w1 (wr.setCell _ _)).trans ⟨rfl, rfl, rfl, Nat.le_refl _, fun _ _ => rfl⟩
    · have hie : i = m := by omega
      subst hie
      have HR2 : Hid (Row wr (w.heap.size + 1) (i + 1) fl) := mkHid (by
        have h := H.out.1
        rw [Nat.sub_self] at h
        rw [HFL.out]; exact h)
      have CT := mkHid (trim_any (w.heap.size + 1) 0 (i + 1) fl wr (by unfold maxLen; omega) (by rw [FL.out]; exact Nat.le_refl _) FO.out HR2.out.words)
      rw [FL.out, FV.out] at CT
      go_wp2_with (go_at_call 54; refine CT.out.mono ?_; rintro e w2 ⟨rfl, rfl⟩)
      go_ret
      refine ⟨w.heap.size + 1, i + 1, rfl, mkHid ⟨by omega, ?_, HB1.out.trans (H.out.2.mono (Nat.le_succ _)), by omega⟩⟩
      have hp : M.dig n = fl.take (M.dig n).length := by
        have := M.dig_prefix FO.out
        rwa [FV.out] at this
      rw [hp]
      exact HR2.out.take _
end Go.Proofs.YtjdkbbggelpchaaDoor
