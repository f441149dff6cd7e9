/- The contract of isDecimal. -/
import Derived.Test.YtjdkbbggelpchaaDoorText2
import Derived.Test.YtjdkbbggelpchaaDoorPack
namespace Go.Proofs.YtjdkbbggelpchaaDoor
open Go.RowKit
namespace D
theorem isDec_nil : isDec [] = false := rfl
theorem isDec_long {l : List UInt8} (h : 2000 < l.length) : isDec l = false := by
  have : ¬ l.length ≤ 2000 := by omega
  simp [isDec, this]
theorem isDec_zero {l : List UInt8} (h : l.head? = some 48) (h2 : l ≠ [48]) : isDec l = false := by simp [isDec, h, h2]
theorem isDec_bad {l : List UInt8} {c : UInt8} (h : c ∈ l) (h2 : isDig c = false) : isDec l = false := by
  have : l.all isDig = false := by rw [List.all_eq_false]; exact ⟨c, h, by simp [h2]⟩
  unfold isDec; rw [this, Bool.and_false]
theorem isDec_ok {l : List UInt8} (h1 : l ≠ []) (h2 : l.length ≤ 2000) (h3 : l.head? ≠ some 48 ∨ l = [48]) (h4 : l.all isDig = true) : isDec l = true := by
  unfold isDec
  rw [h4, Bool.and_true]
  rcases h3 with h3 | h3
  · simp [h1, h2, h3]
  · subst h3; rfl
theorem isDec_facts {l : List UInt8} (h : isDec l = true) : l ≠ [] ∧ l.length ≤ 2000 ∧ l.all isDig = true := by
  simp only [isDec, Bool.and_eq_true, decide_eq_true_eq] at h
  exact ⟨by simpa using h.1.1.1, h.1.1.2, h.2⟩
end D
theorem str_len (s : ByteArray) : s.data.toList.length = s.size := by rw [Array.length_toList]; rfl
theorem str_get (s : ByteArray) (i : Nat) (h : i < s.size) : s.data.toList[i]'(by rw [str_len]; exact h) = s[i] := rfl
theorem str_toList (s : ByteArray) : s.toList = s.data.toList := by rw [ByteArray.toList_eq]

set_option maxRecDepth 100000 in
set_option maxHeartbeats 1000000 in
theorem isDecimal_any (s : ByteArray) (w : World) (hs : s.size ≤ maxLen) :
    Calls Tryd.prog 53 #[.string s] w fun e w' => e = .returned (.bool (D.isDec s.data.toList)) ∧ w = w' := by
  unfold maxLen at hs
  obtain ⟨R, hR⟩ : ∃ R, D.isDec s.data.toList = R := ⟨_, rfl⟩
  rw [hR]
  have HR := mkHid hR
  clear hR
  by_cases h0 : s.toList = []
  · have HF : Hid (R = false) := mkHid (by rw [← HR.out, ← str_toList, h0]; rfl)
    go_enter Tryd.func53, Tryd.ntmps53
    go_wp2
    go_ret
    exact ⟨by rw [HF.out]; rfl, rfl⟩
  · have hem : s.toList.isEmpty = false := by cases hc : s.toList with
      | nil => exact absurd hc h0
      | cons a t => rfl
    have hpos : 0 < s.size := by
      have := List.length_pos_iff.2 h0
      rwa [str_toList, str_len] at this
    by_cases hsz : s.size ≤ 2000
    · have hsz' : (s.size : Int) ≤ 2000 := by omega
      obtain ⟨c, hc⟩ : ∃ c, s[0] = c := ⟨_, rfl⟩
      have HH : Hid (s.data.toList.head? = some c) := mkHid (by
        rw [List.head?_eq_getElem?, List.getElem?_eq_getElem (by rw [str_len]; exact hpos), str_get s 0 hpos, hc])
      by_cases h48 : (c.toNat : Int) = 48
      · by_cases hone : (!s.toList == [48]) = true
        · have HF : Hid (R = false) := mkHid (by
            have hc48 : c = 48 := UInt8.toNat_inj.1 (by have : (48 : UInt8).toNat = 48 := rfl; omega)
            rw [← HR.out]
            refine D.isDec_zero (by rw [HH.out, hc48]) ?_
            rw [← str_toList]
            simpa using hone)
          go_enter Tryd.func53, Tryd.ntmps53
          go_wp2
          go_ret
          exact ⟨by rw [HF.out]; rfl, rfl⟩
        · have hone' : (!s.toList == [48]) = false := by simpa using hone
          have HT : Hid (s.data.toList.head? ≠ some 48 ∨ s.data.toList = [48]) := mkHid (.inr (by rw [← str_toList]; simpa using hone'))
          go_enter Tryd.func53, Tryd.ntmps53
          go_wp2
          go_loop [22] (fun iv => ∃ i : Nat, i ≤ s.size ∧ iv = .int .i64 i ∧ Hid (∀ j (_ : j < i) (h : j < s.size), D.isDig s[j] = true)) (fun iv => s.size - (intOf iv).toNat)
          case atStart => exact ⟨0, by omega, rfl, mkHid fun j hj _ => absurd hj (by omega)⟩
          case round =>
            obtain ⟨i, hi, rfl, H⟩ := hrel
            by_cases hlt : i < s.size
            · obtain ⟨d, hd⟩ : ∃ d, s[i] = d := ⟨_, rfl⟩
              have HDD := mkHid hd
              by_cases hd1 : (d.toNat : Int) < 48
              · have HF : Hid (R = false) := mkHid (by rw [← HR.out]; exact D.isDec_bad (c := s[i]) (by rw [← str_get s i hlt]; exact List.getElem_mem _) (by rw [HDD.out]; simp [D.isDig]; omega))
                go_wp2
                go_ret
                exact ⟨by rw [HF.out]; rfl, rfl⟩
              · by_cases hd2 : (57 : Int) < d.toNat
                · have HF : Hid (R = false) := mkHid (by rw [← HR.out]; exact D.isDec_bad (c := s[i]) (by rw [← str_get s i hlt]; exact List.getElem_mem _) (by rw [HDD.out]; simp [D.isDig]; omega))
                  go_wp2
                  go_ret
                  exact ⟨by rw [HF.out]; rfl, rfl⟩
                · go_wp2
                  go_round
                  case rel => exact ⟨i + 1, by omega, by go_num, mkHid fun j hj h => by
                    by_cases e : j = i
                    · subst e; rw [HDD.out]; simp [D.isDig]; omega
                    · exact H.out j (by omega) h⟩
                  case measure => simp [intOf]; omega
            · have hie : i = s.size := by omega
              subst hie
              have HF : Hid (R = true) := mkHid (by
                rw [← HR.out]
                refine D.isDec_ok (by rw [← str_toList]; exact h0) (by rw [str_len]; omega) HT.out ?_
                rw [List.all_eq_true]
                intro x hx
                obtain ⟨j, hj, rfl⟩ := List.getElem_of_mem hx
                rw [str_len] at hj
                rw [str_get s j hj]
                exact H.out j hj hj)
              go_wp2
              go_ret
              exact ⟨by rw [HF.out]; rfl, rfl⟩
      · have HT : Hid (s.data.toList.head? ≠ some 48 ∨ s.data.toList = [48]) := mkHid (.inl (by
          rw [HH.out]; intro e; injection e with e; subst e; exact h48 rfl))
        go_enter Tryd.func53, Tryd.ntmps53
        go_wp2
        go_loop [22] (fun iv => ∃ i : Nat, i ≤ s.size ∧ iv = .int .i64 i ∧ Hid (∀ j (_ : j < i) (h : j < s.size), D.isDig s[j] = true)) (fun iv => s.size - (intOf iv).toNat)
        case atStart => exact ⟨0, by omega, rfl, mkHid fun j hj _ => absurd hj (by omega)⟩
        case round =>
          obtain ⟨i, hi, rfl, H⟩ := hrel
          by_cases hlt : i < s.size
          · obtain ⟨d, hd⟩ : ∃ d, s[i] = d := ⟨_, rfl⟩
            have HDD := mkHid hd
            by_cases hd1 : (d.toNat : Int) < 48
            · have HF : Hid (R = false) := mkHid (by rw [← HR.out]; exact D.isDec_bad (c := s[i]) (by rw [← str_get s i hlt]; exact List.getElem_mem _) (by rw [HDD.out]; simp [D.isDig]; omega))
              go_wp2
              go_ret
              exact ⟨by rw [HF.out]; rfl, rfl⟩
            · by_cases hd2 : (57 : Int) < d.toNat
              · have HF : Hid (R = false) := mkHid (by rw [← HR.out]; exact D.isDec_bad (c := s[i]) (by rw [← str_get s i hlt]; exact List.getElem_mem _) (by rw [HDD.out]; simp [D.isDig]; omega))
                go_wp2
                go_ret
                exact ⟨by rw [HF.out]; rfl, rfl⟩
              · go_wp2
                go_round
                case rel => exact ⟨i + 1, by omega, by go_num, mkHid fun j hj h => by
                  by_cases e : j = i
                  · subst e; rw [HDD.out]; simp [D.isDig]; omega
                  · exact H.out j (by omega) h⟩
                case measure => simp [intOf]; omega
          · have hie : i = s.size := by omega
            subst hie
            have HF : Hid (R = true) := mkHid (by
              rw [← HR.out]
              refine D.isDec_ok (by rw [← str_toList]; exact h0) (by rw [str_len]; omega) HT.out ?_
              rw [List.all_eq_true]
              intro x hx
              obtain ⟨j, hj, rfl⟩ := List.getElem_of_mem hx
              rw [str_len] at hj
              rw [str_get s j hj]
              exact H.out j hj hj)
            go_wp2
            go_ret
            exact ⟨by rw [HF.out]; rfl, rfl⟩
    · have hsz' : ¬ (s.size : Int) ≤ 2000 := by omega
      have HF : Hid (R = false) := mkHid (by rw [← HR.out]; exact D.isDec_long (by rw [str_len]; omega))
      go_enter Tryd.func53, Tryd.ntmps53
      go_wp2
      all_goals
        go_ret
        exact ⟨by rw [HF.out]; rfl, rfl⟩
end Go.Proofs.YtjdkbbggelpchaaDoor
