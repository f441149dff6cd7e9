/- The contract of the specification's Read. -/
import Derived.Test.YtjdkbbggelpchaaDoorSL
namespace Go.Proofs.YtjdkbbggelpchaaDoor
open Go.RowKit SD

set_option maxRecDepth 100000 in
set_option maxHeartbeats 2000000 in
theorem rread_raw (s X : ByteArray) (R : Bool) (w : World) (hs : s.size ≤ maxLen) (hR : D.isDec s.data.toList = R) (hX : (R = true → X = s) ∧ (R = false → X = ⟨#[48]⟩)) :
    Calls Tryd.prog 23 #[.string s] w fun e w' => e = .returned (.tuple #[.string X, .bool R]) ∧ w' = w := by
  unfold maxLen at hs
  have HR := mkHid hR
  have HX := mkHid hX
  clear hR hX
  by_cases h0 : s.toList = []
  · have HF : Hid (R = false) := mkHid (by rw [← HR.out, ← str_toList, h0]; rfl)
    have hz : s.size = 0 := by rw [← str_len, ← str_toList, h0]; rfl
    go_enter Tryd.func23, Tryd.ntmps23
    go_wp2
    go_ret2
    exact ⟨by rw [HX.out.2 HF.out, HF.out]; rfl, rfl⟩
  · have hpos : 0 < s.size := by
      have := List.length_pos_iff.2 h0
      rwa [str_toList, str_len] at this
    have hsz0 : ((s.size : Int) == 0) = false := by rw [beq_eq_false_iff_ne]; omega
    by_cases hsz : s.size ≤ 2000
    · have hsz' : ¬ (2000 : Int) < (s.size : Int) := by omega
      obtain ⟨c, hc⟩ : ∃ c, s[0] = c := ⟨_, rfl⟩
      have HH : Hid (s.data.toList.head? = some c) := mkHid (by
        rw [List.head?_eq_getElem?, List.getElem?_eq_getElem (by rw [str_len]; exact hpos), str_get s 0 hpos, hc])
      by_cases h1 : 1 < s.size
      · have h1' : (1 : Int) < (s.size : Int) := by omega
        by_cases h48 : (c.toNat : Int) = 48
        · have HF : Hid (R = false) := mkHid (by
            have hc48 : c = 48 := UInt8.toNat_inj.1 (by have : (48 : UInt8).toNat = 48 := rfl; omega)
            rw [← HR.out]
            refine D.isDec_zero (by rw [HH.out, hc48]) ?_
            intro e; have := congrArg List.length e; rw [str_len] at this; simp at this; omega)
          go_enter Tryd.func23, Tryd.ntmps23
          go_wp2
          go_ret2
          exact ⟨by rw [HX.out.2 HF.out, HF.out]; rfl, rfl⟩
        · have HT : Hid (s.data.toList.head? ≠ some 48 ∨ s.data.toList = [48]) := mkHid (.inl (by
            rw [HH.out]; intro e; injection e with e; subst e; exact h48 rfl))
          have h48' : ((c.toNat : Int) == 48) = false := by rw [beq_eq_false_iff_ne]; exact h48
          go_enter Tryd.func23, Tryd.ntmps23
          go_wp2
          go_loop [4] (fun iv => ∃ i : Nat, i ≤ s.size ∧ iv = .int .i64 i ∧ Hid (∀ j (_ : j < i) (h : j < s.size), D.isDig s[j] = true)) (fun iv => s.size - (intOf iv).toNat)
          case atStart => exact ⟨0, by omega, rfl, mkHid fun j hj _ => absurd hj (by omega)⟩
          case round =>
            obtain ⟨i, hi, rfl, H⟩ := hrel
            by_cases hlt : i < s.size
            · obtain ⟨d, hd⟩ : ∃ d, s[i] = d := ⟨_, rfl⟩
              have HDD := mkHid hd
              by_cases hd1 : (d.toNat : Int) < 48
              · have HF : Hid (R = false) := mkHid (by rw [← HR.out]; exact D.isDec_bad (c := s[i]) (by rw [← str_get s i hlt]; exact List.getElem_mem _) (by rw [HDD.out]; simp [D.isDig]; omega))
                go_wp2
                go_ret2
                exact ⟨by rw [HX.out.2 HF.out, HF.out]; rfl, rfl⟩
              · by_cases hd2 : (57 : Int) < d.toNat
                · have HF : Hid (R = false) := mkHid (by rw [← HR.out]; exact D.isDec_bad (c := s[i]) (by rw [← str_get s i hlt]; exact List.getElem_mem _) (by rw [HDD.out]; simp [D.isDig]; omega))
                  go_wp2
                  go_ret2
                  exact ⟨by rw [HX.out.2 HF.out, HF.out]; rfl, rfl⟩
                · go_wp2
                  go_round
                  case rel => exact ⟨i + 1, by omega, by go_num, mkHid fun j hj h => by
                    by_cases e : j = i
                    · subst e; rw [HDD.out]; simp [D.isDig]; omega
                    · exact H.out j (by omega) h⟩
                  case measure => simp [intOf]; omega
            · have hie : i = s.size := by omega
              subst hie
              have HF : Hid (R = true) := mkHid (by
                rw [← HR.out]
                refine D.isDec_ok (by rw [← str_toList]; exact h0) (by rw [str_len]; omega) HT.out ?_
                rw [List.all_eq_true]
                intro x hx
                obtain ⟨j, hj, rfl⟩ := List.getElem_of_mem hx
                rw [str_len] at hj
                rw [str_get s j hj]
                exact H.out j hj hj)
              go_wp2
              go_ret2
              exact ⟨by rw [HX.out.1 HF.out, HF.out]; rfl, rfl⟩
      · have h1' : ¬ (1 : Int) < (s.size : Int) := by omega
        have hs1 : s.size = 1 := by omega
        have HT : Hid (s.data.toList.head? ≠ some 48 ∨ s.data.toList = [48]) := mkHid (by
          by_cases hc48 : c = 48
          · right
            have e := HH.out
            have hl : s.data.toList.length = 1 := by rw [str_len]; exact hs1
            obtain ⟨y, hy⟩ := List.length_eq_one_iff.1 hl
            rw [hy] at e ⊢
            simp at e
            rw [e, hc48]
          · left; rw [HH.out]; intro e; injection e with e; exact hc48 e)
        clear hs1 hc
        go_enter Tryd.func23, Tryd.ntmps23
        go_wp2
        go_loop [4] (fun iv => ∃ i : Nat, i ≤ s.size ∧ iv = .int .i64 i ∧ Hid (∀ j (_ : j < i) (h : j < s.size), D.isDig s[j] = true)) (fun iv => s.size - (intOf iv).toNat)
        case atStart => exact ⟨0, by omega, rfl, mkHid fun j hj _ => absurd hj (by omega)⟩
        case round =>
          obtain ⟨i, hi, rfl, H⟩ := hrel
          by_cases hlt : i < s.size
          · obtain ⟨d, hd⟩ : ∃ d, s[i] = d := ⟨_, rfl⟩
            have HDD := mkHid hd
            by_cases hd1 : (d.toNat : Int) < 48
            · have HF : Hid (R = false) := mkHid (by rw [← HR.out]; exact D.isDec_bad (c := s[i]) (by rw [← str_get s i hlt]; exact List.getElem_mem _) (by rw [HDD.out]; simp [D.isDig]; omega))
              go_wp2
              go_ret2
              exact ⟨by rw [HX.out.2 HF.out, HF.out]; rfl, rfl⟩
            · by_cases hd2 : (57 : Int) < d.toNat
              · have HF : Hid (R = false) := mkHid (by rw [← HR.out]; exact D.isDec_bad (c := s[i]) (by rw [← str_get s i hlt]; exact List.getElem_mem _) (by rw [HDD.out]; simp [D.isDig]; omega))
                go_wp2
                go_ret2
                exact ⟨by rw [HX.out.2 HF.out, HF.out]; rfl, rfl⟩
              · go_wp2
                go_round
                case rel => exact ⟨i + 1, by omega, by go_num, mkHid fun j hj h => by
                  by_cases e : j = i
                  · subst e; rw [HDD.out]; simp [D.isDig]; omega
                  · exact H.out j (by omega) h⟩
                case measure => simp [intOf]; omega
          · have hie : i = s.size := by omega
            subst hie
            have HF : Hid (R = true) := mkHid (by
              rw [← HR.out]
              refine D.isDec_ok (by rw [← str_toList]; exact h0) (by rw [str_len]; omega) HT.out ?_
              rw [List.all_eq_true]
              intro x hx
              obtain ⟨j, hj, rfl⟩ := List.getElem_of_mem hx
              rw [str_len] at hj
              rw [str_get s j hj]
              exact H.out j hj hj)
            go_wp2
            go_ret2
            exact ⟨by rw [HX.out.1 HF.out, HF.out]; rfl, rfl⟩
    · have hsz' : (2000 : Int) < (s.size : Int) := by omega
      have HF : Hid (R = false) := mkHid (by rw [← HR.out]; exact D.isDec_long (by rw [str_len]; omega))
      go_enter Tryd.func23, Tryd.ntmps23
      go_wp2
      go_ret2
      exact ⟨by rw [HX.out.2 HF.out, HF.out]; rfl, rfl⟩

theorem rread_ok (s : ByteArray) (w : World) (hs : s.size ≤ maxLen) (h : D.isDec s.data.toList = true) :
    Calls Tryd.prog 23 #[.string s] w fun e w' => e = .returned (.tuple #[.string s, .bool true]) ∧ w' = w := rread_raw s s true w hs h ⟨fun _ => rfl, fun h => by cases h⟩
theorem rread_bad (s : ByteArray) (w : World) (hs : s.size ≤ maxLen) (h : D.isDec s.data.toList = false) :
    Calls Tryd.prog 23 #[.string s] w fun e w' => e = .returned (.tuple #[.string ⟨#[48]⟩, .bool false]) ∧ w' = w := rread_raw s _ false w hs h ⟨fun h => (by cases h), fun _ => rfl⟩
end Go.Proofs.YtjdkbbggelpchaaDoor
