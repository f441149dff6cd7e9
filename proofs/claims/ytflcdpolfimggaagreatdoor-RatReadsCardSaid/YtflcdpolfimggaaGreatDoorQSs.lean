/- Package rat: the specification reads as the document says. -/
import Derived.Test.YtflcdpolfimggaaGreatDoorQSr
namespace Go.Proofs.YtflcdpolfimggaaGreatDoor
open Go.RowKit Q SD

theorem bytes_of {a b : ByteArray} (h : a.data.toList = b.data.toList) : a = b := ByteArray.ext (Array.ext' h)
theorem ds_back (a : ByteArray) (h : D.isDec a.data.toList = true) : ds (D.dv a.data.toList) = a := bytes_of (dec_back _ h)
theorem at_slash (s : ByteArray) (i : Nat) (hi : i < s.size) (h4 : s.data.toList = s.data.toList.take i ++ 47 :: s.data.toList.drop (i + 1)) (h5 : ∀ c ∈ s.data.toList.take i, c ≠ 47) :
    s[i]'hi = 47 ∧ ∀ (j : Nat) (_ : j < i) (h : j < s.size), s[j]'h ≠ 47 := by
  have hl : s.data.toList.length = s.size := str_len s
  constructor
  · rw [← str_get s i hi]
    have e : s.data.toList[i]? = some 47 := by
      rw [h4, List.getElem?_append_right (by rw [List.length_take]; exact Nat.min_le_left _ _), List.length_take]
      simp [hl, Nat.min_eq_left (Nat.le_of_lt hi)]
    obtain ⟨_, e2⟩ := List.getElem?_eq_some_iff.1 e
    exact e2
  · intro j hj h
    rw [← str_get s j h]
    refine h5 _ (List.mem_iff_getElem?.2 ⟨j, ?_⟩)
    rw [List.getElem?_take_of_lt hj]
    exact List.getElem?_eq_getElem _
theorem sread_yes (s : ByteArray) (hs : s.size ≤ 1000) (h : accB s.data.toList = true) : ∃ p q, Lo p q ∧ Lib.nDigits p ≤ 2000 ∧ Lib.nDigits q ≤ 2000 ∧ s = tx p q ∧ Says 10 #[.string s] (.tuple #[sv p q, .bool true]) := by
  obtain ⟨p, q, lo, np, nq, e, ep, eq⟩ := acc_yes s h
  refine ⟨p, q, lo, np, nq, e, fun W => ?_⟩
  have hq0 := lo.1
  obtain ⟨s1, s2⟩ := lo_self lo
  have RN : ∀ W, Calls Tryz.prog 34 #[.string (ds p), .string (ds q)] W fun e w' => e = .returned (.tuple #[sv p q, .bool true]) ∧ Below W.heap.size W w' := fun W => by
    have := snew_pos p q W hq0 (by omega) (by omega)
    rwa [s1, s2] at this
  have RT : ∀ W, Calls Tryz.prog 35 #[sv p q] W fun e w' => e = .returned (.string s) ∧ Below W.heap.size W w' := fun W => by
    have := stext p q W (by omega) (by omega)
    rwa [← e] at this
  have hd : D.isDec (cutA s.data.toList) = true ∧ D.isDec (cutB s.data.toList) = true := by
    unfold accB at h
    simp only [Bool.and_eq_true] at h
    exact h.1
  rcases index_cases s with ⟨h2, h3⟩ | ⟨i, h2, h3, h4, h5⟩
  · obtain ⟨e1, e2⟩ := cut_none h2
    rw [e1] at ep hd
    rw [e2] at eq hd
    have eds : ds p = s := by rw [ep]; exact ds_back s hd.1
    have eq1 : q = 1 := by rw [eq]; decide
    rw [eds, eq1, ds_1] at RN
    rw [eq1] at RT ⊢
    exact sread_p_ok s (fun j hj => by rw [← str_get s j hj]; exact h3 _ (List.getElem_mem _)) (by omega) s ⟨#[49]⟩ (fun w => rread_ok s w hd.1) (fun w => rread_ok ⟨#[49]⟩ w hd.2) _ _ RN RT W
  · obtain ⟨e1, e2, e3⟩ := cut_some h2
    rw [← ext_take] at e1
    have e2 : cutB s.data.toList = (s.extract (i + 1) s.size).data.toList := by rw [e2, str_drop]
    rw [e1] at ep hd
    rw [e2] at eq hd
    have eds : ds p = s.extract 0 i := by rw [ep]; exact ds_back _ hd.1
    have eds2 : ds q = s.extract (i + 1) s.size := by rw [eq]; exact ds_back _ hd.2
    rw [eds, eds2] at RN
    obtain ⟨f1, f2⟩ := at_slash s i h3 h4 h5
    exact sread_s_ok s i h3 f1 f2 (by omega) _ _ (fun w => rread_ok _ w hd.1) (fun w => rread_ok _ w hd.2) _ _ RN RT W

theorem sread_any (s : ByteArray) : ∃ r b, b = D.isDec s.data.toList ∧ ∀ w, Calls Tryz.prog 33 #[.string s] w fun e w' => e = .returned (.tuple #[.string r, .bool b]) ∧ w' = w := by
  cases h : D.isDec s.data.toList
  · exact ⟨_, _, rfl, fun w => rread_bad s w h⟩
  · exact ⟨_, _, rfl, fun w => rread_ok s w h⟩
theorem sread_no (s : ByteArray) (hs : s.size ≤ 1000) (h : accB s.data.toList = false) : Says 10 #[.string s] (.tuple #[sv 0 1, .bool false]) := by
  intro W
  have RZ := fun W => szero W
  rcases index_cases s with ⟨h2, h3⟩ | ⟨i, h2, h3, h4, h5⟩
  · obtain ⟨e1, e2⟩ := cut_none h2
    have hd : D.isDec s.data.toList = false := by
      unfold accB at h
      rw [e1, e2, show D.isDec [49] = true by decide] at h
      simpa [h2] using h
    exact sread_p_na s (fun j hj => by rw [← str_get s j hj]; exact h3 _ (List.getElem_mem _)) (by omega) _ ⟨#[49]⟩ true (fun w => rread_bad s w hd) (fun w => rread_ok ⟨#[49]⟩ w (by decide)) _ _ RZ W
  · obtain ⟨e1, e2, e3⟩ := cut_some h2
    rw [← ext_take] at e1
    have e2 : cutB s.data.toList = (s.extract (i + 1) s.size).data.toList := by rw [e2, str_drop]
    obtain ⟨f1, f2⟩ := at_slash s i h3 h4 h5
    have za := ext_le s 0 i
    have zb := ext_le s (i + 1) s.size
    cases ha : D.isDec (s.extract 0 i).data.toList
    · obtain ⟨r, b, _, R2⟩ := sread_any (s.extract (i + 1) s.size)
      exact sread_s_na s i h3 f1 f2 (by omega) _ r b (fun w => rread_bad _ w ha) R2 _ _ RZ W
    · cases hb : D.isDec (s.extract (i + 1) s.size).data.toList
      · exact sread_s_nb s i h3 f1 f2 (by omega) _ _ (fun w => rread_ok _ w ha) (fun w => rread_bad _ w hb) _ _ RZ W
      · have eds := ds_back _ ha
        have eds2 := ds_back _ hb
        obtain ⟨la, _⟩ := dec_len _ ha
        obtain ⟨lb, _⟩ := dec_len _ hb
        rw [str_len] at la lb
        by_cases h0 : D.dv (s.extract (i + 1) s.size).data.toList = 0
        · rw [h0] at eds2
          have RN := fun W => snew_zero (D.dv (s.extract 0 i).data.toList) W
          rw [eds, eds2] at RN
          exact sread_s_ng s i h3 f1 f2 (by omega) _ _ (fun w => rread_ok _ w ha) (fun w => rread_ok _ w hb) _ _ RZ _ _ RN W
        · have RN := fun W => snew_pos (D.dv (s.extract 0 i).data.toList) (D.dv (s.extract (i + 1) s.size).data.toList) W (by omega) (by omega) (by omega)
          rw [eds, eds2] at RN
          have lw := low (D.dv (s.extract 0 i).data.toList) (D.dv (s.extract (i + 1) s.size).data.toList) (by omega)
          have m1 : Lib.nDigits (rn (D.dv (s.extract 0 i).data.toList) (D.dv (s.extract (i + 1) s.size).data.toList)) ≤ 2000 := by
            have := nd_le (k := 1000) (Nat.div_le_self (D.dv (s.extract 0 i).data.toList) (Nat.gcd (D.dv (s.extract 0 i).data.toList) (D.dv (s.extract (i + 1) s.size).data.toList))) (by omega)
            exact Nat.le_trans this (by omega)
          have m2 : Lib.nDigits (rd (D.dv (s.extract 0 i).data.toList) (D.dv (s.extract (i + 1) s.size).data.toList)) ≤ 2000 := by
            have := nd_le (k := 1000) (Nat.div_le_self (D.dv (s.extract (i + 1) s.size).data.toList) (Nat.gcd (D.dv (s.extract 0 i).data.toList) (D.dv (s.extract (i + 1) s.size).data.toList))) (by omega)
            exact Nat.le_trans this (by omega)
          have RT := fun W => stext (rn (D.dv (s.extract 0 i).data.toList) (D.dv (s.extract (i + 1) s.size).data.toList)) (rd (D.dv (s.extract 0 i).data.toList) (D.dv (s.extract (i + 1) s.size).data.toList)) W (by omega) (by omega)
          have hne : ((tx (rn (D.dv (s.extract 0 i).data.toList) (D.dv (s.extract (i + 1) s.size).data.toList)) (rd (D.dv (s.extract 0 i).data.toList) (D.dv (s.extract (i + 1) s.size).data.toList))).toList == s.toList) = false := by
            rw [beq_eq_false_iff_ne, str_toList, str_toList]
            intro e
            have := acc_tx _ _ lw m1 m2
            rw [e, h] at this
            cases this
          exact sread_s_nt s i h3 f1 f2 (by omega) _ _ (fun w => rread_ok _ w ha) (fun w => rread_ok _ w hb) _ _ RZ _ _ RN _ hne RT W
end Go.Proofs.YtflcdpolfimggaaGreatDoor
