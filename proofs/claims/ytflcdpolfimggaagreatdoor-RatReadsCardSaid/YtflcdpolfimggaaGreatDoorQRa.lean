/- Package rat: which strings are read. -/
import Derived.Test.YtflcdpolfimggaaGreatDoorQRd
namespace Go.Proofs.YtflcdpolfimggaaGreatDoor
open Go.RowKit Q SD

/-- What stands before the first slash, and what behind it. -/
def cutA (l : List UInt8) : List UInt8 := if Lib.indexByte l 47 = -1 then l else l.take (Lib.indexByte l 47).toNat
def cutB (l : List UInt8) : List UInt8 := if Lib.indexByte l 47 = -1 then [49] else l.drop ((Lib.indexByte l 47).toNat + 1)
/-- Whether a string is a number's. -/
def accB (l : List UInt8) : Bool := D.isDec (cutA l) && D.isDec (cutB l) && (decide (Lib.indexByte l 47 = -1) || (decide (1 < D.dv (cutB l)) && decide (Nat.gcd (D.dv (cutA l)) (D.dv (cutB l)) = 1)))

theorem ext_take (s : ByteArray) (i : Nat) : (s.extract 0 i).data.toList = s.data.toList.take i := by rw [ByteArray.data_extract]; simp
theorem ext_le (s : ByteArray) (i j : Nat) : (s.extract i j).size ≤ s.size := by simp; omega

theorem cut_none {l : List UInt8} (h : Lib.indexByte l 47 = -1) : cutA l = l ∧ cutB l = [49] := ⟨if_pos h, if_pos h⟩
theorem cut_some {l : List UInt8} {i : Nat} (h : Lib.indexByte l 47 = (i : Int)) : cutA l = l.take i ∧ cutB l = l.drop (i + 1) ∧ ¬ Lib.indexByte l 47 = -1 := by
  have h1 : ¬ Lib.indexByte l 47 = -1 := by rw [h]; omega
  unfold cutA cutB
  rw [if_neg h1, if_neg h1, h]
  exact ⟨by simp, by simp, by rw [← h]; exact h1⟩

theorem read_no (s : ByteArray) (hs : s.size ≤ 4294967280) (h : accB s.data.toList = false) : Gives 8 #[.string s] (.tuple #[rv 0 1, .bool false]) := by
  rcases index_cases s with ⟨h2, _⟩ | ⟨i, h2, h3, _, _⟩
  · have hc : Cuts s s ⟨#[]⟩ false := fun w => cut_miss s w h2
    obtain ⟨e1, e2⟩ := cut_none h2
    have : D.isDec s.data.toList = false := by
      unfold accB at h
      rw [e1, e2, show D.isDec [49] = true by decide] at h
      simpa [h2] using h
    exact read2_a s s _ false hc hs this
  · have hc : Cuts s (s.extract 0 i) (s.extract (i + 1) s.size) true := fun w => cut_hit s w i h2 h3 hs
    obtain ⟨e1, e2, e3⟩ := cut_some h2
    have za : (s.extract 0 i).size ≤ 4294967280 := Nat.le_trans (ext_le s _ _) hs
    have zb : (s.extract (i + 1) s.size).size ≤ 4294967280 := Nat.le_trans (ext_le s _ _) hs
    rw [← ext_take] at e1
    have e2 : cutB s.data.toList = (s.extract (i + 1) s.size).data.toList := by rw [e2, str_drop]
    unfold accB at h
    rw [e1, e2] at h
    simp only [e3, decide_false, Bool.false_or] at h
    cases ha : D.isDec (s.extract 0 i).data.toList
    · exact read2_a s _ _ true hc za ha
    · cases hb : D.isDec (s.extract (i + 1) s.size).data.toList
      · exact read2_c s _ _ hc za zb ha hb
      · rw [ha, hb] at h
        simp only [Bool.true_and, Bool.and_eq_false_iff, decide_eq_false_iff_not] at h
        by_cases h1 : 1 < D.dv (s.extract (i + 1) s.size).data.toList
        · rcases h with h | h
          · exact absurd h1 h
          · exact read2_e s _ _ hc za zb ha hb h1 h
        · exact read2_d s _ _ hc za zb ha hb (by omega)

theorem dec_back (l : List UInt8) (h : D.isDec l = true) : Lib.decDigits (D.dv l) = l := D.dec_dv l h
theorem dec_len (l : List UInt8) (h : D.isDec l = true) : Lib.nDigits (D.dv l) = l.length ∧ l.length ≤ 2000 := by
  refine ⟨by rw [← Lib.decDigits_length, dec_back l h], ?_⟩
  unfold D.isDec at h
  simp only [Bool.and_eq_true, decide_eq_true_eq] at h
  exact h.1.1.2

/-- A string that is a number's is the text of a number in lowest terms. -/
theorem acc_yes (s : ByteArray) (h : accB s.data.toList = true) : ∃ p q, Lo p q ∧ Lib.nDigits p ≤ 2000 ∧ Lib.nDigits q ≤ 2000 ∧ s = tx p q ∧ p = D.dv (cutA s.data.toList) ∧ q = D.dv (cutB s.data.toList) := by
  rcases index_cases s with ⟨h2, _⟩ | ⟨i, h2, h3, h4, _⟩
  · obtain ⟨e1, e2⟩ := cut_none h2
    have : D.isDec s.data.toList = true := by
      unfold accB at h
      rw [e1, e2, show D.isDec [49] = true by decide] at h
      simpa [h2] using h
    obtain ⟨l1, l2⟩ := dec_len _ this
    refine ⟨D.dv s.data.toList, 1, ⟨by omega, Nat.coprime_one_right _⟩, by omega, by decide +kernel, ?_, by rw [e1], by rw [e2]; decide⟩
    rw [tx_one]
    refine ByteArray.ext (Array.ext' ?_)
    exact (dec_back _ this).symm
  · obtain ⟨e1, e2, e3⟩ := cut_some h2
    unfold accB at h
    simp only [e3, decide_false, Bool.false_or, Bool.and_eq_true, decide_eq_true_eq] at h
    obtain ⟨⟨ha, hb⟩, h1, hg⟩ := h
    obtain ⟨l1, l2⟩ := dec_len _ ha
    obtain ⟨m1, m2⟩ := dec_len _ hb
    refine ⟨_, _, ⟨by omega, hg⟩, by omega, by omega, ?_, rfl, rfl⟩
    refine ByteArray.ext (Array.ext' ?_)
    rw [tx_list, if_neg (by omega), dec_back _ ha, dec_back _ hb, e1, e2]
    exact h4

/-- .. and each such text is a number's. -/
theorem acc_tx (p q : Nat) (h : Lo p q) (hp : Lib.nDigits p ≤ 2000) (hq : Lib.nDigits q ≤ 2000) : accB (tx p q).data.toList = true := by
  obtain ⟨a1, a2⟩ := dec_of p hp
  obtain ⟨b1, b2⟩ := dec_of q hq
  by_cases h1 : q = 1
  · subst h1
    rw [tx_one]
    rcases index_cases (ds p) with ⟨h2, _⟩ | ⟨i, h2, h3, h4, _⟩
    · obtain ⟨e1, e2⟩ := cut_none h2
      unfold accB
      rw [e1, e2, a1, show D.isDec [49] = true by decide]
      simp [h2]
    · exfalso
      have : (47 : UInt8) ∈ (ds p).data.toList := by rw [h4]; simp
      exact no_slash p 47 this rfl
  · have hl : (tx p q).data.toList = Lib.decDigits p ++ 47 :: Lib.decDigits q := by rw [tx_list, if_neg h1]
    rcases index_cases (tx p q) with ⟨_, h2⟩ | ⟨i, h2, h3, h4, h5⟩
    · exact absurd rfl (h2 47 (by rw [hl]; simp))
    · obtain ⟨x1, x2⟩ := split_eq (no_slash p) h5 (hl.symm.trans h4)
      obtain ⟨e1, e2, e3⟩ := cut_some h2
      have a1 : D.isDec (Lib.decDigits p) = true := a1
      have b1 : D.isDec (Lib.decDigits q) = true := b1
      have a2 : D.dv (Lib.decDigits p) = p := a2
      have b2 : D.dv (Lib.decDigits q) = q := b2
      unfold accB
      rw [e1, e2, ← x1, ← x2, a1, b1, a2, b2]
      have h0 := h.1
      have hg : Nat.gcd p q = 1 := h.2
      have h9 : 1 < q := by omega
      simp [hg, h9]
end Go.Proofs.YtflcdpolfimggaaGreatDoor
