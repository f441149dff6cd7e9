/- Package rat: texts are read back. -/
import Derived.Test.YtflcdpolfimggaaGreatDoorG11
namespace Go.Proofs.YtflcdpolfimggaaGreatDoor
open Go.RowKit Q SD

/-- The text of a number in lowest terms is read as the number. -/
theorem dec_of (n : Nat) (h : Lib.nDigits n ≤ 2000) : D.isDec (ds n).data.toList = true ∧ D.dv (ds n).data.toList = n := ⟨D.isDec_dec n h, D.dv_dec n⟩
theorem read_tx (p q : Nat) (h : Lo p q) (hp : Lib.nDigits p ≤ 2000) (hq : Lib.nDigits q ≤ 2000) : Gives 8 #[.string (tx p q)] (.tuple #[rv p q, .bool true]) := by
  obtain ⟨a1, a2⟩ := dec_of p hp
  obtain ⟨b1, b2⟩ := dec_of q hq
  have sp := ds_size p
  have sq := ds_size q
  by_cases h1 : q = 1
  · subst h1
    rw [tx_one]
    have hc : Cuts (ds p) (ds p) ⟨#[]⟩ false := by
      intro w
      rcases index_cases (ds p) with ⟨h2, _⟩ | ⟨i, h2, h3, h4, _⟩
      · exact cut_miss _ w h2
      · exfalso
        have : (47 : UInt8) ∈ (ds p).data.toList := by rw [h4]; simp
        exact no_slash p 47 this rfl
    have := read2_b (ds p) ⟨#[]⟩ hc (by omega) a1
    rwa [a2] at this
  · have hs : (tx p q).size = (ds p).size + 1 + (ds q).size := by rw [tx_ne h1]; simp [ByteArray.size_append]; rfl
    have hl : (tx p q).data.toList = Lib.decDigits p ++ 47 :: Lib.decDigits q := by rw [tx_list, if_neg h1]
    have hd : ∀ n, (ds n).data.toList = Lib.decDigits n := fun n => rfl
    rcases index_cases (tx p q) with ⟨_, h2⟩ | ⟨i, h2, h3, h4, h5⟩
    · exact absurd rfl (h2 47 (by rw [hl]; simp))
    · have h6 := hl.symm.trans h4
      obtain ⟨e1, e2⟩ := split_eq (no_slash p) h5 h6
      have x1 : (tx p q).extract 0 i = ds p := by
        refine ByteArray.ext (Array.ext' ?_)
        have : ((tx p q).extract 0 i).data.toList = (tx p q).data.toList.take i := by rw [ByteArray.data_extract]; simp
        rw [this, ← e1]; rfl
      have x2 : (tx p q).extract (i + 1) (tx p q).size = ds q := by
        refine ByteArray.ext (Array.ext' ?_)
        rw [str_drop, ← e2]; rfl
      have hc : Cuts (tx p q) (ds p) (ds q) true := by
        intro w
        have := cut_hit (tx p q) w i h2 h3 (by omega)
        rwa [x1, x2] at this
      have hq0 := h.1
      have := read2_f (tx p q) (ds p) (ds q) hc (by omega) (by omega) a1 b1 (by rw [b2]; omega) (by rw [a2, b2]; exact h.2)
      rwa [a2, b2] at this
end Go.Proofs.YtflcdpolfimggaaGreatDoor
