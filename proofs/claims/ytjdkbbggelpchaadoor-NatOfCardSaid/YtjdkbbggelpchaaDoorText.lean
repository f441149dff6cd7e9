/- The contracts of joinParts and Text. -/
import Derived.Test.YtjdkbbggelpchaaDoorFmt
import Derived.Test.YtjdkbbggelpchaaDoorBuild
import Derived.Test.YtjdkbbggelpchaaDoorDec
import Derived.Test.YtjdkbbggelpchaaDoorWords
import Derived.Test.YtjdkbbggelpchaaDoorTrim
import Derived.Test.YtjdkbbggelpchaaDoorScale
import Derived.Test.YtjdkbbggelpchaaDoorSum
import Derived.Outline
namespace Go.Proofs.YtjdkbbggelpchaaDoor
open Go.RowKit

theorem zeros_cut (k : Nat) (hk : k ≤ 19) (W : World) :
    (Instr.slice 9 (.string ⟨#[48, 48, 48, 48, 48, 48, 48, 48, 48, 48, 48, 48, 48, 48, 48, 48, 48, 48, 48]⟩) (some (.int .i64 (k : Int))) none none).run Tryd.prog W = .ok (.string ⟨(List.replicate (19 - k) 48).toArray⟩) W := by
  have e : (⟨#[48, 48, 48, 48, 48, 48, 48, 48, 48, 48, 48, 48, 48, 48, 48, 48, 48, 48, 48]⟩ : ByteArray).extract k 19 = ⟨(List.replicate (19 - k) 48).toArray⟩ := by
    have : ∀ k, k < 20 → (⟨#[48, 48, 48, 48, 48, 48, 48, 48, 48, 48, 48, 48, 48, 48, 48, 48, 48, 48, 48]⟩ : ByteArray).extract k 19 = ⟨(List.replicate (19 - k) 48).toArray⟩ := by decide
    exact this k (by omega)
  have h := run_slice_string_l (P := Tryd.prog) (w := W) 9 ⟨#[48, 48, 48, 48, 48, 48, 48, 48, 48, 48, 48, 48, 48, 48, 48, 48, 48, 48, 48]⟩ Tryd.underlying9 .i64 (k : Int) (by omega) (by show (k : Int) ≤ 19; omega)
  rw [h]
  simp only [Int.toNat_natCast]
  rw [← e]; rfl

theorem dec_len_parts (ps : List Nat) (k : Nat) (hb : ∀ (k p : Nat), ps[k]? = some p → p < D.S) (hl : ps.length ≤ 3001) : (Lib.decDigits (D.v10 (ps.drop k))).length ≤ 100000 := by
  have h1 : ∀ l : List Nat, (∀ p ∈ l, p < D.S) → D.v10 l < D.S ^ l.length := by
    intro l
    induction l with
    | nil => intro _; simp [D.v10]
    | cons x l ih =>
      intro h
      have h2 := ih (fun p hp => h p (by simp [hp]))
      have h3 := h x (by simp)
      simp only [D.v10, List.length_cons]
      rw [Nat.pow_succ, Nat.mul_comm _ D.S]
      have h4 : D.S * (D.v10 l + 1) ≤ D.S * D.S ^ l.length := Nat.mul_le_mul_left _ h2
      rw [Nat.mul_add] at h4
      omega
  have h2 := h1 (ps.drop k) (fun p hp => by
    obtain ⟨j, hj⟩ := List.getElem?_of_mem (List.mem_of_mem_drop hp)
    exact hb j p hj)
  rw [Lib.decDigits_length]
  have hln : (ps.drop k).length ≤ 3001 := by simp; omega
  generalize (ps.drop k).length = n at *
  have e : D.S ^ n = 10 ^ (19 * n) := by rw [D.S_pow, ← Nat.pow_mul]
  have h4 := D.nDigits_le (19 * n) _ (Nat.lt_of_lt_of_le h2 (by rw [e]; exact Nat.pow_le_pow_right (by omega) (by omega)))
  omega
theorem bldAt_grown {w w' : World} {T e : TypeId} {B b : Nat} {q : Value} {l : List Value} (h : Lib.BuilderAt T e B b q l w) (hb : Below w.heap.size w w') : Lib.BuilderAt T e B b q l w' := by
  have hlt := h.lt
  obtain ⟨hB, v, hbk, hown, hne⟩ := h
  refine ⟨hB, v, (hb.block b hlt).trans hbk, ?_, hne⟩
  refine hown.kept (row := none) ⟨hb.os, hb.tape, hb.output, hb.size, fun k hk _ => hb.block k hk⟩ (by by_cases h : v.ownBlock = none; exact .inl h; exact .inr h)
theorem bld_grown {w w' : World} {B b : Nat} {l : List UInt8} (h : Bld B b l w) (hb : Below w.heap.size w w') : Bld B b l w' := by
  rcases h with h | h
  · exact .inl (bldAt_grown h hb)
  · exact .inr (bldAt_grown h hb)
theorem row_at {w : World} {b cap k : Nat} {ps : List Nat} (h : Row w b cap ps) (p : Nat) (hp : ps[k]? = some p) : w.cell? ⟨b, k, none⟩ = some (.int .u64 (p : Int)) := by
  obtain ⟨hk, e⟩ := List.getElem?_eq_some_iff.1 hp
  have := (h.words k hk).1
  rwa [Nat.zero_add, e] at this

set_option maxRecDepth 100000 in
set_option maxHeartbeats 2000000 in
theorem joinParts_any (b cap last : Nat) (ps : List Nat) (w : World) (hrow : Row w b cap ps) (hlen : ps.length = last + 1) (hl : last ≤ 3000) (hlast : ∀ h, ps.getLast h ≠ 0) (hb : ∀ p ∈ ps, p < D.S) (ht : Tabs w) (h6 : 6 ≤ w.heap.size) :
    Calls Tryd.prog 61 #[.slice (some ⟨b, 0, none⟩) (last + 1) cap] w fun e w' => e = .returned (.string ⟨(Lib.decDigits (D.v10 ps)).toArray⟩) ∧ Below w.heap.size w w' := by
  have HROW := mkHid hrow; have HT := mkHid ht; have H6 := mkHid h6
  have HB : Hid (∀ k p, ps[k]? = some p → p < D.S) := mkHid fun k p h => hb p (List.mem_of_getElem? h)
  have HL := mkHid hlen
  have HLAST := mkHid hlast
  obtain ⟨pl, hpl⟩ : ∃ pl, ps[last]? = some pl := ⟨ps[last]'(by omega), List.getElem?_eq_getElem (by omega)⟩
  have HPL := mkHid hpl
  have hcl := row_at (hrow.grows ((Below.refl w.heap.size w).alloc (Nat.le_refl _) (.cells #[.pointer none, .slice none 0 0] 98))) pl hpl
  have HLT := mkHid hrow.lt
  clear hrow ht h6 hb hlen hlast hpl
  have CF : Hid (∀ (k p : Nat) (W : World), ps[k]? = some p → Below w.heap.size w W → Calls Tryd.prog 60 #[.int .u64 (p : Int), .int .i64 10] W fun e w' => e = .returned (.string ⟨(Lib.decDigits p).toArray⟩) ∧ Below W.heap.size W w') :=
    mkHid fun k p W hk hB => formatUint_any p (Nat.lt_of_lt_of_le (HB.out k p hk) (by decide)) W (HT.out.below hB H6.out)
  have hne1 : ¬ b = w.heap.size := by have := HLT.out; omega
  go_enter Tryd.func61, Tryd.ntmps61
  have HF0 := mkHid (Lib.fresh_isBuilder 98 5 w)
  have HB0 := mkHid ((Below.refl w.heap.size w).alloc (Nat.le_refl _) (.cells #[.pointer none, .slice none 0 0] 98))
  have CF0 := mkHid (CF.out last pl _ HPL.out HB0.out)
  go_wp2_with fail
  refine CF0.out.mono ?_
  rintro e w1 ⟨rfl, hb⟩
  have HB1 := mkHid (HB0.out.trans (hb.mono HB0.out.size))
  have CW := mkHid (writeString_any w.heap.size w.heap.size [] (Lib.decDigits pl) w1 (bld_grown HF0.out hb) (by rw [Lib.decDigits_length]; have := D.nd_part pl (HB.out _ _ HPL.out); simp; omega) HB1.out.size)
  clear hb CF0 HF0 HB0
  go_wp2_with fail
  refine CW.out.mono ?_
  rintro e w2 ⟨rfl, H2⟩
  have HS : Hid (Bld w.heap.size w.heap.size (Lib.decDigits (D.v10 (ps.drop (last - 0)))) w2 ∧ Below w.heap.size w w2) := by
    refine mkHid ⟨?_, HB1.out.trans H2.out.2⟩
    have e : ps.drop (last - 0) = [pl] := by
      obtain ⟨h1, h2⟩ := List.getElem?_eq_some_iff.1 HPL.out
      rw [Nat.sub_zero, List.drop_eq_getElem_cons h1, h2, List.drop_of_length_le (by have := HL.out; omega)]
    rw [e]
    have h := H2.out.1
    rw [List.nil_append] at h
    simpa [D.v10] using h
  clear CW H2 HB1 hcl
  go_wp2_with fail
  go_loopw [17] (fun iv wr => ∃ i : Nat, i ≤ last ∧ iv = .int .i64 i ∧ Hid (Bld w.heap.size w.heap.size (Lib.decDigits (D.v10 (ps.drop (last - i)))) wr ∧ Below w.heap.size w wr))
    (fun iv _ => last - (intOf iv).toNat)
  case atStart => exact ⟨0, by omega, rfl, HS⟩
  case round =>
    obtain ⟨i, hi, rfl, H⟩ := hrel
    clear HS
    by_cases hlt : i < last
    · obtain ⟨k, hk⟩ : ∃ k, last - i = k + 1 := ⟨last - i - 1, by omega⟩
      have hik : (last : Int) - 1 - (i : Int) = (k : Int) := by omega
      have hkl : k + 1 ≤ last := by omega
      obtain ⟨p, hp⟩ : ∃ p, ps[k]? = some p := ⟨ps[k]'(by have := HL.out; omega), List.getElem?_eq_getElem (by have := HL.out; omega)⟩
      have HP := mkHid hp
      rw [hk] at H
      have HK := mkHid hk
      clear hk hp
      have hcp := row_at (HROW.out.grows H.out.2) p HP.out
      have CF1 := mkHid (CF.out k p _ HP.out H.out.2)
      have HDP : Hid ((Lib.decDigits p).length ≤ 19) := mkHid (by rw [Lib.decDigits_length]; exact D.nd_part p (HB.out _ _ HP.out))
      have HNEW : Hid (Lib.decDigits (D.v10 (ps.drop k)) = Lib.decDigits (D.v10 (ps.drop (k + 1))) ++ (List.replicate (19 - (Lib.decDigits p).length) 48 ++ Lib.decDigits p)) := mkHid (by
        rw [Lib.decDigits_length]
        exact D.dec_part ps k (by have := HL.out; omega) (HLAST.out _) p (List.getElem?_eq_some_iff.1 HP.out).2 (HB.out _ _ HP.out))
      have HLEN : Hid ((Lib.decDigits (D.v10 (ps.drop (k + 1)))).length ≤ 100000) := mkHid (dec_len_parts ps _ (fun k p h => HB.out k p h) (by have := HL.out; omega))
      have hz := zeros_cut (Lib.decDigits p).length HDP.out
      generalize Lib.decDigits p = dp at *
      generalize Lib.decDigits (D.v10 (ps.drop (k + 1))) = old at *
      go_wp2_with fail
      refine CF1.out.mono ?_
      rintro e w3 ⟨rfl, hb⟩
      have HB3 := mkHid hb
      clear hb CF1 hcp
      have CW1 := mkHid (writeString_any w.heap.size w.heap.size old (List.replicate (19 - dp.length) 48) w3 (bld_grown H.out.1 HB3.out) (by have := HLEN.out; simp; omega) (H.out.2.trans (HB3.out.mono H.out.2.size)).size)
      rw [List.length_replicate] at CW1
      go_wp2_with fail
      refine CW1.out.mono ?_
      rintro e w4 ⟨rfl, H4⟩
      have CW2 := mkHid (writeString_any w.heap.size w.heap.size (old ++ List.replicate (19 - dp.length) 48) dp w4 H4.out.1 (by have := HLEN.out; have := HDP.out; simp; omega) ((H.out.2.trans (HB3.out.mono H.out.2.size)).trans H4.out.2).size)
      clear CW1
      go_wp2_with fail
      refine CW2.out.mono ?_
      rintro e w5 ⟨rfl, H5⟩
      clear CW2 hz
      go_wp2_with fail
      go_roundw
      case rel =>
        refine ⟨i + 1, hlt, by go_num, mkHid ⟨?_, ((H.out.2.trans (HB3.out.mono H.out.2.size)).trans H4.out.2).trans H5.out.2⟩⟩
        rw [show last - (i + 1) = k by have := HK.out; omega, HNEW.out, ← List.append_assoc]
        exact H5.out.1
      case measure => simp [intOf]; omega
    · have hie : i = last := by omega
      subst hie
      rw [Nat.sub_self, List.drop_zero] at H
      have CS := mkHid (Tryd.Builder_String_any w.heap.size w.heap.size _ _ H.out.1 H.out.2.size)
      go_wp2_with fail
      refine CS.out.mono ?_
      rintro e w6 ⟨rfl, hb⟩
      have HB6 := mkHid (H.out.2.trans hb)
      clear hb CS
      go_wp2_with fail
      go_ret
      exact ⟨rfl, HB6.out⟩
end Go.Proofs.YtjdkbbggelpchaaDoor
