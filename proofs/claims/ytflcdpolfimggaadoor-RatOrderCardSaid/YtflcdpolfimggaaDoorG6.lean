/- Contracts, laid one behind the other: Text2 Read Read2 Law QM QN QA Ord SD SF. -/
import Derived.Test.YtflcdpolfimggaaDoorG5
import Derived.Deep.LoopGhost
import Derived.Outline
import Derived.Test.YtflcdpolfimggaaDoorG1
import Derived.Deep.RegionHeld3
import Derived.Deep.CutBlock
import Derived.Deep.DeepCutAuto
import Derived.Laws.Strings
namespace Go.Proofs.YtflcdpolfimggaaDoor
open Go.RowKit

/-- What the rounds of Text keep: the parts so far, and what is left. -/
structure TI (w wr : World) (base b cap n m : Nat) (pv : Value) (ps : List Nat) : Prop where
  row : Row wr b cap (M.dig m)
  own : wr.ownsRow base 22 1 pv ps.length (ws ps)
  bb : w.heap.size ≤ b
  lt : b < base
  bw : base ≤ wr.heap.size
  val : n = D.v10 ps + D.S ^ ps.length * m
  parts : ∀ p ∈ ps, p < D.S
  last : m = 0 → ∀ h : ps ≠ [], ps.getLast h ≠ 0
  below : Below w.heap.size w wr

theorem TI.len {w wr : World} {base b cap n m K : Nat} {pv : Value} {ps : List Nat} (h : TI w wr base b cap n m pv ps) (hm : m ≠ 0) (hn : n < M.B ^ K) : ps.length < 2 * K := by
  apply Nat.lt_of_not_le; intro hle
  have h1 : D.S ^ (2 * K) ≤ D.S ^ ps.length := Nat.pow_le_pow_right (by decide) hle
  have h2 : D.S ^ ps.length * 1 ≤ D.S ^ ps.length * m := Nat.mul_le_mul_left _ (by omega)
  have h3 := h.val
  have h4 : M.B ^ K ≤ D.S ^ (2 * K) := by
    rw [Nat.pow_mul]
    exact Nat.pow_le_pow_left (by decide) K
  omega

theorem TI.len2 {w wr : World} {base b cap n m K k : Nat} {pv : Value} {ps : List Nat} (h : TI w wr base b cap n m pv ps) (hne : ps ≠ []) (hm : m = 0) (hk : ps.length = k + 1) (hn : n < M.B ^ K) (hK : 2 * K ≤ 2000) : k ≤ 3000 := by
  have hl := h.last hm hne
  have e := List.dropLast_concat_getLast hne
  have hv := h.val
  rw [hm, ← e, D.v10_append] at hv
  simp only [D.v10, Nat.mul_zero, Nat.add_zero] at hv
  have hd : ps.dropLast.length = k := by simp [hk]
  rw [hd] at hv
  apply Nat.le_of_not_lt; intro hlt
  have h1 : D.S ^ (2 * K) ≤ D.S ^ k := Nat.pow_le_pow_right (by decide) (by omega)
  have h2 : D.S ^ k * 1 ≤ D.S ^ k * ps.getLast hne := Nat.mul_le_mul_left _ (by omega)
  have h4 : M.B ^ K ≤ D.S ^ (2 * K) := by
    rw [Nat.pow_mul]
    exact Nat.pow_le_pow_left (by decide) K
  omega
theorem TI.own4 {w wr w4 : World} {base b cap n m lo hi : Nat} {pv : Value} {ps : List Nat} (h : TI w wr base b cap n m pv ps) (hw : Wr wr w4 b lo hi) : w4.ownsRow base 22 1 pv ps.length (ws ps) :=
  h.own.kept (row := some b) ⟨hw.os, hw.tape, hw.output, hw.size, fun k hk hne => hw.block k hk (fun e => hne (by rw [e]))⟩ (.inr fun e => by have := (h.own.lt b e).1; have := h.lt; omega)

/-- One round. -/
theorem TI.step {w wr w4 w5 : World} {base b cap n m : Nat} {pv v' : Value} {ps zs : List Nat} (h : TI w wr base b cap n m pv ps) (hm : m ≠ 0)
    (hz : zs.length = (M.dig m).length ∧ M.Ok zs ∧ M.val zs = M.val (M.dig m) / D.S ∧ Words w4 b 0 zs ∧ Wr wr w4 b 0 (0 + (M.dig m).length)) (o : Obj)
    (hown : w5.ownsRow base 22 1 v' (ps.length + 1) (ws (ps ++ [m % D.S]))) (hg : (w4.alloc o).grownBy w5 pv.ownBlock) :
    TI w w5 base b cap n (m / D.S) v' (ps ++ [m % D.S]) := by
  obtain ⟨z1, z2, z3, z4, z5⟩ := hz
  have hr4 : Row w4 b cap zs := h.row.after z5 z4 (by have := h.row.cap; omega)
  have hv : M.val zs = m / D.S := by rw [z3, M.val_dig]
  have hd : Row w4 b cap (M.dig (m / D.S)) := by
    rw [← hv, M.dig_prefix z2]; exact hr4.take _
  have hnb : some b ≠ pv.ownBlock := by
    intro e
    have := (h.own.lt b e.symm).1
    have := h.lt; omega
  have hs4 := z5.size
  have hlt := h.row.lt
  have hbw := h.bw
  have hlb := h.lt
  refine ⟨?_, by simpa using hown, h.bb, h.lt, ?_, ?_, ?_, ?_, ?_⟩
  · refine hd.ofBlock ?_
    rw [hg.block b (by simp; omega) hnb]
    exact (Below.refl _ _).alloc (Nat.le_refl _) o |>.block b (by omega)
  · have := hg.size; simp at this; omega
  · have e := Nat.div_add_mod m D.S
    rw [D.v10_append, List.length_append, List.length_singleton, Nat.pow_succ]
    simp only [D.v10, Nat.mul_zero, Nat.add_zero]
    rw [h.val]
    conv => lhs; rw [← e]
    rw [Nat.mul_add, ← Nat.mul_assoc]
    omega
  · intro p hp
    rcases List.mem_append.1 hp with hp | hp
    · exact h.parts p hp
    · rw [List.mem_singleton.1 hp]; exact Nat.mod_lt _ (by decide)
  · intro h0 hne
    have := Nat.div_add_mod m D.S
    rw [h0] at this
    rw [List.getLast_concat]; omega
  · have e1 : Below w.heap.size w w4 := h.below.trans (z5.toBelow h.bb h.below.size)
    have e2 := e1.alloc e1.size o
    exact e2.grown hg (by have := e2.size; simp at this ⊢; omega) (fun k hk => by have := (h.own.lt k hk).1; have := h.bb; omega)

theorem div_S_lt {m : Nat} (h : m ≠ 0) : m / D.S < m := Nat.div_lt_self (by omega) (by decide)

set_option maxRecDepth 100000 in
set_option maxHeartbeats 1000000 in
theorem text_small (n : Nat) (w : World) (hn : n < M.B) (ht : Tabs w) (h6 : 6 ≤ w.heap.size) :
    Calls Tryd.prog 29 #[natV n] w fun e w' => e = .returned (.string ⟨(Lib.decDigits n).toArray⟩) ∧ Below w.heap.size w w' := by
  have CF := mkHid (fun W hB => formatUint_any n hn W (ht.below (B := w.heap.size) hB h6))
  unfold natV
  rw [hs_small hn, Nat.mod_eq_of_lt hn]
  clear hn ht h6
  have HB := mkHid ((Below.refl w.heap.size w).alloc (Nat.le_refl _) (.cells #[.int .u64 (n : Int), .string ⟨#[]⟩] 24))
  go_enter Tryd.func29, Tryd.ntmps29
  go_wp2_with (go_at_call 56; refine (CF.out _ HB.out).mono ?_; rintro e w2 ⟨rfl, hb⟩)
  go_ret
  exact ⟨rfl, HB.out.trans (hb.mono HB.out.size)⟩

set_option maxRecDepth 100000 in
set_option maxHeartbeats 2000000 in
theorem text_large (n : Nat) (w : World) (hn : M.B ≤ n) (hl : (M.dig n).length ≤ 1000) (ht : Tabs w) (h6 : 6 ≤ w.heap.size) :
    Calls Tryd.prog 29 #[natV n] w fun e w' => e = .returned (.string ⟨(Lib.decDigits n).toArray⟩) ∧ Below w.heap.size w w' := by
  have hne := hs_ne hn
  have CW := mkHid (fun W => words_any n W (by omega))
  have HT := mkHid ht; have H6 := mkHid h6
  have HN : Hid (n ≠ 0) := mkHid (by have := M.B_pos; omega)
  have HNB : Hid (n < M.B ^ (M.dig n).length) := mkHid (M.dig_length_le.1 (Nat.le_refl _))
  have HKB : Hid (2 * (M.dig n).length ≤ 2000) := mkHid (by omega)
  have HLD : Hid (∀ k, k ≤ n → (M.dig k).length ≤ 1000) := mkHid fun k hk => Nat.le_trans (dig_mono hk) hl
  obtain ⟨i0, hi, hz0, hz1, hz2⟩ := info_parts info64
  have I1 := mkHid hi; have I2 := mkHid hz0; have I3 := mkHid hz1; have I4 := mkHid hz2
  clear hi hz0 hz1 hz2 ht h6 hn hl
  unfold natV at CW ⊢
  generalize n % M.B = l at *
  generalize hs n = h at *
  have HB := mkHid ((Below.refl w.heap.size w).alloc (Nat.le_refl _) (.cells #[.int .u64 (l : Int), .string h] 24))
  go_enter Tryd.func29, Tryd.ntmps29
  go_wp2_with (go_at_call 55; refine (CW.out _).mono ?_; rintro e w2 ⟨b, cap, rfl, H2⟩)
  clear CW
  have HTI : Hid (TI w w2 w2.heap.size b cap n n (.slice none 0 0) []) := mkHid ⟨H2.out.2.1, ⟨by simp [ws], .inl ⟨rfl, rfl⟩⟩, by have := H2.out.1; have := HB.out.size; omega, H2.out.2.1.lt, Nat.le_refl _, by simp [D.v10], by simp, by simp, HB.out.trans (H2.out.2.2.1.mono HB.out.size)⟩
  go_loopg [3, 4] n (fun k pv wv wr => ∃ m ps q, q = pv ∧ wv = .slice (some ⟨b, 0, none⟩) (M.dig m).length cap ∧ Hid (k = m ∧ TI w wr w2.heap.size b cap n m q ps))
  case atStart => exact ⟨n, [], _, rfl, rfl, mkHid ⟨rfl, HTI.out⟩⟩
  case round =>
    obtain ⟨m, ps, pv, rfl, rfl, H⟩ := hrel
    clear HTI
    by_cases hm : m = 0
    · have hm0 : M.dig m = [] := by rw [hm]; exact M.dig_zero
      rw [hm0]
      have HPS : Hid (ps ≠ []) := mkHid (by
        rintro rfl
        have := H.out.2.val
        rw [hm] at this
        exact HN.out (by simpa [D.v10] using this))
      obtain ⟨k, hk⟩ : ∃ k, ps.length = k + 1 := ⟨ps.length - 1, by have := List.length_pos_iff.2 HPS.out; omega⟩
      have HK := mkHid hk
      obtain ⟨pb, pc, rfl, HPR⟩ : ∃ pb pc, pv = .slice (some ⟨pb, 0, none⟩) (k + 1) pc ∧ Hid (Row wr pb pc ps) := by
        obtain ⟨pb, pc, e, _, hr, _⟩ := Row.ofOwn H.out.2.own (by rw [hk]; omega)
        rw [hk] at e
        exact ⟨pb, pc, e, mkHid hr⟩
      clear hk hm0
      have HK2 : Hid (k ≤ 3000) := mkHid (TI.len2 H.out.2 HPS.out hm HK.out HNB.out HKB.out)
      have CJ := mkHid (joinParts_any pb pc k ps wr HPR.out HK.out HK2.out (fun h => H.out.2.last hm h) H.out.2.parts (HT.out.below H.out.2.below H6.out) (Nat.le_trans H6.out H.out.2.below.size))
      have HV : Hid (D.v10 ps = n) := mkHid (by have := H.out.2.val; rw [hm] at this; simpa using this.symm)
      rw [HV.out] at CJ
      have HBW := mkHid H.out.2.below
      subst hm
      go_wp2_with fail
      refine CJ.out.mono ?_
      rintro e w3 ⟨rfl, hb⟩
      have HB3 := mkHid (HBW.out.trans (hb.mono HBW.out.size))
      clear hb CJ
      go_wp2_with fail
      go_ret
      exact ⟨rfl, HB3.out⟩
    · have hlen : 0 < (M.dig m).length := List.length_pos_iff.2 (fun e => hm (M.dig_eq_nil.1 e))
      have HLE := mkHid (HLD.out m (by have := H.out.2.val; have h1 : 1 ≤ D.S ^ ps.length := Nat.one_le_pow _ _ (by decide); have h2 := Nat.mul_le_mul_right m h1; omega))
      have CD := mkHid (divideByWord_any b 0 cap D.S (M.dig m) wr H.out.2.row.words (by have := HLE.out; omega) (M.ok_dig m) (by decide) (by decide))
      rw [show ((D.S : Nat) : Int) = 10000000000000000000 from rfl, M.val_dig] at CD
      have HPL := mkHid (H.out.2.len hm HNB.out)
      generalize hlm : (M.dig m).length = lm at *
      have HLM := mkHid hlm
      clear hlm
      go_wp2_with fail
      refine CD.out.mono ?_
      rintro e w4 ⟨rfl, zs, HZ⟩
      clear CD
      have HZ2 : Hid (zs.length = (M.dig m).length ∧ M.Ok zs ∧ M.val zs = M.val (M.dig m) / D.S ∧ Words w4 b 0 zs ∧ Wr wr w4 b 0 (0 + (M.dig m).length)) := mkHid (by rw [HLM.out, M.val_dig]; exact HZ.out)
      have HO4 := mkHid (TI.own4 H.out.2 HZ2.out.2.2.2.2)
      have hs4 : w2.heap.size ≤ w4.heap.size := by have h1 := H.out.2.bw; have h2 := HZ2.out.2.2.2.2.size; omega
      have HS4 := mkHid hs4
      clear HZ hs4
      generalize hr : m % D.S = r at *
      have HR := mkHid hr
      clear hr
      go_wp2_with (at_builtin; refine wpList_append_own _ rfl _ _ 76 rfl w2.heap.size 22 i0 (.int .u64 0) 1 8 Tryd.underlying76 I1.out I2.out I3.out I4.out rfl (by decide) _ _ _ rfl (HO4.out.alloc _) ⟨w4.heap.size, 0, none⟩ 1 1 [.int .u64 (r : Int)] rfl rfl ?c1 ?c2 ?c3 ?c4 ?c5 ?_)
      case c1 => exact new_one w4 _ _
      case c2 => intro u hu; simp at hu; subst hu; rfl
      case c3 => have := HPL.out; unfold maxLen; have := HKB.out; omega
      case c4 => have := HPL.out; have := HKB.out; omega
      case c5 => have := HS4.out; simp; omega
      intro v' w5 hown' hgrow _
      have HTN : Hid (TI w w5 w2.heap.size b cap n (m / D.S) v' (ps ++ [r])) := mkHid (by
        rw [← HR.out]
        refine H.out.2.step hm HZ2.out (.cells #[.int .u64 (r : Int)] 22) ?_ hgrow
        rw [HR.out, ← ws_append ps [r]]; exact hown')
      have HG := mkHid hgrow
      clear hown' hgrow
      have HW5 : Hid (Words w5 b 0 zs) := mkHid (by
        refine HZ2.out.2.2.2.1.ofBlock fun h0 => ?_
        have e1 := HG.out.block b (by have := H.out.2.row.lt; have := HZ2.out.2.2.2.2.size; simp; omega) (fun e => by have := (H.out.2.own.lt b e.symm).1; have := H.out.2.lt; omega)
        rw [e1]
        exact (Below.refl w4.heap.size w4).alloc (Nat.le_refl _) _ |>.block b (by have := H.out.2.row.lt; have := HZ2.out.2.2.2.2.size; omega))
      have CT := mkHid (trim_any b 0 cap zs w5 (H.out.2.row.cap.1) (by rw [HZ2.out.1]; exact H.out.2.row.cap.2) HZ2.out.2.1 HW5.out)
      rw [HZ2.out.1, HLM.out, show M.val zs = m / D.S by rw [HZ2.out.2.2.1, M.val_dig]] at CT
      go_wp2_with fail
      refine CT.out.mono ?_
      rintro e w6 ⟨rfl, rfl⟩
      go_wp2_with fail
      go_roundg (m / D.S)
      case measure => have := H.out.1; have := div_S_lt hm; omega
      case rel => exact ⟨m / D.S, ps ++ [r], _, rfl, rfl, mkHid ⟨rfl, HTN.out⟩⟩

theorem text_any (n : Nat) (w : World) (hl : (M.dig n).length ≤ 1000) (ht : Tabs w) (h6 : 6 ≤ w.heap.size) :
    Calls Tryd.prog 29 #[natV n] w fun e w' => e = .returned (.string ⟨(Lib.decDigits n).toArray⟩) ∧ Below w.heap.size w w' := by
  rcases Nat.lt_or_ge n M.B with h | h
  · exact text_small n w h ht h6
  · exact text_large n w h hl ht h6
end Go.Proofs.YtflcdpolfimggaaDoor
namespace Go.Proofs.YtflcdpolfimggaaDoor
open Go.RowKit
namespace D
theorem isDec_nil : isDec [] = false := rfl
theorem isDec_long {l : List UInt8} (h : 2000 < l.length) : isDec l = false := by
  have : ¬ l.length ≤ 2000 := by omega
  simp [isDec, this]
theorem isDec_zero {l : List UInt8} (h : l.head? = some 48) (h2 : l ≠ [48]) : isDec l = false := by simp [isDec, h, h2]
theorem isDec_bad {l : List UInt8} {c : UInt8} (h : c ∈ l) (h2 : isDig c = false) : isDec l = false := by
  have : l.all isDig = false := by rw [List.all_eq_false]; exact ⟨c, h, by simp [h2]⟩
  unfold isDec; rw [this, Bool.and_false]
theorem isDec_ok {l : List UInt8} (h1 : l ≠ []) (h2 : l.length ≤ 2000) (h3 : l.head? ≠ some 48 ∨ l = [48]) (h4 : l.all isDig = true) : isDec l = true := by
  unfold isDec
  rw [h4, Bool.and_true]
  rcases h3 with h3 | h3
  · simp [h1, h2, h3]
  · subst h3; rfl
theorem isDec_facts {l : List UInt8} (h : isDec l = true) : l ≠ [] ∧ l.length ≤ 2000 ∧ l.all isDig = true := by
  simp only [isDec, Bool.and_eq_true, decide_eq_true_eq] at h
  exact ⟨by simpa using h.1.1.1, h.1.1.2, h.2⟩
end D
theorem str_len (s : ByteArray) : s.data.toList.length = s.size := by rw [Array.length_toList]; rfl
theorem str_get (s : ByteArray) (i : Nat) (h : i < s.size) : s.data.toList[i]'(by rw [str_len]; exact h) = s[i] := rfl
theorem str_toList (s : ByteArray) : s.toList = s.data.toList := by rw [ByteArray.toList_eq]

set_option maxRecDepth 100000 in
set_option maxHeartbeats 1000000 in
theorem isDecimal_any (s : ByteArray) (w : World) (hs : s.size ≤ maxLen) :
    Calls Tryd.prog 60 #[.string s] w fun e w' => e = .returned (.bool (D.isDec s.data.toList)) ∧ w = w' := by
  unfold maxLen at hs
  obtain ⟨R, hR⟩ : ∃ R, D.isDec s.data.toList = R := ⟨_, rfl⟩
  rw [hR]
  have HR := mkHid hR
  clear hR
  by_cases h0 : s.toList = []
  · have HF : Hid (R = false) := mkHid (by rw [← HR.out, ← str_toList, h0]; rfl)
    go_enter Tryd.func60, Tryd.ntmps60
    go_wp2
    go_ret
    exact ⟨by rw [HF.out]; rfl, rfl⟩
  · have hem : s.toList.isEmpty = false := by cases hc : s.toList with
      | nil => exact absurd hc h0
      | cons a t => rfl
    have hpos : 0 < s.size := by
      have := List.length_pos_iff.2 h0
      rwa [str_toList, str_len] at this
    by_cases hsz : s.size ≤ 2000
    · have hsz' : (s.size : Int) ≤ 2000 := by omega
      obtain ⟨c, hc⟩ : ∃ c, s[0] = c := ⟨_, rfl⟩
      have HH : Hid (s.data.toList.head? = some c) := mkHid (by
        rw [List.head?_eq_getElem?, List.getElem?_eq_getElem (by rw [str_len]; exact hpos), str_get s 0 hpos, hc])
      by_cases h48 : (c.toNat : Int) = 48
      · by_cases hone : (!s.toList == [48]) = true
        · have HF : Hid (R = false) := mkHid (by
            have hc48 : c = 48 := UInt8.toNat_inj.1 (by have : (48 : UInt8).toNat = 48 := rfl; omega)
            rw [← HR.out]
            refine D.isDec_zero (by rw [HH.out, hc48]) ?_
            rw [← str_toList]
            simpa using hone)
          go_enter Tryd.func60, Tryd.ntmps60
          go_wp2
          go_ret
          exact ⟨by rw [HF.out]; rfl, rfl⟩
        · have hone' : (!s.toList == [48]) = false := by simpa using hone
          have HT : Hid (s.data.toList.head? ≠ some 48 ∨ s.data.toList = [48]) := mkHid (.inr (by rw [← str_toList]; simpa using hone'))
          go_enter Tryd.func60, Tryd.ntmps60
          go_wp2
          go_loop [22] (fun iv => ∃ i : Nat, i ≤ s.size ∧ iv = .int .i64 i ∧ Hid (∀ j (_ : j < i) (h : j < s.size), D.isDig s[j] = true)) (fun iv => s.size - (intOf iv).toNat)
          case atStart => exact ⟨0, by omega, rfl, mkHid fun j hj _ => absurd hj (by omega)⟩
          case round =>
            obtain ⟨i, hi, rfl, H⟩ := hrel
            by_cases hlt : i < s.size
            · obtain ⟨d, hd⟩ : ∃ d, s[i] = d := ⟨_, rfl⟩
              have HDD := mkHid hd
              by_cases hd1 : (d.toNat : Int) < 48
              · have HF : Hid (R = false) := mkHid (by rw [← HR.out]; exact D.isDec_bad (c := s[i]) (by rw [← str_get s i hlt]; exact List.getElem_mem _) (by rw [HDD.out]; simp [D.isDig]; omega))
                go_wp2
                go_ret
                exact ⟨by rw [HF.out]; rfl, rfl⟩
              · by_cases hd2 : (57 : Int) < d.toNat
                · have HF : Hid (R = false) := mkHid (by rw [← HR.out]; exact D.isDec_bad (c := s[i]) (by rw [← str_get s i hlt]; exact List.getElem_mem _) (by rw [HDD.out]; simp [D.isDig]; omega))
                  go_wp2
                  go_ret
                  exact ⟨by rw [HF.out]; rfl, rfl⟩
                · go_wp2
                  go_round
                  case rel => exact ⟨i + 1, by omega, by go_num, mkHid fun j hj h => by
                    by_cases e : j = i
                    · subst e; rw [HDD.out]; simp [D.isDig]; omega
                    · exact H.out j (by omega) h⟩
                  case measure => simp [intOf]; omega
            · have hie : i = s.size := by omega
              subst hie
              have HF : Hid (R = true) := mkHid (by
                rw [← HR.out]
                refine D.isDec_ok (by rw [← str_toList]; exact h0) (by rw [str_len]; omega) HT.out ?_
                rw [List.all_eq_true]
                intro x hx
                obtain ⟨j, hj, rfl⟩ := List.getElem_of_mem hx
                rw [str_len] at hj
                rw [str_get s j hj]
                exact H.out j hj hj)
              go_wp2
              go_ret
              exact ⟨by rw [HF.out]; rfl, rfl⟩
      · have HT : Hid (s.data.toList.head? ≠ some 48 ∨ s.data.toList = [48]) := mkHid (.inl (by
          rw [HH.out]; intro e; injection e with e; subst e; exact h48 rfl))
        go_enter Tryd.func60, Tryd.ntmps60
        go_wp2
        go_loop [22] (fun iv => ∃ i : Nat, i ≤ s.size ∧ iv = .int .i64 i ∧ Hid (∀ j (_ : j < i) (h : j < s.size), D.isDig s[j] = true)) (fun iv => s.size - (intOf iv).toNat)
        case atStart => exact ⟨0, by omega, rfl, mkHid fun j hj _ => absurd hj (by omega)⟩
        case round =>
          obtain ⟨i, hi, rfl, H⟩ := hrel
          by_cases hlt : i < s.size
          · obtain ⟨d, hd⟩ : ∃ d, s[i] = d := ⟨_, rfl⟩
            have HDD := mkHid hd
            by_cases hd1 : (d.toNat : Int) < 48
            · have HF : Hid (R = false) := mkHid (by rw [← HR.out]; exact D.isDec_bad (c := s[i]) (by rw [← str_get s i hlt]; exact List.getElem_mem _) (by rw [HDD.out]; simp [D.isDig]; omega))
              go_wp2
              go_ret
              exact ⟨by rw [HF.out]; rfl, rfl⟩
            · by_cases hd2 : (57 : Int) < d.toNat
              · have HF : Hid (R = false) := mkHid (by rw [← HR.out]; exact D.isDec_bad (c := s[i]) (by rw [← str_get s i hlt]; exact List.getElem_mem _) (by rw [HDD.out]; simp [D.isDig]; omega))
                go_wp2
                go_ret
                exact ⟨by rw [HF.out]; rfl, rfl⟩
              · go_wp2
                go_round
                case rel => exact ⟨i + 1, by omega, by go_num, mkHid fun j hj h => by
                  by_cases e : j = i
                  · subst e; rw [HDD.out]; simp [D.isDig]; omega
                  · exact H.out j (by omega) h⟩
                case measure => simp [intOf]; omega
          · have hie : i = s.size := by omega
            subst hie
            have HF : Hid (R = true) := mkHid (by
              rw [← HR.out]
              refine D.isDec_ok (by rw [← str_toList]; exact h0) (by rw [str_len]; omega) HT.out ?_
              rw [List.all_eq_true]
              intro x hx
              obtain ⟨j, hj, rfl⟩ := List.getElem_of_mem hx
              rw [str_len] at hj
              rw [str_get s j hj]
              exact H.out j hj hj)
            go_wp2
            go_ret
            exact ⟨by rw [HF.out]; rfl, rfl⟩
    · have hsz' : ¬ (s.size : Int) ≤ 2000 := by omega
      have HF : Hid (R = false) := mkHid (by rw [← HR.out]; exact D.isDec_long (by rw [str_len]; omega))
      go_enter Tryd.func60, Tryd.ntmps60
      go_wp2
      all_goals
        go_ret
        exact ⟨by rw [HF.out]; rfl, rfl⟩
end Go.Proofs.YtflcdpolfimggaaDoor
namespace Go.Proofs.YtflcdpolfimggaaDoor
open Go.RowKit

/-- What Read has read so far: no words, or the words of a number in memory of the call's own. -/
def Acc (wv : Value) (w : World) (base m : Nat) : Prop :=
  (wv = .slice none 0 0 ∧ m = 0) ∨ ∃ b cap, wv = .slice (some ⟨b, 0, none⟩) (M.dig m).length cap ∧ Row w b cap (M.dig m) ∧ base ≤ b

set_option maxRecDepth 100000 in
set_option maxHeartbeats 1000000 in
theorem scaleWords_nil (d c base : Nat) (w : World) (hb : base ≤ w.heap.size) :
    Calls Tryd.prog 61 #[.slice none 0 0, .int .u64 d, .int .u64 c] w fun e w' => ∃ b' cap', e = .returned (.slice (some ⟨b', 0, none⟩) 1 cap') ∧ Hid (base ≤ b' ∧ Row w' b' cap' [c] ∧ Below base w w') := by
  obtain ⟨i0, hi, hz0, hz1, hz2⟩ := info_parts info64
  have I1 := mkHid hi; have I2 := mkHid hz0; have I3 := mkHid hz1; have I4 := mkHid hz2
  clear hi hz0 hz1 hz2
  have HBB := mkHid hb
  have HO : Hid (w.ownsRow base 22 1 (.slice none 0 0) 0 (ws [])) := mkHid ⟨by simp [ws], .inl ⟨rfl, rfl⟩⟩
  clear hb
  go_enter Tryd.func61, Tryd.ntmps61
  go_wp2
  refine wp_loop_rounds 1 ?_
  rw [rounds_succ]
  go_wp2_with (at_builtin; refine wpList_append_own _ rfl _ _ 76 rfl base 22 i0 (.int .u64 0) 1 8 Tryd.underlying76 I1.out I2.out I3.out I4.out rfl (by decide) _ _ _ rfl (HO.out.alloc _) ⟨w.heap.size, 0, none⟩ 1 1 [.int .u64 (c : Int)] rfl rfl ?c1 ?c2 ?c3 ?c4 ?c5 ?_)
  case c1 => exact new_one w _ _
  case c2 => intro u hu; simp at hu; subst hu; rfl
  case c3 => unfold maxLen; omega
  case c4 => omega
  case c5 => have := HBB.out; simp; omega
  intro v' w' hown' hgrow _
  have HOW := mkHid hown'; have HG := mkHid hgrow; clear hown' hgrow
  go_wp2
  go_ret
  obtain ⟨b', cap', rfl, hb', hrow, hn⟩ := Row.ofOwn (l := [c]) HOW.out (by omega)
  refine ⟨b', cap', rfl, mkHid ⟨hb', hrow, ?_⟩⟩
  have e2 : Below base w (w.alloc (.cells #[.int .u64 (c : Int)] 22)) := (Below.refl _ _).alloc HBB.out _
  exact e2.grown HG.out (by have := HBB.out; simp; omega) (fun k hk => by simp [Value.ownBlock] at hk)

theorem scaleWords_acc (wv : Value) (base m d c : Nat) (w : World) (h : Acc wv w base m) (hb : base ≤ w.heap.size) (hl : (M.dig m).length ≤ 1000000) (hd : d < M.B) (hc : c < M.B) :
    Calls Tryd.prog 61 #[wv, .int .u64 d, .int .u64 c] w fun e w' => ∃ b' cap' len, e = .returned (.slice (some ⟨b', 0, none⟩) len cap') ∧
      ∃ zs, Hid (zs.length = len ∧ M.Ok zs ∧ M.val zs = m * d + c ∧ base ≤ b' ∧ Row w' b' cap' zs ∧ Below base w w') := by
  rcases h with ⟨rfl, rfl⟩ | ⟨b, cap, rfl, hr, hbb⟩
  · refine (scaleWords_nil d c base w hb).mono ?_
    rintro e w' ⟨b', cap', rfl, H⟩
    exact ⟨b', cap', 1, rfl, [c], mkHid ⟨rfl, M.Ok.cons hc M.Ok.nil, by simp [M.val_cons], H.out.1, H.out.2.1, H.out.2.2⟩⟩
  · refine (scaleWords_any b cap d c base (M.dig m) w hr hbb hl (M.ok_dig m) hd hc).mono ?_
    rintro e w' ⟨b', cap', rfl, zs, H⟩
    exact ⟨b', cap', _, rfl, zs, mkHid ⟨H.out.1, H.out.2.1, by rw [H.out.2.2.1, M.val_dig], H.out.2.2.2.1, H.out.2.2.2.2.1, H.out.2.2.2.2.2⟩⟩

theorem str_drop (t : ByteArray) (n : Nat) : (t.extract n t.size).data.toList = t.data.toList.drop n := by
  rw [ByteArray.data_extract]
  simp only [Array.toList_extract]
  rw [List.extract_eq_take_drop]
  apply List.take_of_length_le
  rw [List.length_drop, str_len]
  omega

set_option maxRecDepth 100000 in
set_option maxHeartbeats 1000000 in
theorem read_bad (s : ByteArray) (w : World) (hs : s.size ≤ maxLen) (h : D.isDec s.data.toList = false) :
    Calls Tryd.prog 32 #[.string s] w fun e w' => e = .returned (.tuple #[natV 0, .bool false]) ∧ Below w.heap.size w w' := by
  have CI := mkHid (fun W => isDecimal_any s W hs)
  rw [h] at CI
  clear h hs
  have HA := mkHid (At2.new w w.heap.size 0 ⟨#[]⟩ rfl)
  have HB := mkHid ((Below.refl w.heap.size w).alloc (Nat.le_refl _) (.cells #[.int .u64 0, .string ⟨#[]⟩] 24))
  unfold natV
  rw [hs_small M.B_pos, Nat.zero_mod]
  go_enter Tryd.func32, Tryd.ntmps32
  go_wp2_with (go_at_call 60; refine (CI.out _).mono ?_; rintro e w2 ⟨rfl, rfl⟩)
  refine bodyPost_ret (v := .tuple #[.agg #[.int .u64 ((0 : Nat) : Int), .string ⟨#[]⟩], .bool false]) (by simp [results, Tryd.results32, go_sem]) rfl ⟨rfl, ?_⟩
  exact HB.out

/-- What the rounds of Read keep. -/
structure RI (w wr : World) (L : List UInt8) (t : ByteArray) (k m : Nat) (wv : Value) : Prop where
  len : k ≤ L.length
  rest : t.data.toList = L.drop k
  val : m = D.dv (L.take k)
  acc : Acc wv wr (w.heap.size + 1) m
  some : 0 < k → ∃ b cap, wv = .slice (some ⟨b, 0, none⟩) (M.dig m).length cap ∧ Row wr b cap (M.dig m)
  size : w.heap.size + 1 ≤ wr.heap.size
  below : Below (w.heap.size + 1) (w.alloc (.cells #[.int .u64 0, .string ⟨#[]⟩] 24)) wr

theorem dig_dv (l : List UInt8) (h : l.all D.isDig = true) : (M.dig (D.dv l)).length ≤ l.length :=
  M.dig_length_le.2 (Nat.lt_of_lt_of_le (D.dv_lt l h) (Nat.pow_le_pow_left (by rw [M.B_eq]; omega) _))

theorem take_get (t : ByteArray) (i : Nat) (h : i < t.size) : t.data.toList.take (i + 1) = t.data.toList.take i ++ [t[i]] := by
  rw [List.take_succ_eq_append_getElem (by rw [str_len]; exact h)]; rfl

set_option maxRecDepth 100000 in
set_option maxHeartbeats 2000000 in
theorem read_ok (s : ByteArray) (w : World) (hs : s.size ≤ maxLen) (h : D.isDec s.data.toList = true) :
    Calls Tryd.prog 32 #[.string s] w fun e w' => e = .returned (.tuple #[natV (D.dv s.data.toList), .bool true]) ∧ Below w.heap.size w w' := by
  have CI := mkHid (fun W => isDecimal_any s W hs)
  rw [h] at CI
  obtain ⟨f1, f2, f3⟩ := D.isDec_facts h
  have HD : Hid (∀ (l r p : List UInt8), s.data.toList = l ++ r ++ p → r.all D.isDig = true ∧ (l ++ r).all D.isDig = true) := mkHid fun l r p e => by
    rw [e, List.all_append, List.all_append] at f3
    simp only [Bool.and_eq_true] at f3
    exact ⟨f3.1.2, by rw [List.all_append, f3.1.1, f3.1.2]; rfl⟩
  have HL2 : Hid (s.data.toList.length ≤ 2000) := mkHid f2
  have HNE : Hid (0 < s.data.toList.length) := mkHid (List.length_pos_iff.2 f1)
  have HS0 : Hid (s.data.toList = s.data.toList) := mkHid rfl
  clear h hs f1 f2 f3
  have HA := mkHid (At2.new w w.heap.size 0 ⟨#[]⟩ rfl)
  have HB := mkHid ((Below.refl w.heap.size w).alloc (Nat.le_refl _) (.cells #[.int .u64 0, .string ⟨#[]⟩] 24))
  have HRI : Hid (RI w (w.alloc (.cells #[.int .u64 0, .string ⟨#[]⟩] 24)) s.data.toList s 0 0 (.slice none 0 0)) := mkHid ⟨by omega, by simp, rfl, .inl ⟨rfl, rfl⟩, fun h => absurd h (by omega), by simp, Below.refl _ _⟩
  generalize hL : s.data.toList = L at *
  have HL := mkHid hL
  clear hL
  obtain ⟨gl, hgl⟩ : ∃ gl, D.dv L % M.B = gl := ⟨_, rfl⟩
  obtain ⟨gh, hgh⟩ : ∃ gh, hs (D.dv L) = gh := ⟨_, rfl⟩
  unfold natV
  rw [hgl, hgh]
  have HGL := mkHid hgl; have HGH := mkHid hgh
  clear hgl hgh
  go_enter Tryd.func32, Tryd.ntmps32
  go_wp2_with (go_at_call 60; refine (CI.out _).mono ?_; rintro e w2 ⟨rfl, rfl⟩)
  clear CI
  go_loopw [0, 4] (fun sv wv wr => ∃ (k m : Nat) (t : ByteArray) (q : Value), sv = .string t ∧ q = wv ∧ Hid (RI w wr L t k m q)) (fun sv _ _ => match sv with | .string t => t.size | _ => 0)
  case atStart => exact ⟨0, 0, s, _, rfl, rfl, HRI.out⟩
  case round =>
    obtain ⟨k, m, t, wv, rfl, rfl, H⟩ := hrel
    clear HRI
    by_cases hlt : 0 < t.size
    · obtain ⟨n, hn, hn1, hn2, hn3⟩ : ∃ n : Nat, min (t.size : Int) 19 = (n : Int) ∧ n ≤ t.size ∧ n ≤ 19 ∧ 0 < n := ⟨min t.size 19, by omega, by omega, by omega, by omega⟩
      have HPARTS := mkHid (HD.out (L.take k) ((L.drop k).take n) ((L.drop k).drop n) (by rw [List.append_assoc, List.take_append_drop, List.take_append_drop]))
      have HDT : Hid (∀ i (_ : i < n) (h : i < t.size), 48 ≤ t[i].toNat ∧ t[i].toNat ≤ 57) := mkHid fun i h1 h2 => by
        refine D.isDig_le ?_
        have h3 := HPARTS.out.1
        rw [← H.out.rest, List.all_eq_true] at h3
        refine h3 _ ?_
        rw [← str_get t i h2]
        exact List.mem_take_iff_getElem.2 ⟨i, by rw [str_len]; omega, rfl⟩
      have HPT : Hid (∀ i, i ≤ n → D.dv (t.data.toList.take i) < 10 ^ i) := mkHid fun i hi => by
        have h3 := HPARTS.out.1
        rw [← H.out.rest] at h3
        have h4 : (t.data.toList.take i).all D.isDig = true := by
          rw [List.all_eq_true] at h3 ⊢
          intro x hx
          exact h3 x (List.take_subset_take_left _ hi hx)
        have h5 := D.dv_lt _ h4
        refine Nat.lt_of_lt_of_le h5 (Nat.pow_le_pow_right (by omega) ?_)
        rw [List.length_take]; omega
      have HML := mkHid (show (M.dig m).length ≤ 1000000 by
        have h1 := dig_dv (L.take k) (by have h2 := HPARTS.out.2; rw [List.all_append, Bool.and_eq_true] at h2; exact h2.1)
        rw [← H.out.val] at h1
        have h3 := HL2.out
        rw [List.length_take] at h1
        omega)
      obtain ⟨wo, hwo⟩ : ∃ wo : World, wo = wr := ⟨_, rfl⟩
      subst hwo
      go_wp2_with fail
      go_loop [5, 6, 20] (fun pv sv iv => ∃ i pt sc : Nat, i ≤ n ∧ iv = .int .i64 i ∧ pv = .int .u64 pt ∧ sv = .int .u64 sc ∧ Hid (pt = D.dv (t.data.toList.take i) ∧ sc = 10 ^ i)) (fun _ _ iv => n - (intOf iv).toNat)
      case atStart => exact ⟨0, 0, 1, by omega, rfl, rfl, rfl, mkHid ⟨rfl, rfl⟩⟩
      case round =>
        obtain ⟨i, pt, sc, hi, rfl, rfl, rfl, G⟩ := hrel
        by_cases hil : i < n
        · have hit : i < t.size := by omega
          obtain ⟨d, hd⟩ : ∃ d, t[i] = d := ⟨_, rfl⟩
          have hd1 := HDT.out i hil hit
          rw [hd] at hd1
          have hd2 : (48 : Int) ≤ d.toNat := by omega
          have hd3 : (d.toNat : Int) ≤ 57 := by omega
          have hp18 : 10 ^ i ≤ 1000000000000000000 := Nat.le_trans (Nat.pow_le_pow_right (by omega) (show i ≤ 18 by omega)) (by decide)
          have hpt : (pt : Int) ≤ 999999999999999999 := by have := HPT.out i (by omega); rw [← G.out.1] at this; omega
          have hsc : (sc : Int) ≤ 1000000000000000000 := by have := G.out.2; omega
          have HNEW : Hid (pt * 10 + (d.toNat - 48) = D.dv (t.data.toList.take (i + 1)) ∧ sc * 10 = 10 ^ (i + 1)) := mkHid ⟨by rw [take_get t i hit, D.dv_snoc, ← G.out.1, hd], by rw [Nat.pow_succ, G.out.2]⟩
          have HD1 := mkHid hd1
          clear hp18 hd1
          go_wp2
          go_round
          case rel => exact ⟨i + 1, pt * 10 + (d.toNat - 48), sc * 10, by omega, by go_num, by have := HD1.out; congr 1; omega, by congr 1, HNEW⟩
          case measure => simp [intOf]; omega
        · have hie : i = n := by omega
          subst hie
          have hp19 : 10 ^ i ≤ 10000000000000000000 := Nat.le_trans (Nat.pow_le_pow_right (by omega) hn2) (by decide)
          have hptB : pt < M.B := by have := HPT.out i (by omega); rw [← G.out.1] at this; rw [M.B_eq]; omega
          have hscB : sc < M.B := by rw [G.out.2, M.B_eq]; omega
          have CS := mkHid (scaleWords_acc wv (w.heap.size + 1) m sc pt wo H.out.acc H.out.size HML.out hscB hptB)
          clear hp19 hptB hscB
          go_wp2_with fail
          refine CS.out.mono ?_
          rintro e w3 ⟨b', cap', ln, rfl, zs, HZ⟩
          have CT := mkHid (trim_any b' 0 cap' zs w3 HZ.out.2.2.2.2.1.cap.1 HZ.out.2.2.2.2.1.cap.2 HZ.out.2.1 HZ.out.2.2.2.2.1.words)
          rw [HZ.out.1] at CT
          clear CS
          go_wp2_with fail
          refine CT.out.mono ?_
          rintro e w4 ⟨rfl, rfl⟩
          have HNX : Hid (RI w w3 L (t.extract i t.size) (k + i) (M.val zs) (.slice (some ⟨b', 0, none⟩) (M.dig (M.val zs)).length cap')) := mkHid (by
            have hkn : k + i ≤ L.length := by
              have h1 := H.out.rest
              have h2 := congrArg List.length h1
              rw [str_len, List.length_drop] at h2
              have := H.out.len
              omega
            have hr : Row w3 b' cap' (M.dig (M.val zs)) := by
              rw [M.dig_prefix HZ.out.2.1]; exact HZ.out.2.2.2.2.1.take _
            refine ⟨hkn, ?_, ?_, .inr ⟨b', cap', rfl, hr, HZ.out.2.2.2.1⟩, fun _ => ⟨b', cap', rfl, hr⟩, Nat.le_trans H.out.size HZ.out.2.2.2.2.2.size, H.out.below.trans HZ.out.2.2.2.2.2⟩
            · rw [str_drop, H.out.rest, List.drop_drop]
            · rw [HZ.out.2.2.1, List.take_add, D.dv_cat, ← H.out.val, G.out.1, G.out.2, H.out.rest]
              rw [List.length_take, List.length_drop, Nat.min_eq_left (by omega)])
          clear CT
          go_wp2_with fail
          go_roundw
          case rel => exact ⟨k + i, M.val zs, t.extract i t.size, _, rfl, rfl, HNX⟩
          case measure => simp; omega
    · have hz : t.size = 0 := by omega
      have hk : k = L.length := by
        have h2 := congrArg List.length H.out.rest
        rw [str_len, hz, List.length_drop] at h2
        have := H.out.len
        omega
      obtain ⟨b, cap, rfl, hr⟩ := H.out.some (by rw [hk]; exact HNE.out)
      have HM : Hid (m = D.dv L) := mkHid (by rw [H.out.val, hk, List.take_length])
      have HML := mkHid (show (M.dig m).length ≤ 100000 by
        have h1 := dig_dv L (HD.out [] L [] (by simp)).1
        rw [← HM.out] at h1
        have := HL2.out; omega)
      have CP := mkHid (pack_any b cap (M.dig m) wr hr HML.out (M.ok_dig m))
      rw [show natV (M.val (M.dig m)) = natV (D.dv L) by rw [M.val_dig, HM.out]] at CP
      have HBW := mkHid (HB.out.trans (H.out.below.mono (by omega)))
      have HAW := mkHid (HA.out.below H.out.below (by omega))
      clear hk hr
      unfold natV at CP
      rw [HGL.out, HGH.out] at CP
      go_wp2_with (go_at_call 53; refine CP.out.mono ?_; rintro e w5 ⟨rfl, hb⟩; have HB5 := mkHid hb; clear hb; obtain ⟨ha1, ha2, haf1, haf2⟩ := HAW.out.grows HB5.out)
      refine bodyPost_ret (v := .tuple #[.agg #[.int .u64 (gl : Int), .string gh], .bool true]) (by simp [results, Tryd.results32, go_sem, ha1, ha2]) rfl ⟨rfl, ?_⟩
      exact setCells_below (HBW.out.trans (HB5.out.mono HBW.out.size)) _ (Nat.le_refl _) _ _

/-- The decimal form of a number is read as the number. -/
theorem read_dec (n : Nat) (w : World) (h : Lib.nDigits n ≤ 2000) :
    Calls Tryd.prog 32 #[.string ⟨(Lib.decDigits n).toArray⟩] w fun e w' => e = .returned (.tuple #[natV n, .bool true]) ∧ Below w.heap.size w w' := by
  have e : (⟨(Lib.decDigits n).toArray⟩ : ByteArray).data.toList = Lib.decDigits n := by simp
  have := read_ok ⟨(Lib.decDigits n).toArray⟩ w (by rw [← str_len, e, Lib.decDigits_length]; unfold maxLen; omega) (by rw [e]; exact D.isDec_dec n h)
  rwa [e, D.dv_dec] at this
end Go.Proofs.YtflcdpolfimggaaDoor
namespace Go.Proofs.YtflcdpolfimggaaDoor
open Go.RowKit

/-- A number's lowest word, and the bytes of its other ones. -/
def lo (n : Nat) : Nat := n % M.B
def hi (n : Nat) : ByteArray := hs n
theorem natV_lohi (n : Nat) : natV n = .agg #[.int .u64 ((lo n : Nat) : Int), .string (hi n)] := rfl
theorem lo_zero : lo 0 = 0 := Nat.zero_mod _
theorem hi_zero : hi 0 = ⟨#[]⟩ := hs_small M.B_pos
theorem lohi_inj {a b : Nat} (h : lo a = lo b) (h2 : hi a = hi b) : a = b := hs_inj h2 h
/-- At most 900 words. -/
def Sm (n : Nat) : Prop := (M.dig n).length ≤ 900
/-- W has grown from w, and holds the tables. -/
structure St (w W : World) : Prop where
  below : Below w.heap.size w W
  tabs : Tabs W
  six : 6 ≤ w.heap.size
theorem St.refl {w : World} (h : Tabs w) (h6 : 6 ≤ w.heap.size) : St w w := ⟨Below.refl _ _, h, h6⟩
theorem St.size {w W : World} (h : St w W) : w.heap.size ≤ W.heap.size := h.below.size
theorem St.next {w W w' : World} (h : St w W) (hb : Below W.heap.size W w') : St w w' :=
  ⟨h.below.trans (hb.mono h.size), h.tabs.below hb (Nat.le_trans h.six h.size), h.six⟩
theorem St.alloc {w W : World} (h : St w W) (o : Obj) : St w (W.alloc o) := h.next ((Below.refl _ _).alloc (Nat.le_refl _) o)
theorem St.drew {w W : World} (h : St w W) : St w W.drew := ⟨⟨h.below.os, h.below.tape, h.below.output, h.below.size, h.below.block⟩, h.tabs, h.six⟩
theorem St.drewN {w W : World} (h : St w W) (n : Nat) : St w (W.drewN n) := ⟨⟨h.below.os, h.below.tape, h.below.output, h.below.size, h.below.block⟩, h.tabs, h.six⟩
theorem St.six' {w W : World} (h : St w W) : 6 ≤ W.heap.size := Nat.le_trans h.six h.size
/-- What stands in an old block still stands. -/
theorem St.cell {W w' : World} (hb : Below W.heap.size W w') {b o : Nat} {v : Value} (h : W.cell? ⟨b, o, none⟩ = some v) : w'.cell? ⟨b, o, none⟩ = some v :=
  (hb.cell (p := ⟨b, o, none⟩) (World.block_lt_of_cell? W _ h)).trans h

/-- What a call that makes memory says. -/
abbrev Gives (F : FuncId) (args : Array Value) (v : Value) : Prop :=
  ∀ W : World, Tabs W → 6 ≤ W.heap.size → Calls Tryd.prog F args W fun e w' => e = .returned v ∧ Below W.heap.size W w'
abbrev nv (n : Nat) : Value := .agg #[.int .u64 ((lo n : Nat) : Int), .string (hi n)]

theorem of_g (n : Nat) (h : n < M.B) : Gives 37 #[.int .u64 (n : Int)] (nv n) := fun W _ _ => of_any n W h
theorem add_g (a b : Nat) (ha : Sm a) (hb : Sm b) : Gives 42 #[nv a, nv b] (nv (a + b)) := fun W _ _ => add_any a b W (Nat.le_trans ha (by omega)) (Nat.le_trans hb (by omega))
theorem mul_g (a b : Nat) (ha : Sm a) (hb : Sm b) : Gives 44 #[nv a, nv b] (nv (a * b)) := fun W _ _ => mul_any a b W (Nat.le_trans ha (by omega)) (Nat.le_trans hb (by omega))
theorem gcd_g (a b : Nat) (ha : Sm a) (hb : Sm b) : Gives 26 #[nv a, nv b] (nv (Nat.gcd a b)) := fun W t s => gcd_any a b W (Nat.le_trans ha (by omega)) (Nat.le_trans hb (by omega)) t s
theorem div_g (a b : Nat) (ha : Sm a) (h0 : b ≠ 0) : Gives 50 #[nv a, nv b] (.tuple #[nv (a / b), nv (a % b), .bool true]) := fun W _ _ => div_any a b W h0 (Nat.le_trans ha (by omega))
theorem div_z (a : Nat) : Gives 50 #[nv a, nv 0] (.tuple #[nv 0, nv 0, .bool false]) := fun W _ _ => div_zero a W
theorem text_g (a : Nat) (ha : Sm a) : Gives 29 #[nv a] (.string ⟨(Lib.decDigits a).toArray⟩) := fun W t s => text_any a W (Nat.le_trans ha (by omega)) t s
theorem cmp_g (a b : Nat) : Gives 48 #[nv a, nv b] (.int .i64 (Lib.compareInt (a : Int) (b : Int))) := fun W _ _ => cmp_any a b W
theorem readn_g (n : Nat) (h : Lib.nDigits n ≤ 2000) : Gives 32 #[.string ⟨(Lib.decDigits n).toArray⟩] (.tuple #[nv n, .bool true]) := fun W _ _ => read_dec n W h

theorem sm_le {a b : Nat} (h : a ≤ b) (hb : Sm b) : Sm a := Nat.le_trans (dig_mono h) hb
theorem sm_pow {n k : Nat} (h : n < M.B ^ k) (hk : k ≤ 900) : Sm n := Nat.le_trans (M.dig_length_le.2 h) hk
theorem sm_word {n : Nat} (h : n < M.B) : Sm n := sm_pow (k := 1) (by rw [Nat.pow_one]; exact h) (by omega)

end Go.Proofs.YtflcdpolfimggaaDoor
namespace Go.Proofs.YtflcdpolfimggaaDoor
namespace Q

/-- Lowest terms. -/
def Lo (p q : Nat) : Prop := 0 < q ∧ Nat.Coprime p q
/-- The quotient n/d in lowest terms. -/
def rn (n d : Nat) : Nat := n / Nat.gcd n d
def rd (n d : Nat) : Nat := d / Nat.gcd n d
theorem uniq {p q p' q' : Nat} (h : Lo p q) (h' : Lo p' q') (e : p * q' = p' * q) : p = p' ∧ q = q' := by
  have d1 : q ∣ q' := h.2.symm.dvd_of_dvd_mul_left (by rw [e]; exact Nat.dvd_mul_left q p')
  have d2 : q' ∣ q := h'.2.symm.dvd_of_dvd_mul_left (by rw [← e]; exact Nat.dvd_mul_left q' p)
  have eq := Nat.dvd_antisymm d1 d2
  subst eq
  exact ⟨Nat.eq_of_mul_eq_mul_right h.1 e, rfl⟩
theorem low (n d : Nat) (hd : 0 < d) : Lo (rn n d) (rd n d) := by
  have hg : 0 < Nat.gcd n d := Nat.gcd_pos_of_pos_right n hd
  exact ⟨Nat.div_pos (Nat.le_of_dvd hd (Nat.gcd_dvd_right n d)) hg, Nat.coprime_div_gcd_div_gcd hg⟩
theorem low_eq (n d : Nat) : rn n d * d = n * rd n d := by
  unfold rn rd
  obtain ⟨a, ha⟩ := Nat.gcd_dvd_left n d
  obtain ⟨b, hb⟩ := Nat.gcd_dvd_right n d
  rcases Nat.eq_zero_or_pos (Nat.gcd n d) with h0 | h0
  · rw [h0]; simp
  · generalize Nat.gcd n d = g at *
    subst ha; subst hb
    rw [Nat.mul_div_cancel_left _ h0, Nat.mul_div_cancel_left _ h0]
    grind
/-- What is in lowest terms and equal to n/d is rn, rd. -/
theorem is_low {p q n d : Nat} (h : Lo p q) (hd : 0 < d) (e : p * d = n * q) : p = rn n d ∧ q = rd n d := by
  have h1 := low n d hd
  have h2 := low_eq n d
  refine uniq h h1 ?_
  refine Nat.eq_of_mul_eq_mul_right hd ?_
  generalize rn n d = a at *
  generalize rd n d = b at *
  have : p * b * d = n * q * b := by rw [← e]; grind
  rw [this]
  have : a * q * d = n * b * q := by rw [← h2]; grind
  rw [this]
  grind
theorem lo_self {p q : Nat} (h : Lo p q) : rn p q = p ∧ rd p q = q := by
  obtain ⟨a, b⟩ := is_low h h.1 rfl
  exact ⟨a.symm, b.symm⟩
theorem low_scale (n d k : Nat) (hd : 0 < d) (hk : 0 < k) : rn (k * n) (k * d) = rn n d ∧ rd (k * n) (k * d) = rd n d := by
  have h := low n d hd
  have e := low_eq n d
  obtain ⟨a, b⟩ := is_low (n := k * n) (d := k * d) h (Nat.mul_pos hk hd) (by grind)
  exact ⟨a.symm, b.symm⟩
/-- Equal quotients have the same lowest terms. -/
theorem low_cross {n d n' d' : Nat} (hd : 0 < d) (hd' : 0 < d') (e : n * d' = n' * d) : rn n d = rn n' d' ∧ rd n d = rd n' d' := by
  have h := low n d hd
  have e1 := low_eq n d
  refine is_low h hd' ?_
  refine Nat.eq_of_mul_eq_mul_right hd ?_
  generalize rn n d = a at *
  generalize rd n d = b at *
  have : a * d' * d = n * b * d' := by rw [← e1]; grind
  rw [this]
  have : n' * b * d = n * d' * b := by rw [e]; grind
  rw [this]
  grind
theorem cop_of {n u p v w : Nat} (h : n + w * u = p * v) (h1 : Nat.Coprime p u) (h2 : Nat.Coprime v u) : Nat.Coprime n u := by
  have : Nat.gcd (n + w * u) u = 1 := by rw [h]; exact Nat.Coprime.mul_left h1 h2
  rwa [Nat.gcd_add_mul_right_left] at this
/-- The sum or difference n over the least common multiple, made lowest as the program does. -/
theorem sum_low {p1 q1 p2 q2 n : Nat} (h1 : Lo p1 q1) (h2 : Lo p2 q2) (hn : n = p1 * (q2 / Nat.gcd q1 q2) + p2 * (q1 / Nat.gcd q1 q2) ∨ n + p2 * (q1 / Nat.gcd q1 q2) = p1 * (q2 / Nat.gcd q1 q2)) :
    Lo (n / Nat.gcd n (Nat.gcd q1 q2)) (q1 / Nat.gcd q1 q2 * (q2 / Nat.gcd n (Nat.gcd q1 q2))) ∧
    n / Nat.gcd n (Nat.gcd q1 q2) * (q1 * q2) = (n * Nat.gcd q1 q2) * (q1 / Nat.gcd q1 q2 * (q2 / Nat.gcd n (Nat.gcd q1 q2))) := by
  have hg : 0 < Nat.gcd q1 q2 := Nat.gcd_pos_of_pos_right q1 h2.1
  have huv := Nat.coprime_div_gcd_div_gcd hg
  obtain ⟨u, hu⟩ := Nat.gcd_dvd_left q1 q2
  obtain ⟨v, hv⟩ := Nat.gcd_dvd_right q1 q2
  obtain ⟨g, eg⟩ : ∃ g, Nat.gcd q1 q2 = g := ⟨_, rfl⟩
  rw [eg] at hn hg huv hu hv ⊢
  have e1 : q1 / g = u := by rw [hu, Nat.mul_div_cancel_left _ hg]
  have e2 : q2 / g = v := by rw [hv, Nat.mul_div_cancel_left _ hg]
  rw [e1, e2] at hn huv
  rw [e1]
  have hu0 : 0 < u := by
    have := h1.1; rw [hu] at this; exact Nat.pos_of_mul_pos_left this
  have hv0 : 0 < v := by
    have := h2.1; rw [hv] at this; exact Nat.pos_of_mul_pos_left this
  have c1 : Nat.Coprime p1 u := Nat.Coprime.coprime_dvd_right ⟨g, by rw [hu, Nat.mul_comm]⟩ h1.2
  have c2 : Nat.Coprime p2 v := Nat.Coprime.coprime_dvd_right ⟨g, by rw [hv, Nat.mul_comm]⟩ h2.2
  have n1 : Nat.Coprime n u := by
    rcases hn with hn | hn
    · rw [hn]
      show Nat.gcd (p1 * v + p2 * u) u = 1
      rw [Nat.gcd_add_mul_right_left]
      exact Nat.Coprime.mul_left c1 huv.symm
    · exact cop_of hn c1 huv.symm
  have n2 : Nat.Coprime n v := by
    rcases hn with hn | hn
    · rw [hn, Nat.add_comm]
      show Nat.gcd (p2 * u + p1 * v) v = 1
      rw [Nat.gcd_add_mul_right_left]
      exact Nat.Coprime.mul_left c2 huv
    · have h3 : Nat.gcd (n + p2 * u) v = Nat.gcd 0 v := by rw [hn, Nat.gcd_mul_left_left, Nat.gcd_zero_left]
      have h4 : Nat.Coprime (p2 * u) v := Nat.Coprime.mul_left c2 huv
      have d1 : Nat.gcd n v ∣ n := Nat.gcd_dvd_left n v
      have d2 : Nat.gcd n v ∣ v := Nat.gcd_dvd_right n v
      have d3 : Nat.gcd n v ∣ p1 * v := Nat.dvd_trans d2 (Nat.dvd_mul_left v p1)
      rw [← hn] at d3
      have d4 : Nat.gcd n v ∣ p2 * u := (Nat.dvd_add_right d1).1 d3
      have d5 := Nat.dvd_gcd d4 d2
      rw [h4] at d5
      exact Nat.dvd_one.1 d5
  have hh : 0 < Nat.gcd n g := Nat.gcd_pos_of_pos_right n hg
  have hc := Nat.coprime_div_gcd_div_gcd hh
  obtain ⟨m, hm⟩ := Nat.gcd_dvd_left n g
  obtain ⟨k, hk⟩ := Nat.gcd_dvd_right n g
  obtain ⟨h, eh⟩ : ∃ h, Nat.gcd n g = h := ⟨_, rfl⟩
  rw [eh] at hh hc hm hk ⊢
  have e3 : n / h = m := by rw [hm, Nat.mul_div_cancel_left _ hh]
  have e4 : g / h = k := by rw [hk, Nat.mul_div_cancel_left _ hh]
  have e5 : q2 / h = k * v := by rw [hv, hk, Nat.mul_assoc, Nat.mul_div_cancel_left _ hh]
  rw [e3, e4] at hc
  rw [e3, e5]
  have m1 : Nat.Coprime m u := Nat.Coprime.coprime_dvd_left ⟨h, by rw [hm, Nat.mul_comm]⟩ n1
  have m2 : Nat.Coprime m v := Nat.Coprime.coprime_dvd_left ⟨h, by rw [hm, Nat.mul_comm]⟩ n2
  have hk0 : 0 < k := by rw [hk] at hg; exact Nat.pos_of_mul_pos_left hg
  refine ⟨⟨Nat.mul_pos hu0 (Nat.mul_pos hk0 hv0), Nat.Coprime.mul_right m1 (Nat.Coprime.mul_right hc m2)⟩, ?_⟩
  rw [hu, hv, hm]
  grind
theorem add_low {p1 q1 p2 q2 : Nat} (h1 : Lo p1 q1) (h2 : Lo p2 q2) (n : Nat) (hn : n = p1 * (q2 / Nat.gcd q1 q2) + p2 * (q1 / Nat.gcd q1 q2)) :
    n / Nat.gcd n (Nat.gcd q1 q2) = rn (p1 * q2 + p2 * q1) (q1 * q2) ∧ q1 / Nat.gcd q1 q2 * (q2 / Nat.gcd n (Nat.gcd q1 q2)) = rd (p1 * q2 + p2 * q1) (q1 * q2) := by
  obtain ⟨a, b⟩ := sum_low h1 h2 (.inl hn)
  refine is_low a (Nat.mul_pos h1.1 h2.1) ?_
  rw [b, hn]
  congr 1
  obtain ⟨u, hu⟩ := Nat.gcd_dvd_left q1 q2
  obtain ⟨v, hv⟩ := Nat.gcd_dvd_right q1 q2
  have hg : 0 < Nat.gcd q1 q2 := Nat.gcd_pos_of_pos_right q1 h2.1
  generalize Nat.gcd q1 q2 = g at *
  subst hu; subst hv
  rw [Nat.mul_div_cancel_left _ hg, Nat.mul_div_cancel_left _ hg]
  grind
/-- The numerators of a difference. -/
theorem sub_num {p1 q1 p2 q2 : Nat} (h2 : 0 < q2) : (p1 * (q2 / Nat.gcd q1 q2) - p2 * (q1 / Nat.gcd q1 q2)) * Nat.gcd q1 q2 = p1 * q2 - p2 * q1 ∧ (p2 * (q1 / Nat.gcd q1 q2) ≤ p1 * (q2 / Nat.gcd q1 q2) ↔ p2 * q1 ≤ p1 * q2) := by
  obtain ⟨u, hu⟩ := Nat.gcd_dvd_left q1 q2
  obtain ⟨v, hv⟩ := Nat.gcd_dvd_right q1 q2
  have hg : 0 < Nat.gcd q1 q2 := Nat.gcd_pos_of_pos_right q1 h2
  generalize Nat.gcd q1 q2 = g at *
  subst hu; subst hv
  rw [Nat.mul_div_cancel_left _ hg, Nat.mul_div_cancel_left _ hg]
  have e1 : p1 * (g * v) = p1 * v * g := by grind
  have e2 : p2 * (g * u) = p2 * u * g := by grind
  rw [e1, e2, Nat.sub_mul]
  exact ⟨rfl, ⟨fun h => Nat.mul_le_mul_right g h, fun h => Nat.le_of_mul_le_mul_right h hg⟩⟩
theorem sub_low {p1 q1 p2 q2 : Nat} (h1 : Lo p1 q1) (h2 : Lo p2 q2) (hle : p2 * q1 ≤ p1 * q2) (n : Nat) (hn : n = p1 * (q2 / Nat.gcd q1 q2) - p2 * (q1 / Nat.gcd q1 q2)) :
    n / Nat.gcd n (Nat.gcd q1 q2) = rn (p1 * q2 - p2 * q1) (q1 * q2) ∧ q1 / Nat.gcd q1 q2 * (q2 / Nat.gcd n (Nat.gcd q1 q2)) = rd (p1 * q2 - p2 * q1) (q1 * q2) := by
  obtain ⟨s1, s2⟩ := sub_num (p1 := p1) (q1 := q1) (p2 := p2) h2.1
  have := s2.2 hle
  obtain ⟨a, b⟩ := sum_low h1 h2 (n := n) (.inr (by omega))
  refine is_low a (Nat.mul_pos h1.1 h2.1) ?_
  rw [b, hn, s1]
theorem mul_low {p1 q1 p2 q2 : Nat} (h1 : Lo p1 q1) (h2 : Lo p2 q2) :
    p1 / Nat.gcd p1 q2 * (p2 / Nat.gcd p2 q1) = rn (p1 * p2) (q1 * q2) ∧ q1 / Nat.gcd p2 q1 * (q2 / Nat.gcd p1 q2) = rd (p1 * p2) (q1 * q2) := by
  have hg : 0 < Nat.gcd p1 q2 := Nat.gcd_pos_of_pos_right p1 h2.1
  have hh : 0 < Nat.gcd p2 q1 := Nat.gcd_pos_of_pos_right p2 h1.1
  have c1 := Nat.coprime_div_gcd_div_gcd hg
  have c2 := Nat.coprime_div_gcd_div_gcd hh
  obtain ⟨a, ha⟩ := Nat.gcd_dvd_left p1 q2
  obtain ⟨b, hb⟩ := Nat.gcd_dvd_right p1 q2
  obtain ⟨c, hc⟩ := Nat.gcd_dvd_left p2 q1
  obtain ⟨d, hd⟩ := Nat.gcd_dvd_right p2 q1
  generalize Nat.gcd p1 q2 = g at *
  generalize Nat.gcd p2 q1 = h at *
  have e1 : p1 / g = a := by rw [ha, Nat.mul_div_cancel_left _ hg]
  have e2 : q2 / g = b := by rw [hb, Nat.mul_div_cancel_left _ hg]
  have e3 : p2 / h = c := by rw [hc, Nat.mul_div_cancel_left _ hh]
  have e4 : q1 / h = d := by rw [hd, Nat.mul_div_cancel_left _ hh]
  rw [e1, e2] at c1
  rw [e3, e4] at c2
  rw [e1, e2, e3, e4]
  have c3 : Nat.Coprime a d := Nat.Coprime.coprime_dvd_left ⟨g, by rw [ha, Nat.mul_comm]⟩ (Nat.Coprime.coprime_dvd_right ⟨h, by rw [hd, Nat.mul_comm]⟩ h1.2)
  have c4 : Nat.Coprime c b := Nat.Coprime.coprime_dvd_left ⟨h, by rw [hc, Nat.mul_comm]⟩ (Nat.Coprime.coprime_dvd_right ⟨g, by rw [hb, Nat.mul_comm]⟩ h2.2)
  have hb0 : 0 < b := by have := h2.1; rw [hb] at this; exact Nat.pos_of_mul_pos_left this
  have hd0 : 0 < d := by have := h1.1; rw [hd] at this; exact Nat.pos_of_mul_pos_left this
  refine is_low ⟨Nat.mul_pos hd0 hb0, Nat.Coprime.mul_left (Nat.Coprime.mul_right c3 c1) (Nat.Coprime.mul_right c2 c4)⟩ (Nat.mul_pos h1.1 h2.1) ?_
  rw [ha, hb, hc, hd]
  grind
end Q
end Go.Proofs.YtflcdpolfimggaaDoor
namespace Go.Proofs.YtflcdpolfimggaaDoor
namespace Q

/-- p/q, in lowest terms, is n/d. -/
def V (p q n d : Nat) : Prop := Lo p q ∧ 0 < d ∧ p * d = n * q
theorem V.self {p q : Nat} (h : Lo p q) : V p q p q := ⟨h, h.1, rfl⟩
theorem V.low (n d : Nat) (hd : 0 < d) : V (rn n d) (rd n d) n d := ⟨Q.low n d hd, hd, low_eq n d⟩
theorem V.to {p q n d n' d' : Nat} (h : V p q n d) (hd : 0 < d') (e : n * d' = n' * d) : V p q n' d' := by
  obtain ⟨h1, h2, h3⟩ := h
  refine ⟨h1, hd, Nat.eq_of_mul_eq_mul_right h2 ?_⟩
  have : p * d' * d = n * q * d' := by rw [← h3]; grind
  rw [this]
  have : n * q * d' = n' * d * q := by rw [← e]; grind
  rw [this]; grind
theorem V.uniq {p q p' q' n d n' d' : Nat} (h : V p q n d) (h' : V p' q' n' d') (e : n * d' = n' * d) : p = p' ∧ q = q' := by
  have h2 := h.to h'.2.1 e
  obtain ⟨a, b⟩ := is_low h2.1 h2.2.1 h2.2.2
  obtain ⟨c, d⟩ := is_low h'.1 h'.2.1 h'.2.2
  exact ⟨a.trans c.symm, b.trans d.symm⟩
theorem V.add {p1 q1 n1 d1 p2 q2 n2 d2 p q : Nat} (h1 : V p1 q1 n1 d1) (h2 : V p2 q2 n2 d2) (h : V p q (p1 * q2 + p2 * q1) (q1 * q2)) : V p q (n1 * d2 + n2 * d1) (d1 * d2) := by
  refine h.to (Nat.mul_pos h1.2.1 h2.2.1) ?_
  have a := h1.2.2
  have b := h2.2.2
  have e1 : p1 * q2 * (d1 * d2) = n1 * d2 * (q1 * q2) := by
    have : p1 * q2 * (d1 * d2) = p1 * d1 * (q2 * d2) := by grind
    rw [this, a]; grind
  have e2 : p2 * q1 * (d1 * d2) = n2 * d1 * (q1 * q2) := by
    have : p2 * q1 * (d1 * d2) = p2 * d2 * (q1 * d1) := by grind
    rw [this, b]; grind
  rw [Nat.add_mul, Nat.add_mul, e1, e2]
theorem V.mul {p1 q1 n1 d1 p2 q2 n2 d2 p q : Nat} (h1 : V p1 q1 n1 d1) (h2 : V p2 q2 n2 d2) (h : V p q (p1 * p2) (q1 * q2)) : V p q (n1 * n2) (d1 * d2) := by
  refine h.to (Nat.mul_pos h1.2.1 h2.2.1) ?_
  have a := h1.2.2
  have b := h2.2.2
  have : p1 * p2 * (d1 * d2) = (p1 * d1) * (p2 * d2) := by grind
  rw [this, a, b]; grind
theorem V.le {p1 q1 n1 d1 p2 q2 n2 d2 : Nat} (h1 : V p1 q1 n1 d1) (h2 : V p2 q2 n2 d2) : (p2 * q1 ≤ p1 * q2 ↔ n2 * d1 ≤ n1 * d2) := by
  have a := h1.2.2
  have b := h2.2.2
  have e1 : p1 * q2 * (d1 * d2) = n1 * d2 * (q1 * q2) := by
    have : p1 * q2 * (d1 * d2) = p1 * d1 * (q2 * d2) := by grind
    rw [this, a]; grind
  have e2 : p2 * q1 * (d1 * d2) = n2 * d1 * (q1 * q2) := by
    have : p2 * q1 * (d1 * d2) = p2 * d2 * (q1 * d1) := by grind
    rw [this, b]; grind
  have hd := Nat.mul_pos h1.2.1 h2.2.1
  have hq := Nat.mul_pos h1.1.1 h2.1.1
  constructor
  · intro h
    have := Nat.mul_le_mul_right (d1 * d2) h
    rw [e1, e2] at this
    exact Nat.le_of_mul_le_mul_right this hq
  · intro h
    have := Nat.mul_le_mul_right (q1 * q2) h
    rw [← e1, ← e2] at this
    exact Nat.le_of_mul_le_mul_right this hd
theorem V.sub {p1 q1 n1 d1 p2 q2 n2 d2 p q : Nat} (h1 : V p1 q1 n1 d1) (h2 : V p2 q2 n2 d2) (h : V p q (p1 * q2 - p2 * q1) (q1 * q2)) : V p q (n1 * d2 - n2 * d1) (d1 * d2) := by
  refine h.to (Nat.mul_pos h1.2.1 h2.2.1) ?_
  have a := h1.2.2
  have b := h2.2.2
  have e1 : p1 * q2 * (d1 * d2) = n1 * d2 * (q1 * q2) := by
    have : p1 * q2 * (d1 * d2) = p1 * d1 * (q2 * d2) := by grind
    rw [this, a]; grind
  have e2 : p2 * q1 * (d1 * d2) = n2 * d1 * (q1 * q2) := by
    have : p2 * q1 * (d1 * d2) = p2 * d2 * (q1 * d1) := by grind
    rw [this, b]; grind
  rw [Nat.sub_mul, Nat.sub_mul, e1, e2]

/-- Both parts are below the k-th power of the word. -/
def Bd (B k p q : Nat) : Prop := p < B ^ k ∧ q < B ^ k
theorem Bd.low {B k n d : Nat} (h : n < B ^ k) (h2 : d < B ^ k) : Bd B k (rn n d) (rd n d) := ⟨Nat.lt_of_le_of_lt (Nat.div_le_self _ _) h, Nat.lt_of_le_of_lt (Nat.div_le_self _ _) h2⟩
theorem mul_lt {B i j a b : Nat} (hB : 0 < B) (h1 : a < B ^ i) (h2 : b < B ^ j) : a * b < B ^ (i + j) := by
  rw [Nat.pow_add]
  exact Nat.mul_lt_mul_of_lt_of_le h1 (Nat.le_of_lt h2) (Nat.pow_pos hB)
theorem pow_up {B i j a : Nat} (hB : 0 < B) (h1 : a < B ^ i) (h : i ≤ j) : a < B ^ j := Nat.lt_of_lt_of_le h1 (Nat.pow_le_pow_right hB h)
theorem Bd.add {B i j p1 q1 p2 q2 : Nat} (hB : 2 ≤ B) (h1 : Bd B i p1 q1) (h2 : Bd B j p2 q2) : p1 * q2 + p2 * q1 < B ^ (i + j + 1) ∧ q1 * q2 < B ^ (i + j + 1) := by
  have a := mul_lt (by omega) h1.1 h2.2
  have b := mul_lt (by omega) h2.1 h1.2
  have c := mul_lt (by omega) h1.2 h2.2
  rw [Nat.add_comm j i] at b
  have e : B ^ (i + j) * 2 ≤ B ^ (i + j + 1) := by rw [Nat.pow_succ]; exact Nat.mul_le_mul_left _ hB
  omega
end Q
end Go.Proofs.YtflcdpolfimggaaDoor
namespace Go.Proofs.YtflcdpolfimggaaDoor
open Go.RowKit Q

/-- A quotient in a block of its own. -/
def At4 (w : World) (b l : Nat) (h : ByteArray) (l2 : Nat) (h2 : ByteArray) : Prop :=
  (w.cell? ⟨b, 0, none⟩ = some (.int .u64 (l : Int)) ∧ w.cell? ⟨b, 1, none⟩ = some (.string h) ∧ w.cell? ⟨b, 2, none⟩ = some (.int .u64 (l2 : Int)) ∧ w.cell? ⟨b, 3, none⟩ = some (.string h2)) ∧
  (w.frozen? ⟨b, 0, none⟩ = false ∧ w.frozen? ⟨b, 1, none⟩ = false ∧ w.frozen? ⟨b, 2, none⟩ = false ∧ w.frozen? ⟨b, 3, none⟩ = false)
theorem At4.lt {w : World} {b l l2 : Nat} {h h2 : ByteArray} (H : At4 w b l h l2 h2) : b < w.heap.size := World.block_lt_of_cell? w _ H.1.1
theorem At4.grows {w w' : World} {b l l2 : Nat} {h h2 : ByteArray} (H : At4 w b l h l2 h2) (hb : Below w.heap.size w w') : At4 w' b l h l2 h2 :=
  ⟨⟨(hb.cell (p := ⟨b, 0, none⟩) H.lt).trans H.1.1, (hb.cell (p := ⟨b, 1, none⟩) H.lt).trans H.1.2.1, (hb.cell (p := ⟨b, 2, none⟩) H.lt).trans H.1.2.2.1, (hb.cell (p := ⟨b, 3, none⟩) H.lt).trans H.1.2.2.2⟩,
   ⟨(hb.frozen (p := ⟨b, 0, none⟩) H.lt).trans H.2.1, (hb.frozen (p := ⟨b, 1, none⟩) H.lt).trans H.2.2.1, (hb.frozen (p := ⟨b, 2, none⟩) H.lt).trans H.2.2.2.1, (hb.frozen (p := ⟨b, 3, none⟩) H.lt).trans H.2.2.2.2⟩⟩
theorem At4.alloc {w : World} {b l l2 : Nat} {h h2 : ByteArray} (H : At4 w b l h l2 h2) (o : Obj) : At4 (w.alloc o) b l h l2 h2 := H.grows ((Below.refl _ _).alloc (Nat.le_refl _) o)
theorem At4.drew {w : World} {b l l2 : Nat} {h h2 : ByteArray} (H : At4 w b l h l2 h2) : At4 w.drew b l h l2 h2 := H
theorem At4.new (w : World) (n l : Nat) (h : ByteArray) (l2 : Nat) (h2 : ByteArray) (hn : n = w.heap.size) : At4 (w.alloc (.cells #[.int .u64 (l : Int), .string h, .int .u64 (l2 : Int), .string h2] 26)) n l h l2 h2 := by
  subst hn
  have hb : (w.alloc (.cells #[.int .u64 (l : Int), .string h, .int .u64 (l2 : Int), .string h2] 26)).heap[w.heap.size]? = some (.cells #[.int .u64 (l : Int), .string h, .int .u64 (l2 : Int), .string h2] 26 (0, 0)) := heap_alloc_new w _
  refine ⟨⟨?_, ?_, ?_, ?_⟩, ⟨?_, ?_, ?_, ?_⟩⟩
  · simp only [World.cell?, hb]; rfl
  · simp only [World.cell?, hb]; rfl
  · simp only [World.cell?, hb]; rfl
  · simp only [World.cell?, hb]; rfl
  · simp only [World.frozen?, hb]; rfl
  · simp only [World.frozen?, hb]; rfl
  · simp only [World.frozen?, hb]; rfl
  · simp only [World.frozen?, hb]; rfl
theorem setCells4_below {w W : World} {B : Nat} (h : Below B w W) (b : Nat) (hb : B ≤ b) (x y z u : Value) : Below B w ((((W.setCell ⟨b, 0, none⟩ x).setCell ⟨b, 1, none⟩ y).setCell ⟨b, 2, none⟩ z).setCell ⟨b, 3, none⟩ u) :=
  (((h.setCell (p := ⟨b, 0, none⟩) hb _).setCell (p := ⟨b, 1, none⟩) hb _).setCell (p := ⟨b, 2, none⟩) hb _).setCell (p := ⟨b, 3, none⟩) hb _

/-- The denominator as it is kept: 1 as 0. -/
def dz (q : Nat) : Nat := if q = 1 then 0 else q
theorem dz_one : dz 1 = 0 := rfl
theorem dz_ne {q : Nat} (h : q ≠ 1) : dz q = q := if_neg h
/-- A quotient as a value. -/
abbrev rv (p q : Nat) : Value := .agg #[.int .u64 ((lo p : Nat) : Int), .string (hi p), .int .u64 ((lo (dz q) : Nat) : Int), .string (hi (dz q))]
theorem nv_ne {a b : Nat} (h : a ≠ b) : ((lo a : Int) == (lo b : Int)) = false ∨ (lo a = lo b ∧ ((hi a).toList == (hi b).toList) = false) := by
  by_cases hl : lo a = lo b
  · refine .inr ⟨hl, ?_⟩
    rw [beq_eq_false_iff_ne]; intro e
    exact h (lohi_inj hl (ByteArray.ext (by have := congrArg List.toArray e; simpa [ByteArray.toList_eq] using this)))
  · exact .inl (by rw [beq_eq_false_iff_ne]; omega)

set_option maxRecDepth 100000 in
set_option maxHeartbeats 2000000 in
theorem quotient_g (n d : Nat) (hn : Sm n) (hd : d ≠ 0) : Gives 31 #[nv n, nv d] (nv (n / d)) := by
  intro W ht h6
  have CD := mkHid (div_g n d hn hd)
  unfold nv at *
  clear hn hd
  generalize lo (n / d) = lq at *
  generalize hi (n / d) = kq at *
  generalize lo (n % d) = lr at *
  generalize hi (n % d) = kr at *
  generalize lo n = ln at *
  generalize hi n = kn at *
  generalize lo d = ld at *
  generalize hi d = kd at *
  have HS := mkHid ((((St.refl ht h6).alloc (.cells #[.int .u64 (ln : Int), .string kn] 24)).alloc (.cells #[.int .u64 (ld : Int), .string kd] 24)).alloc (.cells #[.int .u64 0, .string ⟨#[]⟩] 24))
  have HR := mkHid (At2.new ((W.alloc (.cells #[.int .u64 (ln : Int), .string kn] 24)).alloc (.cells #[.int .u64 (ld : Int), .string kd] 24)) (W.heap.size + 1 + 1) 0 ⟨#[]⟩ (by simp))
  clear ht h6
  go_enter Tryd.func31, Tryd.ntmps31
  go_wp2_with (first
    | (go_at_call 50; refine (CD.out _ HS.out.tabs HS.out.six').mono ?_; rintro e w2 ⟨rfl, hb⟩; have HS2 := mkHid (((HS.out.next hb).alloc (.cells #[.int .u64 (lq : Int), .string kq] 24)).alloc (.cells #[.int .u64 (lr : Int), .string kr] 24)); have HR2 := mkHid (((HR.out.grows hb).alloc (.cells #[.int .u64 (lq : Int), .string kq] 24)).alloc (.cells #[.int .u64 (lr : Int), .string kr] 24)); have HQ := mkHid ((At2.new w2 w2.heap.size lq kq rfl).alloc (.cells #[.int .u64 (lr : Int), .string kr] 24)); clear hb; obtain ⟨r0, r1, f0, f1⟩ := HR2.out; obtain ⟨q0, q1, -, -⟩ := HQ.out))
  refine bodyPost_ret (v := .agg #[.int .u64 (lq : Int), .string kq]) (by simp [results, Tryd.results31, go_sem, r0, r1]) rfl ⟨rfl, ?_⟩
  exact setCells_below HS2.out.below _ (by omega) _ _

set_option maxRecDepth 100000 in
set_option maxHeartbeats 2000000 in
theorem den_g (p q : Nat) (hq : 0 < q) : Gives 28 #[rv p q] (nv q) := by
  intro W ht h6
  by_cases h1 : q = 1
  · subst h1
    have CO := mkHid (of_g 1 (by decide))
    unfold rv
    rw [dz_one]
    unfold nv at *
    rw [lo_zero, hi_zero]
    generalize lo p = lp at *
    generalize hi p = kp at *
    generalize lo 1 = l1 at *
    generalize hi 1 = k1 at *
    have HS := mkHid (((St.refl ht h6).alloc (.cells #[.int .u64 (lp : Int), .string kp, .int .u64 ((0 : Nat) : Int), .string ⟨#[]⟩] 26)).alloc (.cells #[.int .u64 0, .string ⟨#[]⟩] 24))
    have HR := mkHid (At2.new (W.alloc (.cells #[.int .u64 (lp : Int), .string kp, .int .u64 ((0 : Nat) : Int), .string ⟨#[]⟩] 26)) (W.heap.size + 1) 0 ⟨#[]⟩ (by simp))
    clear ht h6
    go_enter Tryd.func28, Tryd.ntmps28
    go_wp2_with (first
      | (go_at_call 37; refine (CO.out _ HS.out.tabs HS.out.six').mono ?_; rintro e w2 ⟨rfl, hb⟩; have HS2 := mkHid (HS.out.next hb); have HR2 := mkHid (HR.out.grows hb); clear hb; obtain ⟨r0, r1, f0, f1⟩ := HR2.out))
    refine bodyPost_ret (v := .agg #[.int .u64 (l1 : Int), .string k1]) (by simp [results, Tryd.results28, go_sem, r0, r1]) rfl ⟨rfl, ?_⟩
    exact setCells_below HS2.out.below _ (by omega) _ _
  · have hne := nv_ne (show q ≠ 0 by omega)
    rw [lo_zero, hi_zero] at hne
    unfold rv
    rw [dz_ne h1]
    unfold nv at *
    generalize lo p = lp at *
    generalize hi p = kp at *
    generalize lo q = lq at *
    generalize hi q = kq at *
    have HS := mkHid (((St.refl ht h6).alloc (.cells #[.int .u64 (lp : Int), .string kp, .int .u64 (lq : Int), .string kq] 26)).alloc (.cells #[.int .u64 0, .string ⟨#[]⟩] 24))
    have HR := mkHid (At2.new (W.alloc (.cells #[.int .u64 (lp : Int), .string kp, .int .u64 (lq : Int), .string kq] 26)) (W.heap.size + 1) 0 ⟨#[]⟩ (by simp))
    obtain ⟨-, -, f0, f1⟩ := HR.out
    clear ht h6
    rcases hne with hne | ⟨rfl, hne⟩
    · have hne' : ((lq : Int) == 0) = false := hne
      go_enter Tryd.func28, Tryd.ntmps28
      go_wp2
      refine bodyPost_ret (v := .agg #[.int .u64 (lq : Int), .string kq]) (by simp [results, Tryd.results28, go_sem]) rfl ⟨rfl, ?_⟩
      exact ((Below.refl _ _).alloc (Nat.le_refl _) _).alloc (by simp) _
    · have hne' : kq.toList.isEmpty = false := by
        cases hc : kq.toList with
        | nil => rw [hc] at hne; simp at hne
        | cons a t => rfl
      go_enter Tryd.func28, Tryd.ntmps28
      go_wp2
      refine bodyPost_ret (v := .agg #[.int .u64 ((0 : Nat) : Int), .string kq]) (by simp [results, Tryd.results28, go_sem]) rfl ⟨rfl, ?_⟩
      exact ((Below.refl _ _).alloc (Nat.le_refl _) _).alloc (by simp) _

set_option maxRecDepth 100000 in
set_option maxHeartbeats 4000000 in
theorem pack_g (n d : Nat) : Gives 30 #[nv n, nv d] (rv n d) := by
  intro W ht h6
  have CO := mkHid (of_g 1 (by decide))
  by_cases h1 : d = 1
  · subst h1
    unfold rv
    rw [dz_one]
    unfold nv at *
    rw [lo_zero, hi_zero]
    generalize lo n = ln at *
    generalize hi n = kn at *
    generalize lo 1 = ld at *
    generalize hi 1 = kd at *
    have HS := mkHid (((((St.refl ht h6).alloc (.cells #[.int .u64 (ln : Int), .string kn] 24)).alloc (.cells #[.int .u64 (ld : Int), .string kd] 24)).alloc (.cells #[.int .u64 0, .string ⟨#[]⟩, .int .u64 0, .string ⟨#[]⟩] 26)).drew)
    have HN := mkHid ((((At2.new W W.heap.size ln kn rfl).alloc (.cells #[.int .u64 (ld : Int), .string kd] 24)).alloc (.cells #[.int .u64 0, .string ⟨#[]⟩, .int .u64 0, .string ⟨#[]⟩] 26)).drew)
    have HD := mkHid (((At2.new (W.alloc (.cells #[.int .u64 (ln : Int), .string kn] 24)) (W.heap.size + 1) ld kd (by simp)).alloc (.cells #[.int .u64 0, .string ⟨#[]⟩, .int .u64 0, .string ⟨#[]⟩] 26)).drew)
    have HR := mkHid ((At4.new ((W.alloc (.cells #[.int .u64 (ln : Int), .string kn] 24)).alloc (.cells #[.int .u64 (ld : Int), .string kd] 24)) (W.heap.size + 1 + 1) 0 ⟨#[]⟩ 0 ⟨#[]⟩ (by simp)).drew)
    obtain ⟨d0, d1, -, -⟩ := HD.out
    clear ht h6
    go_enter Tryd.func30, Tryd.ntmps30
    go_wp2_with fail
    go_region_with (first
      | (go_at_call 37; refine (CO.out _ HS.out.tabs HS.out.six').mono ?_; rintro e w2 ⟨rfl, hb⟩; have HS2 := mkHid (HS.out.next hb); have HN2 := mkHid (HN.out.grows hb); have HD2 := mkHid (HD.out.grows hb); have HR2 := mkHid (HR.out.grows hb); clear hb; obtain ⟨n0, n1, -, -⟩ := HN2.out; obtain ⟨d0', d1', -, -⟩ := HD2.out; obtain ⟨⟨r0, r1, r2, r3⟩, f0, f1, f2, f3⟩ := HR2.out))
    all_goals
      go_wp2_with fail
      refine bodyPost_ret (v := .agg #[.int .u64 (ln : Int), .string kn, .int .u64 ((0 : Nat) : Int), .string ⟨#[]⟩]) (by simp [results, Tryd.results30, go_sem, r0, r1, r2, r3]) rfl ⟨rfl, ?_⟩
      exact setCells4_below HS2.out.below (W.heap.size + 1 + 1) (by omega) _ _ _ _
  · have hne := nv_ne h1
    unfold rv
    rw [dz_ne h1]
    unfold nv at *
    generalize lo n = ln at *
    generalize hi n = kn at *
    generalize lo d = ld at *
    generalize hi d = kd at *
    generalize lo 1 = lo1 at *
    generalize hi 1 = ko1 at *
    have HS := mkHid (((((St.refl ht h6).alloc (.cells #[.int .u64 (ln : Int), .string kn] 24)).alloc (.cells #[.int .u64 (ld : Int), .string kd] 24)).alloc (.cells #[.int .u64 0, .string ⟨#[]⟩, .int .u64 0, .string ⟨#[]⟩] 26)).drew)
    have HN := mkHid ((((At2.new W W.heap.size ln kn rfl).alloc (.cells #[.int .u64 (ld : Int), .string kd] 24)).alloc (.cells #[.int .u64 0, .string ⟨#[]⟩, .int .u64 0, .string ⟨#[]⟩] 26)).drew)
    have HD := mkHid (((At2.new (W.alloc (.cells #[.int .u64 (ln : Int), .string kn] 24)) (W.heap.size + 1) ld kd (by simp)).alloc (.cells #[.int .u64 0, .string ⟨#[]⟩, .int .u64 0, .string ⟨#[]⟩] 26)).drew)
    have HR := mkHid ((At4.new ((W.alloc (.cells #[.int .u64 (ln : Int), .string kn] 24)).alloc (.cells #[.int .u64 (ld : Int), .string kd] 24)) (W.heap.size + 1 + 1) 0 ⟨#[]⟩ 0 ⟨#[]⟩ (by simp)).drew)
    obtain ⟨d0, d1, -, -⟩ := HD.out
    clear ht h6
    have goal2 : ∀ (hx : ((ld : Int) == (lo1 : Int)) = false ∨ (ld = lo1 ∧ (kd.toList == ko1.toList) = false)), Calls Tryd.prog 30 #[.agg #[.int .u64 (ln : Int), .string kn], .agg #[.int .u64 (ld : Int), .string kd]] W fun e w' => e = .returned (.agg #[.int .u64 (ln : Int), .string kn, .int .u64 (ld : Int), .string kd]) ∧ Below W.heap.size W w' := by
      intro hx
      rcases hx with hx | ⟨rfl, hx⟩
      all_goals
        go_enter Tryd.func30, Tryd.ntmps30
        go_wp2_with fail
        go_region_with (first
          | (go_at_call 37; refine (CO.out _ HS.out.tabs HS.out.six').mono ?_; rintro e w2 ⟨rfl, hb⟩; have HS2 := mkHid (HS.out.next hb); have HN2 := mkHid (HN.out.grows hb); have HD2 := mkHid (HD.out.grows hb); have HR2 := mkHid (HR.out.grows hb); clear hb; obtain ⟨n0, n1, -, -⟩ := HN2.out; obtain ⟨d0', d1', -, -⟩ := HD2.out; obtain ⟨⟨r0, r1, r2, r3⟩, f0, f1, f2, f3⟩ := HR2.out))
        all_goals
          go_wp2_with fail
          refine bodyPost_ret (v := .agg #[.int .u64 (ln : Int), .string kn, .int .u64 (ld : Int), .string kd]) (by simp [results, Tryd.results30, go_sem, r0, r1, r2, r3]) rfl ⟨rfl, ?_⟩
          exact setCells4_below HS2.out.below (W.heap.size + 1 + 1) (by omega) _ _ _ _
    exact goal2 hne
end Go.Proofs.YtflcdpolfimggaaDoor
namespace Go.Proofs.YtflcdpolfimggaaDoor
open Go.Lib

theorem less_snoc : ∀ (x y : List UInt8) (c d : UInt8), x.length = y.length → Op.bytesLess (x ++ [c]) (y ++ [d]) = (Op.bytesLess x y || (decide (x = y) && decide (c < d)))
  | [], [], c, d, _ => by simp [Op.bytesLess]
  | a :: x, b :: y, c, d, h => by
    have ih := less_snoc x y c d (by simpa using h)
    simp only [List.cons_append, Op.bytesLess, ih]
    by_cases h1 : a < b
    · simp [h1]
    · by_cases h2 : a = b
      · subst h2; simp [h1]
      · have h3 : (a == b) = false := by simpa using h2
        simp [h1, h2, h3]
  | [], _ :: _, _, _, h => by simp at h
  | _ :: _, [], _, _, h => by simp at h
theorem digit_lt (a b : Nat) (ha : a < 10) (hb : b < 10) : decide (UInt8.ofNat (48 + a) < UInt8.ofNat (48 + b)) = decide (a < b) := by
  rw [Bool.eq_iff_iff, decide_eq_true_eq, decide_eq_true_eq, UInt8.lt_iff_toNat_lt, D.dig_toNat a ha, D.dig_toNat b hb]
  omega
/-- Of as many digits, the bytes decide. -/
theorem dec_less (a b : Nat) (h : nDigits a = nDigits b) : Op.bytesLess (decDigits a) (decDigits b) = decide (a < b) := by
  induction a using Nat.strongRecOn generalizing b with
  | ind a ih =>
    by_cases h1 : a < 10
    · have h2 : b < 10 := by
        apply Nat.lt_of_not_le; intro h2
        rw [nDigits_small h1, nDigits_big (by omega)] at h
        have := nDigits_pos (b / 10); omega
      rw [D.dec_small h1, D.dec_small h2]
      have := less_snoc [] [] (UInt8.ofNat (48 + a)) (UInt8.ofNat (48 + b)) rfl
      simp only [List.nil_append] at this
      rw [this, digit_lt a b h1 h2]
      simp [Op.bytesLess]
    · have h2 : ¬ b < 10 := by
        intro h2
        rw [nDigits_small h2, nDigits_big h1] at h
        have := nDigits_pos (a / 10); omega
      rw [nDigits_big h1, nDigits_big h2] at h
      have h3 : nDigits (a / 10) = nDigits (b / 10) := by omega
      rw [D.dec_big h1, D.dec_big h2, less_snoc _ _ _ _ (by rw [decDigits_length, decDigits_length, h3]), ih (a / 10) (by omega) (b / 10) h3, digit_lt _ _ (by omega) (by omega)]
      have h4 : decide (decDigits (a / 10) = decDigits (b / 10)) = decide (a / 10 = b / 10) := by
        rw [Bool.eq_iff_iff, decide_eq_true_eq, decide_eq_true_eq]
        exact ⟨D.dec_inj, fun e => by rw [e]⟩
      rw [h4, Bool.eq_iff_iff]
      simp only [Bool.or_eq_true, Bool.and_eq_true, decide_eq_true_eq]
      omega
theorem nDigits_mono (a b : Nat) (h : a ≤ b) : nDigits a ≤ nDigits b := by
  have h1 := lt_pow_nDigits b
  obtain ⟨k, hk⟩ : ∃ k, nDigits b = k + 1 := ⟨nDigits b - 1, by have := nDigits_pos b; omega⟩
  rw [hk] at h1 ⊢
  exact D.nDigits_le k a (by omega)
theorem nDigits_lt (a b : Nat) (h : nDigits a < nDigits b) : a < b := by
  apply Nat.lt_of_not_le; intro h1
  have := nDigits_mono b a h1; omega

/-! ### Binary digits -/
end Go.Proofs.YtflcdpolfimggaaDoor
namespace Go.Proofs.YtflcdpolfimggaaDoor
open Go.Lib
namespace SD

/-- A number's decimal form. -/
def ds (n : Nat) : ByteArray := ⟨(decDigits n).toArray⟩
theorem ds_list (n : Nat) : (ds n).toList = decDigits n := by rw [ByteArray.toList_eq]; simp [ds]
theorem ds_data (n : Nat) : (ds n).data.toList = decDigits n := by simp [ds]
theorem ds_size (n : Nat) : (ds n).size = nDigits n := by
  rw [← decDigits_length]; simp [ds, ByteArray.size]
theorem ds_inj {a b : Nat} (h : ds a = ds b) : a = b := D.dec_inj (by rw [← ds_data, h, ds_data])
/-- The digit with place i. -/
def dg (n i : Nat) : Nat := n / 10 ^ i % 10
theorem dg_lt (n i : Nat) : dg n i < 10 := Nat.mod_lt _ (by omega)
theorem dg_zero (n i : Nat) (h : nDigits n ≤ i) : dg n i = 0 := by
  unfold dg
  have h1 := lt_pow_nDigits n
  have h2 : 10 ^ nDigits n ≤ 10 ^ i := Nat.pow_le_pow_right (by omega) h
  rw [Nat.div_eq_of_lt (Nat.lt_of_lt_of_le h1 h2)]
theorem dec_get (i : Nat) : ∀ n, (h : i < nDigits n) → (decDigits n)[nDigits n - 1 - i]'(by rw [decDigits_length]; omega) = UInt8.ofNat (48 + dg n i) := by
  induction i with
  | zero =>
    intro n h
    by_cases h1 : n < 10
    · have e := D.dec_small h1
      have : (decDigits n)[nDigits n - 1 - 0]? = some (UInt8.ofNat (48 + dg n 0)) := by
        rw [nDigits_small h1, e]
        simp [dg, Nat.mod_eq_of_lt h1]
      exact (List.getElem?_eq_some_iff.1 this).2
    · have : (decDigits n)[nDigits n - 1 - 0]? = some (UInt8.ofNat (48 + dg n 0)) := by
        rw [D.dec_big h1, nDigits_big h1, Nat.sub_zero, Nat.add_sub_cancel, List.getElem?_append_right (by rw [decDigits_length]; omega), decDigits_length, Nat.sub_self]
        simp [dg]
      exact (List.getElem?_eq_some_iff.1 this).2
  | succ i ih =>
    intro n h
    have h1 : ¬ n < 10 := by intro h1; rw [nDigits_small h1] at h; omega
    have h2 : i < nDigits (n / 10) := by rw [nDigits_big h1] at h; omega
    have : (decDigits n)[nDigits n - 1 - (i + 1)]? = some (UInt8.ofNat (48 + dg n (i + 1))) := by
      rw [D.dec_big h1, nDigits_big h1, show nDigits (n / 10) + 1 - 1 - (i + 1) = nDigits (n / 10) - 1 - i by omega, List.getElem?_append_left (by rw [decDigits_length]; omega), List.getElem?_eq_getElem (by rw [decDigits_length]; omega), ih _ h2]
      unfold dg
      rw [Nat.div_div_eq_div_mul, Nat.pow_succ, Nat.mul_comm 10]
    exact (List.getElem?_eq_some_iff.1 this).2
theorem ds_get (n i : Nat) (h : i < nDigits n) : (ds n)[nDigits n - 1 - i]'(by rw [ds_size]; omega) = UInt8.ofNat (48 + dg n i) := by
  rw [← dec_get i n h]; rfl

/-- The number of digits, the lowest one first. -/
def val : List Nat → Nat
  | [] => 0
  | x :: xs => x + 10 * val xs
theorem val_append (a b : List Nat) : val (a ++ b) = val a + 10 ^ a.length * val b := by
  induction a with
  | nil => simp [val]
  | cons x a ih =>
    simp only [List.cons_append, val, ih, List.length_cons, Nat.pow_succ]
    rw [Nat.mul_add, ← Nat.add_assoc, ← Nat.mul_assoc, Nat.mul_comm (10 ^ a.length) 10]
theorem val_snoc (a : List Nat) (x : Nat) : val (a ++ [x]) = val a + 10 ^ a.length * x := by rw [val_append]; simp [val]
theorem val_lt (l : List Nat) (h : ∀ x ∈ l, x < 10) : val l < 10 ^ l.length := by
  induction l with
  | nil => simp [val]
  | cons x l ih =>
    have h1 := ih (fun y hy => h y (by simp [hy]))
    have h2 := h x (by simp)
    simp only [val, List.length_cons, Nat.pow_succ]
    omega
theorem val_zeros (n : Nat) : val (List.replicate n 0) = 0 := by
  induction n with
  | zero => rfl
  | succ n ih => rw [List.replicate_succ, val, ih]
theorem val_set (l : List Nat) : ∀ (j y x : Nat), l[j]? = some x → val (l.set j y) + 10 ^ j * x = val l + 10 ^ j * y := by
  induction l with
  | nil => intro j y x h; simp at h
  | cons z l ih =>
    intro j y x h
    cases j with
    | zero =>
      simp at h
      subst h
      simp [val]
      omega
    | succ j =>
      simp at h
      have h1 := ih j y x h
      simp only [List.set_cons_succ, val, Nat.pow_succ]
      have e1 : 10 ^ j * 10 * x = 10 * (10 ^ j * x) := by rw [Nat.mul_comm (10 ^ j) 10, Nat.mul_assoc]
      have e2 : 10 ^ j * 10 * y = 10 * (10 ^ j * y) := by rw [Nat.mul_comm (10 ^ j) 10, Nat.mul_assoc]
      rw [e1, e2]
      omega
/-- The bytes of digits, the highest one first. -/
def bs (l : List Nat) : List UInt8 := l.reverse.map fun x => UInt8.ofNat (48 + x)
theorem bs_length (l : List Nat) : (bs l).length = l.length := by simp [bs]
theorem bs_cons (x : Nat) (l : List Nat) : bs (x :: l) = bs l ++ [UInt8.ofNat (48 + x)] := by simp [bs]
theorem val_pos (l : List Nat) (h : ∃ x, l.getLast? = some x ∧ x ≠ 0) : 0 < val l := by
  induction l with
  | nil => obtain ⟨x, hx, _⟩ := h; simp at hx
  | cons y l ih =>
    obtain ⟨x, hx, h0⟩ := h
    cases l with
    | nil =>
      simp at hx
      subst hx
      simp only [val]; omega
    | cons z l =>
      have := ih ⟨x, by simpa using hx, h0⟩
      simp only [val] at this ⊢; omega
theorem dec_bs (l : List Nat) (hd : ∀ x ∈ l, x < 10) (h : (∃ x, l.getLast? = some x ∧ x ≠ 0) ∨ l.length = 1) : decDigits (val l) = bs l := by
  induction l with
  | nil => rcases h with ⟨x, hx, _⟩ | h <;> simp at *
  | cons x l ih =>
    have hx := hd x (by simp)
    cases l with
    | nil => simp only [val, Nat.mul_zero, Nat.add_zero]; rw [D.dec_small hx]; rfl
    | cons z l =>
      have hl : ∃ y, (z :: l).getLast? = some y ∧ y ≠ 0 := by
        rcases h with ⟨y, hy, h0⟩ | h
        · exact ⟨y, by simpa using hy, h0⟩
        · simp at h
      have hp := val_pos _ hl
      rw [bs_cons, ← ih (fun y hy => hd y (by simp [hy])) (.inl hl)]
      have e : val (x :: z :: l) = x + 10 * val (z :: l) := rfl
      rw [e, D.dec_big (by omega), show (x + 10 * val (z :: l)) / 10 = val (z :: l) by omega, show (x + 10 * val (z :: l)) % 10 = x by omega]
/-- What form writes: of the first k digits, behind which there are none but zeros. -/
theorem form_bytes (l : List Nat) (hd : ∀ x ∈ l, x < 10) (k : Nat) (hk : k ≤ l.length) (hv : val (l.take k) = val l) (h1 : 1 ≤ k) (h : k = 1 ∨ ∃ x, l[k - 1]? = some x ∧ x ≠ 0) : bs (l.take k) = decDigits (val l) := by
  rw [← hv]
  symm
  refine dec_bs _ (fun x hx => hd x (List.mem_of_mem_take hx)) ?_
  rcases h with h | ⟨x, hx, h0⟩
  · right; rw [List.length_take]; omega
  · left
    refine ⟨x, ?_, h0⟩
    rw [List.getLast?_eq_getElem?, List.length_take, show min k l.length - 1 = k - 1 by omega, List.getElem?_take_of_lt (by omega)]
    exact hx
theorem val_take_zero (l : List Nat) (k : Nat) (h : l[k]? = some 0) (hv : val (l.take (k + 1)) = val l) : val (l.take k) = val l := by
  rw [List.take_add_one, h] at hv
  simp only [Option.toList_some] at hv
  rw [val_snoc] at hv
  simpa using hv
theorem pow_split (n k : Nat) : n % 10 ^ (k + 1) = n % 10 ^ k + 10 ^ k * dg n k := by
  unfold dg; rw [Nat.pow_succ, Nat.mod_mul]
theorem nd_lt (n k : Nat) (h : nDigits n ≤ k) : n < 10 ^ k := Nat.lt_of_lt_of_le (lt_pow_nDigits n) (Nat.pow_le_pow_right (by omega) h)
theorem mod_all (n k : Nat) (h : nDigits n ≤ k) : n % 10 ^ k = n := Nat.mod_eq_of_lt (nd_lt n k h)
end SD
end Go.Proofs.YtflcdpolfimggaaDoor
namespace Go.Proofs.YtflcdpolfimggaaDoor
open Go.RowKit SD

theorem infoI : (Tryd.prog.info? 3).map (fun i => (i.zero, i.size, i.bytes)) = some (some (.int .i64 0), 1, 8) := by kernel_rfl
/-- A number as a value. -/
def iv (x : Nat) : Value := .int .i64 (x : Int)
/-- A slice of digits: empty, or cells. -/
def Dg (w : World) (v : Value) (l : List Nat) : Prop :=
  (l = [] ∧ ∃ ao cap, v = .slice ao 0 cap) ∨ ∃ b off cap, v = .slice (some ⟨b, off, none⟩) l.length cap ∧ ∀ (j x : Nat), l[j]? = some x → w.cell? ⟨b, off + j, none⟩ = some (.int .i64 (x : Int))
theorem Dg.uni {w : World} {v : Value} {l : List Nat} (h : Dg w v l) : ∃ ao cap, v = .slice ao l.length cap ∧ ∀ (j x : Nat), l[j]? = some x → ∃ b off, ao = some ⟨b, off, none⟩ ∧ w.cell? ⟨b, off + j, none⟩ = some (.int .i64 (x : Int)) := by
  rcases h with ⟨rfl, ao, cap, rfl⟩ | ⟨b, off, cap, rfl, h3⟩
  · exact ⟨ao, cap, rfl, fun j x hj => by simp at hj⟩
  · exact ⟨_, cap, rfl, fun j x hj => ⟨b, off, rfl, h3 j x hj⟩⟩
def OwnD (w : World) (base : Nat) (v : Value) (l : List Nat) : Prop := w.ownsRow base 3 1 v l.length (l.map iv)
theorem OwnD.nil (w : World) (base : Nat) : OwnD w base (.slice none 0 0) [] := World.ownsRow_nil w base _ 1
theorem OwnD.dg {w : World} {base : Nat} {v : Value} {l : List Nat} (h : OwnD w base v l) : Dg w v l := by
  obtain ⟨_, h⟩ := h
  rcases h with ⟨rfl, h0⟩ | ⟨g, cap, cur, rfl, hg, hc, h1, h2, h3, h4⟩
  · exact .inl ⟨List.eq_nil_of_length_eq_zero h0, none, 0, rfl⟩
  · refine .inr ⟨g, 0, cap, rfl, fun j x hj => ?_⟩
    have hj' : (l.map iv)[j]? = some (iv x) := by rw [List.getElem?_map, hj]; rfl
    rw [← h4, List.getElem?_take] at hj'
    split at hj'
    · simp only [World.cell?, hc, Nat.zero_add]
      rw [Array.getElem?_toList] at hj'
      simpa [iv] using hj'
    · cases hj'
theorem cell_grow2 {W w' : World} (hb : Below W.heap.size W w') {b o : Nat} {v : Value} (h : W.cell? ⟨b, o, none⟩ = some v) : w'.cell? ⟨b, o, none⟩ = some v :=
  (hb.cell (p := ⟨b, o, none⟩) (World.block_lt_of_cell? W _ h)).trans h
theorem Dg.next {w w' : World} {v : Value} {l : List Nat} (h : Dg w v l) (hb : Below w.heap.size w w') : Dg w' v l :=
  h.imp id fun ⟨b, off, cap, e, h3⟩ => ⟨b, off, cap, e, fun j x hj => cell_grow2 hb (h3 j x hj)⟩
theorem below_drew {B : Nat} {w W : World} (h : Below B w W) (n : Nat) : Below B w (W.drewN n) := ⟨h.os, h.tape, h.output, h.size, h.block⟩

theorem byte_dg (d : Nat) (h : d < 10) : IntKind.u8.wrap (((UInt8.ofNat (48 + d)).toNat : Int) - 48) = (d : Int) := by
  rw [D.dig_toNat d h, IntKind.wrap_u8]; omega

set_option maxRecDepth 100000 in
set_option maxHeartbeats 1000000 in
theorem digit_s (s : ByteArray) (L i d : Nat) (w : World) (hL : s.size = L) (hl : L ≤ 1000000) (hi : i < L) (c : UInt8) (hc : s[L - 1 - i]'(by omega) = c) (hd : IntKind.u8.wrap ((c.toNat : Int) - 48) = (d : Int)) (hd10 : d < 10) :
    Calls Tryd.prog 64 #[.string s, .int .i64 (i : Int)] w fun e w' => e = .returned (.int .i64 (d : Int)) ∧ w' = w := by
  have h1 : ¬ ((L : Int) ≤ (i : Int)) := by omega
  obtain ⟨k, hk⟩ : ∃ k, k = L - 1 - i := ⟨_, rfl⟩
  have hks : k < s.size := by omega
  have e2 : (L : Int) - 1 - (i : Int) = (k : Int) := by omega
  have hsk : s[k]'hks = c := by subst hk; exact hc
  have e5 : IntKind.i64.wrap (d : Int) = (d : Int) := IntWalk.i64_in _ (by omega)
  have e0 : (0 : Int) ≤ (k : Int) := by omega
  clear hc hk
  subst hL
  have e3 : IntKind.i64.wrap ((s.size : Int) - 1) = (s.size : Int) - 1 := IntWalk.i64_in _ (by omega)
  have e4 : IntKind.i64.wrap ((s.size : Int) - 1 - (i : Int)) = (k : Int) := by rw [e2]; exact IntWalk.i64_in _ (by omega)
  go_enter Tryd.func64, Tryd.ntmps64
  go_wp2
  go_ret
  exact ⟨rfl, rfl⟩
set_option maxRecDepth 100000 in
set_option maxHeartbeats 1000000 in
theorem digit_z (s : ByteArray) (i : Nat) (w : World) (hi : s.size ≤ i) :
    Calls Tryd.prog 64 #[.string s, .int .i64 (i : Int)] w fun e w' => e = .returned (.int .i64 0) ∧ w' = w := by
  have h1 : (s.size : Int) ≤ (i : Int) := by omega
  go_enter Tryd.func64, Tryd.ntmps64
  go_wp2
  go_ret
  exact ⟨rfl, rfl⟩
theorem digit_any (n i : Nat) (w : World) (hn : Lib.nDigits n ≤ 1000000) :
    Calls Tryd.prog 64 #[.string (ds n), .int .i64 (i : Int)] w fun e w' => e = .returned (.int .i64 ((dg n i : Nat) : Int)) ∧ w' = w := by
  by_cases h : i < Lib.nDigits n
  · exact digit_s (ds n) _ i (dg n i) w (ds_size n) hn h _ (ds_get n i h) (byte_dg _ (dg_lt n i)) (dg_lt n i)
  · rw [dg_zero n i (by omega)]
    exact digit_z (ds n) i w (by rw [ds_size]; omega)

set_option maxRecDepth 100000 in
set_option maxHeartbeats 1000000 in
theorem rcmp_any (a b : Nat) (w : World) :
    Calls Tryd.prog 65 #[.string (ds a), .string (ds b)] w fun e w' => e = .returned (.int .i64 (Lib.compareInt (a : Int) (b : Int))) ∧ w' = w := by
  have la := ds_size a
  have lb := ds_size b
  have ea := ds_list a
  have eb := ds_list b
  rcases Nat.lt_trichotomy a b with h | h | h
  · have hc : Lib.compareInt (a : Int) (b : Int) = -1 := by unfold Lib.compareInt; rw [if_pos (by omega)]
    rw [hc]
    by_cases hn : Lib.nDigits a < Lib.nDigits b
    · have hn1 : (Lib.nDigits a : Int) < (Lib.nDigits b : Int) := by omega
      clear ea eb hc
      generalize ds a = s at *
      generalize ds b = t at *
      go_enter Tryd.func65, Tryd.ntmps65
      go_wp2
      go_ret
      exact ⟨rfl, rfl⟩
    · have hm : Lib.nDigits a = Lib.nDigits b := by
        have := nDigits_mono a b (by omega); omega
      have hl : Op.bytesLess (ds a).toList (ds b).toList = true := by rw [ea, eb, dec_less a b hm]; simp [h]
      have hn1 : ¬ ((Lib.nDigits b : Int) < (Lib.nDigits b : Int)) := by omega
      rw [hm] at la
      clear ea eb hc
      generalize ds a = s at *
      generalize ds b = t at *
      go_enter Tryd.func65, Tryd.ntmps65
      go_wp2
      go_ret
      exact ⟨rfl, rfl⟩
  · subst h
    have hc : Lib.compareInt (a : Int) (a : Int) = 0 := by unfold Lib.compareInt; simp
    rw [hc]
    have hl : Op.bytesLess (ds a).toList (ds a).toList = false := by rw [ea, dec_less a a rfl]; simp
    clear ea eb hc lb
    generalize ds a = s at *
    go_enter Tryd.func65, Tryd.ntmps65
    go_wp2
    go_ret
    exact ⟨rfl, rfl⟩
  · have hc : Lib.compareInt (a : Int) (b : Int) = 1 := by unfold Lib.compareInt; rw [if_neg (by omega), if_pos (by omega)]
    rw [hc]
    have hne : ((ds a).toList == (ds b).toList) = false := by rw [ea, eb, beq_eq_false_iff_ne]; intro e; have := D.dec_inj e; omega
    have hle := nDigits_mono b a (by omega)
    by_cases hn : Lib.nDigits b < Lib.nDigits a
    · have hn1 : ¬ (Lib.nDigits a : Int) < (Lib.nDigits b : Int) := by omega
      have hn2 : ¬ (Lib.nDigits a : Int) = (Lib.nDigits b : Int) := by omega
      clear ea eb hc hle
      generalize ds a = s at *
      generalize ds b = t at *
      go_enter Tryd.func65, Tryd.ntmps65
      go_wp2
      go_ret
      exact ⟨rfl, rfl⟩
    · have hm : Lib.nDigits a = Lib.nDigits b := by omega
      have hl : Op.bytesLess (ds a).toList (ds b).toList = false := by rw [ea, eb, dec_less a b hm]; simp; omega
      rw [hm] at la
      clear ea eb hc hle
      generalize ds a = s at *
      generalize ds b = t at *
      go_enter Tryd.func65, Tryd.ntmps65
      go_wp2
      go_ret
      exact ⟨rfl, rfl⟩
end Go.Proofs.YtflcdpolfimggaaDoor
