/- The contract of Text. -/
import Derived.Test.YtjdkbbggelpchaaDoorText
import Derived.Deep.LoopGhost
import Derived.Outline
namespace Go.Proofs.YtjdkbbggelpchaaDoor
open Go.RowKit

/-- What the rounds of Text keep: the parts so far, and what is left. -/
structure TI (w wr : World) (base b cap n m : Nat) (pv : Value) (ps : List Nat) : Prop where
  row : Row wr b cap (M.dig m)
  own : wr.ownsRow base 24 1 pv ps.length (ws ps)
  bb : w.heap.size ≤ b
  lt : b < base
  bw : base ≤ wr.heap.size
  val : n = D.v10 ps + D.S ^ ps.length * m
  parts : ∀ p ∈ ps, p < D.S
  last : m = 0 → ∀ h : ps ≠ [], ps.getLast h ≠ 0
  below : Below w.heap.size w wr

theorem TI.len {w wr : World} {base b cap n m K : Nat} {pv : Value} {ps : List Nat} (h : TI w wr base b cap n m pv ps) (hm : m ≠ 0) (hn : n < M.B ^ K) : ps.length < 2 * K := by
  apply Nat.lt_of_not_le; intro hle
  have h1 : D.S ^ (2 * K) ≤ D.S ^ ps.length := Nat.pow_le_pow_right (by decide) hle
  have h2 : D.S ^ ps.length * 1 ≤ D.S ^ ps.length * m := Nat.mul_le_mul_left _ (by omega)
  have h3 := h.val
  have h4 : M.B ^ K ≤ D.S ^ (2 * K) := by
    rw [Nat.pow_mul]
    exact Nat.pow_le_pow_left (by decide) K
  omega

theorem TI.len2 {w wr : World} {base b cap n m K k : Nat} {pv : Value} {ps : List Nat} (h : TI w wr base b cap n m pv ps) (hne : ps ≠ []) (hm : m = 0) (hk : ps.length = k + 1) (hn : n < M.B ^ K) (hK : 2 * K ≤ 2000) : k ≤ 3000 := by
  have hl := h.last hm hne
  have e := List.dropLast_concat_getLast hne
  have hv := h.val
  rw [hm, ← e, D.v10_append] at hv
  simp only [D.v10, Nat.mul_zero, Nat.add_zero] at hv
  have hd : ps.dropLast.length = k := by simp [hk]
  rw [hd] at hv
  apply Nat.le_of_not_lt; intro hlt
  have h1 : D.S ^ (2 * K) ≤ D.S ^ k := Nat.pow_le_pow_right (by decide) (by omega)
  have h2 : D.S ^ k * 1 ≤ D.S ^ k * ps.getLast hne := Nat.mul_le_mul_left _ (by omega)
  have h4 : M.B ^ K ≤ D.S ^ (2 * K) := by
    rw [Nat.pow_mul]
    exact Nat.pow_le_pow_left (by decide) K
  omega
theorem TI.own4 {w wr w4 : World} {base b cap n m lo hi : Nat} {pv : Value} {ps : List Nat} (h : TI w wr base b cap n m pv ps) (hw : Wr wr w4 b lo hi) : w4.ownsRow base 24 1 pv ps.length (ws ps) :=
  h.own.kept (row := some b) ⟨hw.os, hw.tape, hw.output, hw.size, fun k hk hne => hw.block k hk (fun e => hne (by rw [e]))⟩ (.inr fun e => by have := (h.own.lt b e).1; have := h.lt; omega)

/-- One round. -/
theorem TI.step {w wr w4 w5 : World} {base b cap n m : Nat} {pv v' : Value} {ps zs : List Nat} (h : TI w wr base b cap n m pv ps) (hm : m ≠ 0)
    (hz : zs.length = (M.dig m).length ∧ M.Ok zs ∧ M.val zs = M.val (M.dig m) / D.S ∧ Words w4 b 0 zs ∧ Wr wr w4 b 0 (0 + (M.dig m).length)) (o : Obj)
    (hown : w5.ownsRow base 24 1 v' (ps.length + 1) (ws (ps ++ [m % D.S]))) (hg : (w4.alloc o).grownBy w5 pv.ownBlock) :
    TI w w5 base b cap n (m / D.S) v' (ps ++ [m % D.S]) := by
  obtain ⟨z1, z2, z3, z4, z5⟩ := hz
  have hr4 : Row w4 b cap zs := h.row.after z5 z4 (by have := h.row.cap; omega)
  have hv : M.val zs = m / D.S := by rw [z3, M.val_dig]
  have hd : Row w4 b cap (M.dig (m / D.S)) := by
    rw [← hv, M.dig_prefix z2]; exact hr4.take _
  have hnb : some b ≠ pv.ownBlock := by
    intro e
    have := (h.own.lt b e.symm).1
    have := h.lt; omega
  have hs4 := z5.size
  have hlt := h.row.lt
  have hbw := h.bw
  have hlb := h.lt
  refine ⟨?_, by simpa using hown, h.bb, h.lt, ?_, ?_, ?_, ?_, ?_⟩
  · refine hd.ofBlock ?_
    rw [hg.block b (by simp; omega) hnb]
    exact (Below.refl _ _).alloc (Nat.le_refl _) o |>.block b (by omega)
  · have := hg.size; simp at this; omega
  · have e := Nat.div_add_mod m D.S
    rw [D.v10_append, List.length_append, List.length_singleton, Nat.pow_succ]
    simp only [D.v10, Nat.mul_zero, Nat.add_zero]
    rw [h.val]
    conv => lhs; rw [← e]
    rw [Nat.mul_add, ← Nat.mul_assoc]
    omega
  · intro p hp
    rcases List.mem_append.1 hp with hp | hp
    · exact h.parts p hp
    · rw [List.mem_singleton.1 hp]; exact Nat.mod_lt _ (by decide)
  · intro h0 hne
    have := Nat.div_add_mod m D.S
    rw [h0] at this
    rw [List.getLast_concat]; omega
  · have e1 : Below w.heap.size w w4 := h.below.trans (z5.toBelow h.bb h.below.size)
    have e2 := e1.alloc e1.size o
    exact e2.grown hg (by have := e2.size; simp at this ⊢; omega) (fun k hk => by have := (h.own.lt k hk).1; have := h.bb; omega)

theorem div_S_lt {m : Nat} (h : m ≠ 0) : m / D.S < m := Nat.div_lt_self (by omega) (by decide)

set_option maxRecDepth 100000 in
set_option maxHeartbeats 1000000 in
theorem text_small (n : Nat) (w : World) (hn : n < M.B) (ht : Tabs w) (h6 : 6 ≤ w.heap.size) :
    Calls Tryd.prog 33 #[natV n] w fun e w' => e = .returned (.string ⟨(Lib.decDigits n).toArray⟩) ∧ Below w.heap.size w w' := by
  have CF := mkHid (fun W hB => formatUint_any n hn W (ht.below (B := w.heap.size) hB h6))
  unfold natV
  rw [hs_small hn, Nat.mod_eq_of_lt hn]
  clear hn ht h6
  have HB := mkHid ((Below.refl w.heap.size w).alloc (Nat.le_refl _) (.cells #[.int .u64 (n : Int), .string ⟨#[]⟩] 26))
  go_enter Tryd.func33, Tryd.ntmps33
  go_wp2_with (go_at_call 60; refine (CF.out _ HB.out).mono ?_; rintro e w2 ⟨rfl, hb⟩)
  go_ret
  exact ⟨rfl, HB.out.trans (hb.mono HB.out.size)⟩

set_option maxRecDepth 100000 in
set_option maxHeartbeats 2000000 in
theorem text_large (n : Nat) (w : World) (hn : M.B ≤ n) (hl : (M.dig n).length ≤ 1000) (ht : Tabs w) (h6 : 6 ≤ w.heap.size) :
    Calls Tryd.prog 33 #[natV n] w fun e w' => e = .returned (.string ⟨(Lib.decDigits n).toArray⟩) ∧ Below w.heap.size w w' := by
  have hne := hs_ne hn
  have CW := mkHid (fun W => words_any n W (by omega))
  have HT := mkHid ht; have H6 := mkHid h6
  have HN : Hid (n ≠ 0) := mkHid (by have := M.B_pos; omega)
  have HNB : Hid (n < M.B ^ (M.dig n).length) := mkHid (M.dig_length_le.1 (Nat.le_refl _))
  have HKB : Hid (2 * (M.dig n).length ≤ 2000) := mkHid (by omega)
  have HLD : Hid (∀ k, k ≤ n → (M.dig k).length ≤ 1000) := mkHid fun k hk => Nat.le_trans (dig_mono hk) hl
  obtain ⟨i0, hi, hz0, hz1, hz2⟩ := info_parts info64
  have I1 := mkHid hi; have I2 := mkHid hz0; have I3 := mkHid hz1; have I4 := mkHid hz2
  clear hi hz0 hz1 hz2 ht h6 hn hl
  unfold natV at CW ⊢
  generalize n % M.B = l at *
  generalize hs n = h at *
  have HB := mkHid ((Below.refl w.heap.size w).alloc (Nat.le_refl _) (.cells #[.int .u64 (l : Int), .string h] 26))
  go_enter Tryd.func33, Tryd.ntmps33
  go_wp2_with (go_at_call 36; refine (CW.out _).mono ?_; rintro e w2 ⟨b, cap, rfl, H2⟩)
  clear CW
  have HTI : Hid (TI w w2 w2.heap.size b cap n n (.slice none 0 0) []) := mkHid ⟨H2.out.2.1, ⟨by simp [ws], .inl ⟨rfl, rfl⟩⟩, by have := H2.out.1; have := HB.out.size; omega, H2.out.2.1.lt, Nat.le_refl _, by simp [D.v10], by simp, by simp, HB.out.trans (H2.out.2.2.1.mono HB.out.size)⟩
  go_loopg [3, 4] n (fun k pv wv wr => ∃ m ps q, q = pv ∧ wv = .slice (some ⟨b, 0, none⟩) (M.dig m).length cap ∧ Hid (k = m ∧ TI w wr w2.heap.size b cap n m q ps))
  case atStart => exact ⟨n, [], _, rfl, rfl, mkHid ⟨rfl, HTI.out⟩⟩
  case round =>
    obtain ⟨m, ps, pv, rfl, rfl, H⟩ := hrel
    clear HTI
    by_cases hm : m = 0
    · have hm0 : M.dig m = [] := by rw [hm]; exact M.dig_zero
      rw [hm0]
      have HPS : Hid (ps ≠ []) := mkHid (by
        rintro rfl
        have := H.out.2.val
        rw [hm] at this
        exact HN.out (by simpa [D.v10] using this))
      obtain ⟨k, hk⟩ : ∃ k, ps.length = k + 1 := ⟨ps.length - 1, by have := List.length_pos_iff.2 HPS.out; omega⟩
      have HK := mkHid hk
      obtain ⟨pb, pc, rfl, HPR⟩ : ∃ pb pc, pv = .slice (some ⟨pb, 0, none⟩) (k + 1) pc ∧ Hid (Row wr pb pc ps) := by
        obtain ⟨pb, pc, e, _, hr, _⟩ := Row.ofOwn H.out.2.own (by rw [hk]; omega)
        rw [hk] at e
        exact ⟨pb, pc, e, mkHid hr⟩
      clear hk hm0
      have HK2 : Hid (k ≤ 3000) := mkHid (TI.len2 H.out.2 HPS.out hm HK.out HNB.out HKB.out)
      have CJ := mkHid (joinParts_any pb pc k ps wr HPR.out HK.out HK2.out (fun h => H.out.2.last hm h) H.out.2.parts (HT.out.below H.out.2.below H6.out) (Nat.le_trans H6.out H.out.2.below.size))
      have HV : Hid (D.v10 ps = n) := mkHid (by have := H.out.2.val; rw [hm] at this; simpa using this.symm)
      rw [HV.out] at CJ
      have HBW := mkHid H.out.2.below
      subst hm
      go_wp2_with fail
      refine CJ.out.mono ?_
      rintro e w3 ⟨rfl, hb⟩
      have HB3 := mkHid (HBW.out.trans (hb.mono HBW.out.size))
      clear hb CJ
      go_wp2_with fail
      go_ret
      exact ⟨rfl, HB3.out⟩
    · have hlen : 0 < (M.dig m).length := List.length_pos_iff.2 (fun e => hm (M.dig_eq_nil.1 e))
      have HLE := mkHid (HLD.out m (by have := H.out.2.val; have h1 : 1 ≤ D.S ^ ps.length := Nat.one_le_pow _ _ (by decide); have h2 := Nat.mul_le_mul_right m h1; omega))
      have CD := mkHid (divideByWord_any b 0 cap D.S (M.dig m) wr H.out.2.row.words (by have := HLE.out; omega) (M.ok_dig m) (by decide) (by decide))
      rw [show ((D.S : Nat) : Int) = 10000000000000000000 from rfl, M.val_dig] at CD
      have HPL := mkHid (H.out.2.len hm HNB.out)
      generalize hlm : (M.dig m).length = lm at *
      have HLM := mkHid hlm
      clear hlm
      go_wp2_with fail
      refine CD.out.mono ?_
      rintro e w4 ⟨rfl, zs, HZ⟩
      clear CD
      have HZ2 : Hid (zs.length = (M.dig m).length ∧ M.Ok zs ∧ M.val zs = M.val (M.dig m) / D.S ∧ Words w4 b 0 zs ∧ Wr wr w4 b 0 (0 + (M.dig m).length)) := mkHid (by rw [HLM.out, M.val_dig]; exact HZ.out)
      have HO4 := mkHid (TI.own4 H.out.2 HZ2.out.2.2.2.2)
      have hs4 : w2.heap.size ≤ w4.heap.size := by have h1 := H.out.2.bw; have h2 := HZ2.out.2.2.2.2.size; omega
      have HS4 := mkHid hs4
      clear HZ hs4
      generalize hr : m % D.S = r at *
      have HR := mkHid hr
      clear hr
      go_wp2_with (at_builtin; refine wpList_append_own _ rfl _ _ 60 rfl w2.heap.size 24 i0 (.int .u64 0) 1 8 Tryd.underlying60 I1.out I2.out I3.out I4.out rfl (by decide) _ _ _ rfl (HO4.out.alloc _) ⟨w4.heap.size, 0, none⟩ 1 1 [.int .u64 (r : Int)] rfl rfl ?c1 ?c2 ?c3 ?c4 ?c5 ?_)
      case c1 => exact new_one w4 _ _
      case c2 => intro u hu; simp at hu; subst hu; rfl
      case c3 => have := HPL.out; unfold maxLen; have := HKB.out; omega
      case c4 => have := HPL.out; have := HKB.out; omega
      case c5 => have := HS4.out; simp; omega
      intro v' w5 hown' hgrow _
      have HTN : Hid (TI w w5 w2.heap.size b cap n (m / D.S) v' (ps ++ [r])) := mkHid (by
        rw [← HR.out]
        refine H.out.2.step hm HZ2.out (.cells #[.int .u64 (r : Int)] 24) ?_ hgrow
        rw [HR.out, ← ws_append ps [r]]; exact hown')
      have HG := mkHid hgrow
      clear hown' hgrow
      have HW5 : Hid (Words w5 b 0 zs) := mkHid (by
        refine HZ2.out.2.2.2.1.ofBlock fun h0 => ?_
        have e1 := HG.out.block b (by have := H.out.2.row.lt; have := HZ2.out.2.2.2.2.size; simp; omega) (fun e => by have := (H.out.2.own.lt b e.symm).1; have := H.out.2.lt; omega)
        rw [e1]
        exact (Below.refl w4.heap.size w4).alloc (Nat.le_refl _) _ |>.block b (by have := H.out.2.row.lt; have := HZ2.out.2.2.2.2.size; omega))
      have CT := mkHid (trim_any b 0 cap zs w5 (H.out.2.row.cap.1) (by rw [HZ2.out.1]; exact H.out.2.row.cap.2) HZ2.out.2.1 HW5.out)
      rw [HZ2.out.1, HLM.out, show M.val zs = m / D.S by rw [HZ2.out.2.2.1, M.val_dig]] at CT
      go_wp2_with fail
      refine CT.out.mono ?_
      rintro e w6 ⟨rfl, rfl⟩
      go_wp2_with fail
      go_roundg (m / D.S)
      case measure => have := H.out.1; have := div_S_lt hm; omega
      case rel => exact ⟨m / D.S, ps ++ [r], _, rfl, rfl, mkHid ⟨rfl, HTN.out⟩⟩

theorem text_any (n : Nat) (w : World) (hl : (M.dig n).length ≤ 1000) (ht : Tabs w) (h6 : 6 ≤ w.heap.size) :
    Calls Tryd.prog 33 #[natV n] w fun e w' => e = .returned (.string ⟨(Lib.decDigits n).toArray⟩) ∧ Below w.heap.size w w' := by
  rcases Nat.lt_or_ge n M.B with h | h
  · exact text_small n w h ht h6
  · exact text_large n w h hl ht h6
end Go.Proofs.YtjdkbbggelpchaaDoor
