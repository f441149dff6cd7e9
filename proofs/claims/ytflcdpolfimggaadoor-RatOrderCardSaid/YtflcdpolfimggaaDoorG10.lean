/- Contracts, laid one behind the other: QS QT QRow. -/
import Derived.Test.YtflcdpolfimggaaDoorG9
import Derived.Test.YtflcdpolfimggaaDoorCards
import Derived.Test.YtflcdpolfimggaaDoorTie
import Derived.ProofKit
import Derived.OpenShut
import Derived.ChangeSame
import Derived.Deep.DeepHandedRow
import Derived.Lib.LaidTab
namespace Go.Proofs.YtflcdpolfimggaaDoor
open Go.RowKit Q SD

theorem Kw.add {i j p1 q1 p2 q2 : Nat} (h1 : Kw i p1 q1) (h2 : Kw j p2 q2) : Kw (i + j + 1) (rn (p1 * q2 + p2 * q1) (q1 * q2)) (rd (p1 * q2 + p2 * q1) (q1 * q2)) := by
  obtain ⟨a, b⟩ := Bd.add (B := M.B) (by unfold M.B; omega) (show Bd M.B i p1 q1 from h1) (show Bd M.B j p2 q2 from h2)
  exact Kw.low a b
theorem Kw.mul {i j p1 q1 p2 q2 : Nat} (h1 : Kw i p1 q1) (h2 : Kw j p2 q2) : Kw (i + j) (rn (p1 * p2) (q1 * q2)) (rd (p1 * p2) (q1 * q2)) := Kw.low (mul_lt M.B_pos h1.1 h2.1) (mul_lt M.B_pos h1.2 h2.2)
theorem Kw.div {i j p1 q1 p2 q2 : Nat} (h1 : Kw i p1 q1) (h2 : Kw j p2 q2) : Kw (i + j) (rn (p1 * q2) (q1 * p2)) (rd (p1 * q2) (q1 * p2)) := Kw.low (mul_lt M.B_pos h1.1 h2.2) (mul_lt M.B_pos h1.2 h2.1)
theorem Kw.sub {i j p1 q1 p2 q2 : Nat} (h1 : Kw i p1 q1) (h2 : Kw j p2 q2) : Kw (i + j) (rn (p1 * q2 - p2 * q1) (q1 * q2)) (rd (p1 * q2 - p2 * q1) (q1 * q2)) :=
  Kw.low (Nat.lt_of_le_of_lt (Nat.sub_le _ _) (mul_lt M.B_pos h1.1 h2.2)) (mul_lt M.B_pos h1.2 h2.2)
theorem no_slash (n : Nat) : ∀ c ∈ Lib.decDigits n, c ≠ 47 := by
  intro c hc e
  have h := D.isDig_le (List.all_eq_true.1 (D.dec_all n) c hc)
  rw [e] at h
  have : (47 : UInt8).toNat = 47 := rfl
  omega
theorem split_eq : ∀ {a b c d : List UInt8}, (∀ x ∈ a, x ≠ 47) → (∀ x ∈ b, x ≠ 47) → a ++ 47 :: c = b ++ 47 :: d → a = b ∧ c = d
  | [], [], c, d, _, _, h => ⟨rfl, by simpa using h⟩
  | [], y :: b, c, d, _, hb, h => by simp at h; exact absurd h.1.symm (hb y (.head _))
  | x :: a, [], c, d, ha, _, h => by simp at h; exact absurd h.1 (ha x (.head _))
  | x :: a, y :: b, c, d, ha, hb, h => by
    simp only [List.cons_append, List.cons.injEq] at h
    obtain ⟨e1, e2⟩ := split_eq (fun z hz => ha z (.tail _ hz)) (fun z hz => hb z (.tail _ hz)) h.2
    exact ⟨by rw [h.1, e1], e2⟩
theorem tx_list (p q : Nat) : (tx p q).data.toList = if q = 1 then Lib.decDigits p else Lib.decDigits p ++ 47 :: Lib.decDigits q := by
  unfold tx
  split
  · rfl
  · show (((ds p) ++ ⟨#[47]⟩ ++ ds q : ByteArray)).data.toList = _
    simp [ByteArray.data_append, ds_eq]
theorem tx_inj {p q p' q' : Nat} (h : tx p q = tx p' q') : p = p' ∧ q = q' := by
  have h2 := congrArg (fun x : ByteArray => x.data.toList) h
  simp only [tx_list] at h2
  by_cases h3 : q = 1
  · by_cases h4 : q' = 1
    · rw [if_pos h3, if_pos h4] at h2
      exact ⟨D.dec_inj h2, by rw [h3, h4]⟩
    · rw [if_pos h3, if_neg h4] at h2
      exact absurd rfl (no_slash p 47 (by rw [h2]; simp))
  · by_cases h4 : q' = 1
    · rw [if_neg h3, if_pos h4] at h2
      exact absurd rfl (no_slash p' 47 (by rw [← h2]; simp))
    · rw [if_neg h3, if_neg h4] at h2
      obtain ⟨e1, e2⟩ := split_eq (no_slash p) (no_slash p') h2
      exact ⟨D.dec_inj e1, D.dec_inj e2⟩
theorem tx_ne_of {p q p' q' : Nat} (h : ¬ (p = p' ∧ q = q')) : ¬ (tx p q).toList = (tx p' q').toList := by
  intro e
  refine h (tx_inj (ByteArray.ext ?_))
  have := congrArg List.toArray e
  simpa [ByteArray.toList_eq] using this

set_option maxRecDepth 100000 in
set_option maxHeartbeats 8000000 in
theorem equal_same (p q : Nat) (hp : Sm p) (hq : Sm q) (h0 : q ≠ 0) : Gives 18 #[rv p q, rv p q] (.bool true) := by
  intro W ht h6
  have C1 := mkHid (rtext_g p q hp hq h0)


  unfold rv at *
  clear hp hq h0
  generalize tx p q = t1 at *

  generalize lo (dz q) = lz1 at *
  generalize hi (dz q) = kz1 at *
  generalize lo (p) = lp1 at *
  generalize hi (p) = kp1 at *
  have HS := mkHid (((St.refl ht h6).alloc (.cells #[.int .u64 (lp1 : Int), .string kp1, .int .u64 (lz1 : Int), .string kz1] 26)).alloc (.cells #[.int .u64 (lp1 : Int), .string kp1, .int .u64 (lz1 : Int), .string kz1] 26))
  have H0 := mkHid ((At4.new W (W.heap.size) lp1 kp1 lz1 kz1 rfl).alloc (.cells #[.int .u64 (lp1 : Int), .string kp1, .int .u64 (lz1 : Int), .string kz1] 26))
  have H1 := mkHid (At4.new (W.alloc (.cells #[.int .u64 (lp1 : Int), .string kp1, .int .u64 (lz1 : Int), .string kz1] 26)) (W.heap.size + 1) lp1 kp1 lz1 kz1 (by simp))
  have hs0 := HS.out
  obtain ⟨⟨a0, a1, a2, a3⟩, -⟩ := H0.out
  obtain ⟨⟨b0, b1, b2, b3⟩, -⟩ := H1.out
  clear ht H0 H1 HS
  go_enter Tryd.func18, Tryd.ntmps18
  go_upto_region 1 with (fail)
  go_region_held3 (fun X => St W X ∧ X.cell? ⟨W.heap.size, 0, none⟩ = some (.int .u64 (lp1 : Int)) ∧ X.cell? ⟨W.heap.size, 1, none⟩ = some (.string kp1) ∧ X.cell? ⟨W.heap.size, 2, none⟩ = some (.int .u64 (lz1 : Int)) ∧ X.cell? ⟨W.heap.size, 3, none⟩ = some (.string kz1) ∧ X.cell? ⟨W.heap.size + 1, 0, none⟩ = some (.int .u64 (lp1 : Int)) ∧ X.cell? ⟨W.heap.size + 1, 1, none⟩ = some (.string kp1) ∧ X.cell? ⟨W.heap.size + 1, 2, none⟩ = some (.int .u64 (lz1 : Int)) ∧ X.cell? ⟨W.heap.size + 1, 3, none⟩ = some (.string kz1))
    (first
      | (with_reducible exact ⟨hS.1.next hb, St.cell hb hS.2.1, St.cell hb hS.2.2.1, St.cell hb hS.2.2.2.1, St.cell hb hS.2.2.2.2.1, St.cell hb hS.2.2.2.2.2.1, St.cell hb hS.2.2.2.2.2.2.1, St.cell hb hS.2.2.2.2.2.2.2.1, St.cell hb hS.2.2.2.2.2.2.2.2⟩)
      | exact ⟨hs0.drew, a0, a1, a2, a3, b0, b1, b2, b3⟩)
    (first
      | (go_at_call 22; have hS : St W _ ∧ _ := (by assumption); (with_reducible refine (C1.out _ hS.1.tabs hS.1.six').mono ?_); rintro e w6 ⟨rfl, hb⟩))
  have hT : St W _ ∧ _ := (by assumption)
  have HT := mkHid hT.1.below
  clear hT
  go_wp2_with fail
  go_ret
  exact ⟨rfl, HT.out⟩

set_option maxRecDepth 100000 in
set_option maxHeartbeats 8000000 in
theorem equal_diff (p q p2 q2 : Nat) (hp : Sm p) (hq : Sm q) (h0 : q ≠ 0) (hp2 : Sm p2) (hq2 : Sm q2) (h2 : q2 ≠ 0) (hne : ¬ (p = p2 ∧ q = q2)) : Gives 18 #[rv p q, rv p2 q2] (.bool false) := by
  intro W ht h6
  have C1 := mkHid (rtext_g p q hp hq h0)
  have C2 := mkHid (rtext_g p2 q2 hp2 hq2 h2)
  have hne2 := tx_ne_of hne
  unfold rv at *
  clear hp hq h0 hp2 hq2 h2 hne
  generalize tx p q = t1 at *
  generalize tx p2 q2 = t2 at *
  generalize lo (dz q) = lz1 at *
  generalize hi (dz q) = kz1 at *
  generalize lo (p) = lp1 at *
  generalize hi (p) = kp1 at *
  generalize lo (dz q2) = lz2 at *
  generalize hi (dz q2) = kz2 at *
  generalize lo (p2) = lp2 at *
  generalize hi (p2) = kp2 at *
  have HS := mkHid (((St.refl ht h6).alloc (.cells #[.int .u64 (lp1 : Int), .string kp1, .int .u64 (lz1 : Int), .string kz1] 26)).alloc (.cells #[.int .u64 (lp2 : Int), .string kp2, .int .u64 (lz2 : Int), .string kz2] 26))
  have H0 := mkHid ((At4.new W (W.heap.size) lp1 kp1 lz1 kz1 rfl).alloc (.cells #[.int .u64 (lp2 : Int), .string kp2, .int .u64 (lz2 : Int), .string kz2] 26))
  have H1 := mkHid (At4.new (W.alloc (.cells #[.int .u64 (lp1 : Int), .string kp1, .int .u64 (lz1 : Int), .string kz1] 26)) (W.heap.size + 1) lp2 kp2 lz2 kz2 (by simp))
  have hs0 := HS.out
  obtain ⟨⟨a0, a1, a2, a3⟩, -⟩ := H0.out
  obtain ⟨⟨b0, b1, b2, b3⟩, -⟩ := H1.out
  clear ht H0 H1 HS
  go_enter Tryd.func18, Tryd.ntmps18
  go_upto_region 1 with (fail)
  go_region_held3 (fun X => St W X ∧ X.cell? ⟨W.heap.size, 0, none⟩ = some (.int .u64 (lp1 : Int)) ∧ X.cell? ⟨W.heap.size, 1, none⟩ = some (.string kp1) ∧ X.cell? ⟨W.heap.size, 2, none⟩ = some (.int .u64 (lz1 : Int)) ∧ X.cell? ⟨W.heap.size, 3, none⟩ = some (.string kz1) ∧ X.cell? ⟨W.heap.size + 1, 0, none⟩ = some (.int .u64 (lp2 : Int)) ∧ X.cell? ⟨W.heap.size + 1, 1, none⟩ = some (.string kp2) ∧ X.cell? ⟨W.heap.size + 1, 2, none⟩ = some (.int .u64 (lz2 : Int)) ∧ X.cell? ⟨W.heap.size + 1, 3, none⟩ = some (.string kz2))
    (first
      | (with_reducible exact ⟨hS.1.next hb, St.cell hb hS.2.1, St.cell hb hS.2.2.1, St.cell hb hS.2.2.2.1, St.cell hb hS.2.2.2.2.1, St.cell hb hS.2.2.2.2.2.1, St.cell hb hS.2.2.2.2.2.2.1, St.cell hb hS.2.2.2.2.2.2.2.1, St.cell hb hS.2.2.2.2.2.2.2.2⟩)
      | exact ⟨hs0.drew, a0, a1, a2, a3, b0, b1, b2, b3⟩)
    (first
      | (go_at_call 22; have hS : St W _ ∧ _ := (by assumption); (with_reducible refine (C1.out _ hS.1.tabs hS.1.six').mono ?_); rintro e w6 ⟨rfl, hb⟩)
      | (go_at_call 22; have hS : St W _ ∧ _ := (by assumption); (with_reducible refine (C2.out _ hS.1.tabs hS.1.six').mono ?_); rintro e w6 ⟨rfl, hb⟩))
  have hT : St W _ ∧ _ := (by assumption)
  have HT := mkHid hT.1.below
  clear hT
  go_wp2_with fail
  go_ret
  exact ⟨by simp [hne2], HT.out⟩

theorem wk1 : rn 3 6 = 1 ∧ rd 3 6 = 2 := by decide +kernel
theorem wk2 : rn 1 3 = 1 ∧ rd 1 3 = 3 := by decide +kernel
theorem lo12 : Lo 1 2 := ⟨by omega, by decide⟩
theorem lo13 : Lo 1 3 := ⟨by omega, by decide⟩
theorem kbs {p q : Nat} (hp : p < M.B) (hq : q < M.B) : Kb p q := by
  have h : Kw 1 p q := ⟨by rw [Nat.pow_one]; exact hp, by rw [Nat.pow_one]; exact hq⟩
  exact h.kb (by omega)
set_option maxRecDepth 100000 in
set_option maxHeartbeats 8000000 in
theorem rworks_g : Gives 16 #[] (.bool true) := by
  intro W ht h6
  have k1 : Kb 1 2 := kbs (by decide) (by decide)
  have k2 : Kb 1 3 := kbs (by decide) (by decide)
  have C1 := of2_pos 3 6 (by decide) (by decide) (by omega)
  rw [wk1.1, wk1.2] at C1
  have C2 := of2_pos 1 3 (by decide) (by decide) (by omega)
  rw [wk2.1, wk2.2] at C2
  rw [show ((3 : Nat) : Int) = 3 from rfl, show ((6 : Nat) : Int) = 6 from rfl] at C1
  rw [show ((1 : Nat) : Int) = 1 from rfl, show ((3 : Nat) : Int) = 3 from rfl] at C2
  have C3 := div2_g lo12 lo13 (by omega) k1 k2
  rw [show rn (1 * 3) (2 * 1) = 3 by decide +kernel, show rd (1 * 3) (2 * 1) = 2 by decide +kernel] at C3
  have C4 := add2_g lo12 lo13 k1 k2
  rw [show rn (1 * 3 + 1 * 2) (2 * 3) = 5 by decide +kernel, show rd (1 * 3 + 1 * 2) (2 * 3) = 6 by decide +kernel] at C4
  have C5 := mul2_g lo12 lo13 k1 k2
  rw [show rn (1 * 1) (2 * 3) = 1 by decide +kernel, show rd (1 * 1) (2 * 3) = 6 by decide +kernel] at C5
  have C6 := qcmp_raw 1 2 1 3 (by omega) (by omega) k1 k2
  rw [show Lib.compareInt ((1 * 3 : Nat) : Int) ((1 * 2 : Nat) : Int) = 1 by decide] at C6
  have T1 := rtext_g 5 6 (sm_word (by decide)) (sm_word (by decide)) (by omega)
  have T2 := rtext_g 1 6 (sm_word (by decide)) (sm_word (by decide)) (by omega)
  have T3 := rtext_g 3 2 (sm_word (by decide)) (sm_word (by decide)) (by omega)
  rw [show tx 5 6 = ⟨#[53, 47, 54]⟩ by kernel_rfl] at T1
  rw [show tx 1 6 = ⟨#[49, 47, 54]⟩ by kernel_rfl] at T2
  rw [show tx 3 2 = ⟨#[51, 47, 50]⟩ by kernel_rfl] at T3
  unfold rv at *
  clear k1 k2
  generalize lo (dz 2) = l2 at *
  generalize hi (dz 2) = k2 at *
  generalize lo (dz 3) = l3 at *
  generalize hi (dz 3) = k3 at *
  generalize lo (dz 6) = l6 at *
  generalize hi (dz 6) = k6 at *
  generalize lo (1) = l1 at *
  generalize hi (1) = k1 at *
  generalize lo (3) = l3' at *
  generalize hi (3) = k3' at *
  generalize lo (5) = l5 at *
  generalize hi (5) = k5 at *
  replace C1 := mkHid C1
  replace C2 := mkHid C2
  replace C3 := mkHid C3
  replace C4 := mkHid C4
  replace C5 := mkHid C5
  replace C6 := mkHid C6
  replace T1 := mkHid T1
  replace T2 := mkHid T2
  replace T3 := mkHid T3
  have HS := mkHid (St.refl ht h6)
  clear ht h6
  go_enter Tryd.func16, Tryd.ntmps16
  go_wp2_with (first
    | (go_at_call 13; (with_reducible refine (C1.out _ HS.out.tabs HS.out.six').mono ?_); rintro e w1 ⟨rfl, hb⟩; have HS := mkHid ((HS.out.next hb).alloc (.cells #[.int .u64 (l1 : Int), .string k1, .int .u64 (l2 : Int), .string k2] 26)); have HA := mkHid (At4.new w1 w1.heap.size l1 k1 l2 k2 rfl); clear hb; obtain ⟨⟨a0, a1, a2, a3⟩, -⟩ := HA.out)
    | (go_at_call 13; (with_reducible refine (C2.out _ HS.out.tabs HS.out.six').mono ?_); rintro e w2 ⟨rfl, hb⟩; have HS := mkHid ((HS.out.next hb).alloc (.cells #[.int .u64 (l1 : Int), .string k1, .int .u64 (l3 : Int), .string k3] 26)); have HA := mkHid ((HA.out.grows hb).alloc (.cells #[.int .u64 (l1 : Int), .string k1, .int .u64 (l3 : Int), .string k3] 26)); have HB := mkHid (At4.new w2 w2.heap.size l1 k1 l3 k3 rfl); clear hb; obtain ⟨⟨a0, a1, a2, a3⟩, -⟩ := HA.out; obtain ⟨⟨b0, b1, b2, b3⟩, -⟩ := HB.out)
    | (go_at_call 23; (with_reducible refine (C3.out _ HS.out.tabs HS.out.six').mono ?_); rintro e w3 ⟨rfl, hb⟩; have HS := mkHid ((HS.out.next hb).alloc (.cells #[.int .u64 (l3' : Int), .string k3', .int .u64 (l2 : Int), .string k2] 26)); have HA := mkHid ((HA.out.grows hb).alloc (.cells #[.int .u64 (l3' : Int), .string k3', .int .u64 (l2 : Int), .string k2] 26)); have HB := mkHid ((HB.out.grows hb).alloc (.cells #[.int .u64 (l3' : Int), .string k3', .int .u64 (l2 : Int), .string k2] 26)); have HC := mkHid (At4.new w3 w3.heap.size l3' k3' l2 k2 rfl); clear hb; obtain ⟨⟨a0, a1, a2, a3⟩, -⟩ := HA.out; obtain ⟨⟨b0, b1, b2, b3⟩, -⟩ := HB.out; obtain ⟨⟨c0, c1, c2, c3⟩, -⟩ := HC.out)
    | (go_at_call 19; (with_reducible refine (C4.out _ HS.out.tabs HS.out.six').mono ?_); rintro e w6 ⟨rfl, hb⟩; have HS := mkHid (HS.out.next hb); have HA := mkHid (HA.out.grows hb); have HB := mkHid (HB.out.grows hb); have HC := mkHid (HC.out.grows hb); clear hb; obtain ⟨⟨a0, a1, a2, a3⟩, -⟩ := HA.out; obtain ⟨⟨b0, b1, b2, b3⟩, -⟩ := HB.out; obtain ⟨⟨c0, c1, c2, c3⟩, -⟩ := HC.out)
    | (go_at_call 20; (with_reducible refine (C5.out _ HS.out.tabs HS.out.six').mono ?_); rintro e w6 ⟨rfl, hb⟩; have HS := mkHid (HS.out.next hb); have HA := mkHid (HA.out.grows hb); have HB := mkHid (HB.out.grows hb); have HC := mkHid (HC.out.grows hb); clear hb; obtain ⟨⟨a0, a1, a2, a3⟩, -⟩ := HA.out; obtain ⟨⟨b0, b1, b2, b3⟩, -⟩ := HB.out; obtain ⟨⟨c0, c1, c2, c3⟩, -⟩ := HC.out)
    | (go_at_call 24; (with_reducible refine (C6.out _ HS.out.tabs HS.out.six').mono ?_); rintro e w6 ⟨rfl, hb⟩; have HS := mkHid (HS.out.next hb); have HA := mkHid (HA.out.grows hb); have HB := mkHid (HB.out.grows hb); have HC := mkHid (HC.out.grows hb); clear hb; obtain ⟨⟨a0, a1, a2, a3⟩, -⟩ := HA.out; obtain ⟨⟨b0, b1, b2, b3⟩, -⟩ := HB.out; obtain ⟨⟨c0, c1, c2, c3⟩, -⟩ := HC.out)
    | (go_at_call 22; (with_reducible refine (T1.out _ HS.out.tabs HS.out.six').mono ?_); rintro e w6 ⟨rfl, hb⟩; have HS := mkHid (HS.out.next hb); have HA := mkHid (HA.out.grows hb); have HB := mkHid (HB.out.grows hb); have HC := mkHid (HC.out.grows hb); clear hb; obtain ⟨⟨a0, a1, a2, a3⟩, -⟩ := HA.out; obtain ⟨⟨b0, b1, b2, b3⟩, -⟩ := HB.out; obtain ⟨⟨c0, c1, c2, c3⟩, -⟩ := HC.out)
    | (go_at_call 22; (with_reducible refine (T2.out _ HS.out.tabs HS.out.six').mono ?_); rintro e w6 ⟨rfl, hb⟩; have HS := mkHid (HS.out.next hb); have HA := mkHid (HA.out.grows hb); have HB := mkHid (HB.out.grows hb); have HC := mkHid (HC.out.grows hb); clear hb; obtain ⟨⟨a0, a1, a2, a3⟩, -⟩ := HA.out; obtain ⟨⟨b0, b1, b2, b3⟩, -⟩ := HB.out; obtain ⟨⟨c0, c1, c2, c3⟩, -⟩ := HC.out)
    | (go_at_call 22; (with_reducible refine (T3.out _ HS.out.tabs HS.out.six').mono ?_); rintro e w6 ⟨rfl, hb⟩; have HS := mkHid (HS.out.next hb); have HA := mkHid (HA.out.grows hb); have HB := mkHid (HB.out.grows hb); have HC := mkHid (HC.out.grows hb); clear hb; obtain ⟨⟨a0, a1, a2, a3⟩, -⟩ := HA.out; obtain ⟨⟨b0, b1, b2, b3⟩, -⟩ := HB.out; obtain ⟨⟨c0, c1, c2, c3⟩, -⟩ := HC.out))
  go_ret
  exact ⟨rfl, HS.out.below⟩
end Go.Proofs.YtflcdpolfimggaaDoor
namespace Go.Proofs.YtflcdpolfimggaaDoor
open Go.RowKit Q SD

theorem AtS.alloc {w : World} {b : Nat} {x y : ByteArray} (H : AtS w b x y) (o : Obj) : AtS (w.alloc o) b x y := H.grows ((Below.refl _ _).alloc (Nat.le_refl _) o)
theorem AtS.drew {w : World} {b : Nat} {x y : ByteArray} (H : AtS w b x y) : AtS w.drew b x y := H
theorem sm_nd {n : Nat} (h : Sm n) : Lib.nDigits n ≤ 18001 := nd_sm h

set_option maxRecDepth 100000 in
set_option maxHeartbeats 8000000 in
theorem same_g (p q : Nat) (hp : Sm p) (hq : Sm q) (h0 : 0 < q) : Gives 15 #[rv p q, sv p q] (.bool true) := by
  intro W ht h6
  have T1 := mkHid (rtext_g p q hp hq (by omega))
  have T2 := mkHid (fun W => stext p q W (Nat.le_trans (nd_sm hp) (by omega)) (Nat.le_trans (nd_sm hq) (by omega)))
  have N1 := mkHid (num_g p q)
  have D1 := mkHid (den_g p q h0)
  have N2 := text_g p hp
  have D2 := text_g q hq
  rw [← ds_eq] at N2 D2
  replace N2 := mkHid N2
  replace D2 := mkHid D2
  unfold rv sv at *
  unfold nv at *
  clear hp hq h0
  generalize tx p q = t at *
  generalize lo (dz q) = lz at *
  generalize hi (dz q) = kz at *
  generalize lo (p) = lp at *
  generalize hi (p) = kp at *
  generalize lo (q) = lq at *
  generalize hi (q) = kq at *
  generalize ds p = sp at *
  generalize ds q = sq at *
  have HS := mkHid (((St.refl ht h6).alloc (.cells #[.int .u64 (lp : Int), .string kp, .int .u64 (lz : Int), .string kz] 26)).alloc (.cells #[.string sp, .string sq] 31))
  have H0 := mkHid ((At4.new W W.heap.size lp kp lz kz rfl).alloc (.cells #[.string sp, .string sq] 31))
  have H1 := mkHid (AtS.new (W.alloc (.cells #[.int .u64 (lp : Int), .string kp, .int .u64 (lz : Int), .string kz] 26)) (W.heap.size + 1) sp sq (by simp))
  have hs0 := HS.out
  obtain ⟨⟨a0, a1, a2, a3⟩, -⟩ := H0.out
  obtain ⟨b0, b1, -, -⟩ := H1.out
  clear ht H0 H1 HS
  go_enter Tryd.func15, Tryd.ntmps15
  go_upto_region 1 with (fail)
  go_region_held3 (fun X => St W X ∧ X.cell? ⟨W.heap.size, 0, none⟩ = some (.int .u64 (lp : Int)) ∧ X.cell? ⟨W.heap.size, 1, none⟩ = some (.string kp) ∧ X.cell? ⟨W.heap.size, 2, none⟩ = some (.int .u64 (lz : Int)) ∧ X.cell? ⟨W.heap.size, 3, none⟩ = some (.string kz) ∧ X.cell? ⟨W.heap.size + 1, 0, none⟩ = some (.string sp) ∧ X.cell? ⟨W.heap.size + 1, 1, none⟩ = some (.string sq))
    (first
      | (with_reducible exact ⟨hS.1.next hb, St.cell hb hS.2.1, St.cell hb hS.2.2.1, St.cell hb hS.2.2.2.1, St.cell hb hS.2.2.2.2.1, St.cell hb hS.2.2.2.2.2.1, St.cell hb hS.2.2.2.2.2.2⟩)
      | exact ⟨hs0.drew, a0, a1, a2, a3, b0, b1⟩)
    (first
      | (go_at_call 22; have hS : St W _ ∧ _ := (by assumption); (with_reducible refine (T1.out _ hS.1.tabs hS.1.six').mono ?_); rintro e w6 ⟨rfl, hb⟩)
      | (go_at_call 39; have hS : St W _ ∧ _ := (by assumption); (with_reducible refine (T2.out _).mono ?_); rintro e w6 ⟨rfl, hb⟩)
      | (go_at_call 27; have hS : St W _ ∧ _ := (by assumption); (with_reducible refine (N1.out _ hS.1.tabs hS.1.six').mono ?_); rintro e w6 ⟨rfl, hb⟩)
      | (go_at_call 29; have hS : St W _ ∧ _ := (by assumption); (with_reducible refine (N2.out _ hS.1.tabs hS.1.six').mono ?_); rintro e w6 ⟨rfl, hb⟩)
      | (go_at_call 28; have hS : St W _ ∧ _ := (by assumption); (with_reducible refine (D1.out _ hS.1.tabs hS.1.six').mono ?_); rintro e w6 ⟨rfl, hb⟩)
      | (go_at_call 29; have hS : St W _ ∧ _ := (by assumption); (with_reducible refine (D2.out _ hS.1.tabs hS.1.six').mono ?_); rintro e w6 ⟨rfl, hb⟩))
  have hT : St W _ ∧ _ := (by assumption)
  have HT := mkHid hT.1.below
  clear hT
  go_wp2_with fail
  go_ret
  exact ⟨rfl, HT.out⟩
end Go.Proofs.YtflcdpolfimggaaDoor
namespace Go.Proofs.YtflcdpolfimggaaDoor
open Go.ChangeShapes Go.WideShapes Go.ChangeAt Go.RowKit

theorem own : ownKnob Tryd.prog.godebug = none := by kernel_rfl
theorem g64 : Tryd.prog.globalNamed "math/bits.deBruijn64tab" = some 3 := by kernel_rfl
theorem g64T : (Tryd.prog.globals[3]?).map (·.type) = some 126 := by kernel_rfl
theorem g10 : Tryd.prog.globalNamed "internal/strconv.uint64pow10" = some 4 := by kernel_rfl
theorem g10T : (Tryd.prog.globals[4]?).map (·.type) = some 128 := by kernel_rfl
theorem g32 : Tryd.prog.globalNamed "math/bits.deBruijn32tab" = some 5 := by kernel_rfl
theorem g32T : (Tryd.prog.globals[5]?).map (·.type) = some 137 := by kernel_rfl
theorem cells8 : Tryd.prog.cellsOf 5 = 1 := by kernel_rfl
theorem cells64 : Tryd.prog.cellsOf 22 = 1 := by kernel_rfl
theorem cellsA32 : Tryd.prog.cellsOf 137 = 32 := by kernel_rfl
theorem cellsA64 : Tryd.prog.cellsOf 126 = 64 := by kernel_rfl
theorem cellsA20 : Tryd.prog.cellsOf 128 = 20 := by kernel_rfl

/-- The rows' list. -/
abbrev laid3 : List (String × DataW Unit) := [("math/bits.deBruijn32tab", Rows.laid_math_bits_deBruijn32tab), ("math/bits.deBruijn64tab", Rows.laid_math_bits_deBruijn64tab), ("internal/strconv.uint64pow10", Rows.laid_internal_strconv_uint64pow10)]
def tab32 : List Int := [0, 1, 28, 2, 29, 14, 24, 3, 30, 22, 20, 15, 25, 17, 4, 8, 31, 27, 13, 23, 21, 19, 16, 7, 26, 12, 18, 6, 11, 5, 10, 9]
theorem data32 : (Rows.laid_math_bits_deBruijn32tab : DataW Unit) = Lib.tabData .u8 tab32 := by kernel_rfl
theorem data64 : (Rows.laid_math_bits_deBruijn64tab : DataW Unit) = Lib.tabData .u8 (Lib.deBruijn64tab.map fun n : Nat => (n : Int)) := by kernel_rfl
theorem data10 : (Rows.laid_internal_strconv_uint64pow10 : DataW Unit) = Lib.tabData .u64 Lib.pow10Tab := by kernel_rfl
theorem laidMet_next {P : Program} {x : String × DataW Unit} {r : List (String × DataW Unit)} {w : World} (h : laidMet P (x :: r) w) : laidMet P r w := by
  obtain ⟨ps, hv, hnd, hrows⟩ := h
  obtain ⟨n, d⟩ := x
  obtain ⟨g, t, cs, fuel, p, q, _, _, _, _, hq, rfl⟩ := hv
  exact ⟨q, hq, List.Nodup.sublist (List.sublist_append_right _ _) hnd, fun b off hm => hrows b off (List.mem_append_right _ hm)⟩
theorem tabs_of {W : World} (h0 : laidMetH Tryd.prog laid3 W) : Tabs W ∧ 6 ≤ W.heap.size := by
  have h : laidMet Tryd.prog laid3 W := h0
  unfold laid3 at h
  rw [data32, data64, data10] at h
  have t32 := Lib.tabIs_of_head g32 g32T Tryd.underlying137 Tryd.underlying5 cells8 cellsA32 h
  have h1 := laidMet_next h
  have t64 := Lib.tabIs_of_head g64 g64T Tryd.underlying126 Tryd.underlying5 cells8 cellsA64 h1
  have h2 := laidMet_next h1
  have t10 := Lib.tabIs_of_head g10 g10T Tryd.underlying128 Tryd.underlying22 cells64 cellsA20 h2
  refine ⟨⟨fun j hj => ?_, t10⟩, World.block_lt_of_cell? W _ (t32.cell g32 0 (by decide))⟩
  have := t64.cell g64 j (by simpa using hj)
  rw [this]
  simp [List.getD]
  congr 2
  cases (Lib.deBruijn64tab[j]?) <;> rfl

/-- A world for the witnesses: the settled one, the tables holding what their initialisers lay. -/
def setTab (cs : List Value) : Obj → Obj
  | .cells _ t frozen => .cells cs.toArray t frozen
  | o => o
noncomputable def laidWorld (os : Os) : World :=
  { World.holding Tryd.prog os ⟨#[], #[], []⟩ with heap := (((World.holding Tryd.prog os ⟨#[], #[], []⟩).heap.modify 5 (setTab (tab32.map (Value.int .u8)))).modify 3 (setTab (Lib.deBruijn64tab.map fun n : Nat => Value.int .u8 (n : Int)))).modify 4 (setTab (Lib.pow10Tab.map (Value.int .u64))) }
theorem laid_met0 (os : Os) : laidMet Tryd.prog laid3 ((laidWorld os).forCall (fun _ _ => 0) ⟨#[], #[], []⟩).memory :=
  laidMet_of_run' 8 (by kernel_rfl) (by kernel_rfl)

theorem laidOut : laidOutB Tryd.prog = true := by kernel_rfl

theorem cellsSt : Tryd.prog.cellsOf 9 = 1 := by kernel_rfl
theorem cellsV : Tryd.prog.cellsOf 40 = 2 := by kernel_rfl
section
variable {H : Type} {enc : TypeId × Value → H}
set_option maxRecDepth 100000 in
/-- Two strings that came in as a struct. -/
theorem value_of {W W' : World} {r : Reach} {b0 : Nat} {v : Value} {d : DataW H} {p : List MemPlace} (h : DataW.Trod enc Tryd.prog W 0 (fun _ => true) true 40 v d p) (hv : Value.okWide Tryd.prog W' r b0 40 v) : ∃ a b, v = .agg #[.string a, .string b] := by
  obtain ⟨cs, rfl, hsz⟩ := okWide_struct Tryd.underlying40 hv
  obtain ⟨fuel, hf⟩ := h
  obtain ⟨⟨y0, y0'⟩, ⟨y1, y1'⟩, n, _, _, g0, g1⟩ := trod_struct2 Tryd.underlying40 hf
  rw [cellsV] at hsz
  obtain ⟨cs⟩ := cs
  match cs, hsz with
  | [c0, c1], _ =>
    simp [cellsSt] at g0 g1
    obtain ⟨s0, e0, _, _⟩ := DataW.trod_string Tryd.underlying9 g0
    obtain ⟨s1, e1, _, _⟩ := DataW.trod_string Tryd.underlying9 g1
    simp [Value.cells] at e0 e1
    exact ⟨s0, s1, by rw [e0, e1]⟩
end
end Go.Proofs.YtflcdpolfimggaaDoor
