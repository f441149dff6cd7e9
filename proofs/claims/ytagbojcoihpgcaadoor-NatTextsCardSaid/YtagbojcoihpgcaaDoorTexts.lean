/- The contract of NatTexts. -/
import Derived.Test.YtagbojcoihpgcaaDoorFrom
import Derived.Test.YtagbojcoihpgcaaDoorWorks
import Derived.Test.YtagbojcoihpgcaaDoorParts
import Derived.Test.YtagbojcoihpgcaaDoorOrd
import Derived.Deep.CutBlock
import Derived.Deep.DeepCutAuto
import Derived.WalkLawsBesides
namespace Go.Proofs.YtagbojcoihpgcaaDoor
open Go.RowKit

theorem pow_bound (a m k : Nat) (h1 : 2 ^ m ≤ a) (h2 : a < M.B ^ k) : m < 64 * k := by
  have e : M.B ^ k = 2 ^ (64 * k) := by rw [Nat.pow_mul]; rfl
  rw [e] at h2
  exact (Nat.pow_lt_pow_iff_right (by omega)).1 (Nat.lt_of_le_of_lt h1 h2)
theorem len_g (n : Nat) (h : (M.dig n).length ≤ 100000) : Gives 11 #[nv n] (.int .i64 (lenN n : Int)) := fun W _ _ => len_any n W h
theorem len_zero' : ((lenN 0 : Nat) : Int) = 0 := by unfold lenN; rw [M.dig_zero]; decide
theorem order_cases (a b : Nat) : ((Lib.decDigits a).length < (Lib.decDigits b).length ∧ a < b) ∨ ((Lib.decDigits b).length < (Lib.decDigits a).length ∧ b < a) ∨
    ((Lib.decDigits a).length = (Lib.decDigits b).length ∧ Op.bytesLess (Lib.decDigits a) (Lib.decDigits b) = decide (a < b)) := by
  rw [Lib.decDigits_length, Lib.decDigits_length]
  rcases Nat.lt_trichotomy (Lib.nDigits a) (Lib.nDigits b) with h | h | h
  · exact .inl ⟨h, nDigits_lt a b h⟩
  · exact .inr (.inr ⟨h, dec_less a b h⟩)
  · exact .inr (.inl ⟨h, nDigits_lt b a h⟩)

/-- Some of the lists is long. -/
theorem texts_long (v1 v2 : Option Addr) (n1 n2 c1 c2 : Nat) (w : World) (h : 24 < n1 ∨ 24 < n2) (ht : Tabs w) (h6 : 6 ≤ w.heap.size) :
    Calls Tryd.prog 3 #[.slice v1 n1 c1, .slice v2 n2 c2] w fun e w' => e = .returned (.bool true) ∧ Below w.heap.size w w' := by
  have CW := mkHid (works_any w ht h6)
  clear ht h6
  by_cases g1 : 24 < n1
  · have i1 : (24 : Int) < n1 := by omega
    clear h
    go_enter Tryd.func3, Tryd.ntmps3
    go_wp2_with (go_at_call 5; refine CW.out.mono ?_; rintro e w1 ⟨rfl, hb⟩)
    go_ret
    exact ⟨rfl, hb⟩
  · have i1 : (n1 : Int) ≤ 24 := by omega
    have i2 : (24 : Int) < n2 := by omega
    clear h
    go_enter Tryd.func3, Tryd.ntmps3
    go_wp2_with (go_at_call 5; refine CW.out.mono ?_; rintro e w1 ⟨rfl, hb⟩)
    go_ret
    exact ⟨rfl, hb⟩

set_option maxRecDepth 100000 in
set_option maxHeartbeats 8000000 in
theorem texts_zero (v1 : Option Addr) (v2 : Option Addr) (l1 : List Nat) (l2 : List Nat) (c1 : Nat) (c2 : Nat) (w : World) (x1 : In32 w (.slice v1 l1.length c1) l1) (x2 : In32 w (.slice v2 l2.length c2) l2)
    (h1 : l1.length ≤ 24) (h2 : l2.length ≤ 24) (hz : v32 l1 = 0) (ht : Tabs w) (h6 : 6 ≤ w.heap.size) :
    Calls Tryd.prog 3 #[.slice v1 l1.length c1, .slice v2 l2.length c2] w fun e w' => e = .returned (.bool true) ∧ Below w.heap.size w w' := by
  have CW := mkHid works_any
  have HS0 := mkHid (St.refl ht h6)
  have F1 := mkHid (fun W (hs : St w W) => from_g _ l1 w W x1 (by omega) hs)
  have F2 := mkHid (fun W (hs : St w W) => from_g _ l2 w W x2 (by omega) hs)
  have A1 := v32_sm l1 x1.1 12 (by omega)
  have A2 := v32_sm l2 x2.1 12 (by omega)
  have i1 : (l1.length : Int) ≤ 24 := by omega
  have i2 : (l2.length : Int) ≤ 24 := by omega
  clear x1 x2 h1 h2 ht h6
  generalize v32 l1 = a at *
  generalize v32 l2 = b at *
  generalize l1.length = n1 at *
  generalize l2.length = n2 at *
  have sa : Sm a := sm_pow A1 (by omega)
  have sb : Sm b := sm_pow A2 (by omega)
  have hnd : Lib.nDigits a ≤ 2000 := Nat.le_trans (D.nDigits_words 12 a A1) (by omega)
  have HO := mkHid (order_cases a b)
  subst hz
  have Cta := text_g 0 sa
  have Ctb := text_g b sb
  have Crd := readn_g 0 hnd
  have Cab := cmp_g 0 b
  have Cba := cmp_g b 0
  have C0 := of_g 0 (by decide)
  have Cl0 := len_g 0 (Nat.le_trans (sm_word (by decide)) (by omega))
  rw [len_zero'] at Cl0
  rw [show ((0 : Nat) : Int) = 0 from rfl] at C0
  unfold nv at F1 F2 Cta Ctb Crd Cab Cba C0 Cl0
  clear A1 A2 sa sb hnd
  have hd0 : Lib.decDigits 0 = [48] := by rw [D.dec_small (by omega)]; rfl
  rw [hd0] at Cta Crd HO
  clear hd0
  generalize Lib.decDigits b = db at *
  generalize hda : ([48] : List UInt8) = da at *
  have HDA := mkHid hda
  clear hda
  obtain ⟨la, hla⟩ : ∃ x, lo 0 = x := ⟨_, rfl⟩
  obtain ⟨ka, hka⟩ : ∃ x, hi 0 = x := ⟨_, rfl⟩
  obtain ⟨lb, hlb⟩ : ∃ x, lo b = x := ⟨_, rfl⟩
  obtain ⟨kb, hkb⟩ : ∃ x, hi b = x := ⟨_, rfl⟩
  rw [hla, hka] at F1 Cta Crd Cab Cba
  rw [hlb, hkb] at F2 Ctb Cab Cba
  have HEQ : Hid (0 = b → la = lb ∧ ka = kb) := mkHid fun e => by subst e; exact ⟨hla.symm.trans hlb, hka.symm.trans hkb⟩
  have HNE : Hid (0 ≠ b → ¬ (la : Int) = (lb : Int) ∨ ¬ ka.toList = kb.toList) := mkHid fun e => by rw [← hla, ← hlb, ← hka, ← hkb]; exact parts_ne e
  rw [hla, hka] at C0 Cl0
  clear hla hka hlb hkb
  have Cta := mkHid Cta
  have Ctb := mkHid Ctb
  have Crd := mkHid Crd
  have Cab := mkHid Cab
  have Cba := mkHid Cba
  have C0 := mkHid C0
  have Cl0 := mkHid Cl0
  go_enter Tryd.func3, Tryd.ntmps3
  go_upto_region 4 with (first
    | (go_at_call 6; ((with_reducible refine (F1.out _ HS0.out).mono ?_); rintro e w1 ⟨rfl, hb⟩; have HS1 := mkHid (HS0.out.next hb); clear hb F1))
    | (go_at_call 6; ((with_reducible refine (F2.out _ HS1.out).mono ?_); rintro e w2 ⟨rfl, hb⟩; have HS2 := mkHid (((HS1.out.next hb).alloc (.cells #[.int .u64 (la : Int), .string ka] 26)).alloc (.cells #[.int .u64 (lb : Int), .string kb] 26)); have HC := mkHid (Cs.box (Cs.box (Cs.nil w2) w2.heap.size la ka rfl) (w2.heap.size + 1) lb kb (by simp)); clear hb)))
  obtain ⟨q0, q1⟩ := HC.out _ (.tail _ (.head _))
  obtain ⟨q2, q3⟩ := HC.out _ (.head _)
  dsimp only at q0 q1 q2 q3
  have hs0 := HS2.out.drew
  clear HC HS1 HS2 HS0
  generalize w2.heap.size + 1 = j2 at *
  generalize w2.heap.size = j1 at *
  go_region_held3 (fun W => St w W ∧ W.cell? ⟨j1, 0, none⟩ = some (.int .u64 (la : Int)) ∧ W.cell? ⟨j1, 1, none⟩ = some (.string ka) ∧ W.cell? ⟨j2, 0, none⟩ = some (.int .u64 (lb : Int)) ∧ W.cell? ⟨j2, 1, none⟩ = some (.string kb))
    (first
      | (with_reducible exact ⟨hS.1.next hb, St.cell hb hS.2.1, St.cell hb hS.2.2.1, St.cell hb hS.2.2.2.1, St.cell hb hS.2.2.2.2⟩)
      | exact ⟨hs0, q0, q1, q2, q3⟩)
    (first
      | (go_at_call 7; have hS : St w _ ∧ _ := (by assumption); ((with_reducible refine (Cta.out _ hS.1.tabs hS.1.six').mono ?_); rintro e w6 ⟨rfl, hb⟩))
      | (go_at_call 7; have hS : St w _ ∧ _ := (by assumption); ((with_reducible refine (Ctb.out _ hS.1.tabs hS.1.six').mono ?_); rintro e w6 ⟨rfl, hb⟩)))
  have hT : St w _ ∧ _ := (by assumption)
  have HS3 := mkHid hT.1
  have HC3 := mkHid (Cs.cons (Cs.cons (Cs.nil _) hT.2.1 hT.2.2.1) hT.2.2.2.1 hT.2.2.2.2)
  clear hs0 q0 q1 q2 q3 hT
  go_upto_region 8 with (go_at_call 8; ((with_reducible refine (Crd.out _ HS3.out.tabs HS3.out.six').mono ?_); rintro e w5 ⟨rfl, hb⟩; have HS5 := mkHid ((HS3.out.next hb).alloc (.cells #[.int .u64 (la : Int), .string ka] 26)); have HC5 := mkHid (Cs.box (HC3.out.next hb) w5.heap.size la ka rfl); obtain ⟨q0, q1⟩ := HC5.out _ (.tail _ (.tail _ (.head _))); dsimp only at q0 q1; clear hb))
  go_cut [11] (fun v11 wx => v11 = .bool (decide (0 < b)) ∧ wx = (w5.alloc (.cells #[.int .u64 (la : Int), .string ka] 26)))
  case first =>
    rcases HO.out with ⟨h1, h2⟩ | ⟨h1, h2⟩ | ⟨h1, h2⟩
    · have g1 : ¬ db.length ≤ da.length := by omega
      have HD := mkHid (decide_eq_true h2)
      clear h1 h2
      go_wp2
      go_meet
      exact ⟨by rw [HD.out], rfl⟩
    · have g1 : db.length ≤ da.length := by omega
      have g2 : ¬ (da.length : Int) = (db.length : Int) := by omega
      have HD := mkHid (decide_eq_false (show ¬ 0 < b by omega))
      clear h1 h2
      go_wp2
      go_meet
      exact ⟨by rw [HD.out]; congr 1; exact decide_eq_false (by omega), rfl⟩
    · have g1 : db.length ≤ da.length := by omega
      have g2 : (da.length : Int) = (db.length : Int) := by omega
      have HD := mkHid h2
      clear h1 h2
      go_wp2
      go_meet
      exact ⟨by rw [← HD.out], rfl⟩
  case rest =>
  obtain ⟨rfl, rfl⟩ := hcut
  clear HO q0 q1
  obtain ⟨q0, q1⟩ := HC5.out _ (.tail _ (.tail _ (.head _)))
  obtain ⟨q2, q3⟩ := HC5.out _ (.tail _ (.head _))
  dsimp only at q0 q1 q2 q3
  have hs0 := HS5.out.drew
  clear HC3 HC5 HS3 HS5
  go_upto_region 9 with fail
  go_cut [11, 83] (fun _ v83 wx => v83 = .bool false ∧ St w wx ∧ wx.cell? ⟨j1, 0, none⟩ = some (.int .u64 (la : Int)) ∧ wx.cell? ⟨j1, 1, none⟩ = some (.string ka) ∧ wx.cell? ⟨j2, 0, none⟩ = some (.int .u64 (lb : Int)) ∧ wx.cell? ⟨j2, 1, none⟩ = some (.string kb))
  case first =>
    rcases Nat.lt_trichotomy 0 b with hab | hab | hab
    · have Cab := mkHid (show _ from by have h := Cab.out; rw [ci_lt hab] at h; exact h)
      have Cba := mkHid (show _ from by have h := Cba.out; rw [ci_gt hab] at h; exact h)
      have hd : decide (0 < b) = true := decide_eq_true hab
      rcases HNE.out (by omega) with hn | hn
      all_goals
        clear hab
        go_region_held3 (fun W => St w W ∧ W.cell? ⟨j1, 0, none⟩ = some (.int .u64 (la : Int)) ∧ W.cell? ⟨j1, 1, none⟩ = some (.string ka) ∧ W.cell? ⟨j2, 0, none⟩ = some (.int .u64 (lb : Int)) ∧ W.cell? ⟨j2, 1, none⟩ = some (.string kb))
          (first
            | (with_reducible exact ⟨hS.1.next hb, St.cell hb hS.2.1, St.cell hb hS.2.2.1, St.cell hb hS.2.2.2.1, St.cell hb hS.2.2.2.2⟩)
            | exact ⟨hs0, q0, q1, q2, q3⟩)
          (first
            | (go_at_call 9; have hS : St w _ ∧ _ := (by assumption); ((with_reducible refine (Cab.out _ hS.1.tabs hS.1.six').mono ?_); rintro e w6 ⟨rfl, hb⟩))
            | (go_at_call 9; have hS : St w _ ∧ _ := (by assumption); ((with_reducible refine (Cba.out _ hS.1.tabs hS.1.six').mono ?_); rintro e w6 ⟨rfl, hb⟩)))
        all_goals
          have hT : St w _ ∧ _ := (by assumption)
          go_wp2_with fail
          go_meet
          exact ⟨rfl, hT⟩
    · obtain ⟨e1, e2⟩ := HEQ.out hab
      have hd : decide (0 < b) = false := decide_eq_false (by omega)
      have Cab := mkHid (show _ from by have h := Cab.out; rw [hab, ci_eq] at h; exact h)
      have Cba := mkHid (show _ from by have h := Cba.out; rw [hab, ci_eq] at h; exact h)
      clear HEQ HNE hab
      subst e1 e2
      go_region_held3 (fun W => St w W ∧ W.cell? ⟨j1, 0, none⟩ = some (.int .u64 (la : Int)) ∧ W.cell? ⟨j1, 1, none⟩ = some (.string ka) ∧ W.cell? ⟨j2, 0, none⟩ = some (.int .u64 (la : Int)) ∧ W.cell? ⟨j2, 1, none⟩ = some (.string ka))
        (first
          | (with_reducible exact ⟨hS.1.next hb, St.cell hb hS.2.1, St.cell hb hS.2.2.1, St.cell hb hS.2.2.2.1, St.cell hb hS.2.2.2.2⟩)
          | exact ⟨hs0, q0, q1, q2, q3⟩)
        (first
          | (go_at_call 9; have hS : St w _ ∧ _ := (by assumption); ((with_reducible refine (Cab.out _ hS.1.tabs hS.1.six').mono ?_); rintro e w6 ⟨rfl, hb⟩))
          | (go_at_call 9; have hS : St w _ ∧ _ := (by assumption); ((with_reducible refine (Cba.out _ hS.1.tabs hS.1.six').mono ?_); rintro e w6 ⟨rfl, hb⟩)))
      all_goals
        have hT : St w _ ∧ _ := (by assumption)
        go_wp2_with fail
        go_meet
        exact ⟨rfl, hT⟩
    · have Cab := mkHid (show _ from by have h := Cab.out; rw [ci_gt hab] at h; exact h)
      have Cba := mkHid (show _ from by have h := Cba.out; rw [ci_lt hab] at h; exact h)
      have hd : decide (0 < b) = false := decide_eq_false (by omega)
      rcases HNE.out (by omega) with hn | hn
      all_goals
        clear hab
        go_region_held3 (fun W => St w W ∧ W.cell? ⟨j1, 0, none⟩ = some (.int .u64 (la : Int)) ∧ W.cell? ⟨j1, 1, none⟩ = some (.string ka) ∧ W.cell? ⟨j2, 0, none⟩ = some (.int .u64 (lb : Int)) ∧ W.cell? ⟨j2, 1, none⟩ = some (.string kb))
          (first
            | (with_reducible exact ⟨hS.1.next hb, St.cell hb hS.2.1, St.cell hb hS.2.2.1, St.cell hb hS.2.2.2.1, St.cell hb hS.2.2.2.2⟩)
            | exact ⟨hs0, q0, q1, q2, q3⟩)
          (first
            | (go_at_call 9; have hS : St w _ ∧ _ := (by assumption); ((with_reducible refine (Cab.out _ hS.1.tabs hS.1.six').mono ?_); rintro e w6 ⟨rfl, hb⟩))
            | (go_at_call 9; have hS : St w _ ∧ _ := (by assumption); ((with_reducible refine (Cba.out _ hS.1.tabs hS.1.six').mono ?_); rintro e w6 ⟨rfl, hb⟩)))
        all_goals
          have hT : St w _ ∧ _ := (by assumption)
          go_wp2_with fail
          go_meet
          exact ⟨rfl, hT⟩
  case rest =>
  obtain ⟨rfl, hs0, q0, q1, q2, q3⟩ := hcut
  clear HEQ HNE
  go_wp2_with fail
  go_region_held3 (fun W => St w W ∧ W.cell? ⟨j1, 0, none⟩ = some (.int .u64 (la : Int)) ∧ W.cell? ⟨j1, 1, none⟩ = some (.string ka) ∧ W.cell? ⟨j2, 0, none⟩ = some (.int .u64 (lb : Int)) ∧ W.cell? ⟨j2, 1, none⟩ = some (.string kb))
    (first
      | (with_reducible exact ⟨hS.1.next hb, St.cell hb hS.2.1, St.cell hb hS.2.2.1, St.cell hb hS.2.2.2.1, St.cell hb hS.2.2.2.2⟩)
      | exact ⟨hs0.drew, q0, q1, q2, q3⟩)
    (first
      | (go_at_call 10; have hS : St w _ ∧ _ := (by assumption); ((with_reducible refine (C0.out _ hS.1.tabs hS.1.six').mono ?_); rintro e w6 ⟨rfl, hb⟩)))
  have hT : St w _ ∧ _ := (by assumption)
  have HT := mkHid hT
  clear hs0 q0 q1 q2 q3 hT
  obtain ⟨-, q0, q1, -, -⟩ := HT.out
  obtain rfl := HDA.out
  go_wp2_with (first
    | (go_at_call 11; refine (Cl0.out _ HT.out.1.tabs HT.out.1.six').mono ?_; rintro e w8 ⟨rfl, hb⟩; have HS8 := mkHid (HT.out.1.next hb); clear hb)
    | (go_at_call 5; refine (CW.out _ HS8.out.tabs HS8.out.six').mono ?_; rintro e w9 ⟨rfl, hb⟩; have HE := mkHid (HS8.out.next hb).below; clear hb))
  go_ret
  exact ⟨rfl, HE.out⟩

end Go.Proofs.YtagbojcoihpgcaaDoor
