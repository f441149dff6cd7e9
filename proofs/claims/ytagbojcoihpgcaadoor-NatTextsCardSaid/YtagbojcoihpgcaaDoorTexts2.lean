/- NatTexts for a first number that is not zero. -/
import Derived.Test.YtagbojcoihpgcaaDoorTexts
import Derived.Deep.CutBlock
import Derived.Deep.DeepCutAuto
import Derived.WalkLawsBesides
namespace Go.Proofs.YtagbojcoihpgcaaDoor
open Go.RowKit

set_option maxRecDepth 100000 in
set_option maxHeartbeats 8000000 in
theorem texts_pos (v1 : Option Addr) (v2 : Option Addr) (l1 : List Nat) (l2 : List Nat) (c1 : Nat) (c2 : Nat) (w : World) (x1 : In32 w (.slice v1 l1.length c1) l1) (x2 : In32 w (.slice v2 l2.length c2) l2)
    (h1 : l1.length ≤ 24) (h2 : l2.length ≤ 24) (hz : v32 l1 ≠ 0) (ht : Tabs w) (h6 : 6 ≤ w.heap.size) :
    Calls Tryd.prog 3 #[.slice v1 l1.length c1, .slice v2 l2.length c2] w fun e w' => e = .returned (.bool true) ∧ Below w.heap.size w w' := by
  have CW := mkHid works_any
  have HS0 := mkHid (St.refl ht h6)
  have F1 := mkHid (fun W (hs : St w W) => from_g _ l1 w W x1 (by omega) hs)
  have F2 := mkHid (fun W (hs : St w W) => from_g _ l2 w W x2 (by omega) hs)
  have A1 := v32_sm l1 x1.1 12 (by omega)
  have A2 := v32_sm l2 x2.1 12 (by omega)
  have i1 : (l1.length : Int) ≤ 24 := by omega
  have i2 : (l2.length : Int) ≤ 24 := by omega
  clear x1 x2 h1 h2 ht h6
  generalize v32 l1 = a at *
  generalize v32 l2 = b at *
  generalize l1.length = n1 at *
  generalize l2.length = n2 at *
  have sa : Sm a := sm_pow A1 (by omega)
  have sb : Sm b := sm_pow A2 (by omega)
  have hnd : Lib.nDigits a ≤ 2000 := Nat.le_trans (D.nDigits_words 12 a A1) (by omega)
  have HO := mkHid (order_cases a b)
  obtain ⟨m, hm⟩ : ∃ m, lenN a = m + 1 := ⟨lenN a - 1, by have := (lenN_bounds a hz).1; omega⟩
  obtain ⟨n, hn⟩ : ∃ n, lenN a = n := ⟨_, rfl⟩
  have hb1 := (lenN_bounds a hz).2
  rw [hn] at hb1 hm
  have hmn : n - 1 = m := by omega
  rw [hmn] at hb1
  have hm9 := pow_bound a m 12 hb1.1 A1
  have hz1 : Lib.compareInt ((2 ^ m : Nat) : Int) (a : Int) ≤ 0 := by
    rcases Nat.lt_or_ge (2 ^ m) a with h9 | h9
    · rw [ci_lt h9]; decide
    · rw [show 2 ^ m = a by omega, ci_eq]; decide
  obtain ⟨z1, hz1e⟩ : ∃ z, Lib.compareInt ((2 ^ m : Nat) : Int) (a : Int) = z := ⟨_, rfl⟩
  rw [hz1e] at hz1
  have hw1 : IntKind.i64.wrap ((n : Int) - 1) = (m : Int) := by rw [IntWalk.i64_in _ (by omega)]; omega
  have Cta := text_g a sa
  have Ctb := text_g b sb
  have Crd := readn_g a hnd
  have Cab := cmp_g a b
  have Cba := cmp_g b a
  have C0 := of_g 0 (by decide)
  have Cln := len_g a (Nat.le_trans sa (by omega))
  rw [hn] at Cln
  have Cpm := pow_g m (by omega)
  have Cpn := pow_g n (by omega)
  have Cc1 := cmp_g (2 ^ m) a
  rw [hz1e] at Cc1
  have Cc2 := cmp_g a (2 ^ n)
  rw [ci_lt hb1.2] at Cc2
  rw [show ((0 : Nat) : Int) = 0 from rfl] at C0
  unfold nv at F1 F2 Cta Ctb Crd Cab Cba C0 Cln Cpm Cpn Cc1 Cc2
  clear A1 A2 sa sb hnd
  clear hb1 hmn hm hn hz1e
  generalize Lib.decDigits a = da at *
  generalize Lib.decDigits b = db at *
  obtain ⟨la, hla⟩ : ∃ x, lo a = x := ⟨_, rfl⟩
  obtain ⟨ka, hka⟩ : ∃ x, hi a = x := ⟨_, rfl⟩
  obtain ⟨lb, hlb⟩ : ∃ x, lo b = x := ⟨_, rfl⟩
  obtain ⟨kb, hkb⟩ : ∃ x, hi b = x := ⟨_, rfl⟩
  rw [hla, hka] at F1 Cta Crd Cab Cba
  rw [hlb, hkb] at F2 Ctb Cab Cba
  have HEQ : Hid (a = b → la = lb ∧ ka = kb) := mkHid fun e => by subst e; exact ⟨hla.symm.trans hlb, hka.symm.trans hkb⟩
  have HNE : Hid (a ≠ b → ¬ (la : Int) = (lb : Int) ∨ ¬ ka.toList = kb.toList) := mkHid fun e => by rw [← hla, ← hlb, ← hka, ← hkb]; exact parts_ne e
  rw [hla, hka] at Cln Cc1 Cc2
  have HNZ : Hid (¬ (la : Int) = ((lo 0 : Nat) : Int) ∨ ¬ ka.toList = (hi 0).toList) := mkHid (by rw [← hla, ← hka]; exact parts_ne hz)
  generalize lo 0 = lz at *
  generalize hi 0 = kz at *
  generalize lo (2 ^ m) = lp at *
  generalize hi (2 ^ m) = kp at *
  generalize lo (2 ^ n) = lq at *
  generalize hi (2 ^ n) = kq at *
  clear hla hka hlb hkb
  have Cta := mkHid Cta
  have Ctb := mkHid Ctb
  have Crd := mkHid Crd
  have Cab := mkHid Cab
  have Cba := mkHid Cba
  have C0 := mkHid C0
  have Cln := mkHid Cln
  have Cpm := mkHid Cpm
  have Cpn := mkHid Cpn
  have Cc1 := mkHid Cc1
  have Cc2 := mkHid Cc2
  go_enter Tryd.func3, Tryd.ntmps3
  go_upto_region 4 with (first
    | (go_at_call 6; ((with_reducible refine (F1.out _ HS0.out).mono ?_); rintro e w1 ⟨rfl, hb⟩; have HS1 := mkHid (HS0.out.next hb); clear hb F1))
    | (go_at_call 6; ((with_reducible refine (F2.out _ HS1.out).mono ?_); rintro e w2 ⟨rfl, hb⟩; have HS2 := mkHid (((HS1.out.next hb).alloc (.cells #[.int .u64 (la : Int), .string ka] 26)).alloc (.cells #[.int .u64 (lb : Int), .string kb] 26)); have HC := mkHid (Cs.box (Cs.box (Cs.nil w2) w2.heap.size la ka rfl) (w2.heap.size + 1) lb kb (by simp)); clear hb)))
  obtain ⟨q0, q1⟩ := HC.out _ (.tail _ (.head _))
  obtain ⟨q2, q3⟩ := HC.out _ (.head _)
  dsimp only at q0 q1 q2 q3
  have hs0 := HS2.out.drew
  clear HC HS1 HS2 HS0
  generalize w2.heap.size + 1 = j2 at *
  generalize w2.heap.size = j1 at *
  go_region_held3 (fun W => St w W ∧ W.cell? ⟨j1, 0, none⟩ = some (.int .u64 (la : Int)) ∧ W.cell? ⟨j1, 1, none⟩ = some (.string ka) ∧ W.cell? ⟨j2, 0, none⟩ = some (.int .u64 (lb : Int)) ∧ W.cell? ⟨j2, 1, none⟩ = some (.string kb))
    (first
      | (with_reducible exact ⟨hS.1.next hb, St.cell hb hS.2.1, St.cell hb hS.2.2.1, St.cell hb hS.2.2.2.1, St.cell hb hS.2.2.2.2⟩)
      | exact ⟨hs0, q0, q1, q2, q3⟩)
    (first
      | (go_at_call 7; have hS : St w _ ∧ _ := (by assumption); ((with_reducible refine (Cta.out _ hS.1.tabs hS.1.six').mono ?_); rintro e w6 ⟨rfl, hb⟩))
      | (go_at_call 7; have hS : St w _ ∧ _ := (by assumption); ((with_reducible refine (Ctb.out _ hS.1.tabs hS.1.six').mono ?_); rintro e w6 ⟨rfl, hb⟩)))
  have hT : St w _ ∧ _ := (by assumption)
  have HS3 := mkHid hT.1
  have HC3 := mkHid (Cs.cons (Cs.cons (Cs.nil _) hT.2.1 hT.2.2.1) hT.2.2.2.1 hT.2.2.2.2)
  clear hs0 q0 q1 q2 q3 hT
  go_upto_region 8 with (go_at_call 8; ((with_reducible refine (Crd.out _ HS3.out.tabs HS3.out.six').mono ?_); rintro e w5 ⟨rfl, hb⟩; have HS5 := mkHid ((HS3.out.next hb).alloc (.cells #[.int .u64 (la : Int), .string ka] 26)); have HC5 := mkHid (Cs.box (HC3.out.next hb) w5.heap.size la ka rfl); obtain ⟨q0, q1⟩ := HC5.out _ (.tail _ (.tail _ (.head _))); dsimp only at q0 q1; clear hb))
  go_cut [11] (fun v11 wx => v11 = .bool (decide (a < b)) ∧ wx = (w5.alloc (.cells #[.int .u64 (la : Int), .string ka] 26)))
  case first =>
    rcases HO.out with ⟨h1, h2⟩ | ⟨h1, h2⟩ | ⟨h1, h2⟩
    · have g1 : ¬ db.length ≤ da.length := by omega
      have HD := mkHid (decide_eq_true h2)
      clear h1 h2
      go_wp2
      go_meet
      exact ⟨by rw [HD.out], rfl⟩
    · have g1 : db.length ≤ da.length := by omega
      have g2 : ¬ (da.length : Int) = (db.length : Int) := by omega
      have HD := mkHid (decide_eq_false (show ¬ a < b by omega))
      clear h1 h2
      go_wp2
      go_meet
      exact ⟨by rw [HD.out]; congr 1; exact decide_eq_false (by omega), rfl⟩
    · have g1 : db.length ≤ da.length := by omega
      have g2 : (da.length : Int) = (db.length : Int) := by omega
      have HD := mkHid h2
      clear h1 h2
      go_wp2
      go_meet
      exact ⟨by rw [← HD.out], rfl⟩
  case rest =>
  obtain ⟨rfl, rfl⟩ := hcut
  clear HO q0 q1
  obtain ⟨q0, q1⟩ := HC5.out _ (.tail _ (.tail _ (.head _)))
  obtain ⟨q2, q3⟩ := HC5.out _ (.tail _ (.head _))
  dsimp only at q0 q1 q2 q3
  have hs0 := HS5.out.drew
  clear HC3 HC5 HS3 HS5
  go_upto_region 9 with fail
  go_cut [11, 83] (fun _ v83 wx => v83 = .bool false ∧ St w wx ∧ wx.cell? ⟨j1, 0, none⟩ = some (.int .u64 (la : Int)) ∧ wx.cell? ⟨j1, 1, none⟩ = some (.string ka) ∧ wx.cell? ⟨j2, 0, none⟩ = some (.int .u64 (lb : Int)) ∧ wx.cell? ⟨j2, 1, none⟩ = some (.string kb))
  case first =>
    rcases Nat.lt_trichotomy a b with hab | hab | hab
    · have Cab := mkHid (show _ from by have h := Cab.out; rw [ci_lt hab] at h; exact h)
      have Cba := mkHid (show _ from by have h := Cba.out; rw [ci_gt hab] at h; exact h)
      have hd : decide (a < b) = true := decide_eq_true hab
      rcases HNE.out (by omega) with hn | hn
      all_goals
        clear hab
        go_region_held3 (fun W => St w W ∧ W.cell? ⟨j1, 0, none⟩ = some (.int .u64 (la : Int)) ∧ W.cell? ⟨j1, 1, none⟩ = some (.string ka) ∧ W.cell? ⟨j2, 0, none⟩ = some (.int .u64 (lb : Int)) ∧ W.cell? ⟨j2, 1, none⟩ = some (.string kb))
          (first
            | (with_reducible exact ⟨hS.1.next hb, St.cell hb hS.2.1, St.cell hb hS.2.2.1, St.cell hb hS.2.2.2.1, St.cell hb hS.2.2.2.2⟩)
            | exact ⟨hs0, q0, q1, q2, q3⟩)
          (first
            | (go_at_call 9; have hS : St w _ ∧ _ := (by assumption); ((with_reducible refine (Cab.out _ hS.1.tabs hS.1.six').mono ?_); rintro e w6 ⟨rfl, hb⟩))
            | (go_at_call 9; have hS : St w _ ∧ _ := (by assumption); ((with_reducible refine (Cba.out _ hS.1.tabs hS.1.six').mono ?_); rintro e w6 ⟨rfl, hb⟩)))
        all_goals
          have hT : St w _ ∧ _ := (by assumption)
          go_wp2_with fail
          go_meet
          exact ⟨rfl, hT⟩
    · obtain ⟨e1, e2⟩ := HEQ.out hab
      have hd : decide (a < b) = false := decide_eq_false (by omega)
      have Cab := mkHid (show _ from by have h := Cab.out; rw [hab, ci_eq] at h; exact h)
      have Cba := mkHid (show _ from by have h := Cba.out; rw [hab, ci_eq] at h; exact h)
      clear HEQ HNE hab
      subst e1 e2
      go_region_held3 (fun W => St w W ∧ W.cell? ⟨j1, 0, none⟩ = some (.int .u64 (la : Int)) ∧ W.cell? ⟨j1, 1, none⟩ = some (.string ka) ∧ W.cell? ⟨j2, 0, none⟩ = some (.int .u64 (la : Int)) ∧ W.cell? ⟨j2, 1, none⟩ = some (.string ka))
        (first
          | (with_reducible exact ⟨hS.1.next hb, St.cell hb hS.2.1, St.cell hb hS.2.2.1, St.cell hb hS.2.2.2.1, St.cell hb hS.2.2.2.2⟩)
          | exact ⟨hs0, q0, q1, q2, q3⟩)
        (first
          | (go_at_call 9; have hS : St w _ ∧ _ := (by assumption); ((with_reducible refine (Cab.out _ hS.1.tabs hS.1.six').mono ?_); rintro e w6 ⟨rfl, hb⟩))
          | (go_at_call 9; have hS : St w _ ∧ _ := (by assumption); ((with_reducible refine (Cba.out _ hS.1.tabs hS.1.six').mono ?_); rintro e w6 ⟨rfl, hb⟩)))
      all_goals
        have hT : St w _ ∧ _ := (by assumption)
        go_wp2_with fail
        go_meet
        exact ⟨rfl, hT⟩
    · have Cab := mkHid (show _ from by have h := Cab.out; rw [ci_gt hab] at h; exact h)
      have Cba := mkHid (show _ from by have h := Cba.out; rw [ci_lt hab] at h; exact h)
      have hd : decide (a < b) = false := decide_eq_false (by omega)
      rcases HNE.out (by omega) with hn | hn
      all_goals
        clear hab
        go_region_held3 (fun W => St w W ∧ W.cell? ⟨j1, 0, none⟩ = some (.int .u64 (la : Int)) ∧ W.cell? ⟨j1, 1, none⟩ = some (.string ka) ∧ W.cell? ⟨j2, 0, none⟩ = some (.int .u64 (lb : Int)) ∧ W.cell? ⟨j2, 1, none⟩ = some (.string kb))
          (first
            | (with_reducible exact ⟨hS.1.next hb, St.cell hb hS.2.1, St.cell hb hS.2.2.1, St.cell hb hS.2.2.2.1, St.cell hb hS.2.2.2.2⟩)
            | exact ⟨hs0, q0, q1, q2, q3⟩)
          (first
            | (go_at_call 9; have hS : St w _ ∧ _ := (by assumption); ((with_reducible refine (Cab.out _ hS.1.tabs hS.1.six').mono ?_); rintro e w6 ⟨rfl, hb⟩))
            | (go_at_call 9; have hS : St w _ ∧ _ := (by assumption); ((with_reducible refine (Cba.out _ hS.1.tabs hS.1.six').mono ?_); rintro e w6 ⟨rfl, hb⟩)))
        all_goals
          have hT : St w _ ∧ _ := (by assumption)
          go_wp2_with fail
          go_meet
          exact ⟨rfl, hT⟩
  case rest =>
  obtain ⟨rfl, hs0, q0, q1, q2, q3⟩ := hcut
  clear HEQ HNE
  go_wp2_with fail
  go_cut [86] (fun v86 wx => v86 = .bool false ∧ St w wx ∧ wx.cell? ⟨j1, 0, none⟩ = some (.int .u64 (la : Int)) ∧ wx.cell? ⟨j1, 1, none⟩ = some (.string ka) ∧ wx.cell? ⟨j2, 0, none⟩ = some (.int .u64 (lb : Int)) ∧ wx.cell? ⟨j2, 1, none⟩ = some (.string kb))
  case first =>
    rcases HNZ.out with hn | hn
    all_goals
      go_region_held3 (fun W => St w W ∧ W.cell? ⟨j1, 0, none⟩ = some (.int .u64 (la : Int)) ∧ W.cell? ⟨j1, 1, none⟩ = some (.string ka) ∧ W.cell? ⟨j2, 0, none⟩ = some (.int .u64 (lb : Int)) ∧ W.cell? ⟨j2, 1, none⟩ = some (.string kb))
        (first
          | (with_reducible exact ⟨hS.1.next hb, St.cell hb hS.2.1, St.cell hb hS.2.2.1, St.cell hb hS.2.2.2.1, St.cell hb hS.2.2.2.2⟩)
          | exact ⟨hs0.drew, q0, q1, q2, q3⟩)
        (first
          | (go_at_call 10; have hS : St w _ ∧ _ := (by assumption); ((with_reducible refine (C0.out _ hS.1.tabs hS.1.six').mono ?_); rintro e w6 ⟨rfl, hb⟩)))
      all_goals
        have hT : St w _ ∧ _ := (by assumption)
        go_wp2_with fail
        go_meet
        exact ⟨rfl, hT⟩
  case rest =>
  obtain ⟨rfl, hs0, q0, q1, q2, q3⟩ := hcut
  clear HNZ
  go_wp2_with fail
  go_region_held3 (fun W => St w W ∧ W.cell? ⟨j1, 0, none⟩ = some (.int .u64 (la : Int)) ∧ W.cell? ⟨j1, 1, none⟩ = some (.string ka) ∧ W.cell? ⟨j2, 0, none⟩ = some (.int .u64 (lb : Int)) ∧ W.cell? ⟨j2, 1, none⟩ = some (.string kb))
    (first
      | (with_reducible exact ⟨hS.1.next hb, St.cell hb hS.2.1, St.cell hb hS.2.2.1, St.cell hb hS.2.2.2.1, St.cell hb hS.2.2.2.2⟩)
      | exact ⟨hs0.drew, q0, q1, q2, q3⟩)
    (first
      | (go_at_call 11; have hS : St w _ ∧ _ := (by assumption); ((with_reducible refine (Cln.out _ hS.1.tabs hS.1.six').mono ?_); rintro e w6 ⟨rfl, hb⟩))
      | (go_at_call 12; have hS : St w _ ∧ _ := (by assumption); ((with_reducible refine (Cpm.out _ hS.1.tabs hS.1.six').mono ?_); rintro e w6 ⟨rfl, hb⟩))
      | (go_at_call 12; have hS : St w _ ∧ _ := (by assumption); ((with_reducible refine (Cpn.out _ hS.1.tabs hS.1.six').mono ?_); rintro e w6 ⟨rfl, hb⟩))
      | (go_at_call 9; have hS : St w _ ∧ _ := (by assumption); ((with_reducible refine (Cc1.out _ hS.1.tabs hS.1.six').mono ?_); rintro e w6 ⟨rfl, hb⟩))
      | (go_at_call 9; have hS : St w _ ∧ _ := (by assumption); ((with_reducible refine (Cc2.out _ hS.1.tabs hS.1.six').mono ?_); rintro e w6 ⟨rfl, hb⟩))
      | (go_at_call 5; have hS : St w _ ∧ _ := (by assumption); ((with_reducible refine (CW.out _ hS.1.tabs hS.1.six').mono ?_); rintro e w6 ⟨rfl, hb⟩)))
  have hE : St w _ ∧ _ := (by assumption)
  have HE := mkHid hE.1.below
  clear hE
  go_wp2_with fail
  go_ret
  exact ⟨rfl, HE.out⟩
end Go.Proofs.YtagbojcoihpgcaaDoor
