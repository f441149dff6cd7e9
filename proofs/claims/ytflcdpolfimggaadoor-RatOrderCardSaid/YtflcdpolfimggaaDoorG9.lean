/- Contracts, laid one behind the other: QJ QK QL QP. -/
import Derived.Test.YtflcdpolfimggaaDoorG8
namespace Go.Proofs.YtflcdpolfimggaaDoor
open Go.RowKit Q SD

set_option maxRecDepth 100000 in
set_option maxHeartbeats 16000000 in
theorem sub_raw_ok (p1 q1 p2 q2 n : Nat) (z1 : 0 < q1) (z2 : 0 < q2) (k1 : Kb p1 q1) (k2 : Kb p2 q2)  (CS : Gives 46 #[nv (p1 * (q2 / Nat.gcd q1 q2)), nv (p2 * (q1 / Nat.gcd q1 q2))] (.tuple #[nv n, .bool true])) (hsm : Sm n) :
    Gives 21 #[rv p1 q1, rv p2 q2] (.tuple #[rv (n / Nat.gcd n (Nat.gcd q1 q2)) (q1 / Nat.gcd q1 q2 * (q2 / Nat.gcd n (Nat.gcd q1 q2))), .bool true]) := by
  intro W ht h6
  have gp : Nat.gcd q1 q2 ≠ 0 := by have := Nat.gcd_pos_of_pos_right q1 z2; omega
  have CG := mkHid (gcd_g q1 q2 k1.den k2.den)
  have D1 := mkHid (den_g p1 q1 z1)
  have D2 := mkHid (den_g p2 q2 z2)
  have eg : ∀ args w, (callFunc 45 args).run Tryd.prog w = .ok (.enter 45 args) w := enters_of Tryd.func45 (by kernel_rfl) rfl
  have CO := mkHid (fun X (h : SB [(W.heap.size + 1 + 1 + 1, 2), (W.heap.size + 1 + 1 + 1 + 1, 1)] X X) => overOne_g 45 #[.pointer (some ⟨W.heap.size + 1 + 1 + 1, 0, none⟩), .pointer (some ⟨W.heap.size + 1 + 1 + 1 + 1, 0, none⟩)] eg p1 q1 p2 q2 (Nat.gcd q1 q2) [(W.heap.size + 1 + 1 + 1, 2), (W.heap.size + 1 + 1 + 1 + 1, 1)] (fun w' => At2 w' (W.heap.size + 1 + 1 + 1) (lo n) (hi n) ∧ w'.cell? ⟨W.heap.size + 1 + 1 + 1 + 1, 0, none⟩ = some (.bool true)) X h k1.num k1.den k2.num k2.den z1 z2 gp (fun Y hY => sub1_raw _ _ n true CS _ _ (by omega) Y hY.here))
  have CL := mkHid (lowest_g n q1 q2 (Nat.gcd q1 q2) hsm k1.den k2.den (sm_le (Nat.gcd_le_left _ z1) k1.den) gp)
  unfold rv at *
  unfold nv at *
  clear CS hsm k1 k2 z1 z2 gp eg
  generalize lo (dz (q1 / Nat.gcd q1 q2 * (q2 / Nat.gcd n (Nat.gcd q1 q2)))) = l9 at *
  generalize hi (dz (q1 / Nat.gcd q1 q2 * (q2 / Nat.gcd n (Nat.gcd q1 q2)))) = k9 at *
  generalize lo (n / Nat.gcd n (Nat.gcd q1 q2)) = l5 at *
  generalize hi (n / Nat.gcd n (Nat.gcd q1 q2)) = k5 at *
  generalize lo (dz q1) = lz1 at *
  generalize hi (dz q1) = kz1 at *
  generalize lo (dz q2) = lz2 at *
  generalize hi (dz q2) = kz2 at *
  generalize lo (Nat.gcd q1 q2) = lg at *
  generalize hi (Nat.gcd q1 q2) = kg at *
  generalize lo (n) = ln at *
  generalize hi (n) = kn at *
  generalize lo (p1) = lp1 at *
  generalize hi (p1) = kp1 at *
  generalize lo (p2) = lp2 at *
  generalize hi (p2) = kp2 at *
  generalize lo (q1) = lq1 at *
  generalize hi (q1) = kq1 at *
  generalize lo (q2) = lq2 at *
  generalize hi (q2) = kq2 at *
  have HS := mkHid ((((((St.refl ht h6).alloc (.cells #[.int .u64 (lp1 : Int), .string kp1, .int .u64 (lz1 : Int), .string kz1] 26)).alloc (.cells #[.int .u64 (lp2 : Int), .string kp2, .int .u64 (lz2 : Int), .string kz2] 26)).alloc (.cells #[.int .u64 0, .string ⟨#[]⟩, .int .u64 0, .string ⟨#[]⟩] 26)).alloc (.cells #[.int .u64 0, .string ⟨#[]⟩] 24)).alloc (.cells #[.bool false] 4))
  have H0 := mkHid (((((At4.new W (W.heap.size) lp1 kp1 lz1 kz1 rfl).alloc (.cells #[.int .u64 (lp2 : Int), .string kp2, .int .u64 (lz2 : Int), .string kz2] 26)).alloc (.cells #[.int .u64 0, .string ⟨#[]⟩, .int .u64 0, .string ⟨#[]⟩] 26)).alloc (.cells #[.int .u64 0, .string ⟨#[]⟩] 24)).alloc (.cells #[.bool false] 4))
  have H1 := mkHid ((((At4.new (W.alloc (.cells #[.int .u64 (lp1 : Int), .string kp1, .int .u64 (lz1 : Int), .string kz1] 26)) (W.heap.size + 1) lp2 kp2 lz2 kz2 (by simp)).alloc (.cells #[.int .u64 0, .string ⟨#[]⟩, .int .u64 0, .string ⟨#[]⟩] 26)).alloc (.cells #[.int .u64 0, .string ⟨#[]⟩] 24)).alloc (.cells #[.bool false] 4))
  have H2 := mkHid (((Bxn.new ((W.alloc (.cells #[.int .u64 (lp1 : Int), .string kp1, .int .u64 (lz1 : Int), .string kz1] 26)).alloc (.cells #[.int .u64 (lp2 : Int), .string kp2, .int .u64 (lz2 : Int), .string kz2] 26)) (W.heap.size + 1 + 1) #[.int .u64 0, .string ⟨#[]⟩, .int .u64 0, .string ⟨#[]⟩] 26 (by simp)).alloc (.cells #[.int .u64 0, .string ⟨#[]⟩] 24)).alloc (.cells #[.bool false] 4))
  have H3 := mkHid ((Bxn.new (((W.alloc (.cells #[.int .u64 (lp1 : Int), .string kp1, .int .u64 (lz1 : Int), .string kz1] 26)).alloc (.cells #[.int .u64 (lp2 : Int), .string kp2, .int .u64 (lz2 : Int), .string kz2] 26)).alloc (.cells #[.int .u64 0, .string ⟨#[]⟩, .int .u64 0, .string ⟨#[]⟩] 26)) (W.heap.size + 1 + 1 + 1) #[.int .u64 0, .string ⟨#[]⟩] 24 (by simp)).alloc (.cells #[.bool false] 4))
  have H4 := mkHid (Bxn.new ((((W.alloc (.cells #[.int .u64 (lp1 : Int), .string kp1, .int .u64 (lz1 : Int), .string kz1] 26)).alloc (.cells #[.int .u64 (lp2 : Int), .string kp2, .int .u64 (lz2 : Int), .string kz2] 26)).alloc (.cells #[.int .u64 0, .string ⟨#[]⟩, .int .u64 0, .string ⟨#[]⟩] 26)).alloc (.cells #[.int .u64 0, .string ⟨#[]⟩] 24)) (W.heap.size + 1 + 1 + 1 + 1) #[.bool false] 4 (by simp))
  have hs0 := HS.out
  obtain ⟨⟨a0, a1, a2, a3⟩, -⟩ := H0.out
  obtain ⟨⟨b0, b1, b2, b3⟩, -⟩ := H1.out
  have x2 := H2.out
  have x3 := H3.out
  have x4 := H4.out
  clear ht H0 H1 H2 H3 H4 HS
  go_enter Tryd.func21, Tryd.ntmps21
  go_upto_region 3 with (fail)
  go_cut [8] (fun v wx => ∃ j : Nat, v = .pointer (some ⟨j, 0, none⟩) ∧ W.heap.size + 5 ≤ j ∧ Hid (At2 wx j lg kg ∧ St W wx ∧ wx.cell? ⟨W.heap.size, 0, none⟩ = some (.int .u64 (lp1 : Int)) ∧ wx.cell? ⟨W.heap.size, 1, none⟩ = some (.string kp1) ∧ wx.cell? ⟨W.heap.size, 2, none⟩ = some (.int .u64 (lz1 : Int)) ∧ wx.cell? ⟨W.heap.size, 3, none⟩ = some (.string kz1) ∧ wx.cell? ⟨W.heap.size + 1, 0, none⟩ = some (.int .u64 (lp2 : Int)) ∧ wx.cell? ⟨W.heap.size + 1, 1, none⟩ = some (.string kp2) ∧ wx.cell? ⟨W.heap.size + 1, 2, none⟩ = some (.int .u64 (lz2 : Int)) ∧ wx.cell? ⟨W.heap.size + 1, 3, none⟩ = some (.string kz2) ∧ Bxn wx (W.heap.size + 1 + 1) 4 ∧ Bxn wx (W.heap.size + 1 + 1 + 1) 2 ∧ Bxn wx (W.heap.size + 1 + 1 + 1 + 1) 1))
  case first =>
    go_region_held3 (fun X => St W X ∧ X.cell? ⟨W.heap.size, 0, none⟩ = some (.int .u64 (lp1 : Int)) ∧ X.cell? ⟨W.heap.size, 1, none⟩ = some (.string kp1) ∧ X.cell? ⟨W.heap.size, 2, none⟩ = some (.int .u64 (lz1 : Int)) ∧ X.cell? ⟨W.heap.size, 3, none⟩ = some (.string kz1) ∧ X.cell? ⟨W.heap.size + 1, 0, none⟩ = some (.int .u64 (lp2 : Int)) ∧ X.cell? ⟨W.heap.size + 1, 1, none⟩ = some (.string kp2) ∧ X.cell? ⟨W.heap.size + 1, 2, none⟩ = some (.int .u64 (lz2 : Int)) ∧ X.cell? ⟨W.heap.size + 1, 3, none⟩ = some (.string kz2) ∧ Bxn X (W.heap.size + 1 + 1) 4 ∧ Bxn X (W.heap.size + 1 + 1 + 1) 2 ∧ Bxn X (W.heap.size + 1 + 1 + 1 + 1) 1)
      (first
        | (with_reducible exact ⟨hS.1.next hb, St.cell hb hS.2.1, St.cell hb hS.2.2.1, St.cell hb hS.2.2.2.1, St.cell hb hS.2.2.2.2.1, St.cell hb hS.2.2.2.2.2.1, St.cell hb hS.2.2.2.2.2.2.1, St.cell hb hS.2.2.2.2.2.2.2.1, St.cell hb hS.2.2.2.2.2.2.2.2.1, hS.2.2.2.2.2.2.2.2.2.1.grows hb, hS.2.2.2.2.2.2.2.2.2.2.1.grows hb, hS.2.2.2.2.2.2.2.2.2.2.2.grows hb⟩)
        | (have hT : St W _ ∧ _ := (by assumption); with_reducible exact ⟨(hT.1).alloc _, cellAl (hT.2.1) _, cellAl (hT.2.2.1) _, cellAl (hT.2.2.2.1) _, cellAl (hT.2.2.2.2.1) _, cellAl (hT.2.2.2.2.2.1) _, cellAl (hT.2.2.2.2.2.2.1) _, cellAl (hT.2.2.2.2.2.2.2.1) _, cellAl (hT.2.2.2.2.2.2.2.2.1) _, (hT.2.2.2.2.2.2.2.2.2.1).alloc _, (hT.2.2.2.2.2.2.2.2.2.2.1).alloc _, (hT.2.2.2.2.2.2.2.2.2.2.2).alloc _⟩)
        | (with_reducible exact ⟨(hS.1.next hb).alloc _, cellAl (St.cell hb hS.2.1) _, cellAl (St.cell hb hS.2.2.1) _, cellAl (St.cell hb hS.2.2.2.1) _, cellAl (St.cell hb hS.2.2.2.2.1) _, cellAl (St.cell hb hS.2.2.2.2.2.1) _, cellAl (St.cell hb hS.2.2.2.2.2.2.1) _, cellAl (St.cell hb hS.2.2.2.2.2.2.2.1) _, cellAl (St.cell hb hS.2.2.2.2.2.2.2.2.1) _, (hS.2.2.2.2.2.2.2.2.2.1.grows hb).alloc _, (hS.2.2.2.2.2.2.2.2.2.2.1.grows hb).alloc _, (hS.2.2.2.2.2.2.2.2.2.2.2.grows hb).alloc _⟩)
        | (have hT : St W _ ∧ _ := (by assumption); exact ⟨(hT.1).set2 (by omega) _ _, cellSet2 (hT.2.1) (by omega) _ _, cellSet2 (hT.2.2.1) (by omega) _ _, cellSet2 (hT.2.2.2.1) (by omega) _ _, cellSet2 (hT.2.2.2.2.1) (by omega) _ _, cellSet2 (hT.2.2.2.2.2.1) (by omega) _ _, cellSet2 (hT.2.2.2.2.2.2.1) (by omega) _ _, cellSet2 (hT.2.2.2.2.2.2.2.1) (by omega) _ _, cellSet2 (hT.2.2.2.2.2.2.2.2.1) (by omega) _ _, (hT.2.2.2.2.2.2.2.2.2.1).set2 _ _ _, (hT.2.2.2.2.2.2.2.2.2.2.1).set2 _ _ _, (hT.2.2.2.2.2.2.2.2.2.2.2).set2 _ _ _⟩)
        | exact ⟨hs0.drew, a0, a1, a2, a3, b0, b1, b2, b3, x2, x3, x4⟩
        | exact ⟨(hs0.alloc _).drew, cellAl a0 _, cellAl a1 _, cellAl a2 _, cellAl a3 _, cellAl b0 _, cellAl b1 _, cellAl b2 _, cellAl b3 _, x2.alloc _, x3.alloc _, x4.alloc _⟩)
      (first
        | (go_at_call 28; have hS : St W _ ∧ _ := (by assumption); (with_reducible refine (D1.out _ hS.1.tabs hS.1.six').mono ?_); rintro e w6 ⟨rfl, hb⟩; (first | (have hz := HZ.out.grows hb; (have HZ := mkHid hz); obtain ⟨z0, z1, z2, z3⟩ := hz) | (have hz := (At2.new _ _ 0 ⟨#[]⟩ rfl).grows hb; (try simp only [World.size_alloc] at hz); (have HZ := mkHid hz); obtain ⟨z0, z1, z2, z3⟩ := hz) | (have hz := (At2.new _ _ 0 ⟨#[]⟩ rfl).drew.grows hb; (try simp only [World.size_alloc] at hz); (have HZ := mkHid hz); obtain ⟨z0, z1, z2, z3⟩ := hz) | skip); have hz6 : W.heap.size + 5 ≤ w6.heap.size := (by have h9 := hb.size; (try simp at h9); (try have h8 := hz6); omega))
        | (go_at_call 28; have hS : St W _ ∧ _ := (by assumption); (with_reducible refine (D2.out _ hS.1.tabs hS.1.six').mono ?_); rintro e w6 ⟨rfl, hb⟩; (first | (have hz := HZ.out.grows hb; (have HZ := mkHid hz); obtain ⟨z0, z1, z2, z3⟩ := hz) | (have hz := (At2.new _ _ 0 ⟨#[]⟩ rfl).grows hb; (try simp only [World.size_alloc] at hz); (have HZ := mkHid hz); obtain ⟨z0, z1, z2, z3⟩ := hz) | (have hz := (At2.new _ _ 0 ⟨#[]⟩ rfl).drew.grows hb; (try simp only [World.size_alloc] at hz); (have HZ := mkHid hz); obtain ⟨z0, z1, z2, z3⟩ := hz) | skip); have hz6 : W.heap.size + 5 ≤ w6.heap.size := (by have h9 := hb.size; (try simp at h9); (try have h8 := hz6); omega))
        | (go_at_call 26; have hS : St W _ ∧ _ := (by assumption); (with_reducible refine (CG.out _ hS.1.tabs hS.1.six').mono ?_); rintro e w6 ⟨rfl, hb⟩; (first | (have hz := HZ.out.grows hb; (have HZ := mkHid hz); obtain ⟨z0, z1, z2, z3⟩ := hz) | (have hz := (At2.new _ _ 0 ⟨#[]⟩ rfl).grows hb; (try simp only [World.size_alloc] at hz); (have HZ := mkHid hz); obtain ⟨z0, z1, z2, z3⟩ := hz) | (have hz := (At2.new _ _ 0 ⟨#[]⟩ rfl).drew.grows hb; (try simp only [World.size_alloc] at hz); (have HZ := mkHid hz); obtain ⟨z0, z1, z2, z3⟩ := hz) | skip); have hz6 : W.heap.size + 5 ≤ w6.heap.size := (by have h9 := hb.size; (try simp at h9); (try have h8 := hz6); omega)))
    all_goals
      have hT : St W _ ∧ _ := (by assumption)
      have HT := mkHid hT
      clear hT
      go_wp2_with fail
      go_meet
      refine ⟨_, rfl, (by first | omega | (simp; omega) | simp), mkHid ⟨?_, HT⟩⟩
      first
        | (with_reducible exact At2.new _ _ lg kg (by simp))
        | (with_reducible exact HZ.out.set lg kg)
        | (with_reducible exact (At2.new _ _ 0 ⟨#[]⟩ rfl).set lg kg)
  case rest =>
    obtain ⟨j, rfl, hj, H⟩ := hcut
    obtain ⟨⟨g0, g1, -, -⟩, hs1, a0, a1, a2, a3, b0, b1, b2, b3, x2, x3, x4⟩ := H.out
    clear H
    have HX2 := mkHid x2
    have HS1 := mkHid hs1
    have hsb := SB.refl (bs := [(W.heap.size + 1 + 1 + 1, 2), (W.heap.size + 1 + 1 + 1 + 1, 1)]) hs1.tabs hs1.six' (by intro p hp; simp at hp; rcases hp with rfl | rfl; exact ⟨x3, by omega⟩; exact ⟨x4, by omega⟩)
    have HSB := mkHid hsb
    clear hsb hs1 x2 x3 x4
    go_upto_region 7 with (go_at_call 40; refine (CO.out _ HSB.out).mono ?_; rintro e w3 ⟨rfl, hq, hr⟩; have HQ := mkHid hq; have HR := mkHid hr; clear hq hr; have hk := HR.out.2)
    replace a0 := HQ.out.old (not_two (by omega) (by omega)) a0
    replace a1 := HQ.out.old (not_two (by omega) (by omega)) a1
    replace a2 := HQ.out.old (not_two (by omega) (by omega)) a2
    replace a3 := HQ.out.old (not_two (by omega) (by omega)) a3
    replace b0 := HQ.out.old (not_two (by omega) (by omega)) b0
    replace b1 := HQ.out.old (not_two (by omega) (by omega)) b1
    replace b2 := HQ.out.old (not_two (by omega) (by omega)) b2
    replace b3 := HQ.out.old (not_two (by omega) (by omega)) b3
    replace g0 := HQ.out.old (not_two (by omega) (by omega)) g0
    replace g1 := HQ.out.old (not_two (by omega) (by omega)) g1
    have x2 := HQ.out.oldBx (not_two (by omega) (by omega)) HX2.out
    have hs1 := (HS1.out.past HQ.out (by intro p hp; simp at hp; rcases hp with rfl | rfl <;> (show W.heap.size ≤ _) <;> omega)).drew
    obtain ⟨n0, n1, -, -⟩ := HR.out.1
    clear HR HQ HX2 HS1 HSB CO hk
    go_region_held3 (fun X => St W X ∧ X.cell? ⟨W.heap.size, 0, none⟩ = some (.int .u64 (lp1 : Int)) ∧ X.cell? ⟨W.heap.size, 1, none⟩ = some (.string kp1) ∧ X.cell? ⟨W.heap.size, 2, none⟩ = some (.int .u64 (lz1 : Int)) ∧ X.cell? ⟨W.heap.size, 3, none⟩ = some (.string kz1) ∧ X.cell? ⟨W.heap.size + 1, 0, none⟩ = some (.int .u64 (lp2 : Int)) ∧ X.cell? ⟨W.heap.size + 1, 1, none⟩ = some (.string kp2) ∧ X.cell? ⟨W.heap.size + 1, 2, none⟩ = some (.int .u64 (lz2 : Int)) ∧ X.cell? ⟨W.heap.size + 1, 3, none⟩ = some (.string kz2) ∧ X.cell? ⟨W.heap.size + 1 + 1 + 1, 0, none⟩ = some (.int .u64 (ln : Int)) ∧ X.cell? ⟨W.heap.size + 1 + 1 + 1, 1, none⟩ = some (.string kn) ∧ X.cell? ⟨j, 0, none⟩ = some (.int .u64 (lg : Int)) ∧ X.cell? ⟨j, 1, none⟩ = some (.string kg) ∧ Bxn X (W.heap.size + 1 + 1) 4)
      (first
        | (with_reducible exact ⟨hS.1.next hb, St.cell hb hS.2.1, St.cell hb hS.2.2.1, St.cell hb hS.2.2.2.1, St.cell hb hS.2.2.2.2.1, St.cell hb hS.2.2.2.2.2.1, St.cell hb hS.2.2.2.2.2.2.1, St.cell hb hS.2.2.2.2.2.2.2.1, St.cell hb hS.2.2.2.2.2.2.2.2.1, St.cell hb hS.2.2.2.2.2.2.2.2.2.1, St.cell hb hS.2.2.2.2.2.2.2.2.2.2.1, St.cell hb hS.2.2.2.2.2.2.2.2.2.2.2.1, St.cell hb hS.2.2.2.2.2.2.2.2.2.2.2.2.1, hS.2.2.2.2.2.2.2.2.2.2.2.2.2.grows hb⟩)
        | exact ⟨hs1, a0, a1, a2, a3, b0, b1, b2, b3, n0, n1, g0, g1, x2⟩
        | (have hP : St W w6 ∧ _ := (by assumption); exact ⟨(hP.1).set4 (by omega) _ _ _ _, set4_other (hP.2.1) (by omega) _ _ _ _, set4_other (hP.2.2.1) (by omega) _ _ _ _, set4_other (hP.2.2.2.1) (by omega) _ _ _ _, set4_other (hP.2.2.2.2.1) (by omega) _ _ _ _, set4_other (hP.2.2.2.2.2.1) (by omega) _ _ _ _, set4_other (hP.2.2.2.2.2.2.1) (by omega) _ _ _ _, set4_other (hP.2.2.2.2.2.2.2.1) (by omega) _ _ _ _, set4_other (hP.2.2.2.2.2.2.2.2.1) (by omega) _ _ _ _, set4_other (hP.2.2.2.2.2.2.2.2.2.1) (by omega) _ _ _ _, set4_other (hP.2.2.2.2.2.2.2.2.2.2.1) (by omega) _ _ _ _, set4_other (hP.2.2.2.2.2.2.2.2.2.2.2.1) (by omega) _ _ _ _, set4_other (hP.2.2.2.2.2.2.2.2.2.2.2.2.1) (by omega) _ _ _ _, (hP.2.2.2.2.2.2.2.2.2.2.2.2.2).set4 _ _ _ _ _⟩))
      (first
        | (go_at_call 28; have hS : St W _ ∧ _ := (by assumption); (with_reducible refine (D1.out _ hS.1.tabs hS.1.six').mono ?_); rintro e w6 ⟨rfl, hb⟩)
        | (go_at_call 28; have hS : St W _ ∧ _ := (by assumption); (with_reducible refine (D2.out _ hS.1.tabs hS.1.six').mono ?_); rintro e w6 ⟨rfl, hb⟩)
        | (go_at_call 43; have hS : St W _ ∧ _ := (by assumption); (with_reducible refine (CL.out _ hS.1.tabs hS.1.six').mono ?_); rintro e w6 ⟨rfl, hb⟩; obtain ⟨v0, v1, v2, v3, ⟨r0, r1, r2, r3⟩, f0, f1, f2, f3⟩ := (hS.2.2.2.2.2.2.2.2.2.2.2.2.2.grows hb).facts4))
    have hT : St W _ ∧ _ := (by assumption)
    have HT := mkHid hT.1.below
    clear hT
    go_wp2_with fail
    refine bodyPost_ret (v := .tuple #[.agg #[.int .u64 (l5 : Int), .string k5, .int .u64 (l9 : Int), .string k9], .bool true]) (by simp [results, Tryd.results21, go_sem, r0, r1, r2, r3]) rfl ⟨rfl, ?_⟩
    exact HT.out
end Go.Proofs.YtflcdpolfimggaaDoor
namespace Go.Proofs.YtflcdpolfimggaaDoor
open Go.RowKit Q SD

/-- New blocks that hold 0. -/
def Zs (W : World) (l : List Nat) : Prop := ∀ p ∈ l, At2 W p 0 ⟨#[]⟩
theorem At2.offOf {w : World} {b b' l l' : Nat} {h h' : ByteArray} (H : At2 w b l h) (_ : At2 w b' l' h') (hne : b ≠ b') (x y : Value) : At2 ((w.setCell ⟨b', 0, none⟩ x).setCell ⟨b', 1, none⟩ y) b l h := H.setOff hne x y
theorem Zs.nil (W : World) : Zs W [] := fun _ h => by cases h
theorem Zs.next {W w' : World} {l : List Nat} (h : Zs W l) (hb : Below W.heap.size W w') : Zs w' l := fun p hp => (h p hp).grows hb
theorem Zs.h1 {W : World} {p : Nat} {l : List Nat} (h : Zs W (p :: l)) : At2 W p 0 ⟨#[]⟩ := h p (.head _)
theorem Zs.h2 {W : World} {p q : Nat} {l : List Nat} (h : Zs W (q :: p :: l)) : At2 W p 0 ⟨#[]⟩ := h p (.tail _ (.head _))
theorem Zs.drew {W : World} {l : List Nat} (h : Zs W l) : Zs W.drew l := fun p hp => (h p hp).drew
theorem Zs.box {W : World} {l : List Nat} (h : Zs W l) : Zs (W.alloc (.cells #[.int .u64 0, .string ⟨#[]⟩] 24)) (W.heap.size :: l) := by
  intro p hp
  rcases List.mem_cons.1 hp with rfl | hp
  · exact At2.new W _ 0 _ rfl
  · exact (h p hp).alloc _

set_option maxRecDepth 100000 in
set_option maxHeartbeats 64000000 in
theorem mul_raw (p1 q1 p2 q2 : Nat) (z1 : 0 < q1) (z2 : 0 < q2) (k1 : Kb p1 q1) (k2 : Kb p2 q2) :
    Gives 20 #[rv p1 q1, rv p2 q2] (rv (p1 / Nat.gcd p1 q2 * (p2 / Nat.gcd p2 q1)) (q1 / Nat.gcd p2 q1 * (q2 / Nat.gcd p1 q2))) := by
  intro W ht h6
  have gp : Nat.gcd p1 q2 ≠ 0 := by have := Nat.gcd_pos_of_pos_right p1 z2; omega
  have hp : Nat.gcd p2 q1 ≠ 0 := by have := Nat.gcd_pos_of_pos_right p2 z1; omega
  have D1 := mkHid (den_g p1 q1 z1)
  have D2 := mkHid (den_g p2 q2 z2)
  have G1 := mkHid (gcd_g p1 q2 k1.num k2.den)
  have G2 := mkHid (gcd_g p2 q1 k2.num k1.den)
  have Q1 := mkHid (quotient_g p1 (Nat.gcd p1 q2) k1.num gp)
  have Q2 := mkHid (quotient_g p2 (Nat.gcd p2 q1) k2.num hp)
  have Q3 := mkHid (quotient_g q1 (Nat.gcd p2 q1) k1.den hp)
  have Q4 := mkHid (quotient_g q2 (Nat.gcd p1 q2) k2.den gp)
  have M1 := mkHid (mul_g (p1 / Nat.gcd p1 q2) (p2 / Nat.gcd p2 q1) (sm_le (Nat.div_le_self _ _) k1.num) (sm_le (Nat.div_le_self _ _) k2.num))
  have M2 := mkHid (mul_g (q1 / Nat.gcd p2 q1) (q2 / Nat.gcd p1 q2) (sm_le (Nat.div_le_self _ _) k1.den) (sm_le (Nat.div_le_self _ _) k2.den))
  have CP := mkHid (pack_g (p1 / Nat.gcd p1 q2 * (p2 / Nat.gcd p2 q1)) (q1 / Nat.gcd p2 q1 * (q2 / Nat.gcd p1 q2)))
  unfold rv at *
  unfold nv at *
  clear k1 k2 z1 z2 gp hp
  generalize lo (dz (q1 / Nat.gcd p2 q1 * (q2 / Nat.gcd p1 q2))) = l9 at *
  generalize hi (dz (q1 / Nat.gcd p2 q1 * (q2 / Nat.gcd p1 q2))) = k9 at *
  generalize lo (q1 / Nat.gcd p2 q1 * (q2 / Nat.gcd p1 q2)) = l8 at *
  generalize hi (q1 / Nat.gcd p2 q1 * (q2 / Nat.gcd p1 q2)) = k8 at *
  generalize lo (p1 / Nat.gcd p1 q2 * (p2 / Nat.gcd p2 q1)) = l7 at *
  generalize hi (p1 / Nat.gcd p1 q2 * (p2 / Nat.gcd p2 q1)) = k7 at *
  generalize lo (q1 / Nat.gcd p2 q1) = l6 at *
  generalize hi (q1 / Nat.gcd p2 q1) = k6 at *
  generalize lo (q2 / Nat.gcd p1 q2) = l5 at *
  generalize hi (q2 / Nat.gcd p1 q2) = k5 at *
  generalize lo (p1 / Nat.gcd p1 q2) = l4 at *
  generalize hi (p1 / Nat.gcd p1 q2) = k4 at *
  generalize lo (p2 / Nat.gcd p2 q1) = l3 at *
  generalize hi (p2 / Nat.gcd p2 q1) = k3 at *
  generalize lo (dz q1) = lz1 at *
  generalize hi (dz q1) = kz1 at *
  generalize lo (dz q2) = lz2 at *
  generalize hi (dz q2) = kz2 at *
  generalize lo (Nat.gcd p1 q2) = lg at *
  generalize hi (Nat.gcd p1 q2) = kg at *
  generalize lo (Nat.gcd p2 q1) = lh at *
  generalize hi (Nat.gcd p2 q1) = kh at *
  generalize lo (p1) = lp1 at *
  generalize hi (p1) = kp1 at *
  generalize lo (p2) = lp2 at *
  generalize hi (p2) = kp2 at *
  generalize lo (q1) = lq1 at *
  generalize hi (q1) = kq1 at *
  generalize lo (q2) = lq2 at *
  generalize hi (q2) = kq2 at *
  have HS := mkHid ((((St.refl ht h6).alloc (.cells #[.int .u64 (lp1 : Int), .string kp1, .int .u64 (lz1 : Int), .string kz1] 26)).alloc (.cells #[.int .u64 (lp2 : Int), .string kp2, .int .u64 (lz2 : Int), .string kz2] 26)).alloc (.cells #[.int .u64 0, .string ⟨#[]⟩, .int .u64 0, .string ⟨#[]⟩] 26))
  have H0 := mkHid (((At4.new W (W.heap.size) lp1 kp1 lz1 kz1 rfl).alloc (.cells #[.int .u64 (lp2 : Int), .string kp2, .int .u64 (lz2 : Int), .string kz2] 26)).alloc (.cells #[.int .u64 0, .string ⟨#[]⟩, .int .u64 0, .string ⟨#[]⟩] 26))
  have H1 := mkHid ((At4.new (W.alloc (.cells #[.int .u64 (lp1 : Int), .string kp1, .int .u64 (lz1 : Int), .string kz1] 26)) (W.heap.size + 1) lp2 kp2 lz2 kz2 (by simp)).alloc (.cells #[.int .u64 0, .string ⟨#[]⟩, .int .u64 0, .string ⟨#[]⟩] 26))
  have H2 := mkHid (Bxn.new ((W.alloc (.cells #[.int .u64 (lp1 : Int), .string kp1, .int .u64 (lz1 : Int), .string kz1] 26)).alloc (.cells #[.int .u64 (lp2 : Int), .string kp2, .int .u64 (lz2 : Int), .string kz2] 26)) (W.heap.size + 1 + 1) #[.int .u64 0, .string ⟨#[]⟩, .int .u64 0, .string ⟨#[]⟩] 26 (by simp))
  have hs0 := HS.out
  obtain ⟨⟨a0, a1, a2, a3⟩, -⟩ := H0.out
  obtain ⟨⟨b0, b1, b2, b3⟩, -⟩ := H1.out
  have x2 := H2.out
  clear ht H0 H1 H2 HS
  go_enter Tryd.func20, Tryd.ntmps20
  go_upto_region 1 with (fail)
  have hz6 : W.heap.size + 3 ≤ ((((W.alloc (.cells #[.int .u64 (lp1 : Int), .string kp1, .int .u64 (lz1 : Int), .string kz1] 26)).alloc (.cells #[.int .u64 (lp2 : Int), .string kp2, .int .u64 (lz2 : Int), .string kz2] 26)).alloc (.cells #[.int .u64 0, .string ⟨#[]⟩, .int .u64 0, .string ⟨#[]⟩] 26))).heap.size := by simp
  generalize (((W.alloc (.cells #[.int .u64 (lp1 : Int), .string kp1, .int .u64 (lz1 : Int), .string kz1] 26)).alloc (.cells #[.int .u64 (lp2 : Int), .string kp2, .int .u64 (lz2 : Int), .string kz2] 26)).alloc (.cells #[.int .u64 0, .string ⟨#[]⟩, .int .u64 0, .string ⟨#[]⟩] 26)) = w6 at *
  have HZ := mkHid (Zs.nil w6)
  go_cut [5, 6] (fun v v' wx => ∃ j i : Nat, v = .pointer (some ⟨j, 0, none⟩) ∧ v' = .pointer (some ⟨i, 0, none⟩) ∧ (W.heap.size + 3 ≤ j ∧ W.heap.size + 3 ≤ i) ∧ Hid (At2 wx j lg kg ∧ At2 wx i lh kh) ∧ Hid (St W wx ∧ wx.cell? ⟨W.heap.size, 0, none⟩ = some (.int .u64 (lp1 : Int)) ∧ wx.cell? ⟨W.heap.size, 1, none⟩ = some (.string kp1) ∧ wx.cell? ⟨W.heap.size, 2, none⟩ = some (.int .u64 (lz1 : Int)) ∧ wx.cell? ⟨W.heap.size, 3, none⟩ = some (.string kz1) ∧ wx.cell? ⟨W.heap.size + 1, 0, none⟩ = some (.int .u64 (lp2 : Int)) ∧ wx.cell? ⟨W.heap.size + 1, 1, none⟩ = some (.string kp2) ∧ wx.cell? ⟨W.heap.size + 1, 2, none⟩ = some (.int .u64 (lz2 : Int)) ∧ wx.cell? ⟨W.heap.size + 1, 3, none⟩ = some (.string kz2) ∧ Bxn wx (W.heap.size + 1 + 1) 4))
  case first =>
    go_region_held3 (fun X => St W X ∧ X.cell? ⟨W.heap.size, 0, none⟩ = some (.int .u64 (lp1 : Int)) ∧ X.cell? ⟨W.heap.size, 1, none⟩ = some (.string kp1) ∧ X.cell? ⟨W.heap.size, 2, none⟩ = some (.int .u64 (lz1 : Int)) ∧ X.cell? ⟨W.heap.size, 3, none⟩ = some (.string kz1) ∧ X.cell? ⟨W.heap.size + 1, 0, none⟩ = some (.int .u64 (lp2 : Int)) ∧ X.cell? ⟨W.heap.size + 1, 1, none⟩ = some (.string kp2) ∧ X.cell? ⟨W.heap.size + 1, 2, none⟩ = some (.int .u64 (lz2 : Int)) ∧ X.cell? ⟨W.heap.size + 1, 3, none⟩ = some (.string kz2) ∧ Bxn X (W.heap.size + 1 + 1) 4)
      (first
        | (with_reducible exact ⟨hS.1.next hb, St.cell hb hS.2.1, St.cell hb hS.2.2.1, St.cell hb hS.2.2.2.1, St.cell hb hS.2.2.2.2.1, St.cell hb hS.2.2.2.2.2.1, St.cell hb hS.2.2.2.2.2.2.1, St.cell hb hS.2.2.2.2.2.2.2.1, St.cell hb hS.2.2.2.2.2.2.2.2.1, hS.2.2.2.2.2.2.2.2.2.grows hb⟩)
        | (have hT : St W _ ∧ _ := (by assumption); with_reducible exact ⟨(hT.1).alloc _, cellAl (hT.2.1) _, cellAl (hT.2.2.1) _, cellAl (hT.2.2.2.1) _, cellAl (hT.2.2.2.2.1) _, cellAl (hT.2.2.2.2.2.1) _, cellAl (hT.2.2.2.2.2.2.1) _, cellAl (hT.2.2.2.2.2.2.2.1) _, cellAl (hT.2.2.2.2.2.2.2.2.1) _, (hT.2.2.2.2.2.2.2.2.2).alloc _⟩)
        | (with_reducible exact ⟨(hS.1.next hb).alloc _, cellAl (St.cell hb hS.2.1) _, cellAl (St.cell hb hS.2.2.1) _, cellAl (St.cell hb hS.2.2.2.1) _, cellAl (St.cell hb hS.2.2.2.2.1) _, cellAl (St.cell hb hS.2.2.2.2.2.1) _, cellAl (St.cell hb hS.2.2.2.2.2.2.1) _, cellAl (St.cell hb hS.2.2.2.2.2.2.2.1) _, cellAl (St.cell hb hS.2.2.2.2.2.2.2.2.1) _, (hS.2.2.2.2.2.2.2.2.2.grows hb).alloc _⟩)
        | (with_reducible exact ⟨((hS.1.next hb).alloc _).alloc _, cellAl (cellAl (St.cell hb hS.2.1) _) _, cellAl (cellAl (St.cell hb hS.2.2.1) _) _, cellAl (cellAl (St.cell hb hS.2.2.2.1) _) _, cellAl (cellAl (St.cell hb hS.2.2.2.2.1) _) _, cellAl (cellAl (St.cell hb hS.2.2.2.2.2.1) _) _, cellAl (cellAl (St.cell hb hS.2.2.2.2.2.2.1) _) _, cellAl (cellAl (St.cell hb hS.2.2.2.2.2.2.2.1) _) _, cellAl (cellAl (St.cell hb hS.2.2.2.2.2.2.2.2.1) _) _, ((hS.2.2.2.2.2.2.2.2.2.grows hb).alloc _).alloc _⟩)
        | (have hT : St W _ ∧ _ := (by assumption); exact ⟨(hT.1).set2 (by omega) _ _, cellSet2 (hT.2.1) (by omega) _ _, cellSet2 (hT.2.2.1) (by omega) _ _, cellSet2 (hT.2.2.2.1) (by omega) _ _, cellSet2 (hT.2.2.2.2.1) (by omega) _ _, cellSet2 (hT.2.2.2.2.2.1) (by omega) _ _, cellSet2 (hT.2.2.2.2.2.2.1) (by omega) _ _, cellSet2 (hT.2.2.2.2.2.2.2.1) (by omega) _ _, cellSet2 (hT.2.2.2.2.2.2.2.2.1) (by omega) _ _, (hT.2.2.2.2.2.2.2.2.2).set2 _ _ _⟩)
        | exact ⟨hs0.drew, a0, a1, a2, a3, b0, b1, b2, b3, x2⟩
        | exact ⟨(hs0.alloc _).drew, cellAl (a0) _, cellAl (a1) _, cellAl (a2) _, cellAl (a3) _, cellAl (b0) _, cellAl (b1) _, cellAl (b2) _, cellAl (b3) _, (x2).alloc _⟩
        | exact ⟨((hs0.alloc _).alloc _).drew, cellAl (cellAl a0 _) _, cellAl (cellAl a1 _) _, cellAl (cellAl a2 _) _, cellAl (cellAl a3 _) _, cellAl (cellAl b0 _) _, cellAl (cellAl b1 _) _, cellAl (cellAl b2 _) _, cellAl (cellAl b3 _) _, (x2.alloc _).alloc _⟩)
      (first
        | (go_at_call 28; have hS : St W _ ∧ _ := (by assumption); (with_reducible refine (D2.out _ hS.1.tabs hS.1.six').mono ?_); rintro e w6 ⟨rfl, hb⟩; (first | (have hz := (HZ.out.box.box).next hb; (try simp only [World.size_alloc] at hz); have HZ := mkHid hz; clear hz) | (have hz := (HZ.out.box).next hb; (try simp only [World.size_alloc] at hz); have HZ := mkHid hz; clear hz) | (have hz := (HZ.out).next hb; (try simp only [World.size_alloc] at hz); have HZ := mkHid hz; clear hz) | (have hz := (HZ.out.box.box.drew).next hb; (try simp only [World.size_alloc] at hz); have HZ := mkHid hz; clear hz) | (have hz := (HZ.out.box.drew).next hb; (try simp only [World.size_alloc] at hz); have HZ := mkHid hz; clear hz) | (have hz := (HZ.out.drew).next hb; (try simp only [World.size_alloc] at hz); have HZ := mkHid hz; clear hz) ); (try obtain ⟨z0, z1, z2, z3⟩ := HZ.out _ (.head _)); (try obtain ⟨y0, y1, y2, y3⟩ := HZ.out _ (.tail _ (.head _))); have h9 := hb.size; (try simp at h9); have hz6 : W.heap.size + 3 ≤ w6.heap.size := (by have h8 := hz6; omega))
        | (go_at_call 26; have hS : St W _ ∧ _ := (by assumption); (with_reducible refine (G1.out _ hS.1.tabs hS.1.six').mono ?_); rintro e w6 ⟨rfl, hb⟩; (first | (have hz := (HZ.out.box.box).next hb; (try simp only [World.size_alloc] at hz); have HZ := mkHid hz; clear hz) | (have hz := (HZ.out.box).next hb; (try simp only [World.size_alloc] at hz); have HZ := mkHid hz; clear hz) | (have hz := (HZ.out).next hb; (try simp only [World.size_alloc] at hz); have HZ := mkHid hz; clear hz) | (have hz := (HZ.out.box.box.drew).next hb; (try simp only [World.size_alloc] at hz); have HZ := mkHid hz; clear hz) | (have hz := (HZ.out.box.drew).next hb; (try simp only [World.size_alloc] at hz); have HZ := mkHid hz; clear hz) | (have hz := (HZ.out.drew).next hb; (try simp only [World.size_alloc] at hz); have HZ := mkHid hz; clear hz) ); (try obtain ⟨z0, z1, z2, z3⟩ := HZ.out _ (.head _)); (try obtain ⟨y0, y1, y2, y3⟩ := HZ.out _ (.tail _ (.head _))); have h9 := hb.size; (try simp at h9); have hz6 : W.heap.size + 3 ≤ w6.heap.size := (by have h8 := hz6; omega))
        | (go_at_call 28; have hS : St W _ ∧ _ := (by assumption); (with_reducible refine (D1.out _ hS.1.tabs hS.1.six').mono ?_); rintro e w6 ⟨rfl, hb⟩; (first | (have hz := (HZ.out.box.box).next hb; (try simp only [World.size_alloc] at hz); have HZ := mkHid hz; clear hz) | (have hz := (HZ.out.box).next hb; (try simp only [World.size_alloc] at hz); have HZ := mkHid hz; clear hz) | (have hz := (HZ.out).next hb; (try simp only [World.size_alloc] at hz); have HZ := mkHid hz; clear hz) | (have hz := (HZ.out.box.box.drew).next hb; (try simp only [World.size_alloc] at hz); have HZ := mkHid hz; clear hz) | (have hz := (HZ.out.box.drew).next hb; (try simp only [World.size_alloc] at hz); have HZ := mkHid hz; clear hz) | (have hz := (HZ.out.drew).next hb; (try simp only [World.size_alloc] at hz); have HZ := mkHid hz; clear hz) ); (try obtain ⟨z0, z1, z2, z3⟩ := HZ.out _ (.head _)); (try obtain ⟨y0, y1, y2, y3⟩ := HZ.out _ (.tail _ (.head _))); have h9 := hb.size; (try simp at h9); have hz6 : W.heap.size + 3 ≤ w6.heap.size := (by have h8 := hz6; omega))
        | (go_at_call 26; have hS : St W _ ∧ _ := (by assumption); (with_reducible refine (G2.out _ hS.1.tabs hS.1.six').mono ?_); rintro e w6 ⟨rfl, hb⟩; (first | (have hz := (HZ.out.box.box).next hb; (try simp only [World.size_alloc] at hz); have HZ := mkHid hz; clear hz) | (have hz := (HZ.out.box).next hb; (try simp only [World.size_alloc] at hz); have HZ := mkHid hz; clear hz) | (have hz := (HZ.out).next hb; (try simp only [World.size_alloc] at hz); have HZ := mkHid hz; clear hz) | (have hz := (HZ.out.box.box.drew).next hb; (try simp only [World.size_alloc] at hz); have HZ := mkHid hz; clear hz) | (have hz := (HZ.out.box.drew).next hb; (try simp only [World.size_alloc] at hz); have HZ := mkHid hz; clear hz) | (have hz := (HZ.out.drew).next hb; (try simp only [World.size_alloc] at hz); have HZ := mkHid hz; clear hz) ); (try obtain ⟨z0, z1, z2, z3⟩ := HZ.out _ (.head _)); (try obtain ⟨y0, y1, y2, y3⟩ := HZ.out _ (.tail _ (.head _))); have h9 := hb.size; (try simp at h9); have hz6 : W.heap.size + 3 ≤ w6.heap.size := (by have h8 := hz6; omega); (try obtain ⟨m0, m1, m2, m3⟩ := (HZ.out _ (.head _)).alloc (.cells #[.int .u64 0, .string ⟨#[]⟩] 24)); (try obtain ⟨m4, m5, m6, m7⟩ := (HZ.out _ (.head _)).alloc (.cells #[.int .u64 (lg : Int), .string kg] 24)); (try obtain ⟨m8, m9, m10, m11⟩ := At2.setOff ((Zs.box (Zs.nil w6)) _ (.head _)) (Nat.ne_of_gt (HZ.out _ (.head _)).lt) (.int .u64 (lg : Int)) (.string kg)); (try obtain ⟨m12, m13, m14, m15⟩ := (HZ.out _ (.tail _ (.head _))).alloc (.cells #[.int .u64 0, .string ⟨#[]⟩] 24)); (try obtain ⟨m16, m17, m18, m19⟩ := (HZ.out _ (.tail _ (.head _))).alloc (.cells #[.int .u64 (lg : Int), .string kg] 24)); (try obtain ⟨m20, m21, m22, m23⟩ := At2.setOff ((Zs.box (Zs.nil w6)) _ (.head _)) (Nat.ne_of_gt (HZ.out _ (.tail _ (.head _))).lt) (.int .u64 (lg : Int)) (.string kg)); (try obtain ⟨m24, m25, m26, m27⟩ := At2.offOf (HZ.out _ (.head _)) (HZ.out _ (.tail _ (.head _))) (by first | omega | (simp; omega)) (.int .u64 (lg : Int)) (.string kg)); (try obtain ⟨m28, m29, m30, m31⟩ := At2.offOf (HZ.out _ (.tail _ (.head _))) (HZ.out _ (.head _)) (by first | omega | (simp; omega)) (.int .u64 (lg : Int)) (.string kg))))
    all_goals
      have hT : St W _ ∧ _ := (by assumption)
      have HT := mkHid hT
      clear hT
      go_wp2_with fail
      go_meet
      refine ⟨_, _, rfl, rfl, ⟨?_, ?_⟩, mkHid ⟨?_, ?_⟩, HT⟩
      · first | omega | (have := (HZ.out _ (.head _)).lt; omega) | (have := (HZ.out _ (.head _)).lt; have := (HZ.out _ (.tail _ (.head _))).lt; omega)
      · first | omega | (have := (HZ.out _ (.head _)).lt; omega) | (have := (HZ.out _ (.head _)).lt; have := (HZ.out _ (.tail _ (.head _))).lt; omega)
      · (first | (with_reducible exact (At2.new w6 w6.heap.size lg kg rfl).alloc _) | (with_reducible exact At2.new _ _ lg kg (by simp)) | (with_reducible exact (At2.new w6 w6.heap.size lg kg rfl).setOff (by (try have g1 := (Zs.h1 HZ.out).lt); (try have g2 := (Zs.h2 HZ.out).lt); omega) _ _) | (with_reducible exact (((Zs.h1 HZ.out).alloc _).set lg kg).setOff (by (try have g1 := (Zs.h1 HZ.out).lt); (try have g2 := (Zs.h2 HZ.out).lt); omega) _ _) | (with_reducible exact ((Zs.h1 HZ.out).set lg kg).setOff (by (try have g1 := (Zs.h1 HZ.out).lt); (try have g2 := (Zs.h2 HZ.out).lt); omega) _ _) | (with_reducible exact (((Zs.h2 HZ.out).alloc _).set lg kg).setOff (by (try have g1 := (Zs.h1 HZ.out).lt); (try have g2 := (Zs.h2 HZ.out).lt); omega) _ _) | (with_reducible exact ((Zs.h2 HZ.out).set lg kg).setOff (by (try have g1 := (Zs.h1 HZ.out).lt); (try have g2 := (Zs.h2 HZ.out).lt); omega) _ _))
      · (first | (with_reducible exact At2.new _ _ lh kh (by simp)) | (with_reducible exact (At2.new w6 w6.heap.size lh kh rfl).alloc _) | (with_reducible exact ((Zs.h1 (Zs.box (Zs.nil w6))).setOff (by (try have g1 := (Zs.h1 HZ.out).lt); (try have g2 := (Zs.h2 HZ.out).lt); omega) _ _).set lh kh) | (with_reducible exact ((Zs.h1 HZ.out).setOff (by (try have g1 := (Zs.h1 HZ.out).lt); (try have g2 := (Zs.h2 HZ.out).lt); omega) _ _).set lh kh) | (with_reducible exact ((Zs.h1 HZ.out).alloc _).set lh kh) | (with_reducible exact ((Zs.h2 HZ.out).setOff (by (try have g1 := (Zs.h1 HZ.out).lt); (try have g2 := (Zs.h2 HZ.out).lt); omega) _ _).set lh kh) | (with_reducible exact ((Zs.h2 HZ.out).alloc _).set lh kh))
  case rest =>
    obtain ⟨j, i, rfl, rfl, ⟨hj, hi⟩, H, HT⟩ := hcut
    obtain ⟨⟨g0, g1, -, -⟩, ⟨h0, h1, -, -⟩⟩ := H.out
    clear a0 a1 a2 a3 b0 b1 b2 b3 x2 hs0 HZ
    obtain ⟨hs1, a0, a1, a2, a3, b0, b1, b2, b3, x2⟩ := HT.out
    clear H HT
    go_upto_region 2 with (fail)
    go_region_held3 (fun X => St W X ∧ X.cell? ⟨W.heap.size, 0, none⟩ = some (.int .u64 (lp1 : Int)) ∧ X.cell? ⟨W.heap.size, 1, none⟩ = some (.string kp1) ∧ X.cell? ⟨W.heap.size, 2, none⟩ = some (.int .u64 (lz1 : Int)) ∧ X.cell? ⟨W.heap.size, 3, none⟩ = some (.string kz1) ∧ X.cell? ⟨W.heap.size + 1, 0, none⟩ = some (.int .u64 (lp2 : Int)) ∧ X.cell? ⟨W.heap.size + 1, 1, none⟩ = some (.string kp2) ∧ X.cell? ⟨W.heap.size + 1, 2, none⟩ = some (.int .u64 (lz2 : Int)) ∧ X.cell? ⟨W.heap.size + 1, 3, none⟩ = some (.string kz2) ∧ X.cell? ⟨j, 0, none⟩ = some (.int .u64 (lg : Int)) ∧ X.cell? ⟨j, 1, none⟩ = some (.string kg) ∧ X.cell? ⟨i, 0, none⟩ = some (.int .u64 (lh : Int)) ∧ X.cell? ⟨i, 1, none⟩ = some (.string kh) ∧ Bxn X (W.heap.size + 1 + 1) 4)
      (first
        | (with_reducible exact ⟨hS.1.next hb, St.cell hb hS.2.1, St.cell hb hS.2.2.1, St.cell hb hS.2.2.2.1, St.cell hb hS.2.2.2.2.1, St.cell hb hS.2.2.2.2.2.1, St.cell hb hS.2.2.2.2.2.2.1, St.cell hb hS.2.2.2.2.2.2.2.1, St.cell hb hS.2.2.2.2.2.2.2.2.1, St.cell hb hS.2.2.2.2.2.2.2.2.2.1, St.cell hb hS.2.2.2.2.2.2.2.2.2.2.1, St.cell hb hS.2.2.2.2.2.2.2.2.2.2.2.1, St.cell hb hS.2.2.2.2.2.2.2.2.2.2.2.2.1, hS.2.2.2.2.2.2.2.2.2.2.2.2.2.grows hb⟩)
        | exact ⟨hs1.drew, a0, a1, a2, a3, b0, b1, b2, b3, g0, g1, h0, h1, x2⟩
        | (have hP : St W w6 ∧ _ := (by assumption); exact ⟨(hP.1).set4 (by omega) _ _ _ _, set4_other (hP.2.1) (by omega) _ _ _ _, set4_other (hP.2.2.1) (by omega) _ _ _ _, set4_other (hP.2.2.2.1) (by omega) _ _ _ _, set4_other (hP.2.2.2.2.1) (by omega) _ _ _ _, set4_other (hP.2.2.2.2.2.1) (by omega) _ _ _ _, set4_other (hP.2.2.2.2.2.2.1) (by omega) _ _ _ _, set4_other (hP.2.2.2.2.2.2.2.1) (by omega) _ _ _ _, set4_other (hP.2.2.2.2.2.2.2.2.1) (by omega) _ _ _ _, set4_other (hP.2.2.2.2.2.2.2.2.2.1) (by omega) _ _ _ _, set4_other (hP.2.2.2.2.2.2.2.2.2.2.1) (by omega) _ _ _ _, set4_other (hP.2.2.2.2.2.2.2.2.2.2.2.1) (by omega) _ _ _ _, set4_other (hP.2.2.2.2.2.2.2.2.2.2.2.2.1) (by omega) _ _ _ _, (hP.2.2.2.2.2.2.2.2.2.2.2.2.2).set4 _ _ _ _ _⟩))
      (first
        | (go_at_call 28; have hS : St W _ ∧ _ := (by assumption); (with_reducible refine (D1.out _ hS.1.tabs hS.1.six').mono ?_); rintro e w6 ⟨rfl, hb⟩)
        | (go_at_call 28; have hS : St W _ ∧ _ := (by assumption); (with_reducible refine (D2.out _ hS.1.tabs hS.1.six').mono ?_); rintro e w6 ⟨rfl, hb⟩)
        | (go_at_call 31; have hS : St W _ ∧ _ := (by assumption); (with_reducible refine (Q1.out _ hS.1.tabs hS.1.six').mono ?_); rintro e w6 ⟨rfl, hb⟩)
        | (go_at_call 31; have hS : St W _ ∧ _ := (by assumption); (with_reducible refine (Q2.out _ hS.1.tabs hS.1.six').mono ?_); rintro e w6 ⟨rfl, hb⟩)
        | (go_at_call 31; have hS : St W _ ∧ _ := (by assumption); (with_reducible refine (Q3.out _ hS.1.tabs hS.1.six').mono ?_); rintro e w6 ⟨rfl, hb⟩)
        | (go_at_call 31; have hS : St W _ ∧ _ := (by assumption); (with_reducible refine (Q4.out _ hS.1.tabs hS.1.six').mono ?_); rintro e w6 ⟨rfl, hb⟩)
        | (go_at_call 44; have hS : St W _ ∧ _ := (by assumption); (with_reducible refine (M1.out _ hS.1.tabs hS.1.six').mono ?_); rintro e w6 ⟨rfl, hb⟩)
        | (go_at_call 44; have hS : St W _ ∧ _ := (by assumption); (with_reducible refine (M2.out _ hS.1.tabs hS.1.six').mono ?_); rintro e w6 ⟨rfl, hb⟩)
        | (go_at_call 30; have hS : St W _ ∧ _ := (by assumption); (with_reducible refine (CP.out _ hS.1.tabs hS.1.six').mono ?_); rintro e w6 ⟨rfl, hb⟩; obtain ⟨v0, v1, v2, v3, ⟨r0, r1, r2, r3⟩, f0, f1, f2, f3⟩ := (hS.2.2.2.2.2.2.2.2.2.2.2.2.2.grows hb).facts4))
    have hT : St W _ ∧ _ := (by assumption)
    have HT := mkHid hT.1.below
    clear hT
    go_wp2_with fail
    refine bodyPost_ret (v := .agg #[.int .u64 (l7 : Int), .string k7, .int .u64 (l9 : Int), .string k9]) (by simp [results, Tryd.results20, go_sem, r0, r1, r2, r3]) rfl ⟨rfl, ?_⟩
    exact HT.out
end Go.Proofs.YtflcdpolfimggaaDoor
namespace Go.Proofs.YtflcdpolfimggaaDoor
open Go.RowKit Q SD

set_option maxRecDepth 100000 in
set_option maxHeartbeats 16000000 in
theorem sub_raw_no (p1 q1 p2 q2 n : Nat) (z1 : 0 < q1) (z2 : 0 < q2) (k1 : Kb p1 q1) (k2 : Kb p2 q2)  (CS : Gives 46 #[nv (p1 * (q2 / Nat.gcd q1 q2)), nv (p2 * (q1 / Nat.gcd q1 q2))] (.tuple #[nv n, .bool false])) (_ : Sm n) :
    Gives 21 #[rv p1 q1, rv p2 q2] (.tuple #[rv 0 1, .bool false]) := by
  intro W ht h6
  have gp : Nat.gcd q1 q2 ≠ 0 := by have := Nat.gcd_pos_of_pos_right q1 z2; omega
  have CG := mkHid (gcd_g q1 q2 k1.den k2.den)
  have D1 := mkHid (den_g p1 q1 z1)
  have D2 := mkHid (den_g p2 q2 z2)
  have eg : ∀ args w, (callFunc 45 args).run Tryd.prog w = .ok (.enter 45 args) w := enters_of Tryd.func45 (by kernel_rfl) rfl
  have CO := mkHid (fun X (h : SB [(W.heap.size + 1 + 1 + 1, 2), (W.heap.size + 1 + 1 + 1 + 1, 1)] X X) => overOne_g 45 #[.pointer (some ⟨W.heap.size + 1 + 1 + 1, 0, none⟩), .pointer (some ⟨W.heap.size + 1 + 1 + 1 + 1, 0, none⟩)] eg p1 q1 p2 q2 (Nat.gcd q1 q2) [(W.heap.size + 1 + 1 + 1, 2), (W.heap.size + 1 + 1 + 1 + 1, 1)] (fun w' => At2 w' (W.heap.size + 1 + 1 + 1) (lo n) (hi n) ∧ w'.cell? ⟨W.heap.size + 1 + 1 + 1 + 1, 0, none⟩ = some (.bool false)) X h k1.num k1.den k2.num k2.den z1 z2 gp (fun Y hY => sub1_raw _ _ n false CS _ _ (by omega) Y hY.here))
  unfold rv at *
  rw [dz_one]
  unfold nv at *
  rw [lo_zero, hi_zero]
  clear CS k1 k2 z1 z2 gp eg
  generalize lo (dz (q1 / Nat.gcd q1 q2 * (q2 / Nat.gcd n (Nat.gcd q1 q2)))) = l9 at *
  generalize hi (dz (q1 / Nat.gcd q1 q2 * (q2 / Nat.gcd n (Nat.gcd q1 q2)))) = k9 at *
  generalize lo (n / Nat.gcd n (Nat.gcd q1 q2)) = l5 at *
  generalize hi (n / Nat.gcd n (Nat.gcd q1 q2)) = k5 at *
  generalize lo (dz q1) = lz1 at *
  generalize hi (dz q1) = kz1 at *
  generalize lo (dz q2) = lz2 at *
  generalize hi (dz q2) = kz2 at *
  generalize lo (Nat.gcd q1 q2) = lg at *
  generalize hi (Nat.gcd q1 q2) = kg at *
  generalize lo (n) = ln at *
  generalize hi (n) = kn at *
  generalize lo (p1) = lp1 at *
  generalize hi (p1) = kp1 at *
  generalize lo (p2) = lp2 at *
  generalize hi (p2) = kp2 at *
  generalize lo (q1) = lq1 at *
  generalize hi (q1) = kq1 at *
  generalize lo (q2) = lq2 at *
  generalize hi (q2) = kq2 at *
  have HS := mkHid ((((((St.refl ht h6).alloc (.cells #[.int .u64 (lp1 : Int), .string kp1, .int .u64 (lz1 : Int), .string kz1] 26)).alloc (.cells #[.int .u64 (lp2 : Int), .string kp2, .int .u64 (lz2 : Int), .string kz2] 26)).alloc (.cells #[.int .u64 0, .string ⟨#[]⟩, .int .u64 0, .string ⟨#[]⟩] 26)).alloc (.cells #[.int .u64 0, .string ⟨#[]⟩] 24)).alloc (.cells #[.bool false] 4))
  have H0 := mkHid (((((At4.new W (W.heap.size) lp1 kp1 lz1 kz1 rfl).alloc (.cells #[.int .u64 (lp2 : Int), .string kp2, .int .u64 (lz2 : Int), .string kz2] 26)).alloc (.cells #[.int .u64 0, .string ⟨#[]⟩, .int .u64 0, .string ⟨#[]⟩] 26)).alloc (.cells #[.int .u64 0, .string ⟨#[]⟩] 24)).alloc (.cells #[.bool false] 4))
  have H1 := mkHid ((((At4.new (W.alloc (.cells #[.int .u64 (lp1 : Int), .string kp1, .int .u64 (lz1 : Int), .string kz1] 26)) (W.heap.size + 1) lp2 kp2 lz2 kz2 (by simp)).alloc (.cells #[.int .u64 0, .string ⟨#[]⟩, .int .u64 0, .string ⟨#[]⟩] 26)).alloc (.cells #[.int .u64 0, .string ⟨#[]⟩] 24)).alloc (.cells #[.bool false] 4))
  have H2 := mkHid (((Bxn.new ((W.alloc (.cells #[.int .u64 (lp1 : Int), .string kp1, .int .u64 (lz1 : Int), .string kz1] 26)).alloc (.cells #[.int .u64 (lp2 : Int), .string kp2, .int .u64 (lz2 : Int), .string kz2] 26)) (W.heap.size + 1 + 1) #[.int .u64 0, .string ⟨#[]⟩, .int .u64 0, .string ⟨#[]⟩] 26 (by simp)).alloc (.cells #[.int .u64 0, .string ⟨#[]⟩] 24)).alloc (.cells #[.bool false] 4))
  have H3 := mkHid ((Bxn.new (((W.alloc (.cells #[.int .u64 (lp1 : Int), .string kp1, .int .u64 (lz1 : Int), .string kz1] 26)).alloc (.cells #[.int .u64 (lp2 : Int), .string kp2, .int .u64 (lz2 : Int), .string kz2] 26)).alloc (.cells #[.int .u64 0, .string ⟨#[]⟩, .int .u64 0, .string ⟨#[]⟩] 26)) (W.heap.size + 1 + 1 + 1) #[.int .u64 0, .string ⟨#[]⟩] 24 (by simp)).alloc (.cells #[.bool false] 4))
  have H4 := mkHid (Bxn.new ((((W.alloc (.cells #[.int .u64 (lp1 : Int), .string kp1, .int .u64 (lz1 : Int), .string kz1] 26)).alloc (.cells #[.int .u64 (lp2 : Int), .string kp2, .int .u64 (lz2 : Int), .string kz2] 26)).alloc (.cells #[.int .u64 0, .string ⟨#[]⟩, .int .u64 0, .string ⟨#[]⟩] 26)).alloc (.cells #[.int .u64 0, .string ⟨#[]⟩] 24)) (W.heap.size + 1 + 1 + 1 + 1) #[.bool false] 4 (by simp))
  have hs0 := HS.out
  obtain ⟨⟨a0, a1, a2, a3⟩, -⟩ := H0.out
  obtain ⟨⟨b0, b1, b2, b3⟩, -⟩ := H1.out
  have x2 := H2.out
  have x3 := H3.out
  have x4 := H4.out
  clear ht H0 H1 H2 H3 H4 HS
  go_enter Tryd.func21, Tryd.ntmps21
  go_upto_region 3 with (fail)
  go_cut [8] (fun v wx => ∃ j : Nat, v = .pointer (some ⟨j, 0, none⟩) ∧ W.heap.size + 5 ≤ j ∧ Hid (At2 wx j lg kg ∧ St W wx ∧ wx.cell? ⟨W.heap.size, 0, none⟩ = some (.int .u64 (lp1 : Int)) ∧ wx.cell? ⟨W.heap.size, 1, none⟩ = some (.string kp1) ∧ wx.cell? ⟨W.heap.size, 2, none⟩ = some (.int .u64 (lz1 : Int)) ∧ wx.cell? ⟨W.heap.size, 3, none⟩ = some (.string kz1) ∧ wx.cell? ⟨W.heap.size + 1, 0, none⟩ = some (.int .u64 (lp2 : Int)) ∧ wx.cell? ⟨W.heap.size + 1, 1, none⟩ = some (.string kp2) ∧ wx.cell? ⟨W.heap.size + 1, 2, none⟩ = some (.int .u64 (lz2 : Int)) ∧ wx.cell? ⟨W.heap.size + 1, 3, none⟩ = some (.string kz2) ∧ Bxn wx (W.heap.size + 1 + 1) 4 ∧ Bxn wx (W.heap.size + 1 + 1 + 1) 2 ∧ Bxn wx (W.heap.size + 1 + 1 + 1 + 1) 1))
  case first =>
    go_region_held3 (fun X => St W X ∧ X.cell? ⟨W.heap.size, 0, none⟩ = some (.int .u64 (lp1 : Int)) ∧ X.cell? ⟨W.heap.size, 1, none⟩ = some (.string kp1) ∧ X.cell? ⟨W.heap.size, 2, none⟩ = some (.int .u64 (lz1 : Int)) ∧ X.cell? ⟨W.heap.size, 3, none⟩ = some (.string kz1) ∧ X.cell? ⟨W.heap.size + 1, 0, none⟩ = some (.int .u64 (lp2 : Int)) ∧ X.cell? ⟨W.heap.size + 1, 1, none⟩ = some (.string kp2) ∧ X.cell? ⟨W.heap.size + 1, 2, none⟩ = some (.int .u64 (lz2 : Int)) ∧ X.cell? ⟨W.heap.size + 1, 3, none⟩ = some (.string kz2) ∧ Bxn X (W.heap.size + 1 + 1) 4 ∧ Bxn X (W.heap.size + 1 + 1 + 1) 2 ∧ Bxn X (W.heap.size + 1 + 1 + 1 + 1) 1)
      (first
        | (with_reducible exact ⟨hS.1.next hb, St.cell hb hS.2.1, St.cell hb hS.2.2.1, St.cell hb hS.2.2.2.1, St.cell hb hS.2.2.2.2.1, St.cell hb hS.2.2.2.2.2.1, St.cell hb hS.2.2.2.2.2.2.1, St.cell hb hS.2.2.2.2.2.2.2.1, St.cell hb hS.2.2.2.2.2.2.2.2.1, hS.2.2.2.2.2.2.2.2.2.1.grows hb, hS.2.2.2.2.2.2.2.2.2.2.1.grows hb, hS.2.2.2.2.2.2.2.2.2.2.2.grows hb⟩)
        | (have hT : St W _ ∧ _ := (by assumption); with_reducible exact ⟨(hT.1).alloc _, cellAl (hT.2.1) _, cellAl (hT.2.2.1) _, cellAl (hT.2.2.2.1) _, cellAl (hT.2.2.2.2.1) _, cellAl (hT.2.2.2.2.2.1) _, cellAl (hT.2.2.2.2.2.2.1) _, cellAl (hT.2.2.2.2.2.2.2.1) _, cellAl (hT.2.2.2.2.2.2.2.2.1) _, (hT.2.2.2.2.2.2.2.2.2.1).alloc _, (hT.2.2.2.2.2.2.2.2.2.2.1).alloc _, (hT.2.2.2.2.2.2.2.2.2.2.2).alloc _⟩)
        | (with_reducible exact ⟨(hS.1.next hb).alloc _, cellAl (St.cell hb hS.2.1) _, cellAl (St.cell hb hS.2.2.1) _, cellAl (St.cell hb hS.2.2.2.1) _, cellAl (St.cell hb hS.2.2.2.2.1) _, cellAl (St.cell hb hS.2.2.2.2.2.1) _, cellAl (St.cell hb hS.2.2.2.2.2.2.1) _, cellAl (St.cell hb hS.2.2.2.2.2.2.2.1) _, cellAl (St.cell hb hS.2.2.2.2.2.2.2.2.1) _, (hS.2.2.2.2.2.2.2.2.2.1.grows hb).alloc _, (hS.2.2.2.2.2.2.2.2.2.2.1.grows hb).alloc _, (hS.2.2.2.2.2.2.2.2.2.2.2.grows hb).alloc _⟩)
        | (have hT : St W _ ∧ _ := (by assumption); exact ⟨(hT.1).set2 (by omega) _ _, cellSet2 (hT.2.1) (by omega) _ _, cellSet2 (hT.2.2.1) (by omega) _ _, cellSet2 (hT.2.2.2.1) (by omega) _ _, cellSet2 (hT.2.2.2.2.1) (by omega) _ _, cellSet2 (hT.2.2.2.2.2.1) (by omega) _ _, cellSet2 (hT.2.2.2.2.2.2.1) (by omega) _ _, cellSet2 (hT.2.2.2.2.2.2.2.1) (by omega) _ _, cellSet2 (hT.2.2.2.2.2.2.2.2.1) (by omega) _ _, (hT.2.2.2.2.2.2.2.2.2.1).set2 _ _ _, (hT.2.2.2.2.2.2.2.2.2.2.1).set2 _ _ _, (hT.2.2.2.2.2.2.2.2.2.2.2).set2 _ _ _⟩)
        | exact ⟨hs0.drew, a0, a1, a2, a3, b0, b1, b2, b3, x2, x3, x4⟩
        | exact ⟨(hs0.alloc _).drew, cellAl a0 _, cellAl a1 _, cellAl a2 _, cellAl a3 _, cellAl b0 _, cellAl b1 _, cellAl b2 _, cellAl b3 _, x2.alloc _, x3.alloc _, x4.alloc _⟩)
      (first
        | (go_at_call 28; have hS : St W _ ∧ _ := (by assumption); (with_reducible refine (D1.out _ hS.1.tabs hS.1.six').mono ?_); rintro e w6 ⟨rfl, hb⟩; (first | (have hz := HZ.out.grows hb; (have HZ := mkHid hz); obtain ⟨z0, z1, z2, z3⟩ := hz) | (have hz := (At2.new _ _ 0 ⟨#[]⟩ rfl).grows hb; (try simp only [World.size_alloc] at hz); (have HZ := mkHid hz); obtain ⟨z0, z1, z2, z3⟩ := hz) | (have hz := (At2.new _ _ 0 ⟨#[]⟩ rfl).drew.grows hb; (try simp only [World.size_alloc] at hz); (have HZ := mkHid hz); obtain ⟨z0, z1, z2, z3⟩ := hz) | skip); have hz6 : W.heap.size + 5 ≤ w6.heap.size := (by have h9 := hb.size; (try simp at h9); (try have h8 := hz6); omega))
        | (go_at_call 28; have hS : St W _ ∧ _ := (by assumption); (with_reducible refine (D2.out _ hS.1.tabs hS.1.six').mono ?_); rintro e w6 ⟨rfl, hb⟩; (first | (have hz := HZ.out.grows hb; (have HZ := mkHid hz); obtain ⟨z0, z1, z2, z3⟩ := hz) | (have hz := (At2.new _ _ 0 ⟨#[]⟩ rfl).grows hb; (try simp only [World.size_alloc] at hz); (have HZ := mkHid hz); obtain ⟨z0, z1, z2, z3⟩ := hz) | (have hz := (At2.new _ _ 0 ⟨#[]⟩ rfl).drew.grows hb; (try simp only [World.size_alloc] at hz); (have HZ := mkHid hz); obtain ⟨z0, z1, z2, z3⟩ := hz) | skip); have hz6 : W.heap.size + 5 ≤ w6.heap.size := (by have h9 := hb.size; (try simp at h9); (try have h8 := hz6); omega))
        | (go_at_call 26; have hS : St W _ ∧ _ := (by assumption); (with_reducible refine (CG.out _ hS.1.tabs hS.1.six').mono ?_); rintro e w6 ⟨rfl, hb⟩; (first | (have hz := HZ.out.grows hb; (have HZ := mkHid hz); obtain ⟨z0, z1, z2, z3⟩ := hz) | (have hz := (At2.new _ _ 0 ⟨#[]⟩ rfl).grows hb; (try simp only [World.size_alloc] at hz); (have HZ := mkHid hz); obtain ⟨z0, z1, z2, z3⟩ := hz) | (have hz := (At2.new _ _ 0 ⟨#[]⟩ rfl).drew.grows hb; (try simp only [World.size_alloc] at hz); (have HZ := mkHid hz); obtain ⟨z0, z1, z2, z3⟩ := hz) | skip); have hz6 : W.heap.size + 5 ≤ w6.heap.size := (by have h9 := hb.size; (try simp at h9); (try have h8 := hz6); omega)))
    all_goals
      have hT : St W _ ∧ _ := (by assumption)
      have HT := mkHid hT
      clear hT
      go_wp2_with fail
      go_meet
      refine ⟨_, rfl, (by first | omega | (simp; omega) | simp), mkHid ⟨?_, HT⟩⟩
      first
        | (with_reducible exact At2.new _ _ lg kg (by simp))
        | (with_reducible exact HZ.out.set lg kg)
        | (with_reducible exact (At2.new _ _ 0 ⟨#[]⟩ rfl).set lg kg)
  case rest =>
    obtain ⟨j, rfl, hj, H⟩ := hcut
    obtain ⟨⟨g0, g1, -, -⟩, hs1, a0, a1, a2, a3, b0, b1, b2, b3, x2, x3, x4⟩ := H.out
    clear H
    have HX2 := mkHid x2
    have HS1 := mkHid hs1
    have hsb := SB.refl (bs := [(W.heap.size + 1 + 1 + 1, 2), (W.heap.size + 1 + 1 + 1 + 1, 1)]) hs1.tabs hs1.six' (by intro p hp; simp at hp; rcases hp with rfl | rfl; exact ⟨x3, by omega⟩; exact ⟨x4, by omega⟩)
    have HSB := mkHid hsb
    clear hsb hs1 x2 x3 x4
    go_wp2_with (go_at_call 40; refine (CO.out _ HSB.out).mono ?_; rintro e w3 ⟨rfl, hq, hr⟩; have HQ := mkHid hq; have HR := mkHid hr; clear hq hr; have hk := HR.out.2; obtain ⟨v0, v1, v2, v3, ⟨r0, r1, r2, r3⟩, f0, f1, f2, f3⟩ := (HQ.out.oldBx (not_two (by omega) (by omega)) HX2.out).facts4)
    refine bodyPost_ret (v := .tuple #[.agg #[.int .u64 ((0 : Nat) : Int), .string ⟨#[]⟩, .int .u64 ((0 : Nat) : Int), .string ⟨#[]⟩], .bool false]) (by simp [results, Tryd.results21, go_sem, r0, r1, r2, r3]) rfl ⟨rfl, ?_⟩
    exact ((HS1.out.past HQ.out (by intro p hp; simp at hp; rcases hp with rfl | rfl <;> (show W.heap.size ≤ _) <;> omega)).set4 (by omega) _ _ _ _).below

set_option maxRecDepth 100000 in
set_option maxHeartbeats 16000000 in
theorem qcmp_raw (p1 q1 p2 q2 : Nat) (z1 : 0 < q1) (z2 : 0 < q2) (k1 : Kb p1 q1) (k2 : Kb p2 q2) :
    Gives 24 #[rv p1 q1, rv p2 q2] (.int .i64 (Lib.compareInt ((p1 * q2 : Nat) : Int) ((p2 * q1 : Nat) : Int))) := by
  intro W ht h6
  have C1 := of_g 1 (by decide)
  rw [show ((1 : Nat) : Int) = 1 from rfl] at C1
  replace C1 := mkHid C1
  have eg : ∀ args w, (callFunc 47 args).run Tryd.prog w = .ok (.enter 47 args) w := enters_of Tryd.func47 (by kernel_rfl) rfl
  have CO := fun X (h : SB [(W.heap.size + 1 + 1, 1)] X X) => overOne_g 47 #[.pointer (some ⟨W.heap.size + 1 + 1, 0, none⟩)] eg p1 q1 p2 q2 1 [(W.heap.size + 1 + 1, 1)] (fun w' => w'.cell? ⟨W.heap.size + 1 + 1, 0, none⟩ = some (.int .i64 (Lib.compareInt ((p1 * (q2 / 1) : Nat) : Int) ((p2 * (q1 / 1) : Nat) : Int)))) X h k1.num k1.den k2.num k2.den z1 z2 (by omega) (fun Y hY => cmp1_g (p1 * (q2 / 1)) (p2 * (q1 / 1)) _ Y hY.here)
  simp only [Nat.div_one] at CO
  unfold rv at *
  unfold nv at *
  clear z1 z2 k1 k2 eg
  generalize Lib.compareInt ((p1 * q2 : Nat) : Int) ((p2 * q1 : Nat) : Int) = cv at *
  generalize lo (1) = l1 at *
  generalize hi (1) = k1 at *
  generalize lo (dz q1) = lz1 at *
  generalize hi (dz q1) = kz1 at *
  generalize lo (dz q2) = lz2 at *
  generalize hi (dz q2) = kz2 at *
  generalize lo (p1) = lp1 at *
  generalize hi (p1) = kp1 at *
  generalize lo (p2) = lp2 at *
  generalize hi (p2) = kp2 at *
  have CO := mkHid CO
  have HS := mkHid ((((St.refl ht h6).alloc (.cells #[.int .u64 (lp1 : Int), .string kp1, .int .u64 (lz1 : Int), .string kz1] 26)).alloc (.cells #[.int .u64 (lp2 : Int), .string kp2, .int .u64 (lz2 : Int), .string kz2] 26)).alloc (.cells #[.int .i64 0] 3))
  have H0 := mkHid (((At4.new W (W.heap.size) lp1 kp1 lz1 kz1 rfl).alloc (.cells #[.int .u64 (lp2 : Int), .string kp2, .int .u64 (lz2 : Int), .string kz2] 26)).alloc (.cells #[.int .i64 0] 3))
  have H1 := mkHid ((At4.new (W.alloc (.cells #[.int .u64 (lp1 : Int), .string kp1, .int .u64 (lz1 : Int), .string kz1] 26)) (W.heap.size + 1) lp2 kp2 lz2 kz2 (by simp)).alloc (.cells #[.int .i64 0] 3))
  have H2 := mkHid (Bxn.new ((W.alloc (.cells #[.int .u64 (lp1 : Int), .string kp1, .int .u64 (lz1 : Int), .string kz1] 26)).alloc (.cells #[.int .u64 (lp2 : Int), .string kp2, .int .u64 (lz2 : Int), .string kz2] 26)) (W.heap.size + 1 + 1) #[.int .i64 0] 3 (by simp))
  have hs0 := HS.out
  obtain ⟨⟨a0, a1, a2, a3⟩, -⟩ := H0.out
  obtain ⟨⟨b0, b1, b2, b3⟩, -⟩ := H1.out
  have x2 := H2.out
  clear ht H0 H1 H2 HS
  go_enter Tryd.func24, Tryd.ntmps24
  go_upto_region 2 with (fail)
  go_region_held3 (fun X => St W X ∧ X.cell? ⟨W.heap.size, 0, none⟩ = some (.int .u64 (lp1 : Int)) ∧ X.cell? ⟨W.heap.size, 1, none⟩ = some (.string kp1) ∧ X.cell? ⟨W.heap.size, 2, none⟩ = some (.int .u64 (lz1 : Int)) ∧ X.cell? ⟨W.heap.size, 3, none⟩ = some (.string kz1) ∧ X.cell? ⟨W.heap.size + 1, 0, none⟩ = some (.int .u64 (lp2 : Int)) ∧ X.cell? ⟨W.heap.size + 1, 1, none⟩ = some (.string kp2) ∧ X.cell? ⟨W.heap.size + 1, 2, none⟩ = some (.int .u64 (lz2 : Int)) ∧ X.cell? ⟨W.heap.size + 1, 3, none⟩ = some (.string kz2) ∧ Bxn X (W.heap.size + 1 + 1) 1)
    (first
      | (with_reducible exact ⟨hS.1.next hb, St.cell hb hS.2.1, St.cell hb hS.2.2.1, St.cell hb hS.2.2.2.1, St.cell hb hS.2.2.2.2.1, St.cell hb hS.2.2.2.2.2.1, St.cell hb hS.2.2.2.2.2.2.1, St.cell hb hS.2.2.2.2.2.2.2.1, St.cell hb hS.2.2.2.2.2.2.2.2.1, hS.2.2.2.2.2.2.2.2.2.grows hb⟩)
      | exact ⟨hs0.drew, a0, a1, a2, a3, b0, b1, b2, b3, x2⟩
      | exact ⟨hS.1.past hq (by intro p hp; simp at hp; subst hp; show W.heap.size ≤ _; omega), hq.old (not_one (by omega)) hS.2.1, hq.old (not_one (by omega)) hS.2.2.1, hq.old (not_one (by omega)) hS.2.2.2.1, hq.old (not_one (by omega)) hS.2.2.2.2.1, hq.old (not_one (by omega)) hS.2.2.2.2.2.1, hq.old (not_one (by omega)) hS.2.2.2.2.2.2.1, hq.old (not_one (by omega)) hS.2.2.2.2.2.2.2.1, hq.old (not_one (by omega)) hS.2.2.2.2.2.2.2.2.1, hq.kb _ (.head _)⟩)
    (first
      | (go_at_call 37; have hS : St W _ ∧ _ := (by assumption); (with_reducible refine (C1.out _ hS.1.tabs hS.1.six').mono ?_); rintro e w6 ⟨rfl, hb⟩)
      | (go_at_call 40; have hS : St W _ ∧ _ := (by assumption); refine (CO.out _ (SB.refl hS.1.tabs hS.1.six' (by intro p hp; simp at hp; subst hp; exact ⟨hS.2.2.2.2.2.2.2.2.2, by omega⟩))).mono ?_; rintro e w6 ⟨rfl, hq, hr⟩))
  all_goals
    have hT : St W _ ∧ _ := (by assumption)
    have HT := mkHid hT.1.below
    clear hT
    go_wp2_with fail
    go_ret
    exact ⟨rfl, HT.out⟩

set_option maxRecDepth 100000 in
set_option maxHeartbeats 4000000 in
theorem div_none (p1 q1 q2 : Nat) : Gives 23 #[rv p1 q1, rv 0 q2] (.tuple #[rv 0 1, .bool false]) := by
  intro W _ _
  unfold rv
  rw [dz_one]
  rw [lo_zero, hi_zero]
  generalize lo p1 = l1 at *
  generalize hi p1 = k1 at *
  generalize lo (dz q1) = l2 at *
  generalize hi (dz q1) = k2 at *
  generalize lo (dz q2) = l3 at *
  generalize hi (dz q2) = k3 at *
  go_enter Tryd.func23, Tryd.ntmps23
  go_wp2
  refine bodyPost_ret (v := .tuple #[.agg #[.int .u64 ((0 : Nat) : Int), .string ⟨#[]⟩, .int .u64 ((0 : Nat) : Int), .string ⟨#[]⟩], .bool false]) (by simp [results, Tryd.results23, go_sem]) rfl ⟨rfl, ?_⟩
  exact (((Below.refl _ _).alloc (Nat.le_refl _) _).alloc (by simp) _).alloc (by simp; omega) _

set_option maxRecDepth 100000 in
set_option maxHeartbeats 16000000 in
theorem div_raw (p1 q1 p2 q2 : Nat) (z1 : 0 < q1) (z2 : 0 < q2) (z3 : p2 ≠ 0) (k1 : Kb p1 q1) (k2 : Kb p2 q2) :
    Gives 23 #[rv p1 q1, rv p2 q2] (.tuple #[rv (p1 / Nat.gcd p1 p2 * (q2 / Nat.gcd q2 q1)) (q1 / Nat.gcd q2 q1 * (p2 / Nat.gcd p1 p2)), .bool true]) := by
  intro W ht h6
  have D2 := mkHid (den_g p2 q2 z2)
  have CP := mkHid (pack_g q2 p2)
  have CM := mkHid (mul_raw p1 q1 q2 p2 z1 (Nat.pos_of_ne_zero z3) k1 ⟨k2.2, k2.1⟩)
  have hne := nv_ne z3
  rw [lo_zero, hi_zero] at hne
  unfold rv at *
  unfold nv at *
  clear z1 z2 z3 k1 k2
  generalize lo (dz (q1 / Nat.gcd q2 q1 * (p2 / Nat.gcd p1 p2))) = l9 at *
  generalize hi (dz (q1 / Nat.gcd q2 q1 * (p2 / Nat.gcd p1 p2))) = k9 at *
  generalize lo (p1 / Nat.gcd p1 p2 * (q2 / Nat.gcd q2 q1)) = l7 at *
  generalize hi (p1 / Nat.gcd p1 p2 * (q2 / Nat.gcd q2 q1)) = k7 at *
  generalize lo (dz q1) = lz1 at *
  generalize hi (dz q1) = kz1 at *
  generalize lo (dz q2) = lz2 at *
  generalize hi (dz q2) = kz2 at *
  generalize lo (dz p2) = lz3 at *
  generalize hi (dz p2) = kz3 at *
  generalize lo (p1) = lp1 at *
  generalize hi (p1) = kp1 at *
  generalize lo (p2) = lp2 at *
  generalize hi (p2) = kp2 at *
  generalize lo (q1) = lq1 at *
  generalize hi (q1) = kq1 at *
  generalize lo (q2) = lq2 at *
  generalize hi (q2) = kq2 at *
  have HS := mkHid ((((St.refl ht h6).alloc (.cells #[.int .u64 (lp1 : Int), .string kp1, .int .u64 (lz1 : Int), .string kz1] 26)).alloc (.cells #[.int .u64 (lp2 : Int), .string kp2, .int .u64 (lz2 : Int), .string kz2] 26)).alloc (.cells #[.int .u64 0, .string ⟨#[]⟩, .int .u64 0, .string ⟨#[]⟩] 26))
  have H0 := mkHid (((At4.new W (W.heap.size) lp1 kp1 lz1 kz1 rfl).alloc (.cells #[.int .u64 (lp2 : Int), .string kp2, .int .u64 (lz2 : Int), .string kz2] 26)).alloc (.cells #[.int .u64 0, .string ⟨#[]⟩, .int .u64 0, .string ⟨#[]⟩] 26))
  have H1 := mkHid ((At4.new (W.alloc (.cells #[.int .u64 (lp1 : Int), .string kp1, .int .u64 (lz1 : Int), .string kz1] 26)) (W.heap.size + 1) lp2 kp2 lz2 kz2 (by simp)).alloc (.cells #[.int .u64 0, .string ⟨#[]⟩, .int .u64 0, .string ⟨#[]⟩] 26))
  have H2 := mkHid (Bxn.new ((W.alloc (.cells #[.int .u64 (lp1 : Int), .string kp1, .int .u64 (lz1 : Int), .string kz1] 26)).alloc (.cells #[.int .u64 (lp2 : Int), .string kp2, .int .u64 (lz2 : Int), .string kz2] 26)) (W.heap.size + 1 + 1) #[.int .u64 0, .string ⟨#[]⟩, .int .u64 0, .string ⟨#[]⟩] 26 (by simp))
  have hs0 := HS.out
  obtain ⟨⟨a0, a1, a2, a3⟩, -⟩ := H0.out
  obtain ⟨⟨b0, b1, b2, b3⟩, -⟩ := H1.out
  have x2 := H2.out
  clear ht H0 H1 H2 HS
  have key : ∀ (hx : ((lp2 : Int) == 0) = false ∨ (((lp2 : Int) == 0) = true ∧ kp2.toList.isEmpty = false)), Calls Tryd.prog 23 #[.agg #[.int .u64 (lp1 : Int), .string kp1, .int .u64 (lz1 : Int), .string kz1], .agg #[.int .u64 (lp2 : Int), .string kp2, .int .u64 (lz2 : Int), .string kz2]] W fun e w' => e = .returned (.tuple #[.agg #[.int .u64 (l7 : Int), .string k7, .int .u64 (l9 : Int), .string k9], .bool true]) ∧ Below W.heap.size W w' := by
    intro hx
    rcases hx with hx | ⟨hl, hx⟩
    all_goals
      go_enter Tryd.func23, Tryd.ntmps23
      go_upto_region 3 with (fail)
      go_region_held3 (fun X => St W X ∧ X.cell? ⟨W.heap.size, 0, none⟩ = some (.int .u64 (lp1 : Int)) ∧ X.cell? ⟨W.heap.size, 1, none⟩ = some (.string kp1) ∧ X.cell? ⟨W.heap.size, 2, none⟩ = some (.int .u64 (lz1 : Int)) ∧ X.cell? ⟨W.heap.size, 3, none⟩ = some (.string kz1) ∧ X.cell? ⟨W.heap.size + 1, 0, none⟩ = some (.int .u64 (lp2 : Int)) ∧ X.cell? ⟨W.heap.size + 1, 1, none⟩ = some (.string kp2) ∧ X.cell? ⟨W.heap.size + 1, 2, none⟩ = some (.int .u64 (lz2 : Int)) ∧ X.cell? ⟨W.heap.size + 1, 3, none⟩ = some (.string kz2) ∧ Bxn X (W.heap.size + 1 + 1) 4)
        (first
          | (with_reducible exact ⟨hS.1.next hb, St.cell hb hS.2.1, St.cell hb hS.2.2.1, St.cell hb hS.2.2.2.1, St.cell hb hS.2.2.2.2.1, St.cell hb hS.2.2.2.2.2.1, St.cell hb hS.2.2.2.2.2.2.1, St.cell hb hS.2.2.2.2.2.2.2.1, St.cell hb hS.2.2.2.2.2.2.2.2.1, hS.2.2.2.2.2.2.2.2.2.grows hb⟩)
          | exact ⟨hs0.drew, a0, a1, a2, a3, b0, b1, b2, b3, x2⟩
          | (have hP : St W w6 ∧ _ := (by assumption); exact ⟨(hP.1).set4 (by omega) _ _ _ _, set4_other (hP.2.1) (by omega) _ _ _ _, set4_other (hP.2.2.1) (by omega) _ _ _ _, set4_other (hP.2.2.2.1) (by omega) _ _ _ _, set4_other (hP.2.2.2.2.1) (by omega) _ _ _ _, set4_other (hP.2.2.2.2.2.1) (by omega) _ _ _ _, set4_other (hP.2.2.2.2.2.2.1) (by omega) _ _ _ _, set4_other (hP.2.2.2.2.2.2.2.1) (by omega) _ _ _ _, set4_other (hP.2.2.2.2.2.2.2.2.1) (by omega) _ _ _ _, (hP.2.2.2.2.2.2.2.2.2).set4 _ _ _ _ _⟩))
        (first
          | (go_at_call 28; have hS : St W _ ∧ _ := (by assumption); (with_reducible refine (D2.out _ hS.1.tabs hS.1.six').mono ?_); rintro e w6 ⟨rfl, hb⟩)
          | (go_at_call 30; have hS : St W _ ∧ _ := (by assumption); (with_reducible refine (CP.out _ hS.1.tabs hS.1.six').mono ?_); rintro e w6 ⟨rfl, hb⟩)
          | (go_at_call 20; have hS : St W _ ∧ _ := (by assumption); (with_reducible refine (CM.out _ hS.1.tabs hS.1.six').mono ?_); rintro e w6 ⟨rfl, hb⟩; obtain ⟨v0, v1, v2, v3, ⟨r0, r1, r2, r3⟩, f0, f1, f2, f3⟩ := (hS.2.2.2.2.2.2.2.2.2.grows hb).facts4))
      have hT : St W _ ∧ _ := (by assumption)
      have HT := mkHid hT.1.below
      clear hT
      go_wp2_with fail
      refine bodyPost_ret (v := .tuple #[.agg #[.int .u64 (l7 : Int), .string k7, .int .u64 (l9 : Int), .string k9], .bool true]) (by simp [results, Tryd.results23, go_sem, r0, r1, r2, r3]) rfl ⟨rfl, ?_⟩
      exact HT.out
  refine key (hne.imp id fun ⟨e1, h2⟩ => ⟨by subst e1; rfl, ?_⟩)
  cases hc : kp2.toList with
  | nil => rw [hc] at h2; simp at h2
  | cons a t => rfl

theorem nsub_ok (a b : Nat) (ha : Sm a) (_ : Sm b) (h : b ≤ a) : Gives 46 #[nv a, nv b] (.tuple #[nv (a - b), .bool true]) := fun W _ _ => by
  have := sub_any a b W (Nat.le_trans ha (by omega))
  rw [decide_eq_true h] at this; exact this
theorem nsub_no (a b : Nat) (_ : Sm a) (_ : Sm b) (h : a < b) : Gives 46 #[nv a, nv b] (.tuple #[nv 0, .bool false]) := fun W _ _ => sub_less a b W h
/-- The contracts in the form of quotients. -/
theorem add2_g {p1 q1 p2 q2 : Nat} (h1 : Lo p1 q1) (h2 : Lo p2 q2) (k1 : Kb p1 q1) (k2 : Kb p2 q2) : Gives 19 #[rv p1 q1, rv p2 q2] (rv (rn (p1 * q2 + p2 * q1) (q1 * q2)) (rd (p1 * q2 + p2 * q1) (q1 * q2))) := by
  have h := add_raw p1 q1 p2 q2 _ h1.1 h2.1 k1 k2 rfl
  obtain ⟨e1, e2⟩ := add_low h1 h2 _ rfl
  rwa [e1, e2] at h
theorem sub2_ok {p1 q1 p2 q2 : Nat} (h1 : Lo p1 q1) (h2 : Lo p2 q2) (k1 : Kb p1 q1) (k2 : Kb p2 q2) (hle : p2 * q1 ≤ p1 * q2) : Gives 21 #[rv p1 q1, rv p2 q2] (.tuple #[rv (rn (p1 * q2 - p2 * q1) (q1 * q2)) (rd (p1 * q2 - p2 * q1) (q1 * q2)), .bool true]) := by
  have hl := (sub_num (p1 := p1) (q1 := q1) (p2 := p2) h2.1).2.2 hle
  have s1 : Sm (p1 * (q2 / Nat.gcd q1 q2)) := sm_pow (kb_mul k1.1 (div_kb k2.2)) (by omega)
  have s2 : Sm (p2 * (q1 / Nat.gcd q1 q2)) := sm_pow (kb_mul k2.1 (div_kb k1.2)) (by omega)
  have CS : Gives 46 #[nv (p1 * (q2 / Nat.gcd q1 q2)), nv (p2 * (q1 / Nat.gcd q1 q2))] (.tuple #[nv (p1 * (q2 / Nat.gcd q1 q2) - p2 * (q1 / Nat.gcd q1 q2)), .bool true]) := nsub_ok _ _ s1 s2 hl
  have h := sub_raw_ok p1 q1 p2 q2 _ h1.1 h2.1 k1 k2 CS (sm_le (Nat.sub_le _ _) s1)
  obtain ⟨e1, e2⟩ := sub_low h1 h2 hle _ rfl
  rwa [e1, e2] at h
theorem sub2_no {p1 q1 p2 q2 : Nat} (h1 : Lo p1 q1) (h2 : Lo p2 q2) (k1 : Kb p1 q1) (k2 : Kb p2 q2) (hlt : p1 * q2 < p2 * q1) : Gives 21 #[rv p1 q1, rv p2 q2] (.tuple #[rv 0 1, .bool false]) := by
  have hl : p1 * (q2 / Nat.gcd q1 q2) < p2 * (q1 / Nat.gcd q1 q2) := by
    have := (sub_num (p1 := p1) (q1 := q1) (p2 := p2) h2.1).2
    omega
  have s1 : Sm (p1 * (q2 / Nat.gcd q1 q2)) := sm_pow (kb_mul k1.1 (div_kb k2.2)) (by omega)
  have s2 : Sm (p2 * (q1 / Nat.gcd q1 q2)) := sm_pow (kb_mul k2.1 (div_kb k1.2)) (by omega)
  have CS : Gives 46 #[nv (p1 * (q2 / Nat.gcd q1 q2)), nv (p2 * (q1 / Nat.gcd q1 q2))] (.tuple #[nv 0, .bool false]) := nsub_no _ _ s1 s2 hl
  exact sub_raw_no p1 q1 p2 q2 0 h1.1 h2.1 k1 k2 CS (sm_word (by decide))
theorem mul2_g {p1 q1 p2 q2 : Nat} (h1 : Lo p1 q1) (h2 : Lo p2 q2) (k1 : Kb p1 q1) (k2 : Kb p2 q2) : Gives 20 #[rv p1 q1, rv p2 q2] (rv (rn (p1 * p2) (q1 * q2)) (rd (p1 * p2) (q1 * q2))) := by
  have h := mul_raw p1 q1 p2 q2 h1.1 h2.1 k1 k2
  obtain ⟨e1, e2⟩ := mul_low h1 h2
  rwa [e1, e2] at h
theorem div2_g {p1 q1 p2 q2 : Nat} (h1 : Lo p1 q1) (h2 : Lo p2 q2) (h0 : p2 ≠ 0) (k1 : Kb p1 q1) (k2 : Kb p2 q2) : Gives 23 #[rv p1 q1, rv p2 q2] (.tuple #[rv (rn (p1 * q2) (q1 * p2)) (rd (p1 * q2) (q1 * p2)), .bool true]) := by
  have h := div_raw p1 q1 p2 q2 h1.1 h2.1 h0 k1 k2
  obtain ⟨e1, e2⟩ := mul_low h1 (p2 := q2) (q2 := p2) ⟨Nat.pos_of_ne_zero h0, h2.2.symm⟩
  rwa [e1, e2] at h
end Go.Proofs.YtflcdpolfimggaaDoor
namespace Go.Proofs.YtflcdpolfimggaaDoor
open Go.RowKit Q SD

theorem ds_eq (n : Nat) : ds n = ⟨(Lib.decDigits n).toArray⟩ := rfl
set_option maxRecDepth 100000 in
set_option maxHeartbeats 4000000 in
theorem number_of (s : ByteArray) (n : Nat) (hn : Lib.nDigits n ≤ 150) (hd : ∀ W, Calls Tryd.prog 12 #[.string s] W fun e w' => e = .returned (.string (ds n)) ∧ w' = W) : Gives 10 #[.string s] (nv n) := by
  intro W ht h6
  have CD := mkHid hd
  have CR := mkHid (readn_g n (Nat.le_trans hn (by omega)))
  rw [← ds_eq] at CR
  unfold nv at *
  clear hn hd
  generalize ds n = t at *
  generalize lo n = ln at *
  generalize hi n = kn at *
  have HS := mkHid ((St.refl ht h6).alloc (.cells #[.int .u64 0, .string ⟨#[]⟩] 24))
  have HX := mkHid (Bxn.new W W.heap.size #[.int .u64 0, .string ⟨#[]⟩] 24 rfl)
  clear ht h6
  go_enter Tryd.func10, Tryd.ntmps10
  go_wp2_with (first
    | (go_at_call 12; refine (CD.out _).mono ?_; rintro e w2 ⟨rfl, h2⟩; obtain rfl := h2.symm; clear h2)
    | (go_at_call 32; refine (CR.out _ HS.out.tabs HS.out.six').mono ?_; rintro e w3 ⟨rfl, hb⟩; have HS := mkHid ((HS.out.next hb).alloc (.cells #[.int .u64 (ln : Int), .string kn] 24)); have HX := mkHid ((HX.out.grows hb).alloc (.cells #[.int .u64 (ln : Int), .string kn] 24)); clear hb; obtain ⟨v0, v1, ⟨r0, r1⟩, f0, f1⟩ := HX.out.facts2))
  refine bodyPost_ret (v := .agg #[.int .u64 (ln : Int), .string kn]) (by simp [results, Tryd.results10, go_sem, r0, r1]) rfl ⟨rfl, ?_⟩
  exact (HS.out.set2 (Nat.le_refl _) _ _).below

/-- The numbers that the laws take from two strings. -/
structure Taken (a b : ByteArray) (n d : Nat) : Prop where
  nn : Lib.nDigits n ≤ 150
  nd : Lib.nDigits d ≤ 150
  da : ∀ W, Calls Tryd.prog 12 #[.string a] W fun e w' => e = .returned (.string (ds n)) ∧ w' = W
  db : ∀ W, Calls Tryd.prog 12 #[.string b] W fun e w' => e = .returned (.string (ds d)) ∧ w' = W
theorem taken (a b : ByteArray) : ∃ n d, Taken a b n d := by
  obtain ⟨n, h1, h2⟩ := digits_any a
  obtain ⟨d, h3, h4⟩ := digits_any b
  exact ⟨n, d, h1, h3, h2, h4⟩
def pos1 (d : Nat) : Nat := if d = 0 then 1 else d
theorem pos1_pos (d : Nat) : 0 < pos1 d := by unfold pos1; split <;> omega
theorem nd_small {n : Nat} (h : Lib.nDigits n ≤ 150) : n < M.B ^ 8 := by
  have := Lib.lt_pow_nDigits n
  have h2 : 10 ^ Lib.nDigits n ≤ 10 ^ 150 := Nat.pow_le_pow_right (by omega) h
  have h3 : (10 : Nat) ^ 150 ≤ M.B ^ 8 := by unfold M.B; decide +kernel
  omega
/-- Both parts have at most k words. -/
def Kw (k p q : Nat) : Prop := p < M.B ^ k ∧ q < M.B ^ k
theorem Kw.kb {k p q : Nat} (h : Kw k p q) (hk : k ≤ 400) : Kb p q := by
  obtain ⟨e, he⟩ : ∃ e : Nat, e = 400 := ⟨_, rfl⟩
  unfold Kb
  rw [← he] at hk ⊢
  exact ⟨pow_up M.B_pos h.1 hk, pow_up M.B_pos h.2 hk⟩
theorem Kw.low {k n d : Nat} (h : n < M.B ^ k) (h2 : d < M.B ^ k) : Kw k (rn n d) (rd n d) := ⟨Nat.lt_of_le_of_lt (Nat.div_le_self _ _) h, Nat.lt_of_le_of_lt (Nat.div_le_self _ _) h2⟩
theorem Kw.mono {j k p q : Nat} (h : Kw j p q) (hk : j ≤ k) : Kw k p q := ⟨pow_up M.B_pos h.1 hk, pow_up M.B_pos h.2 hk⟩
theorem Taken.kw {a b : ByteArray} {n d : Nat} (h : Taken a b n d) : Kw 8 (rn n (pos1 d)) (rd n (pos1 d)) := by
  refine Kw.low (nd_small h.nn) ?_
  unfold pos1; split
  · exact Nat.lt_of_lt_of_le (by decide) (Nat.pow_le_pow_right M.B_pos (show 1 ≤ 8 by omega))
  · exact nd_small h.nd
theorem Taken.lo {a b : ByteArray} {n d : Nat} (_ : Taken a b n d) : Lo (rn n (pos1 d)) (rd n (pos1 d)) := low n _ (pos1_pos d)

/-- Two strings in a box. -/
def AtV (w : World) (b : Nat) (x y : ByteArray) : Prop := w.cell? ⟨b, 0, none⟩ = some (.string x) ∧ w.cell? ⟨b, 1, none⟩ = some (.string y)
theorem AtV.grows {w w' : World} {b : Nat} {x y : ByteArray} (H : AtV w b x y) (hb : Below w.heap.size w w') : AtV w' b x y := ⟨St.cell hb H.1, St.cell hb H.2⟩
theorem AtV.alloc {w : World} {b : Nat} {x y : ByteArray} (H : AtV w b x y) (o : Obj) : AtV (w.alloc o) b x y := ⟨cellAl H.1 o, cellAl H.2 o⟩
theorem AtV.drew {w : World} {b : Nat} {x y : ByteArray} (H : AtV w b x y) : AtV w.drew b x y := H
theorem AtV.set2 {w : World} {b p : Nat} {x y : ByteArray} (H : AtV w b x y) (hne : b ≠ p) (u v : Value) : AtV ((w.setCell ⟨p, 0, none⟩ u).setCell ⟨p, 1, none⟩ v) b x y := ⟨cellSet2 H.1 hne u v, cellSet2 H.2 hne u v⟩
theorem AtV.new (w : World) (n : Nat) (x y : ByteArray) (hn : n = w.heap.size) : AtV (w.alloc (.cells #[.string x, .string y] 40)) n x y := by
  subst hn
  have hb : (w.alloc (.cells #[.string x, .string y] 40)).heap[w.heap.size]? = some (.cells #[.string x, .string y] 40 (0, 0)) := heap_alloc_new w _
  refine ⟨?_, ?_⟩
  · simp only [World.cell?, hb]; rfl
  · simp only [World.cell?, hb]; rfl
theorem At4.set {w : World} {b l l2 : Nat} {h h2 : ByteArray} (H : At4 w b l h l2 h2) (x : Nat) (y : ByteArray) (z : Nat) (v : ByteArray) : At4 ((((w.setCell ⟨b, 0, none⟩ (.int .u64 (x : Int))).setCell ⟨b, 1, none⟩ (.string y)).setCell ⟨b, 2, none⟩ (.int .u64 (z : Int))).setCell ⟨b, 3, none⟩ (.string v)) b x y z v := by
  obtain ⟨⟨h0, h1, h2', h3⟩, f0, f1, f2, f3⟩ := H
  have hc : ∃ c e fr, w.heap[b]? = some (.cells c e fr) := by
    unfold World.cell? at h0
    split at h0
    · rename_i c e fr hb; exact ⟨c, e, fr, hb⟩
    · simp at h0
  obtain ⟨c, e, fr, hb⟩ := hc
  have hb' : ((((w.setCell ⟨b, 0, none⟩ (.int .u64 (x : Int))).setCell ⟨b, 1, none⟩ (.string y)).setCell ⟨b, 2, none⟩ (.int .u64 (z : Int))).setCell ⟨b, 3, none⟩ (.string v)).heap[b]? = some (.cells ((((c.setIfInBounds 0 (.int .u64 (x : Int))).setIfInBounds 1 (.string y)).setIfInBounds 2 (.int .u64 (z : Int))).setIfInBounds 3 (.string v)) e fr) := by
    simp [World.setCell, Array.getElem?_modify, hb]
  simp only [At4, World.cell?, World.frozen?, hb, hb', Option.isSome_none, Bool.false_eq_true, if_false] at h0 h1 h2' h3 f0 f1 f2 f3 ⊢
  have l0 := (Array.getElem?_eq_some_iff.1 h0).1
  have l1 := (Array.getElem?_eq_some_iff.1 h1).1
  have l2 := (Array.getElem?_eq_some_iff.1 h2').1
  have l3 := (Array.getElem?_eq_some_iff.1 h3).1
  refine ⟨⟨?_, ?_, ?_, ?_⟩, f0, f1, f2, f3⟩ <;> simp [l0, l1, l2, l3]

set_option maxRecDepth 100000 in
set_option maxHeartbeats 16000000 in
theorem vrat_zero (a b : ByteArray) (n : Nat) (h : Taken a b n 0) : Gives 17 #[.agg #[.string a, .string b]] (rv (rn n 1) (rd n 1)) := by
  intro W ht h6
  have CA := mkHid (number_of a n h.nn h.da)
  have CB := mkHid (number_of b 0 h.nd h.db)
  have sn : Sm n := sm_pow (nd_small h.nn) (by omega)
  have sd : Sm 1 := sm_word (by decide)
  have CT := mkHid (text_g 0 (sm_word (by decide)))
  rw [← ds_eq] at CT
  have CN := mkHid (new_pos n 1 sn sd (by omega))
  have CO := of_g 1 (by decide)
  rw [show ((1 : Nat) : Int) = 1 from rfl] at CO
  replace CO := mkHid CO
  rw [ds_zero] at CT
  unfold rv at *
  unfold nv at *
  clear h sn sd
  generalize lo (dz (rd n 1)) = l9 at *
  generalize hi (dz (rd n 1)) = k9 at *
  generalize lo (rn n 1) = l5 at *
  generalize hi (rn n 1) = k5 at *
  generalize lo (n) = ln at *
  generalize hi (n) = kn at *
  generalize lo (1) = ld at *
  generalize hi (1) = kd at *
  generalize lo (0) = l0 at *
  generalize hi (0) = k0 at *

  have HS := mkHid (((St.refl ht h6).alloc (.cells #[.string a, .string b] 40)).alloc (.cells #[.int .u64 0, .string ⟨#[]⟩, .int .u64 0, .string ⟨#[]⟩] 26))
  have H0 := mkHid (AtV.new W W.heap.size a b rfl |>.alloc (.cells #[.int .u64 0, .string ⟨#[]⟩, .int .u64 0, .string ⟨#[]⟩] 26))
  have H1 := mkHid (Bxn.new (W.alloc (.cells #[.string a, .string b] 40)) (W.heap.size + 1) #[.int .u64 0, .string ⟨#[]⟩, .int .u64 0, .string ⟨#[]⟩] 26 (by simp))
  obtain ⟨a0, a1⟩ := H0.out
  clear ht
  go_enter Tryd.func17, Tryd.ntmps17
  go_upto_region 4 with (first
    | (go_at_call 10; refine (CB.out _ HS.out.tabs HS.out.six').mono ?_; rintro e w2 ⟨rfl, hb⟩; have h9 := hb.size; simp at h9; have HS := mkHid ((HS.out.next hb).alloc (.cells #[.int .u64 (l0 : Int), .string k0] 24)); have H0 := mkHid ((H0.out.grows hb).alloc (.cells #[.int .u64 (l0 : Int), .string k0] 24)); have H1 := mkHid ((H1.out.grows hb).alloc (.cells #[.int .u64 (l0 : Int), .string k0] 24)); have HD := mkHid (At2.new w2 w2.heap.size l0 k0 rfl); clear hb; obtain ⟨a0, a1⟩ := H0.out; obtain ⟨d0, d1, df0, df1⟩ := HD.out)
    | (go_at_call 29; refine (CT.out _ HS.out.tabs HS.out.six').mono ?_; rintro e w4 ⟨rfl, hb⟩; have hz6 : W.heap.size + 2 ≤ w4.heap.size := (by have h8 := hb.size; simp at h8; omega); have HS := mkHid (HS.out.next hb); have H0 := mkHid (H0.out.grows hb); have H1 := mkHid (H1.out.grows hb); have HD := mkHid (HD.out.grows hb); clear hb; obtain ⟨a0, a1⟩ := H0.out; obtain ⟨d0, d1, df0, df1⟩ := HD.out)
    | (go_at_call 37; refine (CO.out _ HS.out.tabs HS.out.six').mono ?_; rintro e w5 ⟨rfl, hb⟩; have hz6 : W.heap.size + 2 ≤ w5.heap.size := (by have h8 := hb.size; omega); have HS := mkHid ((HS.out.next hb).set2 (b := w2.heap.size) (by omega) (.int .u64 (ld : Int)) (.string kd)); have H0 := mkHid ((H0.out.grows hb).set2 (p := w2.heap.size) (by omega) (.int .u64 (ld : Int)) (.string kd)); have H1 := mkHid ((H1.out.grows hb).set2 w2.heap.size (.int .u64 (ld : Int)) (.string kd)); have HD1 := mkHid (HD.out.grows hb); have HD := mkHid ((HD.out.grows hb).set ld kd); clear hb; obtain ⟨d0, d1, df0, df1⟩ := HD1.out))
  have hsn := HS.out
  obtain ⟨a0, a1⟩ := H0.out
  obtain ⟨d0, d1, -, -⟩ := HD.out
  have x1 := H1.out
  have hj : W.heap.size + 2 ≤ w2.heap.size := by omega
  have hj6 : w2.heap.size < ((w5.setCell ⟨w2.heap.size, 0, none⟩ (.int .u64 (ld : Int))).setCell ⟨w2.heap.size, 1, none⟩ (.string kd)).heap.size := World.block_lt_of_cell? _ _ d0
  clear HS H0 HD H1 HD1
  generalize w2.heap.size = j3 at *
  have hz6 : W.heap.size + 2 ≤ ((w5.setCell ⟨j3, 0, none⟩ (.int .u64 (ld : Int))).setCell ⟨j3, 1, none⟩ (.string kd)).heap.size := by simpa using hz6
  generalize (w5.setCell ⟨j3, 0, none⟩ (.int .u64 (ld : Int))).setCell ⟨j3, 1, none⟩ (.string kd) = w6 at *
  go_cut [4] (fun v wx => ∃ j : Nat, v = .pointer (some ⟨j, 0, none⟩) ∧ W.heap.size + 2 ≤ j ∧ Hid (At4 wx j l5 k5 l9 k9 ∧ St W wx ∧ Bxn wx (W.heap.size + 1) 4))
  case first =>
    go_region_held3 (fun X => St W X ∧ X.cell? ⟨W.heap.size, 0, none⟩ = some (.string a) ∧ X.cell? ⟨W.heap.size, 1, none⟩ = some (.string b) ∧ X.cell? ⟨j3, 0, none⟩ = some (.int .u64 (ld : Int)) ∧ X.cell? ⟨j3, 1, none⟩ = some (.string kd) ∧ Bxn X (W.heap.size + 1) 4)
      (first
        | (with_reducible exact ⟨hS.1.next hb, St.cell hb hS.2.1, St.cell hb hS.2.2.1, St.cell hb hS.2.2.2.1, St.cell hb hS.2.2.2.2.1, hS.2.2.2.2.2.grows hb⟩)
        | (have hT : St W _ ∧ _ := (by assumption); with_reducible exact ⟨(hT.1).alloc _, cellAl (hT.2.1) _, cellAl (hT.2.2.1) _, cellAl (hT.2.2.2.1) _, cellAl (hT.2.2.2.2.1) _, (hT.2.2.2.2.2).alloc _⟩)
        | (with_reducible exact ⟨(hS.1.next hb).alloc _, cellAl (St.cell hb hS.2.1) _, cellAl (St.cell hb hS.2.2.1) _, cellAl (St.cell hb hS.2.2.2.1) _, cellAl (St.cell hb hS.2.2.2.2.1) _, (hS.2.2.2.2.2.grows hb).alloc _⟩)
        | (have hT : St W _ ∧ _ := (by assumption); exact ⟨(hT.1).set4 (by omega) _ _ _ _, set4_other (hT.2.1) (by omega) _ _ _ _, set4_other (hT.2.2.1) (by omega) _ _ _ _, set4_other (hT.2.2.2.1) (by omega) _ _ _ _, set4_other (hT.2.2.2.2.1) (by omega) _ _ _ _, (hT.2.2.2.2.2).set4 _ _ _ _ _⟩)
        | exact ⟨hsn.drew, a0, a1, d0, d1, x1⟩
        | exact ⟨(hsn.alloc _).drew, cellAl a0 _, cellAl a1 _, cellAl d0 _, cellAl d1 _, x1.alloc _⟩)
      (first
        | (go_at_call 10; have hS : St W _ ∧ _ := (by assumption); (with_reducible refine (CA.out _ hS.1.tabs hS.1.six').mono ?_); rintro e w6 ⟨rfl, hb⟩; (first | (have hz := HZ.out.grows hb; (have HZ := mkHid hz); obtain ⟨⟨z0, z1, z2, z3⟩, y0, y1, y2, y3⟩ := hz) | (have hz := (At4.new _ _ 0 ⟨#[]⟩ 0 ⟨#[]⟩ rfl).grows hb; (try simp only [World.size_alloc] at hz); (have HZ := mkHid hz); obtain ⟨⟨z0, z1, z2, z3⟩, y0, y1, y2, y3⟩ := hz) | (have hz := (At4.new _ _ 0 ⟨#[]⟩ 0 ⟨#[]⟩ rfl).drew.grows hb; (try simp only [World.size_alloc] at hz); (have HZ := mkHid hz); obtain ⟨⟨z0, z1, z2, z3⟩, y0, y1, y2, y3⟩ := hz) | skip); have h9 := hb.size; (try simp at h9); have hz6 : W.heap.size + 2 ≤ w6.heap.size := (by have h8 := hz6; omega); have hj6 : j3 < w6.heap.size := (by have h8 := hj6; omega))
        | (go_at_call 9; have hS : St W _ ∧ _ := (by assumption); (with_reducible refine (CN.out _ hS.1.tabs hS.1.six').mono ?_); rintro e w6 ⟨rfl, hb⟩; (first | (have hz := HZ.out.grows hb; (have HZ := mkHid hz); obtain ⟨⟨z0, z1, z2, z3⟩, y0, y1, y2, y3⟩ := hz) | (have hz := (At4.new _ _ 0 ⟨#[]⟩ 0 ⟨#[]⟩ rfl).grows hb; (try simp only [World.size_alloc] at hz); (have HZ := mkHid hz); obtain ⟨⟨z0, z1, z2, z3⟩, y0, y1, y2, y3⟩ := hz) | (have hz := (At4.new _ _ 0 ⟨#[]⟩ 0 ⟨#[]⟩ rfl).drew.grows hb; (try simp only [World.size_alloc] at hz); (have HZ := mkHid hz); obtain ⟨⟨z0, z1, z2, z3⟩, y0, y1, y2, y3⟩ := hz) | skip); have h9 := hb.size; (try simp at h9); have hz6 : W.heap.size + 2 ≤ w6.heap.size := (by have h8 := hz6; omega); have hj6 : j3 < w6.heap.size := (by have h8 := hj6; omega)))
    all_goals
      have hT : St W _ ∧ _ := (by assumption)
      have HT := mkHid hT.1
      have HU := mkHid hT.2.2.2.2.2
      clear hT
      go_wp2_with fail
      go_meet
      refine ⟨_, rfl, (by first | omega | (simp; omega) | simp), mkHid ⟨?_, HT.out, HU.out⟩⟩
      first
        | (with_reducible exact At4.new _ _ l5 k5 l9 k9 (by simp))
        | (with_reducible exact At4.set HZ.out l5 k5 l9 k9)
        | (with_reducible exact At4.set (At4.new _ _ 0 ⟨#[]⟩ 0 ⟨#[]⟩ rfl) l5 k5 l9 k9)
  case rest =>
    obtain ⟨j, rfl, hj, H⟩ := hcut
    obtain ⟨⟨⟨g0, g1, g2, g3⟩, -⟩, hs, hx⟩ := H.out
    obtain ⟨v0, v1, v2, v3, ⟨r0, r1, r2, r3⟩, f0, f1, f2, f3⟩ := hx.facts4
    have HSS := mkHid hs
    clear hs hx H
    go_wp2_with fail
    refine bodyPost_ret (v := .agg #[.int .u64 (l5 : Int), .string k5, .int .u64 (l9 : Int), .string k9]) (by simp [results, Tryd.results17, go_sem, r0, r1, r2, r3]) rfl ⟨rfl, ?_⟩
    exact (HSS.out.set4 (by omega) _ _ _ _).below

set_option maxRecDepth 100000 in
set_option maxHeartbeats 16000000 in
theorem vrat_pos (a b : ByteArray) (n d : Nat) (h : Taken a b n d) (h0 : d ≠ 0) : Gives 17 #[.agg #[.string a, .string b]] (rv (rn n d) (rd n d)) := by
  intro W ht h6
  have CA := mkHid (number_of a n h.nn h.da)
  have CB := mkHid (number_of b d h.nd h.db)
  have sn : Sm n := sm_pow (nd_small h.nn) (by omega)
  have sd : Sm d := sm_pow (nd_small h.nd) (by omega)
  have CT := mkHid (text_g d sd)
  rw [← ds_eq] at CT
  have CN := mkHid (new_pos n d sn sd h0)
  have hne := ds_ne_zero h0



  unfold rv at *
  unfold nv at *
  clear h sn sd h0
  generalize lo (dz (rd n d)) = l9 at *
  generalize hi (dz (rd n d)) = k9 at *
  generalize lo (rn n d) = l5 at *
  generalize hi (rn n d) = k5 at *
  generalize lo (n) = ln at *
  generalize hi (n) = kn at *
  generalize lo (d) = ld at *
  generalize hi (d) = kd at *
  generalize ds d = td at *
  have HS := mkHid (((St.refl ht h6).alloc (.cells #[.string a, .string b] 40)).alloc (.cells #[.int .u64 0, .string ⟨#[]⟩, .int .u64 0, .string ⟨#[]⟩] 26))
  have H0 := mkHid (AtV.new W W.heap.size a b rfl |>.alloc (.cells #[.int .u64 0, .string ⟨#[]⟩, .int .u64 0, .string ⟨#[]⟩] 26))
  have H1 := mkHid (Bxn.new (W.alloc (.cells #[.string a, .string b] 40)) (W.heap.size + 1) #[.int .u64 0, .string ⟨#[]⟩, .int .u64 0, .string ⟨#[]⟩] 26 (by simp))
  obtain ⟨a0, a1⟩ := H0.out
  clear ht
  go_enter Tryd.func17, Tryd.ntmps17
  go_upto_region 4 with (first
    | (go_at_call 10; refine (CB.out _ HS.out.tabs HS.out.six').mono ?_; rintro e w2 ⟨rfl, hb⟩; have h9 := hb.size; simp at h9; have HS := mkHid ((HS.out.next hb).alloc (.cells #[.int .u64 (ld : Int), .string kd] 24)); have H0 := mkHid ((H0.out.grows hb).alloc (.cells #[.int .u64 (ld : Int), .string kd] 24)); have H1 := mkHid ((H1.out.grows hb).alloc (.cells #[.int .u64 (ld : Int), .string kd] 24)); have HD := mkHid (At2.new w2 w2.heap.size ld kd rfl); clear hb; obtain ⟨a0, a1⟩ := H0.out; obtain ⟨d0, d1, df0, df1⟩ := HD.out)
    | (go_at_call 29; refine (CT.out _ HS.out.tabs HS.out.six').mono ?_; rintro e w4 ⟨rfl, hb⟩; have hz6 : W.heap.size + 2 ≤ w4.heap.size := (by have h8 := hb.size; simp at h8; omega); have HS := mkHid (HS.out.next hb); have H0 := mkHid (H0.out.grows hb); have H1 := mkHid (H1.out.grows hb); have HD := mkHid (HD.out.grows hb); clear hb; obtain ⟨a0, a1⟩ := H0.out; obtain ⟨d0, d1, df0, df1⟩ := HD.out))
  have hsn := HS.out
  obtain ⟨a0, a1⟩ := H0.out
  obtain ⟨d0, d1, -, -⟩ := HD.out
  have x1 := H1.out
  have hj : W.heap.size + 2 ≤ w2.heap.size := by omega
  have hj6 : w2.heap.size < (w4).heap.size := World.block_lt_of_cell? _ _ d0
  clear HS H0 HD H1
  generalize w2.heap.size = j3 at *
  have hz6 : W.heap.size + 2 ≤ (w4).heap.size := by simpa using hz6
  generalize w4 = w6 at *
  go_cut [4] (fun v wx => ∃ j : Nat, v = .pointer (some ⟨j, 0, none⟩) ∧ W.heap.size + 2 ≤ j ∧ Hid (At4 wx j l5 k5 l9 k9 ∧ St W wx ∧ Bxn wx (W.heap.size + 1) 4))
  case first =>
    go_region_held3 (fun X => St W X ∧ X.cell? ⟨W.heap.size, 0, none⟩ = some (.string a) ∧ X.cell? ⟨W.heap.size, 1, none⟩ = some (.string b) ∧ X.cell? ⟨j3, 0, none⟩ = some (.int .u64 (ld : Int)) ∧ X.cell? ⟨j3, 1, none⟩ = some (.string kd) ∧ Bxn X (W.heap.size + 1) 4)
      (first
        | (with_reducible exact ⟨hS.1.next hb, St.cell hb hS.2.1, St.cell hb hS.2.2.1, St.cell hb hS.2.2.2.1, St.cell hb hS.2.2.2.2.1, hS.2.2.2.2.2.grows hb⟩)
        | (have hT : St W _ ∧ _ := (by assumption); with_reducible exact ⟨(hT.1).alloc _, cellAl (hT.2.1) _, cellAl (hT.2.2.1) _, cellAl (hT.2.2.2.1) _, cellAl (hT.2.2.2.2.1) _, (hT.2.2.2.2.2).alloc _⟩)
        | (with_reducible exact ⟨(hS.1.next hb).alloc _, cellAl (St.cell hb hS.2.1) _, cellAl (St.cell hb hS.2.2.1) _, cellAl (St.cell hb hS.2.2.2.1) _, cellAl (St.cell hb hS.2.2.2.2.1) _, (hS.2.2.2.2.2.grows hb).alloc _⟩)
        | (have hT : St W _ ∧ _ := (by assumption); exact ⟨(hT.1).set4 (by omega) _ _ _ _, set4_other (hT.2.1) (by omega) _ _ _ _, set4_other (hT.2.2.1) (by omega) _ _ _ _, set4_other (hT.2.2.2.1) (by omega) _ _ _ _, set4_other (hT.2.2.2.2.1) (by omega) _ _ _ _, (hT.2.2.2.2.2).set4 _ _ _ _ _⟩)
        | exact ⟨hsn.drew, a0, a1, d0, d1, x1⟩
        | exact ⟨(hsn.alloc _).drew, cellAl a0 _, cellAl a1 _, cellAl d0 _, cellAl d1 _, x1.alloc _⟩)
      (first
        | (go_at_call 10; have hS : St W _ ∧ _ := (by assumption); (with_reducible refine (CA.out _ hS.1.tabs hS.1.six').mono ?_); rintro e w6 ⟨rfl, hb⟩; (first | (have hz := HZ.out.grows hb; (have HZ := mkHid hz); obtain ⟨⟨z0, z1, z2, z3⟩, y0, y1, y2, y3⟩ := hz) | (have hz := (At4.new _ _ 0 ⟨#[]⟩ 0 ⟨#[]⟩ rfl).grows hb; (try simp only [World.size_alloc] at hz); (have HZ := mkHid hz); obtain ⟨⟨z0, z1, z2, z3⟩, y0, y1, y2, y3⟩ := hz) | (have hz := (At4.new _ _ 0 ⟨#[]⟩ 0 ⟨#[]⟩ rfl).drew.grows hb; (try simp only [World.size_alloc] at hz); (have HZ := mkHid hz); obtain ⟨⟨z0, z1, z2, z3⟩, y0, y1, y2, y3⟩ := hz) | skip); have h9 := hb.size; (try simp at h9); have hz6 : W.heap.size + 2 ≤ w6.heap.size := (by have h8 := hz6; omega); have hj6 : j3 < w6.heap.size := (by have h8 := hj6; omega))
        | (go_at_call 9; have hS : St W _ ∧ _ := (by assumption); (with_reducible refine (CN.out _ hS.1.tabs hS.1.six').mono ?_); rintro e w6 ⟨rfl, hb⟩; (first | (have hz := HZ.out.grows hb; (have HZ := mkHid hz); obtain ⟨⟨z0, z1, z2, z3⟩, y0, y1, y2, y3⟩ := hz) | (have hz := (At4.new _ _ 0 ⟨#[]⟩ 0 ⟨#[]⟩ rfl).grows hb; (try simp only [World.size_alloc] at hz); (have HZ := mkHid hz); obtain ⟨⟨z0, z1, z2, z3⟩, y0, y1, y2, y3⟩ := hz) | (have hz := (At4.new _ _ 0 ⟨#[]⟩ 0 ⟨#[]⟩ rfl).drew.grows hb; (try simp only [World.size_alloc] at hz); (have HZ := mkHid hz); obtain ⟨⟨z0, z1, z2, z3⟩, y0, y1, y2, y3⟩ := hz) | skip); have h9 := hb.size; (try simp at h9); have hz6 : W.heap.size + 2 ≤ w6.heap.size := (by have h8 := hz6; omega); have hj6 : j3 < w6.heap.size := (by have h8 := hj6; omega)))
    all_goals
      have hT : St W _ ∧ _ := (by assumption)
      have HT := mkHid hT.1
      have HU := mkHid hT.2.2.2.2.2
      clear hT
      go_wp2_with fail
      go_meet
      refine ⟨_, rfl, (by first | omega | (simp; omega) | simp), mkHid ⟨?_, HT.out, HU.out⟩⟩
      first
        | (with_reducible exact At4.new _ _ l5 k5 l9 k9 (by simp))
        | (with_reducible exact At4.set HZ.out l5 k5 l9 k9)
        | (with_reducible exact At4.set (At4.new _ _ 0 ⟨#[]⟩ 0 ⟨#[]⟩ rfl) l5 k5 l9 k9)
  case rest =>
    obtain ⟨j, rfl, hj, H⟩ := hcut
    obtain ⟨⟨⟨g0, g1, g2, g3⟩, -⟩, hs, hx⟩ := H.out
    obtain ⟨v0, v1, v2, v3, ⟨r0, r1, r2, r3⟩, f0, f1, f2, f3⟩ := hx.facts4
    have HSS := mkHid hs
    clear hs hx H
    go_wp2_with fail
    refine bodyPost_ret (v := .agg #[.int .u64 (l5 : Int), .string k5, .int .u64 (l9 : Int), .string k9]) (by simp [results, Tryd.results17, go_sem, r0, r1, r2, r3]) rfl ⟨rfl, ?_⟩
    exact (HSS.out.set4 (by omega) _ _ _ _).below

theorem vrat_g (a b : ByteArray) (n d : Nat) (h : Taken a b n d) : Gives 17 #[.agg #[.string a, .string b]] (rv (rn n (pos1 d)) (rd n (pos1 d))) := by
  by_cases h0 : d = 0
  · subst h0; exact vrat_zero a b n h
  · have := vrat_pos a b n d h h0
    unfold pos1; rw [if_neg h0]; exact this
end Go.Proofs.YtflcdpolfimggaaDoor
