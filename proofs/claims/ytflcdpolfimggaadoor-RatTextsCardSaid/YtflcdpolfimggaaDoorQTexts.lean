/- Package rat: RatTexts. -/
import Derived.Test.YtflcdpolfimggaaDoorG12
import Derived.Test.YtflcdpolfimggaaDoorG11
namespace Go.Proofs.YtflcdpolfimggaaDoor
open Go.RowKit Q SD

set_option maxRecDepth 100000 in
set_option maxHeartbeats 32000000 in
theorem texts_raw (x1 x2 : ByteArray) (pa qa : Nat) (ta : ByteArray)
    (CA : Gives 17 #[.agg #[.string x1, .string x2]] (rv pa qa)) (CT : Gives 22 #[rv pa qa] (.string ta)) (CR : Gives 25 #[.string ta] (.tuple #[rv pa qa, .bool true]))
    (CN : Gives 27 #[rv pa qa] (nv pa)) (CD : Gives 28 #[rv pa qa] (nv qa)) (CG : Gives 26 #[nv pa, nv qa] (nv 1)) (CW2 : Gives 9 #[nv pa, nv qa] (.tuple #[rv pa qa, .bool true]))
    (CE : Gives 18 #[rv pa qa, rv pa qa] (.bool true)) (CC : Gives 24 #[rv pa qa, rv pa qa] (.int .i64 0)) (C1 : Gives 29 #[nv 1] (.string ⟨#[49]⟩)) :
    Gives 7 #[.agg #[.string x1, .string x2]] (.bool true) := by
  intro W ht h6
  have CW := mkHid rworks_g
  unfold rv at *
  unfold nv at *
  generalize lo (dz qa) = lza at *
  generalize hi (dz qa) = kza at *
  generalize lo (pa) = la at *
  generalize hi (pa) = ka at *
  generalize lo (qa) = lq at *
  generalize hi (qa) = kq at *
  generalize lo (1) = l1 at *
  generalize hi (1) = k1 at *
  replace CA := mkHid CA
  replace CT := mkHid CT
  replace CR := mkHid CR
  replace CN := mkHid CN
  replace CD := mkHid CD
  replace CG := mkHid CG
  replace CW2 := mkHid CW2
  replace CE := mkHid CE
  replace CC := mkHid CC
  replace C1 := mkHid C1
  have HS := mkHid ((St.refl ht h6).alloc (.cells #[.string x1, .string x2] 40))
  have Hu := mkHid (AtV.new W W.heap.size x1 x2 rfl)
  obtain ⟨u0, u1⟩ := Hu.out
  clear ht h6
  go_enter Tryd.func7, Tryd.ntmps7
  go_upto_region 3 with (first | (go_at_call 17; (with_reducible refine (CA.out _ HS.out.tabs HS.out.six').mono ?_); rintro e w3 ⟨rfl, hb⟩; have HS := mkHid (HS.out.next hb); have Hu := mkHid (Hu.out.grows hb); have HS := mkHid (HS.out.alloc (.cells #[.int .u64 (la : Int), .string ka, .int .u64 (lza : Int), .string kza] 26)); have Hu := mkHid (Hu.out.alloc (.cells #[.int .u64 (la : Int), .string ka, .int .u64 (lza : Int), .string kza] 26)); have Ha := mkHid (At4.new w3 w3.heap.size la ka lza kza rfl); clear hb; obtain ⟨u0, u1⟩ := Hu.out; obtain ⟨⟨a0, a1, a2, a3⟩, -⟩ := Ha.out) | (go_at_call 22; (with_reducible refine (CT.out _ HS.out.tabs HS.out.six').mono ?_); rintro e w6 ⟨rfl, hb⟩; have HS := mkHid (HS.out.next hb); have Hu := mkHid (Hu.out.grows hb); have Ha := mkHid (Ha.out.grows hb); clear hb; obtain ⟨u0, u1⟩ := Hu.out; obtain ⟨⟨a0, a1, a2, a3⟩, -⟩ := Ha.out) | (go_at_call 25; (with_reducible refine (CR.out _ HS.out.tabs HS.out.six').mono ?_); rintro e w4 ⟨rfl, hb⟩; have HS := mkHid (HS.out.next hb); have Hu := mkHid (Hu.out.grows hb); have Ha := mkHid (Ha.out.grows hb); have HS := mkHid (HS.out.alloc (.cells #[.int .u64 (la : Int), .string ka, .int .u64 (lza : Int), .string kza] 26)); have Hu := mkHid (Hu.out.alloc (.cells #[.int .u64 (la : Int), .string ka, .int .u64 (lza : Int), .string kza] 26)); have Ha := mkHid (Ha.out.alloc (.cells #[.int .u64 (la : Int), .string ka, .int .u64 (lza : Int), .string kza] 26)); have Hb := mkHid (At4.new w4 w4.heap.size la ka lza kza rfl); clear hb; obtain ⟨u0, u1⟩ := Hu.out; obtain ⟨⟨a0, a1, a2, a3⟩, -⟩ := Ha.out; obtain ⟨⟨b0, b1, b2, b3⟩, -⟩ := Hb.out))
  generalize w4.alloc (.cells #[.int .u64 (la : Int), .string ka, .int .u64 (lza : Int), .string kza] 26) = w6 at *
  have hsn := HS.out
  obtain ⟨B0, hB0⟩ : ∃ n, n = w6.heap.size := ⟨_, rfl⟩
  have hz6 : B0 ≤ w6.heap.size := by omega
  have hW0 : W.heap.size ≤ B0 := by rw [hB0]; exact hsn.size
  have hlu : W.heap.size < B0 := by rw [hB0]; exact Hu.out.lt
  have hla : w3.heap.size < B0 := by rw [hB0]; exact Ha.out.lt
  have hlb : w4.heap.size < B0 := by rw [hB0]; exact Hb.out.lt
  obtain ⟨⟨a0, a1, a2, a3⟩, -⟩ := Ha.out
  have HZ := mkHid (Zs.nil w6)
  go_cut [6] (fun v6 wx => ∃ jg : Nat, v6 = .pointer (some ⟨jg, 0, none⟩) ∧ B0 ≤ jg ∧ Hid (At2 wx jg l1 k1) ∧ Hid (St W wx ∧ AtV wx (W.heap.size) x1 x2 ∧ At4 wx (w3.heap.size) la ka lza kza ∧ At4 wx (w4.heap.size) la ka lza kza))
  case first =>
    go_region_held3 (fun X => St W X ∧ AtV X (W.heap.size) x1 x2 ∧ At4 X (w3.heap.size) la ka lza kza ∧ At4 X (w4.heap.size) la ka lza kza ∧ X.cell? ⟨w3.heap.size, 0, none⟩ = some (.int .u64 (la : Int)) ∧ X.cell? ⟨w3.heap.size, 1, none⟩ = some (.string ka) ∧ X.cell? ⟨w3.heap.size, 2, none⟩ = some (.int .u64 (lza : Int)) ∧ X.cell? ⟨w3.heap.size, 3, none⟩ = some (.string kza))
      (first
        | (with_reducible exact ⟨hS.1.next hb, hS.2.1.grows hb, hS.2.2.1.grows hb, hS.2.2.2.1.grows hb, St.cell hb hS.2.2.2.2.1, St.cell hb hS.2.2.2.2.2.1, St.cell hb hS.2.2.2.2.2.2.1, St.cell hb hS.2.2.2.2.2.2.2⟩)
        | (have hT : St W _ ∧ _ := (by assumption); with_reducible exact ⟨(hT.1).alloc _, (hT.2.1).alloc _, (hT.2.2.1).alloc _, (hT.2.2.2.1).alloc _, cellAl (hT.2.2.2.2.1) _, cellAl (hT.2.2.2.2.2.1) _, cellAl (hT.2.2.2.2.2.2.1) _, cellAl (hT.2.2.2.2.2.2.2) _⟩)
        | (with_reducible exact ⟨(hS.1.next hb).alloc _, (hS.2.1.grows hb).alloc _, (hS.2.2.1.grows hb).alloc _, (hS.2.2.2.1.grows hb).alloc _, cellAl (St.cell hb hS.2.2.2.2.1) _, cellAl (St.cell hb hS.2.2.2.2.2.1) _, cellAl (St.cell hb hS.2.2.2.2.2.2.1) _, cellAl (St.cell hb hS.2.2.2.2.2.2.2) _⟩)
        | (have hT : St W _ ∧ _ := (by assumption); exact ⟨(hT.1).set2 (by omega) _ _, (hT.2.1).set2 (by omega) _ _, (hT.2.2.1).set2 (by omega) _ _, (hT.2.2.2.1).set2 (by omega) _ _, cellSet2 (hT.2.2.2.2.1) (by omega) _ _, cellSet2 (hT.2.2.2.2.2.1) (by omega) _ _, cellSet2 (hT.2.2.2.2.2.2.1) (by omega) _ _, cellSet2 (hT.2.2.2.2.2.2.2) (by omega) _ _⟩)
        | exact ⟨hsn.drew, Hu.out.drew, Ha.out.drew, Hb.out.drew, a0, a1, a2, a3⟩
        | exact ⟨((hsn).alloc _).drew, ((Hu.out).alloc _).drew, ((Ha.out).alloc _).drew, ((Hb.out).alloc _).drew, cellAl (a0) _, cellAl (a1) _, cellAl (a2) _, cellAl (a3) _⟩)
      (first
        | (go_at_call 27; have hS : St W _ ∧ _ := (by assumption); (with_reducible refine (CN.out _ hS.1.tabs hS.1.six').mono ?_); rintro e w6 ⟨rfl, hb⟩; (first | (have hz := (HZ.out.box).next hb; (try simp only [World.size_alloc] at hz); have HZ := mkHid hz; clear hz) | (have hz := (HZ.out).next hb; (try simp only [World.size_alloc] at hz); have HZ := mkHid hz; clear hz) | (have hz := (HZ.out.box.drew).next hb; (try simp only [World.size_alloc] at hz); have HZ := mkHid hz; clear hz) | (have hz := (HZ.out.drew).next hb; (try simp only [World.size_alloc] at hz); have HZ := mkHid hz; clear hz) ); (try obtain ⟨za0, za1, za2, za3⟩ := HZ.out _ (.head _)); have h9 := hb.size; (try simp at h9); have hz6 : B0 ≤ w6.heap.size := (by have h8 := hz6; omega))
        | (go_at_call 28; have hS : St W _ ∧ _ := (by assumption); (with_reducible refine (CD.out _ hS.1.tabs hS.1.six').mono ?_); rintro e w6 ⟨rfl, hb⟩; (first | (have hz := (HZ.out.box).next hb; (try simp only [World.size_alloc] at hz); have HZ := mkHid hz; clear hz) | (have hz := (HZ.out).next hb; (try simp only [World.size_alloc] at hz); have HZ := mkHid hz; clear hz) | (have hz := (HZ.out.box.drew).next hb; (try simp only [World.size_alloc] at hz); have HZ := mkHid hz; clear hz) | (have hz := (HZ.out.drew).next hb; (try simp only [World.size_alloc] at hz); have HZ := mkHid hz; clear hz) ); (try obtain ⟨za0, za1, za2, za3⟩ := HZ.out _ (.head _)); have h9 := hb.size; (try simp at h9); have hz6 : B0 ≤ w6.heap.size := (by have h8 := hz6; omega))
        | (go_at_call 26; have hS : St W _ ∧ _ := (by assumption); (with_reducible refine (CG.out _ hS.1.tabs hS.1.six').mono ?_); rintro e w6 ⟨rfl, hb⟩; (first | (have hz := (HZ.out.box).next hb; (try simp only [World.size_alloc] at hz); have HZ := mkHid hz; clear hz) | (have hz := (HZ.out).next hb; (try simp only [World.size_alloc] at hz); have HZ := mkHid hz; clear hz) | (have hz := (HZ.out.box.drew).next hb; (try simp only [World.size_alloc] at hz); have HZ := mkHid hz; clear hz) | (have hz := (HZ.out.drew).next hb; (try simp only [World.size_alloc] at hz); have HZ := mkHid hz; clear hz) ); (try obtain ⟨za0, za1, za2, za3⟩ := HZ.out _ (.head _)); have h9 := hb.size; (try simp at h9); have hz6 : B0 ≤ w6.heap.size := (by have h8 := hz6; omega)))
    all_goals
      have hT : St W _ ∧ _ := (by assumption)
      have HT := mkHid hT
      clear hT
      go_wp2_with fail
      go_meet
      refine ⟨_, rfl, (by (first | omega | (simp; omega) | simp | (have := (HZ.out _ (.head _)).lt; omega) | (have := (HZ.out _ (.head _)).lt; have := (HZ.out _ (.tail _ (.head _))).lt; omega))), mkHid ?_, mkHid ⟨HT.out.1, HT.out.2.1, HT.out.2.2.1, HT.out.2.2.2.1⟩⟩
      first
        | (with_reducible exact At2.new _ _ l1 k1 (by simp))
        | (with_reducible exact At2.set (Zs.h1 HZ.out) l1 k1)
        | (with_reducible exact At2.set (At2.new _ _ 0 ⟨#[]⟩ rfl) l1 k1)
  case rest =>
  clear hsn HZ HS Hu Ha Hb a0 a1 a2 a3
  obtain ⟨jg, rfl, hjg, HN, HO⟩ := hcut
  have Hg := mkHid HN.out
  have HS := mkHid HO.out.1
  have Hu := mkHid HO.out.2.1
  have Ha := mkHid HO.out.2.2.1
  have Hb := mkHid HO.out.2.2.2
  clear HN HO hB0 hz6 hW0 hlu hla hlb hjg
  clear B0
  obtain ⟨u0, u1⟩ := Hu.out
  obtain ⟨⟨a0, a1, a2, a3⟩, -⟩ := Ha.out
  obtain ⟨⟨b0, b1, b2, b3⟩, -⟩ := Hb.out
  obtain ⟨g0, g1, -, -⟩ := Hg.out
  go_upto_region 4 with (fail)
  obtain ⟨w6, hw6⟩ : ∃ x, x = wc := ⟨_, rfl⟩
  subst hw6
  have hsn := HS.out
  obtain ⟨B0, hB0⟩ : ∃ n, n = w6.heap.size := ⟨_, rfl⟩
  have hz6 : B0 ≤ w6.heap.size := by omega
  have hW0 : W.heap.size ≤ B0 := by rw [hB0]; exact hsn.size
  have hlu : W.heap.size < B0 := by rw [hB0]; exact Hu.out.lt
  have hla : w3.heap.size < B0 := by rw [hB0]; exact Ha.out.lt
  have hlb : w4.heap.size < B0 := by rw [hB0]; exact Hb.out.lt
  have hlg : jg < B0 := by rw [hB0]; exact Hg.out.lt
  obtain ⟨⟨a0, a1, a2, a3⟩, -⟩ := Ha.out
  have HZ := mkHid (Zq.nil w6)
  go_cut [7, 8] (fun v7 v8 wx => ∃ jc : Nat, v7 = .pointer (some ⟨jc, 0, none⟩) ∧ v8 = .bool true ∧ B0 ≤ jc ∧ Hid (At4 wx jc la ka lza kza) ∧ Hid (St W wx ∧ AtV wx (W.heap.size) x1 x2 ∧ At4 wx (w3.heap.size) la ka lza kza ∧ At4 wx (w4.heap.size) la ka lza kza ∧ At2 wx (jg) l1 k1))
  case first =>
    go_region_held3 (fun X => St W X ∧ AtV X (W.heap.size) x1 x2 ∧ At4 X (w3.heap.size) la ka lza kza ∧ At4 X (w4.heap.size) la ka lza kza ∧ At2 X (jg) l1 k1 ∧ X.cell? ⟨w3.heap.size, 0, none⟩ = some (.int .u64 (la : Int)) ∧ X.cell? ⟨w3.heap.size, 1, none⟩ = some (.string ka) ∧ X.cell? ⟨w3.heap.size, 2, none⟩ = some (.int .u64 (lza : Int)) ∧ X.cell? ⟨w3.heap.size, 3, none⟩ = some (.string kza))
      (first
        | (with_reducible exact ⟨hS.1.next hb, hS.2.1.grows hb, hS.2.2.1.grows hb, hS.2.2.2.1.grows hb, hS.2.2.2.2.1.grows hb, St.cell hb hS.2.2.2.2.2.1, St.cell hb hS.2.2.2.2.2.2.1, St.cell hb hS.2.2.2.2.2.2.2.1, St.cell hb hS.2.2.2.2.2.2.2.2⟩)
        | (have hT : St W _ ∧ _ := (by assumption); with_reducible exact ⟨(hT.1).alloc _, (hT.2.1).alloc _, (hT.2.2.1).alloc _, (hT.2.2.2.1).alloc _, (hT.2.2.2.2.1).alloc _, cellAl (hT.2.2.2.2.2.1) _, cellAl (hT.2.2.2.2.2.2.1) _, cellAl (hT.2.2.2.2.2.2.2.1) _, cellAl (hT.2.2.2.2.2.2.2.2) _⟩)
        | (with_reducible exact ⟨(hS.1.next hb).alloc _, (hS.2.1.grows hb).alloc _, (hS.2.2.1.grows hb).alloc _, (hS.2.2.2.1.grows hb).alloc _, (hS.2.2.2.2.1.grows hb).alloc _, cellAl (St.cell hb hS.2.2.2.2.2.1) _, cellAl (St.cell hb hS.2.2.2.2.2.2.1) _, cellAl (St.cell hb hS.2.2.2.2.2.2.2.1) _, cellAl (St.cell hb hS.2.2.2.2.2.2.2.2) _⟩)
        | (have hT : St W _ ∧ _ := (by assumption); exact ⟨(hT.1).set4 (by omega) _ _ _ _, (hT.2.1).set4 (by omega) _ _ _ _, (hT.2.2.1).set4 (by omega) _ _ _ _, (hT.2.2.2.1).set4 (by omega) _ _ _ _, (hT.2.2.2.2.1).set4 (by omega) _ _ _ _, set4_other (hT.2.2.2.2.2.1) (by omega) _ _ _ _, set4_other (hT.2.2.2.2.2.2.1) (by omega) _ _ _ _, set4_other (hT.2.2.2.2.2.2.2.1) (by omega) _ _ _ _, set4_other (hT.2.2.2.2.2.2.2.2) (by omega) _ _ _ _⟩)
        | exact ⟨hsn.drew, Hu.out.drew, Ha.out.drew, Hb.out.drew, Hg.out.drew, a0, a1, a2, a3⟩
        | exact ⟨((hsn).alloc _).drew, ((Hu.out).alloc _).drew, ((Ha.out).alloc _).drew, ((Hb.out).alloc _).drew, ((Hg.out).alloc _).drew, cellAl (a0) _, cellAl (a1) _, cellAl (a2) _, cellAl (a3) _⟩)
      (first
        | (go_at_call 27; have hS : St W _ ∧ _ := (by assumption); (with_reducible refine (CN.out _ hS.1.tabs hS.1.six').mono ?_); rintro e w6 ⟨rfl, hb⟩; (first | (have hz := (HZ.out.box).next hb; (try simp only [World.size_alloc] at hz); have HZ := mkHid hz; clear hz) | (have hz := (HZ.out).next hb; (try simp only [World.size_alloc] at hz); have HZ := mkHid hz; clear hz) | (have hz := (HZ.out.box.drew).next hb; (try simp only [World.size_alloc] at hz); have HZ := mkHid hz; clear hz) | (have hz := (HZ.out.drew).next hb; (try simp only [World.size_alloc] at hz); have HZ := mkHid hz; clear hz) ); (try obtain ⟨⟨za0, za1, za2, za3⟩, za4, za5, za6, za7⟩ := HZ.out _ (.head _)); have h9 := hb.size; (try simp at h9); have hz6 : B0 ≤ w6.heap.size := (by have h8 := hz6; omega))
        | (go_at_call 28; have hS : St W _ ∧ _ := (by assumption); (with_reducible refine (CD.out _ hS.1.tabs hS.1.six').mono ?_); rintro e w6 ⟨rfl, hb⟩; (first | (have hz := (HZ.out.box).next hb; (try simp only [World.size_alloc] at hz); have HZ := mkHid hz; clear hz) | (have hz := (HZ.out).next hb; (try simp only [World.size_alloc] at hz); have HZ := mkHid hz; clear hz) | (have hz := (HZ.out.box.drew).next hb; (try simp only [World.size_alloc] at hz); have HZ := mkHid hz; clear hz) | (have hz := (HZ.out.drew).next hb; (try simp only [World.size_alloc] at hz); have HZ := mkHid hz; clear hz) ); (try obtain ⟨⟨za0, za1, za2, za3⟩, za4, za5, za6, za7⟩ := HZ.out _ (.head _)); have h9 := hb.size; (try simp at h9); have hz6 : B0 ≤ w6.heap.size := (by have h8 := hz6; omega))
        | (go_at_call 9; have hS : St W _ ∧ _ := (by assumption); (with_reducible refine (CW2.out _ hS.1.tabs hS.1.six').mono ?_); rintro e w6 ⟨rfl, hb⟩; (first | (have hz := (HZ.out.box).next hb; (try simp only [World.size_alloc] at hz); have HZ := mkHid hz; clear hz) | (have hz := (HZ.out).next hb; (try simp only [World.size_alloc] at hz); have HZ := mkHid hz; clear hz) | (have hz := (HZ.out.box.drew).next hb; (try simp only [World.size_alloc] at hz); have HZ := mkHid hz; clear hz) | (have hz := (HZ.out.drew).next hb; (try simp only [World.size_alloc] at hz); have HZ := mkHid hz; clear hz) ); (try obtain ⟨⟨za0, za1, za2, za3⟩, za4, za5, za6, za7⟩ := HZ.out _ (.head _)); have h9 := hb.size; (try simp at h9); have hz6 : B0 ≤ w6.heap.size := (by have h8 := hz6; omega)))
    all_goals
      have hT : St W _ ∧ _ := (by assumption)
      have HT := mkHid hT
      clear hT
      go_wp2_with fail
      go_meet
      refine ⟨_, rfl, rfl, (by (first | omega | (simp; omega) | simp | (have := (HZ.out _ (.head _)).lt; omega) | (have := (HZ.out _ (.head _)).lt; have := (HZ.out _ (.tail _ (.head _))).lt; omega))), mkHid ?_, mkHid ⟨HT.out.1, HT.out.2.1, HT.out.2.2.1, HT.out.2.2.2.1, HT.out.2.2.2.2.1⟩⟩
      first
        | (with_reducible exact At4.new _ _ la ka lza kza (by simp))
        | (with_reducible exact At4.set (Zq.h1 HZ.out) la ka lza kza)
        | (with_reducible exact At4.set (At4.new _ _ 0 ⟨#[]⟩ 0 ⟨#[]⟩ rfl) la ka lza kza)
  case rest =>
  clear hsn HZ HS Hu Ha Hb Hg a0 a1 a2 a3
  obtain ⟨jc, rfl, rfl, hjc, HN, HO⟩ := hcut
  have Hc := mkHid HN.out
  have HS := mkHid HO.out.1
  have Hu := mkHid HO.out.2.1
  have Ha := mkHid HO.out.2.2.1
  have Hb := mkHid HO.out.2.2.2.1
  have Hg := mkHid HO.out.2.2.2.2
  clear HN HO hB0 hz6 hW0 hlu hla hlb hlg hjc
  clear B0
  obtain ⟨u0, u1⟩ := Hu.out
  obtain ⟨⟨a0, a1, a2, a3⟩, -⟩ := Ha.out
  obtain ⟨⟨b0, b1, b2, b3⟩, -⟩ := Hb.out
  obtain ⟨g0, g1, -, -⟩ := Hg.out
  obtain ⟨⟨c0, c1, c2, c3⟩, -⟩ := Hc.out
  go_wp2_with (first | (go_at_call 18; (with_reducible refine (CE.out _ HS.out.tabs HS.out.six').mono ?_); rintro e w6 ⟨rfl, hb⟩; have HS := mkHid (HS.out.next hb); have Hu := mkHid (Hu.out.grows hb); have Ha := mkHid (Ha.out.grows hb); have Hb := mkHid (Hb.out.grows hb); have Hg := mkHid (Hg.out.grows hb); have Hc := mkHid (Hc.out.grows hb); clear hb; obtain ⟨u0, u1⟩ := Hu.out; obtain ⟨⟨a0, a1, a2, a3⟩, -⟩ := Ha.out; obtain ⟨⟨b0, b1, b2, b3⟩, -⟩ := Hb.out; obtain ⟨g0, g1, -, -⟩ := Hg.out; obtain ⟨⟨c0, c1, c2, c3⟩, -⟩ := Hc.out) | (go_at_call 24; (with_reducible refine (CC.out _ HS.out.tabs HS.out.six').mono ?_); rintro e w6 ⟨rfl, hb⟩; have HS := mkHid (HS.out.next hb); have Hu := mkHid (Hu.out.grows hb); have Ha := mkHid (Ha.out.grows hb); have Hb := mkHid (Hb.out.grows hb); have Hg := mkHid (Hg.out.grows hb); have Hc := mkHid (Hc.out.grows hb); clear hb; obtain ⟨u0, u1⟩ := Hu.out; obtain ⟨⟨a0, a1, a2, a3⟩, -⟩ := Ha.out; obtain ⟨⟨b0, b1, b2, b3⟩, -⟩ := Hb.out; obtain ⟨g0, g1, -, -⟩ := Hg.out; obtain ⟨⟨c0, c1, c2, c3⟩, -⟩ := Hc.out) | (go_at_call 29; (with_reducible refine (C1.out _ HS.out.tabs HS.out.six').mono ?_); rintro e w6 ⟨rfl, hb⟩; have HS := mkHid (HS.out.next hb); have Hu := mkHid (Hu.out.grows hb); have Ha := mkHid (Ha.out.grows hb); have Hb := mkHid (Hb.out.grows hb); have Hg := mkHid (Hg.out.grows hb); have Hc := mkHid (Hc.out.grows hb); clear hb; obtain ⟨u0, u1⟩ := Hu.out; obtain ⟨⟨a0, a1, a2, a3⟩, -⟩ := Ha.out; obtain ⟨⟨b0, b1, b2, b3⟩, -⟩ := Hb.out; obtain ⟨g0, g1, -, -⟩ := Hg.out; obtain ⟨⟨c0, c1, c2, c3⟩, -⟩ := Hc.out) | (go_at_call 16; (with_reducible refine (CW.out _ HS.out.tabs HS.out.six').mono ?_); rintro e w6 ⟨rfl, hb⟩; have HS := mkHid (HS.out.next hb); have Hu := mkHid (Hu.out.grows hb); have Ha := mkHid (Ha.out.grows hb); have Hb := mkHid (Hb.out.grows hb); have Hg := mkHid (Hg.out.grows hb); have Hc := mkHid (Hc.out.grows hb); clear hb; obtain ⟨u0, u1⟩ := Hu.out; obtain ⟨⟨a0, a1, a2, a3⟩, -⟩ := Ha.out; obtain ⟨⟨b0, b1, b2, b3⟩, -⟩ := Hb.out; obtain ⟨g0, g1, -, -⟩ := Hg.out; obtain ⟨⟨c0, c1, c2, c3⟩, -⟩ := Hc.out))
  go_ret
  exact ⟨rfl, HS.out.below⟩

theorem ratTexts_any (x1 x2 : ByteArray) (w : World) (ht : Tabs w) (h6 : 6 ≤ w.heap.size) :
    Calls Tryd.prog 7 #[.agg #[.string x1, .string x2]] w fun e w' => e = .returned (.bool true) ∧ Below w.heap.size w w' := by
  obtain ⟨n, d, h⟩ := taken x1 x2
  have CA := vrat_g x1 x2 n d h
  have l1 := h.lo
  have w1 := h.kw
  generalize rn n (pos1 d) = p1 at *
  generalize rd n (pos1 d) = q1 at *
  have k1 := w1.kb (by omega)
  have n1 := D.nDigits_words 8 p1 w1.1
  have n2 := D.nDigits_words 8 q1 w1.2
  have CG := gcd_g p1 q1 k1.num k1.den
  rw [show Nat.gcd p1 q1 = 1 from l1.2] at CG
  have CN := new_pos p1 q1 k1.num k1.den (by have := l1.1; omega)
  rw [(lo_self l1).1, (lo_self l1).2] at CN
  have CC := qcmp_raw p1 q1 p1 q1 l1.1 l1.1 k1 k1
  rw [show Lib.compareInt ((p1 * q1 : Nat) : Int) ((p1 * q1 : Nat) : Int) = 0 by unfold Lib.compareInt; simp] at CC
  have C1 := text_g 1 (sm_word (by decide))
  rw [← ds_eq, ds_1] at C1
  exact texts_raw x1 x2 p1 q1 _ CA (rtext_g p1 q1 k1.num k1.den (by have := l1.1; omega)) (read_tx p1 q1 l1 (by omega) (by omega)) (num_g p1 q1) (den_g p1 q1 l1.1) CG CN (equal_same p1 q1 k1.num k1.den (by have := l1.1; omega)) CC C1 w ht h6
end Go.Proofs.YtflcdpolfimggaaDoor
