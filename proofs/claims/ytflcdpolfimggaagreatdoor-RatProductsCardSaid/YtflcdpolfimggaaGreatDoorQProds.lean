/- Package rat: RatProducts. -/
import Derived.Test.YtflcdpolfimggaaGreatDoorQY
namespace Go.Proofs.YtflcdpolfimggaaGreatDoor
open Go.RowKit Q SD

theorem nd_of {k p q : Nat} (h : Kw k p q) (hk : k ≤ 200) : Lib.nDigits p ≤ 5000 ∧ Lib.nDigits q ≤ 5000 := by
  have a := nd_kw h.1
  have b := nd_kw h.2
  omega
theorem sm_of {k n : Nat} (h : n < M.B ^ k) (hk : k ≤ 900) : Sm n := sm_pow h hk

set_option maxRecDepth 100000 in
set_option maxHeartbeats 64000000 in
theorem products_raw (x1 x2 y1 y2 : ByteArray) (pa qa pb qb pd qd ps qs : Nat) (ok : Bool)
    (CA : Gives 12 #[.agg #[.string x1, .string x2]] (rv pa qa)) (CB : Gives 12 #[.agg #[.string y1, .string y2]] (rv pb qb))
    (RA : Says 15 #[.agg #[.string x1, .string x2]] (sv pa qa)) (RB : Says 15 #[.agg #[.string y1, .string y2]] (sv pb qb))
    (CD : Gives 20 #[rv pa qa, rv pb qb] (.tuple #[rv pd qd, .bool ok])) (RD : Says 21 #[sv pa qa, sv pb qb] (.tuple #[sv pd qd, .bool ok]))
    (CS : Gives 22 #[rv pa qa, rv pb qb] (rv ps qs)) (RS : Says 23 #[sv pa qa, sv pb qb] (sv ps qs))
    
    (SS : Gives 11 #[rv ps qs, sv ps qs] (.bool true)) (SD : Gives 11 #[rv pd qd, sv pd qd] (.bool true)) :
    Gives 5 #[.agg #[.string x1, .string x2], .agg #[.string y1, .string y2]] (.bool true) := by
  intro W ht h6
  have CW := mkHid rworks_g
  unfold rv sv at *
  generalize lo (dz qs) = lzs at *
  generalize hi (dz qs) = kzs at *
  generalize lo (dz qd) = lzd at *
  generalize hi (dz qd) = kzd at *
  generalize lo (dz qa) = lza at *
  generalize hi (dz qa) = kza at *
  generalize lo (dz qb) = lzb at *
  generalize hi (dz qb) = kzb at *
  generalize lo (ps) = ls at *
  generalize hi (ps) = ks at *
  generalize lo (pd) = ld at *
  generalize hi (pd) = kd at *
  generalize lo (pa) = la at *
  generalize hi (pa) = ka at *
  generalize lo (pb) = lb at *
  generalize hi (pb) = kb at *
  generalize ds pa = tpa at *
  generalize ds qa = tqa at *
  generalize ds pb = tpb at *
  generalize ds qb = tqb at *
  generalize ds pd = tpd at *
  generalize ds qd = tqd at *
  generalize ds ps = tps at *
  generalize ds qs = tqs at *
  replace CA := mkHid CA
  replace CB := mkHid CB
  replace RA := mkHid RA
  replace RB := mkHid RB
  replace CD := mkHid CD
  replace RD := mkHid RD
  replace CS := mkHid CS
  replace RS := mkHid RS
  replace SS := mkHid SS
  replace SD := mkHid SD
  have HS := mkHid (((St.refl ht h6).alloc (.cells #[.string x1, .string x2] 37)).alloc (.cells #[.string y1, .string y2] 37))
  have Hu := mkHid ((AtV.new W W.heap.size x1 x2 rfl).alloc (.cells #[.string y1, .string y2] 37))
  have Hv := mkHid (AtV.new (W.alloc (.cells #[.string x1, .string x2] 37)) (W.heap.size + 1) y1 y2 (by simp))
  clear ht h6
  go_enter Tryz.func5, Tryz.ntmps5
  go_upto_region 1 with (fail)
  generalize ((W.alloc (.cells #[.string x1, .string x2] 37)).alloc (.cells #[.string y1, .string y2] 37)) = w6 at *
  have hsn := HS.out
  obtain ⟨B0, hB0⟩ : ∃ n, n = w6.heap.size := ⟨_, rfl⟩
  have hz6 : B0 ≤ w6.heap.size := by omega
  have hW0 : W.heap.size ≤ B0 := by rw [hB0]; exact hsn.size
  have hlu : W.heap.size < B0 := by rw [hB0]; exact Hu.out.lt
  have hlv : W.heap.size + 1 < B0 := by rw [hB0]; exact Hv.out.lt
  obtain ⟨u0, u1⟩ := Hu.out
  obtain ⟨v0, v1⟩ := Hv.out
  have HZ := mkHid (Zq.nil w6)
  go_cut [5, 6] (fun v5 v6 wx => ∃ ja jb : Nat, v5 = .pointer (some ⟨ja, 0, none⟩) ∧ v6 = .pointer (some ⟨jb, 0, none⟩) ∧ B0 ≤ ja ∧ B0 ≤ jb ∧ Hid (At4 wx ja la ka lza kza ∧ At4 wx jb lb kb lzb kzb) ∧ Hid (St W wx ∧ AtV wx (W.heap.size) x1 x2 ∧ AtV wx (W.heap.size + 1) y1 y2))
  case first =>
    go_region_held3 (fun X => St W X ∧ AtV X (W.heap.size) x1 x2 ∧ AtV X (W.heap.size + 1) y1 y2 ∧ X.cell? ⟨W.heap.size, 0, none⟩ = some (.string x1) ∧ X.cell? ⟨W.heap.size, 1, none⟩ = some (.string x2) ∧ X.cell? ⟨W.heap.size + 1, 0, none⟩ = some (.string y1) ∧ X.cell? ⟨W.heap.size + 1, 1, none⟩ = some (.string y2))
      (first
        | (with_reducible exact ⟨hS.1.next hb, hS.2.1.grows hb, hS.2.2.1.grows hb, St.cell hb hS.2.2.2.1, St.cell hb hS.2.2.2.2.1, St.cell hb hS.2.2.2.2.2.1, St.cell hb hS.2.2.2.2.2.2⟩)
        | (have hT : St W _ ∧ _ := (by assumption); with_reducible exact ⟨(hT.1).alloc _, (hT.2.1).alloc _, (hT.2.2.1).alloc _, cellAl (hT.2.2.2.1) _, cellAl (hT.2.2.2.2.1) _, cellAl (hT.2.2.2.2.2.1) _, cellAl (hT.2.2.2.2.2.2) _⟩)
        | (with_reducible exact ⟨(hS.1.next hb).alloc _, (hS.2.1.grows hb).alloc _, (hS.2.2.1.grows hb).alloc _, cellAl (St.cell hb hS.2.2.2.1) _, cellAl (St.cell hb hS.2.2.2.2.1) _, cellAl (St.cell hb hS.2.2.2.2.2.1) _, cellAl (St.cell hb hS.2.2.2.2.2.2) _⟩)
        | (with_reducible exact ⟨((hS.1.next hb).alloc _).alloc _, ((hS.2.1.grows hb).alloc _).alloc _, ((hS.2.2.1.grows hb).alloc _).alloc _, cellAl (cellAl (St.cell hb hS.2.2.2.1) _) _, cellAl (cellAl (St.cell hb hS.2.2.2.2.1) _) _, cellAl (cellAl (St.cell hb hS.2.2.2.2.2.1) _) _, cellAl (cellAl (St.cell hb hS.2.2.2.2.2.2) _) _⟩)
        | (have hT : St W _ ∧ _ := (by assumption); exact ⟨(hT.1).set4 (by omega) _ _ _ _, (hT.2.1).set4 (by omega) _ _ _ _, (hT.2.2.1).set4 (by omega) _ _ _ _, set4_other (hT.2.2.2.1) (by omega) _ _ _ _, set4_other (hT.2.2.2.2.1) (by omega) _ _ _ _, set4_other (hT.2.2.2.2.2.1) (by omega) _ _ _ _, set4_other (hT.2.2.2.2.2.2) (by omega) _ _ _ _⟩)
        | exact ⟨hsn.drew, Hu.out.drew, Hv.out.drew, u0, u1, v0, v1⟩
        | exact ⟨((hsn).alloc _).drew, ((Hu.out).alloc _).drew, ((Hv.out).alloc _).drew, cellAl (u0) _, cellAl (u1) _, cellAl (v0) _, cellAl (v1) _⟩
        | exact ⟨(((hsn).alloc _).alloc _).drew, (((Hu.out).alloc _).alloc _).drew, (((Hv.out).alloc _).alloc _).drew, cellAl (cellAl (u0) _) _, cellAl (cellAl (u1) _) _, cellAl (cellAl (v0) _) _, cellAl (cellAl (v1) _) _⟩)
      (first
        | (go_at_call 12; have hS : St W _ ∧ _ := (by assumption); (with_reducible refine (CA.out _ hS.1.tabs hS.1.six').mono ?_); rintro e w6 ⟨rfl, hb⟩; (first | (have hz := (HZ.out.box.box).next hb; (try simp only [World.size_alloc] at hz); have HZ := mkHid hz; clear hz) | (have hz := (HZ.out.box).next hb; (try simp only [World.size_alloc] at hz); have HZ := mkHid hz; clear hz) | (have hz := (HZ.out).next hb; (try simp only [World.size_alloc] at hz); have HZ := mkHid hz; clear hz) | (have hz := (HZ.out.box.box.drew).next hb; (try simp only [World.size_alloc] at hz); have HZ := mkHid hz; clear hz) | (have hz := (HZ.out.box.drew).next hb; (try simp only [World.size_alloc] at hz); have HZ := mkHid hz; clear hz) | (have hz := (HZ.out.drew).next hb; (try simp only [World.size_alloc] at hz); have HZ := mkHid hz; clear hz) ); (try obtain ⟨⟨za0, za1, za2, za3⟩, za4, za5, za6, za7⟩ := HZ.out _ (.head _)); (try obtain ⟨⟨zb0, zb1, zb2, zb3⟩, zb4, zb5, zb6, zb7⟩ := HZ.out _ (.tail _ (.head _))); have h9 := hb.size; (try simp at h9); have hz6 : B0 ≤ w6.heap.size := (by have h8 := hz6; omega))
        | (go_at_call 12; have hS : St W _ ∧ _ := (by assumption); (with_reducible refine (CB.out _ hS.1.tabs hS.1.six').mono ?_); rintro e w6 ⟨rfl, hb⟩; (first | (have hz := (HZ.out.box.box).next hb; (try simp only [World.size_alloc] at hz); have HZ := mkHid hz; clear hz) | (have hz := (HZ.out.box).next hb; (try simp only [World.size_alloc] at hz); have HZ := mkHid hz; clear hz) | (have hz := (HZ.out).next hb; (try simp only [World.size_alloc] at hz); have HZ := mkHid hz; clear hz) | (have hz := (HZ.out.box.box.drew).next hb; (try simp only [World.size_alloc] at hz); have HZ := mkHid hz; clear hz) | (have hz := (HZ.out.box.drew).next hb; (try simp only [World.size_alloc] at hz); have HZ := mkHid hz; clear hz) | (have hz := (HZ.out.drew).next hb; (try simp only [World.size_alloc] at hz); have HZ := mkHid hz; clear hz) ); (try obtain ⟨⟨za0, za1, za2, za3⟩, za4, za5, za6, za7⟩ := HZ.out _ (.head _)); (try obtain ⟨⟨zb0, zb1, zb2, zb3⟩, zb4, zb5, zb6, zb7⟩ := HZ.out _ (.tail _ (.head _))); have h9 := hb.size; (try simp at h9); have hz6 : B0 ≤ w6.heap.size := (by have h8 := hz6; omega); (try obtain ⟨⟨m00, m01, m02, m03⟩, m04, m05, m06, m07⟩ := (HZ.out _ (.head _)).alloc (.cells #[.int .u64 0, .string ⟨#[]⟩, .int .u64 0, .string ⟨#[]⟩] 27)); (try obtain ⟨⟨m10, m11, m12, m13⟩, m14, m15, m16, m17⟩ := (HZ.out _ (.head _)).alloc (.cells #[.int .u64 (la : Int), .string ka, .int .u64 (lza : Int), .string kza] 27)); (try obtain ⟨⟨m20, m21, m22, m23⟩, m24, m25, m26, m27⟩ := At4.setOff ((Zq.box (Zq.nil w6)) _ (.head _)) (Nat.ne_of_gt (HZ.out _ (.head _)).lt) (.int .u64 (la : Int)) (.string ka) (.int .u64 (lza : Int)) (.string kza)); (try obtain ⟨⟨m30, m31, m32, m33⟩, m34, m35, m36, m37⟩ := (HZ.out _ (.tail _ (.head _))).alloc (.cells #[.int .u64 0, .string ⟨#[]⟩, .int .u64 0, .string ⟨#[]⟩] 27)); (try obtain ⟨⟨m40, m41, m42, m43⟩, m44, m45, m46, m47⟩ := (HZ.out _ (.tail _ (.head _))).alloc (.cells #[.int .u64 (la : Int), .string ka, .int .u64 (lza : Int), .string kza] 27)); (try obtain ⟨⟨m50, m51, m52, m53⟩, m54, m55, m56, m57⟩ := At4.setOff ((Zq.box (Zq.nil w6)) _ (.head _)) (Nat.ne_of_gt (HZ.out _ (.tail _ (.head _))).lt) (.int .u64 (la : Int)) (.string ka) (.int .u64 (lza : Int)) (.string kza)); (try obtain ⟨⟨m60, m61, m62, m63⟩, m64, m65, m66, m67⟩ := At4.offOf (HZ.out _ (.head _)) (HZ.out _ (.tail _ (.head _))) (by first | omega | (simp; omega)) (.int .u64 (la : Int)) (.string ka) (.int .u64 (lza : Int)) (.string kza)); (try obtain ⟨⟨m70, m71, m72, m73⟩, m74, m75, m76, m77⟩ := At4.offOf (HZ.out _ (.tail _ (.head _))) (HZ.out _ (.head _)) (by first | omega | (simp; omega)) (.int .u64 (la : Int)) (.string ka) (.int .u64 (lza : Int)) (.string kza))))
    all_goals
      have hT : St W _ ∧ _ := (by assumption)
      have HT := mkHid hT
      clear hT
      go_wp2_with fail
      go_meet
      refine ⟨_, _, rfl, rfl, (by (first | omega | (simp; omega) | simp | (have := (HZ.out _ (.head _)).lt; omega) | (have := (HZ.out _ (.head _)).lt; have := (HZ.out _ (.tail _ (.head _))).lt; omega))), (by (first | omega | (simp; omega) | simp | (have := (HZ.out _ (.head _)).lt; omega) | (have := (HZ.out _ (.head _)).lt; have := (HZ.out _ (.tail _ (.head _))).lt; omega))), mkHid ?_, mkHid ⟨HT.out.1, HT.out.2.1, HT.out.2.2.1⟩⟩
      refine ⟨?_, ?_⟩
      · first
          | (with_reducible exact (At4.new w6 w6.heap.size la ka lza kza rfl).alloc _)
          | (with_reducible exact At4.new _ _ la ka lza kza (by simp))
          | (with_reducible exact (At4.new w6 w6.heap.size la ka lza kza rfl).setOff (by (try have g1 := (Zq.h1 HZ.out).lt); (try have g2 := (Zq.h2 HZ.out).lt); omega) _ _ _ _)
          | (with_reducible exact ((At4.set ((Zq.h1 HZ.out).alloc _) la ka lza kza)).setOff (by (try have g1 := (Zq.h1 HZ.out).lt); (try have g2 := (Zq.h2 HZ.out).lt); omega) _ _ _ _)
          | (with_reducible exact (At4.set (Zq.h1 HZ.out) la ka lza kza).setOff (by (try have g1 := (Zq.h1 HZ.out).lt); (try have g2 := (Zq.h2 HZ.out).lt); omega) _ _ _ _)
          | (with_reducible exact (At4.set ((Zq.h2 HZ.out).alloc _) la ka lza kza).setOff (by (try have g1 := (Zq.h1 HZ.out).lt); (try have g2 := (Zq.h2 HZ.out).lt); omega) _ _ _ _)
          | (with_reducible exact (At4.set (Zq.h2 HZ.out) la ka lza kza).setOff (by (try have g1 := (Zq.h1 HZ.out).lt); (try have g2 := (Zq.h2 HZ.out).lt); omega) _ _ _ _)
      · first
          | (with_reducible exact At4.new _ _ lb kb lzb kzb (by simp))
          | (with_reducible exact (At4.new w6 w6.heap.size lb kb lzb kzb rfl).alloc _)
          | (with_reducible exact At4.set ((Zq.h1 (Zq.box (Zq.nil w6))).setOff (by (try have g1 := (Zq.h1 HZ.out).lt); (try have g2 := (Zq.h2 HZ.out).lt); omega) _ _ _ _) lb kb lzb kzb)
          | (with_reducible exact At4.set ((Zq.h1 HZ.out).setOff (by (try have g1 := (Zq.h1 HZ.out).lt); (try have g2 := (Zq.h2 HZ.out).lt); omega) _ _ _ _) lb kb lzb kzb)
          | (with_reducible exact At4.set ((Zq.h1 HZ.out).alloc _) lb kb lzb kzb)
          | (with_reducible exact At4.set ((Zq.h2 HZ.out).setOff (by (try have g1 := (Zq.h1 HZ.out).lt); (try have g2 := (Zq.h2 HZ.out).lt); omega) _ _ _ _) lb kb lzb kzb)
          | (with_reducible exact At4.set ((Zq.h2 HZ.out).alloc _) lb kb lzb kzb)
  case rest =>
  clear hsn HZ HS Hu Hv u0 u1 v0 v1
  obtain ⟨ja, jb, rfl, rfl, hja, hjb, HN, HO⟩ := hcut
  have Ha := mkHid HN.out.1
  have Hb := mkHid HN.out.2
  have HS := mkHid HO.out.1
  have Hu := mkHid HO.out.2.1
  have Hv := mkHid HO.out.2.2
  clear HN HO hB0 hz6 hW0 hlu hlv hja hjb
  clear B0
  obtain ⟨u0, u1⟩ := Hu.out
  obtain ⟨v0, v1⟩ := Hv.out
  obtain ⟨⟨a0, a1, a2, a3⟩, -⟩ := Ha.out
  obtain ⟨⟨b0, b1, b2, b3⟩, -⟩ := Hb.out
  go_upto_region 3 with ((go_at_call 20; (with_reducible refine (CD.out _ HS.out.tabs HS.out.six').mono ?_); rintro e w7 ⟨rfl, hb⟩; have HS := mkHid (HS.out.next hb); have Hu := mkHid (Hu.out.grows hb); have Hv := mkHid (Hv.out.grows hb); have Ha := mkHid (Ha.out.grows hb); have Hb := mkHid (Hb.out.grows hb); have HS := mkHid (HS.out.alloc (.cells #[.int .u64 (ld : Int), .string kd, .int .u64 (lzd : Int), .string kzd] 27)); have Hu := mkHid (Hu.out.alloc (.cells #[.int .u64 (ld : Int), .string kd, .int .u64 (lzd : Int), .string kzd] 27)); have Hv := mkHid (Hv.out.alloc (.cells #[.int .u64 (ld : Int), .string kd, .int .u64 (lzd : Int), .string kzd] 27)); have Ha := mkHid (Ha.out.alloc (.cells #[.int .u64 (ld : Int), .string kd, .int .u64 (lzd : Int), .string kzd] 27)); have Hb := mkHid (Hb.out.alloc (.cells #[.int .u64 (ld : Int), .string kd, .int .u64 (lzd : Int), .string kzd] 27)); have Hd := mkHid (At4.new w7 w7.heap.size ld kd lzd kzd rfl); clear hb; obtain ⟨u0, u1⟩ := Hu.out; obtain ⟨v0, v1⟩ := Hv.out; obtain ⟨⟨a0, a1, a2, a3⟩, -⟩ := Ha.out; obtain ⟨⟨b0, b1, b2, b3⟩, -⟩ := Hb.out; obtain ⟨⟨d0, d1, d2, d3⟩, -⟩ := Hd.out))
  generalize w7.alloc (.cells #[.int .u64 (ld : Int), .string kd, .int .u64 (lzd : Int), .string kzd] 27) = w6 at *
  have hsn := HS.out
  obtain ⟨B0, hB0⟩ : ∃ n, n = w6.heap.size := ⟨_, rfl⟩
  have hz6 : B0 ≤ w6.heap.size := by omega
  have hW0 : W.heap.size ≤ B0 := by rw [hB0]; exact hsn.size
  have hlu : W.heap.size < B0 := by rw [hB0]; exact Hu.out.lt
  have hlv : W.heap.size + 1 < B0 := by rw [hB0]; exact Hv.out.lt
  have hla : ja < B0 := by rw [hB0]; exact Ha.out.lt
  have hlb : jb < B0 := by rw [hB0]; exact Hb.out.lt
  have hld : w7.heap.size < B0 := by rw [hB0]; exact Hd.out.lt
  obtain ⟨u0, u1⟩ := Hu.out
  obtain ⟨v0, v1⟩ := Hv.out
  have HZ := mkHid (Zt.nil w6)
  go_cut [9, 10] (fun v9 v10 wx => ∃ je : Nat, v9 = .pointer (some ⟨je, 0, none⟩) ∧ v10 = .bool ok ∧ B0 ≤ je ∧ Hid (AtS wx je tpd tqd) ∧ Hid (St W wx ∧ AtV wx (W.heap.size) x1 x2 ∧ AtV wx (W.heap.size + 1) y1 y2 ∧ At4 wx (ja) la ka lza kza ∧ At4 wx (jb) lb kb lzb kzb ∧ At4 wx (w7.heap.size) ld kd lzd kzd))
  case first =>
    go_region_held3 (fun X => St W X ∧ AtV X (W.heap.size) x1 x2 ∧ AtV X (W.heap.size + 1) y1 y2 ∧ At4 X (ja) la ka lza kza ∧ At4 X (jb) lb kb lzb kzb ∧ At4 X (w7.heap.size) ld kd lzd kzd ∧ X.cell? ⟨W.heap.size, 0, none⟩ = some (.string x1) ∧ X.cell? ⟨W.heap.size, 1, none⟩ = some (.string x2) ∧ X.cell? ⟨W.heap.size + 1, 0, none⟩ = some (.string y1) ∧ X.cell? ⟨W.heap.size + 1, 1, none⟩ = some (.string y2))
      (first
        | (with_reducible exact ⟨hS.1.next hb, hS.2.1.grows hb, hS.2.2.1.grows hb, hS.2.2.2.1.grows hb, hS.2.2.2.2.1.grows hb, hS.2.2.2.2.2.1.grows hb, St.cell hb hS.2.2.2.2.2.2.1, St.cell hb hS.2.2.2.2.2.2.2.1, St.cell hb hS.2.2.2.2.2.2.2.2.1, St.cell hb hS.2.2.2.2.2.2.2.2.2⟩)
        | (have hT : St W _ ∧ _ := (by assumption); with_reducible exact ⟨(hT.1).alloc _, (hT.2.1).alloc _, (hT.2.2.1).alloc _, (hT.2.2.2.1).alloc _, (hT.2.2.2.2.1).alloc _, (hT.2.2.2.2.2.1).alloc _, cellAl (hT.2.2.2.2.2.2.1) _, cellAl (hT.2.2.2.2.2.2.2.1) _, cellAl (hT.2.2.2.2.2.2.2.2.1) _, cellAl (hT.2.2.2.2.2.2.2.2.2) _⟩)
        | (with_reducible exact ⟨(hS.1.next hb).alloc _, (hS.2.1.grows hb).alloc _, (hS.2.2.1.grows hb).alloc _, (hS.2.2.2.1.grows hb).alloc _, (hS.2.2.2.2.1.grows hb).alloc _, (hS.2.2.2.2.2.1.grows hb).alloc _, cellAl (St.cell hb hS.2.2.2.2.2.2.1) _, cellAl (St.cell hb hS.2.2.2.2.2.2.2.1) _, cellAl (St.cell hb hS.2.2.2.2.2.2.2.2.1) _, cellAl (St.cell hb hS.2.2.2.2.2.2.2.2.2) _⟩)
        | (have hT : St W _ ∧ _ := (by assumption); exact ⟨(hT.1).set2 (by omega) _ _, (hT.2.1).set2 (by omega) _ _, (hT.2.2.1).set2 (by omega) _ _, (hT.2.2.2.1).set2 (by omega) _ _, (hT.2.2.2.2.1).set2 (by omega) _ _, (hT.2.2.2.2.2.1).set2 (by omega) _ _, cellSet2 (hT.2.2.2.2.2.2.1) (by omega) _ _, cellSet2 (hT.2.2.2.2.2.2.2.1) (by omega) _ _, cellSet2 (hT.2.2.2.2.2.2.2.2.1) (by omega) _ _, cellSet2 (hT.2.2.2.2.2.2.2.2.2) (by omega) _ _⟩)
        | exact ⟨hsn.drew, Hu.out.drew, Hv.out.drew, Ha.out.drew, Hb.out.drew, Hd.out.drew, u0, u1, v0, v1⟩
        | exact ⟨((hsn).alloc _).drew, ((Hu.out).alloc _).drew, ((Hv.out).alloc _).drew, ((Ha.out).alloc _).drew, ((Hb.out).alloc _).drew, ((Hd.out).alloc _).drew, cellAl (u0) _, cellAl (u1) _, cellAl (v0) _, cellAl (v1) _⟩)
      (first
        | (go_at_call 15; have hS : St W _ ∧ _ := (by assumption); (with_reducible refine (RA.out _ ).mono ?_); rintro e w6 ⟨rfl, hb⟩; (first | (have hz := (HZ.out.box).next hb; (try simp only [World.size_alloc] at hz); have HZ := mkHid hz; clear hz) | (have hz := (HZ.out).next hb; (try simp only [World.size_alloc] at hz); have HZ := mkHid hz; clear hz) | (have hz := (HZ.out.box.drew).next hb; (try simp only [World.size_alloc] at hz); have HZ := mkHid hz; clear hz) | (have hz := (HZ.out.drew).next hb; (try simp only [World.size_alloc] at hz); have HZ := mkHid hz; clear hz) ); (try obtain ⟨za0, za1, za2, za3⟩ := HZ.out _ (.head _)); have h9 := hb.size; (try simp at h9); have hz6 : B0 ≤ w6.heap.size := (by have h8 := hz6; omega))
        | (go_at_call 15; have hS : St W _ ∧ _ := (by assumption); (with_reducible refine (RB.out _ ).mono ?_); rintro e w6 ⟨rfl, hb⟩; (first | (have hz := (HZ.out.box).next hb; (try simp only [World.size_alloc] at hz); have HZ := mkHid hz; clear hz) | (have hz := (HZ.out).next hb; (try simp only [World.size_alloc] at hz); have HZ := mkHid hz; clear hz) | (have hz := (HZ.out.box.drew).next hb; (try simp only [World.size_alloc] at hz); have HZ := mkHid hz; clear hz) | (have hz := (HZ.out.drew).next hb; (try simp only [World.size_alloc] at hz); have HZ := mkHid hz; clear hz) ); (try obtain ⟨za0, za1, za2, za3⟩ := HZ.out _ (.head _)); have h9 := hb.size; (try simp at h9); have hz6 : B0 ≤ w6.heap.size := (by have h8 := hz6; omega))
        | (go_at_call 21; have hS : St W _ ∧ _ := (by assumption); (with_reducible refine (RD.out _ ).mono ?_); rintro e w6 ⟨rfl, hb⟩; (first | (have hz := (HZ.out.box).next hb; (try simp only [World.size_alloc] at hz); have HZ := mkHid hz; clear hz) | (have hz := (HZ.out).next hb; (try simp only [World.size_alloc] at hz); have HZ := mkHid hz; clear hz) | (have hz := (HZ.out.box.drew).next hb; (try simp only [World.size_alloc] at hz); have HZ := mkHid hz; clear hz) | (have hz := (HZ.out.drew).next hb; (try simp only [World.size_alloc] at hz); have HZ := mkHid hz; clear hz) ); (try obtain ⟨za0, za1, za2, za3⟩ := HZ.out _ (.head _)); have h9 := hb.size; (try simp at h9); have hz6 : B0 ≤ w6.heap.size := (by have h8 := hz6; omega)))
    all_goals
      have hT : St W _ ∧ _ := (by assumption)
      have HT := mkHid hT
      clear hT
      go_wp2_with fail
      go_meet
      refine ⟨_, rfl, rfl, (by (first | omega | (simp; omega) | simp | (have := (HZ.out _ (.head _)).lt; omega) | (have := (HZ.out _ (.head _)).lt; have := (HZ.out _ (.tail _ (.head _))).lt; omega))), mkHid ?_, mkHid ⟨HT.out.1, HT.out.2.1, HT.out.2.2.1, HT.out.2.2.2.1, HT.out.2.2.2.2.1, HT.out.2.2.2.2.2.1⟩⟩
      first
        | (with_reducible exact AtS.new _ _ tpd tqd (by simp))
        | (with_reducible exact AtS.set (Zt.h1 HZ.out) tpd tqd)
        | (with_reducible exact AtS.set (AtS.new _ _ ⟨#[]⟩ ⟨#[]⟩ rfl) tpd tqd)
  case rest =>
  clear hsn HZ HS Hu Hv Ha Hb Hd u0 u1 v0 v1
  obtain ⟨je, rfl, rfl, hje, HN, HO⟩ := hcut
  have He := mkHid HN.out
  have HS := mkHid HO.out.1
  have Hu := mkHid HO.out.2.1
  have Hv := mkHid HO.out.2.2.1
  have Ha := mkHid HO.out.2.2.2.1
  have Hb := mkHid HO.out.2.2.2.2.1
  have Hd := mkHid HO.out.2.2.2.2.2
  clear HN HO hB0 hz6 hW0 hlu hlv hla hlb hld hje
  clear B0
  obtain ⟨u0, u1⟩ := Hu.out
  obtain ⟨v0, v1⟩ := Hv.out
  obtain ⟨⟨a0, a1, a2, a3⟩, -⟩ := Ha.out
  obtain ⟨⟨b0, b1, b2, b3⟩, -⟩ := Hb.out
  obtain ⟨⟨d0, d1, d2, d3⟩, -⟩ := Hd.out
  obtain ⟨e0, e1, -, -⟩ := He.out
  cases ok
  all_goals
    go_upto_region 4 with (fail)
    have hsn := HS.out
    obtain ⟨u0, u1⟩ := Hu.out
    obtain ⟨v0, v1⟩ := Hv.out
    obtain ⟨⟨a0, a1, a2, a3⟩, -⟩ := Ha.out
    obtain ⟨⟨b0, b1, b2, b3⟩, -⟩ := Hb.out
    obtain ⟨⟨d0, d1, d2, d3⟩, -⟩ := Hd.out
    obtain ⟨e0, e1, -, -⟩ := He.out
    go_region_held3 (fun X => St W X ∧ X.cell? ⟨W.heap.size, 0, none⟩ = some (.string x1) ∧ X.cell? ⟨W.heap.size, 1, none⟩ = some (.string x2) ∧ X.cell? ⟨W.heap.size + 1, 0, none⟩ = some (.string y1) ∧ X.cell? ⟨W.heap.size + 1, 1, none⟩ = some (.string y2) ∧ X.cell? ⟨ja, 0, none⟩ = some (.int .u64 (la : Int)) ∧ X.cell? ⟨ja, 1, none⟩ = some (.string ka) ∧ X.cell? ⟨ja, 2, none⟩ = some (.int .u64 (lza : Int)) ∧ X.cell? ⟨ja, 3, none⟩ = some (.string kza) ∧ X.cell? ⟨jb, 0, none⟩ = some (.int .u64 (lb : Int)) ∧ X.cell? ⟨jb, 1, none⟩ = some (.string kb) ∧ X.cell? ⟨jb, 2, none⟩ = some (.int .u64 (lzb : Int)) ∧ X.cell? ⟨jb, 3, none⟩ = some (.string kzb) ∧ X.cell? ⟨w7.heap.size, 0, none⟩ = some (.int .u64 (ld : Int)) ∧ X.cell? ⟨w7.heap.size, 1, none⟩ = some (.string kd) ∧ X.cell? ⟨w7.heap.size, 2, none⟩ = some (.int .u64 (lzd : Int)) ∧ X.cell? ⟨w7.heap.size, 3, none⟩ = some (.string kzd) ∧ X.cell? ⟨je, 0, none⟩ = some (.string tpd) ∧ X.cell? ⟨je, 1, none⟩ = some (.string tqd))
      (first
        | (with_reducible exact ⟨hS.1.next hb, St.cell hb hS.2.1, St.cell hb hS.2.2.1, St.cell hb hS.2.2.2.1, St.cell hb hS.2.2.2.2.1, St.cell hb hS.2.2.2.2.2.1, St.cell hb hS.2.2.2.2.2.2.1, St.cell hb hS.2.2.2.2.2.2.2.1, St.cell hb hS.2.2.2.2.2.2.2.2.1, St.cell hb hS.2.2.2.2.2.2.2.2.2.1, St.cell hb hS.2.2.2.2.2.2.2.2.2.2.1, St.cell hb hS.2.2.2.2.2.2.2.2.2.2.2.1, St.cell hb hS.2.2.2.2.2.2.2.2.2.2.2.2.1, St.cell hb hS.2.2.2.2.2.2.2.2.2.2.2.2.2.1, St.cell hb hS.2.2.2.2.2.2.2.2.2.2.2.2.2.2.1, St.cell hb hS.2.2.2.2.2.2.2.2.2.2.2.2.2.2.2.1, St.cell hb hS.2.2.2.2.2.2.2.2.2.2.2.2.2.2.2.2.1, St.cell hb hS.2.2.2.2.2.2.2.2.2.2.2.2.2.2.2.2.2.1, St.cell hb hS.2.2.2.2.2.2.2.2.2.2.2.2.2.2.2.2.2.2⟩)
        | exact ⟨hsn.drew, u0, u1, v0, v1, a0, a1, a2, a3, b0, b1, b2, b3, d0, d1, d2, d3, e0, e1⟩)
      (first
        | (go_at_call 22; have hS : St W _ ∧ _ := (by assumption); (with_reducible refine (CS.out _ hS.1.tabs hS.1.six').mono ?_); rintro e w6 ⟨rfl, hb⟩)
        | (go_at_call 15; have hS : St W _ ∧ _ := (by assumption); (with_reducible refine (RA.out _ ).mono ?_); rintro e w6 ⟨rfl, hb⟩)
        | (go_at_call 15; have hS : St W _ ∧ _ := (by assumption); (with_reducible refine (RB.out _ ).mono ?_); rintro e w6 ⟨rfl, hb⟩)
        | (go_at_call 23; have hS : St W _ ∧ _ := (by assumption); (with_reducible refine (RS.out _ ).mono ?_); rintro e w6 ⟨rfl, hb⟩)
        | (go_at_call 11; have hS : St W _ ∧ _ := (by assumption); (with_reducible refine (SS.out _ hS.1.tabs hS.1.six').mono ?_); rintro e w6 ⟨rfl, hb⟩)
        | (go_at_call 11; have hS : St W _ ∧ _ := (by assumption); (with_reducible refine (SD.out _ hS.1.tabs hS.1.six').mono ?_); rintro e w6 ⟨rfl, hb⟩)
        | (go_at_call 7; have hS : St W _ ∧ _ := (by assumption); (with_reducible refine (CW.out _ hS.1.tabs hS.1.six').mono ?_); rintro e w6 ⟨rfl, hb⟩))
    have hT : St W _ ∧ _ := (by assumption)
    have HT := mkHid hT.1
    clear hT
    go_wp2_with fail
    go_ret
    exact ⟨rfl, HT.out.below⟩

theorem ratProducts_any (x1 x2 y1 y2 : ByteArray) (w : World) (ht : Tabs w) (h6 : 6 ≤ w.heap.size) :
    Calls Tryz.prog 5 #[.agg #[.string x1, .string x2], .agg #[.string y1, .string y2]] w fun e w' => e = .returned (.bool true) ∧ Below w.heap.size w w' := by
  obtain ⟨n, d, h⟩ := taken x1 x2
  obtain ⟨m, c, k⟩ := taken y1 y2
  have CA := vrat_g x1 x2 n d h
  have CB := vrat_g y1 y2 m c k
  have RA := ref_g x1 x2 n d h
  have RB := ref_g y1 y2 m c k
  have l1 := h.lo
  have l2 := k.lo
  have w1 := h.kw
  have w2 := k.kw
  generalize rn n (pos1 d) = p1 at *
  generalize rd n (pos1 d) = q1 at *
  generalize rn m (pos1 c) = p2 at *
  generalize rd m (pos1 c) = q2 at *
  have k1 := w1.kb (by omega)
  have k2 := w2.kb (by omega)
  obtain ⟨n1, n2⟩ := nd_of w1 (by omega)
  obtain ⟨n3, n4⟩ := nd_of w2 (by omega)
  have hq := Nat.mul_pos l1.1 l2.1
  have SS := same_low _ _ hq (sm_of (k := 16) (mul_lt M.B_pos w1.1 w2.1) (by omega)) (sm_of (k := 16) (mul_lt M.B_pos w1.2 w2.2) (by omega))
  by_cases h0 : p2 = 0
  · subst h0
    exact products_raw x1 x2 y1 y2 p1 q1 0 q2 0 1 _ _ false CA CB RA RB (div_none p1 q1 q2) (fun W => sdiv2_no p1 q1 q2 W) (mul2_g l1 l2 k1 k2) (fun W => smul2 p1 q1 0 q2 n1 n2 n3 n4 hq W)
      SS (same_g 0 1 (sm_word (by decide)) (sm_word (by decide)) (by omega)) w ht h6
  · have hp := Nat.mul_pos l1.1 (Nat.pos_of_ne_zero h0)
    exact products_raw x1 x2 y1 y2 p1 q1 p2 q2 _ _ _ _ true CA CB RA RB (div2_g l1 l2 h0 k1 k2) (fun W => sdiv2_ok p1 q1 p2 q2 n1 n2 n3 n4 h0 hp W) (mul2_g l1 l2 k1 k2) (fun W => smul2 p1 q1 p2 q2 n1 n2 n3 n4 hq W)
      SS (same_low _ _ hp (sm_of (k := 16) (mul_lt M.B_pos w1.1 w2.2) (by omega)) (sm_of (k := 16) (mul_lt M.B_pos w1.2 w2.1) (by omega))) w ht h6
end Go.Proofs.YtflcdpolfimggaaGreatDoor
