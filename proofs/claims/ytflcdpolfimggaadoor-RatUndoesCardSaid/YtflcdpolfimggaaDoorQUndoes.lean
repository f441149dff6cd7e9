/- Package rat: RatUndoes. -/
import Derived.Test.YtflcdpolfimggaaDoorG11
namespace Go.Proofs.YtflcdpolfimggaaDoor
open Go.RowKit Q SD

/-- The lowest terms of a quotient are those of an equal one. -/
theorem is_of {p q n d : Nat} (h : Lo p q) (hd : 0 < d) (e : n * q = p * d) : rn n d = p ∧ rd n d = q := by
  obtain ⟨a, b⟩ := is_low h hd e.symm
  exact ⟨a.symm, b.symm⟩
theorem sub_add_back {p1 q1 p2 q2 : Nat} (h1 : Lo p1 q1) (h2 : Lo p2 q2) :
    let ps := rn (p1 * q2 + p2 * q1) (q1 * q2); let qs := rd (p1 * q2 + p2 * q1) (q1 * q2)
    p2 * qs ≤ ps * q2 ∧ rn (ps * q2 - p2 * qs) (qs * q2) = p1 ∧ rd (ps * q2 - p2 * qs) (qs * q2) = q1 := by
  intro ps qs
  have hq := Nat.mul_pos h1.1 h2.1
  have v1 : V p1 q1 p1 q1 := V.self h1
  have v2 : V p2 q2 p2 q2 := V.self h2
  have vs : V ps qs (p1 * q2 + p2 * q1) (q1 * q2) := V.low _ _ hq
  have hle : p2 * qs ≤ ps * q2 := by
    refine (V.le vs v2).2 ?_
    have : p2 * (q1 * q2) ≤ (p1 * q2 + p2 * q1) * q2 := by
      rw [Nat.add_mul, Nat.mul_assoc p2 q1 q2]; exact Nat.le_add_left _ _
    exact this
  refine ⟨hle, ?_⟩
  have vd : V (rn (ps * q2 - p2 * qs) (qs * q2)) (rd (ps * q2 - p2 * qs) (qs * q2)) _ _ := V.sub vs v2 (V.low _ _ (Nat.mul_pos vs.1.1 h2.1))
  refine V.uniq vd v1 ?_
  have e : (p1 * q2 + p2 * q1) * q2 - p2 * (q1 * q2) = p1 * q2 * q2 := by
    rw [Nat.add_mul, Nat.mul_assoc p2 q1 q2, Nat.add_sub_cancel]
  rw [e]
  grind
theorem div_mul_back {p1 q1 p2 q2 : Nat} (h1 : Lo p1 q1) (h2 : Lo p2 q2) (h0 : p2 ≠ 0) :
    let pm := rn (p1 * p2) (q1 * q2); let qm := rd (p1 * p2) (q1 * q2)
    rn (pm * q2) (qm * p2) = p1 ∧ rd (pm * q2) (qm * p2) = q1 := by
  intro pm qm
  have hp : 0 < p2 := Nat.pos_of_ne_zero h0
  have l := low (p1 * p2) (q1 * q2) (Nat.mul_pos h1.1 h2.1)
  have e := low_eq (p1 * p2) (q1 * q2)
  refine is_of h1 (Nat.mul_pos l.1 hp) ?_
  show pm * q2 * q1 = p1 * (qm * p2)
  have e : pm * (q1 * q2) = p1 * p2 * qm := e
  grind
theorem mul_div_back {p1 q1 p2 q2 : Nat} (h1 : Lo p1 q1) (h2 : Lo p2 q2) (h0 : p2 ≠ 0) :
    let pd := rn (p1 * q2) (q1 * p2); let qd := rd (p1 * q2) (q1 * p2)
    rn (pd * p2) (qd * q2) = p1 ∧ rd (pd * p2) (qd * q2) = q1 := by
  intro pd qd
  have hp : 0 < p2 := Nat.pos_of_ne_zero h0
  have l := low (p1 * q2) (q1 * p2) (Nat.mul_pos h1.1 hp)
  have e := low_eq (p1 * q2) (q1 * p2)
  refine is_of h1 (Nat.mul_pos l.1 h2.1) ?_
  show pd * p2 * q1 = p1 * (qd * q2)
  have e : pd * (q1 * p2) = p1 * q2 * qd := e
  grind
theorem lo_zero_den {q : Nat} (h : Lo 0 q) : q = 1 := by
  have := h.2
  unfold Nat.Coprime at this
  simpa using this

theorem bytes_ne48 {t : ByteArray} (h : ¬ t = ⟨#[48]⟩) : (t.toList == [48]) = false := by
  rw [beq_eq_false_iff_ne]
  intro e
  refine h (ByteArray.ext ?_)
  have := congrArg List.toArray e
  simpa [ByteArray.toList_eq] using this

set_option maxRecDepth 100000 in
set_option maxHeartbeats 32000000 in
theorem undoes_zero (x1 x2 y1 y2 : ByteArray) (pa qa pb qb ps qs : Nat) (tb : ByteArray)
    (CA : Gives 17 #[.agg #[.string x1, .string x2]] (rv pa qa)) (CB : Gives 17 #[.agg #[.string y1, .string y2]] (rv pb qb))
    (CS : Gives 19 #[rv pa qa, rv pb qb] (rv ps qs)) (CU : Gives 21 #[rv ps qs, rv pb qb] (.tuple #[rv pa qa, .bool true]))
    (CE : Gives 18 #[rv pa qa, rv pa qa] (.bool true)) (CT : Gives 22 #[rv pb qb] (.string tb)) (htb : tb = ⟨#[48]⟩) :
    Gives 5 #[.agg #[.string x1, .string x2], .agg #[.string y1, .string y2]] (.bool true) := by
  intro W ht h6
  have CW := mkHid rworks_g
  subst htb
  unfold rv at *
  generalize lo (dz qs) = lzs at *
  generalize hi (dz qs) = kzs at *
  generalize lo (dz qa) = lza at *
  generalize hi (dz qa) = kza at *
  generalize lo (dz qb) = lzb at *
  generalize hi (dz qb) = kzb at *
  generalize lo (ps) = ls at *
  generalize hi (ps) = ks at *
  generalize lo (pa) = la at *
  generalize hi (pa) = ka at *
  generalize lo (pb) = lb at *
  generalize hi (pb) = kb at *
  replace CA := mkHid CA
  replace CB := mkHid CB
  replace CS := mkHid CS
  replace CU := mkHid CU
  replace CE := mkHid CE
  replace CT := mkHid CT
  have HS := mkHid (((St.refl ht h6).alloc (.cells #[.string x1, .string x2] 40)).alloc (.cells #[.string y1, .string y2] 40))
  have Hu := mkHid ((AtV.new W W.heap.size x1 x2 rfl).alloc (.cells #[.string y1, .string y2] 40))
  have Hv := mkHid (AtV.new (W.alloc (.cells #[.string x1, .string x2] 40)) (W.heap.size + 1) y1 y2 (by simp))
  clear ht h6
  go_enter Tryd.func5, Tryd.ntmps5
  go_upto_region 1 with (fail)
  generalize ((W.alloc (.cells #[.string x1, .string x2] 40)).alloc (.cells #[.string y1, .string y2] 40)) = w6 at *
  have hsn := HS.out
  obtain ⟨B0, hB0⟩ : ∃ n, n = w6.heap.size := ⟨_, rfl⟩
  have hz6 : B0 ≤ w6.heap.size := by omega
  have hW0 : W.heap.size ≤ B0 := by rw [hB0]; exact hsn.size
  have hlu : W.heap.size < B0 := by rw [hB0]; exact Hu.out.lt
  have hlv : W.heap.size + 1 < B0 := by rw [hB0]; exact Hv.out.lt
  obtain ⟨u0, u1⟩ := Hu.out
  obtain ⟨v0, v1⟩ := Hv.out
  have HZ := mkHid (Zq.nil w6)
  go_cut [5, 6] (fun v5 v6 wx => ∃ ja jb : Nat, v5 = .pointer (some ⟨ja, 0, none⟩) ∧ v6 = .pointer (some ⟨jb, 0, none⟩) ∧ B0 ≤ ja ∧ B0 ≤ jb ∧ Hid (At4 wx ja la ka lza kza ∧ At4 wx jb lb kb lzb kzb) ∧ Hid (St W wx ∧ AtV wx (W.heap.size) x1 x2 ∧ AtV wx (W.heap.size + 1) y1 y2))
  case first =>
    go_region_held3 (fun X => St W X ∧ AtV X (W.heap.size) x1 x2 ∧ AtV X (W.heap.size + 1) y1 y2 ∧ X.cell? ⟨W.heap.size, 0, none⟩ = some (.string x1) ∧ X.cell? ⟨W.heap.size, 1, none⟩ = some (.string x2) ∧ X.cell? ⟨W.heap.size + 1, 0, none⟩ = some (.string y1) ∧ X.cell? ⟨W.heap.size + 1, 1, none⟩ = some (.string y2))
      (first
        | (with_reducible exact ⟨hS.1.next hb, hS.2.1.grows hb, hS.2.2.1.grows hb, St.cell hb hS.2.2.2.1, St.cell hb hS.2.2.2.2.1, St.cell hb hS.2.2.2.2.2.1, St.cell hb hS.2.2.2.2.2.2⟩)
        | (have hT : St W _ ∧ _ := (by assumption); with_reducible exact ⟨(hT.1).alloc _, (hT.2.1).alloc _, (hT.2.2.1).alloc _, cellAl (hT.2.2.2.1) _, cellAl (hT.2.2.2.2.1) _, cellAl (hT.2.2.2.2.2.1) _, cellAl (hT.2.2.2.2.2.2) _⟩)
        | (with_reducible exact ⟨(hS.1.next hb).alloc _, (hS.2.1.grows hb).alloc _, (hS.2.2.1.grows hb).alloc _, cellAl (St.cell hb hS.2.2.2.1) _, cellAl (St.cell hb hS.2.2.2.2.1) _, cellAl (St.cell hb hS.2.2.2.2.2.1) _, cellAl (St.cell hb hS.2.2.2.2.2.2) _⟩)
        | (with_reducible exact ⟨((hS.1.next hb).alloc _).alloc _, ((hS.2.1.grows hb).alloc _).alloc _, ((hS.2.2.1.grows hb).alloc _).alloc _, cellAl (cellAl (St.cell hb hS.2.2.2.1) _) _, cellAl (cellAl (St.cell hb hS.2.2.2.2.1) _) _, cellAl (cellAl (St.cell hb hS.2.2.2.2.2.1) _) _, cellAl (cellAl (St.cell hb hS.2.2.2.2.2.2) _) _⟩)
        | (have hT : St W _ ∧ _ := (by assumption); exact ⟨(hT.1).set4 (by omega) _ _ _ _, (hT.2.1).set4 (by omega) _ _ _ _, (hT.2.2.1).set4 (by omega) _ _ _ _, set4_other (hT.2.2.2.1) (by omega) _ _ _ _, set4_other (hT.2.2.2.2.1) (by omega) _ _ _ _, set4_other (hT.2.2.2.2.2.1) (by omega) _ _ _ _, set4_other (hT.2.2.2.2.2.2) (by omega) _ _ _ _⟩)
        | exact ⟨hsn.drew, Hu.out.drew, Hv.out.drew, u0, u1, v0, v1⟩
        | exact ⟨((hsn).alloc _).drew, ((Hu.out).alloc _).drew, ((Hv.out).alloc _).drew, cellAl (u0) _, cellAl (u1) _, cellAl (v0) _, cellAl (v1) _⟩
        | exact ⟨(((hsn).alloc _).alloc _).drew, (((Hu.out).alloc _).alloc _).drew, (((Hv.out).alloc _).alloc _).drew, cellAl (cellAl (u0) _) _, cellAl (cellAl (u1) _) _, cellAl (cellAl (v0) _) _, cellAl (cellAl (v1) _) _⟩)
      (first
        | (go_at_call 17; have hS : St W _ ∧ _ := (by assumption); (with_reducible refine (CA.out _ hS.1.tabs hS.1.six').mono ?_); rintro e w6 ⟨rfl, hb⟩; (first | (have hz := (HZ.out.box.box).next hb; (try simp only [World.size_alloc] at hz); have HZ := mkHid hz; clear hz) | (have hz := (HZ.out.box).next hb; (try simp only [World.size_alloc] at hz); have HZ := mkHid hz; clear hz) | (have hz := (HZ.out).next hb; (try simp only [World.size_alloc] at hz); have HZ := mkHid hz; clear hz) | (have hz := (HZ.out.box.box.drew).next hb; (try simp only [World.size_alloc] at hz); have HZ := mkHid hz; clear hz) | (have hz := (HZ.out.box.drew).next hb; (try simp only [World.size_alloc] at hz); have HZ := mkHid hz; clear hz) | (have hz := (HZ.out.drew).next hb; (try simp only [World.size_alloc] at hz); have HZ := mkHid hz; clear hz) ); (try obtain ⟨⟨za0, za1, za2, za3⟩, za4, za5, za6, za7⟩ := HZ.out _ (.head _)); (try obtain ⟨⟨zb0, zb1, zb2, zb3⟩, zb4, zb5, zb6, zb7⟩ := HZ.out _ (.tail _ (.head _))); have h9 := hb.size; (try simp at h9); have hz6 : B0 ≤ w6.heap.size := (by have h8 := hz6; omega))
        | (go_at_call 17; have hS : St W _ ∧ _ := (by assumption); (with_reducible refine (CB.out _ hS.1.tabs hS.1.six').mono ?_); rintro e w6 ⟨rfl, hb⟩; (first | (have hz := (HZ.out.box.box).next hb; (try simp only [World.size_alloc] at hz); have HZ := mkHid hz; clear hz) | (have hz := (HZ.out.box).next hb; (try simp only [World.size_alloc] at hz); have HZ := mkHid hz; clear hz) | (have hz := (HZ.out).next hb; (try simp only [World.size_alloc] at hz); have HZ := mkHid hz; clear hz) | (have hz := (HZ.out.box.box.drew).next hb; (try simp only [World.size_alloc] at hz); have HZ := mkHid hz; clear hz) | (have hz := (HZ.out.box.drew).next hb; (try simp only [World.size_alloc] at hz); have HZ := mkHid hz; clear hz) | (have hz := (HZ.out.drew).next hb; (try simp only [World.size_alloc] at hz); have HZ := mkHid hz; clear hz) ); (try obtain ⟨⟨za0, za1, za2, za3⟩, za4, za5, za6, za7⟩ := HZ.out _ (.head _)); (try obtain ⟨⟨zb0, zb1, zb2, zb3⟩, zb4, zb5, zb6, zb7⟩ := HZ.out _ (.tail _ (.head _))); have h9 := hb.size; (try simp at h9); have hz6 : B0 ≤ w6.heap.size := (by have h8 := hz6; omega); (try obtain ⟨⟨m00, m01, m02, m03⟩, m04, m05, m06, m07⟩ := (HZ.out _ (.head _)).alloc (.cells #[.int .u64 0, .string ⟨#[]⟩, .int .u64 0, .string ⟨#[]⟩] 26)); (try obtain ⟨⟨m10, m11, m12, m13⟩, m14, m15, m16, m17⟩ := (HZ.out _ (.head _)).alloc (.cells #[.int .u64 (la : Int), .string ka, .int .u64 (lza : Int), .string kza] 26)); (try obtain ⟨⟨m20, m21, m22, m23⟩, m24, m25, m26, m27⟩ := At4.setOff ((Zq.box (Zq.nil w6)) _ (.head _)) (Nat.ne_of_gt (HZ.out _ (.head _)).lt) (.int .u64 (la : Int)) (.string ka) (.int .u64 (lza : Int)) (.string kza)); (try obtain ⟨⟨m30, m31, m32, m33⟩, m34, m35, m36, m37⟩ := (HZ.out _ (.tail _ (.head _))).alloc (.cells #[.int .u64 0, .string ⟨#[]⟩, .int .u64 0, .string ⟨#[]⟩] 26)); (try obtain ⟨⟨m40, m41, m42, m43⟩, m44, m45, m46, m47⟩ := (HZ.out _ (.tail _ (.head _))).alloc (.cells #[.int .u64 (la : Int), .string ka, .int .u64 (lza : Int), .string kza] 26)); (try obtain ⟨⟨m50, m51, m52, m53⟩, m54, m55, m56, m57⟩ := At4.setOff ((Zq.box (Zq.nil w6)) _ (.head _)) (Nat.ne_of_gt (HZ.out _ (.tail _ (.head _))).lt) (.int .u64 (la : Int)) (.string ka) (.int .u64 (lza : Int)) (.string kza)); (try obtain ⟨⟨m60, m61, m62, m63⟩, m64, m65, m66, m67⟩ := At4.offOf (HZ.out _ (.head _)) (HZ.out _ (.tail _ (.head _))) (by first | omega | (simp; omega)) (.int .u64 (la : Int)) (.string ka) (.int .u64 (lza : Int)) (.string kza)); (try obtain ⟨⟨m70, m71, m72, m73⟩, m74, m75, m76, m77⟩ := At4.offOf (HZ.out _ (.tail _ (.head _))) (HZ.out _ (.head _)) (by first | omega | (simp; omega)) (.int .u64 (la : Int)) (.string ka) (.int .u64 (lza : Int)) (.string kza))))
    all_goals
      have hT : St W _ ∧ _ := (by assumption)
      have HT := mkHid hT
      clear hT
      go_wp2_with fail
      go_meet
      refine ⟨_, _, rfl, rfl, (by (first | omega | (simp; omega) | simp | (have := (HZ.out _ (.head _)).lt; omega) | (have := (HZ.out _ (.head _)).lt; have := (HZ.out _ (.tail _ (.head _))).lt; omega))), (by (first | omega | (simp; omega) | simp | (have := (HZ.out _ (.head _)).lt; omega) | (have := (HZ.out _ (.head _)).lt; have := (HZ.out _ (.tail _ (.head _))).lt; omega))), mkHid ?_, mkHid ⟨HT.out.1, HT.out.2.1, HT.out.2.2.1⟩⟩
      refine ⟨?_, ?_⟩
      · first
          | (with_reducible exact (At4.new w6 w6.heap.size la ka lza kza rfl).alloc _)
          | (with_reducible exact At4.new _ _ la ka lza kza (by simp))
          | (with_reducible exact (At4.new w6 w6.heap.size la ka lza kza rfl).setOff (by (try have g1 := (Zq.h1 HZ.out).lt); (try have g2 := (Zq.h2 HZ.out).lt); omega) _ _ _ _)
          | (with_reducible exact ((At4.set ((Zq.h1 HZ.out).alloc _) la ka lza kza)).setOff (by (try have g1 := (Zq.h1 HZ.out).lt); (try have g2 := (Zq.h2 HZ.out).lt); omega) _ _ _ _)
          | (with_reducible exact (At4.set (Zq.h1 HZ.out) la ka lza kza).setOff (by (try have g1 := (Zq.h1 HZ.out).lt); (try have g2 := (Zq.h2 HZ.out).lt); omega) _ _ _ _)
          | (with_reducible exact (At4.set ((Zq.h2 HZ.out).alloc _) la ka lza kza).setOff (by (try have g1 := (Zq.h1 HZ.out).lt); (try have g2 := (Zq.h2 HZ.out).lt); omega) _ _ _ _)
          | (with_reducible exact (At4.set (Zq.h2 HZ.out) la ka lza kza).setOff (by (try have g1 := (Zq.h1 HZ.out).lt); (try have g2 := (Zq.h2 HZ.out).lt); omega) _ _ _ _)
      · first
          | (with_reducible exact At4.new _ _ lb kb lzb kzb (by simp))
          | (with_reducible exact (At4.new w6 w6.heap.size lb kb lzb kzb rfl).alloc _)
          | (with_reducible exact At4.set ((Zq.h1 (Zq.box (Zq.nil w6))).setOff (by (try have g1 := (Zq.h1 HZ.out).lt); (try have g2 := (Zq.h2 HZ.out).lt); omega) _ _ _ _) lb kb lzb kzb)
          | (with_reducible exact At4.set ((Zq.h1 HZ.out).setOff (by (try have g1 := (Zq.h1 HZ.out).lt); (try have g2 := (Zq.h2 HZ.out).lt); omega) _ _ _ _) lb kb lzb kzb)
          | (with_reducible exact At4.set ((Zq.h1 HZ.out).alloc _) lb kb lzb kzb)
          | (with_reducible exact At4.set ((Zq.h2 HZ.out).setOff (by (try have g1 := (Zq.h1 HZ.out).lt); (try have g2 := (Zq.h2 HZ.out).lt); omega) _ _ _ _) lb kb lzb kzb)
          | (with_reducible exact At4.set ((Zq.h2 HZ.out).alloc _) lb kb lzb kzb)
  case rest =>
  clear hsn HZ HS Hu Hv u0 u1 v0 v1
  obtain ⟨ja, jb, rfl, rfl, hja, hjb, HN, HO⟩ := hcut
  have Ha := mkHid HN.out.1
  have Hb := mkHid HN.out.2
  have HS := mkHid HO.out.1
  have Hu := mkHid HO.out.2.1
  have Hv := mkHid HO.out.2.2
  clear HN HO hB0 hz6 hW0 hlu hlv hja hjb
  clear B0
  obtain ⟨u0, u1⟩ := Hu.out
  obtain ⟨v0, v1⟩ := Hv.out
  obtain ⟨⟨a0, a1, a2, a3⟩, -⟩ := Ha.out
  obtain ⟨⟨b0, b1, b2, b3⟩, -⟩ := Hb.out
  go_upto_region 2 with (fail)
  obtain ⟨w6, hw6⟩ : ∃ x, x = wc := ⟨_, rfl⟩
  subst hw6
  have hsn := HS.out
  obtain ⟨B0, hB0⟩ : ∃ n, n = w6.heap.size := ⟨_, rfl⟩
  have hz6 : B0 ≤ w6.heap.size := by omega
  have hW0 : W.heap.size ≤ B0 := by rw [hB0]; exact hsn.size
  have hla : ja < B0 := by rw [hB0]; exact Ha.out.lt
  have hlb : jb < B0 := by rw [hB0]; exact Hb.out.lt
  obtain ⟨⟨a0, a1, a2, a3⟩, -⟩ := Ha.out
  obtain ⟨⟨b0, b1, b2, b3⟩, -⟩ := Hb.out
  have HZ := mkHid (Zq.nil w6)
  go_cut [7, 8] (fun v7 v8 wx => ∃ jc : Nat, v7 = .pointer (some ⟨jc, 0, none⟩) ∧ v8 = .bool true ∧ B0 ≤ jc ∧ Hid (At4 wx jc la ka lza kza) ∧ Hid (St W wx ∧ At4 wx (ja) la ka lza kza ∧ At4 wx (jb) lb kb lzb kzb))
  case first =>
    go_region_held3 (fun X => St W X ∧ At4 X (ja) la ka lza kza ∧ At4 X (jb) lb kb lzb kzb ∧ X.cell? ⟨ja, 0, none⟩ = some (.int .u64 (la : Int)) ∧ X.cell? ⟨ja, 1, none⟩ = some (.string ka) ∧ X.cell? ⟨ja, 2, none⟩ = some (.int .u64 (lza : Int)) ∧ X.cell? ⟨ja, 3, none⟩ = some (.string kza) ∧ X.cell? ⟨jb, 0, none⟩ = some (.int .u64 (lb : Int)) ∧ X.cell? ⟨jb, 1, none⟩ = some (.string kb) ∧ X.cell? ⟨jb, 2, none⟩ = some (.int .u64 (lzb : Int)) ∧ X.cell? ⟨jb, 3, none⟩ = some (.string kzb))
      (first
        | (with_reducible exact ⟨hS.1.next hb, hS.2.1.grows hb, hS.2.2.1.grows hb, St.cell hb hS.2.2.2.1, St.cell hb hS.2.2.2.2.1, St.cell hb hS.2.2.2.2.2.1, St.cell hb hS.2.2.2.2.2.2.1, St.cell hb hS.2.2.2.2.2.2.2.1, St.cell hb hS.2.2.2.2.2.2.2.2.1, St.cell hb hS.2.2.2.2.2.2.2.2.2.1, St.cell hb hS.2.2.2.2.2.2.2.2.2.2⟩)
        | (have hT : St W _ ∧ _ := (by assumption); with_reducible exact ⟨(hT.1).alloc _, (hT.2.1).alloc _, (hT.2.2.1).alloc _, cellAl (hT.2.2.2.1) _, cellAl (hT.2.2.2.2.1) _, cellAl (hT.2.2.2.2.2.1) _, cellAl (hT.2.2.2.2.2.2.1) _, cellAl (hT.2.2.2.2.2.2.2.1) _, cellAl (hT.2.2.2.2.2.2.2.2.1) _, cellAl (hT.2.2.2.2.2.2.2.2.2.1) _, cellAl (hT.2.2.2.2.2.2.2.2.2.2) _⟩)
        | (with_reducible exact ⟨(hS.1.next hb).alloc _, (hS.2.1.grows hb).alloc _, (hS.2.2.1.grows hb).alloc _, cellAl (St.cell hb hS.2.2.2.1) _, cellAl (St.cell hb hS.2.2.2.2.1) _, cellAl (St.cell hb hS.2.2.2.2.2.1) _, cellAl (St.cell hb hS.2.2.2.2.2.2.1) _, cellAl (St.cell hb hS.2.2.2.2.2.2.2.1) _, cellAl (St.cell hb hS.2.2.2.2.2.2.2.2.1) _, cellAl (St.cell hb hS.2.2.2.2.2.2.2.2.2.1) _, cellAl (St.cell hb hS.2.2.2.2.2.2.2.2.2.2) _⟩)
        | (have hT : St W _ ∧ _ := (by assumption); exact ⟨(hT.1).set4 (by omega) _ _ _ _, (hT.2.1).set4 (by omega) _ _ _ _, (hT.2.2.1).set4 (by omega) _ _ _ _, set4_other (hT.2.2.2.1) (by omega) _ _ _ _, set4_other (hT.2.2.2.2.1) (by omega) _ _ _ _, set4_other (hT.2.2.2.2.2.1) (by omega) _ _ _ _, set4_other (hT.2.2.2.2.2.2.1) (by omega) _ _ _ _, set4_other (hT.2.2.2.2.2.2.2.1) (by omega) _ _ _ _, set4_other (hT.2.2.2.2.2.2.2.2.1) (by omega) _ _ _ _, set4_other (hT.2.2.2.2.2.2.2.2.2.1) (by omega) _ _ _ _, set4_other (hT.2.2.2.2.2.2.2.2.2.2) (by omega) _ _ _ _⟩)
        | exact ⟨hsn.drew, Ha.out.drew, Hb.out.drew, a0, a1, a2, a3, b0, b1, b2, b3⟩
        | exact ⟨((hsn).alloc _).drew, ((Ha.out).alloc _).drew, ((Hb.out).alloc _).drew, cellAl (a0) _, cellAl (a1) _, cellAl (a2) _, cellAl (a3) _, cellAl (b0) _, cellAl (b1) _, cellAl (b2) _, cellAl (b3) _⟩)
      (first
        | (go_at_call 19; have hS : St W _ ∧ _ := (by assumption); (with_reducible refine (CS.out _ hS.1.tabs hS.1.six').mono ?_); rintro e w6 ⟨rfl, hb⟩; (first | (have hz := (HZ.out.box).next hb; (try simp only [World.size_alloc] at hz); have HZ := mkHid hz; clear hz) | (have hz := (HZ.out).next hb; (try simp only [World.size_alloc] at hz); have HZ := mkHid hz; clear hz) | (have hz := (HZ.out.box.drew).next hb; (try simp only [World.size_alloc] at hz); have HZ := mkHid hz; clear hz) | (have hz := (HZ.out.drew).next hb; (try simp only [World.size_alloc] at hz); have HZ := mkHid hz; clear hz) ); (try obtain ⟨⟨za0, za1, za2, za3⟩, za4, za5, za6, za7⟩ := HZ.out _ (.head _)); have h9 := hb.size; (try simp at h9); have hz6 : B0 ≤ w6.heap.size := (by have h8 := hz6; omega))
        | (go_at_call 21; have hS : St W _ ∧ _ := (by assumption); (with_reducible refine (CU.out _ hS.1.tabs hS.1.six').mono ?_); rintro e w6 ⟨rfl, hb⟩; (first | (have hz := (HZ.out.box).next hb; (try simp only [World.size_alloc] at hz); have HZ := mkHid hz; clear hz) | (have hz := (HZ.out).next hb; (try simp only [World.size_alloc] at hz); have HZ := mkHid hz; clear hz) | (have hz := (HZ.out.box.drew).next hb; (try simp only [World.size_alloc] at hz); have HZ := mkHid hz; clear hz) | (have hz := (HZ.out.drew).next hb; (try simp only [World.size_alloc] at hz); have HZ := mkHid hz; clear hz) ); (try obtain ⟨⟨za0, za1, za2, za3⟩, za4, za5, za6, za7⟩ := HZ.out _ (.head _)); have h9 := hb.size; (try simp at h9); have hz6 : B0 ≤ w6.heap.size := (by have h8 := hz6; omega)))
    all_goals
      have hT : St W _ ∧ _ := (by assumption)
      have HT := mkHid hT
      clear hT
      go_wp2_with fail
      go_meet
      refine ⟨_, rfl, rfl, (by (first | omega | (simp; omega) | simp | (have := (HZ.out _ (.head _)).lt; omega) | (have := (HZ.out _ (.head _)).lt; have := (HZ.out _ (.tail _ (.head _))).lt; omega))), mkHid ?_, mkHid ⟨HT.out.1, HT.out.2.1, HT.out.2.2.1⟩⟩
      first
        | (with_reducible exact At4.new _ _ la ka lza kza (by simp))
        | (with_reducible exact At4.set (Zq.h1 HZ.out) la ka lza kza)
        | (with_reducible exact At4.set (At4.new _ _ 0 ⟨#[]⟩ 0 ⟨#[]⟩ rfl) la ka lza kza)
  case rest =>
  clear hsn HZ HS Ha Hb a0 a1 a2 a3 b0 b1 b2 b3
  obtain ⟨jc, rfl, rfl, hjc, HN, HO⟩ := hcut
  have Hc := mkHid HN.out
  have HS := mkHid HO.out.1
  have Ha := mkHid HO.out.2.1
  have Hb := mkHid HO.out.2.2
  clear HN HO hB0 hz6 hW0 hla hlb hjc
  clear B0
  obtain ⟨⟨a0, a1, a2, a3⟩, -⟩ := Ha.out
  obtain ⟨⟨b0, b1, b2, b3⟩, -⟩ := Hb.out
  obtain ⟨⟨c0, c1, c2, c3⟩, -⟩ := Hc.out
  go_wp2_with (first | (go_at_call 18; (with_reducible refine (CE.out _ HS.out.tabs HS.out.six').mono ?_); rintro e w6 ⟨rfl, hb⟩; have HS := mkHid (HS.out.next hb); have Ha := mkHid (Ha.out.grows hb); have Hb := mkHid (Hb.out.grows hb); have Hc := mkHid (Hc.out.grows hb); clear hb; obtain ⟨⟨a0, a1, a2, a3⟩, -⟩ := Ha.out; obtain ⟨⟨b0, b1, b2, b3⟩, -⟩ := Hb.out; obtain ⟨⟨c0, c1, c2, c3⟩, -⟩ := Hc.out) | (go_at_call 22; (with_reducible refine (CT.out _ HS.out.tabs HS.out.six').mono ?_); rintro e w6 ⟨rfl, hb⟩; have HS := mkHid (HS.out.next hb); have Ha := mkHid (Ha.out.grows hb); have Hb := mkHid (Hb.out.grows hb); have Hc := mkHid (Hc.out.grows hb); clear hb; obtain ⟨⟨a0, a1, a2, a3⟩, -⟩ := Ha.out; obtain ⟨⟨b0, b1, b2, b3⟩, -⟩ := Hb.out; obtain ⟨⟨c0, c1, c2, c3⟩, -⟩ := Hc.out) | (go_at_call 16; (with_reducible refine (CW.out _ HS.out.tabs HS.out.six').mono ?_); rintro e w6 ⟨rfl, hb⟩; have HS := mkHid (HS.out.next hb); have Ha := mkHid (Ha.out.grows hb); have Hb := mkHid (Hb.out.grows hb); have Hc := mkHid (Hc.out.grows hb); clear hb; obtain ⟨⟨a0, a1, a2, a3⟩, -⟩ := Ha.out; obtain ⟨⟨b0, b1, b2, b3⟩, -⟩ := Hb.out; obtain ⟨⟨c0, c1, c2, c3⟩, -⟩ := Hc.out))
  go_ret
  exact ⟨rfl, HS.out.below⟩

set_option maxRecDepth 100000 in
set_option maxHeartbeats 32000000 in
theorem undoes_pos (x1 x2 y1 y2 : ByteArray) (pa qa pb qb ps qs pm qm pd qd : Nat) (tb : ByteArray)
    (CA : Gives 17 #[.agg #[.string x1, .string x2]] (rv pa qa)) (CB : Gives 17 #[.agg #[.string y1, .string y2]] (rv pb qb))
    (CS : Gives 19 #[rv pa qa, rv pb qb] (rv ps qs)) (CU : Gives 21 #[rv ps qs, rv pb qb] (.tuple #[rv pa qa, .bool true]))
    (CE : Gives 18 #[rv pa qa, rv pa qa] (.bool true)) (CT : Gives 22 #[rv pb qb] (.string tb)) (CM : Gives 20 #[rv pa qa, rv pb qb] (rv pm qm)) (CD : Gives 23 #[rv pm qm, rv pb qb] (.tuple #[rv pa qa, .bool true])) (CP : Gives 23 #[rv pa qa, rv pb qb] (.tuple #[rv pd qd, .bool true])) (CQ : Gives 20 #[rv pd qd, rv pb qb] (rv pa qa)) (hne : (tb.toList == [48]) = false) :
    Gives 5 #[.agg #[.string x1, .string x2], .agg #[.string y1, .string y2]] (.bool true) := by
  intro W ht h6
  have CW := mkHid rworks_g
  unfold rv at *
  generalize lo (dz qs) = lzs at *
  generalize hi (dz qs) = kzs at *
  generalize lo (dz qm) = lzm at *
  generalize hi (dz qm) = kzm at *
  generalize lo (dz qd) = lzd at *
  generalize hi (dz qd) = kzd at *
  generalize lo (dz qa) = lza at *
  generalize hi (dz qa) = kza at *
  generalize lo (dz qb) = lzb at *
  generalize hi (dz qb) = kzb at *
  generalize lo (ps) = ls at *
  generalize hi (ps) = ks at *
  generalize lo (pm) = lm at *
  generalize hi (pm) = km at *
  generalize lo (pd) = ld at *
  generalize hi (pd) = kd at *
  generalize lo (pa) = la at *
  generalize hi (pa) = ka at *
  generalize lo (pb) = lb at *
  generalize hi (pb) = kb at *
  replace CA := mkHid CA
  replace CB := mkHid CB
  replace CS := mkHid CS
  replace CU := mkHid CU
  replace CE := mkHid CE
  replace CT := mkHid CT
  replace CM := mkHid CM
  replace CD := mkHid CD
  replace CP := mkHid CP
  replace CQ := mkHid CQ
  have HS := mkHid (((St.refl ht h6).alloc (.cells #[.string x1, .string x2] 40)).alloc (.cells #[.string y1, .string y2] 40))
  have Hu := mkHid ((AtV.new W W.heap.size x1 x2 rfl).alloc (.cells #[.string y1, .string y2] 40))
  have Hv := mkHid (AtV.new (W.alloc (.cells #[.string x1, .string x2] 40)) (W.heap.size + 1) y1 y2 (by simp))
  clear ht h6
  go_enter Tryd.func5, Tryd.ntmps5
  go_upto_region 1 with (fail)
  generalize ((W.alloc (.cells #[.string x1, .string x2] 40)).alloc (.cells #[.string y1, .string y2] 40)) = w6 at *
  have hsn := HS.out
  obtain ⟨B0, hB0⟩ : ∃ n, n = w6.heap.size := ⟨_, rfl⟩
  have hz6 : B0 ≤ w6.heap.size := by omega
  have hW0 : W.heap.size ≤ B0 := by rw [hB0]; exact hsn.size
  have hlu : W.heap.size < B0 := by rw [hB0]; exact Hu.out.lt
  have hlv : W.heap.size + 1 < B0 := by rw [hB0]; exact Hv.out.lt
  obtain ⟨u0, u1⟩ := Hu.out
  obtain ⟨v0, v1⟩ := Hv.out
  have HZ := mkHid (Zq.nil w6)
  go_cut [5, 6] (fun v5 v6 wx => ∃ ja jb : Nat, v5 = .pointer (some ⟨ja, 0, none⟩) ∧ v6 = .pointer (some ⟨jb, 0, none⟩) ∧ B0 ≤ ja ∧ B0 ≤ jb ∧ Hid (At4 wx ja la ka lza kza ∧ At4 wx jb lb kb lzb kzb) ∧ Hid (St W wx ∧ AtV wx (W.heap.size) x1 x2 ∧ AtV wx (W.heap.size + 1) y1 y2))
  case first =>
    go_region_held3 (fun X => St W X ∧ AtV X (W.heap.size) x1 x2 ∧ AtV X (W.heap.size + 1) y1 y2 ∧ X.cell? ⟨W.heap.size, 0, none⟩ = some (.string x1) ∧ X.cell? ⟨W.heap.size, 1, none⟩ = some (.string x2) ∧ X.cell? ⟨W.heap.size + 1, 0, none⟩ = some (.string y1) ∧ X.cell? ⟨W.heap.size + 1, 1, none⟩ = some (.string y2))
      (first
        | (with_reducible exact ⟨hS.1.next hb, hS.2.1.grows hb, hS.2.2.1.grows hb, St.cell hb hS.2.2.2.1, St.cell hb hS.2.2.2.2.1, St.cell hb hS.2.2.2.2.2.1, St.cell hb hS.2.2.2.2.2.2⟩)
        | (have hT : St W _ ∧ _ := (by assumption); with_reducible exact ⟨(hT.1).alloc _, (hT.2.1).alloc _, (hT.2.2.1).alloc _, cellAl (hT.2.2.2.1) _, cellAl (hT.2.2.2.2.1) _, cellAl (hT.2.2.2.2.2.1) _, cellAl (hT.2.2.2.2.2.2) _⟩)
        | (with_reducible exact ⟨(hS.1.next hb).alloc _, (hS.2.1.grows hb).alloc _, (hS.2.2.1.grows hb).alloc _, cellAl (St.cell hb hS.2.2.2.1) _, cellAl (St.cell hb hS.2.2.2.2.1) _, cellAl (St.cell hb hS.2.2.2.2.2.1) _, cellAl (St.cell hb hS.2.2.2.2.2.2) _⟩)
        | (with_reducible exact ⟨((hS.1.next hb).alloc _).alloc _, ((hS.2.1.grows hb).alloc _).alloc _, ((hS.2.2.1.grows hb).alloc _).alloc _, cellAl (cellAl (St.cell hb hS.2.2.2.1) _) _, cellAl (cellAl (St.cell hb hS.2.2.2.2.1) _) _, cellAl (cellAl (St.cell hb hS.2.2.2.2.2.1) _) _, cellAl (cellAl (St.cell hb hS.2.2.2.2.2.2) _) _⟩)
        | (have hT : St W _ ∧ _ := (by assumption); exact ⟨(hT.1).set4 (by omega) _ _ _ _, (hT.2.1).set4 (by omega) _ _ _ _, (hT.2.2.1).set4 (by omega) _ _ _ _, set4_other (hT.2.2.2.1) (by omega) _ _ _ _, set4_other (hT.2.2.2.2.1) (by omega) _ _ _ _, set4_other (hT.2.2.2.2.2.1) (by omega) _ _ _ _, set4_other (hT.2.2.2.2.2.2) (by omega) _ _ _ _⟩)
        | exact ⟨hsn.drew, Hu.out.drew, Hv.out.drew, u0, u1, v0, v1⟩
        | exact ⟨((hsn).alloc _).drew, ((Hu.out).alloc _).drew, ((Hv.out).alloc _).drew, cellAl (u0) _, cellAl (u1) _, cellAl (v0) _, cellAl (v1) _⟩
        | exact ⟨(((hsn).alloc _).alloc _).drew, (((Hu.out).alloc _).alloc _).drew, (((Hv.out).alloc _).alloc _).drew, cellAl (cellAl (u0) _) _, cellAl (cellAl (u1) _) _, cellAl (cellAl (v0) _) _, cellAl (cellAl (v1) _) _⟩)
      (first
        | (go_at_call 17; have hS : St W _ ∧ _ := (by assumption); (with_reducible refine (CA.out _ hS.1.tabs hS.1.six').mono ?_); rintro e w6 ⟨rfl, hb⟩; (first | (have hz := (HZ.out.box.box).next hb; (try simp only [World.size_alloc] at hz); have HZ := mkHid hz; clear hz) | (have hz := (HZ.out.box).next hb; (try simp only [World.size_alloc] at hz); have HZ := mkHid hz; clear hz) | (have hz := (HZ.out).next hb; (try simp only [World.size_alloc] at hz); have HZ := mkHid hz; clear hz) | (have hz := (HZ.out.box.box.drew).next hb; (try simp only [World.size_alloc] at hz); have HZ := mkHid hz; clear hz) | (have hz := (HZ.out.box.drew).next hb; (try simp only [World.size_alloc] at hz); have HZ := mkHid hz; clear hz) | (have hz := (HZ.out.drew).next hb; (try simp only [World.size_alloc] at hz); have HZ := mkHid hz; clear hz) ); (try obtain ⟨⟨za0, za1, za2, za3⟩, za4, za5, za6, za7⟩ := HZ.out _ (.head _)); (try obtain ⟨⟨zb0, zb1, zb2, zb3⟩, zb4, zb5, zb6, zb7⟩ := HZ.out _ (.tail _ (.head _))); have h9 := hb.size; (try simp at h9); have hz6 : B0 ≤ w6.heap.size := (by have h8 := hz6; omega))
        | (go_at_call 17; have hS : St W _ ∧ _ := (by assumption); (with_reducible refine (CB.out _ hS.1.tabs hS.1.six').mono ?_); rintro e w6 ⟨rfl, hb⟩; (first | (have hz := (HZ.out.box.box).next hb; (try simp only [World.size_alloc] at hz); have HZ := mkHid hz; clear hz) | (have hz := (HZ.out.box).next hb; (try simp only [World.size_alloc] at hz); have HZ := mkHid hz; clear hz) | (have hz := (HZ.out).next hb; (try simp only [World.size_alloc] at hz); have HZ := mkHid hz; clear hz) | (have hz := (HZ.out.box.box.drew).next hb; (try simp only [World.size_alloc] at hz); have HZ := mkHid hz; clear hz) | (have hz := (HZ.out.box.drew).next hb; (try simp only [World.size_alloc] at hz); have HZ := mkHid hz; clear hz) | (have hz := (HZ.out.drew).next hb; (try simp only [World.size_alloc] at hz); have HZ := mkHid hz; clear hz) ); (try obtain ⟨⟨za0, za1, za2, za3⟩, za4, za5, za6, za7⟩ := HZ.out _ (.head _)); (try obtain ⟨⟨zb0, zb1, zb2, zb3⟩, zb4, zb5, zb6, zb7⟩ := HZ.out _ (.tail _ (.head _))); have h9 := hb.size; (try simp at h9); have hz6 : B0 ≤ w6.heap.size := (by have h8 := hz6; omega); (try obtain ⟨⟨m00, m01, m02, m03⟩, m04, m05, m06, m07⟩ := (HZ.out _ (.head _)).alloc (.cells #[.int .u64 0, .string ⟨#[]⟩, .int .u64 0, .string ⟨#[]⟩] 26)); (try obtain ⟨⟨m10, m11, m12, m13⟩, m14, m15, m16, m17⟩ := (HZ.out _ (.head _)).alloc (.cells #[.int .u64 (la : Int), .string ka, .int .u64 (lza : Int), .string kza] 26)); (try obtain ⟨⟨m20, m21, m22, m23⟩, m24, m25, m26, m27⟩ := At4.setOff ((Zq.box (Zq.nil w6)) _ (.head _)) (Nat.ne_of_gt (HZ.out _ (.head _)).lt) (.int .u64 (la : Int)) (.string ka) (.int .u64 (lza : Int)) (.string kza)); (try obtain ⟨⟨m30, m31, m32, m33⟩, m34, m35, m36, m37⟩ := (HZ.out _ (.tail _ (.head _))).alloc (.cells #[.int .u64 0, .string ⟨#[]⟩, .int .u64 0, .string ⟨#[]⟩] 26)); (try obtain ⟨⟨m40, m41, m42, m43⟩, m44, m45, m46, m47⟩ := (HZ.out _ (.tail _ (.head _))).alloc (.cells #[.int .u64 (la : Int), .string ka, .int .u64 (lza : Int), .string kza] 26)); (try obtain ⟨⟨m50, m51, m52, m53⟩, m54, m55, m56, m57⟩ := At4.setOff ((Zq.box (Zq.nil w6)) _ (.head _)) (Nat.ne_of_gt (HZ.out _ (.tail _ (.head _))).lt) (.int .u64 (la : Int)) (.string ka) (.int .u64 (lza : Int)) (.string kza)); (try obtain ⟨⟨m60, m61, m62, m63⟩, m64, m65, m66, m67⟩ := At4.offOf (HZ.out _ (.head _)) (HZ.out _ (.tail _ (.head _))) (by first | omega | (simp; omega)) (.int .u64 (la : Int)) (.string ka) (.int .u64 (lza : Int)) (.string kza)); (try obtain ⟨⟨m70, m71, m72, m73⟩, m74, m75, m76, m77⟩ := At4.offOf (HZ.out _ (.tail _ (.head _))) (HZ.out _ (.head _)) (by first | omega | (simp; omega)) (.int .u64 (la : Int)) (.string ka) (.int .u64 (lza : Int)) (.string kza))))
    all_goals
      have hT : St W _ ∧ _ := (by assumption)
      have HT := mkHid hT
      clear hT
      go_wp2_with fail
      go_meet
      refine ⟨_, _, rfl, rfl, (by (first | omega | (simp; omega) | simp | (have := (HZ.out _ (.head _)).lt; omega) | (have := (HZ.out _ (.head _)).lt; have := (HZ.out _ (.tail _ (.head _))).lt; omega))), (by (first | omega | (simp; omega) | simp | (have := (HZ.out _ (.head _)).lt; omega) | (have := (HZ.out _ (.head _)).lt; have := (HZ.out _ (.tail _ (.head _))).lt; omega))), mkHid ?_, mkHid ⟨HT.out.1, HT.out.2.1, HT.out.2.2.1⟩⟩
      refine ⟨?_, ?_⟩
      · first
          | (with_reducible exact (At4.new w6 w6.heap.size la ka lza kza rfl).alloc _)
          | (with_reducible exact At4.new _ _ la ka lza kza (by simp))
          | (with_reducible exact (At4.new w6 w6.heap.size la ka lza kza rfl).setOff (by (try have g1 := (Zq.h1 HZ.out).lt); (try have g2 := (Zq.h2 HZ.out).lt); omega) _ _ _ _)
          | (with_reducible exact ((At4.set ((Zq.h1 HZ.out).alloc _) la ka lza kza)).setOff (by (try have g1 := (Zq.h1 HZ.out).lt); (try have g2 := (Zq.h2 HZ.out).lt); omega) _ _ _ _)
          | (with_reducible exact (At4.set (Zq.h1 HZ.out) la ka lza kza).setOff (by (try have g1 := (Zq.h1 HZ.out).lt); (try have g2 := (Zq.h2 HZ.out).lt); omega) _ _ _ _)
          | (with_reducible exact (At4.set ((Zq.h2 HZ.out).alloc _) la ka lza kza).setOff (by (try have g1 := (Zq.h1 HZ.out).lt); (try have g2 := (Zq.h2 HZ.out).lt); omega) _ _ _ _)
          | (with_reducible exact (At4.set (Zq.h2 HZ.out) la ka lza kza).setOff (by (try have g1 := (Zq.h1 HZ.out).lt); (try have g2 := (Zq.h2 HZ.out).lt); omega) _ _ _ _)
      · first
          | (with_reducible exact At4.new _ _ lb kb lzb kzb (by simp))
          | (with_reducible exact (At4.new w6 w6.heap.size lb kb lzb kzb rfl).alloc _)
          | (with_reducible exact At4.set ((Zq.h1 (Zq.box (Zq.nil w6))).setOff (by (try have g1 := (Zq.h1 HZ.out).lt); (try have g2 := (Zq.h2 HZ.out).lt); omega) _ _ _ _) lb kb lzb kzb)
          | (with_reducible exact At4.set ((Zq.h1 HZ.out).setOff (by (try have g1 := (Zq.h1 HZ.out).lt); (try have g2 := (Zq.h2 HZ.out).lt); omega) _ _ _ _) lb kb lzb kzb)
          | (with_reducible exact At4.set ((Zq.h1 HZ.out).alloc _) lb kb lzb kzb)
          | (with_reducible exact At4.set ((Zq.h2 HZ.out).setOff (by (try have g1 := (Zq.h1 HZ.out).lt); (try have g2 := (Zq.h2 HZ.out).lt); omega) _ _ _ _) lb kb lzb kzb)
          | (with_reducible exact At4.set ((Zq.h2 HZ.out).alloc _) lb kb lzb kzb)
  case rest =>
  clear hsn HZ HS Hu Hv u0 u1 v0 v1
  obtain ⟨ja, jb, rfl, rfl, hja, hjb, HN, HO⟩ := hcut
  have Ha := mkHid HN.out.1
  have Hb := mkHid HN.out.2
  have HS := mkHid HO.out.1
  have Hu := mkHid HO.out.2.1
  have Hv := mkHid HO.out.2.2
  clear HN HO hB0 hz6 hW0 hlu hlv hja hjb
  clear B0
  obtain ⟨u0, u1⟩ := Hu.out
  obtain ⟨v0, v1⟩ := Hv.out
  obtain ⟨⟨a0, a1, a2, a3⟩, -⟩ := Ha.out
  obtain ⟨⟨b0, b1, b2, b3⟩, -⟩ := Hb.out
  go_upto_region 2 with (fail)
  obtain ⟨w6, hw6⟩ : ∃ x, x = wc := ⟨_, rfl⟩
  subst hw6
  have hsn := HS.out
  obtain ⟨B0, hB0⟩ : ∃ n, n = w6.heap.size := ⟨_, rfl⟩
  have hz6 : B0 ≤ w6.heap.size := by omega
  have hW0 : W.heap.size ≤ B0 := by rw [hB0]; exact hsn.size
  have hla : ja < B0 := by rw [hB0]; exact Ha.out.lt
  have hlb : jb < B0 := by rw [hB0]; exact Hb.out.lt
  obtain ⟨⟨a0, a1, a2, a3⟩, -⟩ := Ha.out
  obtain ⟨⟨b0, b1, b2, b3⟩, -⟩ := Hb.out
  have HZ := mkHid (Zq.nil w6)
  go_cut [7, 8] (fun v7 v8 wx => ∃ jc : Nat, v7 = .pointer (some ⟨jc, 0, none⟩) ∧ v8 = .bool true ∧ B0 ≤ jc ∧ Hid (At4 wx jc la ka lza kza) ∧ Hid (St W wx ∧ At4 wx (ja) la ka lza kza ∧ At4 wx (jb) lb kb lzb kzb))
  case first =>
    go_region_held3 (fun X => St W X ∧ At4 X (ja) la ka lza kza ∧ At4 X (jb) lb kb lzb kzb ∧ X.cell? ⟨ja, 0, none⟩ = some (.int .u64 (la : Int)) ∧ X.cell? ⟨ja, 1, none⟩ = some (.string ka) ∧ X.cell? ⟨ja, 2, none⟩ = some (.int .u64 (lza : Int)) ∧ X.cell? ⟨ja, 3, none⟩ = some (.string kza) ∧ X.cell? ⟨jb, 0, none⟩ = some (.int .u64 (lb : Int)) ∧ X.cell? ⟨jb, 1, none⟩ = some (.string kb) ∧ X.cell? ⟨jb, 2, none⟩ = some (.int .u64 (lzb : Int)) ∧ X.cell? ⟨jb, 3, none⟩ = some (.string kzb))
      (first
        | (with_reducible exact ⟨hS.1.next hb, hS.2.1.grows hb, hS.2.2.1.grows hb, St.cell hb hS.2.2.2.1, St.cell hb hS.2.2.2.2.1, St.cell hb hS.2.2.2.2.2.1, St.cell hb hS.2.2.2.2.2.2.1, St.cell hb hS.2.2.2.2.2.2.2.1, St.cell hb hS.2.2.2.2.2.2.2.2.1, St.cell hb hS.2.2.2.2.2.2.2.2.2.1, St.cell hb hS.2.2.2.2.2.2.2.2.2.2⟩)
        | (have hT : St W _ ∧ _ := (by assumption); with_reducible exact ⟨(hT.1).alloc _, (hT.2.1).alloc _, (hT.2.2.1).alloc _, cellAl (hT.2.2.2.1) _, cellAl (hT.2.2.2.2.1) _, cellAl (hT.2.2.2.2.2.1) _, cellAl (hT.2.2.2.2.2.2.1) _, cellAl (hT.2.2.2.2.2.2.2.1) _, cellAl (hT.2.2.2.2.2.2.2.2.1) _, cellAl (hT.2.2.2.2.2.2.2.2.2.1) _, cellAl (hT.2.2.2.2.2.2.2.2.2.2) _⟩)
        | (with_reducible exact ⟨(hS.1.next hb).alloc _, (hS.2.1.grows hb).alloc _, (hS.2.2.1.grows hb).alloc _, cellAl (St.cell hb hS.2.2.2.1) _, cellAl (St.cell hb hS.2.2.2.2.1) _, cellAl (St.cell hb hS.2.2.2.2.2.1) _, cellAl (St.cell hb hS.2.2.2.2.2.2.1) _, cellAl (St.cell hb hS.2.2.2.2.2.2.2.1) _, cellAl (St.cell hb hS.2.2.2.2.2.2.2.2.1) _, cellAl (St.cell hb hS.2.2.2.2.2.2.2.2.2.1) _, cellAl (St.cell hb hS.2.2.2.2.2.2.2.2.2.2) _⟩)
        | (have hT : St W _ ∧ _ := (by assumption); exact ⟨(hT.1).set4 (by omega) _ _ _ _, (hT.2.1).set4 (by omega) _ _ _ _, (hT.2.2.1).set4 (by omega) _ _ _ _, set4_other (hT.2.2.2.1) (by omega) _ _ _ _, set4_other (hT.2.2.2.2.1) (by omega) _ _ _ _, set4_other (hT.2.2.2.2.2.1) (by omega) _ _ _ _, set4_other (hT.2.2.2.2.2.2.1) (by omega) _ _ _ _, set4_other (hT.2.2.2.2.2.2.2.1) (by omega) _ _ _ _, set4_other (hT.2.2.2.2.2.2.2.2.1) (by omega) _ _ _ _, set4_other (hT.2.2.2.2.2.2.2.2.2.1) (by omega) _ _ _ _, set4_other (hT.2.2.2.2.2.2.2.2.2.2) (by omega) _ _ _ _⟩)
        | exact ⟨hsn.drew, Ha.out.drew, Hb.out.drew, a0, a1, a2, a3, b0, b1, b2, b3⟩
        | exact ⟨((hsn).alloc _).drew, ((Ha.out).alloc _).drew, ((Hb.out).alloc _).drew, cellAl (a0) _, cellAl (a1) _, cellAl (a2) _, cellAl (a3) _, cellAl (b0) _, cellAl (b1) _, cellAl (b2) _, cellAl (b3) _⟩)
      (first
        | (go_at_call 19; have hS : St W _ ∧ _ := (by assumption); (with_reducible refine (CS.out _ hS.1.tabs hS.1.six').mono ?_); rintro e w6 ⟨rfl, hb⟩; (first | (have hz := (HZ.out.box).next hb; (try simp only [World.size_alloc] at hz); have HZ := mkHid hz; clear hz) | (have hz := (HZ.out).next hb; (try simp only [World.size_alloc] at hz); have HZ := mkHid hz; clear hz) | (have hz := (HZ.out.box.drew).next hb; (try simp only [World.size_alloc] at hz); have HZ := mkHid hz; clear hz) | (have hz := (HZ.out.drew).next hb; (try simp only [World.size_alloc] at hz); have HZ := mkHid hz; clear hz) ); (try obtain ⟨⟨za0, za1, za2, za3⟩, za4, za5, za6, za7⟩ := HZ.out _ (.head _)); have h9 := hb.size; (try simp at h9); have hz6 : B0 ≤ w6.heap.size := (by have h8 := hz6; omega))
        | (go_at_call 21; have hS : St W _ ∧ _ := (by assumption); (with_reducible refine (CU.out _ hS.1.tabs hS.1.six').mono ?_); rintro e w6 ⟨rfl, hb⟩; (first | (have hz := (HZ.out.box).next hb; (try simp only [World.size_alloc] at hz); have HZ := mkHid hz; clear hz) | (have hz := (HZ.out).next hb; (try simp only [World.size_alloc] at hz); have HZ := mkHid hz; clear hz) | (have hz := (HZ.out.box.drew).next hb; (try simp only [World.size_alloc] at hz); have HZ := mkHid hz; clear hz) | (have hz := (HZ.out.drew).next hb; (try simp only [World.size_alloc] at hz); have HZ := mkHid hz; clear hz) ); (try obtain ⟨⟨za0, za1, za2, za3⟩, za4, za5, za6, za7⟩ := HZ.out _ (.head _)); have h9 := hb.size; (try simp at h9); have hz6 : B0 ≤ w6.heap.size := (by have h8 := hz6; omega)))
    all_goals
      have hT : St W _ ∧ _ := (by assumption)
      have HT := mkHid hT
      clear hT
      go_wp2_with fail
      go_meet
      refine ⟨_, rfl, rfl, (by (first | omega | (simp; omega) | simp | (have := (HZ.out _ (.head _)).lt; omega) | (have := (HZ.out _ (.head _)).lt; have := (HZ.out _ (.tail _ (.head _))).lt; omega))), mkHid ?_, mkHid ⟨HT.out.1, HT.out.2.1, HT.out.2.2.1⟩⟩
      first
        | (with_reducible exact At4.new _ _ la ka lza kza (by simp))
        | (with_reducible exact At4.set (Zq.h1 HZ.out) la ka lza kza)
        | (with_reducible exact At4.set (At4.new _ _ 0 ⟨#[]⟩ 0 ⟨#[]⟩ rfl) la ka lza kza)
  case rest =>
  clear hsn HZ HS Ha Hb a0 a1 a2 a3 b0 b1 b2 b3
  obtain ⟨jc, rfl, rfl, hjc, HN, HO⟩ := hcut
  have Hc := mkHid HN.out
  have HS := mkHid HO.out.1
  have Ha := mkHid HO.out.2.1
  have Hb := mkHid HO.out.2.2
  clear HN HO hB0 hz6 hW0 hla hlb hjc
  clear B0
  obtain ⟨⟨a0, a1, a2, a3⟩, -⟩ := Ha.out
  obtain ⟨⟨b0, b1, b2, b3⟩, -⟩ := Hb.out
  obtain ⟨⟨c0, c1, c2, c3⟩, -⟩ := Hc.out
  go_upto_region 7 with (first | (go_at_call 18; (with_reducible refine (CE.out _ HS.out.tabs HS.out.six').mono ?_); rintro e w6 ⟨rfl, hb⟩; have HS := mkHid (HS.out.next hb); have Ha := mkHid (Ha.out.grows hb); have Hb := mkHid (Hb.out.grows hb); have Hc := mkHid (Hc.out.grows hb); clear hb; obtain ⟨⟨a0, a1, a2, a3⟩, -⟩ := Ha.out; obtain ⟨⟨b0, b1, b2, b3⟩, -⟩ := Hb.out; obtain ⟨⟨c0, c1, c2, c3⟩, -⟩ := Hc.out) | (go_at_call 22; (with_reducible refine (CT.out _ HS.out.tabs HS.out.six').mono ?_); rintro e w6 ⟨rfl, hb⟩; have HS := mkHid (HS.out.next hb); have Ha := mkHid (Ha.out.grows hb); have Hb := mkHid (Hb.out.grows hb); have Hc := mkHid (Hc.out.grows hb); clear hb; obtain ⟨⟨a0, a1, a2, a3⟩, -⟩ := Ha.out; obtain ⟨⟨b0, b1, b2, b3⟩, -⟩ := Hb.out; obtain ⟨⟨c0, c1, c2, c3⟩, -⟩ := Hc.out))
  have hsn := HS.out
  obtain ⟨B0, hB0⟩ : ∃ n, n = w6.heap.size := ⟨_, rfl⟩
  have hz6 : B0 ≤ w6.heap.size := by omega
  have hW0 : W.heap.size ≤ B0 := by rw [hB0]; exact hsn.size
  have hla : ja < B0 := by rw [hB0]; exact Ha.out.lt
  have hlb : jb < B0 := by rw [hB0]; exact Hb.out.lt
  obtain ⟨⟨a0, a1, a2, a3⟩, -⟩ := Ha.out
  obtain ⟨⟨b0, b1, b2, b3⟩, -⟩ := Hb.out
  have HZ := mkHid (Zq.nil w6)
  go_cut [9, 10] (fun v9 v10 wx => ∃ jq : Nat, v9 = .pointer (some ⟨jq, 0, none⟩) ∧ v10 = .bool true ∧ B0 ≤ jq ∧ Hid (At4 wx jq la ka lza kza) ∧ Hid (St W wx ∧ At4 wx (ja) la ka lza kza ∧ At4 wx (jb) lb kb lzb kzb))
  case first =>
    go_region_held3 (fun X => St W X ∧ At4 X (ja) la ka lza kza ∧ At4 X (jb) lb kb lzb kzb ∧ X.cell? ⟨ja, 0, none⟩ = some (.int .u64 (la : Int)) ∧ X.cell? ⟨ja, 1, none⟩ = some (.string ka) ∧ X.cell? ⟨ja, 2, none⟩ = some (.int .u64 (lza : Int)) ∧ X.cell? ⟨ja, 3, none⟩ = some (.string kza) ∧ X.cell? ⟨jb, 0, none⟩ = some (.int .u64 (lb : Int)) ∧ X.cell? ⟨jb, 1, none⟩ = some (.string kb) ∧ X.cell? ⟨jb, 2, none⟩ = some (.int .u64 (lzb : Int)) ∧ X.cell? ⟨jb, 3, none⟩ = some (.string kzb))
      (first
        | (with_reducible exact ⟨hS.1.next hb, hS.2.1.grows hb, hS.2.2.1.grows hb, St.cell hb hS.2.2.2.1, St.cell hb hS.2.2.2.2.1, St.cell hb hS.2.2.2.2.2.1, St.cell hb hS.2.2.2.2.2.2.1, St.cell hb hS.2.2.2.2.2.2.2.1, St.cell hb hS.2.2.2.2.2.2.2.2.1, St.cell hb hS.2.2.2.2.2.2.2.2.2.1, St.cell hb hS.2.2.2.2.2.2.2.2.2.2⟩)
        | (have hT : St W _ ∧ _ := (by assumption); with_reducible exact ⟨(hT.1).alloc _, (hT.2.1).alloc _, (hT.2.2.1).alloc _, cellAl (hT.2.2.2.1) _, cellAl (hT.2.2.2.2.1) _, cellAl (hT.2.2.2.2.2.1) _, cellAl (hT.2.2.2.2.2.2.1) _, cellAl (hT.2.2.2.2.2.2.2.1) _, cellAl (hT.2.2.2.2.2.2.2.2.1) _, cellAl (hT.2.2.2.2.2.2.2.2.2.1) _, cellAl (hT.2.2.2.2.2.2.2.2.2.2) _⟩)
        | (with_reducible exact ⟨(hS.1.next hb).alloc _, (hS.2.1.grows hb).alloc _, (hS.2.2.1.grows hb).alloc _, cellAl (St.cell hb hS.2.2.2.1) _, cellAl (St.cell hb hS.2.2.2.2.1) _, cellAl (St.cell hb hS.2.2.2.2.2.1) _, cellAl (St.cell hb hS.2.2.2.2.2.2.1) _, cellAl (St.cell hb hS.2.2.2.2.2.2.2.1) _, cellAl (St.cell hb hS.2.2.2.2.2.2.2.2.1) _, cellAl (St.cell hb hS.2.2.2.2.2.2.2.2.2.1) _, cellAl (St.cell hb hS.2.2.2.2.2.2.2.2.2.2) _⟩)
        | (have hT : St W _ ∧ _ := (by assumption); exact ⟨(hT.1).set4 (by omega) _ _ _ _, (hT.2.1).set4 (by omega) _ _ _ _, (hT.2.2.1).set4 (by omega) _ _ _ _, set4_other (hT.2.2.2.1) (by omega) _ _ _ _, set4_other (hT.2.2.2.2.1) (by omega) _ _ _ _, set4_other (hT.2.2.2.2.2.1) (by omega) _ _ _ _, set4_other (hT.2.2.2.2.2.2.1) (by omega) _ _ _ _, set4_other (hT.2.2.2.2.2.2.2.1) (by omega) _ _ _ _, set4_other (hT.2.2.2.2.2.2.2.2.1) (by omega) _ _ _ _, set4_other (hT.2.2.2.2.2.2.2.2.2.1) (by omega) _ _ _ _, set4_other (hT.2.2.2.2.2.2.2.2.2.2) (by omega) _ _ _ _⟩)
        | exact ⟨hsn.drew, Ha.out.drew, Hb.out.drew, a0, a1, a2, a3, b0, b1, b2, b3⟩
        | exact ⟨((hsn).alloc _).drew, ((Ha.out).alloc _).drew, ((Hb.out).alloc _).drew, cellAl (a0) _, cellAl (a1) _, cellAl (a2) _, cellAl (a3) _, cellAl (b0) _, cellAl (b1) _, cellAl (b2) _, cellAl (b3) _⟩)
      (first
        | (go_at_call 20; have hS : St W _ ∧ _ := (by assumption); (with_reducible refine (CM.out _ hS.1.tabs hS.1.six').mono ?_); rintro e w6 ⟨rfl, hb⟩; (first | (have hz := (HZ.out.box).next hb; (try simp only [World.size_alloc] at hz); have HZ := mkHid hz; clear hz) | (have hz := (HZ.out).next hb; (try simp only [World.size_alloc] at hz); have HZ := mkHid hz; clear hz) | (have hz := (HZ.out.box.drew).next hb; (try simp only [World.size_alloc] at hz); have HZ := mkHid hz; clear hz) | (have hz := (HZ.out.drew).next hb; (try simp only [World.size_alloc] at hz); have HZ := mkHid hz; clear hz) ); (try obtain ⟨⟨za0, za1, za2, za3⟩, za4, za5, za6, za7⟩ := HZ.out _ (.head _)); have h9 := hb.size; (try simp at h9); have hz6 : B0 ≤ w6.heap.size := (by have h8 := hz6; omega))
        | (go_at_call 23; have hS : St W _ ∧ _ := (by assumption); (with_reducible refine (CD.out _ hS.1.tabs hS.1.six').mono ?_); rintro e w6 ⟨rfl, hb⟩; (first | (have hz := (HZ.out.box).next hb; (try simp only [World.size_alloc] at hz); have HZ := mkHid hz; clear hz) | (have hz := (HZ.out).next hb; (try simp only [World.size_alloc] at hz); have HZ := mkHid hz; clear hz) | (have hz := (HZ.out.box.drew).next hb; (try simp only [World.size_alloc] at hz); have HZ := mkHid hz; clear hz) | (have hz := (HZ.out.drew).next hb; (try simp only [World.size_alloc] at hz); have HZ := mkHid hz; clear hz) ); (try obtain ⟨⟨za0, za1, za2, za3⟩, za4, za5, za6, za7⟩ := HZ.out _ (.head _)); have h9 := hb.size; (try simp at h9); have hz6 : B0 ≤ w6.heap.size := (by have h8 := hz6; omega)))
    all_goals
      have hT : St W _ ∧ _ := (by assumption)
      have HT := mkHid hT
      clear hT
      go_wp2_with fail
      go_meet
      refine ⟨_, rfl, rfl, (by (first | omega | (simp; omega) | simp | (have := (HZ.out _ (.head _)).lt; omega) | (have := (HZ.out _ (.head _)).lt; have := (HZ.out _ (.tail _ (.head _))).lt; omega))), mkHid ?_, mkHid ⟨HT.out.1, HT.out.2.1, HT.out.2.2.1⟩⟩
      first
        | (with_reducible exact At4.new _ _ la ka lza kza (by simp))
        | (with_reducible exact At4.set (Zq.h1 HZ.out) la ka lza kza)
        | (with_reducible exact At4.set (At4.new _ _ 0 ⟨#[]⟩ 0 ⟨#[]⟩ rfl) la ka lza kza)
  case rest =>
  clear hsn HZ HS Ha Hb a0 a1 a2 a3 b0 b1 b2 b3
  obtain ⟨jq, rfl, rfl, hjq, HN, HO⟩ := hcut
  have Hq := mkHid HN.out
  have HS := mkHid HO.out.1
  have Ha := mkHid HO.out.2.1
  have Hb := mkHid HO.out.2.2
  clear HN HO hB0 hz6 hW0 hla hlb hjq
  clear B0
  obtain ⟨⟨a0, a1, a2, a3⟩, -⟩ := Ha.out
  obtain ⟨⟨b0, b1, b2, b3⟩, -⟩ := Hb.out
  obtain ⟨⟨q0, q1, q2, q3⟩, -⟩ := Hq.out
  go_upto_region 9 with (first | (go_at_call 23; (with_reducible refine (CP.out _ HS.out.tabs HS.out.six').mono ?_); rintro e w7 ⟨rfl, hb⟩; have HS := mkHid (HS.out.next hb); have Ha := mkHid (Ha.out.grows hb); have Hb := mkHid (Hb.out.grows hb); have Hq := mkHid (Hq.out.grows hb); have HS := mkHid (HS.out.alloc (.cells #[.int .u64 (ld : Int), .string kd, .int .u64 (lzd : Int), .string kzd] 26)); have Ha := mkHid (Ha.out.alloc (.cells #[.int .u64 (ld : Int), .string kd, .int .u64 (lzd : Int), .string kzd] 26)); have Hb := mkHid (Hb.out.alloc (.cells #[.int .u64 (ld : Int), .string kd, .int .u64 (lzd : Int), .string kzd] 26)); have Hq := mkHid (Hq.out.alloc (.cells #[.int .u64 (ld : Int), .string kd, .int .u64 (lzd : Int), .string kzd] 26)); have Hp := mkHid (At4.new w7 w7.heap.size ld kd lzd kzd rfl); clear hb; obtain ⟨⟨a0, a1, a2, a3⟩, -⟩ := Ha.out; obtain ⟨⟨b0, b1, b2, b3⟩, -⟩ := Hb.out; obtain ⟨⟨q0, q1, q2, q3⟩, -⟩ := Hq.out; obtain ⟨⟨p0, p1, p2, p3⟩, -⟩ := Hp.out))
  have hsn := HS.out
  obtain ⟨⟨a0, a1, a2, a3⟩, -⟩ := Ha.out
  obtain ⟨⟨b0, b1, b2, b3⟩, -⟩ := Hb.out
  obtain ⟨⟨q0, q1, q2, q3⟩, -⟩ := Hq.out
  obtain ⟨⟨p0, p1, p2, p3⟩, -⟩ := Hp.out
  go_region_held3 (fun X => St W X ∧ X.cell? ⟨ja, 0, none⟩ = some (.int .u64 (la : Int)) ∧ X.cell? ⟨ja, 1, none⟩ = some (.string ka) ∧ X.cell? ⟨ja, 2, none⟩ = some (.int .u64 (lza : Int)) ∧ X.cell? ⟨ja, 3, none⟩ = some (.string kza) ∧ X.cell? ⟨jb, 0, none⟩ = some (.int .u64 (lb : Int)) ∧ X.cell? ⟨jb, 1, none⟩ = some (.string kb) ∧ X.cell? ⟨jb, 2, none⟩ = some (.int .u64 (lzb : Int)) ∧ X.cell? ⟨jb, 3, none⟩ = some (.string kzb) ∧ X.cell? ⟨jq, 0, none⟩ = some (.int .u64 (la : Int)) ∧ X.cell? ⟨jq, 1, none⟩ = some (.string ka) ∧ X.cell? ⟨jq, 2, none⟩ = some (.int .u64 (lza : Int)) ∧ X.cell? ⟨jq, 3, none⟩ = some (.string kza) ∧ X.cell? ⟨w7.heap.size, 0, none⟩ = some (.int .u64 (ld : Int)) ∧ X.cell? ⟨w7.heap.size, 1, none⟩ = some (.string kd) ∧ X.cell? ⟨w7.heap.size, 2, none⟩ = some (.int .u64 (lzd : Int)) ∧ X.cell? ⟨w7.heap.size, 3, none⟩ = some (.string kzd))
    (first
      | (with_reducible exact ⟨hS.1.next hb, St.cell hb hS.2.1, St.cell hb hS.2.2.1, St.cell hb hS.2.2.2.1, St.cell hb hS.2.2.2.2.1, St.cell hb hS.2.2.2.2.2.1, St.cell hb hS.2.2.2.2.2.2.1, St.cell hb hS.2.2.2.2.2.2.2.1, St.cell hb hS.2.2.2.2.2.2.2.2.1, St.cell hb hS.2.2.2.2.2.2.2.2.2.1, St.cell hb hS.2.2.2.2.2.2.2.2.2.2.1, St.cell hb hS.2.2.2.2.2.2.2.2.2.2.2.1, St.cell hb hS.2.2.2.2.2.2.2.2.2.2.2.2.1, St.cell hb hS.2.2.2.2.2.2.2.2.2.2.2.2.2.1, St.cell hb hS.2.2.2.2.2.2.2.2.2.2.2.2.2.2.1, St.cell hb hS.2.2.2.2.2.2.2.2.2.2.2.2.2.2.2.1, St.cell hb hS.2.2.2.2.2.2.2.2.2.2.2.2.2.2.2.2⟩)
      | exact ⟨hsn.drew, a0, a1, a2, a3, b0, b1, b2, b3, q0, q1, q2, q3, p0, p1, p2, p3⟩)
    (first
      | (go_at_call 18; have hS : St W _ ∧ _ := (by assumption); (with_reducible refine (CE.out _ hS.1.tabs hS.1.six').mono ?_); rintro e w6 ⟨rfl, hb⟩)
      | (go_at_call 20; have hS : St W _ ∧ _ := (by assumption); (with_reducible refine (CQ.out _ hS.1.tabs hS.1.six').mono ?_); rintro e w6 ⟨rfl, hb⟩)
      | (go_at_call 18; have hS : St W _ ∧ _ := (by assumption); (with_reducible refine (CE.out _ hS.1.tabs hS.1.six').mono ?_); rintro e w6 ⟨rfl, hb⟩)
      | (go_at_call 16; have hS : St W _ ∧ _ := (by assumption); (with_reducible refine (CW.out _ hS.1.tabs hS.1.six').mono ?_); rintro e w6 ⟨rfl, hb⟩))
  have hT : St W _ ∧ _ := (by assumption)
  have HT := mkHid hT.1
  clear hT
  go_wp2_with fail
  go_ret
  exact ⟨rfl, HT.out.below⟩

theorem ratUndoes_any (x1 x2 y1 y2 : ByteArray) (w : World) (ht : Tabs w) (h6 : 6 ≤ w.heap.size) :
    Calls Tryd.prog 5 #[.agg #[.string x1, .string x2], .agg #[.string y1, .string y2]] w fun e w' => e = .returned (.bool true) ∧ Below w.heap.size w w' := by
  obtain ⟨n, d, h⟩ := taken x1 x2
  obtain ⟨m, c, k⟩ := taken y1 y2
  have CA := vrat_g x1 x2 n d h
  have CB := vrat_g y1 y2 m c k
  have l1 := h.lo
  have l2 := k.lo
  have w1 := h.kw
  have w2 := k.kw
  generalize rn n (pos1 d) = p1 at *
  generalize rd n (pos1 d) = q1 at *
  generalize rn m (pos1 c) = p2 at *
  generalize rd m (pos1 c) = q2 at *
  have k1 := w1.kb (by omega)
  have k2 := w2.kb (by omega)
  have hs := Kw.add w1 w2
  have ls := low (p1 * q2 + p2 * q1) (q1 * q2) (Nat.mul_pos l1.1 l2.1)
  obtain ⟨b1, b2, b3⟩ := sub_add_back l1 l2
  have CU := sub2_ok ls l2 (hs.kb (by omega)) k2 b1
  rw [b2, b3] at CU
  have CE := equal_same p1 q1 k1.num k1.den (by have := l1.1; omega)
  by_cases h0 : p2 = 0
  · have hq := l2
    rw [h0] at hq
    have hq1 := lo_zero_den hq
    have CT := rtext_g p2 q2 k2.num k2.den (by have := l2.1; omega)
    rw [h0, hq1, tx_one, ds_zero] at CT
    rw [h0, hq1] at CB CU
    have CS := add2_g l1 l2 k1 k2
    rw [h0, hq1] at CS
    exact undoes_zero x1 x2 y1 y2 p1 q1 0 1 _ _ _ CA CB CS CU CE CT rfl w ht h6
  · have CT := rtext_g p2 q2 k2.num k2.den (by have := l2.1; omega)
    have ne : ¬ tx p2 q2 = ⟨#[48]⟩ := fun e => h0 (tx_inj (p' := 0) (q' := 1) (by rw [e, tx_one, ds_zero])).1
    have CM := mul2_g l1 l2 k1 k2
    have lm := low (p1 * p2) (q1 * q2) (Nat.mul_pos l1.1 l2.1)
    have CD := div2_g lm l2 h0 ((Kw.mul w1 w2).kb (by omega)) k2
    obtain ⟨c1, c2⟩ := div_mul_back l1 l2 h0
    rw [c1, c2] at CD
    have CP := div2_g l1 l2 h0 k1 k2
    have ld := low (p1 * q2) (q1 * p2) (Nat.mul_pos l1.1 (Nat.pos_of_ne_zero h0))
    have CQ := mul2_g ld l2 ((Kw.div w1 w2).kb (by omega)) k2
    obtain ⟨d1, d2⟩ := mul_div_back l1 l2 h0
    rw [d1, d2] at CQ
    exact undoes_pos x1 x2 y1 y2 p1 q1 p2 q2 _ _ _ _ _ _ _ CA CB (add2_g l1 l2 k1 k2) CU CE CT CM CD CP CQ (bytes_ne48 ne) w ht h6
end Go.Proofs.YtflcdpolfimggaaDoor
