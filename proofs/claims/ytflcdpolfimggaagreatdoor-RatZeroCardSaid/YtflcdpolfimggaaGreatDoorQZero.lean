/- Package rat: RatZero. -/
import Derived.Test.YtflcdpolfimggaaGreatDoorQY
namespace Go.Proofs.YtflcdpolfimggaaGreatDoor
open Go.RowKit Q SD

/-- The quotient 0 in a box, as the program lays it. -/
def AtZ (w : World) (b : Nat) : Prop :=
  (w.cell? ⟨b, 0, none⟩ = some (.int .u64 0) ∧ w.cell? ⟨b, 1, none⟩ = some (.string ⟨#[]⟩) ∧ w.cell? ⟨b, 2, none⟩ = some (.int .u64 0) ∧ w.cell? ⟨b, 3, none⟩ = some (.string ⟨#[]⟩)) ∧
  (w.frozen? ⟨b, 0, none⟩ = false ∧ w.frozen? ⟨b, 1, none⟩ = false ∧ w.frozen? ⟨b, 2, none⟩ = false ∧ w.frozen? ⟨b, 3, none⟩ = false)
theorem AtZ.of {w : World} {b : Nat} (H : At4 w b 0 ⟨#[]⟩ 0 ⟨#[]⟩) : AtZ w b := H
theorem AtZ.to {w : World} {b : Nat} (H : AtZ w b) : At4 w b 0 ⟨#[]⟩ 0 ⟨#[]⟩ := H
theorem AtZ.lt {w : World} {b : Nat} (H : AtZ w b) : b < w.heap.size := H.to.lt
theorem AtZ.grows {w w' : World} {b : Nat} (H : AtZ w b) (hb : Below w.heap.size w w') : AtZ w' b := .of (H.to.grows hb)
theorem AtZ.alloc {w : World} {b : Nat} (H : AtZ w b) (o : Obj) : AtZ (w.alloc o) b := .of (H.to.alloc o)
theorem AtZ.drew {w : World} {b : Nat} (H : AtZ w b) : AtZ w.drew b := H
theorem AtZ.new (w : World) (n : Nat) (hn : n = w.heap.size) : AtZ (w.alloc (.cells #[.int .u64 0, .string ⟨#[]⟩, .int .u64 0, .string ⟨#[]⟩] 27)) n := .of (At4.new w n 0 ⟨#[]⟩ 0 ⟨#[]⟩ hn)
/-- The quotient 0 as a value. -/
abbrev zv : Value := .agg #[.int .u64 0, .string ⟨#[]⟩, .int .u64 0, .string ⟨#[]⟩]
theorem rv_zero : rv 0 1 = zv := by unfold rv; rw [dz_one, lo_zero, hi_zero]; rfl

theorem bytes_ne48z {t : ByteArray} (h : ¬ t = ⟨#[48]⟩) : (t.toList == [48]) = false := by
  rw [beq_eq_false_iff_ne]
  intro e
  refine h (ByteArray.ext ?_)
  have := congrArg List.toArray e
  simpa [ByteArray.toList_eq] using this
theorem lo_zero_den2 {q : Nat} (h : Lo 0 q) : q = 1 := by
  have := h.2
  unfold Nat.Coprime at this
  simpa using this

set_option maxRecDepth 100000 in
set_option maxHeartbeats 64000000 in
theorem zero_raw (x1 x2 : ByteArray) (pa qa : Nat) (ok : Bool) (ta : ByteArray)
    (CA : Gives 12 #[.agg #[.string x1, .string x2]] (rv pa qa)) (RA : Says 15 #[.agg #[.string x1, .string x2]] (sv pa qa))
    (CS : Gives 13 #[rv pa qa, zv] (.tuple #[rv pa qa, .bool true])) (CQ : Gives 20 #[rv pa qa, zv] (.tuple #[zv, .bool false])) (CP : Gives 20 #[zv, rv pa qa] (.tuple #[zv, .bool ok]))
    (CZ : Says 24 #[] (sv 0 1)) (CD : Gives 16 #[zv, rv pa qa] (rv pa qa)) (CM : Gives 22 #[rv pa qa, zv] zv)
    (SA : Gives 11 #[rv pa qa, sv pa qa] (.bool true)) (SZ : Gives 11 #[zv, sv 0 1] (.bool true)) (CT : Gives 9 #[rv pa qa] (.string ta)) (HT0 : (ta.toList == [48]) = !ok) :
    Gives 6 #[.agg #[.string x1, .string x2]] (.bool true) := by
  intro W ht h6
  have CW := mkHid rworks_g
  unfold rv sv zv at *
  generalize lo (dz qa) = lza at *
  generalize hi (dz qa) = kza at *
  generalize lo (pa) = la at *
  generalize hi (pa) = ka at *
  generalize ds pa = tpa at *
  generalize ds qa = tqa at *
  generalize ds 0 = t0 at *
  generalize ds 1 = t1 at *
  replace CA := mkHid CA
  replace RA := mkHid RA
  replace CS := mkHid CS
  replace CQ := mkHid CQ
  replace CP := mkHid CP
  replace CZ := mkHid CZ
  replace CD := mkHid CD
  replace CM := mkHid CM
  replace SA := mkHid SA
  replace SZ := mkHid SZ
  replace CT := mkHid CT
  have HS := mkHid (((St.refl ht h6).alloc (.cells #[.string x1, .string x2] 37)).alloc (.cells #[.int .u64 0, .string ⟨#[]⟩, .int .u64 0, .string ⟨#[]⟩] 27))
  have Hu := mkHid ((AtV.new W W.heap.size x1 x2 rfl).alloc (.cells #[.int .u64 0, .string ⟨#[]⟩, .int .u64 0, .string ⟨#[]⟩] 27))
  have Ho := mkHid (AtZ.new (W.alloc (.cells #[.string x1, .string x2] 37)) (W.heap.size + 1) (by simp))
  obtain ⟨u0, u1⟩ := Hu.out
  obtain ⟨⟨o0, o1, o2, o3⟩, -⟩ := Ho.out
  clear ht h6
  cases ok
  all_goals
    go_enter Tryz.func6, Tryz.ntmps6
    go_upto_region 6 with (first | (go_at_call 12; (with_reducible refine (CA.out _ HS.out.tabs HS.out.six').mono ?_); rintro e w3 ⟨rfl, hb⟩; have HS := mkHid (HS.out.next hb); have Hu := mkHid (Hu.out.grows hb); have Ho := mkHid (Ho.out.grows hb); have HS := mkHid (HS.out.alloc (.cells #[.int .u64 (la : Int), .string ka, .int .u64 (lza : Int), .string kza] 27)); have Hu := mkHid (Hu.out.alloc (.cells #[.int .u64 (la : Int), .string ka, .int .u64 (lza : Int), .string kza] 27)); have Ho := mkHid (Ho.out.alloc (.cells #[.int .u64 (la : Int), .string ka, .int .u64 (lza : Int), .string kza] 27)); have Ha := mkHid (At4.new w3 w3.heap.size la ka lza kza rfl); clear hb; obtain ⟨u0, u1⟩ := Hu.out; obtain ⟨⟨o0, o1, o2, o3⟩, -⟩ := Ho.out; obtain ⟨⟨a0, a1, a2, a3⟩, -⟩ := Ha.out) | (go_at_call 13; (with_reducible refine (CS.out _ HS.out.tabs HS.out.six').mono ?_); rintro e w4 ⟨rfl, hb⟩; have HS := mkHid (HS.out.next hb); have Hu := mkHid (Hu.out.grows hb); have Ho := mkHid (Ho.out.grows hb); have Ha := mkHid (Ha.out.grows hb); have HS := mkHid (HS.out.alloc (.cells #[.int .u64 (la : Int), .string ka, .int .u64 (lza : Int), .string kza] 27)); have Hu := mkHid (Hu.out.alloc (.cells #[.int .u64 (la : Int), .string ka, .int .u64 (lza : Int), .string kza] 27)); have Ho := mkHid (Ho.out.alloc (.cells #[.int .u64 (la : Int), .string ka, .int .u64 (lza : Int), .string kza] 27)); have Ha := mkHid (Ha.out.alloc (.cells #[.int .u64 (la : Int), .string ka, .int .u64 (lza : Int), .string kza] 27)); have Hd := mkHid (At4.new w4 w4.heap.size la ka lza kza rfl); clear hb; obtain ⟨u0, u1⟩ := Hu.out; obtain ⟨⟨o0, o1, o2, o3⟩, -⟩ := Ho.out; obtain ⟨⟨a0, a1, a2, a3⟩, -⟩ := Ha.out; obtain ⟨⟨d0, d1, d2, d3⟩, -⟩ := Hd.out) | (go_at_call 20; (with_reducible refine (CQ.out _ HS.out.tabs HS.out.six').mono ?_); rintro e w5 ⟨rfl, hb⟩; have HS := mkHid (HS.out.next hb); have Hu := mkHid (Hu.out.grows hb); have Ho := mkHid (Ho.out.grows hb); have Ha := mkHid (Ha.out.grows hb); have Hd := mkHid (Hd.out.grows hb); have HS := mkHid (HS.out.alloc (.cells #[.int .u64 0, .string ⟨#[]⟩, .int .u64 0, .string ⟨#[]⟩] 27)); have Hu := mkHid (Hu.out.alloc (.cells #[.int .u64 0, .string ⟨#[]⟩, .int .u64 0, .string ⟨#[]⟩] 27)); have Ho := mkHid (Ho.out.alloc (.cells #[.int .u64 0, .string ⟨#[]⟩, .int .u64 0, .string ⟨#[]⟩] 27)); have Ha := mkHid (Ha.out.alloc (.cells #[.int .u64 0, .string ⟨#[]⟩, .int .u64 0, .string ⟨#[]⟩] 27)); have Hd := mkHid (Hd.out.alloc (.cells #[.int .u64 0, .string ⟨#[]⟩, .int .u64 0, .string ⟨#[]⟩] 27)); have Hq := mkHid (AtZ.new w5 w5.heap.size  rfl); clear hb; obtain ⟨u0, u1⟩ := Hu.out; obtain ⟨⟨o0, o1, o2, o3⟩, -⟩ := Ho.out; obtain ⟨⟨a0, a1, a2, a3⟩, -⟩ := Ha.out; obtain ⟨⟨d0, d1, d2, d3⟩, -⟩ := Hd.out; obtain ⟨⟨q0, q1, q2, q3⟩, -⟩ := Hq.out) | (go_at_call 20; (with_reducible refine (CP.out _ HS.out.tabs HS.out.six').mono ?_); rintro e w6 ⟨rfl, hb⟩; have HS := mkHid (HS.out.next hb); have Hu := mkHid (Hu.out.grows hb); have Ho := mkHid (Ho.out.grows hb); have Ha := mkHid (Ha.out.grows hb); have Hd := mkHid (Hd.out.grows hb); have Hq := mkHid (Hq.out.grows hb); have HS := mkHid (HS.out.alloc (.cells #[.int .u64 0, .string ⟨#[]⟩, .int .u64 0, .string ⟨#[]⟩] 27)); have Hu := mkHid (Hu.out.alloc (.cells #[.int .u64 0, .string ⟨#[]⟩, .int .u64 0, .string ⟨#[]⟩] 27)); have Ho := mkHid (Ho.out.alloc (.cells #[.int .u64 0, .string ⟨#[]⟩, .int .u64 0, .string ⟨#[]⟩] 27)); have Ha := mkHid (Ha.out.alloc (.cells #[.int .u64 0, .string ⟨#[]⟩, .int .u64 0, .string ⟨#[]⟩] 27)); have Hd := mkHid (Hd.out.alloc (.cells #[.int .u64 0, .string ⟨#[]⟩, .int .u64 0, .string ⟨#[]⟩] 27)); have Hq := mkHid (Hq.out.alloc (.cells #[.int .u64 0, .string ⟨#[]⟩, .int .u64 0, .string ⟨#[]⟩] 27)); have Hp := mkHid (AtZ.new w6 w6.heap.size  rfl); clear hb; obtain ⟨u0, u1⟩ := Hu.out; obtain ⟨⟨o0, o1, o2, o3⟩, -⟩ := Ho.out; obtain ⟨⟨a0, a1, a2, a3⟩, -⟩ := Ha.out; obtain ⟨⟨d0, d1, d2, d3⟩, -⟩ := Hd.out; obtain ⟨⟨q0, q1, q2, q3⟩, -⟩ := Hq.out; obtain ⟨⟨p0, p1, p2, p3⟩, -⟩ := Hp.out))
    have hsn := HS.out
    obtain ⟨u0, u1⟩ := Hu.out
    obtain ⟨⟨o0, o1, o2, o3⟩, -⟩ := Ho.out
    obtain ⟨⟨a0, a1, a2, a3⟩, -⟩ := Ha.out
    obtain ⟨⟨d0, d1, d2, d3⟩, -⟩ := Hd.out
    obtain ⟨⟨q0, q1, q2, q3⟩, -⟩ := Hq.out
    obtain ⟨⟨p0, p1, p2, p3⟩, -⟩ := Hp.out
    go_region_held3 (fun X => St W X ∧ X.cell? ⟨W.heap.size, 0, none⟩ = some (.string x1) ∧ X.cell? ⟨W.heap.size, 1, none⟩ = some (.string x2) ∧ X.cell? ⟨W.heap.size + 1, 0, none⟩ = some (.int .u64 0) ∧ X.cell? ⟨W.heap.size + 1, 1, none⟩ = some (.string ⟨#[]⟩) ∧ X.cell? ⟨W.heap.size + 1, 2, none⟩ = some (.int .u64 0) ∧ X.cell? ⟨W.heap.size + 1, 3, none⟩ = some (.string ⟨#[]⟩) ∧ X.cell? ⟨w3.heap.size, 0, none⟩ = some (.int .u64 (la : Int)) ∧ X.cell? ⟨w3.heap.size, 1, none⟩ = some (.string ka) ∧ X.cell? ⟨w3.heap.size, 2, none⟩ = some (.int .u64 (lza : Int)) ∧ X.cell? ⟨w3.heap.size, 3, none⟩ = some (.string kza) ∧ X.cell? ⟨w4.heap.size, 0, none⟩ = some (.int .u64 (la : Int)) ∧ X.cell? ⟨w4.heap.size, 1, none⟩ = some (.string ka) ∧ X.cell? ⟨w4.heap.size, 2, none⟩ = some (.int .u64 (lza : Int)) ∧ X.cell? ⟨w4.heap.size, 3, none⟩ = some (.string kza) ∧ X.cell? ⟨w5.heap.size, 0, none⟩ = some (.int .u64 0) ∧ X.cell? ⟨w5.heap.size, 1, none⟩ = some (.string ⟨#[]⟩) ∧ X.cell? ⟨w5.heap.size, 2, none⟩ = some (.int .u64 0) ∧ X.cell? ⟨w5.heap.size, 3, none⟩ = some (.string ⟨#[]⟩) ∧ X.cell? ⟨w6.heap.size, 0, none⟩ = some (.int .u64 0) ∧ X.cell? ⟨w6.heap.size, 1, none⟩ = some (.string ⟨#[]⟩) ∧ X.cell? ⟨w6.heap.size, 2, none⟩ = some (.int .u64 0) ∧ X.cell? ⟨w6.heap.size, 3, none⟩ = some (.string ⟨#[]⟩))
      (first
        | (with_reducible exact ⟨hS.1.next hb, St.cell hb hS.2.1, St.cell hb hS.2.2.1, St.cell hb hS.2.2.2.1, St.cell hb hS.2.2.2.2.1, St.cell hb hS.2.2.2.2.2.1, St.cell hb hS.2.2.2.2.2.2.1, St.cell hb hS.2.2.2.2.2.2.2.1, St.cell hb hS.2.2.2.2.2.2.2.2.1, St.cell hb hS.2.2.2.2.2.2.2.2.2.1, St.cell hb hS.2.2.2.2.2.2.2.2.2.2.1, St.cell hb hS.2.2.2.2.2.2.2.2.2.2.2.1, St.cell hb hS.2.2.2.2.2.2.2.2.2.2.2.2.1, St.cell hb hS.2.2.2.2.2.2.2.2.2.2.2.2.2.1, St.cell hb hS.2.2.2.2.2.2.2.2.2.2.2.2.2.2.1, St.cell hb hS.2.2.2.2.2.2.2.2.2.2.2.2.2.2.2.1, St.cell hb hS.2.2.2.2.2.2.2.2.2.2.2.2.2.2.2.2.1, St.cell hb hS.2.2.2.2.2.2.2.2.2.2.2.2.2.2.2.2.2.1, St.cell hb hS.2.2.2.2.2.2.2.2.2.2.2.2.2.2.2.2.2.2.1, St.cell hb hS.2.2.2.2.2.2.2.2.2.2.2.2.2.2.2.2.2.2.2.1, St.cell hb hS.2.2.2.2.2.2.2.2.2.2.2.2.2.2.2.2.2.2.2.2.1, St.cell hb hS.2.2.2.2.2.2.2.2.2.2.2.2.2.2.2.2.2.2.2.2.2.1, St.cell hb hS.2.2.2.2.2.2.2.2.2.2.2.2.2.2.2.2.2.2.2.2.2.2⟩)
        | exact ⟨hsn.drew, u0, u1, o0, o1, o2, o3, a0, a1, a2, a3, d0, d1, d2, d3, q0, q1, q2, q3, p0, p1, p2, p3⟩)
      (first
        | (go_at_call 24; have hS : St W _ ∧ _ := (by assumption); (with_reducible refine (CZ.out _ ).mono ?_); rintro e w6 ⟨rfl, hb⟩)
        | (go_at_call 11; have hS : St W _ ∧ _ := (by assumption); (with_reducible refine (SZ.out _ hS.1.tabs hS.1.six').mono ?_); rintro e w6 ⟨rfl, hb⟩)
        | (go_at_call 16; have hS : St W _ ∧ _ := (by assumption); (with_reducible refine (CD.out _ hS.1.tabs hS.1.six').mono ?_); rintro e w6 ⟨rfl, hb⟩)
        | (go_at_call 15; have hS : St W _ ∧ _ := (by assumption); (with_reducible refine (RA.out _ ).mono ?_); rintro e w6 ⟨rfl, hb⟩)
        | (go_at_call 11; have hS : St W _ ∧ _ := (by assumption); (with_reducible refine (SA.out _ hS.1.tabs hS.1.six').mono ?_); rintro e w6 ⟨rfl, hb⟩)
        | (go_at_call 9; have hS : St W _ ∧ _ := (by assumption); (with_reducible refine (CT.out _ hS.1.tabs hS.1.six').mono ?_); rintro e w6 ⟨rfl, hb⟩)
        | (go_at_call 22; have hS : St W _ ∧ _ := (by assumption); (with_reducible refine (CM.out _ hS.1.tabs hS.1.six').mono ?_); rintro e w6 ⟨rfl, hb⟩)
        | (go_at_call 7; have hS : St W _ ∧ _ := (by assumption); (with_reducible refine (CW.out _ hS.1.tabs hS.1.six').mono ?_); rintro e w6 ⟨rfl, hb⟩))
    have hT : St W _ ∧ _ := (by assumption)
    have HT := mkHid hT.1
    clear hT
    go_wp2_with fail
    go_ret
    exact ⟨rfl, HT.out.below⟩

theorem rn_zero {q : Nat} (h : 0 < q) : rn 0 q = 0 ∧ rd 0 q = 1 := by
  unfold rn rd
  rw [Nat.gcd_zero_left, Nat.zero_div]
  exact ⟨rfl, Nat.div_self h⟩
theorem lo01 : Lo 0 1 := ⟨by omega, by decide⟩
theorem ratZero_any (x1 x2 : ByteArray) (w : World) (ht : Tabs w) (h6 : 6 ≤ w.heap.size) :
    Calls Tryz.prog 6 #[.agg #[.string x1, .string x2]] w fun e w' => e = .returned (.bool true) ∧ Below w.heap.size w w' := by
  obtain ⟨n, d, h⟩ := taken x1 x2
  have CA := vrat_g x1 x2 n d h
  have RA := ref_g x1 x2 n d h
  have l1 := h.lo
  have w1 := h.kw
  generalize rn n (pos1 d) = p1 at *
  generalize rd n (pos1 d) = q1 at *
  have k1 := w1.kb (by omega)
  have k0 : Kb 0 1 := kbs (by decide) (by decide)
  obtain ⟨e1, e2⟩ := lo_self l1
  have CS := sub2_ok l1 lo01 k1 k0 (by omega)
  rw [show p1 * 1 - 0 * q1 = p1 by omega, show q1 * 1 = q1 by omega, e1, e2, rv_zero] at CS
  have CQ := div_none p1 q1 1
  rw [rv_zero] at CQ
  have CD := add2_g lo01 l1 k0 k1
  rw [show 0 * q1 + p1 * 1 = p1 by omega, show 1 * q1 = q1 by omega, e1, e2, rv_zero] at CD
  have CM := mul2_g l1 lo01 k1 k0
  rw [show p1 * 0 = 0 by omega, show q1 * 1 = q1 by omega, (rn_zero l1.1).1, (rn_zero l1.1).2, rv_zero] at CM
  have SA := same_g p1 q1 k1.num k1.den l1.1
  have SZ := same_g 0 1 (sm_word (by decide)) (sm_word (by decide)) (by omega)
  rw [rv_zero] at SZ
  have CT := rtext_g p1 q1 k1.num k1.den (by have := l1.1; omega)
  by_cases h0 : p1 = 0
  · subst h0
    have hq := lo_zero_den2 l1
    subst hq
    have CP := div_none 0 1 1
    rw [rv_zero] at CP
    rw [tx_one, ds_zero] at CT
    exact zero_raw x1 x2 0 1 false _ CA RA CS CQ (by rw [rv_zero]; exact CP) (fun W => szero W) CD CM SA SZ CT (by kernel_rfl) w ht h6
  · have CP := div2_g lo01 l1 h0 k0 k1
    rw [show 0 * q1 = 0 by omega, show 1 * p1 = p1 by omega, (rn_zero (Nat.pos_of_ne_zero h0)).1, (rn_zero (Nat.pos_of_ne_zero h0)).2, rv_zero] at CP
    have ne : ¬ tx p1 q1 = ⟨#[48]⟩ := fun e => h0 (tx_inj (p' := 0) (q' := 1) (by rw [e, tx_one, ds_zero])).1
    exact zero_raw x1 x2 p1 q1 true _ CA RA CS CQ CP (fun W => szero W) CD CM SA SZ CT (bytes_ne48z ne) w ht h6
end Go.Proofs.YtflcdpolfimggaaGreatDoor
