/- Package rat: RatOrder. -/
import Derived.Test.YtflcdpolfimggaaDoorQOrd1
import Derived.Test.YtflcdpolfimggaaDoorQOrd2
import Derived.Test.YtflcdpolfimggaaDoorQOrd3
import Derived.Test.YtflcdpolfimggaaDoorQOrd4
import Derived.Test.YtflcdpolfimggaaDoorQOrd5
namespace Go.Proofs.YtflcdpolfimggaaDoor
open Go.RowKit Q SD

theorem order_raw (x1 x2 y1 y2 z1 z2 : ByteArray) (pa qa pb qb pc qc p1 q1 p2 q2 p3 q3 p4 q4 pd qd : Nat) (n nn m k n6 : Int) (eqb ok z : Bool) (tc : ByteArray)
    (hcase : (n = 1 ∧ nn = -1 ∧ eqb = false ∧ ok = true) ∨ (n = 0 ∧ nn = 0 ∧ eqb = true ∧ ok = true ∧ decide (m ≤ 0) = true ∧ decide (0 < k) = false) ∨ (n = 0 ∧ nn = 0 ∧ eqb = true ∧ ok = true ∧ decide (m ≤ 0) = false) ∨ (n = -1 ∧ nn = 1 ∧ eqb = false ∧ ok = false ∧ decide (m ≤ 0) = true ∧ decide (0 < k) = false) ∨ (n = -1 ∧ nn = 1 ∧ eqb = false ∧ ok = false ∧ decide (m ≤ 0) = false)) (hz : (tc.toList == [48]) = z) (h6z : z = true ∨ (z = false ∧ n6 = n))
    (CA : Gives 17 #[.agg #[.string x1, .string x2]] (rv pa qa)) (CB : Gives 17 #[.agg #[.string y1, .string y2]] (rv pb qb)) (CC : Gives 17 #[.agg #[.string z1, .string z2]] (rv pc qc)) (K1 : Gives 24 #[rv pa qa, rv pb qb] (.int .i64 n)) (K2 : Gives 24 #[rv pb qb, rv pc qc] (.int .i64 m)) (K3 : Gives 24 #[rv pb qb, rv pa qa] (.int .i64 nn)) (K4 : Gives 24 #[rv pa qa, rv pc qc] (.int .i64 k)) (E1 : Gives 18 #[rv pa qa, rv pb qb] (.bool eqb)) (S1 : Gives 21 #[rv pa qa, rv pb qb] (.tuple #[rv pd qd, .bool ok])) (A1 : Gives 19 #[rv pa qa, rv pc qc] (rv p1 q1)) (A2 : Gives 19 #[rv pb qb, rv pc qc] (rv p2 q2)) (K5 : Gives 24 #[rv p1 q1, rv p2 q2] (.int .i64 n)) (T1 : Gives 22 #[rv pc qc] (.string tc)) (M1 : Gives 20 #[rv pa qa, rv pc qc] (rv p3 q3)) (M2 : Gives 20 #[rv pb qb, rv pc qc] (rv p4 q4)) (K6 : Gives 24 #[rv p3 q3, rv p4 q4] (.int .i64 n6)) :
    Gives 6 #[.agg #[.string x1, .string x2], .agg #[.string y1, .string y2], .agg #[.string z1, .string z2]] (.bool true) := by
  rcases hcase with h | h | h | h | h
  · exact order_raw1 x1 x2 y1 y2 z1 z2 pa qa pb qb pc qc p1 q1 p2 q2 p3 q3 p4 q4 pd qd n nn m k n6 eqb ok z tc h hz h6z CA CB CC K1 K2 K3 K4 E1 S1 A1 A2 K5 T1 M1 M2 K6
  · exact order_raw2 x1 x2 y1 y2 z1 z2 pa qa pb qb pc qc p1 q1 p2 q2 p3 q3 p4 q4 pd qd n nn m k n6 eqb ok z tc h hz h6z CA CB CC K1 K2 K3 K4 E1 S1 A1 A2 K5 T1 M1 M2 K6
  · exact order_raw3 x1 x2 y1 y2 z1 z2 pa qa pb qb pc qc p1 q1 p2 q2 p3 q3 p4 q4 pd qd n nn m k n6 eqb ok z tc h hz h6z CA CB CC K1 K2 K3 K4 E1 S1 A1 A2 K5 T1 M1 M2 K6
  · exact order_raw4 x1 x2 y1 y2 z1 z2 pa qa pb qb pc qc p1 q1 p2 q2 p3 q3 p4 q4 pd qd n nn m k n6 eqb ok z tc h hz h6z CA CB CC K1 K2 K3 K4 E1 S1 A1 A2 K5 T1 M1 M2 K6
  · exact order_raw5 x1 x2 y1 y2 z1 z2 pa qa pb qb pc qc p1 q1 p2 q2 p3 q3 p4 q4 pd qd n nn m k n6 eqb ok z tc h hz h6z CA CB CC K1 K2 K3 K4 E1 S1 A1 A2 K5 T1 M1 M2 K6

theorem cmpN (x y : Nat) : Lib.compareInt (x : Int) (y : Int) = if x < y then -1 else if y < x then 1 else 0 := by
  unfold Lib.compareInt
  split <;> split <;> (try split) <;> first | rfl | omega
theorem cmp_iff {x y x' y' : Nat} (h1 : x ≤ y ↔ x' ≤ y') (h2 : y ≤ x ↔ y' ≤ x') : Lib.compareInt (x : Int) (y : Int) = Lib.compareInt (x' : Int) (y' : Int) := by
  have a1 : x < y ↔ x' < y' := by omega
  have a2 : y < x ↔ y' < x' := by omega
  rw [cmpN, cmpN]
  simp only [a1, a2]
theorem le_mul_iff {x y k : Nat} (hk : 0 < k) : x * k ≤ y * k ↔ x ≤ y := ⟨fun h => Nat.le_of_mul_le_mul_right h hk, fun h => Nat.mul_le_mul_right k h⟩
theorem le_add_iff' {x y k : Nat} : x + k ≤ y + k ↔ x ≤ y := by omega
theorem zero_den {q : Nat} (h : Lo 0 q) : q = 1 := by
  have := h.2
  unfold Nat.Coprime at this
  simpa using this
theorem trans_le {pa qa pb qb pc qc : Nat} (hb : 0 < qb) (h1 : pa * qb ≤ pb * qa) (h2 : pb * qc ≤ pc * qb) : pa * qc ≤ pc * qa := by
  refine (le_mul_iff hb).1 ?_
  have e1 : pa * qc * qb = pa * qb * qc := by grind
  have e2 : pb * qa * qc = pb * qc * qa := by grind
  have e3 : pc * qa * qb = pc * qb * qa := by grind
  rw [e1, e3]
  refine Nat.le_trans (Nat.mul_le_mul_right qc h1) ?_
  rw [e2]
  exact Nat.mul_le_mul_right qa h2
theorem ratOrder_any (x1 x2 y1 y2 z1 z2 : ByteArray) (w : World) (ht : Tabs w) (h6 : 6 ≤ w.heap.size) :
    Calls Tryd.prog 6 #[.agg #[.string x1, .string x2], .agg #[.string y1, .string y2], .agg #[.string z1, .string z2]] w fun e w' => e = .returned (.bool true) ∧ Below w.heap.size w w' := by
  obtain ⟨na, da, ha⟩ := taken x1 x2
  obtain ⟨nb, db, hb⟩ := taken y1 y2
  obtain ⟨nc, dc, hc⟩ := taken z1 z2
  have CA := vrat_g x1 x2 na da ha
  have CB := vrat_g y1 y2 nb db hb
  have CC := vrat_g z1 z2 nc dc hc
  have la := ha.lo
  have wa := ha.kw
  have lb := hb.lo
  have wb := hb.kw
  have lc := hc.lo
  have wc := hc.kw
  generalize rn na (pos1 da) = pa at *
  generalize rd na (pos1 da) = qa at *
  generalize rn nb (pos1 db) = pb at *
  generalize rd nb (pos1 db) = qb at *
  generalize rn nc (pos1 dc) = pc at *
  generalize rd nc (pos1 dc) = qc at *
  have a0 := la.1
  have b0 := lb.1
  have c0 := lc.1
  have ka := wa.kb (by omega)
  have kb := wb.kb (by omega)
  have kc := wc.kb (by omega)
  have K1 := qcmp_raw pa qa pb qb a0 b0 ka kb
  have K2 := qcmp_raw pb qb pc qc b0 c0 kb kc
  have K3 := qcmp_raw pb qb pa qa b0 a0 kb ka
  have K4 := qcmp_raw pa qa pc qc a0 c0 ka kc
  obtain ⟨p1, q1, l1, w1, v1, A1⟩ := add_ex la lc wa wc (by omega) (by omega)
  obtain ⟨p2, q2, l2, w2, v2, A2⟩ := add_ex lb lc wb wc (by omega) (by omega)
  obtain ⟨p3, q3, l3, w3, v3, M1⟩ := mul_ex la lc wa wc (by omega) (by omega)
  obtain ⟨p4, q4, l4, w4, v4, M2⟩ := mul_ex lb lc wb wc (by omega) (by omega)
  have K5 := qcmp_raw p1 q1 p2 q2 l1.1 l2.1 (w1.kb (by omega)) (w2.kb (by omega))
  have K6 := qcmp_raw p3 q3 p4 q4 l3.1 l4.1 (w3.kb (by omega)) (w4.kb (by omega))
  have hqq : 0 < qc * qc := Nat.mul_pos c0 c0
  have s1 : p1 * q2 ≤ p2 * q1 ↔ pa * qb ≤ pb * qa := by
    rw [V.le v2 v1, show (pa * qc + pc * qa) * (qb * qc) = pa * qb * (qc * qc) + pc * qa * (qb * qc) by grind, show (pb * qc + pc * qb) * (qa * qc) = pb * qa * (qc * qc) + pc * qa * (qb * qc) by grind]
    exact le_add_iff'.trans (le_mul_iff hqq)
  have s2 : p2 * q1 ≤ p1 * q2 ↔ pb * qa ≤ pa * qb := by
    rw [V.le v1 v2, show (pa * qc + pc * qa) * (qb * qc) = pa * qb * (qc * qc) + pc * qa * (qb * qc) by grind, show (pb * qc + pc * qb) * (qa * qc) = pb * qa * (qc * qc) + pc * qa * (qb * qc) by grind]
    exact le_add_iff'.trans (le_mul_iff hqq)
  rw [cmp_iff s1 s2] at K5
  obtain ⟨z, hz⟩ : ∃ z, ((tx pc qc).toList == [48]) = z := ⟨_, rfl⟩
  have h6z : z = true ∨ (z = false ∧ Lib.compareInt ((p3 * q4 : Nat) : Int) ((p4 * q3 : Nat) : Int) = Lib.compareInt ((pa * qb : Nat) : Int) ((pb * qa : Nat) : Int)) := by
    cases z
    · right
      have pc0 : 0 < pc := by
        rcases Nat.eq_zero_or_pos pc with h | h
        · exfalso
          subst h
          have hq := zero_den lc
          subst hq
          rw [tx_one, ds_zero] at hz
          rw [show ((⟨#[48]⟩ : ByteArray).toList == [48]) = true by kernel_rfl] at hz
          cases hz
        · exact h
      have hpq : 0 < pc * qc := Nat.mul_pos pc0 c0
      refine ⟨rfl, cmp_iff ?_ ?_⟩
      · rw [V.le v4 v3, show pa * pc * (qb * qc) = pa * qb * (pc * qc) by grind, show pb * pc * (qa * qc) = pb * qa * (pc * qc) by grind]
        exact le_mul_iff hpq
      · rw [V.le v3 v4, show pa * pc * (qb * qc) = pa * qb * (pc * qc) by grind, show pb * pc * (qa * qc) = pb * qa * (pc * qc) by grind]
        exact le_mul_iff hpq
    · left; rfl
  have T1 := rtext_g pc qc kc.num kc.den (by omega)
  have key : ∃ eqb ok pd qd, Gives 18 #[rv pa qa, rv pb qb] (.bool eqb) ∧ Gives 21 #[rv pa qa, rv pb qb] (.tuple #[rv pd qd, .bool ok]) ∧
      eqb = decide (pa * qb = pb * qa) ∧ ok = decide (pb * qa ≤ pa * qb) := by
    have E : Gives 18 #[rv pa qa, rv pb qb] (.bool (decide (pa * qb = pb * qa))) := by
      by_cases e : pa * qb = pb * qa
      · obtain ⟨rfl, rfl⟩ := V.uniq (V.self la) (V.self lb) e
        rw [decide_eq_true e]
        exact equal_same pa qa ka.num ka.den (by omega)
      · rw [decide_eq_false e]
        exact equal_diff pa qa pb qb ka.num ka.den (by omega) kb.num kb.den (by omega) (fun h => e (by rw [h.1, h.2]))
    by_cases h : pb * qa ≤ pa * qb
    · exact ⟨_, _, _, _, E, sub2_ok la lb ka kb h, rfl, (decide_eq_true h).symm⟩
    · exact ⟨_, _, _, _, E, sub2_no la lb ka kb (by omega), rfl, (decide_eq_false h).symm⟩
  obtain ⟨eqb, ok, pd, qd, E1, S1, he, ho⟩ := key
  refine order_raw x1 x2 y1 y2 z1 z2 pa qa pb qb pc qc p1 q1 p2 q2 p3 q3 p4 q4 pd qd _ _ _ _ _ eqb ok z _ ?_ hz h6z CA CB CC K1 K2 K3 K4 E1 S1 A1 A2 K5 T1 M1 M2 K6 w ht h6
  rw [cmpN (pa * qb), cmpN (pb * qa) (pa * qb), cmpN (pb * qc), cmpN (pa * qc), he, ho]
  rcases Nat.lt_trichotomy (pa * qb) (pb * qa) with h | h | h
  · have h' : ¬ pb * qa < pa * qb := by omega
    rw [decide_eq_false (show ¬ pa * qb = pb * qa by omega), decide_eq_false (show ¬ pb * qa ≤ pa * qb by omega)]
    simp only [if_pos h, if_neg h']
    by_cases h2 : pb * qc ≤ pc * qb
    · have h3 := trans_le b0 (Nat.le_of_lt h) h2
      right; right; right; left
      refine ⟨by first | rfl | trivial, by first | rfl | trivial, by first | rfl | trivial, by first | rfl | trivial, decide_eq_true ?_, decide_eq_false ?_⟩
      · split <;> (try split) <;> omega
      · split <;> (try split) <;> omega
    · right; right; right; right
      refine ⟨by first | rfl | trivial, by first | rfl | trivial, by first | rfl | trivial, by first | rfl | trivial, decide_eq_false ?_⟩
      split <;> (try split) <;> omega
  · have h' : ¬ pb * qa < pa * qb := by omega
    have h'' : ¬ pa * qb < pb * qa := by omega
    rw [decide_eq_true h, decide_eq_true (show pb * qa ≤ pa * qb by omega)]
    simp only [if_neg h'', if_neg h']
    by_cases h2 : pb * qc ≤ pc * qb
    · have h3 := trans_le b0 (Nat.le_of_eq h) h2
      right; left
      refine ⟨by first | rfl | trivial, by first | rfl | trivial, by first | rfl | trivial, by first | rfl | trivial, decide_eq_true ?_, decide_eq_false ?_⟩
      · split <;> (try split) <;> omega
      · split <;> (try split) <;> omega
    · right; right; left
      refine ⟨by first | rfl | trivial, by first | rfl | trivial, by first | rfl | trivial, by first | rfl | trivial, decide_eq_false ?_⟩
      split <;> (try split) <;> omega
  · have h' : ¬ pa * qb < pb * qa := by omega
    rw [decide_eq_false (show ¬ pa * qb = pb * qa by omega), decide_eq_true (show pb * qa ≤ pa * qb by omega)]
    simp only [if_pos h, if_neg h']
    exact .inl ⟨by first | rfl | trivial, by first | rfl | trivial, by first | rfl | trivial, by first | rfl | trivial⟩
end Go.Proofs.YtflcdpolfimggaaDoor
