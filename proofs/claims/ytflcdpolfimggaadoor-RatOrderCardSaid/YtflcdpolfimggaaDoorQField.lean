/- Package rat: RatField. -/
import Derived.Test.YtflcdpolfimggaaDoorQTri
namespace Go.Proofs.YtflcdpolfimggaaDoor
open Go.RowKit Q SD

theorem add_ex {p1 q1 p2 q2 i j : Nat} (l1 : Lo p1 q1) (l2 : Lo p2 q2) (w1 : Kw i p1 q1) (w2 : Kw j p2 q2) (hi : i ≤ 190) (hj : j ≤ 190) : ∃ p q, Lo p q ∧ Kw (i + j + 1) p q ∧ V p q (p1 * q2 + p2 * q1) (q1 * q2) ∧ Gives 19 #[rv p1 q1, rv p2 q2] (rv p q) :=
  ⟨_, _, low _ _ (Nat.mul_pos l1.1 l2.1), Kw.add w1 w2, V.low _ _ (Nat.mul_pos l1.1 l2.1), add2_g l1 l2 (w1.kb (by omega)) (w2.kb (by omega))⟩
theorem mul_ex {p1 q1 p2 q2 i j : Nat} (l1 : Lo p1 q1) (l2 : Lo p2 q2) (w1 : Kw i p1 q1) (w2 : Kw j p2 q2) (hi : i ≤ 190) (hj : j ≤ 190) : ∃ p q, Lo p q ∧ Kw (i + j) p q ∧ V p q (p1 * p2) (q1 * q2) ∧ Gives 20 #[rv p1 q1, rv p2 q2] (rv p q) :=
  ⟨_, _, low _ _ (Nat.mul_pos l1.1 l2.1), Kw.mul w1 w2, V.low _ _ (Nat.mul_pos l1.1 l2.1), mul2_g l1 l2 (w1.kb (by omega)) (w2.kb (by omega))⟩
theorem eq_of {p q k : Nat} (l : Lo p q) (w : Kw k p q) (hk : k ≤ 400) : Gives 18 #[rv p q, rv p q] (.bool true) := equal_same p q (w.kb hk).num (w.kb hk).den (by have := l.1; omega)

set_option maxRecDepth 100000 in
set_option maxHeartbeats 16000000 in
set_option linter.unusedSimpArgs false in
set_option linter.unusedVariables false in
theorem field_raw (x1 x2 y1 y2 z1 z2 : ByteArray) (pa qa pb qb pc qc p1 q1 p2 q2 p3 q3 p4 q4 p5 q5 p6 q6 p7 q7 p8 q8 : Nat)
    (CA : Gives 17 #[.agg #[.string x1, .string x2]] (rv pa qa)) (CB : Gives 17 #[.agg #[.string y1, .string y2]] (rv pb qb)) (CC : Gives 17 #[.agg #[.string z1, .string z2]] (rv pc qc)) (O1 : Gives 13 #[.int .u64 1, .int .u64 1] (.tuple #[rv 1 1, .bool true])) (A1 : Gives 19 #[rv pa qa, rv pb qb] (rv p1 q1)) (A2 : Gives 19 #[rv pb qb, rv pa qa] (rv p1 q1)) (M1 : Gives 20 #[rv pa qa, rv pb qb] (rv p2 q2)) (M2 : Gives 20 #[rv pb qb, rv pa qa] (rv p2 q2)) (M3 : Gives 20 #[rv 1 1, rv pa qa] (rv pa qa)) (A3 : Gives 19 #[rv p1 q1, rv pc qc] (rv p3 q3)) (A4 : Gives 19 #[rv pb qb, rv pc qc] (rv p4 q4)) (A5 : Gives 19 #[rv pa qa, rv p4 q4] (rv p3 q3)) (M4 : Gives 20 #[rv p2 q2, rv pc qc] (rv p5 q5)) (M5 : Gives 20 #[rv pb qb, rv pc qc] (rv p6 q6)) (M6 : Gives 20 #[rv pa qa, rv p6 q6] (rv p5 q5)) (M7 : Gives 20 #[rv pa qa, rv p4 q4] (rv p7 q7)) (M8 : Gives 20 #[rv pa qa, rv pc qc] (rv p8 q8)) (A6 : Gives 19 #[rv p2 q2, rv p8 q8] (rv p7 q7)) (E1 : Gives 18 #[rv p1 q1, rv p1 q1] (.bool true)) (E2 : Gives 18 #[rv p2 q2, rv p2 q2] (.bool true)) (E3 : Gives 18 #[rv pa qa, rv pa qa] (.bool true)) (E4 : Gives 18 #[rv p3 q3, rv p3 q3] (.bool true)) (E5 : Gives 18 #[rv p5 q5, rv p5 q5] (.bool true)) (E6 : Gives 18 #[rv p7 q7, rv p7 q7] (.bool true)) :
    Gives 4 #[.agg #[.string x1, .string x2], .agg #[.string y1, .string y2], .agg #[.string z1, .string z2]] (.bool true) := by
  intro W ht h6
  have CW := mkHid rworks_g
  unfold rv at *
  generalize lo (dz qa) = lza at *
  generalize hi (dz qa) = kza at *
  generalize lo (pa) = la at *
  generalize hi (pa) = ka at *
  generalize lo (dz qb) = lzb at *
  generalize hi (dz qb) = kzb at *
  generalize lo (pb) = lb at *
  generalize hi (pb) = kb at *
  generalize lo (dz qc) = lzc at *
  generalize hi (dz qc) = kzc at *
  generalize lo (pc) = lc at *
  generalize hi (pc) = kc at *
  generalize lo (dz q1) = lz1 at *
  generalize hi (dz q1) = kz1 at *
  generalize lo (p1) = l1 at *
  generalize hi (p1) = k1 at *
  generalize lo (dz q2) = lz2 at *
  generalize hi (dz q2) = kz2 at *
  generalize lo (p2) = l2 at *
  generalize hi (p2) = k2 at *
  generalize lo (dz q3) = lz3 at *
  generalize hi (dz q3) = kz3 at *
  generalize lo (p3) = l3 at *
  generalize hi (p3) = k3 at *
  generalize lo (dz q4) = lz4 at *
  generalize hi (dz q4) = kz4 at *
  generalize lo (p4) = l4 at *
  generalize hi (p4) = k4 at *
  generalize lo (dz q5) = lz5 at *
  generalize hi (dz q5) = kz5 at *
  generalize lo (p5) = l5 at *
  generalize hi (p5) = k5 at *
  generalize lo (dz q6) = lz6 at *
  generalize hi (dz q6) = kz6 at *
  generalize lo (p6) = l6 at *
  generalize hi (p6) = k6 at *
  generalize lo (dz q7) = lz7 at *
  generalize hi (dz q7) = kz7 at *
  generalize lo (p7) = l7 at *
  generalize hi (p7) = k7 at *
  generalize lo (dz q8) = lz8 at *
  generalize hi (dz q8) = kz8 at *
  generalize lo (p8) = l8 at *
  generalize hi (p8) = k8 at *
  generalize lo (dz 1) = lzo at *
  generalize hi (dz 1) = kzo at *
  generalize lo (1) = lo at *
  generalize hi (1) = ko at *
  replace CA := mkHid CA
  replace CB := mkHid CB
  replace CC := mkHid CC
  replace O1 := mkHid O1
  replace A1 := mkHid A1
  replace A2 := mkHid A2
  replace A3 := mkHid A3
  replace A4 := mkHid A4
  replace A5 := mkHid A5
  replace A6 := mkHid A6
  replace M1 := mkHid M1
  replace M2 := mkHid M2
  replace M3 := mkHid M3
  replace M4 := mkHid M4
  replace M5 := mkHid M5
  replace M6 := mkHid M6
  replace M7 := mkHid M7
  replace M8 := mkHid M8
  replace E1 := mkHid E1
  replace E2 := mkHid E2
  replace E3 := mkHid E3
  replace E4 := mkHid E4
  replace E5 := mkHid E5
  replace E6 := mkHid E6
  have HS := mkHid ((((St.refl ht h6).alloc (.cells #[.string x1, .string x2] 40)).alloc (.cells #[.string y1, .string y2] 40)).alloc (.cells #[.string z1, .string z2] 40))
  have Hu := mkHid (((AtV.new W W.heap.size x1 x2 rfl).alloc (.cells #[.string y1, .string y2] 40)).alloc (.cells #[.string z1, .string z2] 40))
  have Hv := mkHid ((AtV.new (W.alloc (.cells #[.string x1, .string x2] 40)) (W.heap.size + 1) y1 y2 (by simp)).alloc (.cells #[.string z1, .string z2] 40))
  have Hw := mkHid (AtV.new ((W.alloc (.cells #[.string x1, .string x2] 40)).alloc (.cells #[.string y1, .string y2] 40)) (W.heap.size + 2) z1 z2 (by simp))
  clear ht h6
  go_enter Tryd.func4, Tryd.ntmps4
  go_upto_region 1 with (fail)
  generalize (((W.alloc (.cells #[.string x1, .string x2] 40)).alloc (.cells #[.string y1, .string y2] 40)).alloc (.cells #[.string z1, .string z2] 40)) = w6 at *
  have hsn := HS.out
  obtain ⟨B0, hB0⟩ : ∃ n, n = w6.heap.size := ⟨_, rfl⟩
  have hW0 : W.heap.size + 2 < B0 := by rw [hB0]; exact Hw.out.lt
  have hB0 : B0 ≤ w6.heap.size := Nat.le_of_eq hB0
  go_cut [7, 8, 9] (fun v7 v8 v9 wx => ∃ j7 j8 j9 : Nat, v7 = .pointer (some ⟨j7, 0, none⟩) ∧ v8 = .pointer (some ⟨j8, 0, none⟩) ∧ v9 = .pointer (some ⟨j9, 0, none⟩) ∧ Hid (St W wx ∧ At4 wx j7 la ka lza kza ∧ At4 wx j8 lb kb lzb kzb ∧ At4 wx j9 lc kc lzc kzc))
  case first =>
    refine wp_region_inv (fun a0 listed A X => ∃ (l0 l1 l2 l3 l4 l5 l6 l7 l8 l9 l10 l11 : Bool) (v12 v13 v14 v15 v16 v17 v7 v8 v9 : Value) (j7 j8 j9 : Nat), listed = #[l0, l1, l2, l3, l4, l5, l6, l7, l8, l9, l10, l11] ∧ A = (((((((((a0.put (some 12) v12).put (some 13) v13).put (some 14) v14).put (some 15) v15).put (some 16) v16).put (some 17) v17).put (some 7) v7).put (some 8) v8).put (some 9) v9) ∧ Hid (St W X ∧ AtV X W.heap.size x1 x2 ∧ AtV X (W.heap.size + 1) y1 y2 ∧ AtV X (W.heap.size + 2) z1 z2 ∧ B0 ≤ X.heap.size ∧ (l0 = true → v12 = .agg #[.string x1, .string x2]) ∧ (l1 = true → v13 = .agg #[.int .u64 (la : Int), .string ka, .int .u64 (lza : Int), .string kza]) ∧ (l2 = true → v14 = .agg #[.string y1, .string y2]) ∧ (l3 = true → v15 = .agg #[.int .u64 (lb : Int), .string kb, .int .u64 (lzb : Int), .string kzb]) ∧ (l4 = true → v16 = .agg #[.string z1, .string z2]) ∧ (l5 = true → v17 = .agg #[.int .u64 (lc : Int), .string kc, .int .u64 (lzc : Int), .string kzc]) ∧ (l6 = true → v7 = .pointer (some ⟨j7, 0, none⟩)) ∧ (l7 = true → v8 = .pointer (some ⟨j8, 0, none⟩)) ∧ (l8 = true → v9 = .pointer (some ⟨j9, 0, none⟩)) ∧ Bq l6 l9 X B0 j7 la ka lza kza ∧ Bq l7 l10 X B0 j8 lb kb lzb kzb ∧ Bq l8 l11 X B0 j9 lc kc lzc kzc ∧ (l6 = true → l7 = true → j7 ≠ j8) ∧ (l6 = true → l8 = true → j7 ≠ j9) ∧ (l7 = true → l8 = true → j8 ≠ j9) ∧ (l9 = true → l6 = true) ∧ (l10 = true → l7 = true) ∧ (l11 = true → l8 = true))) [0, 1, 2, 3, 4, 5, 6, 7, 8, 9, 10, 11] (by kernel_rfl) (by kernel_rfl) (by kernel_rfl) ?_ ?_ ?_
    case refine_1 =>
      exact ⟨false, false, false, false, false, false, false, false, false, false, false, false, undef, undef, undef, undef, undef, undef, undef, undef, undef, 0, 0, 0, by kernel_rfl, by simp only [Act.put, List.setIfInBounds_toArray, List.set_cons_zero, List.set_cons_succ], mkHid ⟨hsn.drew, Hu.out.drew, Hv.out.drew, Hw.out.drew, hB0, fun h => absurd h (by decide), fun h => absurd h (by decide), fun h => absurd h (by decide), fun h => absurd h (by decide), fun h => absurd h (by decide), fun h => absurd h (by decide), fun h => absurd h (by decide), fun h => absurd h (by decide), fun h => absurd h (by decide), Bq.no, Bq.no, Bq.no, fun h => absurd h (by decide), fun h => absurd h (by decide), fun h => absurd h (by decide), fun h => absurd h (by decide), fun h => absurd h (by decide), fun h => absurd h (by decide)⟩⟩
    case refine_2 =>
      intro Q' listed A X hI
      obtain ⟨l0, l1, l2, l3, l4, l5, l6, l7, l8, l9, l10, l11, v12, v13, v14, v15, v16, v17, v7, v8, v9, j7, j8, j9, rfl, hA, HJ⟩ := hI
      simp only [Act.put, List.setIfInBounds_toArray, List.set_cons_zero, List.set_cons_succ] at hA
      subst hA
      refine AllI.cons0 (o := ?o0) ?ho ?hg ?h ?hs
      case ho => simp only [List.getElem?_toArray, List.getElem?_cons_zero, List.getElem?_cons_succ]; rfl
      case hg => rfl
      case h =>
        intro hun hdep K hK
        simp [Region.binds] at hun hdep
        clear hun hdep
        obtain ⟨u0, u1⟩ := HJ.out.2.1
        go_simp
        refine hK.out _ _ ?_
        refine ⟨true, l1, l2, l3, l4, l5, l6, l7, l8, l9, l10, l11, .agg #[.string x1, .string x2], v13, v14, v15, v16, v17, v7, v8, v9, j7, j8, j9, by simp, by simp only [Act.put, List.setIfInBounds_toArray, List.set_cons_zero, List.set_cons_succ], mkHid ⟨?_, ?_, ?_, ?_, ?_, ?_, ?_, ?_, ?_, ?_, ?_, ?_, ?_, ?_, ?_, ?_, ?_, ?_, ?_, ?_, ?_, ?_, ?_⟩⟩
        · exact HJ.out.1
        · exact HJ.out.2.1
        · exact HJ.out.2.2.1
        · exact HJ.out.2.2.2.1
        · exact HJ.out.2.2.2.2.1
        · exact fun _ => rfl
        · exact HJ.out.2.2.2.2.2.2.1
        · exact HJ.out.2.2.2.2.2.2.2.1
        · exact HJ.out.2.2.2.2.2.2.2.2.1
        · exact HJ.out.2.2.2.2.2.2.2.2.2.1
        · exact HJ.out.2.2.2.2.2.2.2.2.2.2.1
        · exact HJ.out.2.2.2.2.2.2.2.2.2.2.2.1
        · exact HJ.out.2.2.2.2.2.2.2.2.2.2.2.2.1
        · exact HJ.out.2.2.2.2.2.2.2.2.2.2.2.2.2.1
        · exact HJ.out.2.2.2.2.2.2.2.2.2.2.2.2.2.2.1
        · exact HJ.out.2.2.2.2.2.2.2.2.2.2.2.2.2.2.2.1
        · exact HJ.out.2.2.2.2.2.2.2.2.2.2.2.2.2.2.2.2.1
        · exact HJ.out.2.2.2.2.2.2.2.2.2.2.2.2.2.2.2.2.2.1
        · exact HJ.out.2.2.2.2.2.2.2.2.2.2.2.2.2.2.2.2.2.2.1
        · exact HJ.out.2.2.2.2.2.2.2.2.2.2.2.2.2.2.2.2.2.2.2.1
        · exact HJ.out.2.2.2.2.2.2.2.2.2.2.2.2.2.2.2.2.2.2.2.2.1
        · exact HJ.out.2.2.2.2.2.2.2.2.2.2.2.2.2.2.2.2.2.2.2.2.2.1
        · exact HJ.out.2.2.2.2.2.2.2.2.2.2.2.2.2.2.2.2.2.2.2.2.2.2
      case hs =>
      refine AllI.cons0 (o := ?o1) ?ho ?hg ?h ?hs
      case ho => simp only [List.getElem?_toArray, List.getElem?_cons_zero, List.getElem?_cons_succ]; rfl
      case hg => rfl
      case h =>
        intro hun hdep K hK
        simp [Region.binds] at hun hdep
        have e0 : l0 = true := by first | exact hdep | (simp [hdep])
        subst e0
        clear hun hdep
        have hv := HJ.out.2.2.2.2.2.1 rfl
        subst hv
        go_simp
        go_at_call 17
        refine (CA.out _ (HJ.out.1).tabs (HJ.out.1).six').mono ?_
        rintro e w7 ⟨rfl, hb⟩
        refine hK.out _ _ ?_
        refine ⟨true, true, l2, l3, l4, l5, l6, l7, l8, l9, l10, l11, .agg #[.string x1, .string x2], .agg #[.int .u64 (la : Int), .string ka, .int .u64 (lza : Int), .string kza], v14, v15, v16, v17, v7, v8, v9, j7, j8, j9, by simp, by simp only [Act.put, List.setIfInBounds_toArray, List.set_cons_zero, List.set_cons_succ], mkHid ⟨?_, ?_, ?_, ?_, ?_, ?_, ?_, ?_, ?_, ?_, ?_, ?_, ?_, ?_, ?_, ?_, ?_, ?_, ?_, ?_, ?_, ?_, ?_⟩⟩
        · exact (HJ.out.1).next hb
        · exact (HJ.out.2.1).grows hb
        · exact (HJ.out.2.2.1).grows hb
        · exact (HJ.out.2.2.2.1).grows hb
        · exact Nat.le_trans (HJ.out.2.2.2.2.1) hb.size
        · exact HJ.out.2.2.2.2.2.1
        · exact fun _ => rfl
        · exact HJ.out.2.2.2.2.2.2.2.1
        · exact HJ.out.2.2.2.2.2.2.2.2.1
        · exact HJ.out.2.2.2.2.2.2.2.2.2.1
        · exact HJ.out.2.2.2.2.2.2.2.2.2.2.1
        · exact HJ.out.2.2.2.2.2.2.2.2.2.2.2.1
        · exact HJ.out.2.2.2.2.2.2.2.2.2.2.2.2.1
        · exact HJ.out.2.2.2.2.2.2.2.2.2.2.2.2.2.1
        · exact (HJ.out.2.2.2.2.2.2.2.2.2.2.2.2.2.2.1).grows hb
        · exact (HJ.out.2.2.2.2.2.2.2.2.2.2.2.2.2.2.2.1).grows hb
        · exact (HJ.out.2.2.2.2.2.2.2.2.2.2.2.2.2.2.2.2.1).grows hb
        · exact HJ.out.2.2.2.2.2.2.2.2.2.2.2.2.2.2.2.2.2.1
        · exact HJ.out.2.2.2.2.2.2.2.2.2.2.2.2.2.2.2.2.2.2.1
        · exact HJ.out.2.2.2.2.2.2.2.2.2.2.2.2.2.2.2.2.2.2.2.1
        · exact HJ.out.2.2.2.2.2.2.2.2.2.2.2.2.2.2.2.2.2.2.2.2.1
        · exact HJ.out.2.2.2.2.2.2.2.2.2.2.2.2.2.2.2.2.2.2.2.2.2.1
        · exact HJ.out.2.2.2.2.2.2.2.2.2.2.2.2.2.2.2.2.2.2.2.2.2.2
      case hs =>
      refine AllI.cons0 (o := ?o2) ?ho ?hg ?h ?hs
      case ho => simp only [List.getElem?_toArray, List.getElem?_cons_zero, List.getElem?_cons_succ]; rfl
      case hg => rfl
      case h =>
        intro hun hdep K hK
        simp [Region.binds] at hun hdep
        clear hun hdep
        obtain ⟨u0, u1⟩ := HJ.out.2.2.1
        go_simp
        refine hK.out _ _ ?_
        refine ⟨l0, l1, true, l3, l4, l5, l6, l7, l8, l9, l10, l11, v12, v13, .agg #[.string y1, .string y2], v15, v16, v17, v7, v8, v9, j7, j8, j9, by simp, by simp only [Act.put, List.setIfInBounds_toArray, List.set_cons_zero, List.set_cons_succ], mkHid ⟨?_, ?_, ?_, ?_, ?_, ?_, ?_, ?_, ?_, ?_, ?_, ?_, ?_, ?_, ?_, ?_, ?_, ?_, ?_, ?_, ?_, ?_, ?_⟩⟩
        · exact HJ.out.1
        · exact HJ.out.2.1
        · exact HJ.out.2.2.1
        · exact HJ.out.2.2.2.1
        · exact HJ.out.2.2.2.2.1
        · exact HJ.out.2.2.2.2.2.1
        · exact HJ.out.2.2.2.2.2.2.1
        · exact fun _ => rfl
        · exact HJ.out.2.2.2.2.2.2.2.2.1
        · exact HJ.out.2.2.2.2.2.2.2.2.2.1
        · exact HJ.out.2.2.2.2.2.2.2.2.2.2.1
        · exact HJ.out.2.2.2.2.2.2.2.2.2.2.2.1
        · exact HJ.out.2.2.2.2.2.2.2.2.2.2.2.2.1
        · exact HJ.out.2.2.2.2.2.2.2.2.2.2.2.2.2.1
        · exact HJ.out.2.2.2.2.2.2.2.2.2.2.2.2.2.2.1
        · exact HJ.out.2.2.2.2.2.2.2.2.2.2.2.2.2.2.2.1
        · exact HJ.out.2.2.2.2.2.2.2.2.2.2.2.2.2.2.2.2.1
        · exact HJ.out.2.2.2.2.2.2.2.2.2.2.2.2.2.2.2.2.2.1
        · exact HJ.out.2.2.2.2.2.2.2.2.2.2.2.2.2.2.2.2.2.2.1
        · exact HJ.out.2.2.2.2.2.2.2.2.2.2.2.2.2.2.2.2.2.2.2.1
        · exact HJ.out.2.2.2.2.2.2.2.2.2.2.2.2.2.2.2.2.2.2.2.2.1
        · exact HJ.out.2.2.2.2.2.2.2.2.2.2.2.2.2.2.2.2.2.2.2.2.2.1
        · exact HJ.out.2.2.2.2.2.2.2.2.2.2.2.2.2.2.2.2.2.2.2.2.2.2
      case hs =>
      refine AllI.cons0 (o := ?o3) ?ho ?hg ?h ?hs
      case ho => simp only [List.getElem?_toArray, List.getElem?_cons_zero, List.getElem?_cons_succ]; rfl
      case hg => rfl
      case h =>
        intro hun hdep K hK
        simp [Region.binds] at hun hdep
        have e2 : l2 = true := by first | exact hdep | (simp [hdep])
        subst e2
        clear hun hdep
        have hv := HJ.out.2.2.2.2.2.2.2.1 rfl
        subst hv
        go_simp
        go_at_call 17
        refine (CB.out _ (HJ.out.1).tabs (HJ.out.1).six').mono ?_
        rintro e w7 ⟨rfl, hb⟩
        refine hK.out _ _ ?_
        refine ⟨l0, l1, true, true, l4, l5, l6, l7, l8, l9, l10, l11, v12, v13, .agg #[.string y1, .string y2], .agg #[.int .u64 (lb : Int), .string kb, .int .u64 (lzb : Int), .string kzb], v16, v17, v7, v8, v9, j7, j8, j9, by simp, by simp only [Act.put, List.setIfInBounds_toArray, List.set_cons_zero, List.set_cons_succ], mkHid ⟨?_, ?_, ?_, ?_, ?_, ?_, ?_, ?_, ?_, ?_, ?_, ?_, ?_, ?_, ?_, ?_, ?_, ?_, ?_, ?_, ?_, ?_, ?_⟩⟩
        · exact (HJ.out.1).next hb
        · exact (HJ.out.2.1).grows hb
        · exact (HJ.out.2.2.1).grows hb
        · exact (HJ.out.2.2.2.1).grows hb
        · exact Nat.le_trans (HJ.out.2.2.2.2.1) hb.size
        · exact HJ.out.2.2.2.2.2.1
        · exact HJ.out.2.2.2.2.2.2.1
        · exact HJ.out.2.2.2.2.2.2.2.1
        · exact fun _ => rfl
        · exact HJ.out.2.2.2.2.2.2.2.2.2.1
        · exact HJ.out.2.2.2.2.2.2.2.2.2.2.1
        · exact HJ.out.2.2.2.2.2.2.2.2.2.2.2.1
        · exact HJ.out.2.2.2.2.2.2.2.2.2.2.2.2.1
        · exact HJ.out.2.2.2.2.2.2.2.2.2.2.2.2.2.1
        · exact (HJ.out.2.2.2.2.2.2.2.2.2.2.2.2.2.2.1).grows hb
        · exact (HJ.out.2.2.2.2.2.2.2.2.2.2.2.2.2.2.2.1).grows hb
        · exact (HJ.out.2.2.2.2.2.2.2.2.2.2.2.2.2.2.2.2.1).grows hb
        · exact HJ.out.2.2.2.2.2.2.2.2.2.2.2.2.2.2.2.2.2.1
        · exact HJ.out.2.2.2.2.2.2.2.2.2.2.2.2.2.2.2.2.2.2.1
        · exact HJ.out.2.2.2.2.2.2.2.2.2.2.2.2.2.2.2.2.2.2.2.1
        · exact HJ.out.2.2.2.2.2.2.2.2.2.2.2.2.2.2.2.2.2.2.2.2.1
        · exact HJ.out.2.2.2.2.2.2.2.2.2.2.2.2.2.2.2.2.2.2.2.2.2.1
        · exact HJ.out.2.2.2.2.2.2.2.2.2.2.2.2.2.2.2.2.2.2.2.2.2.2
      case hs =>
      refine AllI.cons0 (o := ?o4) ?ho ?hg ?h ?hs
      case ho => simp only [List.getElem?_toArray, List.getElem?_cons_zero, List.getElem?_cons_succ]; rfl
      case hg => rfl
      case h =>
        intro hun hdep K hK
        simp [Region.binds] at hun hdep
        clear hun hdep
        obtain ⟨u0, u1⟩ := HJ.out.2.2.2.1
        go_simp
        refine hK.out _ _ ?_
        refine ⟨l0, l1, l2, l3, true, l5, l6, l7, l8, l9, l10, l11, v12, v13, v14, v15, .agg #[.string z1, .string z2], v17, v7, v8, v9, j7, j8, j9, by simp, by simp only [Act.put, List.setIfInBounds_toArray, List.set_cons_zero, List.set_cons_succ], mkHid ⟨?_, ?_, ?_, ?_, ?_, ?_, ?_, ?_, ?_, ?_, ?_, ?_, ?_, ?_, ?_, ?_, ?_, ?_, ?_, ?_, ?_, ?_, ?_⟩⟩
        · exact HJ.out.1
        · exact HJ.out.2.1
        · exact HJ.out.2.2.1
        · exact HJ.out.2.2.2.1
        · exact HJ.out.2.2.2.2.1
        · exact HJ.out.2.2.2.2.2.1
        · exact HJ.out.2.2.2.2.2.2.1
        · exact HJ.out.2.2.2.2.2.2.2.1
        · exact HJ.out.2.2.2.2.2.2.2.2.1
        · exact fun _ => rfl
        · exact HJ.out.2.2.2.2.2.2.2.2.2.2.1
        · exact HJ.out.2.2.2.2.2.2.2.2.2.2.2.1
        · exact HJ.out.2.2.2.2.2.2.2.2.2.2.2.2.1
        · exact HJ.out.2.2.2.2.2.2.2.2.2.2.2.2.2.1
        · exact HJ.out.2.2.2.2.2.2.2.2.2.2.2.2.2.2.1
        · exact HJ.out.2.2.2.2.2.2.2.2.2.2.2.2.2.2.2.1
        · exact HJ.out.2.2.2.2.2.2.2.2.2.2.2.2.2.2.2.2.1
        · exact HJ.out.2.2.2.2.2.2.2.2.2.2.2.2.2.2.2.2.2.1
        · exact HJ.out.2.2.2.2.2.2.2.2.2.2.2.2.2.2.2.2.2.2.1
        · exact HJ.out.2.2.2.2.2.2.2.2.2.2.2.2.2.2.2.2.2.2.2.1
        · exact HJ.out.2.2.2.2.2.2.2.2.2.2.2.2.2.2.2.2.2.2.2.2.1
        · exact HJ.out.2.2.2.2.2.2.2.2.2.2.2.2.2.2.2.2.2.2.2.2.2.1
        · exact HJ.out.2.2.2.2.2.2.2.2.2.2.2.2.2.2.2.2.2.2.2.2.2.2
      case hs =>
      refine AllI.cons0 (o := ?o5) ?ho ?hg ?h ?hs
      case ho => simp only [List.getElem?_toArray, List.getElem?_cons_zero, List.getElem?_cons_succ]; rfl
      case hg => rfl
      case h =>
        intro hun hdep K hK
        simp [Region.binds] at hun hdep
        have e4 : l4 = true := by first | exact hdep | (simp [hdep])
        subst e4
        clear hun hdep
        have hv := HJ.out.2.2.2.2.2.2.2.2.2.1 rfl
        subst hv
        go_simp
        go_at_call 17
        refine (CC.out _ (HJ.out.1).tabs (HJ.out.1).six').mono ?_
        rintro e w7 ⟨rfl, hb⟩
        refine hK.out _ _ ?_
        refine ⟨l0, l1, l2, l3, true, true, l6, l7, l8, l9, l10, l11, v12, v13, v14, v15, .agg #[.string z1, .string z2], .agg #[.int .u64 (lc : Int), .string kc, .int .u64 (lzc : Int), .string kzc], v7, v8, v9, j7, j8, j9, by simp, by simp only [Act.put, List.setIfInBounds_toArray, List.set_cons_zero, List.set_cons_succ], mkHid ⟨?_, ?_, ?_, ?_, ?_, ?_, ?_, ?_, ?_, ?_, ?_, ?_, ?_, ?_, ?_, ?_, ?_, ?_, ?_, ?_, ?_, ?_, ?_⟩⟩
        · exact (HJ.out.1).next hb
        · exact (HJ.out.2.1).grows hb
        · exact (HJ.out.2.2.1).grows hb
        · exact (HJ.out.2.2.2.1).grows hb
        · exact Nat.le_trans (HJ.out.2.2.2.2.1) hb.size
        · exact HJ.out.2.2.2.2.2.1
        · exact HJ.out.2.2.2.2.2.2.1
        · exact HJ.out.2.2.2.2.2.2.2.1
        · exact HJ.out.2.2.2.2.2.2.2.2.1
        · exact HJ.out.2.2.2.2.2.2.2.2.2.1
        · exact fun _ => rfl
        · exact HJ.out.2.2.2.2.2.2.2.2.2.2.2.1
        · exact HJ.out.2.2.2.2.2.2.2.2.2.2.2.2.1
        · exact HJ.out.2.2.2.2.2.2.2.2.2.2.2.2.2.1
        · exact (HJ.out.2.2.2.2.2.2.2.2.2.2.2.2.2.2.1).grows hb
        · exact (HJ.out.2.2.2.2.2.2.2.2.2.2.2.2.2.2.2.1).grows hb
        · exact (HJ.out.2.2.2.2.2.2.2.2.2.2.2.2.2.2.2.2.1).grows hb
        · exact HJ.out.2.2.2.2.2.2.2.2.2.2.2.2.2.2.2.2.2.1
        · exact HJ.out.2.2.2.2.2.2.2.2.2.2.2.2.2.2.2.2.2.2.1
        · exact HJ.out.2.2.2.2.2.2.2.2.2.2.2.2.2.2.2.2.2.2.2.1
        · exact HJ.out.2.2.2.2.2.2.2.2.2.2.2.2.2.2.2.2.2.2.2.2.1
        · exact HJ.out.2.2.2.2.2.2.2.2.2.2.2.2.2.2.2.2.2.2.2.2.2.1
        · exact HJ.out.2.2.2.2.2.2.2.2.2.2.2.2.2.2.2.2.2.2.2.2.2.2
      case hs =>
      refine AllI.cons0 (o := ?o6) ?ho ?hg ?h ?hs
      case ho => simp only [List.getElem?_toArray, List.getElem?_cons_zero, List.getElem?_cons_succ]; rfl
      case hg => rfl
      case h =>
        intro hun hdep K hK
        simp [Region.binds] at hun hdep
        have e9 : l9 = false := by cases l9 <;> first | rfl | (have := HJ.out.2.2.2.2.2.2.2.2.2.2.2.2.2.2.2.2.2.2.2.2.1 rfl; rw [hun] at this; exact absurd this (by decide))
        subst e9
        clear hun hdep
        go_simp
        refine hK.out _ _ ?_
        refine ⟨l0, l1, l2, l3, l4, l5, true, l7, l8, false, l10, l11, v12, v13, v14, v15, v16, v17, .pointer (some ⟨X.heap.size, 0, none⟩), v8, v9, X.heap.size, j8, j9, by simp, by simp only [Act.put, List.setIfInBounds_toArray, List.set_cons_zero, List.set_cons_succ], mkHid ⟨?_, ?_, ?_, ?_, ?_, ?_, ?_, ?_, ?_, ?_, ?_, ?_, ?_, ?_, ?_, ?_, ?_, ?_, ?_, ?_, ?_, ?_, ?_⟩⟩
        · exact (HJ.out.1).alloc _
        · exact (HJ.out.2.1).alloc _
        · exact (HJ.out.2.2.1).alloc _
        · exact (HJ.out.2.2.2.1).alloc _
        · exact (by have := HJ.out.2.2.2.2.1; simp; omega)
        · exact HJ.out.2.2.2.2.2.1
        · exact HJ.out.2.2.2.2.2.2.1
        · exact HJ.out.2.2.2.2.2.2.2.1
        · exact HJ.out.2.2.2.2.2.2.2.2.1
        · exact HJ.out.2.2.2.2.2.2.2.2.2.1
        · exact HJ.out.2.2.2.2.2.2.2.2.2.2.1
        · exact fun _ => rfl
        · exact HJ.out.2.2.2.2.2.2.2.2.2.2.2.2.1
        · exact HJ.out.2.2.2.2.2.2.2.2.2.2.2.2.2.1
        · exact Bq.new (HJ.out.2.2.2.2.1)
        · exact (HJ.out.2.2.2.2.2.2.2.2.2.2.2.2.2.2.2.1).alloc _
        · exact (HJ.out.2.2.2.2.2.2.2.2.2.2.2.2.2.2.2.2.1).alloc _
        · exact fun _ h => Nat.ne_of_gt (Bq.lt (HJ.out.2.2.2.2.2.2.2.2.2.2.2.2.2.2.2.1) h)
        · exact fun _ h => Nat.ne_of_gt (Bq.lt (HJ.out.2.2.2.2.2.2.2.2.2.2.2.2.2.2.2.2.1) h)
        · exact HJ.out.2.2.2.2.2.2.2.2.2.2.2.2.2.2.2.2.2.2.2.1
        · exact fun _ => rfl
        · exact HJ.out.2.2.2.2.2.2.2.2.2.2.2.2.2.2.2.2.2.2.2.2.2.1
        · exact HJ.out.2.2.2.2.2.2.2.2.2.2.2.2.2.2.2.2.2.2.2.2.2.2
      case hs =>
      refine AllI.cons0 (o := ?o7) ?ho ?hg ?h ?hs
      case ho => simp only [List.getElem?_toArray, List.getElem?_cons_zero, List.getElem?_cons_succ]; rfl
      case hg => rfl
      case h =>
        intro hun hdep K hK
        simp [Region.binds] at hun hdep
        have e10 : l10 = false := by cases l10 <;> first | rfl | (have := HJ.out.2.2.2.2.2.2.2.2.2.2.2.2.2.2.2.2.2.2.2.2.2.1 rfl; rw [hun] at this; exact absurd this (by decide))
        subst e10
        clear hun hdep
        go_simp
        refine hK.out _ _ ?_
        refine ⟨l0, l1, l2, l3, l4, l5, l6, true, l8, l9, false, l11, v12, v13, v14, v15, v16, v17, v7, .pointer (some ⟨X.heap.size, 0, none⟩), v9, j7, X.heap.size, j9, by simp, by simp only [Act.put, List.setIfInBounds_toArray, List.set_cons_zero, List.set_cons_succ], mkHid ⟨?_, ?_, ?_, ?_, ?_, ?_, ?_, ?_, ?_, ?_, ?_, ?_, ?_, ?_, ?_, ?_, ?_, ?_, ?_, ?_, ?_, ?_, ?_⟩⟩
        · exact (HJ.out.1).alloc _
        · exact (HJ.out.2.1).alloc _
        · exact (HJ.out.2.2.1).alloc _
        · exact (HJ.out.2.2.2.1).alloc _
        · exact (by have := HJ.out.2.2.2.2.1; simp; omega)
        · exact HJ.out.2.2.2.2.2.1
        · exact HJ.out.2.2.2.2.2.2.1
        · exact HJ.out.2.2.2.2.2.2.2.1
        · exact HJ.out.2.2.2.2.2.2.2.2.1
        · exact HJ.out.2.2.2.2.2.2.2.2.2.1
        · exact HJ.out.2.2.2.2.2.2.2.2.2.2.1
        · exact HJ.out.2.2.2.2.2.2.2.2.2.2.2.1
        · exact fun _ => rfl
        · exact HJ.out.2.2.2.2.2.2.2.2.2.2.2.2.2.1
        · exact (HJ.out.2.2.2.2.2.2.2.2.2.2.2.2.2.2.1).alloc _
        · exact Bq.new (HJ.out.2.2.2.2.1)
        · exact (HJ.out.2.2.2.2.2.2.2.2.2.2.2.2.2.2.2.2.1).alloc _
        · exact fun h _ => Nat.ne_of_lt (Bq.lt (HJ.out.2.2.2.2.2.2.2.2.2.2.2.2.2.2.1) h)
        · exact HJ.out.2.2.2.2.2.2.2.2.2.2.2.2.2.2.2.2.2.2.1
        · exact fun _ h => Nat.ne_of_gt (Bq.lt (HJ.out.2.2.2.2.2.2.2.2.2.2.2.2.2.2.2.2.1) h)
        · exact HJ.out.2.2.2.2.2.2.2.2.2.2.2.2.2.2.2.2.2.2.2.2.1
        · exact fun _ => rfl
        · exact HJ.out.2.2.2.2.2.2.2.2.2.2.2.2.2.2.2.2.2.2.2.2.2.2
      case hs =>
      refine AllI.cons0 (o := ?o8) ?ho ?hg ?h ?hs
      case ho => simp only [List.getElem?_toArray, List.getElem?_cons_zero, List.getElem?_cons_succ]; rfl
      case hg => rfl
      case h =>
        intro hun hdep K hK
        simp [Region.binds] at hun hdep
        have e11 : l11 = false := by cases l11 <;> first | rfl | (have := HJ.out.2.2.2.2.2.2.2.2.2.2.2.2.2.2.2.2.2.2.2.2.2.2 rfl; rw [hun] at this; exact absurd this (by decide))
        subst e11
        clear hun hdep
        go_simp
        refine hK.out _ _ ?_
        refine ⟨l0, l1, l2, l3, l4, l5, l6, l7, true, l9, l10, false, v12, v13, v14, v15, v16, v17, v7, v8, .pointer (some ⟨X.heap.size, 0, none⟩), j7, j8, X.heap.size, by simp, by simp only [Act.put, List.setIfInBounds_toArray, List.set_cons_zero, List.set_cons_succ], mkHid ⟨?_, ?_, ?_, ?_, ?_, ?_, ?_, ?_, ?_, ?_, ?_, ?_, ?_, ?_, ?_, ?_, ?_, ?_, ?_, ?_, ?_, ?_, ?_⟩⟩
        · exact (HJ.out.1).alloc _
        · exact (HJ.out.2.1).alloc _
        · exact (HJ.out.2.2.1).alloc _
        · exact (HJ.out.2.2.2.1).alloc _
        · exact (by have := HJ.out.2.2.2.2.1; simp; omega)
        · exact HJ.out.2.2.2.2.2.1
        · exact HJ.out.2.2.2.2.2.2.1
        · exact HJ.out.2.2.2.2.2.2.2.1
        · exact HJ.out.2.2.2.2.2.2.2.2.1
        · exact HJ.out.2.2.2.2.2.2.2.2.2.1
        · exact HJ.out.2.2.2.2.2.2.2.2.2.2.1
        · exact HJ.out.2.2.2.2.2.2.2.2.2.2.2.1
        · exact HJ.out.2.2.2.2.2.2.2.2.2.2.2.2.1
        · exact fun _ => rfl
        · exact (HJ.out.2.2.2.2.2.2.2.2.2.2.2.2.2.2.1).alloc _
        · exact (HJ.out.2.2.2.2.2.2.2.2.2.2.2.2.2.2.2.1).alloc _
        · exact Bq.new (HJ.out.2.2.2.2.1)
        · exact HJ.out.2.2.2.2.2.2.2.2.2.2.2.2.2.2.2.2.2.1
        · exact fun h _ => Nat.ne_of_lt (Bq.lt (HJ.out.2.2.2.2.2.2.2.2.2.2.2.2.2.2.1) h)
        · exact fun h _ => Nat.ne_of_lt (Bq.lt (HJ.out.2.2.2.2.2.2.2.2.2.2.2.2.2.2.2.1) h)
        · exact HJ.out.2.2.2.2.2.2.2.2.2.2.2.2.2.2.2.2.2.2.2.2.1
        · exact HJ.out.2.2.2.2.2.2.2.2.2.2.2.2.2.2.2.2.2.2.2.2.2.1
        · exact fun _ => rfl
      case hs =>
      refine AllI.cons0 (o := ?o9) ?ho ?hg ?h ?hs
      case ho => simp only [List.getElem?_toArray, List.getElem?_cons_zero, List.getElem?_cons_succ]; rfl
      case hg => rfl
      case h =>
        intro hun hdep K hK
        simp [Region.binds] at hun hdep
        have e6 : l6 = true := by first | exact hdep | (simp [hdep])
        subst e6
        have e1 : l1 = true := by first | exact hdep | (simp [hdep])
        subst e1
        subst hun
        clear hdep
        have hv := HJ.out.2.2.2.2.2.2.2.2.2.2.2.1 rfl
        subst hv
        have hv := HJ.out.2.2.2.2.2.2.1 rfl
        subst hv
        have hj := (HJ.out.2.2.2.2.2.2.2.2.2.2.2.2.2.2.1 rfl).1
        obtain ⟨⟨c0, c1, c2, c3⟩, f0, f1, f2, f3⟩ := (HJ.out.2.2.2.2.2.2.2.2.2.2.2.2.2.2.1 rfl).2.2 rfl
        go_simp
        refine hK.out _ _ ?_
        refine ⟨l0, true, l2, l3, l4, l5, true, l7, l8, true, l10, l11, v12, .agg #[.int .u64 (la : Int), .string ka, .int .u64 (lza : Int), .string kza], v14, v15, v16, v17, .pointer (some ⟨j7, 0, none⟩), v8, v9, j7, j8, j9, by simp, by simp only [Act.put, List.setIfInBounds_toArray, List.set_cons_zero, List.set_cons_succ], mkHid ⟨?_, ?_, ?_, ?_, ?_, ?_, ?_, ?_, ?_, ?_, ?_, ?_, ?_, ?_, ?_, ?_, ?_, ?_, ?_, ?_, ?_, ?_, ?_⟩⟩
        · exact (HJ.out.1).set4 (by omega) _ _ _ _
        · exact (HJ.out.2.1).set4 (by omega) _ _ _ _
        · exact (HJ.out.2.2.1).set4 (by omega) _ _ _ _
        · exact (HJ.out.2.2.2.1).set4 (by omega) _ _ _ _
        · exact (by have := HJ.out.2.2.2.2.1; simp; omega)
        · exact HJ.out.2.2.2.2.2.1
        · exact HJ.out.2.2.2.2.2.2.1
        · exact HJ.out.2.2.2.2.2.2.2.1
        · exact HJ.out.2.2.2.2.2.2.2.2.1
        · exact HJ.out.2.2.2.2.2.2.2.2.2.1
        · exact HJ.out.2.2.2.2.2.2.2.2.2.2.1
        · exact HJ.out.2.2.2.2.2.2.2.2.2.2.2.1
        · exact HJ.out.2.2.2.2.2.2.2.2.2.2.2.2.1
        · exact HJ.out.2.2.2.2.2.2.2.2.2.2.2.2.2.1
        · exact Bq.fill (HJ.out.2.2.2.2.2.2.2.2.2.2.2.2.2.2.1)
        · exact (HJ.out.2.2.2.2.2.2.2.2.2.2.2.2.2.2.2.1).off (fun h => Ne.symm (HJ.out.2.2.2.2.2.2.2.2.2.2.2.2.2.2.2.2.2.1 rfl h)) _ _ _ _
        · exact (HJ.out.2.2.2.2.2.2.2.2.2.2.2.2.2.2.2.2.1).off (fun h => Ne.symm (HJ.out.2.2.2.2.2.2.2.2.2.2.2.2.2.2.2.2.2.2.1 rfl h)) _ _ _ _
        · exact HJ.out.2.2.2.2.2.2.2.2.2.2.2.2.2.2.2.2.2.1
        · exact HJ.out.2.2.2.2.2.2.2.2.2.2.2.2.2.2.2.2.2.2.1
        · exact HJ.out.2.2.2.2.2.2.2.2.2.2.2.2.2.2.2.2.2.2.2.1
        · exact fun _ => rfl
        · exact HJ.out.2.2.2.2.2.2.2.2.2.2.2.2.2.2.2.2.2.2.2.2.2.1
        · exact HJ.out.2.2.2.2.2.2.2.2.2.2.2.2.2.2.2.2.2.2.2.2.2.2
      case hs =>
      refine AllI.cons0 (o := ?o10) ?ho ?hg ?h ?hs
      case ho => simp only [List.getElem?_toArray, List.getElem?_cons_zero, List.getElem?_cons_succ]; rfl
      case hg => rfl
      case h =>
        intro hun hdep K hK
        simp [Region.binds] at hun hdep
        have e7 : l7 = true := by first | exact hdep | (simp [hdep])
        subst e7
        have e3 : l3 = true := by first | exact hdep | (simp [hdep])
        subst e3
        subst hun
        clear hdep
        have hv := HJ.out.2.2.2.2.2.2.2.2.2.2.2.2.1 rfl
        subst hv
        have hv := HJ.out.2.2.2.2.2.2.2.2.1 rfl
        subst hv
        have hj := (HJ.out.2.2.2.2.2.2.2.2.2.2.2.2.2.2.2.1 rfl).1
        obtain ⟨⟨c0, c1, c2, c3⟩, f0, f1, f2, f3⟩ := (HJ.out.2.2.2.2.2.2.2.2.2.2.2.2.2.2.2.1 rfl).2.2 rfl
        go_simp
        refine hK.out _ _ ?_
        refine ⟨l0, l1, l2, true, l4, l5, l6, true, l8, l9, true, l11, v12, v13, v14, .agg #[.int .u64 (lb : Int), .string kb, .int .u64 (lzb : Int), .string kzb], v16, v17, v7, .pointer (some ⟨j8, 0, none⟩), v9, j7, j8, j9, by simp, by simp only [Act.put, List.setIfInBounds_toArray, List.set_cons_zero, List.set_cons_succ], mkHid ⟨?_, ?_, ?_, ?_, ?_, ?_, ?_, ?_, ?_, ?_, ?_, ?_, ?_, ?_, ?_, ?_, ?_, ?_, ?_, ?_, ?_, ?_, ?_⟩⟩
        · exact (HJ.out.1).set4 (by omega) _ _ _ _
        · exact (HJ.out.2.1).set4 (by omega) _ _ _ _
        · exact (HJ.out.2.2.1).set4 (by omega) _ _ _ _
        · exact (HJ.out.2.2.2.1).set4 (by omega) _ _ _ _
        · exact (by have := HJ.out.2.2.2.2.1; simp; omega)
        · exact HJ.out.2.2.2.2.2.1
        · exact HJ.out.2.2.2.2.2.2.1
        · exact HJ.out.2.2.2.2.2.2.2.1
        · exact HJ.out.2.2.2.2.2.2.2.2.1
        · exact HJ.out.2.2.2.2.2.2.2.2.2.1
        · exact HJ.out.2.2.2.2.2.2.2.2.2.2.1
        · exact HJ.out.2.2.2.2.2.2.2.2.2.2.2.1
        · exact HJ.out.2.2.2.2.2.2.2.2.2.2.2.2.1
        · exact HJ.out.2.2.2.2.2.2.2.2.2.2.2.2.2.1
        · exact (HJ.out.2.2.2.2.2.2.2.2.2.2.2.2.2.2.1).off (fun h => (HJ.out.2.2.2.2.2.2.2.2.2.2.2.2.2.2.2.2.2.1 h rfl)) _ _ _ _
        · exact Bq.fill (HJ.out.2.2.2.2.2.2.2.2.2.2.2.2.2.2.2.1)
        · exact (HJ.out.2.2.2.2.2.2.2.2.2.2.2.2.2.2.2.2.1).off (fun h => Ne.symm (HJ.out.2.2.2.2.2.2.2.2.2.2.2.2.2.2.2.2.2.2.2.1 rfl h)) _ _ _ _
        · exact HJ.out.2.2.2.2.2.2.2.2.2.2.2.2.2.2.2.2.2.1
        · exact HJ.out.2.2.2.2.2.2.2.2.2.2.2.2.2.2.2.2.2.2.1
        · exact HJ.out.2.2.2.2.2.2.2.2.2.2.2.2.2.2.2.2.2.2.2.1
        · exact HJ.out.2.2.2.2.2.2.2.2.2.2.2.2.2.2.2.2.2.2.2.2.1
        · exact fun _ => rfl
        · exact HJ.out.2.2.2.2.2.2.2.2.2.2.2.2.2.2.2.2.2.2.2.2.2.2
      case hs =>
      refine AllI.cons0 (o := ?o11) ?ho ?hg ?h ?hs
      case ho => simp only [List.getElem?_toArray, List.getElem?_cons_zero, List.getElem?_cons_succ]; rfl
      case hg => rfl
      case h =>
        intro hun hdep K hK
        simp [Region.binds] at hun hdep
        have e8 : l8 = true := by first | exact hdep | (simp [hdep])
        subst e8
        have e5 : l5 = true := by first | exact hdep | (simp [hdep])
        subst e5
        subst hun
        clear hdep
        have hv := HJ.out.2.2.2.2.2.2.2.2.2.2.2.2.2.1 rfl
        subst hv
        have hv := HJ.out.2.2.2.2.2.2.2.2.2.2.1 rfl
        subst hv
        have hj := (HJ.out.2.2.2.2.2.2.2.2.2.2.2.2.2.2.2.2.1 rfl).1
        obtain ⟨⟨c0, c1, c2, c3⟩, f0, f1, f2, f3⟩ := (HJ.out.2.2.2.2.2.2.2.2.2.2.2.2.2.2.2.2.1 rfl).2.2 rfl
        go_simp
        refine hK.out _ _ ?_
        refine ⟨l0, l1, l2, l3, l4, true, l6, l7, true, l9, l10, true, v12, v13, v14, v15, v16, .agg #[.int .u64 (lc : Int), .string kc, .int .u64 (lzc : Int), .string kzc], v7, v8, .pointer (some ⟨j9, 0, none⟩), j7, j8, j9, by simp, by simp only [Act.put, List.setIfInBounds_toArray, List.set_cons_zero, List.set_cons_succ], mkHid ⟨?_, ?_, ?_, ?_, ?_, ?_, ?_, ?_, ?_, ?_, ?_, ?_, ?_, ?_, ?_, ?_, ?_, ?_, ?_, ?_, ?_, ?_, ?_⟩⟩
        · exact (HJ.out.1).set4 (by omega) _ _ _ _
        · exact (HJ.out.2.1).set4 (by omega) _ _ _ _
        · exact (HJ.out.2.2.1).set4 (by omega) _ _ _ _
        · exact (HJ.out.2.2.2.1).set4 (by omega) _ _ _ _
        · exact (by have := HJ.out.2.2.2.2.1; simp; omega)
        · exact HJ.out.2.2.2.2.2.1
        · exact HJ.out.2.2.2.2.2.2.1
        · exact HJ.out.2.2.2.2.2.2.2.1
        · exact HJ.out.2.2.2.2.2.2.2.2.1
        · exact HJ.out.2.2.2.2.2.2.2.2.2.1
        · exact HJ.out.2.2.2.2.2.2.2.2.2.2.1
        · exact HJ.out.2.2.2.2.2.2.2.2.2.2.2.1
        · exact HJ.out.2.2.2.2.2.2.2.2.2.2.2.2.1
        · exact HJ.out.2.2.2.2.2.2.2.2.2.2.2.2.2.1
        · exact (HJ.out.2.2.2.2.2.2.2.2.2.2.2.2.2.2.1).off (fun h => (HJ.out.2.2.2.2.2.2.2.2.2.2.2.2.2.2.2.2.2.2.1 h rfl)) _ _ _ _
        · exact (HJ.out.2.2.2.2.2.2.2.2.2.2.2.2.2.2.2.1).off (fun h => (HJ.out.2.2.2.2.2.2.2.2.2.2.2.2.2.2.2.2.2.2.2.1 h rfl)) _ _ _ _
        · exact Bq.fill (HJ.out.2.2.2.2.2.2.2.2.2.2.2.2.2.2.2.2.1)
        · exact HJ.out.2.2.2.2.2.2.2.2.2.2.2.2.2.2.2.2.2.1
        · exact HJ.out.2.2.2.2.2.2.2.2.2.2.2.2.2.2.2.2.2.2.1
        · exact HJ.out.2.2.2.2.2.2.2.2.2.2.2.2.2.2.2.2.2.2.2.1
        · exact HJ.out.2.2.2.2.2.2.2.2.2.2.2.2.2.2.2.2.2.2.2.2.1
        · exact HJ.out.2.2.2.2.2.2.2.2.2.2.2.2.2.2.2.2.2.2.2.2.2.1
        · exact fun _ => rfl
      case hs =>
      exact AllI.nil
    case refine_3 =>
      intro listed A X hI hall
      obtain ⟨l0, l1, l2, l3, l4, l5, l6, l7, l8, l9, l10, l11, v12, v13, v14, v15, v16, v17, v7, v8, v9, j7, j8, j9, rfl, hA, HJ⟩ := hI
      simp at hall
      obtain ⟨rfl, rfl, rfl, rfl, rfl, rfl, rfl, rfl, rfl, rfl, rfl, rfl⟩ := hall
      have hv := HJ.out.2.2.2.2.2.1 rfl
      subst hv
      have hv := HJ.out.2.2.2.2.2.2.1 rfl
      subst hv
      have hv := HJ.out.2.2.2.2.2.2.2.2.2.2.2.1 rfl
      subst hv
      have hv := HJ.out.2.2.2.2.2.2.2.1 rfl
      subst hv
      have hv := HJ.out.2.2.2.2.2.2.2.2.1 rfl
      subst hv
      have hv := HJ.out.2.2.2.2.2.2.2.2.2.2.2.2.1 rfl
      subst hv
      have hv := HJ.out.2.2.2.2.2.2.2.2.2.1 rfl
      subst hv
      have hv := HJ.out.2.2.2.2.2.2.2.2.2.2.1 rfl
      subst hv
      have hv := HJ.out.2.2.2.2.2.2.2.2.2.2.2.2.2.1 rfl
      subst hv
      simp only [Act.put, List.setIfInBounds_toArray, List.set_cons_zero, List.set_cons_succ] at hA
      subst hA
      go_wp2_with fail
      go_meet
      exact ⟨j7, j8, j9, rfl, rfl, rfl, mkHid ⟨HJ.out.1, (HJ.out.2.2.2.2.2.2.2.2.2.2.2.2.2.2.1 rfl).2.1 rfl, (HJ.out.2.2.2.2.2.2.2.2.2.2.2.2.2.2.2.1 rfl).2.1 rfl, (HJ.out.2.2.2.2.2.2.2.2.2.2.2.2.2.2.2.2.1 rfl).2.1 rfl⟩⟩
  case rest =>
  clear hsn HS Hu Hv Hw hB0 hW0
  obtain ⟨j7, j8, j9, rfl, rfl, rfl, HN⟩ := hcut
  have HS := mkHid HN.out.1
  have Ha := mkHid HN.out.2.1
  have Hb := mkHid HN.out.2.2.1
  have Hc := mkHid HN.out.2.2.2
  clear HN
  obtain ⟨⟨a0, a1, a2, a3⟩, -⟩ := Ha.out
  obtain ⟨⟨b0, b1, b2, b3⟩, -⟩ := Hb.out
  obtain ⟨⟨c0, c1, c2, c3⟩, -⟩ := Hc.out
  go_upto_region 3 with ((go_at_call 13; (with_reducible refine (O1.out _ HS.out.tabs HS.out.six').mono ?_); rintro e w4 ⟨rfl, hb⟩; have HS := mkHid (HS.out.next hb); have Ha := mkHid (Ha.out.grows hb); have Hb := mkHid (Hb.out.grows hb); have Hc := mkHid (Hc.out.grows hb); have HS := mkHid (HS.out.alloc (.cells #[.int .u64 (lo : Int), .string ko, .int .u64 (lzo : Int), .string kzo] 26)); have Ha := mkHid (Ha.out.alloc (.cells #[.int .u64 (lo : Int), .string ko, .int .u64 (lzo : Int), .string kzo] 26)); have Hb := mkHid (Hb.out.alloc (.cells #[.int .u64 (lo : Int), .string ko, .int .u64 (lzo : Int), .string kzo] 26)); have Hc := mkHid (Hc.out.alloc (.cells #[.int .u64 (lo : Int), .string ko, .int .u64 (lzo : Int), .string kzo] 26)); have Ho := mkHid (At4.new w4 w4.heap.size lo ko lzo kzo rfl); clear hb; obtain ⟨⟨a0, a1, a2, a3⟩, -⟩ := Ha.out; obtain ⟨⟨b0, b1, b2, b3⟩, -⟩ := Hb.out; obtain ⟨⟨c0, c1, c2, c3⟩, -⟩ := Hc.out; obtain ⟨⟨o0, o1, o2, o3⟩, -⟩ := Ho.out))
  have hsn := HS.out
  obtain ⟨⟨a0, a1, a2, a3⟩, -⟩ := Ha.out
  obtain ⟨⟨b0, b1, b2, b3⟩, -⟩ := Hb.out
  obtain ⟨⟨o0, o1, o2, o3⟩, -⟩ := Ho.out
  go_region_held3 (fun X => St W X ∧ At4 X (j7) la ka lza kza ∧ At4 X (j8) lb kb lzb kzb ∧ At4 X (j9) lc kc lzc kzc ∧ At4 X (w4.heap.size) lo ko lzo kzo ∧ X.cell? ⟨j7, 0, none⟩ = some (.int .u64 (la : Int)) ∧ X.cell? ⟨j7, 1, none⟩ = some (.string ka) ∧ X.cell? ⟨j7, 2, none⟩ = some (.int .u64 (lza : Int)) ∧ X.cell? ⟨j7, 3, none⟩ = some (.string kza) ∧ X.cell? ⟨j8, 0, none⟩ = some (.int .u64 (lb : Int)) ∧ X.cell? ⟨j8, 1, none⟩ = some (.string kb) ∧ X.cell? ⟨j8, 2, none⟩ = some (.int .u64 (lzb : Int)) ∧ X.cell? ⟨j8, 3, none⟩ = some (.string kzb) ∧ X.cell? ⟨w4.heap.size, 0, none⟩ = some (.int .u64 (lo : Int)) ∧ X.cell? ⟨w4.heap.size, 1, none⟩ = some (.string ko) ∧ X.cell? ⟨w4.heap.size, 2, none⟩ = some (.int .u64 (lzo : Int)) ∧ X.cell? ⟨w4.heap.size, 3, none⟩ = some (.string kzo))
    (first
      | (with_reducible exact ⟨hS.1.next hb, hS.2.1.grows hb, hS.2.2.1.grows hb, hS.2.2.2.1.grows hb, hS.2.2.2.2.1.grows hb, St.cell hb hS.2.2.2.2.2.1, St.cell hb hS.2.2.2.2.2.2.1, St.cell hb hS.2.2.2.2.2.2.2.1, St.cell hb hS.2.2.2.2.2.2.2.2.1, St.cell hb hS.2.2.2.2.2.2.2.2.2.1, St.cell hb hS.2.2.2.2.2.2.2.2.2.2.1, St.cell hb hS.2.2.2.2.2.2.2.2.2.2.2.1, St.cell hb hS.2.2.2.2.2.2.2.2.2.2.2.2.1, St.cell hb hS.2.2.2.2.2.2.2.2.2.2.2.2.2.1, St.cell hb hS.2.2.2.2.2.2.2.2.2.2.2.2.2.2.1, St.cell hb hS.2.2.2.2.2.2.2.2.2.2.2.2.2.2.2.1, St.cell hb hS.2.2.2.2.2.2.2.2.2.2.2.2.2.2.2.2⟩)
      | exact ⟨hsn.drew, Ha.out.drew, Hb.out.drew, Hc.out.drew, Ho.out.drew, a0, a1, a2, a3, b0, b1, b2, b3, o0, o1, o2, o3⟩)
    (first
      | (go_at_call 19; have hS : St W _ ∧ _ := (by assumption); (with_reducible refine (A1.out _ hS.1.tabs hS.1.six').mono ?_); rintro e w6 ⟨rfl, hb⟩)
      | (go_at_call 19; have hS : St W _ ∧ _ := (by assumption); (with_reducible refine (A2.out _ hS.1.tabs hS.1.six').mono ?_); rintro e w6 ⟨rfl, hb⟩)
      | (go_at_call 18; have hS : St W _ ∧ _ := (by assumption); (with_reducible refine (E1.out _ hS.1.tabs hS.1.six').mono ?_); rintro e w6 ⟨rfl, hb⟩)
      | (go_at_call 20; have hS : St W _ ∧ _ := (by assumption); (with_reducible refine (M1.out _ hS.1.tabs hS.1.six').mono ?_); rintro e w6 ⟨rfl, hb⟩)
      | (go_at_call 20; have hS : St W _ ∧ _ := (by assumption); (with_reducible refine (M2.out _ hS.1.tabs hS.1.six').mono ?_); rintro e w6 ⟨rfl, hb⟩)
      | (go_at_call 18; have hS : St W _ ∧ _ := (by assumption); (with_reducible refine (E2.out _ hS.1.tabs hS.1.six').mono ?_); rintro e w6 ⟨rfl, hb⟩)
      | (go_at_call 20; have hS : St W _ ∧ _ := (by assumption); (with_reducible refine (M3.out _ hS.1.tabs hS.1.six').mono ?_); rintro e w6 ⟨rfl, hb⟩)
      | (go_at_call 18; have hS : St W _ ∧ _ := (by assumption); (with_reducible refine (E3.out _ hS.1.tabs hS.1.six').mono ?_); rintro e w6 ⟨rfl, hb⟩))
  have hT : St W _ ∧ _ := (by assumption)
  clear hsn HS Ha Hb Hc Ho a0 a1 a2 a3 b0 b1 b2 b3 o0 o1 o2 o3
  have HS := mkHid hT.1
  have Ha := mkHid hT.2.1
  have Hb := mkHid hT.2.2.1
  have Hc := mkHid hT.2.2.2.1
  have Ho := mkHid hT.2.2.2.2.1
  clear hT
  obtain ⟨⟨a0, a1, a2, a3⟩, -⟩ := Ha.out
  obtain ⟨⟨b0, b1, b2, b3⟩, -⟩ := Hb.out
  obtain ⟨⟨c0, c1, c2, c3⟩, -⟩ := Hc.out
  obtain ⟨⟨o0, o1, o2, o3⟩, -⟩ := Ho.out
  go_upto_region 5 with (fail)
  have hsn := HS.out
  obtain ⟨⟨a0, a1, a2, a3⟩, -⟩ := Ha.out
  obtain ⟨⟨b0, b1, b2, b3⟩, -⟩ := Hb.out
  obtain ⟨⟨c0, c1, c2, c3⟩, -⟩ := Hc.out
  go_region_held3 (fun X => St W X ∧ At4 X (j7) la ka lza kza ∧ At4 X (j8) lb kb lzb kzb ∧ At4 X (j9) lc kc lzc kzc ∧ At4 X (w4.heap.size) lo ko lzo kzo ∧ X.cell? ⟨j7, 0, none⟩ = some (.int .u64 (la : Int)) ∧ X.cell? ⟨j7, 1, none⟩ = some (.string ka) ∧ X.cell? ⟨j7, 2, none⟩ = some (.int .u64 (lza : Int)) ∧ X.cell? ⟨j7, 3, none⟩ = some (.string kza) ∧ X.cell? ⟨j8, 0, none⟩ = some (.int .u64 (lb : Int)) ∧ X.cell? ⟨j8, 1, none⟩ = some (.string kb) ∧ X.cell? ⟨j8, 2, none⟩ = some (.int .u64 (lzb : Int)) ∧ X.cell? ⟨j8, 3, none⟩ = some (.string kzb) ∧ X.cell? ⟨j9, 0, none⟩ = some (.int .u64 (lc : Int)) ∧ X.cell? ⟨j9, 1, none⟩ = some (.string kc) ∧ X.cell? ⟨j9, 2, none⟩ = some (.int .u64 (lzc : Int)) ∧ X.cell? ⟨j9, 3, none⟩ = some (.string kzc))
    (first
      | (with_reducible exact ⟨hS.1.next hb, hS.2.1.grows hb, hS.2.2.1.grows hb, hS.2.2.2.1.grows hb, hS.2.2.2.2.1.grows hb, St.cell hb hS.2.2.2.2.2.1, St.cell hb hS.2.2.2.2.2.2.1, St.cell hb hS.2.2.2.2.2.2.2.1, St.cell hb hS.2.2.2.2.2.2.2.2.1, St.cell hb hS.2.2.2.2.2.2.2.2.2.1, St.cell hb hS.2.2.2.2.2.2.2.2.2.2.1, St.cell hb hS.2.2.2.2.2.2.2.2.2.2.2.1, St.cell hb hS.2.2.2.2.2.2.2.2.2.2.2.2.1, St.cell hb hS.2.2.2.2.2.2.2.2.2.2.2.2.2.1, St.cell hb hS.2.2.2.2.2.2.2.2.2.2.2.2.2.2.1, St.cell hb hS.2.2.2.2.2.2.2.2.2.2.2.2.2.2.2.1, St.cell hb hS.2.2.2.2.2.2.2.2.2.2.2.2.2.2.2.2⟩)
      | exact ⟨hsn.drew, Ha.out.drew, Hb.out.drew, Hc.out.drew, Ho.out.drew, a0, a1, a2, a3, b0, b1, b2, b3, c0, c1, c2, c3⟩)
    (first
      | (go_at_call 19; have hS : St W _ ∧ _ := (by assumption); (with_reducible refine (A1.out _ hS.1.tabs hS.1.six').mono ?_); rintro e w6 ⟨rfl, hb⟩)
      | (go_at_call 19; have hS : St W _ ∧ _ := (by assumption); (with_reducible refine (A3.out _ hS.1.tabs hS.1.six').mono ?_); rintro e w6 ⟨rfl, hb⟩)
      | (go_at_call 19; have hS : St W _ ∧ _ := (by assumption); (with_reducible refine (A4.out _ hS.1.tabs hS.1.six').mono ?_); rintro e w6 ⟨rfl, hb⟩)
      | (go_at_call 19; have hS : St W _ ∧ _ := (by assumption); (with_reducible refine (A5.out _ hS.1.tabs hS.1.six').mono ?_); rintro e w6 ⟨rfl, hb⟩)
      | (go_at_call 18; have hS : St W _ ∧ _ := (by assumption); (with_reducible refine (E4.out _ hS.1.tabs hS.1.six').mono ?_); rintro e w6 ⟨rfl, hb⟩)
      | (go_at_call 20; have hS : St W _ ∧ _ := (by assumption); (with_reducible refine (M1.out _ hS.1.tabs hS.1.six').mono ?_); rintro e w6 ⟨rfl, hb⟩)
      | (go_at_call 20; have hS : St W _ ∧ _ := (by assumption); (with_reducible refine (M4.out _ hS.1.tabs hS.1.six').mono ?_); rintro e w6 ⟨rfl, hb⟩)
      | (go_at_call 20; have hS : St W _ ∧ _ := (by assumption); (with_reducible refine (M5.out _ hS.1.tabs hS.1.six').mono ?_); rintro e w6 ⟨rfl, hb⟩)
      | (go_at_call 20; have hS : St W _ ∧ _ := (by assumption); (with_reducible refine (M6.out _ hS.1.tabs hS.1.six').mono ?_); rintro e w6 ⟨rfl, hb⟩)
      | (go_at_call 18; have hS : St W _ ∧ _ := (by assumption); (with_reducible refine (E5.out _ hS.1.tabs hS.1.six').mono ?_); rintro e w6 ⟨rfl, hb⟩))
  have hT : St W _ ∧ _ := (by assumption)
  clear hsn HS Ha Hb Hc Ho a0 a1 a2 a3 b0 b1 b2 b3 c0 c1 c2 c3
  have HS := mkHid hT.1
  have Ha := mkHid hT.2.1
  have Hb := mkHid hT.2.2.1
  have Hc := mkHid hT.2.2.2.1
  have Ho := mkHid hT.2.2.2.2.1
  clear hT
  obtain ⟨⟨a0, a1, a2, a3⟩, -⟩ := Ha.out
  obtain ⟨⟨b0, b1, b2, b3⟩, -⟩ := Hb.out
  obtain ⟨⟨c0, c1, c2, c3⟩, -⟩ := Hc.out
  obtain ⟨⟨o0, o1, o2, o3⟩, -⟩ := Ho.out
  go_upto_region 7 with (fail)
  have hsn := HS.out
  obtain ⟨⟨a0, a1, a2, a3⟩, -⟩ := Ha.out
  obtain ⟨⟨b0, b1, b2, b3⟩, -⟩ := Hb.out
  obtain ⟨⟨c0, c1, c2, c3⟩, -⟩ := Hc.out
  go_region_held3 (fun X => St W X ∧ At4 X (j7) la ka lza kza ∧ At4 X (j8) lb kb lzb kzb ∧ At4 X (j9) lc kc lzc kzc ∧ At4 X (w4.heap.size) lo ko lzo kzo ∧ X.cell? ⟨j7, 0, none⟩ = some (.int .u64 (la : Int)) ∧ X.cell? ⟨j7, 1, none⟩ = some (.string ka) ∧ X.cell? ⟨j7, 2, none⟩ = some (.int .u64 (lza : Int)) ∧ X.cell? ⟨j7, 3, none⟩ = some (.string kza) ∧ X.cell? ⟨j8, 0, none⟩ = some (.int .u64 (lb : Int)) ∧ X.cell? ⟨j8, 1, none⟩ = some (.string kb) ∧ X.cell? ⟨j8, 2, none⟩ = some (.int .u64 (lzb : Int)) ∧ X.cell? ⟨j8, 3, none⟩ = some (.string kzb) ∧ X.cell? ⟨j9, 0, none⟩ = some (.int .u64 (lc : Int)) ∧ X.cell? ⟨j9, 1, none⟩ = some (.string kc) ∧ X.cell? ⟨j9, 2, none⟩ = some (.int .u64 (lzc : Int)) ∧ X.cell? ⟨j9, 3, none⟩ = some (.string kzc))
    (first
      | (with_reducible exact ⟨hS.1.next hb, hS.2.1.grows hb, hS.2.2.1.grows hb, hS.2.2.2.1.grows hb, hS.2.2.2.2.1.grows hb, St.cell hb hS.2.2.2.2.2.1, St.cell hb hS.2.2.2.2.2.2.1, St.cell hb hS.2.2.2.2.2.2.2.1, St.cell hb hS.2.2.2.2.2.2.2.2.1, St.cell hb hS.2.2.2.2.2.2.2.2.2.1, St.cell hb hS.2.2.2.2.2.2.2.2.2.2.1, St.cell hb hS.2.2.2.2.2.2.2.2.2.2.2.1, St.cell hb hS.2.2.2.2.2.2.2.2.2.2.2.2.1, St.cell hb hS.2.2.2.2.2.2.2.2.2.2.2.2.2.1, St.cell hb hS.2.2.2.2.2.2.2.2.2.2.2.2.2.2.1, St.cell hb hS.2.2.2.2.2.2.2.2.2.2.2.2.2.2.2.1, St.cell hb hS.2.2.2.2.2.2.2.2.2.2.2.2.2.2.2.2⟩)
      | exact ⟨hsn.drew, Ha.out.drew, Hb.out.drew, Hc.out.drew, Ho.out.drew, a0, a1, a2, a3, b0, b1, b2, b3, c0, c1, c2, c3⟩)
    (first
      | (go_at_call 19; have hS : St W _ ∧ _ := (by assumption); (with_reducible refine (A4.out _ hS.1.tabs hS.1.six').mono ?_); rintro e w6 ⟨rfl, hb⟩)
      | (go_at_call 20; have hS : St W _ ∧ _ := (by assumption); (with_reducible refine (M7.out _ hS.1.tabs hS.1.six').mono ?_); rintro e w6 ⟨rfl, hb⟩)
      | (go_at_call 20; have hS : St W _ ∧ _ := (by assumption); (with_reducible refine (M1.out _ hS.1.tabs hS.1.six').mono ?_); rintro e w6 ⟨rfl, hb⟩)
      | (go_at_call 20; have hS : St W _ ∧ _ := (by assumption); (with_reducible refine (M8.out _ hS.1.tabs hS.1.six').mono ?_); rintro e w6 ⟨rfl, hb⟩)
      | (go_at_call 19; have hS : St W _ ∧ _ := (by assumption); (with_reducible refine (A6.out _ hS.1.tabs hS.1.six').mono ?_); rintro e w6 ⟨rfl, hb⟩)
      | (go_at_call 18; have hS : St W _ ∧ _ := (by assumption); (with_reducible refine (E6.out _ hS.1.tabs hS.1.six').mono ?_); rintro e w6 ⟨rfl, hb⟩)
      | (go_at_call 16; have hS : St W _ ∧ _ := (by assumption); (with_reducible refine (CW.out _ hS.1.tabs hS.1.six').mono ?_); rintro e w6 ⟨rfl, hb⟩))
  have hT : St W _ ∧ _ := (by assumption)
  clear hsn HS Ha Hb Hc Ho a0 a1 a2 a3 b0 b1 b2 b3 c0 c1 c2 c3
  have HS := mkHid hT.1
  have Ha := mkHid hT.2.1
  have Hb := mkHid hT.2.2.1
  have Hc := mkHid hT.2.2.2.1
  have Ho := mkHid hT.2.2.2.2.1
  clear hT
  obtain ⟨⟨a0, a1, a2, a3⟩, -⟩ := Ha.out
  obtain ⟨⟨b0, b1, b2, b3⟩, -⟩ := Hb.out
  obtain ⟨⟨c0, c1, c2, c3⟩, -⟩ := Hc.out
  obtain ⟨⟨o0, o1, o2, o3⟩, -⟩ := Ho.out
  go_wp2_with fail
  go_ret
  exact ⟨rfl, HS.out.below⟩

theorem ratField_any (x1 x2 y1 y2 z1 z2 : ByteArray) (w : World) (ht : Tabs w) (h6 : 6 ≤ w.heap.size) :
    Calls Tryd.prog 4 #[.agg #[.string x1, .string x2], .agg #[.string y1, .string y2], .agg #[.string z1, .string z2]] w fun e w' => e = .returned (.bool true) ∧ Below w.heap.size w w' := by
  obtain ⟨na, da, ha⟩ := taken x1 x2
  obtain ⟨nb, db, hb⟩ := taken y1 y2
  obtain ⟨nc, dc, hc⟩ := taken z1 z2
  have CA := vrat_g x1 x2 na da ha
  have CB := vrat_g y1 y2 nb db hb
  have CC := vrat_g z1 z2 nc dc hc
  have la := ha.lo
  have wa := ha.kw
  have lb := hb.lo
  have wb := hb.kw
  have lc := hc.lo
  have wc := hc.kw
  generalize rn na (pos1 da) = pa at *
  generalize rd na (pos1 da) = qa at *
  generalize rn nb (pos1 db) = pb at *
  generalize rd nb (pos1 db) = qb at *
  generalize rn nc (pos1 dc) = pc at *
  generalize rd nc (pos1 dc) = qc at *
  have a0 := la.1
  have b0 := lb.1
  have c0 := lc.1
  have lo1 : Lo 1 1 := ⟨by omega, by decide +kernel⟩
  have wo1 : Kw 1 1 1 := ⟨by rw [Nat.pow_one]; decide, by rw [Nat.pow_one]; decide⟩
  have o1 := of2_pos 1 1 (by decide) (by decide) (by omega)
  rw [show rn 1 1 = 1 by decide +kernel, show rd 1 1 = 1 by decide +kernel] at o1
  obtain ⟨p1, q1, l1, w1, v1, A1⟩ := add_ex la lb wa wb (by omega) (by omega)
  obtain ⟨p1', q1', _, _, v1', A2⟩ := add_ex lb la wb wa (by omega) (by omega)
  obtain ⟨rfl, rfl⟩ := v1'.uniq v1 (by grind)
  obtain ⟨p2, q2, l2, w2, v2, M1⟩ := mul_ex la lb wa wb (by omega) (by omega)
  obtain ⟨p2', q2', _, _, v2', M2⟩ := mul_ex lb la wb wa (by omega) (by omega)
  obtain ⟨rfl, rfl⟩ := v2'.uniq v2 (by grind)
  obtain ⟨pm, qm, _, _, vm, M3⟩ := mul_ex lo1 la wo1 wa (by omega) (by omega)
  obtain ⟨rfl, rfl⟩ := vm.uniq (V.self la) (by grind)
  obtain ⟨p3, q3, l3, w3, v3, A3⟩ := add_ex l1 lc w1 wc (by omega) (by omega)
  have v3 := V.add v1 (V.self lc) v3
  obtain ⟨p4, q4, l4, w4, v4, A4⟩ := add_ex lb lc wb wc (by omega) (by omega)
  obtain ⟨p3', q3', _, _, v3', A5⟩ := add_ex la l4 wa w4 (by omega) (by omega)
  have v3' := V.add (V.self la) v4 v3'
  obtain ⟨rfl, rfl⟩ := v3'.uniq v3 (by grind)
  obtain ⟨p5, q5, l5, w5, v5, M4⟩ := mul_ex l2 lc w2 wc (by omega) (by omega)
  have v5 := V.mul v2 (V.self lc) v5
  obtain ⟨p6, q6, l6, w6, v6, M5⟩ := mul_ex lb lc wb wc (by omega) (by omega)
  obtain ⟨p5', q5', _, _, v5', M6⟩ := mul_ex la l6 wa w6 (by omega) (by omega)
  have v5' := V.mul (V.self la) v6 v5'
  obtain ⟨rfl, rfl⟩ := v5'.uniq v5 (by grind)
  obtain ⟨p7, q7, l7, w7, v7, M7⟩ := mul_ex la l4 wa w4 (by omega) (by omega)
  have v7 := V.mul (V.self la) v4 v7
  obtain ⟨p8, q8, l8, w8, v8, M8⟩ := mul_ex la lc wa wc (by omega) (by omega)
  obtain ⟨p7', q7', _, _, v7', A6⟩ := add_ex l2 l8 w2 w8 (by omega) (by omega)
  have v7' := V.add v2 v8 v7'
  obtain ⟨rfl, rfl⟩ := v7'.uniq v7 (by grind)
  exact field_raw x1 x2 y1 y2 z1 z2 _ _ _ _ _ _ _ _ _ _ _ _ _ _ _ _ _ _ _ _ _ _ CA CB CC o1 A1 A2 M1 M2 M3 A3 A4 A5 M4 M5 M6 M7 M8 A6 (eq_of (by assumption) (by assumption) (by omega)) (eq_of (by assumption) (by assumption) (by omega)) (eq_of (by assumption) (by assumption) (by omega)) (eq_of (by assumption) (by assumption) (by omega)) (eq_of (by assumption) (by assumption) (by omega)) (eq_of (by assumption) (by assumption) (by omega)) w ht h6
end Go.Proofs.YtflcdpolfimggaaDoor
