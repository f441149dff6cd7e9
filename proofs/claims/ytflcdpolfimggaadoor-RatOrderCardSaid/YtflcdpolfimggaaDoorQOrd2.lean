/- Package rat: RatOrder, a case. -/
import Derived.Test.YtflcdpolfimggaaDoorQOrd0
namespace Go.Proofs.YtflcdpolfimggaaDoor
open Go.RowKit Q SD

set_option maxRecDepth 100000 in
set_option maxHeartbeats 16000000 in
set_option linter.unusedSimpArgs false in
set_option linter.unusedVariables false in
theorem order_raw2 (x1 x2 y1 y2 z1 z2 : ByteArray) (pa qa pb qb pc qc p1 q1 p2 q2 p3 q3 p4 q4 pd qd : Nat) (n nn m k n6 : Int) (eqb ok z : Bool) (tc : ByteArray)
    (hcase : n = 0 ∧ nn = 0 ∧ eqb = true ∧ ok = true ∧ decide (m ≤ 0) = true ∧ decide (0 < k) = false) (hz : (tc.toList == [48]) = z) (h6z : z = true ∨ (z = false ∧ n6 = n))
    (CA : Gives 17 #[.agg #[.string x1, .string x2]] (rv pa qa)) (CB : Gives 17 #[.agg #[.string y1, .string y2]] (rv pb qb)) (CC : Gives 17 #[.agg #[.string z1, .string z2]] (rv pc qc)) (K1 : Gives 24 #[rv pa qa, rv pb qb] (.int .i64 n)) (K2 : Gives 24 #[rv pb qb, rv pc qc] (.int .i64 m)) (K3 : Gives 24 #[rv pb qb, rv pa qa] (.int .i64 nn)) (K4 : Gives 24 #[rv pa qa, rv pc qc] (.int .i64 k)) (E1 : Gives 18 #[rv pa qa, rv pb qb] (.bool eqb)) (S1 : Gives 21 #[rv pa qa, rv pb qb] (.tuple #[rv pd qd, .bool ok])) (A1 : Gives 19 #[rv pa qa, rv pc qc] (rv p1 q1)) (A2 : Gives 19 #[rv pb qb, rv pc qc] (rv p2 q2)) (K5 : Gives 24 #[rv p1 q1, rv p2 q2] (.int .i64 n)) (T1 : Gives 22 #[rv pc qc] (.string tc)) (M1 : Gives 20 #[rv pa qa, rv pc qc] (rv p3 q3)) (M2 : Gives 20 #[rv pb qb, rv pc qc] (rv p4 q4)) (K6 : Gives 24 #[rv p3 q3, rv p4 q4] (.int .i64 n6)) :
    Gives 6 #[.agg #[.string x1, .string x2], .agg #[.string y1, .string y2], .agg #[.string z1, .string z2]] (.bool true) := by
  intro W ht h6
  have CW := mkHid rworks_g
  unfold rv at *
  generalize lo (dz qa) = lza at *
  generalize hi (dz qa) = kza at *
  generalize lo (pa) = la at *
  generalize hi (pa) = ka at *
  generalize lo (dz qb) = lzb at *
  generalize hi (dz qb) = kzb at *
  generalize lo (pb) = lb at *
  generalize hi (pb) = kb at *
  generalize lo (dz qc) = lzc at *
  generalize hi (dz qc) = kzc at *
  generalize lo (pc) = lc at *
  generalize hi (pc) = kc at *
  generalize lo (dz q1) = lz1 at *
  generalize hi (dz q1) = kz1 at *
  generalize lo (p1) = l1 at *
  generalize hi (p1) = k1 at *
  generalize lo (dz q2) = lz2 at *
  generalize hi (dz q2) = kz2 at *
  generalize lo (p2) = l2 at *
  generalize hi (p2) = k2 at *
  generalize lo (dz q3) = lz3 at *
  generalize hi (dz q3) = kz3 at *
  generalize lo (p3) = l3 at *
  generalize hi (p3) = k3 at *
  generalize lo (dz q4) = lz4 at *
  generalize hi (dz q4) = kz4 at *
  generalize lo (p4) = l4 at *
  generalize hi (p4) = k4 at *
  generalize lo (dz qd) = lzd at *
  generalize hi (dz qd) = kzd at *
  generalize lo (pd) = ld at *
  generalize hi (pd) = kd at *
  replace CA := mkHid CA
  replace CB := mkHid CB
  replace CC := mkHid CC
  replace K1 := mkHid K1
  replace K2 := mkHid K2
  replace K3 := mkHid K3
  replace K4 := mkHid K4
  replace K5 := mkHid K5
  replace K6 := mkHid K6
  replace E1 := mkHid E1
  replace S1 := mkHid S1
  replace A1 := mkHid A1
  replace A2 := mkHid A2
  replace T1 := mkHid T1
  replace M1 := mkHid M1
  replace M2 := mkHid M2
  have HS := mkHid ((((St.refl ht h6).alloc (.cells #[.string x1, .string x2] 40)).alloc (.cells #[.string y1, .string y2] 40)).alloc (.cells #[.string z1, .string z2] 40))
  have Hu := mkHid (((AtV.new W W.heap.size x1 x2 rfl).alloc (.cells #[.string y1, .string y2] 40)).alloc (.cells #[.string z1, .string z2] 40))
  have Hv := mkHid ((AtV.new (W.alloc (.cells #[.string x1, .string x2] 40)) (W.heap.size + 1) y1 y2 (by simp)).alloc (.cells #[.string z1, .string z2] 40))
  have Hw := mkHid (AtV.new ((W.alloc (.cells #[.string x1, .string x2] 40)).alloc (.cells #[.string y1, .string y2] 40)) (W.heap.size + 2) z1 z2 (by simp))
  replace hcase := mkHid hcase
  replace hz := mkHid hz
  replace h6z := mkHid h6z
  clear ht h6
  go_enter Tryd.func6, Tryd.ntmps6
  go_upto_region 1 with (fail)
  generalize (((W.alloc (.cells #[.string x1, .string x2] 40)).alloc (.cells #[.string y1, .string y2] 40)).alloc (.cells #[.string z1, .string z2] 40)) = w6 at *
  have hsn := HS.out
  obtain ⟨B0, hB0⟩ : ∃ n, n = w6.heap.size := ⟨_, rfl⟩
  have hW0 : W.heap.size + 2 < B0 := by rw [hB0]; exact Hw.out.lt
  have hB0 : B0 ≤ w6.heap.size := Nat.le_of_eq hB0
  go_cut [7, 8, 9] (fun v7 v8 v9 wx => ∃ j7 j8 j9 : Nat, v7 = .pointer (some ⟨j7, 0, none⟩) ∧ v8 = .pointer (some ⟨j8, 0, none⟩) ∧ v9 = .pointer (some ⟨j9, 0, none⟩) ∧ Hid (St W wx ∧ At4 wx j7 la ka lza kza ∧ At4 wx j8 lb kb lzb kzb ∧ At4 wx j9 lc kc lzc kzc))
  case first =>
    refine wp_region_inv (fun a0 listed A X => ∃ (l0 l1 l2 l3 l4 l5 l6 l7 l8 l9 l10 l11 : Bool) (v14 v15 v16 v17 v18 v19 v7 v8 v9 : Value) (j7 j8 j9 : Nat), listed = #[l0, l1, l2, l3, l4, l5, l6, l7, l8, l9, l10, l11] ∧ A = (((((((((a0.put (some 14) v14).put (some 15) v15).put (some 16) v16).put (some 17) v17).put (some 18) v18).put (some 19) v19).put (some 7) v7).put (some 8) v8).put (some 9) v9) ∧ Hid (St W X ∧ AtV X W.heap.size x1 x2 ∧ AtV X (W.heap.size + 1) y1 y2 ∧ AtV X (W.heap.size + 2) z1 z2 ∧ B0 ≤ X.heap.size ∧ (l0 = true → v14 = .agg #[.string x1, .string x2]) ∧ (l1 = true → v15 = .agg #[.int .u64 (la : Int), .string ka, .int .u64 (lza : Int), .string kza]) ∧ (l2 = true → v16 = .agg #[.string y1, .string y2]) ∧ (l3 = true → v17 = .agg #[.int .u64 (lb : Int), .string kb, .int .u64 (lzb : Int), .string kzb]) ∧ (l4 = true → v18 = .agg #[.string z1, .string z2]) ∧ (l5 = true → v19 = .agg #[.int .u64 (lc : Int), .string kc, .int .u64 (lzc : Int), .string kzc]) ∧ (l6 = true → v7 = .pointer (some ⟨j7, 0, none⟩)) ∧ (l7 = true → v8 = .pointer (some ⟨j8, 0, none⟩)) ∧ (l8 = true → v9 = .pointer (some ⟨j9, 0, none⟩)) ∧ Bq l6 l9 X B0 j7 la ka lza kza ∧ Bq l7 l10 X B0 j8 lb kb lzb kzb ∧ Bq l8 l11 X B0 j9 lc kc lzc kzc ∧ (l6 = true → l7 = true → j7 ≠ j8) ∧ (l6 = true → l8 = true → j7 ≠ j9) ∧ (l7 = true → l8 = true → j8 ≠ j9) ∧ (l9 = true → l6 = true) ∧ (l10 = true → l7 = true) ∧ (l11 = true → l8 = true))) [0, 1, 2, 3, 4, 5, 6, 7, 8, 9, 10, 11] (by kernel_rfl) (by kernel_rfl) (by kernel_rfl) ?_ ?_ ?_
    case refine_1 =>
      exact ⟨false, false, false, false, false, false, false, false, false, false, false, false, undef, undef, undef, undef, undef, undef, undef, undef, undef, 0, 0, 0, by kernel_rfl, by simp only [Act.put, List.setIfInBounds_toArray, List.set_cons_zero, List.set_cons_succ], mkHid ⟨hsn.drew, Hu.out.drew, Hv.out.drew, Hw.out.drew, hB0, fun h => absurd h (by decide), fun h => absurd h (by decide), fun h => absurd h (by decide), fun h => absurd h (by decide), fun h => absurd h (by decide), fun h => absurd h (by decide), fun h => absurd h (by decide), fun h => absurd h (by decide), fun h => absurd h (by decide), Bq.no, Bq.no, Bq.no, fun h => absurd h (by decide), fun h => absurd h (by decide), fun h => absurd h (by decide), fun h => absurd h (by decide), fun h => absurd h (by decide), fun h => absurd h (by decide)⟩⟩
    case refine_2 =>
      intro Q' listed A X hI
      obtain ⟨l0, l1, l2, l3, l4, l5, l6, l7, l8, l9, l10, l11, v14, v15, v16, v17, v18, v19, v7, v8, v9, j7, j8, j9, rfl, hA, HJ⟩ := hI
      simp only [Act.put, List.setIfInBounds_toArray, List.set_cons_zero, List.set_cons_succ] at hA
      subst hA
      refine AllI.cons0 (o := ?o0) ?ho ?hg ?h ?hs
      case ho => simp only [List.getElem?_toArray, List.getElem?_cons_zero, List.getElem?_cons_succ]; rfl
      case hg => rfl
      case h =>
        intro hun hdep K hK
        simp [Region.binds] at hun hdep
        clear hun hdep
        obtain ⟨u0, u1⟩ := HJ.out.2.1
        go_simp
        refine hK.out _ _ ?_
        refine ⟨true, l1, l2, l3, l4, l5, l6, l7, l8, l9, l10, l11, .agg #[.string x1, .string x2], v15, v16, v17, v18, v19, v7, v8, v9, j7, j8, j9, by simp, by simp only [Act.put, List.setIfInBounds_toArray, List.set_cons_zero, List.set_cons_succ], mkHid ⟨?_, ?_, ?_, ?_, ?_, ?_, ?_, ?_, ?_, ?_, ?_, ?_, ?_, ?_, ?_, ?_, ?_, ?_, ?_, ?_, ?_, ?_, ?_⟩⟩
        · exact HJ.out.1
        · exact HJ.out.2.1
        · exact HJ.out.2.2.1
        · exact HJ.out.2.2.2.1
        · exact HJ.out.2.2.2.2.1
        · exact fun _ => rfl
        · exact HJ.out.2.2.2.2.2.2.1
        · exact HJ.out.2.2.2.2.2.2.2.1
        · exact HJ.out.2.2.2.2.2.2.2.2.1
        · exact HJ.out.2.2.2.2.2.2.2.2.2.1
        · exact HJ.out.2.2.2.2.2.2.2.2.2.2.1
        · exact HJ.out.2.2.2.2.2.2.2.2.2.2.2.1
        · exact HJ.out.2.2.2.2.2.2.2.2.2.2.2.2.1
        · exact HJ.out.2.2.2.2.2.2.2.2.2.2.2.2.2.1
        · exact HJ.out.2.2.2.2.2.2.2.2.2.2.2.2.2.2.1
        · exact HJ.out.2.2.2.2.2.2.2.2.2.2.2.2.2.2.2.1
        · exact HJ.out.2.2.2.2.2.2.2.2.2.2.2.2.2.2.2.2.1
        · exact HJ.out.2.2.2.2.2.2.2.2.2.2.2.2.2.2.2.2.2.1
        · exact HJ.out.2.2.2.2.2.2.2.2.2.2.2.2.2.2.2.2.2.2.1
        · exact HJ.out.2.2.2.2.2.2.2.2.2.2.2.2.2.2.2.2.2.2.2.1
        · exact HJ.out.2.2.2.2.2.2.2.2.2.2.2.2.2.2.2.2.2.2.2.2.1
        · exact HJ.out.2.2.2.2.2.2.2.2.2.2.2.2.2.2.2.2.2.2.2.2.2.1
        · exact HJ.out.2.2.2.2.2.2.2.2.2.2.2.2.2.2.2.2.2.2.2.2.2.2
      case hs =>
      refine AllI.cons0 (o := ?o1) ?ho ?hg ?h ?hs
      case ho => simp only [List.getElem?_toArray, List.getElem?_cons_zero, List.getElem?_cons_succ]; rfl
      case hg => rfl
      case h =>
        intro hun hdep K hK
        simp [Region.binds] at hun hdep
        have e0 : l0 = true := by first | exact hdep | (simp [hdep])
        subst e0
        clear hun hdep
        have hv := HJ.out.2.2.2.2.2.1 rfl
        subst hv
        go_simp
        go_at_call 17
        refine (CA.out _ (HJ.out.1).tabs (HJ.out.1).six').mono ?_
        rintro e w7 ⟨rfl, hb⟩
        refine hK.out _ _ ?_
        refine ⟨true, true, l2, l3, l4, l5, l6, l7, l8, l9, l10, l11, .agg #[.string x1, .string x2], .agg #[.int .u64 (la : Int), .string ka, .int .u64 (lza : Int), .string kza], v16, v17, v18, v19, v7, v8, v9, j7, j8, j9, by simp, by simp only [Act.put, List.setIfInBounds_toArray, List.set_cons_zero, List.set_cons_succ], mkHid ⟨?_, ?_, ?_, ?_, ?_, ?_, ?_, ?_, ?_, ?_, ?_, ?_, ?_, ?_, ?_, ?_, ?_, ?_, ?_, ?_, ?_, ?_, ?_⟩⟩
        · exact (HJ.out.1).next hb
        · exact (HJ.out.2.1).grows hb
        · exact (HJ.out.2.2.1).grows hb
        · exact (HJ.out.2.2.2.1).grows hb
        · exact Nat.le_trans (HJ.out.2.2.2.2.1) hb.size
        · exact HJ.out.2.2.2.2.2.1
        · exact fun _ => rfl
        · exact HJ.out.2.2.2.2.2.2.2.1
        · exact HJ.out.2.2.2.2.2.2.2.2.1
        · exact HJ.out.2.2.2.2.2.2.2.2.2.1
        · exact HJ.out.2.2.2.2.2.2.2.2.2.2.1
        · exact HJ.out.2.2.2.2.2.2.2.2.2.2.2.1
        · exact HJ.out.2.2.2.2.2.2.2.2.2.2.2.2.1
        · exact HJ.out.2.2.2.2.2.2.2.2.2.2.2.2.2.1
        · exact (HJ.out.2.2.2.2.2.2.2.2.2.2.2.2.2.2.1).grows hb
        · exact (HJ.out.2.2.2.2.2.2.2.2.2.2.2.2.2.2.2.1).grows hb
        · exact (HJ.out.2.2.2.2.2.2.2.2.2.2.2.2.2.2.2.2.1).grows hb
        · exact HJ.out.2.2.2.2.2.2.2.2.2.2.2.2.2.2.2.2.2.1
        · exact HJ.out.2.2.2.2.2.2.2.2.2.2.2.2.2.2.2.2.2.2.1
        · exact HJ.out.2.2.2.2.2.2.2.2.2.2.2.2.2.2.2.2.2.2.2.1
        · exact HJ.out.2.2.2.2.2.2.2.2.2.2.2.2.2.2.2.2.2.2.2.2.1
        · exact HJ.out.2.2.2.2.2.2.2.2.2.2.2.2.2.2.2.2.2.2.2.2.2.1
        · exact HJ.out.2.2.2.2.2.2.2.2.2.2.2.2.2.2.2.2.2.2.2.2.2.2
      case hs =>
      refine AllI.cons0 (o := ?o2) ?ho ?hg ?h ?hs
      case ho => simp only [List.getElem?_toArray, List.getElem?_cons_zero, List.getElem?_cons_succ]; rfl
      case hg => rfl
      case h =>
        intro hun hdep K hK
        simp [Region.binds] at hun hdep
        clear hun hdep
        obtain ⟨u0, u1⟩ := HJ.out.2.2.1
        go_simp
        refine hK.out _ _ ?_
        refine ⟨l0, l1, true, l3, l4, l5, l6, l7, l8, l9, l10, l11, v14, v15, .agg #[.string y1, .string y2], v17, v18, v19, v7, v8, v9, j7, j8, j9, by simp, by simp only [Act.put, List.setIfInBounds_toArray, List.set_cons_zero, List.set_cons_succ], mkHid ⟨?_, ?_, ?_, ?_, ?_, ?_, ?_, ?_, ?_, ?_, ?_, ?_, ?_, ?_, ?_, ?_, ?_, ?_, ?_, ?_, ?_, ?_, ?_⟩⟩
        · exact HJ.out.1
        · exact HJ.out.2.1
        · exact HJ.out.2.2.1
        · exact HJ.out.2.2.2.1
        · exact HJ.out.2.2.2.2.1
        · exact HJ.out.2.2.2.2.2.1
        · exact HJ.out.2.2.2.2.2.2.1
        · exact fun _ => rfl
        · exact HJ.out.2.2.2.2.2.2.2.2.1
        · exact HJ.out.2.2.2.2.2.2.2.2.2.1
        · exact HJ.out.2.2.2.2.2.2.2.2.2.2.1
        · exact HJ.out.2.2.2.2.2.2.2.2.2.2.2.1
        · exact HJ.out.2.2.2.2.2.2.2.2.2.2.2.2.1
        · exact HJ.out.2.2.2.2.2.2.2.2.2.2.2.2.2.1
        · exact HJ.out.2.2.2.2.2.2.2.2.2.2.2.2.2.2.1
        · exact HJ.out.2.2.2.2.2.2.2.2.2.2.2.2.2.2.2.1
        · exact HJ.out.2.2.2.2.2.2.2.2.2.2.2.2.2.2.2.2.1
        · exact HJ.out.2.2.2.2.2.2.2.2.2.2.2.2.2.2.2.2.2.1
        · exact HJ.out.2.2.2.2.2.2.2.2.2.2.2.2.2.2.2.2.2.2.1
        · exact HJ.out.2.2.2.2.2.2.2.2.2.2.2.2.2.2.2.2.2.2.2.1
        · exact HJ.out.2.2.2.2.2.2.2.2.2.2.2.2.2.2.2.2.2.2.2.2.1
        · exact HJ.out.2.2.2.2.2.2.2.2.2.2.2.2.2.2.2.2.2.2.2.2.2.1
        · exact HJ.out.2.2.2.2.2.2.2.2.2.2.2.2.2.2.2.2.2.2.2.2.2.2
      case hs =>
      refine AllI.cons0 (o := ?o3) ?ho ?hg ?h ?hs
      case ho => simp only [List.getElem?_toArray, List.getElem?_cons_zero, List.getElem?_cons_succ]; rfl
      case hg => rfl
      case h =>
        intro hun hdep K hK
        simp [Region.binds] at hun hdep
        have e2 : l2 = true := by first | exact hdep | (simp [hdep])
        subst e2
        clear hun hdep
        have hv := HJ.out.2.2.2.2.2.2.2.1 rfl
        subst hv
        go_simp
        go_at_call 17
        refine (CB.out _ (HJ.out.1).tabs (HJ.out.1).six').mono ?_
        rintro e w7 ⟨rfl, hb⟩
        refine hK.out _ _ ?_
        refine ⟨l0, l1, true, true, l4, l5, l6, l7, l8, l9, l10, l11, v14, v15, .agg #[.string y1, .string y2], .agg #[.int .u64 (lb : Int), .string kb, .int .u64 (lzb : Int), .string kzb], v18, v19, v7, v8, v9, j7, j8, j9, by simp, by simp only [Act.put, List.setIfInBounds_toArray, List.set_cons_zero, List.set_cons_succ], mkHid ⟨?_, ?_, ?_, ?_, ?_, ?_, ?_, ?_, ?_, ?_, ?_, ?_, ?_, ?_, ?_, ?_, ?_, ?_, ?_, ?_, ?_, ?_, ?_⟩⟩
        · exact (HJ.out.1).next hb
        · exact (HJ.out.2.1).grows hb
        · exact (HJ.out.2.2.1).grows hb
        · exact (HJ.out.2.2.2.1).grows hb
        · exact Nat.le_trans (HJ.out.2.2.2.2.1) hb.size
        · exact HJ.out.2.2.2.2.2.1
        · exact HJ.out.2.2.2.2.2.2.1
        · exact HJ.out.2.2.2.2.2.2.2.1
        · exact fun _ => rfl
        · exact HJ.out.2.2.2.2.2.2.2.2.2.1
        · exact HJ.out.2.2.2.2.2.2.2.2.2.2.1
        · exact HJ.out.2.2.2.2.2.2.2.2.2.2.2.1
        · exact HJ.out.2.2.2.2.2.2.2.2.2.2.2.2.1
        · exact HJ.out.2.2.2.2.2.2.2.2.2.2.2.2.2.1
        · exact (HJ.out.2.2.2.2.2.2.2.2.2.2.2.2.2.2.1).grows hb
        · exact (HJ.out.2.2.2.2.2.2.2.2.2.2.2.2.2.2.2.1).grows hb
        · exact (HJ.out.2.2.2.2.2.2.2.2.2.2.2.2.2.2.2.2.1).grows hb
        · exact HJ.out.2.2.2.2.2.2.2.2.2.2.2.2.2.2.2.2.2.1
        · exact HJ.out.2.2.2.2.2.2.2.2.2.2.2.2.2.2.2.2.2.2.1
        · exact HJ.out.2.2.2.2.2.2.2.2.2.2.2.2.2.2.2.2.2.2.2.1
        · exact HJ.out.2.2.2.2.2.2.2.2.2.2.2.2.2.2.2.2.2.2.2.2.1
        · exact HJ.out.2.2.2.2.2.2.2.2.2.2.2.2.2.2.2.2.2.2.2.2.2.1
        · exact HJ.out.2.2.2.2.2.2.2.2.2.2.2.2.2.2.2.2.2.2.2.2.2.2
      case hs =>
      refine AllI.cons0 (o := ?o4) ?ho ?hg ?h ?hs
      case ho => simp only [List.getElem?_toArray, List.getElem?_cons_zero, List.getElem?_cons_succ]; rfl
      case hg => rfl
      case h =>
        intro hun hdep K hK
        simp [Region.binds] at hun hdep
        clear hun hdep
        obtain ⟨u0, u1⟩ := HJ.out.2.2.2.1
        go_simp
        refine hK.out _ _ ?_
        refine ⟨l0, l1, l2, l3, true, l5, l6, l7, l8, l9, l10, l11, v14, v15, v16, v17, .agg #[.string z1, .string z2], v19, v7, v8, v9, j7, j8, j9, by simp, by simp only [Act.put, List.setIfInBounds_toArray, List.set_cons_zero, List.set_cons_succ], mkHid ⟨?_, ?_, ?_, ?_, ?_, ?_, ?_, ?_, ?_, ?_, ?_, ?_, ?_, ?_, ?_, ?_, ?_, ?_, ?_, ?_, ?_, ?_, ?_⟩⟩
        · exact HJ.out.1
        · exact HJ.out.2.1
        · exact HJ.out.2.2.1
        · exact HJ.out.2.2.2.1
        · exact HJ.out.2.2.2.2.1
        · exact HJ.out.2.2.2.2.2.1
        · exact HJ.out.2.2.2.2.2.2.1
        · exact HJ.out.2.2.2.2.2.2.2.1
        · exact HJ.out.2.2.2.2.2.2.2.2.1
        · exact fun _ => rfl
        · exact HJ.out.2.2.2.2.2.2.2.2.2.2.1
        · exact HJ.out.2.2.2.2.2.2.2.2.2.2.2.1
        · exact HJ.out.2.2.2.2.2.2.2.2.2.2.2.2.1
        · exact HJ.out.2.2.2.2.2.2.2.2.2.2.2.2.2.1
        · exact HJ.out.2.2.2.2.2.2.2.2.2.2.2.2.2.2.1
        · exact HJ.out.2.2.2.2.2.2.2.2.2.2.2.2.2.2.2.1
        · exact HJ.out.2.2.2.2.2.2.2.2.2.2.2.2.2.2.2.2.1
        · exact HJ.out.2.2.2.2.2.2.2.2.2.2.2.2.2.2.2.2.2.1
        · exact HJ.out.2.2.2.2.2.2.2.2.2.2.2.2.2.2.2.2.2.2.1
        · exact HJ.out.2.2.2.2.2.2.2.2.2.2.2.2.2.2.2.2.2.2.2.1
        · exact HJ.out.2.2.2.2.2.2.2.2.2.2.2.2.2.2.2.2.2.2.2.2.1
        · exact HJ.out.2.2.2.2.2.2.2.2.2.2.2.2.2.2.2.2.2.2.2.2.2.1
        · exact HJ.out.2.2.2.2.2.2.2.2.2.2.2.2.2.2.2.2.2.2.2.2.2.2
      case hs =>
      refine AllI.cons0 (o := ?o5) ?ho ?hg ?h ?hs
      case ho => simp only [List.getElem?_toArray, List.getElem?_cons_zero, List.getElem?_cons_succ]; rfl
      case hg => rfl
      case h =>
        intro hun hdep K hK
        simp [Region.binds] at hun hdep
        have e4 : l4 = true := by first | exact hdep | (simp [hdep])
        subst e4
        clear hun hdep
        have hv := HJ.out.2.2.2.2.2.2.2.2.2.1 rfl
        subst hv
        go_simp
        go_at_call 17
        refine (CC.out _ (HJ.out.1).tabs (HJ.out.1).six').mono ?_
        rintro e w7 ⟨rfl, hb⟩
        refine hK.out _ _ ?_
        refine ⟨l0, l1, l2, l3, true, true, l6, l7, l8, l9, l10, l11, v14, v15, v16, v17, .agg #[.string z1, .string z2], .agg #[.int .u64 (lc : Int), .string kc, .int .u64 (lzc : Int), .string kzc], v7, v8, v9, j7, j8, j9, by simp, by simp only [Act.put, List.setIfInBounds_toArray, List.set_cons_zero, List.set_cons_succ], mkHid ⟨?_, ?_, ?_, ?_, ?_, ?_, ?_, ?_, ?_, ?_, ?_, ?_, ?_, ?_, ?_, ?_, ?_, ?_, ?_, ?_, ?_, ?_, ?_⟩⟩
        · exact (HJ.out.1).next hb
        · exact (HJ.out.2.1).grows hb
        · exact (HJ.out.2.2.1).grows hb
        · exact (HJ.out.2.2.2.1).grows hb
        · exact Nat.le_trans (HJ.out.2.2.2.2.1) hb.size
        · exact HJ.out.2.2.2.2.2.1
        · exact HJ.out.2.2.2.2.2.2.1
        · exact HJ.out.2.2.2.2.2.2.2.1
        · exact HJ.out.2.2.2.2.2.2.2.2.1
        · exact HJ.out.2.2.2.2.2.2.2.2.2.1
        · exact fun _ => rfl
        · exact HJ.out.2.2.2.2.2.2.2.2.2.2.2.1
        · exact HJ.out.2.2.2.2.2.2.2.2.2.2.2.2.1
        · exact HJ.out.2.2.2.2.2.2.2.2.2.2.2.2.2.1
        · exact (HJ.out.2.2.2.2.2.2.2.2.2.2.2.2.2.2.1).grows hb
        · exact (HJ.out.2.2.2.2.2.2.2.2.2.2.2.2.2.2.2.1).grows hb
        · exact (HJ.out.2.2.2.2.2.2.2.2.2.2.2.2.2.2.2.2.1).grows hb
        · exact HJ.out.2.2.2.2.2.2.2.2.2.2.2.2.2.2.2.2.2.1
        · exact HJ.out.2.2.2.2.2.2.2.2.2.2.2.2.2.2.2.2.2.2.1
        · exact HJ.out.2.2.2.2.2.2.2.2.2.2.2.2.2.2.2.2.2.2.2.1
        · exact HJ.out.2.2.2.2.2.2.2.2.2.2.2.2.2.2.2.2.2.2.2.2.1
        · exact HJ.out.2.2.2.2.2.2.2.2.2.2.2.2.2.2.2.2.2.2.2.2.2.1
        · exact HJ.out.2.2.2.2.2.2.2.2.2.2.2.2.2.2.2.2.2.2.2.2.2.2
      case hs =>
      refine AllI.cons0 (o := ?o6) ?ho ?hg ?h ?hs
      case ho => simp only [List.getElem?_toArray, List.getElem?_cons_zero, List.getElem?_cons_succ]; rfl
      case hg => rfl
      case h =>
        intro hun hdep K hK
        simp [Region.binds] at hun hdep
        have e9 : l9 = false := by cases l9 <;> first | rfl | (have := HJ.out.2.2.2.2.2.2.2.2.2.2.2.2.2.2.2.2.2.2.2.2.1 rfl; rw [hun] at this; exact absurd this (by decide))
        subst e9
        clear hun hdep
        go_simp
        refine hK.out _ _ ?_
        refine ⟨l0, l1, l2, l3, l4, l5, true, l7, l8, false, l10, l11, v14, v15, v16, v17, v18, v19, .pointer (some ⟨X.heap.size, 0, none⟩), v8, v9, X.heap.size, j8, j9, by simp, by simp only [Act.put, List.setIfInBounds_toArray, List.set_cons_zero, List.set_cons_succ], mkHid ⟨?_, ?_, ?_, ?_, ?_, ?_, ?_, ?_, ?_, ?_, ?_, ?_, ?_, ?_, ?_, ?_, ?_, ?_, ?_, ?_, ?_, ?_, ?_⟩⟩
        · exact (HJ.out.1).alloc _
        · exact (HJ.out.2.1).alloc _
        · exact (HJ.out.2.2.1).alloc _
        · exact (HJ.out.2.2.2.1).alloc _
        · exact (by have := HJ.out.2.2.2.2.1; simp; omega)
        · exact HJ.out.2.2.2.2.2.1
        · exact HJ.out.2.2.2.2.2.2.1
        · exact HJ.out.2.2.2.2.2.2.2.1
        · exact HJ.out.2.2.2.2.2.2.2.2.1
        · exact HJ.out.2.2.2.2.2.2.2.2.2.1
        · exact HJ.out.2.2.2.2.2.2.2.2.2.2.1
        · exact fun _ => rfl
        · exact HJ.out.2.2.2.2.2.2.2.2.2.2.2.2.1
        · exact HJ.out.2.2.2.2.2.2.2.2.2.2.2.2.2.1
        · exact Bq.new (HJ.out.2.2.2.2.1)
        · exact (HJ.out.2.2.2.2.2.2.2.2.2.2.2.2.2.2.2.1).alloc _
        · exact (HJ.out.2.2.2.2.2.2.2.2.2.2.2.2.2.2.2.2.1).alloc _
        · exact fun _ h => Nat.ne_of_gt (Bq.lt (HJ.out.2.2.2.2.2.2.2.2.2.2.2.2.2.2.2.1) h)
        · exact fun _ h => Nat.ne_of_gt (Bq.lt (HJ.out.2.2.2.2.2.2.2.2.2.2.2.2.2.2.2.2.1) h)
        · exact HJ.out.2.2.2.2.2.2.2.2.2.2.2.2.2.2.2.2.2.2.2.1
        · exact fun _ => rfl
        · exact HJ.out.2.2.2.2.2.2.2.2.2.2.2.2.2.2.2.2.2.2.2.2.2.1
        · exact HJ.out.2.2.2.2.2.2.2.2.2.2.2.2.2.2.2.2.2.2.2.2.2.2
      case hs =>
      refine AllI.cons0 (o := ?o7) ?ho ?hg ?h ?hs
      case ho => simp only [List.getElem?_toArray, List.getElem?_cons_zero, List.getElem?_cons_succ]; rfl
      case hg => rfl
      case h =>
        intro hun hdep K hK
        simp [Region.binds] at hun hdep
        have e10 : l10 = false := by cases l10 <;> first | rfl | (have := HJ.out.2.2.2.2.2.2.2.2.2.2.2.2.2.2.2.2.2.2.2.2.2.1 rfl; rw [hun] at this; exact absurd this (by decide))
        subst e10
        clear hun hdep
        go_simp
        refine hK.out _ _ ?_
        refine ⟨l0, l1, l2, l3, l4, l5, l6, true, l8, l9, false, l11, v14, v15, v16, v17, v18, v19, v7, .pointer (some ⟨X.heap.size, 0, none⟩), v9, j7, X.heap.size, j9, by simp, by simp only [Act.put, List.setIfInBounds_toArray, List.set_cons_zero, List.set_cons_succ], mkHid ⟨?_, ?_, ?_, ?_, ?_, ?_, ?_, ?_, ?_, ?_, ?_, ?_, ?_, ?_, ?_, ?_, ?_, ?_, ?_, ?_, ?_, ?_, ?_⟩⟩
        · exact (HJ.out.1).alloc _
        · exact (HJ.out.2.1).alloc _
        · exact (HJ.out.2.2.1).alloc _
        · exact (HJ.out.2.2.2.1).alloc _
        · exact (by have := HJ.out.2.2.2.2.1; simp; omega)
        · exact HJ.out.2.2.2.2.2.1
        · exact HJ.out.2.2.2.2.2.2.1
        · exact HJ.out.2.2.2.2.2.2.2.1
        · exact HJ.out.2.2.2.2.2.2.2.2.1
        · exact HJ.out.2.2.2.2.2.2.2.2.2.1
        · exact HJ.out.2.2.2.2.2.2.2.2.2.2.1
        · exact HJ.out.2.2.2.2.2.2.2.2.2.2.2.1
        · exact fun _ => rfl
        · exact HJ.out.2.2.2.2.2.2.2.2.2.2.2.2.2.1
        · exact (HJ.out.2.2.2.2.2.2.2.2.2.2.2.2.2.2.1).alloc _
        · exact Bq.new (HJ.out.2.2.2.2.1)
        · exact (HJ.out.2.2.2.2.2.2.2.2.2.2.2.2.2.2.2.2.1).alloc _
        · exact fun h _ => Nat.ne_of_lt (Bq.lt (HJ.out.2.2.2.2.2.2.2.2.2.2.2.2.2.2.1) h)
        · exact HJ.out.2.2.2.2.2.2.2.2.2.2.2.2.2.2.2.2.2.2.1
        · exact fun _ h => Nat.ne_of_gt (Bq.lt (HJ.out.2.2.2.2.2.2.2.2.2.2.2.2.2.2.2.2.1) h)
        · exact HJ.out.2.2.2.2.2.2.2.2.2.2.2.2.2.2.2.2.2.2.2.2.1
        · exact fun _ => rfl
        · exact HJ.out.2.2.2.2.2.2.2.2.2.2.2.2.2.2.2.2.2.2.2.2.2.2
      case hs =>
      refine AllI.cons0 (o := ?o8) ?ho ?hg ?h ?hs
      case ho => simp only [List.getElem?_toArray, List.getElem?_cons_zero, List.getElem?_cons_succ]; rfl
      case hg => rfl
      case h =>
        intro hun hdep K hK
        simp [Region.binds] at hun hdep
        have e11 : l11 = false := by cases l11 <;> first | rfl | (have := HJ.out.2.2.2.2.2.2.2.2.2.2.2.2.2.2.2.2.2.2.2.2.2.2 rfl; rw [hun] at this; exact absurd this (by decide))
        subst e11
        clear hun hdep
        go_simp
        refine hK.out _ _ ?_
        refine ⟨l0, l1, l2, l3, l4, l5, l6, l7, true, l9, l10, false, v14, v15, v16, v17, v18, v19, v7, v8, .pointer (some ⟨X.heap.size, 0, none⟩), j7, j8, X.heap.size, by simp, by simp only [Act.put, List.setIfInBounds_toArray, List.set_cons_zero, List.set_cons_succ], mkHid ⟨?_, ?_, ?_, ?_, ?_, ?_, ?_, ?_, ?_, ?_, ?_, ?_, ?_, ?_, ?_, ?_, ?_, ?_, ?_, ?_, ?_, ?_, ?_⟩⟩
        · exact (HJ.out.1).alloc _
        · exact (HJ.out.2.1).alloc _
        · exact (HJ.out.2.2.1).alloc _
        · exact (HJ.out.2.2.2.1).alloc _
        · exact (by have := HJ.out.2.2.2.2.1; simp; omega)
        · exact HJ.out.2.2.2.2.2.1
        · exact HJ.out.2.2.2.2.2.2.1
        · exact HJ.out.2.2.2.2.2.2.2.1
        · exact HJ.out.2.2.2.2.2.2.2.2.1
        · exact HJ.out.2.2.2.2.2.2.2.2.2.1
        · exact HJ.out.2.2.2.2.2.2.2.2.2.2.1
        · exact HJ.out.2.2.2.2.2.2.2.2.2.2.2.1
        · exact HJ.out.2.2.2.2.2.2.2.2.2.2.2.2.1
        · exact fun _ => rfl
        · exact (HJ.out.2.2.2.2.2.2.2.2.2.2.2.2.2.2.1).alloc _
        · exact (HJ.out.2.2.2.2.2.2.2.2.2.2.2.2.2.2.2.1).alloc _
        · exact Bq.new (HJ.out.2.2.2.2.1)
        · exact HJ.out.2.2.2.2.2.2.2.2.2.2.2.2.2.2.2.2.2.1
        · exact fun h _ => Nat.ne_of_lt (Bq.lt (HJ.out.2.2.2.2.2.2.2.2.2.2.2.2.2.2.1) h)
        · exact fun h _ => Nat.ne_of_lt (Bq.lt (HJ.out.2.2.2.2.2.2.2.2.2.2.2.2.2.2.2.1) h)
        · exact HJ.out.2.2.2.2.2.2.2.2.2.2.2.2.2.2.2.2.2.2.2.2.1
        · exact HJ.out.2.2.2.2.2.2.2.2.2.2.2.2.2.2.2.2.2.2.2.2.2.1
        · exact fun _ => rfl
      case hs =>
      refine AllI.cons0 (o := ?o9) ?ho ?hg ?h ?hs
      case ho => simp only [List.getElem?_toArray, List.getElem?_cons_zero, List.getElem?_cons_succ]; rfl
      case hg => rfl
      case h =>
        intro hun hdep K hK
        simp [Region.binds] at hun hdep
        have e6 : l6 = true := by first | exact hdep | (simp [hdep])
        subst e6
        have e1 : l1 = true := by first | exact hdep | (simp [hdep])
        subst e1
        subst hun
        clear hdep
        have hv := HJ.out.2.2.2.2.2.2.2.2.2.2.2.1 rfl
        subst hv
        have hv := HJ.out.2.2.2.2.2.2.1 rfl
        subst hv
        have hj := (HJ.out.2.2.2.2.2.2.2.2.2.2.2.2.2.2.1 rfl).1
        obtain ⟨⟨c0, c1, c2, c3⟩, f0, f1, f2, f3⟩ := (HJ.out.2.2.2.2.2.2.2.2.2.2.2.2.2.2.1 rfl).2.2 rfl
        go_simp
        refine hK.out _ _ ?_
        refine ⟨l0, true, l2, l3, l4, l5, true, l7, l8, true, l10, l11, v14, .agg #[.int .u64 (la : Int), .string ka, .int .u64 (lza : Int), .string kza], v16, v17, v18, v19, .pointer (some ⟨j7, 0, none⟩), v8, v9, j7, j8, j9, by simp, by simp only [Act.put, List.setIfInBounds_toArray, List.set_cons_zero, List.set_cons_succ], mkHid ⟨?_, ?_, ?_, ?_, ?_, ?_, ?_, ?_, ?_, ?_, ?_, ?_, ?_, ?_, ?_, ?_, ?_, ?_, ?_, ?_, ?_, ?_, ?_⟩⟩
        · exact (HJ.out.1).set4 (by omega) _ _ _ _
        · exact (HJ.out.2.1).set4 (by omega) _ _ _ _
        · exact (HJ.out.2.2.1).set4 (by omega) _ _ _ _
        · exact (HJ.out.2.2.2.1).set4 (by omega) _ _ _ _
        · exact (by have := HJ.out.2.2.2.2.1; simp; omega)
        · exact HJ.out.2.2.2.2.2.1
        · exact HJ.out.2.2.2.2.2.2.1
        · exact HJ.out.2.2.2.2.2.2.2.1
        · exact HJ.out.2.2.2.2.2.2.2.2.1
        · exact HJ.out.2.2.2.2.2.2.2.2.2.1
        · exact HJ.out.2.2.2.2.2.2.2.2.2.2.1
        · exact HJ.out.2.2.2.2.2.2.2.2.2.2.2.1
        · exact HJ.out.2.2.2.2.2.2.2.2.2.2.2.2.1
        · exact HJ.out.2.2.2.2.2.2.2.2.2.2.2.2.2.1
        · exact Bq.fill (HJ.out.2.2.2.2.2.2.2.2.2.2.2.2.2.2.1)
        · exact (HJ.out.2.2.2.2.2.2.2.2.2.2.2.2.2.2.2.1).off (fun h => Ne.symm (HJ.out.2.2.2.2.2.2.2.2.2.2.2.2.2.2.2.2.2.1 rfl h)) _ _ _ _
        · exact (HJ.out.2.2.2.2.2.2.2.2.2.2.2.2.2.2.2.2.1).off (fun h => Ne.symm (HJ.out.2.2.2.2.2.2.2.2.2.2.2.2.2.2.2.2.2.2.1 rfl h)) _ _ _ _
        · exact HJ.out.2.2.2.2.2.2.2.2.2.2.2.2.2.2.2.2.2.1
        · exact HJ.out.2.2.2.2.2.2.2.2.2.2.2.2.2.2.2.2.2.2.1
        · exact HJ.out.2.2.2.2.2.2.2.2.2.2.2.2.2.2.2.2.2.2.2.1
        · exact fun _ => rfl
        · exact HJ.out.2.2.2.2.2.2.2.2.2.2.2.2.2.2.2.2.2.2.2.2.2.1
        · exact HJ.out.2.2.2.2.2.2.2.2.2.2.2.2.2.2.2.2.2.2.2.2.2.2
      case hs =>
      refine AllI.cons0 (o := ?o10) ?ho ?hg ?h ?hs
      case ho => simp only [List.getElem?_toArray, List.getElem?_cons_zero, List.getElem?_cons_succ]; rfl
      case hg => rfl
      case h =>
        intro hun hdep K hK
        simp [Region.binds] at hun hdep
        have e7 : l7 = true := by first | exact hdep | (simp [hdep])
        subst e7
        have e3 : l3 = true := by first | exact hdep | (simp [hdep])
        subst e3
        subst hun
        clear hdep
        have hv := HJ.out.2.2.2.2.2.2.2.2.2.2.2.2.1 rfl
        subst hv
        have hv := HJ.out.2.2.2.2.2.2.2.2.1 rfl
        subst hv
        have hj := (HJ.out.2.2.2.2.2.2.2.2.2.2.2.2.2.2.2.1 rfl).1
        obtain ⟨⟨c0, c1, c2, c3⟩, f0, f1, f2, f3⟩ := (HJ.out.2.2.2.2.2.2.2.2.2.2.2.2.2.2.2.1 rfl).2.2 rfl
        go_simp
        refine hK.out _ _ ?_
        refine ⟨l0, l1, l2, true, l4, l5, l6, true, l8, l9, true, l11, v14, v15, v16, .agg #[.int .u64 (lb : Int), .string kb, .int .u64 (lzb : Int), .string kzb], v18, v19, v7, .pointer (some ⟨j8, 0, none⟩), v9, j7, j8, j9, by simp, by simp only [Act.put, List.setIfInBounds_toArray, List.set_cons_zero, List.set_cons_succ], mkHid ⟨?_, ?_, ?_, ?_, ?_, ?_, ?_, ?_, ?_, ?_, ?_, ?_, ?_, ?_, ?_, ?_, ?_, ?_, ?_, ?_, ?_, ?_, ?_⟩⟩
        · exact (HJ.out.1).set4 (by omega) _ _ _ _
        · exact (HJ.out.2.1).set4 (by omega) _ _ _ _
        · exact (HJ.out.2.2.1).set4 (by omega) _ _ _ _
        · exact (HJ.out.2.2.2.1).set4 (by omega) _ _ _ _
        · exact (by have := HJ.out.2.2.2.2.1; simp; omega)
        · exact HJ.out.2.2.2.2.2.1
        · exact HJ.out.2.2.2.2.2.2.1
        · exact HJ.out.2.2.2.2.2.2.2.1
        · exact HJ.out.2.2.2.2.2.2.2.2.1
        · exact HJ.out.2.2.2.2.2.2.2.2.2.1
        · exact HJ.out.2.2.2.2.2.2.2.2.2.2.1
        · exact HJ.out.2.2.2.2.2.2.2.2.2.2.2.1
        · exact HJ.out.2.2.2.2.2.2.2.2.2.2.2.2.1
        · exact HJ.out.2.2.2.2.2.2.2.2.2.2.2.2.2.1
        · exact (HJ.out.2.2.2.2.2.2.2.2.2.2.2.2.2.2.1).off (fun h => (HJ.out.2.2.2.2.2.2.2.2.2.2.2.2.2.2.2.2.2.1 h rfl)) _ _ _ _
        · exact Bq.fill (HJ.out.2.2.2.2.2.2.2.2.2.2.2.2.2.2.2.1)
        · exact (HJ.out.2.2.2.2.2.2.2.2.2.2.2.2.2.2.2.2.1).off (fun h => Ne.symm (HJ.out.2.2.2.2.2.2.2.2.2.2.2.2.2.2.2.2.2.2.2.1 rfl h)) _ _ _ _
        · exact HJ.out.2.2.2.2.2.2.2.2.2.2.2.2.2.2.2.2.2.1
        · exact HJ.out.2.2.2.2.2.2.2.2.2.2.2.2.2.2.2.2.2.2.1
        · exact HJ.out.2.2.2.2.2.2.2.2.2.2.2.2.2.2.2.2.2.2.2.1
        · exact HJ.out.2.2.2.2.2.2.2.2.2.2.2.2.2.2.2.2.2.2.2.2.1
        · exact fun _ => rfl
        · exact HJ.out.2.2.2.2.2.2.2.2.2.2.2.2.2.2.2.2.2.2.2.2.2.2
      case hs =>
      refine AllI.cons0 (o := ?o11) ?ho ?hg ?h ?hs
      case ho => simp only [List.getElem?_toArray, List.getElem?_cons_zero, List.getElem?_cons_succ]; rfl
      case hg => rfl
      case h =>
        intro hun hdep K hK
        simp [Region.binds] at hun hdep
        have e8 : l8 = true := by first | exact hdep | (simp [hdep])
        subst e8
        have e5 : l5 = true := by first | exact hdep | (simp [hdep])
        subst e5
        subst hun
        clear hdep
        have hv := HJ.out.2.2.2.2.2.2.2.2.2.2.2.2.2.1 rfl
        subst hv
        have hv := HJ.out.2.2.2.2.2.2.2.2.2.2.1 rfl
        subst hv
        have hj := (HJ.out.2.2.2.2.2.2.2.2.2.2.2.2.2.2.2.2.1 rfl).1
        obtain ⟨⟨c0, c1, c2, c3⟩, f0, f1, f2, f3⟩ := (HJ.out.2.2.2.2.2.2.2.2.2.2.2.2.2.2.2.2.1 rfl).2.2 rfl
        go_simp
        refine hK.out _ _ ?_
        refine ⟨l0, l1, l2, l3, l4, true, l6, l7, true, l9, l10, true, v14, v15, v16, v17, v18, .agg #[.int .u64 (lc : Int), .string kc, .int .u64 (lzc : Int), .string kzc], v7, v8, .pointer (some ⟨j9, 0, none⟩), j7, j8, j9, by simp, by simp only [Act.put, List.setIfInBounds_toArray, List.set_cons_zero, List.set_cons_succ], mkHid ⟨?_, ?_, ?_, ?_, ?_, ?_, ?_, ?_, ?_, ?_, ?_, ?_, ?_, ?_, ?_, ?_, ?_, ?_, ?_, ?_, ?_, ?_, ?_⟩⟩
        · exact (HJ.out.1).set4 (by omega) _ _ _ _
        · exact (HJ.out.2.1).set4 (by omega) _ _ _ _
        · exact (HJ.out.2.2.1).set4 (by omega) _ _ _ _
        · exact (HJ.out.2.2.2.1).set4 (by omega) _ _ _ _
        · exact (by have := HJ.out.2.2.2.2.1; simp; omega)
        · exact HJ.out.2.2.2.2.2.1
        · exact HJ.out.2.2.2.2.2.2.1
        · exact HJ.out.2.2.2.2.2.2.2.1
        · exact HJ.out.2.2.2.2.2.2.2.2.1
        · exact HJ.out.2.2.2.2.2.2.2.2.2.1
        · exact HJ.out.2.2.2.2.2.2.2.2.2.2.1
        · exact HJ.out.2.2.2.2.2.2.2.2.2.2.2.1
        · exact HJ.out.2.2.2.2.2.2.2.2.2.2.2.2.1
        · exact HJ.out.2.2.2.2.2.2.2.2.2.2.2.2.2.1
        · exact (HJ.out.2.2.2.2.2.2.2.2.2.2.2.2.2.2.1).off (fun h => (HJ.out.2.2.2.2.2.2.2.2.2.2.2.2.2.2.2.2.2.2.1 h rfl)) _ _ _ _
        · exact (HJ.out.2.2.2.2.2.2.2.2.2.2.2.2.2.2.2.1).off (fun h => (HJ.out.2.2.2.2.2.2.2.2.2.2.2.2.2.2.2.2.2.2.2.1 h rfl)) _ _ _ _
        · exact Bq.fill (HJ.out.2.2.2.2.2.2.2.2.2.2.2.2.2.2.2.2.1)
        · exact HJ.out.2.2.2.2.2.2.2.2.2.2.2.2.2.2.2.2.2.1
        · exact HJ.out.2.2.2.2.2.2.2.2.2.2.2.2.2.2.2.2.2.2.1
        · exact HJ.out.2.2.2.2.2.2.2.2.2.2.2.2.2.2.2.2.2.2.2.1
        · exact HJ.out.2.2.2.2.2.2.2.2.2.2.2.2.2.2.2.2.2.2.2.2.1
        · exact HJ.out.2.2.2.2.2.2.2.2.2.2.2.2.2.2.2.2.2.2.2.2.2.1
        · exact fun _ => rfl
      case hs =>
      exact AllI.nil
    case refine_3 =>
      intro listed A X hI hall
      obtain ⟨l0, l1, l2, l3, l4, l5, l6, l7, l8, l9, l10, l11, v14, v15, v16, v17, v18, v19, v7, v8, v9, j7, j8, j9, rfl, hA, HJ⟩ := hI
      simp at hall
      obtain ⟨rfl, rfl, rfl, rfl, rfl, rfl, rfl, rfl, rfl, rfl, rfl, rfl⟩ := hall
      have hv := HJ.out.2.2.2.2.2.1 rfl
      subst hv
      have hv := HJ.out.2.2.2.2.2.2.1 rfl
      subst hv
      have hv := HJ.out.2.2.2.2.2.2.2.2.2.2.2.1 rfl
      subst hv
      have hv := HJ.out.2.2.2.2.2.2.2.1 rfl
      subst hv
      have hv := HJ.out.2.2.2.2.2.2.2.2.1 rfl
      subst hv
      have hv := HJ.out.2.2.2.2.2.2.2.2.2.2.2.2.1 rfl
      subst hv
      have hv := HJ.out.2.2.2.2.2.2.2.2.2.1 rfl
      subst hv
      have hv := HJ.out.2.2.2.2.2.2.2.2.2.2.1 rfl
      subst hv
      have hv := HJ.out.2.2.2.2.2.2.2.2.2.2.2.2.2.1 rfl
      subst hv
      simp only [Act.put, List.setIfInBounds_toArray, List.set_cons_zero, List.set_cons_succ] at hA
      subst hA
      go_wp2_with fail
      go_meet
      exact ⟨j7, j8, j9, rfl, rfl, rfl, mkHid ⟨HJ.out.1, (HJ.out.2.2.2.2.2.2.2.2.2.2.2.2.2.2.1 rfl).2.1 rfl, (HJ.out.2.2.2.2.2.2.2.2.2.2.2.2.2.2.2.1 rfl).2.1 rfl, (HJ.out.2.2.2.2.2.2.2.2.2.2.2.2.2.2.2.2.1 rfl).2.1 rfl⟩⟩
  case rest =>
  clear hsn HS Hu Hv Hw hB0 hW0
  obtain ⟨j7, j8, j9, rfl, rfl, rfl, HN⟩ := hcut
  have HS := mkHid HN.out.1
  have Ha := mkHid HN.out.2.1
  have Hb := mkHid HN.out.2.2.1
  have Hc := mkHid HN.out.2.2.2
  clear HN
  obtain ⟨⟨a0, a1, a2, a3⟩, -⟩ := Ha.out
  obtain ⟨⟨b0, b1, b2, b3⟩, -⟩ := Hb.out
  obtain ⟨⟨c0, c1, c2, c3⟩, -⟩ := Hc.out
  obtain ⟨rfl, rfl, rfl, rfl, hm, hk⟩ := hcase.out
  all_goals
    clear hcase
    go_upto_region 2 with (fail)
    have hsn := HS.out
    obtain ⟨⟨a0, a1, a2, a3⟩, -⟩ := Ha.out
    obtain ⟨⟨b0, b1, b2, b3⟩, -⟩ := Hb.out
    obtain ⟨⟨c0, c1, c2, c3⟩, -⟩ := Hc.out
    go_region_held3 (fun X => St W X ∧ At4 X (j7) la ka lza kza ∧ At4 X (j8) lb kb lzb kzb ∧ At4 X (j9) lc kc lzc kzc ∧ X.cell? ⟨j7, 0, none⟩ = some (.int .u64 (la : Int)) ∧ X.cell? ⟨j7, 1, none⟩ = some (.string ka) ∧ X.cell? ⟨j7, 2, none⟩ = some (.int .u64 (lza : Int)) ∧ X.cell? ⟨j7, 3, none⟩ = some (.string kza) ∧ X.cell? ⟨j8, 0, none⟩ = some (.int .u64 (lb : Int)) ∧ X.cell? ⟨j8, 1, none⟩ = some (.string kb) ∧ X.cell? ⟨j8, 2, none⟩ = some (.int .u64 (lzb : Int)) ∧ X.cell? ⟨j8, 3, none⟩ = some (.string kzb) ∧ X.cell? ⟨j9, 0, none⟩ = some (.int .u64 (lc : Int)) ∧ X.cell? ⟨j9, 1, none⟩ = some (.string kc) ∧ X.cell? ⟨j9, 2, none⟩ = some (.int .u64 (lzc : Int)) ∧ X.cell? ⟨j9, 3, none⟩ = some (.string kzc))
      (first
        | (with_reducible exact ⟨hS.1.next hb, hS.2.1.grows hb, hS.2.2.1.grows hb, hS.2.2.2.1.grows hb, St.cell hb hS.2.2.2.2.1, St.cell hb hS.2.2.2.2.2.1, St.cell hb hS.2.2.2.2.2.2.1, St.cell hb hS.2.2.2.2.2.2.2.1, St.cell hb hS.2.2.2.2.2.2.2.2.1, St.cell hb hS.2.2.2.2.2.2.2.2.2.1, St.cell hb hS.2.2.2.2.2.2.2.2.2.2.1, St.cell hb hS.2.2.2.2.2.2.2.2.2.2.2.1, St.cell hb hS.2.2.2.2.2.2.2.2.2.2.2.2.1, St.cell hb hS.2.2.2.2.2.2.2.2.2.2.2.2.2.1, St.cell hb hS.2.2.2.2.2.2.2.2.2.2.2.2.2.2.1, St.cell hb hS.2.2.2.2.2.2.2.2.2.2.2.2.2.2.2⟩)
        | exact ⟨hsn.drew, Ha.out.drew, Hb.out.drew, Hc.out.drew, a0, a1, a2, a3, b0, b1, b2, b3, c0, c1, c2, c3⟩)
      (first
        | (go_at_call 24; have hS : St W _ ∧ _ := (by assumption); (with_reducible refine (K1.out _ hS.1.tabs hS.1.six').mono ?_); rintro e w6 ⟨rfl, hb⟩)
        | (go_at_call 24; have hS : St W _ ∧ _ := (by assumption); (with_reducible refine (K2.out _ hS.1.tabs hS.1.six').mono ?_); rintro e w6 ⟨rfl, hb⟩))
    have hT : St W _ ∧ _ := (by assumption)
    clear hsn HS Ha Hb Hc a0 a1 a2 a3 b0 b1 b2 b3 c0 c1 c2 c3
    have HS := mkHid hT.1
    have Ha := mkHid hT.2.1
    have Hb := mkHid hT.2.2.1
    have Hc := mkHid hT.2.2.2.1
    clear hT
    obtain ⟨⟨a0, a1, a2, a3⟩, -⟩ := Ha.out
    obtain ⟨⟨b0, b1, b2, b3⟩, -⟩ := Hb.out
    obtain ⟨⟨c0, c1, c2, c3⟩, -⟩ := Hc.out
    go_upto_region 6 with (first | (go_at_call 24; (with_reducible refine (K3.out _ HS.out.tabs HS.out.six').mono ?_); rintro e w6 ⟨rfl, hb⟩; have HS := mkHid (HS.out.next hb); have Ha := mkHid (Ha.out.grows hb); have Hb := mkHid (Hb.out.grows hb); have Hc := mkHid (Hc.out.grows hb); clear hb; obtain ⟨⟨a0, a1, a2, a3⟩, -⟩ := Ha.out; obtain ⟨⟨b0, b1, b2, b3⟩, -⟩ := Hb.out; obtain ⟨⟨c0, c1, c2, c3⟩, -⟩ := Hc.out) | (go_at_call 18; (with_reducible refine (E1.out _ HS.out.tabs HS.out.six').mono ?_); rintro e w6 ⟨rfl, hb⟩; have HS := mkHid (HS.out.next hb); have Ha := mkHid (Ha.out.grows hb); have Hb := mkHid (Hb.out.grows hb); have Hc := mkHid (Hc.out.grows hb); clear hb; obtain ⟨⟨a0, a1, a2, a3⟩, -⟩ := Ha.out; obtain ⟨⟨b0, b1, b2, b3⟩, -⟩ := Hb.out; obtain ⟨⟨c0, c1, c2, c3⟩, -⟩ := Hc.out) | (go_at_call 24; (with_reducible refine (K4.out _ HS.out.tabs HS.out.six').mono ?_); rintro e w6 ⟨rfl, hb⟩; have HS := mkHid (HS.out.next hb); have Ha := mkHid (Ha.out.grows hb); have Hb := mkHid (Hb.out.grows hb); have Hc := mkHid (Hc.out.grows hb); clear hb; obtain ⟨⟨a0, a1, a2, a3⟩, -⟩ := Ha.out; obtain ⟨⟨b0, b1, b2, b3⟩, -⟩ := Hb.out; obtain ⟨⟨c0, c1, c2, c3⟩, -⟩ := Hc.out) | (go_at_call 21; (with_reducible refine (S1.out _ HS.out.tabs HS.out.six').mono ?_); rintro e w4 ⟨rfl, hb⟩; have HS := mkHid (HS.out.next hb); have Ha := mkHid (Ha.out.grows hb); have Hb := mkHid (Hb.out.grows hb); have Hc := mkHid (Hc.out.grows hb); have HS := mkHid (HS.out.alloc (.cells #[.int .u64 (ld : Int), .string kd, .int .u64 (lzd : Int), .string kzd] 26)); have Ha := mkHid (Ha.out.alloc (.cells #[.int .u64 (ld : Int), .string kd, .int .u64 (lzd : Int), .string kzd] 26)); have Hb := mkHid (Hb.out.alloc (.cells #[.int .u64 (ld : Int), .string kd, .int .u64 (lzd : Int), .string kzd] 26)); have Hc := mkHid (Hc.out.alloc (.cells #[.int .u64 (ld : Int), .string kd, .int .u64 (lzd : Int), .string kzd] 26)); have Hd := mkHid (At4.new w4 w4.heap.size ld kd lzd kzd rfl); clear hb; obtain ⟨⟨a0, a1, a2, a3⟩, -⟩ := Ha.out; obtain ⟨⟨b0, b1, b2, b3⟩, -⟩ := Hb.out; obtain ⟨⟨c0, c1, c2, c3⟩, -⟩ := Hc.out; obtain ⟨⟨d0, d1, d2, d3⟩, -⟩ := Hd.out))
    have hsn := HS.out
    obtain ⟨⟨a0, a1, a2, a3⟩, -⟩ := Ha.out
    obtain ⟨⟨b0, b1, b2, b3⟩, -⟩ := Hb.out
    obtain ⟨⟨c0, c1, c2, c3⟩, -⟩ := Hc.out
    go_region_held3 (fun X => St W X ∧ At4 X (j7) la ka lza kza ∧ At4 X (j8) lb kb lzb kzb ∧ At4 X (j9) lc kc lzc kzc ∧ At4 X (w4.heap.size) ld kd lzd kzd ∧ X.cell? ⟨j7, 0, none⟩ = some (.int .u64 (la : Int)) ∧ X.cell? ⟨j7, 1, none⟩ = some (.string ka) ∧ X.cell? ⟨j7, 2, none⟩ = some (.int .u64 (lza : Int)) ∧ X.cell? ⟨j7, 3, none⟩ = some (.string kza) ∧ X.cell? ⟨j8, 0, none⟩ = some (.int .u64 (lb : Int)) ∧ X.cell? ⟨j8, 1, none⟩ = some (.string kb) ∧ X.cell? ⟨j8, 2, none⟩ = some (.int .u64 (lzb : Int)) ∧ X.cell? ⟨j8, 3, none⟩ = some (.string kzb) ∧ X.cell? ⟨j9, 0, none⟩ = some (.int .u64 (lc : Int)) ∧ X.cell? ⟨j9, 1, none⟩ = some (.string kc) ∧ X.cell? ⟨j9, 2, none⟩ = some (.int .u64 (lzc : Int)) ∧ X.cell? ⟨j9, 3, none⟩ = some (.string kzc))
      (first
        | (with_reducible exact ⟨hS.1.next hb, hS.2.1.grows hb, hS.2.2.1.grows hb, hS.2.2.2.1.grows hb, hS.2.2.2.2.1.grows hb, St.cell hb hS.2.2.2.2.2.1, St.cell hb hS.2.2.2.2.2.2.1, St.cell hb hS.2.2.2.2.2.2.2.1, St.cell hb hS.2.2.2.2.2.2.2.2.1, St.cell hb hS.2.2.2.2.2.2.2.2.2.1, St.cell hb hS.2.2.2.2.2.2.2.2.2.2.1, St.cell hb hS.2.2.2.2.2.2.2.2.2.2.2.1, St.cell hb hS.2.2.2.2.2.2.2.2.2.2.2.2.1, St.cell hb hS.2.2.2.2.2.2.2.2.2.2.2.2.2.1, St.cell hb hS.2.2.2.2.2.2.2.2.2.2.2.2.2.2.1, St.cell hb hS.2.2.2.2.2.2.2.2.2.2.2.2.2.2.2.1, St.cell hb hS.2.2.2.2.2.2.2.2.2.2.2.2.2.2.2.2⟩)
        | exact ⟨hsn.drew, Ha.out.drew, Hb.out.drew, Hc.out.drew, Hd.out.drew, a0, a1, a2, a3, b0, b1, b2, b3, c0, c1, c2, c3⟩)
      (first
        | (go_at_call 19; have hS : St W _ ∧ _ := (by assumption); (with_reducible refine (A1.out _ hS.1.tabs hS.1.six').mono ?_); rintro e w6 ⟨rfl, hb⟩)
        | (go_at_call 19; have hS : St W _ ∧ _ := (by assumption); (with_reducible refine (A2.out _ hS.1.tabs hS.1.six').mono ?_); rintro e w6 ⟨rfl, hb⟩)
        | (go_at_call 24; have hS : St W _ ∧ _ := (by assumption); (with_reducible refine (K5.out _ hS.1.tabs hS.1.six').mono ?_); rintro e w6 ⟨rfl, hb⟩))
    have hT : St W _ ∧ _ := (by assumption)
    clear hsn HS Ha Hb Hc Hd a0 a1 a2 a3 b0 b1 b2 b3 c0 c1 c2 c3
    have HS := mkHid hT.1
    have Ha := mkHid hT.2.1
    have Hb := mkHid hT.2.2.1
    have Hc := mkHid hT.2.2.2.1
    have Hd := mkHid hT.2.2.2.2.1
    clear hT
    obtain ⟨⟨a0, a1, a2, a3⟩, -⟩ := Ha.out
    obtain ⟨⟨b0, b1, b2, b3⟩, -⟩ := Hb.out
    obtain ⟨⟨c0, c1, c2, c3⟩, -⟩ := Hc.out
    obtain ⟨⟨d0, d1, d2, d3⟩, -⟩ := Hd.out
    have hz := hz.out
    rcases h6z.out with rfl | ⟨rfl, rfl⟩
    · clear h6z
      have ez := text_zero hz
      subst ez
      clear hz
      go_upto_region 8 with fail
      refine wp_region_inv (fun a0 listed A X => ∃ (l0x l1x l2x l3x l4x l5x l6x l7x l8x l9x l10x l11x l12x l13x l14x l15x l16x l17x : Bool) (w83 w84 w85 w86 w87 w88 w89 w90 w91 w92 w93 w94 w95 w96 w97 w98 w99 w6 : Value), listed = #[l0x, l1x, l2x, l3x, l4x, l5x, l6x, l7x, l8x, l9x, l10x, l11x, l12x, l13x, l14x, l15x, l16x, l17x] ∧ A = ((((((((((((((((((a0.put (some 83) w83).put (some 84) w84).put (some 85) w85).put (some 86) w86).put (some 87) w87).put (some 88) w88).put (some 89) w89).put (some 90) w90).put (some 91) w91).put (some 92) w92).put (some 93) w93).put (some 94) w94).put (some 95) w95).put (some 96) w96).put (some 97) w97).put (some 98) w98).put (some 99) w99).put (some 6) w6) ∧ Hid (St W X ∧ At4 X j9 lc kc lzc kzc ∧ (l0x = true → w83 = .agg #[.int .u64 (lc : Int), .string kc, .int .u64 (lzc : Int), .string kzc]) ∧ (l1x = true → w84 = .string ⟨#[48]⟩) ∧ (l2x = true → w85 = .bool true) ∧ (l3x = true → w86 = .bool true) ∧ (l13x = true → w96 = .bool true) ∧ (l14x = true → w97 = .bool true) ∧ (l15x = true → w98 = .bool true) ∧ (l16x = true → w99 = .bool true) ∧ (l17x = true → w6 = .bool true))) [0, 1, 2, 3, 4, 5, 6, 7, 8, 9, 10, 11, 12, 13, 14, 15, 16, 17] (by kernel_rfl) (by kernel_rfl) (by kernel_rfl) ?_ ?_ ?_
      case refine_1 =>
        exact ⟨false, false, false, false, false, false, false, false, false, false, false, false, false, false, false, false, false, false, _, _, _, _, _, _, _, _, _, _, _, _, _, _, _, _, _, _, by kernel_rfl, by simp only [Act.put, List.setIfInBounds_toArray, List.set_cons_zero, List.set_cons_succ]; rfl, mkHid ⟨HS.out.drew, Hc.out.drew, fun h => absurd h (by decide), fun h => absurd h (by decide), fun h => absurd h (by decide), fun h => absurd h (by decide), fun h => absurd h (by decide), fun h => absurd h (by decide), fun h => absurd h (by decide), fun h => absurd h (by decide), fun h => absurd h (by decide)⟩⟩
      case refine_2 =>
        intro Q' listed A X hI
        obtain ⟨l0x, l1x, l2x, l3x, l4x, l5x, l6x, l7x, l8x, l9x, l10x, l11x, l12x, l13x, l14x, l15x, l16x, l17x, w83, w84, w85, w86, w87, w88, w89, w90, w91, w92, w93, w94, w95, w96, w97, w98, w99, w6, rfl, hA, HJ⟩ := hI
        simp only [Act.put, List.setIfInBounds_toArray, List.set_cons_zero, List.set_cons_succ] at hA
        subst hA
        refine AllI.cons0 (o := ?r0) ?ho ?hg ?h ?hs
        case ho => simp only [List.getElem?_toArray, List.getElem?_cons_zero, List.getElem?_cons_succ]; rfl
        case hg => rfl
        case h =>
          intro hun hdep K hK
          simp [Region.binds] at hun hdep
          clear hun hdep
          obtain ⟨⟨c0, c1, c2, c3⟩, -⟩ := HJ.out.2.1
          go_simp
          refine hK.out _ _ ?_
          refine ⟨true, l1x, l2x, l3x, l4x, l5x, l6x, l7x, l8x, l9x, l10x, l11x, l12x, l13x, l14x, l15x, l16x, l17x, .agg #[.int .u64 (lc : Int), .string kc, .int .u64 (lzc : Int), .string kzc], w84, w85, w86, w87, w88, w89, w90, w91, w92, w93, w94, w95, w96, w97, w98, w99, w6, by simp, by simp only [Act.put, List.setIfInBounds_toArray, List.set_cons_zero, List.set_cons_succ], mkHid ⟨?_, ?_, ?_, ?_, ?_, ?_, ?_, ?_, ?_, ?_, ?_⟩⟩
          · exact HJ.out.1
          · exact HJ.out.2.1
          · exact fun _ => rfl
          · exact HJ.out.2.2.2.1
          · exact HJ.out.2.2.2.2.1
          · exact HJ.out.2.2.2.2.2.1
          · exact HJ.out.2.2.2.2.2.2.1
          · exact HJ.out.2.2.2.2.2.2.2.1
          · exact HJ.out.2.2.2.2.2.2.2.2.1
          · exact HJ.out.2.2.2.2.2.2.2.2.2.1
          · exact HJ.out.2.2.2.2.2.2.2.2.2.2
        case hs =>
        refine AllI.cons0 (o := ?r1) ?ho ?hg ?h ?hs
        case ho => simp only [List.getElem?_toArray, List.getElem?_cons_zero, List.getElem?_cons_succ]; rfl
        case hg => rfl
        case h =>
          intro hun hdep K hK
          simp [Region.binds] at hun hdep
          have e0 : l0x = true := by first | exact hdep | (simp [hdep])
          subst e0
          clear hun hdep
          have hv := HJ.out.2.2.1 rfl
          subst hv
          go_simp
          go_at_call 22
          refine (T1.out _ (HJ.out.1).tabs (HJ.out.1).six').mono ?_
          rintro e w7 ⟨rfl, hb⟩
          refine hK.out _ _ ?_
          refine ⟨true, true, l2x, l3x, l4x, l5x, l6x, l7x, l8x, l9x, l10x, l11x, l12x, l13x, l14x, l15x, l16x, l17x, .agg #[.int .u64 (lc : Int), .string kc, .int .u64 (lzc : Int), .string kzc], .string ⟨#[48]⟩, w85, w86, w87, w88, w89, w90, w91, w92, w93, w94, w95, w96, w97, w98, w99, w6, by simp, by simp only [Act.put, List.setIfInBounds_toArray, List.set_cons_zero, List.set_cons_succ], mkHid ⟨?_, ?_, ?_, ?_, ?_, ?_, ?_, ?_, ?_, ?_, ?_⟩⟩
          · exact (HJ.out.1).next hb
          · exact (HJ.out.2.1).grows hb
          · exact HJ.out.2.2.1
          · exact fun _ => rfl
          · exact HJ.out.2.2.2.2.1
          · exact HJ.out.2.2.2.2.2.1
          · exact HJ.out.2.2.2.2.2.2.1
          · exact HJ.out.2.2.2.2.2.2.2.1
          · exact HJ.out.2.2.2.2.2.2.2.2.1
          · exact HJ.out.2.2.2.2.2.2.2.2.2.1
          · exact HJ.out.2.2.2.2.2.2.2.2.2.2
        case hs =>
        refine AllI.cons0 (o := ?r2) ?ho ?hg ?h ?hs
        case ho => simp only [List.getElem?_toArray, List.getElem?_cons_zero, List.getElem?_cons_succ]; rfl
        case hg => rfl
        case h =>
          intro hun hdep K hK
          simp [Region.binds] at hun hdep
          have e1 : l1x = true := by first | exact hdep | (simp [hdep])
          subst e1
          clear hun hdep
          have hv := HJ.out.2.2.2.1 rfl
          subst hv
          go_simp
          refine hK.out _ _ ?_
          refine ⟨l0x, true, true, l3x, l4x, l5x, l6x, l7x, l8x, l9x, l10x, l11x, l12x, l13x, l14x, l15x, l16x, l17x, w83, .string ⟨#[48]⟩, .bool true, w86, w87, w88, w89, w90, w91, w92, w93, w94, w95, w96, w97, w98, w99, w6, by simp, by simp only [Act.put, List.setIfInBounds_toArray, List.set_cons_zero, List.set_cons_succ], mkHid ⟨?_, ?_, ?_, ?_, ?_, ?_, ?_, ?_, ?_, ?_, ?_⟩⟩
          · exact HJ.out.1
          · exact HJ.out.2.1
          · exact HJ.out.2.2.1
          · exact HJ.out.2.2.2.1
          · exact fun _ => rfl
          · exact HJ.out.2.2.2.2.2.1
          · exact HJ.out.2.2.2.2.2.2.1
          · exact HJ.out.2.2.2.2.2.2.2.1
          · exact HJ.out.2.2.2.2.2.2.2.2.1
          · exact HJ.out.2.2.2.2.2.2.2.2.2.1
          · exact HJ.out.2.2.2.2.2.2.2.2.2.2
        case hs =>
        refine AllI.cons0 (o := ?r3) ?ho ?hg ?h ?hs
        case ho => simp only [List.getElem?_toArray, List.getElem?_cons_zero, List.getElem?_cons_succ]; rfl
        case hg => rfl
        case h =>
          intro hun hdep K hK
          simp [Region.binds] at hun hdep
          have e2 : l2x = true := by first | exact hdep | (simp [hdep])
          subst e2
          clear hun hdep
          have hv := HJ.out.2.2.2.2.1 rfl
          subst hv
          go_simp
          refine hK.out _ _ ?_
          refine ⟨l0x, l1x, true, true, l4x, l5x, l6x, l7x, l8x, l9x, l10x, l11x, l12x, l13x, l14x, l15x, l16x, l17x, w83, w84, .bool true, .bool true, w87, w88, w89, w90, w91, w92, w93, w94, w95, w96, w97, w98, w99, w6, by simp, by simp only [Act.put, List.setIfInBounds_toArray, List.set_cons_zero, List.set_cons_succ], mkHid ⟨?_, ?_, ?_, ?_, ?_, ?_, ?_, ?_, ?_, ?_, ?_⟩⟩
          · exact HJ.out.1
          · exact HJ.out.2.1
          · exact HJ.out.2.2.1
          · exact HJ.out.2.2.2.1
          · exact HJ.out.2.2.2.2.1
          · exact fun _ => rfl
          · exact HJ.out.2.2.2.2.2.2.1
          · exact HJ.out.2.2.2.2.2.2.2.1
          · exact HJ.out.2.2.2.2.2.2.2.2.1
          · exact HJ.out.2.2.2.2.2.2.2.2.2.1
          · exact HJ.out.2.2.2.2.2.2.2.2.2.2
        case hs =>
        refine AllI.cons (o := ?r4) ?ho ?h ?hs
        case ho => simp only [List.getElem?_toArray, List.getElem?_cons_zero, List.getElem?_cons_succ]; rfl
        case h =>
          intro hun hdep K hK
          simp [Region.binds] at hun hdep
          have e3 : l3x = true := by first | exact hdep | (simp [hdep])
          subst e3
          clear hun hdep
          have hv := HJ.out.2.2.2.2.2.1 rfl
          subst hv
          refine ite_no (by rfl) ?_
          refine hK.out _ _ ?_
          refine ⟨l0x, l1x, l2x, true, true, l5x, l6x, l7x, l8x, l9x, l10x, l11x, l12x, l13x, l14x, l15x, l16x, l17x, w83, w84, w85, .bool true, undef, w88, w89, w90, w91, w92, w93, w94, w95, w96, w97, w98, w99, w6, by simp, by simp only [Act.put, List.setIfInBounds_toArray, List.set_cons_zero, List.set_cons_succ], mkHid ⟨?_, ?_, ?_, ?_, ?_, ?_, ?_, ?_, ?_, ?_, ?_⟩⟩
          · exact HJ.out.1
          · exact HJ.out.2.1
          · exact HJ.out.2.2.1
          · exact HJ.out.2.2.2.1
          · exact HJ.out.2.2.2.2.1
          · exact HJ.out.2.2.2.2.2.1
          · exact HJ.out.2.2.2.2.2.2.1
          · exact HJ.out.2.2.2.2.2.2.2.1
          · exact HJ.out.2.2.2.2.2.2.2.2.1
          · exact HJ.out.2.2.2.2.2.2.2.2.2.1
          · exact HJ.out.2.2.2.2.2.2.2.2.2.2
        case hs =>
        refine AllI.cons (o := ?r5) ?ho ?h ?hs
        case ho => simp only [List.getElem?_toArray, List.getElem?_cons_zero, List.getElem?_cons_succ]; rfl
        case h =>
          intro hun hdep K hK
          simp [Region.binds] at hun hdep
          have e3 : l3x = true := by first | exact hdep | (simp [hdep])
          subst e3
          clear hun hdep
          have hv := HJ.out.2.2.2.2.2.1 rfl
          subst hv
          refine ite_no (by rfl) ?_
          refine hK.out _ _ ?_
          refine ⟨l0x, l1x, l2x, true, l4x, true, l6x, l7x, l8x, l9x, l10x, l11x, l12x, l13x, l14x, l15x, l16x, l17x, w83, w84, w85, .bool true, w87, undef, w89, w90, w91, w92, w93, w94, w95, w96, w97, w98, w99, w6, by simp, by simp only [Act.put, List.setIfInBounds_toArray, List.set_cons_zero, List.set_cons_succ], mkHid ⟨?_, ?_, ?_, ?_, ?_, ?_, ?_, ?_, ?_, ?_, ?_⟩⟩
          · exact HJ.out.1
          · exact HJ.out.2.1
          · exact HJ.out.2.2.1
          · exact HJ.out.2.2.2.1
          · exact HJ.out.2.2.2.2.1
          · exact HJ.out.2.2.2.2.2.1
          · exact HJ.out.2.2.2.2.2.2.1
          · exact HJ.out.2.2.2.2.2.2.2.1
          · exact HJ.out.2.2.2.2.2.2.2.2.1
          · exact HJ.out.2.2.2.2.2.2.2.2.2.1
          · exact HJ.out.2.2.2.2.2.2.2.2.2.2
        case hs =>
        refine AllI.cons (o := ?r6) ?ho ?h ?hs
        case ho => simp only [List.getElem?_toArray, List.getElem?_cons_zero, List.getElem?_cons_succ]; rfl
        case h =>
          intro hun hdep K hK
          simp [Region.binds] at hun hdep
          have e3 : l3x = true := by first | exact hdep | (simp [hdep])
          subst e3
          clear hun hdep
          have hv := HJ.out.2.2.2.2.2.1 rfl
          subst hv
          refine ite_no (by rfl) ?_
          refine hK.out _ _ ?_
          refine ⟨l0x, l1x, l2x, true, l4x, l5x, true, l7x, l8x, l9x, l10x, l11x, l12x, l13x, l14x, l15x, l16x, l17x, w83, w84, w85, .bool true, w87, w88, undef, w90, w91, w92, w93, w94, w95, w96, w97, w98, w99, w6, by simp, by simp only [Act.put, List.setIfInBounds_toArray, List.set_cons_zero, List.set_cons_succ], mkHid ⟨?_, ?_, ?_, ?_, ?_, ?_, ?_, ?_, ?_, ?_, ?_⟩⟩
          · exact HJ.out.1
          · exact HJ.out.2.1
          · exact HJ.out.2.2.1
          · exact HJ.out.2.2.2.1
          · exact HJ.out.2.2.2.2.1
          · exact HJ.out.2.2.2.2.2.1
          · exact HJ.out.2.2.2.2.2.2.1
          · exact HJ.out.2.2.2.2.2.2.2.1
          · exact HJ.out.2.2.2.2.2.2.2.2.1
          · exact HJ.out.2.2.2.2.2.2.2.2.2.1
          · exact HJ.out.2.2.2.2.2.2.2.2.2.2
        case hs =>
        refine AllI.cons (o := ?r7) ?ho ?h ?hs
        case ho => simp only [List.getElem?_toArray, List.getElem?_cons_zero, List.getElem?_cons_succ]; rfl
        case h =>
          intro hun hdep K hK
          simp [Region.binds] at hun hdep
          have e3 : l3x = true := by first | exact hdep | (simp [hdep])
          subst e3
          clear hun hdep
          have hv := HJ.out.2.2.2.2.2.1 rfl
          subst hv
          refine ite_no (by rfl) ?_
          refine hK.out _ _ ?_
          refine ⟨l0x, l1x, l2x, true, l4x, l5x, l6x, true, l8x, l9x, l10x, l11x, l12x, l13x, l14x, l15x, l16x, l17x, w83, w84, w85, .bool true, w87, w88, w89, undef, w91, w92, w93, w94, w95, w96, w97, w98, w99, w6, by simp, by simp only [Act.put, List.setIfInBounds_toArray, List.set_cons_zero, List.set_cons_succ], mkHid ⟨?_, ?_, ?_, ?_, ?_, ?_, ?_, ?_, ?_, ?_, ?_⟩⟩
          · exact HJ.out.1
          · exact HJ.out.2.1
          · exact HJ.out.2.2.1
          · exact HJ.out.2.2.2.1
          · exact HJ.out.2.2.2.2.1
          · exact HJ.out.2.2.2.2.2.1
          · exact HJ.out.2.2.2.2.2.2.1
          · exact HJ.out.2.2.2.2.2.2.2.1
          · exact HJ.out.2.2.2.2.2.2.2.2.1
          · exact HJ.out.2.2.2.2.2.2.2.2.2.1
          · exact HJ.out.2.2.2.2.2.2.2.2.2.2
        case hs =>
        refine AllI.cons (o := ?r8) ?ho ?h ?hs
        case ho => simp only [List.getElem?_toArray, List.getElem?_cons_zero, List.getElem?_cons_succ]; rfl
        case h =>
          intro hun hdep K hK
          simp [Region.binds] at hun hdep
          have e3 : l3x = true := by first | exact hdep | (simp [hdep])
          subst e3
          clear hun hdep
          have hv := HJ.out.2.2.2.2.2.1 rfl
          subst hv
          refine ite_no (by rfl) ?_
          refine hK.out _ _ ?_
          refine ⟨l0x, l1x, l2x, true, l4x, l5x, l6x, l7x, true, l9x, l10x, l11x, l12x, l13x, l14x, l15x, l16x, l17x, w83, w84, w85, .bool true, w87, w88, w89, w90, undef, w92, w93, w94, w95, w96, w97, w98, w99, w6, by simp, by simp only [Act.put, List.setIfInBounds_toArray, List.set_cons_zero, List.set_cons_succ], mkHid ⟨?_, ?_, ?_, ?_, ?_, ?_, ?_, ?_, ?_, ?_, ?_⟩⟩
          · exact HJ.out.1
          · exact HJ.out.2.1
          · exact HJ.out.2.2.1
          · exact HJ.out.2.2.2.1
          · exact HJ.out.2.2.2.2.1
          · exact HJ.out.2.2.2.2.2.1
          · exact HJ.out.2.2.2.2.2.2.1
          · exact HJ.out.2.2.2.2.2.2.2.1
          · exact HJ.out.2.2.2.2.2.2.2.2.1
          · exact HJ.out.2.2.2.2.2.2.2.2.2.1
          · exact HJ.out.2.2.2.2.2.2.2.2.2.2
        case hs =>
        refine AllI.cons (o := ?r9) ?ho ?h ?hs
        case ho => simp only [List.getElem?_toArray, List.getElem?_cons_zero, List.getElem?_cons_succ]; rfl
        case h =>
          intro hun hdep K hK
          simp [Region.binds] at hun hdep
          have e3 : l3x = true := by first | exact hdep | (simp [hdep])
          subst e3
          clear hun hdep
          have hv := HJ.out.2.2.2.2.2.1 rfl
          subst hv
          refine ite_no (by rfl) ?_
          refine hK.out _ _ ?_
          refine ⟨l0x, l1x, l2x, true, l4x, l5x, l6x, l7x, l8x, true, l10x, l11x, l12x, l13x, l14x, l15x, l16x, l17x, w83, w84, w85, .bool true, w87, w88, w89, w90, w91, undef, w93, w94, w95, w96, w97, w98, w99, w6, by simp, by simp only [Act.put, List.setIfInBounds_toArray, List.set_cons_zero, List.set_cons_succ], mkHid ⟨?_, ?_, ?_, ?_, ?_, ?_, ?_, ?_, ?_, ?_, ?_⟩⟩
          · exact HJ.out.1
          · exact HJ.out.2.1
          · exact HJ.out.2.2.1
          · exact HJ.out.2.2.2.1
          · exact HJ.out.2.2.2.2.1
          · exact HJ.out.2.2.2.2.2.1
          · exact HJ.out.2.2.2.2.2.2.1
          · exact HJ.out.2.2.2.2.2.2.2.1
          · exact HJ.out.2.2.2.2.2.2.2.2.1
          · exact HJ.out.2.2.2.2.2.2.2.2.2.1
          · exact HJ.out.2.2.2.2.2.2.2.2.2.2
        case hs =>
        refine AllI.cons (o := ?r10) ?ho ?h ?hs
        case ho => simp only [List.getElem?_toArray, List.getElem?_cons_zero, List.getElem?_cons_succ]; rfl
        case h =>
          intro hun hdep K hK
          simp [Region.binds] at hun hdep
          have e3 : l3x = true := by first | exact hdep | (simp [hdep])
          subst e3
          clear hun hdep
          have hv := HJ.out.2.2.2.2.2.1 rfl
          subst hv
          refine ite_no (by rfl) ?_
          refine hK.out _ _ ?_
          refine ⟨l0x, l1x, l2x, true, l4x, l5x, l6x, l7x, l8x, l9x, true, l11x, l12x, l13x, l14x, l15x, l16x, l17x, w83, w84, w85, .bool true, w87, w88, w89, w90, w91, w92, undef, w94, w95, w96, w97, w98, w99, w6, by simp, by simp only [Act.put, List.setIfInBounds_toArray, List.set_cons_zero, List.set_cons_succ], mkHid ⟨?_, ?_, ?_, ?_, ?_, ?_, ?_, ?_, ?_, ?_, ?_⟩⟩
          · exact HJ.out.1
          · exact HJ.out.2.1
          · exact HJ.out.2.2.1
          · exact HJ.out.2.2.2.1
          · exact HJ.out.2.2.2.2.1
          · exact HJ.out.2.2.2.2.2.1
          · exact HJ.out.2.2.2.2.2.2.1
          · exact HJ.out.2.2.2.2.2.2.2.1
          · exact HJ.out.2.2.2.2.2.2.2.2.1
          · exact HJ.out.2.2.2.2.2.2.2.2.2.1
          · exact HJ.out.2.2.2.2.2.2.2.2.2.2
        case hs =>
        refine AllI.cons (o := ?r11) ?ho ?h ?hs
        case ho => simp only [List.getElem?_toArray, List.getElem?_cons_zero, List.getElem?_cons_succ]; rfl
        case h =>
          intro hun hdep K hK
          simp [Region.binds] at hun hdep
          have e3 : l3x = true := by first | exact hdep | (simp [hdep])
          subst e3
          clear hun hdep
          have hv := HJ.out.2.2.2.2.2.1 rfl
          subst hv
          refine ite_no (by rfl) ?_
          refine hK.out _ _ ?_
          refine ⟨l0x, l1x, l2x, true, l4x, l5x, l6x, l7x, l8x, l9x, l10x, true, l12x, l13x, l14x, l15x, l16x, l17x, w83, w84, w85, .bool true, w87, w88, w89, w90, w91, w92, w93, undef, w95, w96, w97, w98, w99, w6, by simp, by simp only [Act.put, List.setIfInBounds_toArray, List.set_cons_zero, List.set_cons_succ], mkHid ⟨?_, ?_, ?_, ?_, ?_, ?_, ?_, ?_, ?_, ?_, ?_⟩⟩
          · exact HJ.out.1
          · exact HJ.out.2.1
          · exact HJ.out.2.2.1
          · exact HJ.out.2.2.2.1
          · exact HJ.out.2.2.2.2.1
          · exact HJ.out.2.2.2.2.2.1
          · exact HJ.out.2.2.2.2.2.2.1
          · exact HJ.out.2.2.2.2.2.2.2.1
          · exact HJ.out.2.2.2.2.2.2.2.2.1
          · exact HJ.out.2.2.2.2.2.2.2.2.2.1
          · exact HJ.out.2.2.2.2.2.2.2.2.2.2
        case hs =>
        refine AllI.cons (o := ?r12) ?ho ?h ?hs
        case ho => simp only [List.getElem?_toArray, List.getElem?_cons_zero, List.getElem?_cons_succ]; rfl
        case h =>
          intro hun hdep K hK
          simp [Region.binds] at hun hdep
          have e3 : l3x = true := by first | exact hdep | (simp [hdep])
          subst e3
          clear hun hdep
          have hv := HJ.out.2.2.2.2.2.1 rfl
          subst hv
          refine ite_no (by rfl) ?_
          refine hK.out _ _ ?_
          refine ⟨l0x, l1x, l2x, true, l4x, l5x, l6x, l7x, l8x, l9x, l10x, l11x, true, l13x, l14x, l15x, l16x, l17x, w83, w84, w85, .bool true, w87, w88, w89, w90, w91, w92, w93, w94, undef, w96, w97, w98, w99, w6, by simp, by simp only [Act.put, List.setIfInBounds_toArray, List.set_cons_zero, List.set_cons_succ], mkHid ⟨?_, ?_, ?_, ?_, ?_, ?_, ?_, ?_, ?_, ?_, ?_⟩⟩
          · exact HJ.out.1
          · exact HJ.out.2.1
          · exact HJ.out.2.2.1
          · exact HJ.out.2.2.2.1
          · exact HJ.out.2.2.2.2.1
          · exact HJ.out.2.2.2.2.2.1
          · exact HJ.out.2.2.2.2.2.2.1
          · exact HJ.out.2.2.2.2.2.2.2.1
          · exact HJ.out.2.2.2.2.2.2.2.2.1
          · exact HJ.out.2.2.2.2.2.2.2.2.2.1
          · exact HJ.out.2.2.2.2.2.2.2.2.2.2
        case hs =>
        refine AllI.cons0 (o := ?r13) ?ho ?hg ?h ?hs
        case ho => simp only [List.getElem?_toArray, List.getElem?_cons_zero, List.getElem?_cons_succ]; rfl
        case hg => rfl
        case h =>
          intro hun hdep K hK
          simp [Region.binds] at hun hdep
          have e3 : l3x = true := by first | exact hdep | (simp [hdep])
          subst e3
          clear hun hdep
          have hv := HJ.out.2.2.2.2.2.1 rfl
          subst hv
          go_simp
          refine hK.out _ _ ?_
          refine ⟨l0x, l1x, l2x, true, l4x, l5x, l6x, l7x, l8x, l9x, l10x, l11x, l12x, true, l14x, l15x, l16x, l17x, w83, w84, w85, .bool true, w87, w88, w89, w90, w91, w92, w93, w94, w95, .bool true, w97, w98, w99, w6, by simp, by simp only [Act.put, List.setIfInBounds_toArray, List.set_cons_zero, List.set_cons_succ], mkHid ⟨?_, ?_, ?_, ?_, ?_, ?_, ?_, ?_, ?_, ?_, ?_⟩⟩
          · exact HJ.out.1
          · exact HJ.out.2.1
          · exact HJ.out.2.2.1
          · exact HJ.out.2.2.2.1
          · exact HJ.out.2.2.2.2.1
          · exact HJ.out.2.2.2.2.2.1
          · exact fun _ => rfl
          · exact HJ.out.2.2.2.2.2.2.2.1
          · exact HJ.out.2.2.2.2.2.2.2.2.1
          · exact HJ.out.2.2.2.2.2.2.2.2.2.1
          · exact HJ.out.2.2.2.2.2.2.2.2.2.2
        case hs =>
        refine AllI.cons0 (o := ?r14) ?ho ?hg ?h ?hs
        case ho => simp only [List.getElem?_toArray, List.getElem?_cons_zero, List.getElem?_cons_succ]; rfl
        case hg => rfl
        case h =>
          intro hun hdep K hK
          simp [Region.binds] at hun hdep
          have e13 : l13x = true := by first | exact hdep | (simp [hdep])
          subst e13
          clear hun hdep
          have hv := HJ.out.2.2.2.2.2.2.1 rfl
          subst hv
          go_simp
          refine hK.out _ _ ?_
          refine ⟨l0x, l1x, l2x, l3x, l4x, l5x, l6x, l7x, l8x, l9x, l10x, l11x, l12x, true, true, l15x, l16x, l17x, w83, w84, w85, w86, w87, w88, w89, w90, w91, w92, w93, w94, w95, .bool true, .bool true, w98, w99, w6, by simp, by simp only [Act.put, List.setIfInBounds_toArray, List.set_cons_zero, List.set_cons_succ], mkHid ⟨?_, ?_, ?_, ?_, ?_, ?_, ?_, ?_, ?_, ?_, ?_⟩⟩
          · exact HJ.out.1
          · exact HJ.out.2.1
          · exact HJ.out.2.2.1
          · exact HJ.out.2.2.2.1
          · exact HJ.out.2.2.2.2.1
          · exact HJ.out.2.2.2.2.2.1
          · exact HJ.out.2.2.2.2.2.2.1
          · exact fun _ => rfl
          · exact HJ.out.2.2.2.2.2.2.2.2.1
          · exact HJ.out.2.2.2.2.2.2.2.2.2.1
          · exact HJ.out.2.2.2.2.2.2.2.2.2.2
        case hs =>
        refine AllI.cons (o := ?r15) ?ho ?h ?hs
        case ho => simp only [List.getElem?_toArray, List.getElem?_cons_zero, List.getElem?_cons_succ]; rfl
        case h =>
          intro hun hdep K hK
          simp [Region.binds] at hun hdep
          have e14 : l14x = true := by first | exact hdep | (simp [hdep])
          subst e14
          clear hun hdep
          have hv := HJ.out.2.2.2.2.2.2.2.1 rfl
          subst hv
          rw [if_pos (by rfl)]
          go_simp
          go_at_call 16
          refine (CW.out _ (HJ.out.1).tabs (HJ.out.1).six').mono ?_
          rintro e w7 ⟨rfl, hb⟩
          refine hK.out _ _ ?_
          refine ⟨l0x, l1x, l2x, l3x, l4x, l5x, l6x, l7x, l8x, l9x, l10x, l11x, l12x, l13x, true, true, l16x, l17x, w83, w84, w85, w86, w87, w88, w89, w90, w91, w92, w93, w94, w95, w96, .bool true, .bool true, w99, w6, by simp, by simp only [Act.put, List.setIfInBounds_toArray, List.set_cons_zero, List.set_cons_succ], mkHid ⟨?_, ?_, ?_, ?_, ?_, ?_, ?_, ?_, ?_, ?_, ?_⟩⟩
          · exact (HJ.out.1).next hb
          · exact (HJ.out.2.1).grows hb
          · exact HJ.out.2.2.1
          · exact HJ.out.2.2.2.1
          · exact HJ.out.2.2.2.2.1
          · exact HJ.out.2.2.2.2.2.1
          · exact HJ.out.2.2.2.2.2.2.1
          · exact HJ.out.2.2.2.2.2.2.2.1
          · exact fun _ => rfl
          · exact HJ.out.2.2.2.2.2.2.2.2.2.1
          · exact HJ.out.2.2.2.2.2.2.2.2.2.2
        case hs =>
        refine AllI.cons0 (o := ?r16) ?ho ?hg ?h ?hs
        case ho => simp only [List.getElem?_toArray, List.getElem?_cons_zero, List.getElem?_cons_succ]; rfl
        case hg => rfl
        case h =>
          intro hun hdep K hK
          simp [Region.binds] at hun hdep
          have e14 : l14x = true := by first | exact hdep | (simp [hdep])
          subst e14
          have e15 : l15x = true := by first | exact hdep | (simp [hdep])
          subst e15
          clear hun hdep
          have hv := HJ.out.2.2.2.2.2.2.2.1 rfl
          subst hv
          have hv := HJ.out.2.2.2.2.2.2.2.2.1 rfl
          subst hv
          go_simp
          refine hK.out _ _ ?_
          refine ⟨l0x, l1x, l2x, l3x, l4x, l5x, l6x, l7x, l8x, l9x, l10x, l11x, l12x, l13x, true, true, true, l17x, w83, w84, w85, w86, w87, w88, w89, w90, w91, w92, w93, w94, w95, w96, .bool true, .bool true, .bool true, w6, by simp, by simp only [Act.put, List.setIfInBounds_toArray, List.set_cons_zero, List.set_cons_succ], mkHid ⟨?_, ?_, ?_, ?_, ?_, ?_, ?_, ?_, ?_, ?_, ?_⟩⟩
          · exact HJ.out.1
          · exact HJ.out.2.1
          · exact HJ.out.2.2.1
          · exact HJ.out.2.2.2.1
          · exact HJ.out.2.2.2.2.1
          · exact HJ.out.2.2.2.2.2.1
          · exact HJ.out.2.2.2.2.2.2.1
          · exact HJ.out.2.2.2.2.2.2.2.1
          · exact HJ.out.2.2.2.2.2.2.2.2.1
          · exact fun _ => rfl
          · exact HJ.out.2.2.2.2.2.2.2.2.2.2
        case hs =>
        refine AllI.cons0 (o := ?r17) ?ho ?hg ?h ?hs
        case ho => simp only [List.getElem?_toArray, List.getElem?_cons_zero, List.getElem?_cons_succ]; rfl
        case hg => rfl
        case h =>
          intro hun hdep K hK
          simp [Region.binds] at hun hdep
          have e16 : l16x = true := by first | exact hdep | (simp [hdep])
          subst e16
          clear hun hdep
          have hv := HJ.out.2.2.2.2.2.2.2.2.2.1 rfl
          subst hv
          go_simp
          refine hK.out _ _ ?_
          refine ⟨l0x, l1x, l2x, l3x, l4x, l5x, l6x, l7x, l8x, l9x, l10x, l11x, l12x, l13x, l14x, l15x, true, true, w83, w84, w85, w86, w87, w88, w89, w90, w91, w92, w93, w94, w95, w96, w97, w98, .bool true, .bool true, by simp, by simp only [Act.put, List.setIfInBounds_toArray, List.set_cons_zero, List.set_cons_succ], mkHid ⟨?_, ?_, ?_, ?_, ?_, ?_, ?_, ?_, ?_, ?_, ?_⟩⟩
          · exact HJ.out.1
          · exact HJ.out.2.1
          · exact HJ.out.2.2.1
          · exact HJ.out.2.2.2.1
          · exact HJ.out.2.2.2.2.1
          · exact HJ.out.2.2.2.2.2.1
          · exact HJ.out.2.2.2.2.2.2.1
          · exact HJ.out.2.2.2.2.2.2.2.1
          · exact HJ.out.2.2.2.2.2.2.2.2.1
          · exact HJ.out.2.2.2.2.2.2.2.2.2.1
          · exact fun _ => rfl
        case hs =>
        exact AllI.nil
      case refine_3 =>
        intro listed A X hI hall
        obtain ⟨l0x, l1x, l2x, l3x, l4x, l5x, l6x, l7x, l8x, l9x, l10x, l11x, l12x, l13x, l14x, l15x, l16x, l17x, w83, w84, w85, w86, w87, w88, w89, w90, w91, w92, w93, w94, w95, w96, w97, w98, w99, w6, rfl, hA, HJ⟩ := hI
        simp at hall
        obtain ⟨rfl, rfl, rfl, rfl, rfl, rfl, rfl, rfl, rfl, rfl, rfl, rfl, rfl, rfl, rfl, rfl, rfl, rfl⟩ := hall
        have hv := HJ.out.2.2.2.2.2.2.2.2.2.2 rfl
        subst hv
        simp only [Act.put, List.setIfInBounds_toArray, List.set_cons_zero, List.set_cons_succ] at hA
        subst hA
        have HT := mkHid (HJ.out.1).below
        go_wp2_with fail
        go_ret
        exact ⟨rfl, HT.out⟩
    · clear h6z
      go_upto_region 8 with (fail)
      have hsn := HS.out
      obtain ⟨⟨a0, a1, a2, a3⟩, -⟩ := Ha.out
      obtain ⟨⟨b0, b1, b2, b3⟩, -⟩ := Hb.out
      obtain ⟨⟨c0, c1, c2, c3⟩, -⟩ := Hc.out
      go_region_held3 (fun X => St W X ∧ At4 X (j7) la ka lza kza ∧ At4 X (j8) lb kb lzb kzb ∧ At4 X (j9) lc kc lzc kzc ∧ At4 X (w4.heap.size) ld kd lzd kzd ∧ X.cell? ⟨j7, 0, none⟩ = some (.int .u64 (la : Int)) ∧ X.cell? ⟨j7, 1, none⟩ = some (.string ka) ∧ X.cell? ⟨j7, 2, none⟩ = some (.int .u64 (lza : Int)) ∧ X.cell? ⟨j7, 3, none⟩ = some (.string kza) ∧ X.cell? ⟨j8, 0, none⟩ = some (.int .u64 (lb : Int)) ∧ X.cell? ⟨j8, 1, none⟩ = some (.string kb) ∧ X.cell? ⟨j8, 2, none⟩ = some (.int .u64 (lzb : Int)) ∧ X.cell? ⟨j8, 3, none⟩ = some (.string kzb) ∧ X.cell? ⟨j9, 0, none⟩ = some (.int .u64 (lc : Int)) ∧ X.cell? ⟨j9, 1, none⟩ = some (.string kc) ∧ X.cell? ⟨j9, 2, none⟩ = some (.int .u64 (lzc : Int)) ∧ X.cell? ⟨j9, 3, none⟩ = some (.string kzc))
        (first
          | (with_reducible exact ⟨hS.1.next hb, hS.2.1.grows hb, hS.2.2.1.grows hb, hS.2.2.2.1.grows hb, hS.2.2.2.2.1.grows hb, St.cell hb hS.2.2.2.2.2.1, St.cell hb hS.2.2.2.2.2.2.1, St.cell hb hS.2.2.2.2.2.2.2.1, St.cell hb hS.2.2.2.2.2.2.2.2.1, St.cell hb hS.2.2.2.2.2.2.2.2.2.1, St.cell hb hS.2.2.2.2.2.2.2.2.2.2.1, St.cell hb hS.2.2.2.2.2.2.2.2.2.2.2.1, St.cell hb hS.2.2.2.2.2.2.2.2.2.2.2.2.1, St.cell hb hS.2.2.2.2.2.2.2.2.2.2.2.2.2.1, St.cell hb hS.2.2.2.2.2.2.2.2.2.2.2.2.2.2.1, St.cell hb hS.2.2.2.2.2.2.2.2.2.2.2.2.2.2.2.1, St.cell hb hS.2.2.2.2.2.2.2.2.2.2.2.2.2.2.2.2⟩)
          | exact ⟨hsn.drew, Ha.out.drew, Hb.out.drew, Hc.out.drew, Hd.out.drew, a0, a1, a2, a3, b0, b1, b2, b3, c0, c1, c2, c3⟩)
        (first
          | (go_at_call 22; have hS : St W _ ∧ _ := (by assumption); (with_reducible refine (T1.out _ hS.1.tabs hS.1.six').mono ?_); rintro e w6 ⟨rfl, hb⟩)
          | (go_at_call 20; have hS : St W _ ∧ _ := (by assumption); (with_reducible refine (M1.out _ hS.1.tabs hS.1.six').mono ?_); rintro e w6 ⟨rfl, hb⟩)
          | (go_at_call 20; have hS : St W _ ∧ _ := (by assumption); (with_reducible refine (M2.out _ hS.1.tabs hS.1.six').mono ?_); rintro e w6 ⟨rfl, hb⟩)
          | (go_at_call 24; have hS : St W _ ∧ _ := (by assumption); (with_reducible refine (K6.out _ hS.1.tabs hS.1.six').mono ?_); rintro e w6 ⟨rfl, hb⟩)
          | (go_at_call 16; have hS : St W _ ∧ _ := (by assumption); (with_reducible refine (CW.out _ hS.1.tabs hS.1.six').mono ?_); rintro e w6 ⟨rfl, hb⟩))
      have hT : St W _ ∧ _ := (by assumption)
      clear hsn HS Ha Hb Hc Hd a0 a1 a2 a3 b0 b1 b2 b3 c0 c1 c2 c3
      have HS := mkHid hT.1
      have Ha := mkHid hT.2.1
      have Hb := mkHid hT.2.2.1
      have Hc := mkHid hT.2.2.2.1
      have Hd := mkHid hT.2.2.2.2.1
      clear hT
      obtain ⟨⟨a0, a1, a2, a3⟩, -⟩ := Ha.out
      obtain ⟨⟨b0, b1, b2, b3⟩, -⟩ := Hb.out
      obtain ⟨⟨c0, c1, c2, c3⟩, -⟩ := Hc.out
      obtain ⟨⟨d0, d1, d2, d3⟩, -⟩ := Hd.out
      go_wp2_with fail
      go_ret
      exact ⟨rfl, HS.out.below⟩
end Go.Proofs.YtflcdpolfimggaaDoor
