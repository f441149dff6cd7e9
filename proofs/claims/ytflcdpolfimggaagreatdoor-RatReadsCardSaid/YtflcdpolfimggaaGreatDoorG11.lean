/- Contracts, laid one behind the other: QW QX QU QV QY. -/
import Derived.Test.YtflcdpolfimggaaGreatDoorG10
import Derived.Lib.CutLaws
namespace Go.Proofs.YtflcdpolfimggaaGreatDoor
open Go.RowKit Q SD

/-- Where the first slash stands, or none. -/
theorem index_cases (s : ByteArray) : (Lib.indexByte s.data.toList 47 = -1 ∧ ∀ c ∈ s.data.toList, c ≠ 47) ∨ ∃ i : Nat, Lib.indexByte s.data.toList 47 = (i : Int) ∧ i < s.size ∧ s.data.toList = s.data.toList.take i ++ 47 :: s.data.toList.drop (i + 1) ∧ ∀ c ∈ s.data.toList.take i, c ≠ 47 := by
  have key : ∀ l : List UInt8, (Lib.indexByte l 47 = -1 ∧ ∀ c ∈ l, c ≠ 47) ∨ ∃ i : Nat, Lib.indexByte l 47 = (i : Int) ∧ i < l.length ∧ l = l.take i ++ 47 :: l.drop (i + 1) ∧ ∀ c ∈ l.take i, c ≠ 47 := by
    intro l
    induction l with
    | nil => exact .inl ⟨rfl, by simp⟩
    | cons b l ih =>
      by_cases hb : b = 47
      · subst hb
        exact .inr ⟨0, by simp [Lib.indexByte], by simp, by simp, by simp⟩
      · have e : (b == 47) = false := by simpa using hb
        rcases ih with ⟨h1, h2⟩ | ⟨i, h1, h2, h3, h4⟩
        · refine .inl ⟨by simp [Lib.indexByte, e, h1], fun c hc => ?_⟩
          rcases List.mem_cons.1 hc with rfl | hc
          · exact hb
          · exact h2 c hc
        · refine .inr ⟨i + 1, ?_, by simp; omega, ?_, fun c hc => ?_⟩
          · have : ¬ ((i : Int) = -1) := by omega
            simp [Lib.indexByte, e, h1, this]
          · simp only [List.take_succ_cons, List.drop_succ_cons, List.cons_append]; rw [← h3]
          · rw [List.take_succ_cons] at hc
            rcases List.mem_cons.1 hc with rfl | hc
            · exact hb
            · exact h4 c hc
  exact key s.data.toList

set_option maxRecDepth 100000 in
set_option maxHeartbeats 2000000 in
theorem cut_miss (s : ByteArray) (w : World) (h : Lib.indexByte s.data.toList 47 = -1) :
    Calls Tryz.prog 26 #[.string s, .string ⟨#[47]⟩] w fun e w' => e = .returned (.tuple #[.string s, .string ⟨#[]⟩, .bool false]) ∧ ∃ n, w' = w.drewN n := by
  have CI := fun W => Tryz.stringslite_Index_one s 47 W
  rw [h] at CI
  replace CI := mkHid CI
  have C1 : Calls Tryz.prog 55 #[.string s, .string ⟨#[47]⟩] w fun e w' => e = .returned (.tuple #[.string s, .string ⟨#[]⟩, .bool false]) ∧ ∃ n, w' = w.drewN n := by
    go_enter Tryz.func55, Tryz.ntmps55
    go_wp2_with (go_at_call 81; refine (CI.out _).mono ?_; rintro e w' ⟨rfl, h2⟩; obtain rfl := h2.symm; clear h2)
    go_ret3
    exact ⟨rfl, 0, rfl⟩
  have C1 := mkHid C1
  go_enter Tryz.func26, Tryz.ntmps26
  go_wp2_with (go_at_call 55; refine C1.out.mono ?_; rintro e w' ⟨rfl, n, rfl⟩)
  go_ret3
  exact ⟨rfl, n, rfl⟩
set_option maxRecDepth 100000 in
set_option maxHeartbeats 2000000 in
theorem cut_hit (s : ByteArray) (w : World) (i : Nat) (h : Lib.indexByte s.data.toList 47 = (i : Int)) (hi : i < s.size) (hs : s.size ≤ 4294967280) :
    Calls Tryz.prog 26 #[.string s, .string ⟨#[47]⟩] w fun e w' => e = .returned (.tuple #[.string (s.extract 0 i), .string (s.extract (i + 1) s.size), .bool true]) ∧ ∃ n, w' = w.drewN n := by
  have CI := fun W => Tryz.stringslite_Index_one s 47 W
  rw [h] at CI
  replace CI := mkHid CI
  have c1 : (0 : Int) ≤ ↑i := by omega
  have c2 : (↑i : Int) ≤ ↑s.size := by omega
  have c3 : (0 : Int) ≤ ↑i + 1 := by omega
  have c4 : (↑i + 1 : Int) ≤ ↑s.size := by omega
  have c5 : IntKind.i64.wrap ((i : Int) + 1) = (i : Int) + 1 := IntWalk.i64_in _ (by omega)
  have C1 : Calls Tryz.prog 55 #[.string s, .string ⟨#[47]⟩] w fun e w' => e = .returned (.tuple #[.string (s.extract 0 i), .string (s.extract (i + 1) s.size), .bool true]) ∧ ∃ n, w' = w.drewN n := by
    clear h hs
    go_enter Tryz.func55, Tryz.ntmps55
    go_wp2_with (go_at_call 81; refine (CI.out _).mono ?_; rintro e w' ⟨rfl, h2⟩; obtain rfl := h2.symm; clear h2)
    go_region
    go_wp2
    go_ret3
    exact ⟨rfl, 1, rfl⟩
  have C1 := mkHid C1
  clear c1 c2 c3 c4 c5 CI h hi hs
  generalize s.extract 0 i = a at *
  generalize s.extract (i + 1) s.size = b at *
  go_enter Tryz.func26, Tryz.ntmps26
  go_wp2_with (go_at_call 55; refine C1.out.mono ?_; rintro e w' ⟨rfl, n, rfl⟩)
  go_ret3
  exact ⟨rfl, n, rfl⟩
end Go.Proofs.YtflcdpolfimggaaGreatDoor
namespace Go.Proofs.YtflcdpolfimggaaGreatDoor
open Go.RowKit Q SD

theorem nread_bad (s : ByteArray) (hs : s.size ≤ 4294967280) (h : D.isDec s.data.toList = false) : Gives 27 #[.string s] (.tuple #[nv 0, .bool false]) := fun W _ _ => read_bad s W (by unfold maxLen; omega) h
theorem nread_ok (s : ByteArray) (hs : s.size ≤ 4294967280) (h : D.isDec s.data.toList = true) : Gives 27 #[.string s] (.tuple #[nv (D.dv s.data.toList), .bool true]) := fun W _ _ => read_ok s W (by unfold maxLen; omega) h
theorem dv_sm (l : List UInt8) (h : D.isDec l = true) : Sm (D.dv l) := by
  have h1 := D.dec_dv l h
  have h2 : Lib.nDigits (D.dv l) ≤ 2000 := by
    rw [← Lib.decDigits_length, h1]
    unfold D.isDec at h
    simp only [Bool.and_eq_true, decide_eq_true_eq] at h
    exact h.1.1.2
  obtain ⟨k, hk⟩ : ∃ k : Nat, k = 106 := ⟨_, rfl⟩
  obtain ⟨m, hm⟩ : ∃ m : Nat, m = 2000 := ⟨_, rfl⟩
  have h3 := Lib.lt_pow_nDigits (D.dv l)
  rw [← hm] at h2
  have h4 : (10 : Nat) ^ Lib.nDigits (D.dv l) ≤ 10 ^ m := Nat.pow_le_pow_right (by omega) h2
  have h5 : (10 : Nat) ^ m ≤ M.B ^ k := by
    have e1 : (10 : Nat) ^ 19 ≤ M.B := by unfold M.B; decide
    have e2 : (10 ^ 19 : Nat) ^ k ≤ M.B ^ k := Nat.pow_le_pow_left e1 k
    rw [← Nat.pow_mul] at e2
    exact Nat.le_trans (Nat.pow_le_pow_right (by omega) (by omega)) e2
  exact sm_pow (k := k) (by omega) (by omega)
theorem parts_ne2 {g : Nat} (h : ¬ g = 1) : ((lo g : Int) == (lo 1 : Int)) = false ∨ (lo g = lo 1 ∧ ((hi g).toList == (hi 1).toList) = false) := nv_ne h
theorem Bxn.drewN {X : World} {r k : Nat} (h : Bxn X r k) (n : Nat) : Bxn (X.drewN n) r k := h
/-- What Cut says. -/
def Cuts (s a b : ByteArray) (f : Bool) : Prop := ∀ w, Calls Tryz.prog 26 #[.string s, .string ⟨#[47]⟩] w fun e w' => e = .returned (.tuple #[.string a, .string b, .bool f]) ∧ ∃ n, w' = w.drewN n

set_option maxRecDepth 100000 in
set_option maxHeartbeats 8000000 in
theorem read2_a (s a b : ByteArray) (f : Bool) (hc : Cuts s a b f) (hs : a.size ≤ 4294967280) (ha : D.isDec a.data.toList = false) : Gives 8 #[.string s] (.tuple #[rv 0 1, .bool false]) := by
  intro W ht h6
  have CC := mkHid hc
  have CN := nread_bad a hs ha
  unfold rv
  rw [dz_one]
  unfold nv at *
  rw [lo_zero, hi_zero] at *
  replace CN := mkHid CN
  clear hc hs ha
  have HS := mkHid ((St.refl ht h6).alloc (.cells #[.int .u64 0, .string ⟨#[]⟩, .int .u64 0, .string ⟨#[]⟩] 27))
  have HX := mkHid (Bxn.new W W.heap.size #[.int .u64 0, .string ⟨#[]⟩, .int .u64 0, .string ⟨#[]⟩] 27 rfl)
  clear ht h6
  go_enter Tryz.func8, Tryz.ntmps8
  go_wp2_with (first | (go_at_call 26; refine (CC.out _).mono ?_; rintro e w2 ⟨rfl, n, rfl⟩; have HS := mkHid (HS.out.drewN n); have HX := mkHid (HX.out.drewN n)) | (go_at_call 27; (with_reducible refine (CN.out _ HS.out.tabs HS.out.six').mono ?_); rintro e w3 ⟨rfl, hb⟩; have HS := mkHid ((HS.out.next hb).alloc (.cells #[.int .u64 0, .string ⟨#[]⟩] 25)); have HX := mkHid ((HX.out.grows hb).alloc (.cells #[.int .u64 0, .string ⟨#[]⟩] 25)); clear hb; obtain ⟨v0, v1, v2, v3, ⟨r0, r1, r2, r3⟩, f0, f1, f2, f3⟩ := HX.out.facts4))
  refine bodyPost_ret (v := .tuple #[.agg #[.int .u64 ((0 : Nat) : Int), .string ⟨#[]⟩, .int .u64 ((0 : Nat) : Int), .string ⟨#[]⟩], .bool false]) (by simp [results, Tryz.results8, go_sem, r0, r1, r2, r3]) rfl ⟨rfl, ?_⟩
  exact (HS.out.set4 (Nat.le_refl _) _ _ _ _).below

set_option maxRecDepth 100000 in
set_option maxHeartbeats 8000000 in
theorem read2_b (s b : ByteArray) (hc : Cuts s s b false) (hs : s.size ≤ 4294967280) (ha : D.isDec s.data.toList = true) : Gives 8 #[.string s] (.tuple #[rv (D.dv s.data.toList) 1, .bool true]) := by
  intro W ht h6
  have CC := mkHid hc
  have CN := nread_ok s hs ha
  have CP := pack_g (D.dv s.data.toList) 1
  have CO := of_g 1 (by decide)
  rw [show ((1 : Nat) : Int) = 1 from rfl] at CO
  unfold rv at *
  rw [dz_one] at *
  unfold nv at *
  rw [lo_zero, hi_zero] at *
  replace CN := mkHid CN
  replace CP := mkHid CP
  replace CO := mkHid CO
  clear hc hs ha
  generalize D.dv s.data.toList = n at *
  generalize lo (n) = ln at *
  generalize hi (n) = kn at *
  generalize lo (1) = l1 at *
  generalize hi (1) = k1 at *
  have HS := mkHid ((St.refl ht h6).alloc (.cells #[.int .u64 0, .string ⟨#[]⟩, .int .u64 0, .string ⟨#[]⟩] 27))
  have HX := mkHid (Bxn.new W W.heap.size #[.int .u64 0, .string ⟨#[]⟩, .int .u64 0, .string ⟨#[]⟩] 27 rfl)
  clear ht h6
  go_enter Tryz.func8, Tryz.ntmps8
  go_upto_region 6 with (first | (go_at_call 26; refine (CC.out _).mono ?_; rintro e w2 ⟨rfl, n, rfl⟩; have HS := mkHid (HS.out.drewN n); have HX := mkHid (HX.out.drewN n)) | (go_at_call 27; (with_reducible refine (CN.out _ HS.out.tabs HS.out.six').mono ?_); rintro e w3 ⟨rfl, hb⟩; have HS := mkHid ((HS.out.next hb).alloc (.cells #[.int .u64 (ln : Int), .string kn] 25)); have HX := mkHid ((HX.out.grows hb).alloc (.cells #[.int .u64 (ln : Int), .string kn] 25)); have HN := mkHid (At2.new w3 w3.heap.size ln kn rfl); clear hb; obtain ⟨v0, v1, v2, v3, ⟨r0, r1, r2, r3⟩, f0, f1, f2, f3⟩ := HX.out.facts4; obtain ⟨n0, n1, nf0, nf1⟩ := HN.out))
  go_region_with (first
    | (go_at_call 29; (with_reducible refine (CO.out _ (HS.out.drew).tabs (HS.out.drew).six').mono ?_); rintro e w5 ⟨rfl, hb⟩; have HS5 := mkHid ((HS.out.drew).next hb); have HX5 := mkHid (HX.out.drew.grows hb); have HN5 := mkHid (HN.out.drew.grows hb); clear hb; obtain ⟨v0, v1, v2, v3, ⟨r0, r1, r2, r3⟩, f0, f1, f2, f3⟩ := HX5.out.facts4; obtain ⟨n0, n1, nf0, nf1⟩ := HN5.out)
    | (go_at_call 28; (with_reducible refine (CP.out _ HS5.out.tabs HS5.out.six').mono ?_); rintro e w7 ⟨rfl, hb⟩; have HS7 := mkHid (HS5.out.next hb); have HX7 := mkHid (HX5.out.grows hb); clear hb; obtain ⟨v0, v1, v2, v3, ⟨r0, r1, r2, r3⟩, f0, f1, f2, f3⟩ := HX7.out.facts4))
  all_goals
    go_wp2_with fail
    refine bodyPost_ret (v := .tuple #[.agg #[.int .u64 (ln : Int), .string kn, .int .u64 ((0 : Nat) : Int), .string ⟨#[]⟩], .bool true]) (by simp [results, Tryz.results8, go_sem, r0, r1, r2, r3]) rfl ⟨rfl, ?_⟩
    exact (HS7.out.set4 (Nat.le_refl _) _ _ _ _).below

set_option maxRecDepth 100000 in
set_option maxHeartbeats 8000000 in
theorem read2_c (s a b : ByteArray) (hc : Cuts s a b true) (hs : a.size ≤ 4294967280) (hsb : b.size ≤ 4294967280) (ha : D.isDec a.data.toList = true) (hb : D.isDec b.data.toList = false) : Gives 8 #[.string s] (.tuple #[rv 0 1, .bool false]) := by
  intro W ht h6
  have CC := mkHid hc
  have CN := nread_ok a hs ha
  have CD := nread_bad b hsb hb
  unfold rv
  rw [dz_one]
  unfold nv at *
  rw [lo_zero, hi_zero] at *
  replace CN := mkHid CN
  replace CD := mkHid CD
  clear hc hs ha hb hsb
  generalize D.dv a.data.toList = n at *
  generalize lo (n) = ln at *
  generalize hi (n) = kn at *
  have HS := mkHid ((St.refl ht h6).alloc (.cells #[.int .u64 0, .string ⟨#[]⟩, .int .u64 0, .string ⟨#[]⟩] 27))
  have HX := mkHid (Bxn.new W W.heap.size #[.int .u64 0, .string ⟨#[]⟩, .int .u64 0, .string ⟨#[]⟩] 27 rfl)
  clear ht h6
  go_enter Tryz.func8, Tryz.ntmps8
  go_upto_region 8 with (first | (go_at_call 26; refine (CC.out _).mono ?_; rintro e w2 ⟨rfl, n, rfl⟩; have HS := mkHid (HS.out.drewN n); have HX := mkHid (HX.out.drewN n)) | (go_at_call 27; (with_reducible refine (CN.out _ HS.out.tabs HS.out.six').mono ?_); rintro e w3 ⟨rfl, hb⟩; have HS := mkHid ((HS.out.next hb).alloc (.cells #[.int .u64 (ln : Int), .string kn] 25)); have HX := mkHid ((HX.out.grows hb).alloc (.cells #[.int .u64 (ln : Int), .string kn] 25)); have HN := mkHid (At2.new w3 w3.heap.size ln kn rfl); clear hb; obtain ⟨v0, v1, v2, v3, ⟨r0, r1, r2, r3⟩, f0, f1, f2, f3⟩ := HX.out.facts4; obtain ⟨n0, n1, nf0, nf1⟩ := HN.out) | (go_at_call 27; (with_reducible refine (CD.out _ HS.out.tabs HS.out.six').mono ?_); rintro e w4 ⟨rfl, hb⟩; have HS := mkHid ((HS.out.next hb).alloc (.cells #[.int .u64 0, .string ⟨#[]⟩] 25)); have HX := mkHid ((HX.out.grows hb).alloc (.cells #[.int .u64 0, .string ⟨#[]⟩] 25)); have HN := mkHid ((HN.out.grows hb).alloc (.cells #[.int .u64 0, .string ⟨#[]⟩] 25)); clear hb; obtain ⟨v0, v1, v2, v3, ⟨r0, r1, r2, r3⟩, f0, f1, f2, f3⟩ := HX.out.facts4; obtain ⟨n0, n1, nf0, nf1⟩ := HN.out))
  go_region
  go_wp2_with fail
  refine bodyPost_ret (v := .tuple #[.agg #[.int .u64 ((0 : Nat) : Int), .string ⟨#[]⟩, .int .u64 ((0 : Nat) : Int), .string ⟨#[]⟩], .bool false]) (by simp [results, Tryz.results8, go_sem, r0, r1, r2, r3]) rfl ⟨rfl, ?_⟩
  exact ((HS.out.drew).set4 (Nat.le_refl _) _ _ _ _).below

set_option maxRecDepth 100000 in
set_option maxHeartbeats 8000000 in
theorem read2_d (s a b : ByteArray) (hc : Cuts s a b true) (hs : a.size ≤ 4294967280) (hsb : b.size ≤ 4294967280) (ha : D.isDec a.data.toList = true) (hb : D.isDec b.data.toList = true) (h1 : D.dv b.data.toList ≤ 1) : Gives 8 #[.string s] (.tuple #[rv 0 1, .bool false]) := by
  intro W ht h6
  have CC := mkHid hc
  have CN := nread_ok a hs ha
  have CD := nread_ok b hsb hb
  have CK := cmp_g (D.dv b.data.toList) 1
  have hcv : ∃ cv : Int, Lib.compareInt ((D.dv b.data.toList : Nat) : Int) ((1 : Nat) : Int) = cv ∧ cv ≤ 0 := ⟨_, rfl, by unfold Lib.compareInt; split <;> (try split) <;> omega⟩
  obtain ⟨cv, ecv, hcv⟩ := hcv
  rw [ecv] at CK
  have CO := of_g 1 (by decide)
  rw [show ((1 : Nat) : Int) = 1 from rfl] at CO
  unfold rv
  rw [dz_one]
  unfold nv at *
  rw [lo_zero, hi_zero]
  clear hc hs ha hb hsb h1 ecv
  generalize D.dv a.data.toList = n at *
  generalize D.dv b.data.toList = d at *
  generalize lo (n) = ln at *
  generalize hi (n) = kn at *
  generalize lo (d) = ld at *
  generalize hi (d) = kd at *
  generalize lo (1) = l1 at *
  generalize hi (1) = k1 at *
  replace CN := mkHid CN
  replace CD := mkHid CD
  replace CK := mkHid CK
  replace CO := mkHid CO
  have HS := mkHid ((St.refl ht h6).alloc (.cells #[.int .u64 0, .string ⟨#[]⟩, .int .u64 0, .string ⟨#[]⟩] 27))
  have HX := mkHid (Bxn.new W W.heap.size #[.int .u64 0, .string ⟨#[]⟩, .int .u64 0, .string ⟨#[]⟩] 27 rfl)
  clear ht h6
  go_enter Tryz.func8, Tryz.ntmps8
  go_upto_region 8 with (first | (go_at_call 26; refine (CC.out _).mono ?_; rintro e w2 ⟨rfl, n, rfl⟩; have HS := mkHid (HS.out.drewN n); have HX := mkHid (HX.out.drewN n)) | (go_at_call 27; (with_reducible refine (CN.out _ HS.out.tabs HS.out.six').mono ?_); rintro e w3 ⟨rfl, hb⟩; have HS := mkHid ((HS.out.next hb).alloc (.cells #[.int .u64 (ln : Int), .string kn] 25)); have HX := mkHid ((HX.out.grows hb).alloc (.cells #[.int .u64 (ln : Int), .string kn] 25)); have HN := mkHid (At2.new w3 w3.heap.size ln kn rfl); clear hb; obtain ⟨v0, v1, v2, v3, ⟨r0, r1, r2, r3⟩, f0, f1, f2, f3⟩ := HX.out.facts4; obtain ⟨n0, n1, nf0, nf1⟩ := HN.out) | (go_at_call 27; (with_reducible refine (CD.out _ HS.out.tabs HS.out.six').mono ?_); rintro e w4 ⟨rfl, hb⟩; have HS := mkHid ((HS.out.next hb).alloc (.cells #[.int .u64 (ld : Int), .string kd] 25)); have HX := mkHid ((HX.out.grows hb).alloc (.cells #[.int .u64 (ld : Int), .string kd] 25)); have HN := mkHid ((HN.out.grows hb).alloc (.cells #[.int .u64 (ld : Int), .string kd] 25)); have HD := mkHid (At2.new w4 w4.heap.size ld kd rfl); clear hb; obtain ⟨v0, v1, v2, v3, ⟨r0, r1, r2, r3⟩, f0, f1, f2, f3⟩ := HX.out.facts4; obtain ⟨n0, n1, nf0, nf1⟩ := HN.out; obtain ⟨d0, d1, df0, df1⟩ := HD.out))
  go_region_with (first
    | (go_at_call 29; (with_reducible refine (CO.out _ (HS.out.drew).tabs (HS.out.drew).six').mono ?_); rintro e w5 ⟨rfl, hb⟩; have HS5 := mkHid ((HS.out.drew).next hb); have HX5 := mkHid (HX.out.drew.grows hb); have HD5 := mkHid (HD.out.drew.grows hb); clear hb; obtain ⟨d0, d1, -, -⟩ := HD5.out)
    | (go_at_call 30; (with_reducible refine (CK.out _ HS5.out.tabs HS5.out.six').mono ?_); rintro e w7 ⟨rfl, hb⟩; have HS7 := mkHid (HS5.out.next hb); have HX7 := mkHid (HX5.out.grows hb); clear hb; obtain ⟨v0, v1, v2, v3, ⟨r0, r1, r2, r3⟩, f0, f1, f2, f3⟩ := HX7.out.facts4))
  all_goals
    go_wp2_with fail
    refine bodyPost_ret (v := .tuple #[.agg #[.int .u64 ((0 : Nat) : Int), .string ⟨#[]⟩, .int .u64 ((0 : Nat) : Int), .string ⟨#[]⟩], .bool false]) (by simp [results, Tryz.results8, go_sem, r0, r1, r2, r3]) rfl ⟨rfl, ?_⟩
    exact (HS7.out.set4 (Nat.le_refl _) _ _ _ _).below

set_option maxRecDepth 100000 in
set_option maxHeartbeats 8000000 in
theorem read2_f (s a b : ByteArray) (hc : Cuts s a b true) (hs : a.size ≤ 4294967280) (hsb : b.size ≤ 4294967280) (ha : D.isDec a.data.toList = true) (hb : D.isDec b.data.toList = true) (h1 : 1 < D.dv b.data.toList) (hg : Nat.gcd (D.dv a.data.toList) (D.dv b.data.toList) = 1) : Gives 8 #[.string s] (.tuple #[rv (D.dv a.data.toList) (D.dv b.data.toList), .bool true]) := by
  intro W ht h6
  have CC := mkHid hc
  have CN := nread_ok a hs ha
  have CD := nread_ok b hsb hb
  have sn : Sm (D.dv a.data.toList) := dv_sm _ ha
  have sd : Sm (D.dv b.data.toList) := dv_sm _ hb
  have CG := gcd_g _ _ sn sd
  have CK := cmp_g (D.dv b.data.toList) 1
  rw [show Lib.compareInt ((D.dv b.data.toList : Nat) : Int) ((1 : Nat) : Int) = 1 by unfold Lib.compareInt; rw [if_neg (by omega), if_pos (by omega)]] at CK
  have CO := of_g 1 (by decide)
  rw [show ((1 : Nat) : Int) = 1 from rfl] at CO
  rw [hg] at CG
  have CP := pack_g (D.dv a.data.toList) (D.dv b.data.toList)
  unfold rv at *
  rw [dz_ne (show D.dv b.data.toList ≠ 1 by omega)] at *
  unfold nv at *
  clear hc hs ha hb hsb h1 hg sn sd
  generalize D.dv a.data.toList = n at *
  generalize D.dv b.data.toList = d at *
  generalize lo (n) = ln at *
  generalize hi (n) = kn at *
  generalize lo (d) = ld at *
  generalize hi (d) = kd at *
  generalize lo (1) = l1 at *
  generalize hi (1) = k1 at *
  replace CN := mkHid CN
  replace CD := mkHid CD
  replace CG := mkHid CG
  replace CK := mkHid CK
  replace CO := mkHid CO
  replace CP := mkHid CP
  have HS := mkHid ((St.refl ht h6).alloc (.cells #[.int .u64 0, .string ⟨#[]⟩, .int .u64 0, .string ⟨#[]⟩] 27))
  have HX := mkHid (Bxn.new W W.heap.size #[.int .u64 0, .string ⟨#[]⟩, .int .u64 0, .string ⟨#[]⟩] 27 rfl)
  clear ht h6
  go_enter Tryz.func8, Tryz.ntmps8
  go_upto_region 8 with (first | (go_at_call 26; refine (CC.out _).mono ?_; rintro e w2 ⟨rfl, n, rfl⟩; have HS := mkHid (HS.out.drewN n); have HX := mkHid (HX.out.drewN n)) | (go_at_call 27; (with_reducible refine (CN.out _ HS.out.tabs HS.out.six').mono ?_); rintro e w3 ⟨rfl, hb⟩; have HS := mkHid ((HS.out.next hb).alloc (.cells #[.int .u64 (ln : Int), .string kn] 25)); have HX := mkHid ((HX.out.grows hb).alloc (.cells #[.int .u64 (ln : Int), .string kn] 25)); have HN := mkHid (At2.new w3 w3.heap.size ln kn rfl); clear hb; obtain ⟨v0, v1, v2, v3, ⟨r0, r1, r2, r3⟩, f0, f1, f2, f3⟩ := HX.out.facts4; obtain ⟨n0, n1, nf0, nf1⟩ := HN.out) | (go_at_call 27; (with_reducible refine (CD.out _ HS.out.tabs HS.out.six').mono ?_); rintro e w4 ⟨rfl, hb⟩; have HS := mkHid ((HS.out.next hb).alloc (.cells #[.int .u64 (ld : Int), .string kd] 25)); have HX := mkHid ((HX.out.grows hb).alloc (.cells #[.int .u64 (ld : Int), .string kd] 25)); have HN := mkHid ((HN.out.grows hb).alloc (.cells #[.int .u64 (ld : Int), .string kd] 25)); have HD := mkHid (At2.new w4 w4.heap.size ld kd rfl); clear hb; obtain ⟨v0, v1, v2, v3, ⟨r0, r1, r2, r3⟩, f0, f1, f2, f3⟩ := HX.out.facts4; obtain ⟨n0, n1, nf0, nf1⟩ := HN.out; obtain ⟨d0, d1, df0, df1⟩ := HD.out))
  have hsn := HS.out
  have x2 := HX.out
  generalize w3.heap.size = jn at *
  generalize w4.heap.size = jd at *
  go_region_held3 (fun X => St W X ∧ X.cell? ⟨jn, 0, none⟩ = some (.int .u64 (ln : Int)) ∧ X.cell? ⟨jn, 1, none⟩ = some (.string kn) ∧ X.cell? ⟨jd, 0, none⟩ = some (.int .u64 (ld : Int)) ∧ X.cell? ⟨jd, 1, none⟩ = some (.string kd) ∧ Bxn X (W.heap.size) 4)
    (first
      | (with_reducible exact ⟨hS.1.next hb, St.cell hb hS.2.1, St.cell hb hS.2.2.1, St.cell hb hS.2.2.2.1, St.cell hb hS.2.2.2.2.1, hS.2.2.2.2.2.grows hb⟩)
      | exact ⟨hsn.drew, n0, n1, d0, d1, x2.drew⟩)
    (first
      | (go_at_call 29; have hS : St W _ ∧ _ := (by assumption); (with_reducible refine (CO.out _ hS.1.tabs hS.1.six').mono ?_); rintro e w6 ⟨rfl, hb⟩)
      | (go_at_call 30; have hS : St W _ ∧ _ := (by assumption); (with_reducible refine (CK.out _ hS.1.tabs hS.1.six').mono ?_); rintro e w6 ⟨rfl, hb⟩)
      | (go_at_call 31; have hS : St W _ ∧ _ := (by assumption); (with_reducible refine (CG.out _ hS.1.tabs hS.1.six').mono ?_); rintro e w6 ⟨rfl, hb⟩))
  have hT : St W _ ∧ _ := (by assumption)
  obtain ⟨hs, n0, n1, d0, d1, hx⟩ := hT
  have HS := mkHid hs
  have HX := mkHid hx
  obtain ⟨v0, v1, v2, v3, ⟨r0, r1, r2, r3⟩, f0, f1, f2, f3⟩ := HX.out.facts4
  clear hs hx hsn x2
  go_wp2_with (go_at_call 28; (with_reducible refine (CP.out _ HS.out.tabs HS.out.six').mono ?_); rintro e w7 ⟨rfl, hb⟩; have HS := mkHid (HS.out.next hb); have HX := mkHid (HX.out.grows hb); clear hb; obtain ⟨v0, v1, v2, v3, ⟨r0, r1, r2, r3⟩, f0, f1, f2, f3⟩ := HX.out.facts4)
  refine bodyPost_ret (v := .tuple #[.agg #[.int .u64 (ln : Int), .string kn, .int .u64 (ld : Int), .string kd], .bool true]) (by simp [results, Tryz.results8, go_sem, r0, r1, r2, r3]) rfl ⟨rfl, ?_⟩
  exact (HS.out.set4 (Nat.le_refl _) _ _ _ _).below

set_option maxRecDepth 100000 in
set_option maxHeartbeats 8000000 in
theorem read2_e (s a b : ByteArray) (hc : Cuts s a b true) (hs : a.size ≤ 4294967280) (hsb : b.size ≤ 4294967280) (ha : D.isDec a.data.toList = true) (hb : D.isDec b.data.toList = true) (h1 : 1 < D.dv b.data.toList) (hg : ¬ Nat.gcd (D.dv a.data.toList) (D.dv b.data.toList) = 1) : Gives 8 #[.string s] (.tuple #[rv 0 1, .bool false]) := by
  intro W ht h6
  have CC := mkHid hc
  have CN := nread_ok a hs ha
  have CD := nread_ok b hsb hb
  have sn : Sm (D.dv a.data.toList) := dv_sm _ ha
  have sd : Sm (D.dv b.data.toList) := dv_sm _ hb
  have CG := gcd_g _ _ sn sd
  have CK := cmp_g (D.dv b.data.toList) 1
  rw [show Lib.compareInt ((D.dv b.data.toList : Nat) : Int) ((1 : Nat) : Int) = 1 by unfold Lib.compareInt; rw [if_neg (by omega), if_pos (by omega)]] at CK
  have CO := of_g 1 (by decide)
  rw [show ((1 : Nat) : Int) = 1 from rfl] at CO
  have hne := parts_ne2 hg
  unfold rv
  rw [dz_one]
  unfold nv at *
  rw [lo_zero, hi_zero]
  clear hc hs ha hb hsb h1 hg sn sd
  generalize lo (Nat.gcd (D.dv a.data.toList) (D.dv b.data.toList)) = lg at *
  generalize hi (Nat.gcd (D.dv a.data.toList) (D.dv b.data.toList)) = kg at *
  generalize D.dv a.data.toList = n at *
  generalize D.dv b.data.toList = d at *
  generalize lo (n) = ln at *
  generalize hi (n) = kn at *
  generalize lo (d) = ld at *
  generalize hi (d) = kd at *
  generalize lo (1) = l1 at *
  generalize hi (1) = k1 at *
  replace CN := mkHid CN
  replace CD := mkHid CD
  replace CG := mkHid CG
  replace CK := mkHid CK
  replace CO := mkHid CO
  rcases hne with hne | ⟨hl, hne⟩
  · have HS := mkHid ((St.refl ht h6).alloc (.cells #[.int .u64 0, .string ⟨#[]⟩, .int .u64 0, .string ⟨#[]⟩] 27))
    have HX := mkHid (Bxn.new W W.heap.size #[.int .u64 0, .string ⟨#[]⟩, .int .u64 0, .string ⟨#[]⟩] 27 rfl)
    clear ht h6
    go_enter Tryz.func8, Tryz.ntmps8
    go_upto_region 8 with (first | (go_at_call 26; refine (CC.out _).mono ?_; rintro e w2 ⟨rfl, n, rfl⟩; have HS := mkHid (HS.out.drewN n); have HX := mkHid (HX.out.drewN n)) | (go_at_call 27; (with_reducible refine (CN.out _ HS.out.tabs HS.out.six').mono ?_); rintro e w3 ⟨rfl, hb⟩; have HS := mkHid ((HS.out.next hb).alloc (.cells #[.int .u64 (ln : Int), .string kn] 25)); have HX := mkHid ((HX.out.grows hb).alloc (.cells #[.int .u64 (ln : Int), .string kn] 25)); have HN := mkHid (At2.new w3 w3.heap.size ln kn rfl); clear hb; obtain ⟨v0, v1, v2, v3, ⟨r0, r1, r2, r3⟩, f0, f1, f2, f3⟩ := HX.out.facts4; obtain ⟨n0, n1, nf0, nf1⟩ := HN.out) | (go_at_call 27; (with_reducible refine (CD.out _ HS.out.tabs HS.out.six').mono ?_); rintro e w4 ⟨rfl, hb⟩; have HS := mkHid ((HS.out.next hb).alloc (.cells #[.int .u64 (ld : Int), .string kd] 25)); have HX := mkHid ((HX.out.grows hb).alloc (.cells #[.int .u64 (ld : Int), .string kd] 25)); have HN := mkHid ((HN.out.grows hb).alloc (.cells #[.int .u64 (ld : Int), .string kd] 25)); have HD := mkHid (At2.new w4 w4.heap.size ld kd rfl); clear hb; obtain ⟨v0, v1, v2, v3, ⟨r0, r1, r2, r3⟩, f0, f1, f2, f3⟩ := HX.out.facts4; obtain ⟨n0, n1, nf0, nf1⟩ := HN.out; obtain ⟨d0, d1, df0, df1⟩ := HD.out))
    have hsn := HS.out
    have x2 := HX.out
    generalize w3.heap.size = jn at *
    generalize w4.heap.size = jd at *
    go_region_held3 (fun X => St W X ∧ X.cell? ⟨jn, 0, none⟩ = some (.int .u64 (ln : Int)) ∧ X.cell? ⟨jn, 1, none⟩ = some (.string kn) ∧ X.cell? ⟨jd, 0, none⟩ = some (.int .u64 (ld : Int)) ∧ X.cell? ⟨jd, 1, none⟩ = some (.string kd) ∧ Bxn X (W.heap.size) 4)
      (first
        | (with_reducible exact ⟨hS.1.next hb, St.cell hb hS.2.1, St.cell hb hS.2.2.1, St.cell hb hS.2.2.2.1, St.cell hb hS.2.2.2.2.1, hS.2.2.2.2.2.grows hb⟩)
        | exact ⟨hsn.drew, n0, n1, d0, d1, x2.drew⟩)
      (first
        | (go_at_call 29; have hS : St W _ ∧ _ := (by assumption); (with_reducible refine (CO.out _ hS.1.tabs hS.1.six').mono ?_); rintro e w6 ⟨rfl, hb⟩)
        | (go_at_call 30; have hS : St W _ ∧ _ := (by assumption); (with_reducible refine (CK.out _ hS.1.tabs hS.1.six').mono ?_); rintro e w6 ⟨rfl, hb⟩)
        | (go_at_call 31; have hS : St W _ ∧ _ := (by assumption); (with_reducible refine (CG.out _ hS.1.tabs hS.1.six').mono ?_); rintro e w6 ⟨rfl, hb⟩))
    have hT : St W _ ∧ _ := (by assumption)
    obtain ⟨hs, n0, n1, d0, d1, hx⟩ := hT
    have HS := mkHid hs
    have HX := mkHid hx
    obtain ⟨v0, v1, v2, v3, ⟨r0, r1, r2, r3⟩, f0, f1, f2, f3⟩ := HX.out.facts4
    clear hs hx hsn x2
    go_wp2_with fail
    refine bodyPost_ret (v := .tuple #[.agg #[.int .u64 ((0 : Nat) : Int), .string ⟨#[]⟩, .int .u64 ((0 : Nat) : Int), .string ⟨#[]⟩], .bool false]) (by simp [results, Tryz.results8, go_sem, r0, r1, r2, r3]) rfl ⟨rfl, ?_⟩
    exact (HS.out.set4 (Nat.le_refl _) _ _ _ _).below
  · have HS := mkHid ((St.refl ht h6).alloc (.cells #[.int .u64 0, .string ⟨#[]⟩, .int .u64 0, .string ⟨#[]⟩] 27))
    have HX := mkHid (Bxn.new W W.heap.size #[.int .u64 0, .string ⟨#[]⟩, .int .u64 0, .string ⟨#[]⟩] 27 rfl)
    clear ht h6
    go_enter Tryz.func8, Tryz.ntmps8
    go_upto_region 8 with (first | (go_at_call 26; refine (CC.out _).mono ?_; rintro e w2 ⟨rfl, n, rfl⟩; have HS := mkHid (HS.out.drewN n); have HX := mkHid (HX.out.drewN n)) | (go_at_call 27; (with_reducible refine (CN.out _ HS.out.tabs HS.out.six').mono ?_); rintro e w3 ⟨rfl, hb⟩; have HS := mkHid ((HS.out.next hb).alloc (.cells #[.int .u64 (ln : Int), .string kn] 25)); have HX := mkHid ((HX.out.grows hb).alloc (.cells #[.int .u64 (ln : Int), .string kn] 25)); have HN := mkHid (At2.new w3 w3.heap.size ln kn rfl); clear hb; obtain ⟨v0, v1, v2, v3, ⟨r0, r1, r2, r3⟩, f0, f1, f2, f3⟩ := HX.out.facts4; obtain ⟨n0, n1, nf0, nf1⟩ := HN.out) | (go_at_call 27; (with_reducible refine (CD.out _ HS.out.tabs HS.out.six').mono ?_); rintro e w4 ⟨rfl, hb⟩; have HS := mkHid ((HS.out.next hb).alloc (.cells #[.int .u64 (ld : Int), .string kd] 25)); have HX := mkHid ((HX.out.grows hb).alloc (.cells #[.int .u64 (ld : Int), .string kd] 25)); have HN := mkHid ((HN.out.grows hb).alloc (.cells #[.int .u64 (ld : Int), .string kd] 25)); have HD := mkHid (At2.new w4 w4.heap.size ld kd rfl); clear hb; obtain ⟨v0, v1, v2, v3, ⟨r0, r1, r2, r3⟩, f0, f1, f2, f3⟩ := HX.out.facts4; obtain ⟨n0, n1, nf0, nf1⟩ := HN.out; obtain ⟨d0, d1, df0, df1⟩ := HD.out))
    have hsn := HS.out
    have x2 := HX.out
    generalize w3.heap.size = jn at *
    generalize w4.heap.size = jd at *
    go_region_held3 (fun X => St W X ∧ X.cell? ⟨jn, 0, none⟩ = some (.int .u64 (ln : Int)) ∧ X.cell? ⟨jn, 1, none⟩ = some (.string kn) ∧ X.cell? ⟨jd, 0, none⟩ = some (.int .u64 (ld : Int)) ∧ X.cell? ⟨jd, 1, none⟩ = some (.string kd) ∧ Bxn X (W.heap.size) 4)
      (first
        | (with_reducible exact ⟨hS.1.next hb, St.cell hb hS.2.1, St.cell hb hS.2.2.1, St.cell hb hS.2.2.2.1, St.cell hb hS.2.2.2.2.1, hS.2.2.2.2.2.grows hb⟩)
        | exact ⟨hsn.drew, n0, n1, d0, d1, x2.drew⟩)
      (first
        | (go_at_call 29; have hS : St W _ ∧ _ := (by assumption); (with_reducible refine (CO.out _ hS.1.tabs hS.1.six').mono ?_); rintro e w6 ⟨rfl, hb⟩)
        | (go_at_call 30; have hS : St W _ ∧ _ := (by assumption); (with_reducible refine (CK.out _ hS.1.tabs hS.1.six').mono ?_); rintro e w6 ⟨rfl, hb⟩)
        | (go_at_call 31; have hS : St W _ ∧ _ := (by assumption); (with_reducible refine (CG.out _ hS.1.tabs hS.1.six').mono ?_); rintro e w6 ⟨rfl, hb⟩))
    have hT : St W _ ∧ _ := (by assumption)
    obtain ⟨hs, n0, n1, d0, d1, hx⟩ := hT
    have HS := mkHid hs
    have HX := mkHid hx
    obtain ⟨v0, v1, v2, v3, ⟨r0, r1, r2, r3⟩, f0, f1, f2, f3⟩ := HX.out.facts4
    clear hs hx hsn x2
    go_wp2_with fail
    refine bodyPost_ret (v := .tuple #[.agg #[.int .u64 ((0 : Nat) : Int), .string ⟨#[]⟩, .int .u64 ((0 : Nat) : Int), .string ⟨#[]⟩], .bool false]) (by simp [results, Tryz.results8, go_sem, r0, r1, r2, r3]) rfl ⟨rfl, ?_⟩
    exact (HS.out.set4 (Nat.le_refl _) _ _ _ _).below
end Go.Proofs.YtflcdpolfimggaaGreatDoor
namespace Go.Proofs.YtflcdpolfimggaaGreatDoor
open Go.RowKit Q SD

theorem set4_heap {w : World} {b r : Nat} (hne : b ≠ r) (x y z u : Value) : ((((w.setCell ⟨r, 0, none⟩ x).setCell ⟨r, 1, none⟩ y).setCell ⟨r, 2, none⟩ z).setCell ⟨r, 3, none⟩ u).heap[b]? = w.heap[b]? :=
  (Below.heap_setCell _ _ _ _ hne).trans ((Below.heap_setCell _ _ _ _ hne).trans ((Below.heap_setCell _ _ _ _ hne).trans (Below.heap_setCell _ _ _ _ hne)))
theorem At4.same {w w' : World} {b l l2 : Nat} {h h2 : ByteArray} (H : At4 w b l h l2 h2) (e : w'.heap[b]? = w.heap[b]?) : At4 w' b l h l2 h2 :=
  ⟨⟨(World.cell?_of_block (a := ⟨b, 0, none⟩) e).trans H.1.1, (World.cell?_of_block (a := ⟨b, 1, none⟩) e).trans H.1.2.1, (World.cell?_of_block (a := ⟨b, 2, none⟩) e).trans H.1.2.2.1, (World.cell?_of_block (a := ⟨b, 3, none⟩) e).trans H.1.2.2.2⟩,
   ⟨(World.frozen?_of_block (a := ⟨b, 0, none⟩) e).trans H.2.1, (World.frozen?_of_block (a := ⟨b, 1, none⟩) e).trans H.2.2.1, (World.frozen?_of_block (a := ⟨b, 2, none⟩) e).trans H.2.2.2.1, (World.frozen?_of_block (a := ⟨b, 3, none⟩) e).trans H.2.2.2.2⟩⟩
theorem At4.set4 {w : World} {b l l2 : Nat} {h h2 : ByteArray} (H : At4 w b l h l2 h2) {r : Nat} (hne : b ≠ r) (x y z u : Value) : At4 ((((w.setCell ⟨r, 0, none⟩ x).setCell ⟨r, 1, none⟩ y).setCell ⟨r, 2, none⟩ z).setCell ⟨r, 3, none⟩ u) b l h l2 h2 := H.same (set4_heap hne x y z u)
theorem At4.setOff {w : World} {b l l2 : Nat} {h h2 : ByteArray} (H : At4 w b l h l2 h2) {r : Nat} (hne : b ≠ r) (x y z u : Value) : At4 ((((w.setCell ⟨r, 0, none⟩ x).setCell ⟨r, 1, none⟩ y).setCell ⟨r, 2, none⟩ z).setCell ⟨r, 3, none⟩ u) b l h l2 h2 := H.set4 hne x y z u
theorem At4.offOf {w : World} {b b' l l2 l' l2' : Nat} {h h2 h' h2' : ByteArray} (H : At4 w b l h l2 h2) (_ : At4 w b' l' h' l2' h2') (hne : b ≠ b') (x y z u : Value) : At4 ((((w.setCell ⟨b', 0, none⟩ x).setCell ⟨b', 1, none⟩ y).setCell ⟨b', 2, none⟩ z).setCell ⟨b', 3, none⟩ u) b l h l2 h2 := H.set4 hne x y z u
theorem AtV.set4 {w : World} {b r : Nat} {x y : ByteArray} (H : AtV w b x y) (hne : b ≠ r) (p q s t : Value) : AtV ((((w.setCell ⟨r, 0, none⟩ p).setCell ⟨r, 1, none⟩ q).setCell ⟨r, 2, none⟩ s).setCell ⟨r, 3, none⟩ t) b x y := ⟨set4_other H.1 hne p q s t, set4_other H.2 hne p q s t⟩
theorem AtV.lt {w : World} {b : Nat} {x y : ByteArray} (H : AtV w b x y) : b < w.heap.size := World.block_lt_of_cell? w _ H.1
theorem At2.set4 {w : World} {b l : Nat} {h : ByteArray} (H : At2 w b l h) {r : Nat} (hne : b ≠ r) (x y z u : Value) : At2 ((((w.setCell ⟨r, 0, none⟩ x).setCell ⟨r, 1, none⟩ y).setCell ⟨r, 2, none⟩ z).setCell ⟨r, 3, none⟩ u) b l h :=
  ⟨set4_other H.1 hne x y z u, set4_other H.2.1 hne x y z u, (World.frozen?_of_block (a := ⟨b, 0, none⟩) (set4_heap hne x y z u)).trans H.2.2.1, (World.frozen?_of_block (a := ⟨b, 1, none⟩) (set4_heap hne x y z u)).trans H.2.2.2⟩
theorem At4.set2 {w : World} {b l l2 : Nat} {h h2 : ByteArray} (H : At4 w b l h l2 h2) {r : Nat} (hne : b ≠ r) (x y : Value) : At4 ((w.setCell ⟨r, 0, none⟩ x).setCell ⟨r, 1, none⟩ y) b l h l2 h2 := H.same ((Below.heap_setCell _ _ _ _ hne).trans (Below.heap_setCell _ _ _ _ hne))
/-- New blocks that hold the quotient 0. -/
def Zq (W : World) (l : List Nat) : Prop := ∀ p ∈ l, At4 W p 0 ⟨#[]⟩ 0 ⟨#[]⟩
theorem Zq.nil (W : World) : Zq W [] := fun _ h => by cases h
theorem Zq.next {W w' : World} {l : List Nat} (h : Zq W l) (hb : Below W.heap.size W w') : Zq w' l := fun p hp => (h p hp).grows hb
theorem Zq.h1 {W : World} {p : Nat} {l : List Nat} (h : Zq W (p :: l)) : At4 W p 0 ⟨#[]⟩ 0 ⟨#[]⟩ := h p (.head _)
theorem Zq.h2 {W : World} {p q : Nat} {l : List Nat} (h : Zq W (q :: p :: l)) : At4 W p 0 ⟨#[]⟩ 0 ⟨#[]⟩ := h p (.tail _ (.head _))
theorem Zq.drew {W : World} {l : List Nat} (h : Zq W l) : Zq W.drew l := fun p hp => (h p hp).drew
theorem Zq.box {W : World} {l : List Nat} (h : Zq W l) : Zq (W.alloc (.cells #[.int .u64 0, .string ⟨#[]⟩, .int .u64 0, .string ⟨#[]⟩] 27)) (W.heap.size :: l) := by
  intro p hp
  rcases List.mem_cons.1 hp with rfl | hp
  · exact At4.new W _ 0 _ 0 _ rfl
  · exact (h p hp).alloc _
end Go.Proofs.YtflcdpolfimggaaGreatDoor
namespace Go.Proofs.YtflcdpolfimggaaGreatDoor
open Go.RowKit Q SD

theorem blx {W X w' : World} (h : Below W.heap.size W X) (hb : Below X.heap.size X w') : Below W.heap.size W w' := below_trans h hb h.size
theorem nd_kw {k n : Nat} (h : n < M.B ^ k) : Lib.nDigits n ≤ 20 * k + 1 := D.nDigits_words k n h
theorem nd_mul {a b : Nat} {k : Nat} (ha : Lib.nDigits a ≤ k) (hb : Lib.nDigits b ≤ k) : Lib.nDigits (a * b) ≤ 2 * k + 1 := by
  have h1 := Lib.lt_pow_nDigits a
  have h2 := Lib.lt_pow_nDigits b
  have h3 : (10 : Nat) ^ Lib.nDigits a ≤ 10 ^ k := Nat.pow_le_pow_right (by omega) ha
  have h4 : (10 : Nat) ^ Lib.nDigits b ≤ 10 ^ k := Nat.pow_le_pow_right (by omega) hb
  refine D.nDigits_le (2 * k) _ ?_
  have h5 : a * b < 10 ^ k * 10 ^ k := Nat.mul_lt_mul_of_lt_of_le (by omega) (by omega) (Nat.pow_pos (by omega))
  rw [← Nat.pow_add] at h5
  exact Nat.lt_of_lt_of_le h5 (Nat.pow_le_pow_right (by omega) (by omega))
theorem nd_add {a b : Nat} {k : Nat} (ha : Lib.nDigits a ≤ k) (hb : Lib.nDigits b ≤ k) : Lib.nDigits (a + b) ≤ k + 2 := by
  have h1 := Lib.lt_pow_nDigits a
  have h2 := Lib.lt_pow_nDigits b
  have h3 : (10 : Nat) ^ Lib.nDigits a ≤ 10 ^ k := Nat.pow_le_pow_right (by omega) ha
  have h4 : (10 : Nat) ^ Lib.nDigits b ≤ 10 ^ k := Nat.pow_le_pow_right (by omega) hb
  refine D.nDigits_le (k + 1) _ ?_
  rw [Nat.pow_succ]
  omega
theorem nd_le {a b : Nat} {k : Nat} (h : a ≤ b) (hb : Lib.nDigits b ≤ k) : Lib.nDigits a ≤ k + 1 := by
  have h2 := Lib.lt_pow_nDigits b
  have h4 : (10 : Nat) ^ Lib.nDigits b ≤ 10 ^ k := Nat.pow_le_pow_right (by omega) hb
  exact D.nDigits_le k _ (by omega)

set_option maxRecDepth 100000 in
set_option maxHeartbeats 8000000 in
theorem over_g (p1 q1 p2 q2 : Nat) (n1 : Lib.nDigits p1 ≤ 20000) (n2 : Lib.nDigits q1 ≤ 20000) (n3 : Lib.nDigits p2 ≤ 20000) (n4 : Lib.nDigits q2 ≤ 20000) (W : World) :
    Calls Tryz.prog 44 #[sv p1 q1, sv p2 q2] W fun e w' => e = .returned (.tuple #[.string (ds (p1 * q2)), .string (ds (p2 * q1)), .string (ds (q1 * q2))]) ∧ Below W.heap.size W w' := by
  have M1 := mkHid (fun W => smul_any p1 q2 W (by omega) (by omega))
  have M2 := mkHid (fun W => smul_any p2 q1 W (by omega) (by omega))
  have M3 := mkHid (fun W => smul_any q1 q2 W (by omega) (by omega))
  unfold sv at *
  clear n1 n2 n3 n4
  generalize ds (p1 * q2) = r1 at *
  generalize ds (p2 * q1) = r2 at *
  generalize ds (q1 * q2) = r3 at *
  generalize ds p1 = a at *
  generalize ds q1 = b at *
  generalize ds p2 = c at *
  generalize ds q2 = d at *
  have hs0 := (((Below.refl W.heap.size W).alloc (Nat.le_refl _) (.cells #[.string a, .string b] 32)).alloc (by simp) (.cells #[.string c, .string d] 32))
  have H0 := (AtS.new W W.heap.size a b rfl).alloc (.cells #[.string c, .string d] 32)
  have H1 := AtS.new (W.alloc (.cells #[.string a, .string b] 32)) (W.heap.size + 1) c d (by simp)
  obtain ⟨a0, a1, -, -⟩ := H0
  obtain ⟨c0, c1, -, -⟩ := H1
  go_enter Tryz.func44, Tryz.ntmps44
  go_upto_region 1 with (fail)
  go_region_held3 (fun X => Below W.heap.size W X ∧ X.cell? ⟨W.heap.size, 0, none⟩ = some (.string a) ∧ X.cell? ⟨W.heap.size, 1, none⟩ = some (.string b) ∧ X.cell? ⟨W.heap.size + 1, 0, none⟩ = some (.string c) ∧ X.cell? ⟨W.heap.size + 1, 1, none⟩ = some (.string d))
    (first
      | (with_reducible exact ⟨blx hS.1 hb, St.cell hb hS.2.1, St.cell hb hS.2.2.1, St.cell hb hS.2.2.2.1, St.cell hb hS.2.2.2.2⟩)
      | exact ⟨hs0.drew, a0, a1, c0, c1⟩)
    (first
      | (go_at_call 52; (with_reducible refine (M1.out _).mono ?_); rintro e w6 ⟨rfl, hb⟩; have hS : Below W.heap.size W _ ∧ _ := (by assumption))
      | (go_at_call 52; (with_reducible refine (M2.out _).mono ?_); rintro e w6 ⟨rfl, hb⟩; have hS : Below W.heap.size W _ ∧ _ := (by assumption))
      | (go_at_call 52; (with_reducible refine (M3.out _).mono ?_); rintro e w6 ⟨rfl, hb⟩; have hS : Below W.heap.size W _ ∧ _ := (by assumption)))
  have hT : Below W.heap.size W _ ∧ _ := (by assumption)
  have HT := mkHid hT.1
  clear hT
  go_wp2_with fail
  go_ret3
  exact ⟨rfl, HT.out⟩

set_option maxRecDepth 100000 in
set_option maxHeartbeats 8000000 in
theorem sadd2 (p1 q1 p2 q2 : Nat) (n1 : Lib.nDigits p1 ≤ 5000) (n2 : Lib.nDigits q1 ≤ 5000) (n3 : Lib.nDigits p2 ≤ 5000) (n4 : Lib.nDigits q2 ≤ 5000) (hp : 0 < q1 * q2) (W : World) :
    Calls Tryz.prog 17 #[sv p1 q1, sv p2 q2] W fun e w' => e = .returned (sv (rn (p1 * q2 + p2 * q1) (q1 * q2)) (rd (p1 * q2 + p2 * q1) (q1 * q2))) ∧ Below W.heap.size W w' := by
  have b1 := nd_mul n1 n4
  have b2 := nd_mul n3 n2
  have b3 := nd_mul n2 n4
  have b4 := nd_add b1 b2
  have CO := mkHid (fun W => over_g p1 q1 p2 q2 (by omega) (by omega) (by omega) (by omega) W)
  have CA := mkHid (fun W => sadd_any (p1 * q2) (p2 * q1) W (by omega) (by omega))
  have CN := mkHid (fun W => snew_pos (p1 * q2 + p2 * q1) (q1 * q2) W hp (by omega) (by omega))
  unfold sv at *
  clear n1 n2 n3 n4 hp b1 b2 b3 b4
  generalize ds (rn (p1 * q2 + p2 * q1) (q1 * q2)) = s at *
  generalize ds (rd (p1 * q2 + p2 * q1) (q1 * q2)) = t at *
  generalize ds (p1 * q2 + p2 * q1) = v at *
  generalize ds (p1 * q2) = x at *
  generalize ds (p2 * q1) = y at *
  generalize ds (q1 * q2) = z at *
  generalize ds p1 = a at *
  generalize ds q1 = b at *
  generalize ds p2 = c at *
  generalize ds q2 = d at *
  have HB := mkHid (((Below.refl W.heap.size W).alloc (Nat.le_refl _) (.cells #[.string a, .string b] 32)).alloc (by simp) (.cells #[.string c, .string d] 32))
  have HR := mkHid (AtS.new ((W.alloc (.cells #[.string a, .string b] 32)).alloc (.cells #[.string c, .string d] 32)) (W.heap.size + 1 + 1) ⟨#[]⟩ ⟨#[]⟩ (by simp))
  replace HB := mkHid (HB.out.alloc (by simp; omega) (.cells #[.string ⟨#[]⟩, .string ⟨#[]⟩] 32))
  go_enter Tryz.func17, Tryz.ntmps17
  go_wp2_with (first
    | (go_at_call 44; (with_reducible refine (CO.out _).mono ?_); rintro e w6 ⟨rfl, hb⟩; have HB := mkHid (blx HB.out hb); have HR := mkHid (HR.out.grows hb); clear hb; obtain ⟨r0, r1, f0, f1⟩ := HR.out)
    | (go_at_call 49; (with_reducible refine (CA.out _).mono ?_); rintro e w6 ⟨rfl, hb⟩; have HB := mkHid (blx HB.out hb); have HR := mkHid (HR.out.grows hb); clear hb; obtain ⟨r0, r1, f0, f1⟩ := HR.out)
    | (go_at_call 34; (with_reducible refine (CN.out _).mono ?_); rintro e w6 ⟨rfl, hb⟩; have HB := mkHid (blx HB.out hb); have HR := mkHid (HR.out.grows hb); have HB := mkHid (HB.out.alloc HB.out.size (.cells #[.string s, .string t] 32)); have HR := mkHid (HR.out.alloc (.cells #[.string s, .string t] 32)); clear hb; obtain ⟨r0, r1, f0, f1⟩ := HR.out))
  refine bodyPost_ret (v := .agg #[.string s, .string t]) (by simp [results, Tryz.results17, go_sem, r0, r1]) rfl ⟨rfl, ?_⟩
  exact setCells_belowB HB.out (W.heap.size + 1 + 1) (by omega) _ _

set_option maxRecDepth 100000 in
set_option maxHeartbeats 8000000 in
theorem ssub2_ok (p1 q1 p2 q2 : Nat) (n1 : Lib.nDigits p1 ≤ 5000) (n2 : Lib.nDigits q1 ≤ 5000) (n3 : Lib.nDigits p2 ≤ 5000) (n4 : Lib.nDigits q2 ≤ 5000) (hp : 0 < q1 * q2) (hle : p2 * q1 ≤ p1 * q2) (W : World) :
    Calls Tryz.prog 14 #[sv p1 q1, sv p2 q2] W fun e w' => e = .returned (.tuple #[sv (rn (p1 * q2 - p2 * q1) (q1 * q2)) (rd (p1 * q2 - p2 * q1) (q1 * q2)), .bool true]) ∧ Below W.heap.size W w' := by
  have b1 := nd_mul n1 n4
  have b2 := nd_mul n3 n2
  have b3 := nd_mul n2 n4
  have b4 := nd_add b1 b2
  have b5 := nd_le (Nat.sub_le (p1 * q2) (p2 * q1)) b1
  have CO := mkHid (fun W => over_g p1 q1 p2 q2 (by omega) (by omega) (by omega) (by omega) W)
  have CA := mkHid (fun W => ssub_ge (p1 * q2) (p2 * q1) W (by omega) hle)
  have CN := mkHid (fun W => snew_pos (p1 * q2 - p2 * q1) (q1 * q2) W hp (by omega) (by omega))
  unfold sv at *
  clear n1 n2 n3 n4 hp hle b1 b2 b3 b4 b5
  generalize ds (rn (p1 * q2 - p2 * q1) (q1 * q2)) = s at *
  generalize ds (rd (p1 * q2 - p2 * q1) (q1 * q2)) = t at *
  generalize ds (p1 * q2 - p2 * q1) = v at *
  generalize ds (p1 * q2) = x at *
  generalize ds (p2 * q1) = y at *
  generalize ds (q1 * q2) = z at *
  generalize ds p1 = a at *
  generalize ds q1 = b at *
  generalize ds p2 = c at *
  generalize ds q2 = d at *
  have HB := mkHid (((Below.refl W.heap.size W).alloc (Nat.le_refl _) (.cells #[.string a, .string b] 32)).alloc (by simp) (.cells #[.string c, .string d] 32))
  have HR := mkHid (AtS.new ((W.alloc (.cells #[.string a, .string b] 32)).alloc (.cells #[.string c, .string d] 32)) (W.heap.size + 1 + 1) ⟨#[]⟩ ⟨#[]⟩ (by simp))
  replace HB := mkHid (HB.out.alloc (by simp; omega) (.cells #[.string ⟨#[]⟩, .string ⟨#[]⟩] 32))
  go_enter Tryz.func14, Tryz.ntmps14
  go_wp2_with (first
    | (go_at_call 44; (with_reducible refine (CO.out _).mono ?_); rintro e w6 ⟨rfl, hb⟩; have HB := mkHid (blx HB.out hb); have HR := mkHid (HR.out.grows hb); clear hb; obtain ⟨r0, r1, f0, f1⟩ := HR.out)
    | (go_at_call 45; (with_reducible refine (CA.out _).mono ?_); rintro e w6 ⟨rfl, hb⟩; have HB := mkHid (blx HB.out hb); have HR := mkHid (HR.out.grows hb); clear hb; obtain ⟨r0, r1, f0, f1⟩ := HR.out)
    | (go_at_call 34; (with_reducible refine (CN.out _).mono ?_); rintro e w6 ⟨rfl, hb⟩; have HB := mkHid (blx HB.out hb); have HR := mkHid (HR.out.grows hb); clear hb; obtain ⟨r0, r1, f0, f1⟩ := HR.out))
  refine bodyPost_ret (v := .tuple #[.agg #[.string s, .string t], .bool true]) (by simp [results, Tryz.results14, go_sem, r0, r1]) rfl ⟨rfl, ?_⟩
  exact setCells_belowB HB.out (W.heap.size + 1 + 1) (by omega) _ _

set_option maxRecDepth 100000 in
set_option maxHeartbeats 8000000 in
theorem ssub2_no (p1 q1 p2 q2 : Nat) (n1 : Lib.nDigits p1 ≤ 5000) (n2 : Lib.nDigits q1 ≤ 5000) (n3 : Lib.nDigits p2 ≤ 5000) (n4 : Lib.nDigits q2 ≤ 5000) (hlt : p1 * q2 < p2 * q1) (W : World) :
    Calls Tryz.prog 14 #[sv p1 q1, sv p2 q2] W fun e w' => e = .returned (.tuple #[sv 0 1, .bool false]) ∧ Below W.heap.size W w' := by
  have CO := mkHid (fun W => over_g p1 q1 p2 q2 (by omega) (by omega) (by omega) (by omega) W)
  have CA := mkHid (fun W => ssub_lt (p1 * q2) (p2 * q1) W hlt)
  have CZ := mkHid szero
  unfold sv at *
  clear n1 n2 n3 n4 hlt
  generalize ds (p1 * q2) = x at *
  generalize ds (p2 * q1) = y at *
  generalize ds (q1 * q2) = z at *
  generalize ds 0 = s at *
  generalize ds 1 = t at *
  generalize ds p1 = a at *
  generalize ds q1 = b at *
  generalize ds p2 = c at *
  generalize ds q2 = d at *
  have HB := mkHid (((Below.refl W.heap.size W).alloc (Nat.le_refl _) (.cells #[.string a, .string b] 32)).alloc (by simp) (.cells #[.string c, .string d] 32))
  have HR := mkHid (AtS.new ((W.alloc (.cells #[.string a, .string b] 32)).alloc (.cells #[.string c, .string d] 32)) (W.heap.size + 1 + 1) ⟨#[]⟩ ⟨#[]⟩ (by simp))
  replace HB := mkHid (HB.out.alloc (by simp; omega) (.cells #[.string ⟨#[]⟩, .string ⟨#[]⟩] 32))
  go_enter Tryz.func14, Tryz.ntmps14
  go_wp2_with (first
    | (go_at_call 44; (with_reducible refine (CO.out _).mono ?_); rintro e w6 ⟨rfl, hb⟩; have HB := mkHid (blx HB.out hb); have HR := mkHid (HR.out.grows hb); clear hb; obtain ⟨r0, r1, f0, f1⟩ := HR.out)
    | (go_at_call 45; (with_reducible refine (CA.out _).mono ?_); rintro e w6 ⟨rfl, hb⟩; have HB := mkHid (blx HB.out hb); have HR := mkHid (HR.out.grows hb); clear hb; obtain ⟨r0, r1, f0, f1⟩ := HR.out)
    | (go_at_call 24; (with_reducible refine (CZ.out _).mono ?_); rintro e w6 ⟨rfl, hb⟩; have HB := mkHid (blx HB.out hb); have HR := mkHid (HR.out.grows hb); clear hb; obtain ⟨r0, r1, f0, f1⟩ := HR.out))
  refine bodyPost_ret (v := .tuple #[.agg #[.string s, .string t], .bool false]) (by simp [results, Tryz.results14, go_sem, r0, r1]) rfl ⟨rfl, ?_⟩
  exact setCells_belowB HB.out (W.heap.size + 1 + 1) (by omega) _ _

set_option maxRecDepth 100000 in
set_option maxHeartbeats 8000000 in
theorem scmp2 (p1 q1 p2 q2 : Nat) (n1 : Lib.nDigits p1 ≤ 5000) (n2 : Lib.nDigits q1 ≤ 5000) (n3 : Lib.nDigits p2 ≤ 5000) (n4 : Lib.nDigits q2 ≤ 5000)  (W : World) :
    Calls Tryz.prog 19 #[sv p1 q1, sv p2 q2] W fun e w' => e = .returned (.int .i64 (Lib.compareInt ((p1 * q2 : Nat) : Int) ((p2 * q1 : Nat) : Int))) ∧ Below W.heap.size W w' := by
  have CO := mkHid (fun W => over_g p1 q1 p2 q2 (by omega) (by omega) (by omega) (by omega) W)
  have CA := mkHid (fun W => rcmp_any (p1 * q2) (p2 * q1) W)
  unfold sv at *
  clear n1 n2 n3 n4
  generalize Lib.compareInt ((p1 * q2 : Nat) : Int) ((p2 * q1 : Nat) : Int) = cv at *
  generalize ds (p1 * q2) = x at *
  generalize ds (p2 * q1) = y at *
  generalize ds (q1 * q2) = z at *
  generalize ds p1 = a at *
  generalize ds q1 = b at *
  generalize ds p2 = c at *
  generalize ds q2 = d at *
  have HB := mkHid (((Below.refl W.heap.size W).alloc (Nat.le_refl _) (.cells #[.string a, .string b] 32)).alloc (by simp) (.cells #[.string c, .string d] 32))
  go_enter Tryz.func19, Tryz.ntmps19
  go_wp2_with (first
    | (go_at_call 44; (with_reducible refine (CO.out _).mono ?_); rintro e w6 ⟨rfl, hb⟩; have HB := mkHid (blx HB.out hb); clear hb)
    | (go_at_call 51; (with_reducible refine (CA.out _).mono ?_); rintro e w6 ⟨rfl, h2⟩; obtain rfl := h2.symm; clear h2))
  go_ret
  exact ⟨rfl, HB.out⟩

theorem AtS.same {w w' : World} {b : Nat} {x y : ByteArray} (H : AtS w b x y) (e : w'.heap[b]? = w.heap[b]?) : AtS w' b x y :=
  ⟨(World.cell?_of_block (a := ⟨b, 0, none⟩) e).trans H.1, (World.cell?_of_block (a := ⟨b, 1, none⟩) e).trans H.2.1, (World.frozen?_of_block (a := ⟨b, 0, none⟩) e).trans H.2.2.1, (World.frozen?_of_block (a := ⟨b, 1, none⟩) e).trans H.2.2.2⟩
theorem AtS.set2 {w : World} {b : Nat} {x y : ByteArray} (H : AtS w b x y) {p : Nat} (hne : b ≠ p) (u v : Value) : AtS ((w.setCell ⟨p, 0, none⟩ u).setCell ⟨p, 1, none⟩ v) b x y :=
  H.same ((Below.heap_setCell _ _ _ _ hne).trans (Below.heap_setCell _ _ _ _ hne))
theorem AtS.set {w : World} {b : Nat} {x y : ByteArray} (H : AtS w b x y) (u v : ByteArray) : AtS ((w.setCell ⟨b, 0, none⟩ (.string u)).setCell ⟨b, 1, none⟩ (.string v)) b u v := by
  obtain ⟨h0, h1, f0, f1⟩ := H
  have hc : ∃ c e fr, w.heap[b]? = some (.cells c e fr) := by
    unfold World.cell? at h0
    split at h0
    · rename_i c e fr hb; exact ⟨c, e, fr, hb⟩
    · simp at h0
  obtain ⟨c, e, fr, hb⟩ := hc
  have hb' : ((w.setCell ⟨b, 0, none⟩ (.string u)).setCell ⟨b, 1, none⟩ (.string v)).heap[b]? = some (.cells ((c.setIfInBounds 0 (.string u)).setIfInBounds 1 (.string v)) e fr) := by
    simp [World.setCell, Array.getElem?_modify, hb]
  simp only [AtS, World.cell?, World.frozen?, hb, hb', Option.isSome_none, Bool.false_eq_true, if_false] at h0 h1 f0 f1 ⊢
  have l0 := (Array.getElem?_eq_some_iff.1 h0).1
  have l1 := (Array.getElem?_eq_some_iff.1 h1).1
  refine ⟨?_, ?_, f0, f1⟩ <;> simp [l0, l1]
theorem BelowS.alloc {W X : World} (h : Below W.heap.size W X) (o : Obj) : Below W.heap.size W (X.alloc o) := h.alloc h.size o

set_option maxRecDepth 100000 in
set_option maxHeartbeats 16000000 in
theorem smul2 (p1 q1 p2 q2 : Nat) (n1 : Lib.nDigits p1 ≤ 5000) (n2 : Lib.nDigits q1 ≤ 5000) (n3 : Lib.nDigits p2 ≤ 5000) (n4 : Lib.nDigits q2 ≤ 5000) (hp : 0 < q1 * q2) (W : World) :
    Calls Tryz.prog 23 #[sv p1 q1, sv p2 q2] W fun e w' => e = .returned (sv (rn (p1 * p2) (q1 * q2)) (rd (p1 * p2) (q1 * q2))) ∧ Below W.heap.size W w' := by
  have b1 := nd_mul n1 n3
  have b2 := nd_mul n2 n4
  have M1 := mkHid (fun W => smul_any p1 p2 W (by omega) (by omega))
  have M2 := mkHid (fun W => smul_any q1 q2 W (by omega) (by omega))
  have CN := mkHid (fun W => snew_pos (p1 * p2) (q1 * q2) W hp (by omega) (by omega))
  unfold sv at *
  clear n1 n2 n3 n4 hp b1 b2
  generalize ds (rn (p1 * p2) (q1 * q2)) = s at *
  generalize ds (rd (p1 * p2) (q1 * q2)) = t at *
  generalize ds (p1 * p2) = x at *
  generalize ds (q1 * q2) = y at *
  generalize ds p1 = a at *
  generalize ds q1 = b at *
  generalize ds p2 = c at *
  generalize ds q2 = d at *
  have hsn := (((Below.refl W.heap.size W).alloc (Nat.le_refl _) (.cells #[.string a, .string b] 32)).alloc (by simp) (.cells #[.string c, .string d] 32)).alloc (by simp; omega) (.cells #[.string ⟨#[]⟩, .string ⟨#[]⟩] 32)
  have H0 := ((AtS.new W W.heap.size a b rfl).alloc (.cells #[.string c, .string d] 32)).alloc (.cells #[.string ⟨#[]⟩, .string ⟨#[]⟩] 32)
  have H1 := (AtS.new (W.alloc (.cells #[.string a, .string b] 32)) (W.heap.size + 1) c d (by simp)).alloc (.cells #[.string ⟨#[]⟩, .string ⟨#[]⟩] 32)
  have x2 := AtS.new ((W.alloc (.cells #[.string a, .string b] 32)).alloc (.cells #[.string c, .string d] 32)) (W.heap.size + 1 + 1) ⟨#[]⟩ ⟨#[]⟩ (by simp)
  obtain ⟨a0, a1, -, -⟩ := H0
  obtain ⟨c0, c1, -, -⟩ := H1
  have hz6 : W.heap.size + 3 ≤ (((W.alloc (.cells #[.string a, .string b] 32)).alloc (.cells #[.string c, .string d] 32)).alloc (.cells #[.string ⟨#[]⟩, .string ⟨#[]⟩] 32)).heap.size := by simp
  go_enter Tryz.func23, Tryz.ntmps23
  go_upto_region 1 with (fail)
  generalize ((W.alloc (.cells #[.string a, .string b] 32)).alloc (.cells #[.string c, .string d] 32)).alloc (.cells #[.string ⟨#[]⟩, .string ⟨#[]⟩] 32) = w6 at *
  go_cut [5, 6] (fun v v' wx => ∃ j : Nat, v = .pointer (some ⟨j, 0, none⟩) ∧ v' = .bool true ∧ W.heap.size + 3 ≤ j ∧ Hid (AtS wx j s t ∧ Below W.heap.size W wx ∧ AtS wx (W.heap.size + 1 + 1) ⟨#[]⟩ ⟨#[]⟩))
  case first =>
    go_region_held3 (fun X => Below W.heap.size W X ∧ X.cell? ⟨W.heap.size, 0, none⟩ = some (.string a) ∧ X.cell? ⟨W.heap.size, 1, none⟩ = some (.string b) ∧ X.cell? ⟨W.heap.size + 1, 0, none⟩ = some (.string c) ∧ X.cell? ⟨W.heap.size + 1, 1, none⟩ = some (.string d) ∧ AtS X (W.heap.size + 1 + 1) ⟨#[]⟩ ⟨#[]⟩)
      (first
        | (with_reducible exact ⟨blx hS.1 hb, St.cell hb hS.2.1, St.cell hb hS.2.2.1, St.cell hb hS.2.2.2.1, St.cell hb hS.2.2.2.2.1, hS.2.2.2.2.2.grows hb⟩)
        | (have hT : Below W.heap.size W _ ∧ _ := (by assumption); with_reducible exact ⟨BelowS.alloc (hT.1) _, cellAl (hT.2.1) _, cellAl (hT.2.2.1) _, cellAl (hT.2.2.2.1) _, cellAl (hT.2.2.2.2.1) _, (hT.2.2.2.2.2).alloc _⟩)
        | (with_reducible exact ⟨BelowS.alloc (blx hS.1 hb) _, cellAl (St.cell hb hS.2.1) _, cellAl (St.cell hb hS.2.2.1) _, cellAl (St.cell hb hS.2.2.2.1) _, cellAl (St.cell hb hS.2.2.2.2.1) _, (hS.2.2.2.2.2.grows hb).alloc _⟩)
        | (have hT : Below W.heap.size W _ ∧ _ := (by assumption); exact ⟨setCells_belowB (hT.1) _ (by omega) _ _, cellSet2 (hT.2.1) (by omega) _ _, cellSet2 (hT.2.2.1) (by omega) _ _, cellSet2 (hT.2.2.2.1) (by omega) _ _, cellSet2 (hT.2.2.2.2.1) (by omega) _ _, (hT.2.2.2.2.2).set2 (by omega) _ _⟩)
        | exact ⟨hsn.drew, a0, a1, c0, c1, x2.drew⟩
        | exact ⟨(BelowS.alloc hsn _).drew, cellAl a0 _, cellAl a1 _, cellAl c0 _, cellAl c1 _, (x2.alloc _).drew⟩)
      (first
        | (go_at_call 52; (with_reducible refine (M1.out _).mono ?_); rintro e w6 ⟨rfl, hb⟩; have hS : Below W.heap.size W _ ∧ _ := (by assumption); (first | (have hz := HZ.out.grows hb; (have HZ := mkHid hz); obtain ⟨z0, z1, z2, z3⟩ := hz) | (have hz := (AtS.new _ _ ⟨#[]⟩ ⟨#[]⟩ rfl).grows hb; (try simp only [World.size_alloc] at hz); (have HZ := mkHid hz); obtain ⟨z0, z1, z2, z3⟩ := hz) | (have hz := (AtS.new _ _ ⟨#[]⟩ ⟨#[]⟩ rfl).drew.grows hb; (try simp only [World.size_alloc] at hz); (have HZ := mkHid hz); obtain ⟨z0, z1, z2, z3⟩ := hz) | skip); have h9 := hb.size; (try simp at h9); have hz6 : W.heap.size + 3 ≤ w6.heap.size := (by have h8 := hz6; omega))
        | (go_at_call 52; (with_reducible refine (M2.out _).mono ?_); rintro e w6 ⟨rfl, hb⟩; have hS : Below W.heap.size W _ ∧ _ := (by assumption); (first | (have hz := HZ.out.grows hb; (have HZ := mkHid hz); obtain ⟨z0, z1, z2, z3⟩ := hz) | (have hz := (AtS.new _ _ ⟨#[]⟩ ⟨#[]⟩ rfl).grows hb; (try simp only [World.size_alloc] at hz); (have HZ := mkHid hz); obtain ⟨z0, z1, z2, z3⟩ := hz) | (have hz := (AtS.new _ _ ⟨#[]⟩ ⟨#[]⟩ rfl).drew.grows hb; (try simp only [World.size_alloc] at hz); (have HZ := mkHid hz); obtain ⟨z0, z1, z2, z3⟩ := hz) | skip); have h9 := hb.size; (try simp at h9); have hz6 : W.heap.size + 3 ≤ w6.heap.size := (by have h8 := hz6; omega))
        | (go_at_call 34; (with_reducible refine (CN.out _).mono ?_); rintro e w6 ⟨rfl, hb⟩; have hS : Below W.heap.size W _ ∧ _ := (by assumption); (first | (have hz := HZ.out.grows hb; (have HZ := mkHid hz); obtain ⟨z0, z1, z2, z3⟩ := hz) | (have hz := (AtS.new _ _ ⟨#[]⟩ ⟨#[]⟩ rfl).grows hb; (try simp only [World.size_alloc] at hz); (have HZ := mkHid hz); obtain ⟨z0, z1, z2, z3⟩ := hz) | (have hz := (AtS.new _ _ ⟨#[]⟩ ⟨#[]⟩ rfl).drew.grows hb; (try simp only [World.size_alloc] at hz); (have HZ := mkHid hz); obtain ⟨z0, z1, z2, z3⟩ := hz) | skip); have h9 := hb.size; (try simp at h9); have hz6 : W.heap.size + 3 ≤ w6.heap.size := (by have h8 := hz6; omega)))
    all_goals
      have hT : Below W.heap.size W _ ∧ _ := (by assumption)
      have HT := mkHid hT.1
      have HU := mkHid hT.2.2.2.2.2
      clear hT
      go_wp2_with fail
      go_meet
      refine ⟨_, rfl, rfl, (by first | omega | (simp; omega) | simp), mkHid ⟨?_, HT.out, HU.out⟩⟩
      first
        | (with_reducible exact AtS.new _ _ s t (by simp))
        | (with_reducible exact AtS.set HZ.out s t)
        | (with_reducible exact AtS.set (AtS.new _ _ ⟨#[]⟩ ⟨#[]⟩ rfl) s t)
  case rest =>
    obtain ⟨j, rfl, rfl, hj, H⟩ := hcut
    obtain ⟨⟨g0, g1, -, -⟩, hs, r0, r1, f0, f1⟩ := H.out
    have HSS := mkHid hs
    clear hs H
    go_wp2_with fail
    refine bodyPost_ret (v := .agg #[.string s, .string t]) (by simp [results, Tryz.results23, go_sem, r0, r1]) rfl ⟨rfl, ?_⟩
    exact setCells_belowB HSS.out (W.heap.size + 1 + 1) (by omega) _ _

set_option maxRecDepth 100000 in
set_option maxHeartbeats 4000000 in
theorem sdiv2_no (p1 q1 q2 : Nat) (W : World) :
    Calls Tryz.prog 21 #[sv p1 q1, sv 0 q2] W fun e w' => e = .returned (.tuple #[sv 0 1, .bool false]) ∧ Below W.heap.size W w' := by
  have CZ := mkHid szero
  unfold sv at *
  rw [ds_zero] at *
  generalize ds 1 = t at *
  generalize ds p1 = a at *
  generalize ds q1 = b at *
  generalize ds q2 = d at *
  have HB := mkHid (((Below.refl W.heap.size W).alloc (Nat.le_refl _) (.cells #[.string a, .string b] 32)).alloc (by simp) (.cells #[.string ⟨#[48]⟩, .string d] 32))
  have HR := mkHid (AtS.new ((W.alloc (.cells #[.string a, .string b] 32)).alloc (.cells #[.string ⟨#[48]⟩, .string d] 32)) (W.heap.size + 1 + 1) ⟨#[]⟩ ⟨#[]⟩ (by simp))
  replace HB := mkHid (HB.out.alloc (by simp; omega) (.cells #[.string ⟨#[]⟩, .string ⟨#[]⟩] 32))
  go_enter Tryz.func21, Tryz.ntmps21
  go_wp2_with (go_at_call 24; (with_reducible refine (CZ.out _).mono ?_); rintro e w6 ⟨rfl, hb⟩; have HB := mkHid (blx HB.out hb); have HR := mkHid (HR.out.grows hb); clear hb; obtain ⟨r0, r1, f0, f1⟩ := HR.out)
  refine bodyPost_ret (v := .tuple #[.agg #[.string ⟨#[48]⟩, .string t], .bool false]) (by simp [results, Tryz.results21, go_sem, r0, r1]) rfl ⟨rfl, ?_⟩
  exact setCells_belowB HB.out (W.heap.size + 1 + 1) (by omega) _ _

set_option maxRecDepth 100000 in
set_option maxHeartbeats 16000000 in
theorem sdiv2_ok (p1 q1 p2 q2 : Nat) (n1 : Lib.nDigits p1 ≤ 5000) (n2 : Lib.nDigits q1 ≤ 5000) (n3 : Lib.nDigits p2 ≤ 5000) (n4 : Lib.nDigits q2 ≤ 5000) (h0 : p2 ≠ 0) (hp : 0 < q1 * p2) (W : World) :
    Calls Tryz.prog 21 #[sv p1 q1, sv p2 q2] W fun e w' => e = .returned (.tuple #[sv (rn (p1 * q2) (q1 * p2)) (rd (p1 * q2) (q1 * p2)), .bool true]) ∧ Below W.heap.size W w' := by
  have b1 := nd_mul n1 n4
  have b2 := nd_mul n2 n3
  have M1 := mkHid (fun W => smul_any p1 q2 W (by omega) (by omega))
  have M2 := mkHid (fun W => smul_any q1 p2 W (by omega) (by omega))
  have CN := mkHid (fun W => snew_pos (p1 * q2) (q1 * p2) W hp (by omega) (by omega))
  have hne := ds_ne_zero h0
  unfold sv at *
  clear n1 n2 n3 n4 hp b1 b2 h0
  generalize ds (rn (p1 * q2) (q1 * p2)) = s at *
  generalize ds (rd (p1 * q2) (q1 * p2)) = t at *
  generalize ds (p1 * q2) = x at *
  generalize ds (q1 * p2) = y at *
  generalize ds p1 = a at *
  generalize ds q1 = b at *
  generalize ds p2 = c at *
  generalize ds q2 = d at *
  have hsn := (((Below.refl W.heap.size W).alloc (Nat.le_refl _) (.cells #[.string a, .string b] 32)).alloc (by simp) (.cells #[.string c, .string d] 32)).alloc (by simp; omega) (.cells #[.string ⟨#[]⟩, .string ⟨#[]⟩] 32)
  have H0 := ((AtS.new W W.heap.size a b rfl).alloc (.cells #[.string c, .string d] 32)).alloc (.cells #[.string ⟨#[]⟩, .string ⟨#[]⟩] 32)
  have H1 := (AtS.new (W.alloc (.cells #[.string a, .string b] 32)) (W.heap.size + 1) c d (by simp)).alloc (.cells #[.string ⟨#[]⟩, .string ⟨#[]⟩] 32)
  have x2 := Bxn.new ((W.alloc (.cells #[.string a, .string b] 32)).alloc (.cells #[.string c, .string d] 32)) (W.heap.size + 1 + 1) #[.string ⟨#[]⟩, .string ⟨#[]⟩] 32 (by simp)
  obtain ⟨a0, a1, -, -⟩ := H0
  obtain ⟨c0, c1, -, -⟩ := H1
  go_enter Tryz.func21, Tryz.ntmps21
  go_upto_region 3 with (fail)
  go_region_held3 (fun X => Below W.heap.size W X ∧ X.cell? ⟨W.heap.size, 0, none⟩ = some (.string a) ∧ X.cell? ⟨W.heap.size, 1, none⟩ = some (.string b) ∧ X.cell? ⟨W.heap.size + 1, 0, none⟩ = some (.string c) ∧ X.cell? ⟨W.heap.size + 1, 1, none⟩ = some (.string d) ∧ Bxn X (W.heap.size + 1 + 1) 2)
    (first
      | (with_reducible exact ⟨blx hS.1 hb, St.cell hb hS.2.1, St.cell hb hS.2.2.1, St.cell hb hS.2.2.2.1, St.cell hb hS.2.2.2.2.1, hS.2.2.2.2.2.grows hb⟩)
      | exact ⟨hsn.drew, a0, a1, c0, c1, x2.drew⟩
      | (have hP : Below W.heap.size W w6 ∧ _ := (by assumption); exact ⟨setCells_belowB (hP.1) _ (by omega) _ _, cellSet2 (hP.2.1) (by omega) _ _, cellSet2 (hP.2.2.1) (by omega) _ _, cellSet2 (hP.2.2.2.1) (by omega) _ _, cellSet2 (hP.2.2.2.2.1) (by omega) _ _, (hP.2.2.2.2.2).set2 _ _ _⟩))
    (first
      | (go_at_call 52; (with_reducible refine (M1.out _).mono ?_); rintro e w6 ⟨rfl, hb⟩; have hS : Below W.heap.size W _ ∧ _ := (by assumption))
      | (go_at_call 52; (with_reducible refine (M2.out _).mono ?_); rintro e w6 ⟨rfl, hb⟩; have hS : Below W.heap.size W _ ∧ _ := (by assumption))
      | (go_at_call 34; (with_reducible refine (CN.out _).mono ?_); rintro e w6 ⟨rfl, hb⟩; have hS : Below W.heap.size W _ ∧ _ := (by assumption); obtain ⟨v0, v1, ⟨r0, r1⟩, f0, f1⟩ := (hS.2.2.2.2.2.grows hb).facts2))
  have hT : Below W.heap.size W _ ∧ _ := (by assumption)
  have HT := mkHid hT.1
  clear hT
  go_wp2_with fail
  refine bodyPost_ret (v := .tuple #[.agg #[.string s, .string t], .bool true]) (by simp [results, Tryz.results21, go_sem, r0, r1]) rfl ⟨rfl, ?_⟩
  exact HT.out

set_option maxRecDepth 100000 in
set_option maxHeartbeats 4000000 in
theorem ref_zero (a b : ByteArray) (n : Nat) (h : Taken a b n 0) (W : World) :
    Calls Tryz.prog 15 #[.agg #[.string a, .string b]] W fun e w' => e = .returned (sv (rn n 1) (rd n 1)) ∧ Below W.heap.size W w' := by
  have DA := mkHid h.da
  have DB := h.db
  have CN := mkHid (fun W => snew_pos n 1 W (by omega) (Nat.le_trans h.nn (by omega)) (by rw [show Lib.nDigits 1 = 1 from Lib.nDigits_small (by omega)]; omega))

  unfold sv at *
  rw [ds_zero] at DB
  rw [ds_1] at *
  replace DB := mkHid DB
  clear h
  generalize ds (rn n 1) = s at *
  generalize ds (rd n 1) = t at *
  generalize ds n = x at *

  have HB := mkHid (((Below.refl W.heap.size W).alloc (Nat.le_refl _) (.cells #[.string a, .string b] 37)).alloc (by simp) (.cells #[.string ⟨#[]⟩, .string ⟨#[]⟩] 32))
  have HV := mkHid ((AtV.new W W.heap.size a b rfl).alloc (.cells #[.string ⟨#[]⟩, .string ⟨#[]⟩] 32))
  have HR := mkHid (AtS.new (W.alloc (.cells #[.string a, .string b] 37)) (W.heap.size + 1) ⟨#[]⟩ ⟨#[]⟩ (by simp))
  obtain ⟨i0, i1⟩ := HV.out
  go_enter Tryz.func15, Tryz.ntmps15
  go_wp2_with (first
    | (go_at_call 46; (with_reducible refine (DB.out _).mono ?_); rintro e w6 ⟨rfl, h2⟩; obtain rfl := h2.symm; clear h2)
    | (go_at_call 46; (with_reducible refine (DA.out _).mono ?_); rintro e w6 ⟨rfl, h2⟩; obtain rfl := h2.symm; clear h2)
    | (go_at_call 34; (with_reducible refine (CN.out _).mono ?_); rintro e w6 ⟨rfl, hb⟩; have HB := mkHid (blx HB.out hb); have HR := mkHid (HR.out.grows hb); have HB := mkHid (HB.out.alloc HB.out.size (.cells #[.string s, .string t] 32)); have HR := mkHid (HR.out.alloc (.cells #[.string s, .string t] 32)); clear hb; obtain ⟨r0, r1, f0, f1⟩ := HR.out))
  refine bodyPost_ret (v := .agg #[.string s, .string t]) (by simp [results, Tryz.results15, go_sem, r0, r1]) rfl ⟨rfl, ?_⟩
  exact setCells_belowB HB.out (W.heap.size + 1) (by omega) _ _

set_option maxRecDepth 100000 in
set_option maxHeartbeats 4000000 in
theorem ref_pos (a b : ByteArray) (n d : Nat) (h : Taken a b n d) (h0 : d ≠ 0) (W : World) :
    Calls Tryz.prog 15 #[.agg #[.string a, .string b]] W fun e w' => e = .returned (sv (rn n d) (rd n d)) ∧ Below W.heap.size W w' := by
  have DA := mkHid h.da
  have DB := h.db
  have CN := mkHid (fun W => snew_pos n d W (by omega) (Nat.le_trans h.nn (by omega)) (Nat.le_trans h.nd (by omega)))
  have hne := ds_ne_zero h0
  unfold sv at *
  
  
  replace DB := mkHid DB
  clear h h0
  generalize ds (rn n d) = s at *
  generalize ds (rd n d) = t at *
  generalize ds n = x at *
  generalize ds d = y at *
  have HB := mkHid (((Below.refl W.heap.size W).alloc (Nat.le_refl _) (.cells #[.string a, .string b] 37)).alloc (by simp) (.cells #[.string ⟨#[]⟩, .string ⟨#[]⟩] 32))
  have HV := mkHid ((AtV.new W W.heap.size a b rfl).alloc (.cells #[.string ⟨#[]⟩, .string ⟨#[]⟩] 32))
  have HR := mkHid (AtS.new (W.alloc (.cells #[.string a, .string b] 37)) (W.heap.size + 1) ⟨#[]⟩ ⟨#[]⟩ (by simp))
  obtain ⟨i0, i1⟩ := HV.out
  go_enter Tryz.func15, Tryz.ntmps15
  go_wp2_with (first
    | (go_at_call 46; (with_reducible refine (DB.out _).mono ?_); rintro e w6 ⟨rfl, h2⟩; obtain rfl := h2.symm; clear h2)
    | (go_at_call 46; (with_reducible refine (DA.out _).mono ?_); rintro e w6 ⟨rfl, h2⟩; obtain rfl := h2.symm; clear h2)
    | (go_at_call 34; (with_reducible refine (CN.out _).mono ?_); rintro e w6 ⟨rfl, hb⟩; have HB := mkHid (blx HB.out hb); have HR := mkHid (HR.out.grows hb); have HB := mkHid (HB.out.alloc HB.out.size (.cells #[.string s, .string t] 32)); have HR := mkHid (HR.out.alloc (.cells #[.string s, .string t] 32)); clear hb; obtain ⟨r0, r1, f0, f1⟩ := HR.out))
  refine bodyPost_ret (v := .agg #[.string s, .string t]) (by simp [results, Tryz.results15, go_sem, r0, r1]) rfl ⟨rfl, ?_⟩
  exact setCells_belowB HB.out (W.heap.size + 1) (by omega) _ _

theorem ref_g (a b : ByteArray) (n d : Nat) (h : Taken a b n d) (W : World) :
    Calls Tryz.prog 15 #[.agg #[.string a, .string b]] W fun e w' => e = .returned (sv (rn n (pos1 d)) (rd n (pos1 d))) ∧ Below W.heap.size W w' := by
  by_cases h0 : d = 0
  · subst h0; exact ref_zero a b n h W
  · have := ref_pos a b n d h h0 W
    unfold pos1; rw [if_neg h0]; exact this
end Go.Proofs.YtflcdpolfimggaaGreatDoor
namespace Go.Proofs.YtflcdpolfimggaaGreatDoor
open Go.RowKit Q SD

theorem At2.set2 {w : World} {b l : Nat} {h : ByteArray} (H : At2 w b l h) {r : Nat} (hne : b ≠ r) (x y : Value) : At2 ((w.setCell ⟨r, 0, none⟩ x).setCell ⟨r, 1, none⟩ y) b l h := H.setOff hne x y
theorem AtS.set4 {w : World} {b : Nat} {x y : ByteArray} (H : AtS w b x y) {r : Nat} (hne : b ≠ r) (p q s t : Value) : AtS ((((w.setCell ⟨r, 0, none⟩ p).setCell ⟨r, 1, none⟩ q).setCell ⟨r, 2, none⟩ s).setCell ⟨r, 3, none⟩ t) b x y := H.same (set4_heap hne p q s t)
/-- New pairs of the specification that hold nothing. -/
def Zt (W : World) (l : List Nat) : Prop := ∀ p ∈ l, AtS W p ⟨#[]⟩ ⟨#[]⟩
theorem Zt.nil (W : World) : Zt W [] := fun _ h => by cases h
theorem Zt.next {W w' : World} {l : List Nat} (h : Zt W l) (hb : Below W.heap.size W w') : Zt w' l := fun p hp => (h p hp).grows hb
theorem Zt.h1 {W : World} {p : Nat} {l : List Nat} (h : Zt W (p :: l)) : AtS W p ⟨#[]⟩ ⟨#[]⟩ := h p (.head _)
theorem Zt.h2 {W : World} {p q : Nat} {l : List Nat} (h : Zt W (q :: p :: l)) : AtS W p ⟨#[]⟩ ⟨#[]⟩ := h p (.tail _ (.head _))
theorem Zt.drew {W : World} {l : List Nat} (h : Zt W l) : Zt W.drew l := fun p hp => (h p hp).drew
theorem Zt.box {W : World} {l : List Nat} (h : Zt W l) : Zt (W.alloc (.cells #[.string ⟨#[]⟩, .string ⟨#[]⟩] 32)) (W.heap.size :: l) := by
  intro p hp
  rcases List.mem_cons.1 hp with rfl | hp
  · exact AtS.new W _ _ _ rfl
  · exact (h p hp).alloc _
/-- A contract that asks nothing of the world. -/
abbrev Says (F : FuncId) (args : Array Value) (v : Value) : Prop := ∀ W, Calls Tryz.prog F args W fun e w' => e = .returned v ∧ Below W.heap.size W w'
theorem same_low (n d : Nat) (hd : 0 < d) (hn : Sm n) (hs : Sm d) : Gives 11 #[rv (rn n d) (rd n d), sv (rn n d) (rd n d)] (.bool true) :=
  same_g _ _ (sm_le (Nat.div_le_self _ _) hn) (sm_le (Nat.div_le_self _ _) hs) (low n d hd).1
end Go.Proofs.YtflcdpolfimggaaGreatDoor
