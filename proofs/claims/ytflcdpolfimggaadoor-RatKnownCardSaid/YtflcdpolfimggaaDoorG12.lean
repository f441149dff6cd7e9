/- Contracts, laid one behind the other: QW QX QRd. -/
import Derived.Test.YtflcdpolfimggaaDoorG10
import Derived.Lib.CutLaws
namespace Go.Proofs.YtflcdpolfimggaaDoor
open Go.RowKit Q SD

/-- Where the first slash stands, or none. -/
theorem index_cases (s : ByteArray) : (Lib.indexByte s.data.toList 47 = -1 ∧ ∀ c ∈ s.data.toList, c ≠ 47) ∨ ∃ i : Nat, Lib.indexByte s.data.toList 47 = (i : Int) ∧ i < s.size ∧ s.data.toList = s.data.toList.take i ++ 47 :: s.data.toList.drop (i + 1) ∧ ∀ c ∈ s.data.toList.take i, c ≠ 47 := by
  have key : ∀ l : List UInt8, (Lib.indexByte l 47 = -1 ∧ ∀ c ∈ l, c ≠ 47) ∨ ∃ i : Nat, Lib.indexByte l 47 = (i : Int) ∧ i < l.length ∧ l = l.take i ++ 47 :: l.drop (i + 1) ∧ ∀ c ∈ l.take i, c ≠ 47 := by
    intro l
    induction l with
    | nil => exact .inl ⟨rfl, by simp⟩
    | cons b l ih =>
      by_cases hb : b = 47
      · subst hb
        exact .inr ⟨0, by simp [Lib.indexByte], by simp, by simp, by simp⟩
      · have e : (b == 47) = false := by simpa using hb
        rcases ih with ⟨h1, h2⟩ | ⟨i, h1, h2, h3, h4⟩
        · refine .inl ⟨by simp [Lib.indexByte, e, h1], fun c hc => ?_⟩
          rcases List.mem_cons.1 hc with rfl | hc
          · exact hb
          · exact h2 c hc
        · refine .inr ⟨i + 1, ?_, by simp; omega, ?_, fun c hc => ?_⟩
          · have : ¬ ((i : Int) = -1) := by omega
            simp [Lib.indexByte, e, h1, this]
          · simp only [List.take_succ_cons, List.drop_succ_cons, List.cons_append]; rw [← h3]
          · rw [List.take_succ_cons] at hc
            rcases List.mem_cons.1 hc with rfl | hc
            · exact hb
            · exact h4 c hc
  exact key s.data.toList

set_option maxRecDepth 100000 in
set_option maxHeartbeats 2000000 in
theorem cut_miss (s : ByteArray) (w : World) (h : Lib.indexByte s.data.toList 47 = -1) :
    Calls Tryd.prog 49 #[.string s, .string ⟨#[47]⟩] w fun e w' => e = .returned (.tuple #[.string s, .string ⟨#[]⟩, .bool false]) ∧ ∃ n, w' = w.drewN n := by
  have CI := fun W => Tryd.stringslite_Index_one s 47 W
  rw [h] at CI
  replace CI := mkHid CI
  have C1 : Calls Tryd.prog 77 #[.string s, .string ⟨#[47]⟩] w fun e w' => e = .returned (.tuple #[.string s, .string ⟨#[]⟩, .bool false]) ∧ ∃ n, w' = w.drewN n := by
    go_enter Tryd.func77, Tryd.ntmps77
    go_wp2_with (go_at_call 93; refine (CI.out _).mono ?_; rintro e w' ⟨rfl, h2⟩; obtain rfl := h2.symm; clear h2)
    go_ret3
    exact ⟨rfl, 0, rfl⟩
  have C1 := mkHid C1
  go_enter Tryd.func49, Tryd.ntmps49
  go_wp2_with (go_at_call 77; refine C1.out.mono ?_; rintro e w' ⟨rfl, n, rfl⟩)
  go_ret3
  exact ⟨rfl, n, rfl⟩
set_option maxRecDepth 100000 in
set_option maxHeartbeats 2000000 in
theorem cut_hit (s : ByteArray) (w : World) (i : Nat) (h : Lib.indexByte s.data.toList 47 = (i : Int)) (hi : i < s.size) (hs : s.size ≤ 4294967280) :
    Calls Tryd.prog 49 #[.string s, .string ⟨#[47]⟩] w fun e w' => e = .returned (.tuple #[.string (s.extract 0 i), .string (s.extract (i + 1) s.size), .bool true]) ∧ ∃ n, w' = w.drewN n := by
  have CI := fun W => Tryd.stringslite_Index_one s 47 W
  rw [h] at CI
  replace CI := mkHid CI
  have c1 : (0 : Int) ≤ ↑i := by omega
  have c2 : (↑i : Int) ≤ ↑s.size := by omega
  have c3 : (0 : Int) ≤ ↑i + 1 := by omega
  have c4 : (↑i + 1 : Int) ≤ ↑s.size := by omega
  have c5 : IntKind.i64.wrap ((i : Int) + 1) = (i : Int) + 1 := IntWalk.i64_in _ (by omega)
  have C1 : Calls Tryd.prog 77 #[.string s, .string ⟨#[47]⟩] w fun e w' => e = .returned (.tuple #[.string (s.extract 0 i), .string (s.extract (i + 1) s.size), .bool true]) ∧ ∃ n, w' = w.drewN n := by
    clear h hs
    go_enter Tryd.func77, Tryd.ntmps77
    go_wp2_with (go_at_call 93; refine (CI.out _).mono ?_; rintro e w' ⟨rfl, h2⟩; obtain rfl := h2.symm; clear h2)
    go_region
    go_wp2
    go_ret3
    exact ⟨rfl, 1, rfl⟩
  have C1 := mkHid C1
  clear c1 c2 c3 c4 c5 CI h hi hs
  generalize s.extract 0 i = a at *
  generalize s.extract (i + 1) s.size = b at *
  go_enter Tryd.func49, Tryd.ntmps49
  go_wp2_with (go_at_call 77; refine C1.out.mono ?_; rintro e w' ⟨rfl, n, rfl⟩)
  go_ret3
  exact ⟨rfl, n, rfl⟩
end Go.Proofs.YtflcdpolfimggaaDoor
namespace Go.Proofs.YtflcdpolfimggaaDoor
open Go.RowKit Q SD

theorem nread_bad (s : ByteArray) (hs : s.size ≤ 4294967280) (h : D.isDec s.data.toList = false) : Gives 32 #[.string s] (.tuple #[nv 0, .bool false]) := fun W _ _ => read_bad s W (by unfold maxLen; omega) h
theorem nread_ok (s : ByteArray) (hs : s.size ≤ 4294967280) (h : D.isDec s.data.toList = true) : Gives 32 #[.string s] (.tuple #[nv (D.dv s.data.toList), .bool true]) := fun W _ _ => read_ok s W (by unfold maxLen; omega) h
theorem dv_sm (l : List UInt8) (h : D.isDec l = true) : Sm (D.dv l) := by
  have h1 := D.dec_dv l h
  have h2 : Lib.nDigits (D.dv l) ≤ 2000 := by
    rw [← Lib.decDigits_length, h1]
    unfold D.isDec at h
    simp only [Bool.and_eq_true, decide_eq_true_eq] at h
    exact h.1.1.2
  obtain ⟨k, hk⟩ : ∃ k : Nat, k = 106 := ⟨_, rfl⟩
  obtain ⟨m, hm⟩ : ∃ m : Nat, m = 2000 := ⟨_, rfl⟩
  have h3 := Lib.lt_pow_nDigits (D.dv l)
  rw [← hm] at h2
  have h4 : (10 : Nat) ^ Lib.nDigits (D.dv l) ≤ 10 ^ m := Nat.pow_le_pow_right (by omega) h2
  have h5 : (10 : Nat) ^ m ≤ M.B ^ k := by
    have e1 : (10 : Nat) ^ 19 ≤ M.B := by unfold M.B; decide
    have e2 : (10 ^ 19 : Nat) ^ k ≤ M.B ^ k := Nat.pow_le_pow_left e1 k
    rw [← Nat.pow_mul] at e2
    exact Nat.le_trans (Nat.pow_le_pow_right (by omega) (by omega)) e2
  exact sm_pow (k := k) (by omega) (by omega)
theorem parts_ne2 {g : Nat} (h : ¬ g = 1) : ((lo g : Int) == (lo 1 : Int)) = false ∨ (lo g = lo 1 ∧ ((hi g).toList == (hi 1).toList) = false) := nv_ne h
theorem Bxn.drewN {X : World} {r k : Nat} (h : Bxn X r k) (n : Nat) : Bxn (X.drewN n) r k := h
/-- What Cut says. -/
def Cuts (s a b : ByteArray) (f : Bool) : Prop := ∀ w, Calls Tryd.prog 49 #[.string s, .string ⟨#[47]⟩] w fun e w' => e = .returned (.tuple #[.string a, .string b, .bool f]) ∧ ∃ n, w' = w.drewN n

set_option maxRecDepth 100000 in
set_option maxHeartbeats 8000000 in
theorem read2_a (s a b : ByteArray) (f : Bool) (hc : Cuts s a b f) (hs : a.size ≤ 4294967280) (ha : D.isDec a.data.toList = false) : Gives 25 #[.string s] (.tuple #[rv 0 1, .bool false]) := by
  intro W ht h6
  have CC := mkHid hc
  have CN := nread_bad a hs ha
  unfold rv
  rw [dz_one]
  unfold nv at *
  rw [lo_zero, hi_zero] at *
  replace CN := mkHid CN
  clear hc hs ha
  have HS := mkHid ((St.refl ht h6).alloc (.cells #[.int .u64 0, .string ⟨#[]⟩, .int .u64 0, .string ⟨#[]⟩] 26))
  have HX := mkHid (Bxn.new W W.heap.size #[.int .u64 0, .string ⟨#[]⟩, .int .u64 0, .string ⟨#[]⟩] 26 rfl)
  clear ht h6
  go_enter Tryd.func25, Tryd.ntmps25
  go_wp2_with (first | (go_at_call 49; refine (CC.out _).mono ?_; rintro e w2 ⟨rfl, n, rfl⟩; have HS := mkHid (HS.out.drewN n); have HX := mkHid (HX.out.drewN n)) | (go_at_call 32; (with_reducible refine (CN.out _ HS.out.tabs HS.out.six').mono ?_); rintro e w3 ⟨rfl, hb⟩; have HS := mkHid ((HS.out.next hb).alloc (.cells #[.int .u64 0, .string ⟨#[]⟩] 24)); have HX := mkHid ((HX.out.grows hb).alloc (.cells #[.int .u64 0, .string ⟨#[]⟩] 24)); clear hb; obtain ⟨v0, v1, v2, v3, ⟨r0, r1, r2, r3⟩, f0, f1, f2, f3⟩ := HX.out.facts4))
  refine bodyPost_ret (v := .tuple #[.agg #[.int .u64 ((0 : Nat) : Int), .string ⟨#[]⟩, .int .u64 ((0 : Nat) : Int), .string ⟨#[]⟩], .bool false]) (by simp [results, Tryd.results25, go_sem, r0, r1, r2, r3]) rfl ⟨rfl, ?_⟩
  exact (HS.out.set4 (Nat.le_refl _) _ _ _ _).below

set_option maxRecDepth 100000 in
set_option maxHeartbeats 8000000 in
theorem read2_b (s b : ByteArray) (hc : Cuts s s b false) (hs : s.size ≤ 4294967280) (ha : D.isDec s.data.toList = true) : Gives 25 #[.string s] (.tuple #[rv (D.dv s.data.toList) 1, .bool true]) := by
  intro W ht h6
  have CC := mkHid hc
  have CN := nread_ok s hs ha
  have CP := pack_g (D.dv s.data.toList) 1
  have CO := of_g 1 (by decide)
  rw [show ((1 : Nat) : Int) = 1 from rfl] at CO
  unfold rv at *
  rw [dz_one] at *
  unfold nv at *
  rw [lo_zero, hi_zero] at *
  replace CN := mkHid CN
  replace CP := mkHid CP
  replace CO := mkHid CO
  clear hc hs ha
  generalize D.dv s.data.toList = n at *
  generalize lo (n) = ln at *
  generalize hi (n) = kn at *
  generalize lo (1) = l1 at *
  generalize hi (1) = k1 at *
  have HS := mkHid ((St.refl ht h6).alloc (.cells #[.int .u64 0, .string ⟨#[]⟩, .int .u64 0, .string ⟨#[]⟩] 26))
  have HX := mkHid (Bxn.new W W.heap.size #[.int .u64 0, .string ⟨#[]⟩, .int .u64 0, .string ⟨#[]⟩] 26 rfl)
  clear ht h6
  go_enter Tryd.func25, Tryd.ntmps25
  go_upto_region 6 with (first | (go_at_call 49; refine (CC.out _).mono ?_; rintro e w2 ⟨rfl, n, rfl⟩; have HS := mkHid (HS.out.drewN n); have HX := mkHid (HX.out.drewN n)) | (go_at_call 32; (with_reducible refine (CN.out _ HS.out.tabs HS.out.six').mono ?_); rintro e w3 ⟨rfl, hb⟩; have HS := mkHid ((HS.out.next hb).alloc (.cells #[.int .u64 (ln : Int), .string kn] 24)); have HX := mkHid ((HX.out.grows hb).alloc (.cells #[.int .u64 (ln : Int), .string kn] 24)); have HN := mkHid (At2.new w3 w3.heap.size ln kn rfl); clear hb; obtain ⟨v0, v1, v2, v3, ⟨r0, r1, r2, r3⟩, f0, f1, f2, f3⟩ := HX.out.facts4; obtain ⟨n0, n1, nf0, nf1⟩ := HN.out))
  go_region_with (first
    | (go_at_call 37; (with_reducible refine (CO.out _ (HS.out.drew).tabs (HS.out.drew).six').mono ?_); rintro e w5 ⟨rfl, hb⟩; have HS5 := mkHid ((HS.out.drew).next hb); have HX5 := mkHid (HX.out.drew.grows hb); have HN5 := mkHid (HN.out.drew.grows hb); clear hb; obtain ⟨v0, v1, v2, v3, ⟨r0, r1, r2, r3⟩, f0, f1, f2, f3⟩ := HX5.out.facts4; obtain ⟨n0, n1, nf0, nf1⟩ := HN5.out)
    | (go_at_call 30; (with_reducible refine (CP.out _ HS5.out.tabs HS5.out.six').mono ?_); rintro e w7 ⟨rfl, hb⟩; have HS7 := mkHid (HS5.out.next hb); have HX7 := mkHid (HX5.out.grows hb); clear hb; obtain ⟨v0, v1, v2, v3, ⟨r0, r1, r2, r3⟩, f0, f1, f2, f3⟩ := HX7.out.facts4))
  all_goals
    go_wp2_with fail
    refine bodyPost_ret (v := .tuple #[.agg #[.int .u64 (ln : Int), .string kn, .int .u64 ((0 : Nat) : Int), .string ⟨#[]⟩], .bool true]) (by simp [results, Tryd.results25, go_sem, r0, r1, r2, r3]) rfl ⟨rfl, ?_⟩
    exact (HS7.out.set4 (Nat.le_refl _) _ _ _ _).below

set_option maxRecDepth 100000 in
set_option maxHeartbeats 8000000 in
theorem read2_c (s a b : ByteArray) (hc : Cuts s a b true) (hs : a.size ≤ 4294967280) (hsb : b.size ≤ 4294967280) (ha : D.isDec a.data.toList = true) (hb : D.isDec b.data.toList = false) : Gives 25 #[.string s] (.tuple #[rv 0 1, .bool false]) := by
  intro W ht h6
  have CC := mkHid hc
  have CN := nread_ok a hs ha
  have CD := nread_bad b hsb hb
  unfold rv
  rw [dz_one]
  unfold nv at *
  rw [lo_zero, hi_zero] at *
  replace CN := mkHid CN
  replace CD := mkHid CD
  clear hc hs ha hb hsb
  generalize D.dv a.data.toList = n at *
  generalize lo (n) = ln at *
  generalize hi (n) = kn at *
  have HS := mkHid ((St.refl ht h6).alloc (.cells #[.int .u64 0, .string ⟨#[]⟩, .int .u64 0, .string ⟨#[]⟩] 26))
  have HX := mkHid (Bxn.new W W.heap.size #[.int .u64 0, .string ⟨#[]⟩, .int .u64 0, .string ⟨#[]⟩] 26 rfl)
  clear ht h6
  go_enter Tryd.func25, Tryd.ntmps25
  go_upto_region 8 with (first | (go_at_call 49; refine (CC.out _).mono ?_; rintro e w2 ⟨rfl, n, rfl⟩; have HS := mkHid (HS.out.drewN n); have HX := mkHid (HX.out.drewN n)) | (go_at_call 32; (with_reducible refine (CN.out _ HS.out.tabs HS.out.six').mono ?_); rintro e w3 ⟨rfl, hb⟩; have HS := mkHid ((HS.out.next hb).alloc (.cells #[.int .u64 (ln : Int), .string kn] 24)); have HX := mkHid ((HX.out.grows hb).alloc (.cells #[.int .u64 (ln : Int), .string kn] 24)); have HN := mkHid (At2.new w3 w3.heap.size ln kn rfl); clear hb; obtain ⟨v0, v1, v2, v3, ⟨r0, r1, r2, r3⟩, f0, f1, f2, f3⟩ := HX.out.facts4; obtain ⟨n0, n1, nf0, nf1⟩ := HN.out) | (go_at_call 32; (with_reducible refine (CD.out _ HS.out.tabs HS.out.six').mono ?_); rintro e w4 ⟨rfl, hb⟩; have HS := mkHid ((HS.out.next hb).alloc (.cells #[.int .u64 0, .string ⟨#[]⟩] 24)); have HX := mkHid ((HX.out.grows hb).alloc (.cells #[.int .u64 0, .string ⟨#[]⟩] 24)); have HN := mkHid ((HN.out.grows hb).alloc (.cells #[.int .u64 0, .string ⟨#[]⟩] 24)); clear hb; obtain ⟨v0, v1, v2, v3, ⟨r0, r1, r2, r3⟩, f0, f1, f2, f3⟩ := HX.out.facts4; obtain ⟨n0, n1, nf0, nf1⟩ := HN.out))
  go_region
  go_wp2_with fail
  refine bodyPost_ret (v := .tuple #[.agg #[.int .u64 ((0 : Nat) : Int), .string ⟨#[]⟩, .int .u64 ((0 : Nat) : Int), .string ⟨#[]⟩], .bool false]) (by simp [results, Tryd.results25, go_sem, r0, r1, r2, r3]) rfl ⟨rfl, ?_⟩
  exact ((HS.out.drew).set4 (Nat.le_refl _) _ _ _ _).below

set_option maxRecDepth 100000 in
set_option maxHeartbeats 8000000 in
theorem read2_d (s a b : ByteArray) (hc : Cuts s a b true) (hs : a.size ≤ 4294967280) (hsb : b.size ≤ 4294967280) (ha : D.isDec a.data.toList = true) (hb : D.isDec b.data.toList = true) (h1 : D.dv b.data.toList ≤ 1) : Gives 25 #[.string s] (.tuple #[rv 0 1, .bool false]) := by
  intro W ht h6
  have CC := mkHid hc
  have CN := nread_ok a hs ha
  have CD := nread_ok b hsb hb
  have CK := cmp_g (D.dv b.data.toList) 1
  have hcv : ∃ cv : Int, Lib.compareInt ((D.dv b.data.toList : Nat) : Int) ((1 : Nat) : Int) = cv ∧ cv ≤ 0 := ⟨_, rfl, by unfold Lib.compareInt; split <;> (try split) <;> omega⟩
  obtain ⟨cv, ecv, hcv⟩ := hcv
  rw [ecv] at CK
  have CO := of_g 1 (by decide)
  rw [show ((1 : Nat) : Int) = 1 from rfl] at CO
  unfold rv
  rw [dz_one]
  unfold nv at *
  rw [lo_zero, hi_zero]
  clear hc hs ha hb hsb h1 ecv
  generalize D.dv a.data.toList = n at *
  generalize D.dv b.data.toList = d at *
  generalize lo (n) = ln at *
  generalize hi (n) = kn at *
  generalize lo (d) = ld at *
  generalize hi (d) = kd at *
  generalize lo (1) = l1 at *
  generalize hi (1) = k1 at *
  replace CN := mkHid CN
  replace CD := mkHid CD
  replace CK := mkHid CK
  replace CO := mkHid CO
  have HS := mkHid ((St.refl ht h6).alloc (.cells #[.int .u64 0, .string ⟨#[]⟩, .int .u64 0, .string ⟨#[]⟩] 26))
  have HX := mkHid (Bxn.new W W.heap.size #[.int .u64 0, .string ⟨#[]⟩, .int .u64 0, .string ⟨#[]⟩] 26 rfl)
  clear ht h6
  go_enter Tryd.func25, Tryd.ntmps25
  go_upto_region 8 with (first | (go_at_call 49; refine (CC.out _).mono ?_; rintro e w2 ⟨rfl, n, rfl⟩; have HS := mkHid (HS.out.drewN n); have HX := mkHid (HX.out.drewN n)) | (go_at_call 32; (with_reducible refine (CN.out _ HS.out.tabs HS.out.six').mono ?_); rintro e w3 ⟨rfl, hb⟩; have HS := mkHid ((HS.out.next hb).alloc (.cells #[.int .u64 (ln : Int), .string kn] 24)); have HX := mkHid ((HX.out.grows hb).alloc (.cells #[.int .u64 (ln : Int), .string kn] 24)); have HN := mkHid (At2.new w3 w3.heap.size ln kn rfl); clear hb; obtain ⟨v0, v1, v2, v3, ⟨r0, r1, r2, r3⟩, f0, f1, f2, f3⟩ := HX.out.facts4; obtain ⟨n0, n1, nf0, nf1⟩ := HN.out) | (go_at_call 32; (with_reducible refine (CD.out _ HS.out.tabs HS.out.six').mono ?_); rintro e w4 ⟨rfl, hb⟩; have HS := mkHid ((HS.out.next hb).alloc (.cells #[.int .u64 (ld : Int), .string kd] 24)); have HX := mkHid ((HX.out.grows hb).alloc (.cells #[.int .u64 (ld : Int), .string kd] 24)); have HN := mkHid ((HN.out.grows hb).alloc (.cells #[.int .u64 (ld : Int), .string kd] 24)); have HD := mkHid (At2.new w4 w4.heap.size ld kd rfl); clear hb; obtain ⟨v0, v1, v2, v3, ⟨r0, r1, r2, r3⟩, f0, f1, f2, f3⟩ := HX.out.facts4; obtain ⟨n0, n1, nf0, nf1⟩ := HN.out; obtain ⟨d0, d1, df0, df1⟩ := HD.out))
  go_region_with (first
    | (go_at_call 37; (with_reducible refine (CO.out _ (HS.out.drew).tabs (HS.out.drew).six').mono ?_); rintro e w5 ⟨rfl, hb⟩; have HS5 := mkHid ((HS.out.drew).next hb); have HX5 := mkHid (HX.out.drew.grows hb); have HD5 := mkHid (HD.out.drew.grows hb); clear hb; obtain ⟨d0, d1, -, -⟩ := HD5.out)
    | (go_at_call 48; (with_reducible refine (CK.out _ HS5.out.tabs HS5.out.six').mono ?_); rintro e w7 ⟨rfl, hb⟩; have HS7 := mkHid (HS5.out.next hb); have HX7 := mkHid (HX5.out.grows hb); clear hb; obtain ⟨v0, v1, v2, v3, ⟨r0, r1, r2, r3⟩, f0, f1, f2, f3⟩ := HX7.out.facts4))
  all_goals
    go_wp2_with fail
    refine bodyPost_ret (v := .tuple #[.agg #[.int .u64 ((0 : Nat) : Int), .string ⟨#[]⟩, .int .u64 ((0 : Nat) : Int), .string ⟨#[]⟩], .bool false]) (by simp [results, Tryd.results25, go_sem, r0, r1, r2, r3]) rfl ⟨rfl, ?_⟩
    exact (HS7.out.set4 (Nat.le_refl _) _ _ _ _).below

set_option maxRecDepth 100000 in
set_option maxHeartbeats 8000000 in
theorem read2_f (s a b : ByteArray) (hc : Cuts s a b true) (hs : a.size ≤ 4294967280) (hsb : b.size ≤ 4294967280) (ha : D.isDec a.data.toList = true) (hb : D.isDec b.data.toList = true) (h1 : 1 < D.dv b.data.toList) (hg : Nat.gcd (D.dv a.data.toList) (D.dv b.data.toList) = 1) : Gives 25 #[.string s] (.tuple #[rv (D.dv a.data.toList) (D.dv b.data.toList), .bool true]) := by
  intro W ht h6
  have CC := mkHid hc
  have CN := nread_ok a hs ha
  have CD := nread_ok b hsb hb
  have sn : Sm (D.dv a.data.toList) := dv_sm _ ha
  have sd : Sm (D.dv b.data.toList) := dv_sm _ hb
  have CG := gcd_g _ _ sn sd
  have CK := cmp_g (D.dv b.data.toList) 1
  rw [show Lib.compareInt ((D.dv b.data.toList : Nat) : Int) ((1 : Nat) : Int) = 1 by unfold Lib.compareInt; rw [if_neg (by omega), if_pos (by omega)]] at CK
  have CO := of_g 1 (by decide)
  rw [show ((1 : Nat) : Int) = 1 from rfl] at CO
  rw [hg] at CG
  have CP := pack_g (D.dv a.data.toList) (D.dv b.data.toList)
  unfold rv at *
  rw [dz_ne (show D.dv b.data.toList ≠ 1 by omega)] at *
  unfold nv at *
  clear hc hs ha hb hsb h1 hg sn sd
  generalize D.dv a.data.toList = n at *
  generalize D.dv b.data.toList = d at *
  generalize lo (n) = ln at *
  generalize hi (n) = kn at *
  generalize lo (d) = ld at *
  generalize hi (d) = kd at *
  generalize lo (1) = l1 at *
  generalize hi (1) = k1 at *
  replace CN := mkHid CN
  replace CD := mkHid CD
  replace CG := mkHid CG
  replace CK := mkHid CK
  replace CO := mkHid CO
  replace CP := mkHid CP
  have HS := mkHid ((St.refl ht h6).alloc (.cells #[.int .u64 0, .string ⟨#[]⟩, .int .u64 0, .string ⟨#[]⟩] 26))
  have HX := mkHid (Bxn.new W W.heap.size #[.int .u64 0, .string ⟨#[]⟩, .int .u64 0, .string ⟨#[]⟩] 26 rfl)
  clear ht h6
  go_enter Tryd.func25, Tryd.ntmps25
  go_upto_region 8 with (first | (go_at_call 49; refine (CC.out _).mono ?_; rintro e w2 ⟨rfl, n, rfl⟩; have HS := mkHid (HS.out.drewN n); have HX := mkHid (HX.out.drewN n)) | (go_at_call 32; (with_reducible refine (CN.out _ HS.out.tabs HS.out.six').mono ?_); rintro e w3 ⟨rfl, hb⟩; have HS := mkHid ((HS.out.next hb).alloc (.cells #[.int .u64 (ln : Int), .string kn] 24)); have HX := mkHid ((HX.out.grows hb).alloc (.cells #[.int .u64 (ln : Int), .string kn] 24)); have HN := mkHid (At2.new w3 w3.heap.size ln kn rfl); clear hb; obtain ⟨v0, v1, v2, v3, ⟨r0, r1, r2, r3⟩, f0, f1, f2, f3⟩ := HX.out.facts4; obtain ⟨n0, n1, nf0, nf1⟩ := HN.out) | (go_at_call 32; (with_reducible refine (CD.out _ HS.out.tabs HS.out.six').mono ?_); rintro e w4 ⟨rfl, hb⟩; have HS := mkHid ((HS.out.next hb).alloc (.cells #[.int .u64 (ld : Int), .string kd] 24)); have HX := mkHid ((HX.out.grows hb).alloc (.cells #[.int .u64 (ld : Int), .string kd] 24)); have HN := mkHid ((HN.out.grows hb).alloc (.cells #[.int .u64 (ld : Int), .string kd] 24)); have HD := mkHid (At2.new w4 w4.heap.size ld kd rfl); clear hb; obtain ⟨v0, v1, v2, v3, ⟨r0, r1, r2, r3⟩, f0, f1, f2, f3⟩ := HX.out.facts4; obtain ⟨n0, n1, nf0, nf1⟩ := HN.out; obtain ⟨d0, d1, df0, df1⟩ := HD.out))
  have hsn := HS.out
  have x2 := HX.out
  generalize w3.heap.size = jn at *
  generalize w4.heap.size = jd at *
  go_region_held3 (fun X => St W X ∧ X.cell? ⟨jn, 0, none⟩ = some (.int .u64 (ln : Int)) ∧ X.cell? ⟨jn, 1, none⟩ = some (.string kn) ∧ X.cell? ⟨jd, 0, none⟩ = some (.int .u64 (ld : Int)) ∧ X.cell? ⟨jd, 1, none⟩ = some (.string kd) ∧ Bxn X (W.heap.size) 4)
    (first
      | (with_reducible exact ⟨hS.1.next hb, St.cell hb hS.2.1, St.cell hb hS.2.2.1, St.cell hb hS.2.2.2.1, St.cell hb hS.2.2.2.2.1, hS.2.2.2.2.2.grows hb⟩)
      | exact ⟨hsn.drew, n0, n1, d0, d1, x2.drew⟩)
    (first
      | (go_at_call 37; have hS : St W _ ∧ _ := (by assumption); (with_reducible refine (CO.out _ hS.1.tabs hS.1.six').mono ?_); rintro e w6 ⟨rfl, hb⟩)
      | (go_at_call 48; have hS : St W _ ∧ _ := (by assumption); (with_reducible refine (CK.out _ hS.1.tabs hS.1.six').mono ?_); rintro e w6 ⟨rfl, hb⟩)
      | (go_at_call 26; have hS : St W _ ∧ _ := (by assumption); (with_reducible refine (CG.out _ hS.1.tabs hS.1.six').mono ?_); rintro e w6 ⟨rfl, hb⟩))
  have hT : St W _ ∧ _ := (by assumption)
  obtain ⟨hs, n0, n1, d0, d1, hx⟩ := hT
  have HS := mkHid hs
  have HX := mkHid hx
  obtain ⟨v0, v1, v2, v3, ⟨r0, r1, r2, r3⟩, f0, f1, f2, f3⟩ := HX.out.facts4
  clear hs hx hsn x2
  go_wp2_with (go_at_call 30; (with_reducible refine (CP.out _ HS.out.tabs HS.out.six').mono ?_); rintro e w7 ⟨rfl, hb⟩; have HS := mkHid (HS.out.next hb); have HX := mkHid (HX.out.grows hb); clear hb; obtain ⟨v0, v1, v2, v3, ⟨r0, r1, r2, r3⟩, f0, f1, f2, f3⟩ := HX.out.facts4)
  refine bodyPost_ret (v := .tuple #[.agg #[.int .u64 (ln : Int), .string kn, .int .u64 (ld : Int), .string kd], .bool true]) (by simp [results, Tryd.results25, go_sem, r0, r1, r2, r3]) rfl ⟨rfl, ?_⟩
  exact (HS.out.set4 (Nat.le_refl _) _ _ _ _).below

set_option maxRecDepth 100000 in
set_option maxHeartbeats 8000000 in
theorem read2_e (s a b : ByteArray) (hc : Cuts s a b true) (hs : a.size ≤ 4294967280) (hsb : b.size ≤ 4294967280) (ha : D.isDec a.data.toList = true) (hb : D.isDec b.data.toList = true) (h1 : 1 < D.dv b.data.toList) (hg : ¬ Nat.gcd (D.dv a.data.toList) (D.dv b.data.toList) = 1) : Gives 25 #[.string s] (.tuple #[rv 0 1, .bool false]) := by
  intro W ht h6
  have CC := mkHid hc
  have CN := nread_ok a hs ha
  have CD := nread_ok b hsb hb
  have sn : Sm (D.dv a.data.toList) := dv_sm _ ha
  have sd : Sm (D.dv b.data.toList) := dv_sm _ hb
  have CG := gcd_g _ _ sn sd
  have CK := cmp_g (D.dv b.data.toList) 1
  rw [show Lib.compareInt ((D.dv b.data.toList : Nat) : Int) ((1 : Nat) : Int) = 1 by unfold Lib.compareInt; rw [if_neg (by omega), if_pos (by omega)]] at CK
  have CO := of_g 1 (by decide)
  rw [show ((1 : Nat) : Int) = 1 from rfl] at CO
  have hne := parts_ne2 hg
  unfold rv
  rw [dz_one]
  unfold nv at *
  rw [lo_zero, hi_zero]
  clear hc hs ha hb hsb h1 hg sn sd
  generalize lo (Nat.gcd (D.dv a.data.toList) (D.dv b.data.toList)) = lg at *
  generalize hi (Nat.gcd (D.dv a.data.toList) (D.dv b.data.toList)) = kg at *
  generalize D.dv a.data.toList = n at *
  generalize D.dv b.data.toList = d at *
  generalize lo (n) = ln at *
  generalize hi (n) = kn at *
  generalize lo (d) = ld at *
  generalize hi (d) = kd at *
  generalize lo (1) = l1 at *
  generalize hi (1) = k1 at *
  replace CN := mkHid CN
  replace CD := mkHid CD
  replace CG := mkHid CG
  replace CK := mkHid CK
  replace CO := mkHid CO
  rcases hne with hne | ⟨hl, hne⟩
  · have HS := mkHid ((St.refl ht h6).alloc (.cells #[.int .u64 0, .string ⟨#[]⟩, .int .u64 0, .string ⟨#[]⟩] 26))
    have HX := mkHid (Bxn.new W W.heap.size #[.int .u64 0, .string ⟨#[]⟩, .int .u64 0, .string ⟨#[]⟩] 26 rfl)
    clear ht h6
    go_enter Tryd.func25, Tryd.ntmps25
    go_upto_region 8 with (first | (go_at_call 49; refine (CC.out _).mono ?_; rintro e w2 ⟨rfl, n, rfl⟩; have HS := mkHid (HS.out.drewN n); have HX := mkHid (HX.out.drewN n)) | (go_at_call 32; (with_reducible refine (CN.out _ HS.out.tabs HS.out.six').mono ?_); rintro e w3 ⟨rfl, hb⟩; have HS := mkHid ((HS.out.next hb).alloc (.cells #[.int .u64 (ln : Int), .string kn] 24)); have HX := mkHid ((HX.out.grows hb).alloc (.cells #[.int .u64 (ln : Int), .string kn] 24)); have HN := mkHid (At2.new w3 w3.heap.size ln kn rfl); clear hb; obtain ⟨v0, v1, v2, v3, ⟨r0, r1, r2, r3⟩, f0, f1, f2, f3⟩ := HX.out.facts4; obtain ⟨n0, n1, nf0, nf1⟩ := HN.out) | (go_at_call 32; (with_reducible refine (CD.out _ HS.out.tabs HS.out.six').mono ?_); rintro e w4 ⟨rfl, hb⟩; have HS := mkHid ((HS.out.next hb).alloc (.cells #[.int .u64 (ld : Int), .string kd] 24)); have HX := mkHid ((HX.out.grows hb).alloc (.cells #[.int .u64 (ld : Int), .string kd] 24)); have HN := mkHid ((HN.out.grows hb).alloc (.cells #[.int .u64 (ld : Int), .string kd] 24)); have HD := mkHid (At2.new w4 w4.heap.size ld kd rfl); clear hb; obtain ⟨v0, v1, v2, v3, ⟨r0, r1, r2, r3⟩, f0, f1, f2, f3⟩ := HX.out.facts4; obtain ⟨n0, n1, nf0, nf1⟩ := HN.out; obtain ⟨d0, d1, df0, df1⟩ := HD.out))
    have hsn := HS.out
    have x2 := HX.out
    generalize w3.heap.size = jn at *
    generalize w4.heap.size = jd at *
    go_region_held3 (fun X => St W X ∧ X.cell? ⟨jn, 0, none⟩ = some (.int .u64 (ln : Int)) ∧ X.cell? ⟨jn, 1, none⟩ = some (.string kn) ∧ X.cell? ⟨jd, 0, none⟩ = some (.int .u64 (ld : Int)) ∧ X.cell? ⟨jd, 1, none⟩ = some (.string kd) ∧ Bxn X (W.heap.size) 4)
      (first
        | (with_reducible exact ⟨hS.1.next hb, St.cell hb hS.2.1, St.cell hb hS.2.2.1, St.cell hb hS.2.2.2.1, St.cell hb hS.2.2.2.2.1, hS.2.2.2.2.2.grows hb⟩)
        | exact ⟨hsn.drew, n0, n1, d0, d1, x2.drew⟩)
      (first
        | (go_at_call 37; have hS : St W _ ∧ _ := (by assumption); (with_reducible refine (CO.out _ hS.1.tabs hS.1.six').mono ?_); rintro e w6 ⟨rfl, hb⟩)
        | (go_at_call 48; have hS : St W _ ∧ _ := (by assumption); (with_reducible refine (CK.out _ hS.1.tabs hS.1.six').mono ?_); rintro e w6 ⟨rfl, hb⟩)
        | (go_at_call 26; have hS : St W _ ∧ _ := (by assumption); (with_reducible refine (CG.out _ hS.1.tabs hS.1.six').mono ?_); rintro e w6 ⟨rfl, hb⟩))
    have hT : St W _ ∧ _ := (by assumption)
    obtain ⟨hs, n0, n1, d0, d1, hx⟩ := hT
    have HS := mkHid hs
    have HX := mkHid hx
    obtain ⟨v0, v1, v2, v3, ⟨r0, r1, r2, r3⟩, f0, f1, f2, f3⟩ := HX.out.facts4
    clear hs hx hsn x2
    go_wp2_with fail
    refine bodyPost_ret (v := .tuple #[.agg #[.int .u64 ((0 : Nat) : Int), .string ⟨#[]⟩, .int .u64 ((0 : Nat) : Int), .string ⟨#[]⟩], .bool false]) (by simp [results, Tryd.results25, go_sem, r0, r1, r2, r3]) rfl ⟨rfl, ?_⟩
    exact (HS.out.set4 (Nat.le_refl _) _ _ _ _).below
  · have HS := mkHid ((St.refl ht h6).alloc (.cells #[.int .u64 0, .string ⟨#[]⟩, .int .u64 0, .string ⟨#[]⟩] 26))
    have HX := mkHid (Bxn.new W W.heap.size #[.int .u64 0, .string ⟨#[]⟩, .int .u64 0, .string ⟨#[]⟩] 26 rfl)
    clear ht h6
    go_enter Tryd.func25, Tryd.ntmps25
    go_upto_region 8 with (first | (go_at_call 49; refine (CC.out _).mono ?_; rintro e w2 ⟨rfl, n, rfl⟩; have HS := mkHid (HS.out.drewN n); have HX := mkHid (HX.out.drewN n)) | (go_at_call 32; (with_reducible refine (CN.out _ HS.out.tabs HS.out.six').mono ?_); rintro e w3 ⟨rfl, hb⟩; have HS := mkHid ((HS.out.next hb).alloc (.cells #[.int .u64 (ln : Int), .string kn] 24)); have HX := mkHid ((HX.out.grows hb).alloc (.cells #[.int .u64 (ln : Int), .string kn] 24)); have HN := mkHid (At2.new w3 w3.heap.size ln kn rfl); clear hb; obtain ⟨v0, v1, v2, v3, ⟨r0, r1, r2, r3⟩, f0, f1, f2, f3⟩ := HX.out.facts4; obtain ⟨n0, n1, nf0, nf1⟩ := HN.out) | (go_at_call 32; (with_reducible refine (CD.out _ HS.out.tabs HS.out.six').mono ?_); rintro e w4 ⟨rfl, hb⟩; have HS := mkHid ((HS.out.next hb).alloc (.cells #[.int .u64 (ld : Int), .string kd] 24)); have HX := mkHid ((HX.out.grows hb).alloc (.cells #[.int .u64 (ld : Int), .string kd] 24)); have HN := mkHid ((HN.out.grows hb).alloc (.cells #[.int .u64 (ld : Int), .string kd] 24)); have HD := mkHid (At2.new w4 w4.heap.size ld kd rfl); clear hb; obtain ⟨v0, v1, v2, v3, ⟨r0, r1, r2, r3⟩, f0, f1, f2, f3⟩ := HX.out.facts4; obtain ⟨n0, n1, nf0, nf1⟩ := HN.out; obtain ⟨d0, d1, df0, df1⟩ := HD.out))
    have hsn := HS.out
    have x2 := HX.out
    generalize w3.heap.size = jn at *
    generalize w4.heap.size = jd at *
    go_region_held3 (fun X => St W X ∧ X.cell? ⟨jn, 0, none⟩ = some (.int .u64 (ln : Int)) ∧ X.cell? ⟨jn, 1, none⟩ = some (.string kn) ∧ X.cell? ⟨jd, 0, none⟩ = some (.int .u64 (ld : Int)) ∧ X.cell? ⟨jd, 1, none⟩ = some (.string kd) ∧ Bxn X (W.heap.size) 4)
      (first
        | (with_reducible exact ⟨hS.1.next hb, St.cell hb hS.2.1, St.cell hb hS.2.2.1, St.cell hb hS.2.2.2.1, St.cell hb hS.2.2.2.2.1, hS.2.2.2.2.2.grows hb⟩)
        | exact ⟨hsn.drew, n0, n1, d0, d1, x2.drew⟩)
      (first
        | (go_at_call 37; have hS : St W _ ∧ _ := (by assumption); (with_reducible refine (CO.out _ hS.1.tabs hS.1.six').mono ?_); rintro e w6 ⟨rfl, hb⟩)
        | (go_at_call 48; have hS : St W _ ∧ _ := (by assumption); (with_reducible refine (CK.out _ hS.1.tabs hS.1.six').mono ?_); rintro e w6 ⟨rfl, hb⟩)
        | (go_at_call 26; have hS : St W _ ∧ _ := (by assumption); (with_reducible refine (CG.out _ hS.1.tabs hS.1.six').mono ?_); rintro e w6 ⟨rfl, hb⟩))
    have hT : St W _ ∧ _ := (by assumption)
    obtain ⟨hs, n0, n1, d0, d1, hx⟩ := hT
    have HS := mkHid hs
    have HX := mkHid hx
    obtain ⟨v0, v1, v2, v3, ⟨r0, r1, r2, r3⟩, f0, f1, f2, f3⟩ := HX.out.facts4
    clear hs hx hsn x2
    go_wp2_with fail
    refine bodyPost_ret (v := .tuple #[.agg #[.int .u64 ((0 : Nat) : Int), .string ⟨#[]⟩, .int .u64 ((0 : Nat) : Int), .string ⟨#[]⟩], .bool false]) (by simp [results, Tryd.results25, go_sem, r0, r1, r2, r3]) rfl ⟨rfl, ?_⟩
    exact (HS.out.set4 (Nat.le_refl _) _ _ _ _).below
end Go.Proofs.YtflcdpolfimggaaDoor
namespace Go.Proofs.YtflcdpolfimggaaDoor
open Go.RowKit Q SD

/-- The text of a number in lowest terms is read as the number. -/
theorem dec_of (n : Nat) (h : Lib.nDigits n ≤ 2000) : D.isDec (ds n).data.toList = true ∧ D.dv (ds n).data.toList = n := ⟨D.isDec_dec n h, D.dv_dec n⟩
theorem read_tx (p q : Nat) (h : Lo p q) (hp : Lib.nDigits p ≤ 2000) (hq : Lib.nDigits q ≤ 2000) : Gives 25 #[.string (tx p q)] (.tuple #[rv p q, .bool true]) := by
  obtain ⟨a1, a2⟩ := dec_of p hp
  obtain ⟨b1, b2⟩ := dec_of q hq
  have sp := ds_size p
  have sq := ds_size q
  by_cases h1 : q = 1
  · subst h1
    rw [tx_one]
    have hc : Cuts (ds p) (ds p) ⟨#[]⟩ false := by
      intro w
      rcases index_cases (ds p) with ⟨h2, _⟩ | ⟨i, h2, h3, h4, _⟩
      · exact cut_miss _ w h2
      · exfalso
        have : (47 : UInt8) ∈ (ds p).data.toList := by rw [h4]; simp
        exact no_slash p 47 this rfl
    have := read2_b (ds p) ⟨#[]⟩ hc (by omega) a1
    rwa [a2] at this
  · have hs : (tx p q).size = (ds p).size + 1 + (ds q).size := by rw [tx_ne h1]; simp [ByteArray.size_append]; rfl
    have hl : (tx p q).data.toList = Lib.decDigits p ++ 47 :: Lib.decDigits q := by rw [tx_list, if_neg h1]
    have hd : ∀ n, (ds n).data.toList = Lib.decDigits n := fun n => rfl
    rcases index_cases (tx p q) with ⟨_, h2⟩ | ⟨i, h2, h3, h4, h5⟩
    · exact absurd rfl (h2 47 (by rw [hl]; simp))
    · have h6 := hl.symm.trans h4
      obtain ⟨e1, e2⟩ := split_eq (no_slash p) h5 h6
      have x1 : (tx p q).extract 0 i = ds p := by
        refine ByteArray.ext (Array.ext' ?_)
        have : ((tx p q).extract 0 i).data.toList = (tx p q).data.toList.take i := by rw [ByteArray.data_extract]; simp
        rw [this, ← e1]; rfl
      have x2 : (tx p q).extract (i + 1) (tx p q).size = ds q := by
        refine ByteArray.ext (Array.ext' ?_)
        rw [str_drop, ← e2]; rfl
      have hc : Cuts (tx p q) (ds p) (ds q) true := by
        intro w
        have := cut_hit (tx p q) w i h2 h3 (by omega)
        rwa [x1, x2] at this
      have hq0 := h.1
      have := read2_f (tx p q) (ds p) (ds q) hc (by omega) (by omega) a1 b1 (by rw [b2]; omega) (by rw [a2, b2]; exact h.2)
      rwa [a2, b2] at this
end Go.Proofs.YtflcdpolfimggaaDoor
