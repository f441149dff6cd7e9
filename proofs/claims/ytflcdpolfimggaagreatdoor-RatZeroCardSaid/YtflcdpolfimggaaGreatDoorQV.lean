/- Package rat: the specification's over, Add, Sub, Cmp, Mul, Div; the laws' Ref. -/
import Derived.Test.YtflcdpolfimggaaGreatDoorG10
namespace Go.Proofs.YtflcdpolfimggaaGreatDoor
open Go.RowKit Q SD

theorem blx {W X w' : World} (h : Below W.heap.size W X) (hb : Below X.heap.size X w') : Below W.heap.size W w' := below_trans h hb h.size
theorem nd_kw {k n : Nat} (h : n < M.B ^ k) : Lib.nDigits n ≤ 20 * k + 1 := D.nDigits_words k n h
theorem nd_mul {a b : Nat} {k : Nat} (ha : Lib.nDigits a ≤ k) (hb : Lib.nDigits b ≤ k) : Lib.nDigits (a * b) ≤ 2 * k + 1 := by
  have h1 := Lib.lt_pow_nDigits a
  have h2 := Lib.lt_pow_nDigits b
  have h3 : (10 : Nat) ^ Lib.nDigits a ≤ 10 ^ k := Nat.pow_le_pow_right (by omega) ha
  have h4 : (10 : Nat) ^ Lib.nDigits b ≤ 10 ^ k := Nat.pow_le_pow_right (by omega) hb
  refine D.nDigits_le (2 * k) _ ?_
  have h5 : a * b < 10 ^ k * 10 ^ k := Nat.mul_lt_mul_of_lt_of_le (by omega) (by omega) (Nat.pow_pos (by omega))
  rw [← Nat.pow_add] at h5
  exact Nat.lt_of_lt_of_le h5 (Nat.pow_le_pow_right (by omega) (by omega))
theorem nd_add {a b : Nat} {k : Nat} (ha : Lib.nDigits a ≤ k) (hb : Lib.nDigits b ≤ k) : Lib.nDigits (a + b) ≤ k + 2 := by
  have h1 := Lib.lt_pow_nDigits a
  have h2 := Lib.lt_pow_nDigits b
  have h3 : (10 : Nat) ^ Lib.nDigits a ≤ 10 ^ k := Nat.pow_le_pow_right (by omega) ha
  have h4 : (10 : Nat) ^ Lib.nDigits b ≤ 10 ^ k := Nat.pow_le_pow_right (by omega) hb
  refine D.nDigits_le (k + 1) _ ?_
  rw [Nat.pow_succ]
  omega
theorem nd_le {a b : Nat} {k : Nat} (h : a ≤ b) (hb : Lib.nDigits b ≤ k) : Lib.nDigits a ≤ k + 1 := by
  have h2 := Lib.lt_pow_nDigits b
  have h4 : (10 : Nat) ^ Lib.nDigits b ≤ 10 ^ k := Nat.pow_le_pow_right (by omega) hb
  exact D.nDigits_le k _ (by omega)

set_option maxRecDepth 100000 in
set_option maxHeartbeats 8000000 in
theorem over_g (p1 q1 p2 q2 : Nat) (n1 : Lib.nDigits p1 ≤ 20000) (n2 : Lib.nDigits q1 ≤ 20000) (n3 : Lib.nDigits p2 ≤ 20000) (n4 : Lib.nDigits q2 ≤ 20000) (W : World) :
    Calls Tryz.prog 44 #[sv p1 q1, sv p2 q2] W fun e w' => e = .returned (.tuple #[.string (ds (p1 * q2)), .string (ds (p2 * q1)), .string (ds (q1 * q2))]) ∧ Below W.heap.size W w' := by
  have M1 := mkHid (fun W => smul_any p1 q2 W (by omega) (by omega))
  have M2 := mkHid (fun W => smul_any p2 q1 W (by omega) (by omega))
  have M3 := mkHid (fun W => smul_any q1 q2 W (by omega) (by omega))
  unfold sv at *
  clear n1 n2 n3 n4
  generalize ds (p1 * q2) = r1 at *
  generalize ds (p2 * q1) = r2 at *
  generalize ds (q1 * q2) = r3 at *
  generalize ds p1 = a at *
  generalize ds q1 = b at *
  generalize ds p2 = c at *
  generalize ds q2 = d at *
  have hs0 := (((Below.refl W.heap.size W).alloc (Nat.le_refl _) (.cells #[.string a, .string b] 32)).alloc (by simp) (.cells #[.string c, .string d] 32))
  have H0 := (AtS.new W W.heap.size a b rfl).alloc (.cells #[.string c, .string d] 32)
  have H1 := AtS.new (W.alloc (.cells #[.string a, .string b] 32)) (W.heap.size + 1) c d (by simp)
  obtain ⟨a0, a1, -, -⟩ := H0
  obtain ⟨c0, c1, -, -⟩ := H1
  go_enter Tryz.func44, Tryz.ntmps44
  go_upto_region 1 with (fail)
  go_region_held3 (fun X => Below W.heap.size W X ∧ X.cell? ⟨W.heap.size, 0, none⟩ = some (.string a) ∧ X.cell? ⟨W.heap.size, 1, none⟩ = some (.string b) ∧ X.cell? ⟨W.heap.size + 1, 0, none⟩ = some (.string c) ∧ X.cell? ⟨W.heap.size + 1, 1, none⟩ = some (.string d))
    (first
      | (with_reducible exact ⟨blx hS.1 hb, St.cell hb hS.2.1, St.cell hb hS.2.2.1, St.cell hb hS.2.2.2.1, St.cell hb hS.2.2.2.2⟩)
      | exact ⟨hs0.drew, a0, a1, c0, c1⟩)
    (first
      | (go_at_call 52; (with_reducible refine (M1.out _).mono ?_); rintro e w6 ⟨rfl, hb⟩; have hS : Below W.heap.size W _ ∧ _ := (by assumption))
      | (go_at_call 52; (with_reducible refine (M2.out _).mono ?_); rintro e w6 ⟨rfl, hb⟩; have hS : Below W.heap.size W _ ∧ _ := (by assumption))
      | (go_at_call 52; (with_reducible refine (M3.out _).mono ?_); rintro e w6 ⟨rfl, hb⟩; have hS : Below W.heap.size W _ ∧ _ := (by assumption)))
  have hT : Below W.heap.size W _ ∧ _ := (by assumption)
  have HT := mkHid hT.1
  clear hT
  go_wp2_with fail
  go_ret3
  exact ⟨rfl, HT.out⟩

set_option maxRecDepth 100000 in
set_option maxHeartbeats 8000000 in
theorem sadd2 (p1 q1 p2 q2 : Nat) (n1 : Lib.nDigits p1 ≤ 5000) (n2 : Lib.nDigits q1 ≤ 5000) (n3 : Lib.nDigits p2 ≤ 5000) (n4 : Lib.nDigits q2 ≤ 5000) (hp : 0 < q1 * q2) (W : World) :
    Calls Tryz.prog 17 #[sv p1 q1, sv p2 q2] W fun e w' => e = .returned (sv (rn (p1 * q2 + p2 * q1) (q1 * q2)) (rd (p1 * q2 + p2 * q1) (q1 * q2))) ∧ Below W.heap.size W w' := by
  have b1 := nd_mul n1 n4
  have b2 := nd_mul n3 n2
  have b3 := nd_mul n2 n4
  have b4 := nd_add b1 b2
  have CO := mkHid (fun W => over_g p1 q1 p2 q2 (by omega) (by omega) (by omega) (by omega) W)
  have CA := mkHid (fun W => sadd_any (p1 * q2) (p2 * q1) W (by omega) (by omega))
  have CN := mkHid (fun W => snew_pos (p1 * q2 + p2 * q1) (q1 * q2) W hp (by omega) (by omega))
  unfold sv at *
  clear n1 n2 n3 n4 hp b1 b2 b3 b4
  generalize ds (rn (p1 * q2 + p2 * q1) (q1 * q2)) = s at *
  generalize ds (rd (p1 * q2 + p2 * q1) (q1 * q2)) = t at *
  generalize ds (p1 * q2 + p2 * q1) = v at *
  generalize ds (p1 * q2) = x at *
  generalize ds (p2 * q1) = y at *
  generalize ds (q1 * q2) = z at *
  generalize ds p1 = a at *
  generalize ds q1 = b at *
  generalize ds p2 = c at *
  generalize ds q2 = d at *
  have HB := mkHid (((Below.refl W.heap.size W).alloc (Nat.le_refl _) (.cells #[.string a, .string b] 32)).alloc (by simp) (.cells #[.string c, .string d] 32))
  have HR := mkHid (AtS.new ((W.alloc (.cells #[.string a, .string b] 32)).alloc (.cells #[.string c, .string d] 32)) (W.heap.size + 1 + 1) ⟨#[]⟩ ⟨#[]⟩ (by simp))
  replace HB := mkHid (HB.out.alloc (by simp; omega) (.cells #[.string ⟨#[]⟩, .string ⟨#[]⟩] 32))
  go_enter Tryz.func17, Tryz.ntmps17
  go_wp2_with (first
    | (go_at_call 44; (with_reducible refine (CO.out _).mono ?_); rintro e w6 ⟨rfl, hb⟩; have HB := mkHid (blx HB.out hb); have HR := mkHid (HR.out.grows hb); clear hb; obtain ⟨r0, r1, f0, f1⟩ := HR.out)
    | (go_at_call 49; (with_reducible refine (CA.out _).mono ?_); rintro e w6 ⟨rfl, hb⟩; have HB := mkHid (blx HB.out hb); have HR := mkHid (HR.out.grows hb); clear hb; obtain ⟨r0, r1, f0, f1⟩ := HR.out)
    | (go_at_call 34; (with_reducible refine (CN.out _).mono ?_); rintro e w6 ⟨rfl, hb⟩; have HB := mkHid (blx HB.out hb); have HR := mkHid (HR.out.grows hb); have HB := mkHid (HB.out.alloc HB.out.size (.cells #[.string s, .string t] 32)); have HR := mkHid (HR.out.alloc (.cells #[.string s, .string t] 32)); clear hb; obtain ⟨r0, r1, f0, f1⟩ := HR.out))
  refine bodyPost_ret (v := .agg #[.string s, .string t]) (by simp [results, Tryz.results17, go_sem, r0, r1]) rfl ⟨rfl, ?_⟩
  exact setCells_belowB HB.out (W.heap.size + 1 + 1) (by omega) _ _

set_option maxRecDepth 100000 in
set_option maxHeartbeats 8000000 in
theorem ssub2_ok (p1 q1 p2 q2 : Nat) (n1 : Lib.nDigits p1 ≤ 5000) (n2 : Lib.nDigits q1 ≤ 5000) (n3 : Lib.nDigits p2 ≤ 5000) (n4 : Lib.nDigits q2 ≤ 5000) (hp : 0 < q1 * q2) (hle : p2 * q1 ≤ p1 * q2) (W : World) :
    Calls Tryz.prog 14 #[sv p1 q1, sv p2 q2] W fun e w' => e = .returned (.tuple #[sv (rn (p1 * q2 - p2 * q1) (q1 * q2)) (rd (p1 * q2 - p2 * q1) (q1 * q2)), .bool true]) ∧ Below W.heap.size W w' := by
  have b1 := nd_mul n1 n4
  have b2 := nd_mul n3 n2
  have b3 := nd_mul n2 n4
  have b4 := nd_add b1 b2
  have b5 := nd_le (Nat.sub_le (p1 * q2) (p2 * q1)) b1
  have CO := mkHid (fun W => over_g p1 q1 p2 q2 (by omega) (by omega) (by omega) (by omega) W)
  have CA := mkHid (fun W => ssub_ge (p1 * q2) (p2 * q1) W (by omega) hle)
  have CN := mkHid (fun W => snew_pos (p1 * q2 - p2 * q1) (q1 * q2) W hp (by omega) (by omega))
  unfold sv at *
  clear n1 n2 n3 n4 hp hle b1 b2 b3 b4 b5
  generalize ds (rn (p1 * q2 - p2 * q1) (q1 * q2)) = s at *
  generalize ds (rd (p1 * q2 - p2 * q1) (q1 * q2)) = t at *
  generalize ds (p1 * q2 - p2 * q1) = v at *
  generalize ds (p1 * q2) = x at *
  generalize ds (p2 * q1) = y at *
  generalize ds (q1 * q2) = z at *
  generalize ds p1 = a at *
  generalize ds q1 = b at *
  generalize ds p2 = c at *
  generalize ds q2 = d at *
  have HB := mkHid (((Below.refl W.heap.size W).alloc (Nat.le_refl _) (.cells #[.string a, .string b] 32)).alloc (by simp) (.cells #[.string c, .string d] 32))
  have HR := mkHid (AtS.new ((W.alloc (.cells #[.string a, .string b] 32)).alloc (.cells #[.string c, .string d] 32)) (W.heap.size + 1 + 1) ⟨#[]⟩ ⟨#[]⟩ (by simp))
  replace HB := mkHid (HB.out.alloc (by simp; omega) (.cells #[.string ⟨#[]⟩, .string ⟨#[]⟩] 32))
  go_enter Tryz.func14, Tryz.ntmps14
  go_wp2_with (first
    | (go_at_call 44; (with_reducible refine (CO.out _).mono ?_); rintro e w6 ⟨rfl, hb⟩; have HB := mkHid (blx HB.out hb); have HR := mkHid (HR.out.grows hb); clear hb; obtain ⟨r0, r1, f0, f1⟩ := HR.out)
    | (go_at_call 45; (with_reducible refine (CA.out _).mono ?_); rintro e w6 ⟨rfl, hb⟩; have HB := mkHid (blx HB.out hb); have HR := mkHid (HR.out.grows hb); clear hb; obtain ⟨r0, r1, f0, f1⟩ := HR.out)
    | (go_at_call 34; (with_reducible refine (CN.out _).mono ?_); rintro e w6 ⟨rfl, hb⟩; have HB := mkHid (blx HB.out hb); have HR := mkHid (HR.out.grows hb); clear hb; obtain ⟨r0, r1, f0, f1⟩ := HR.out))
  refine bodyPost_ret (v := .tuple #[.agg #[.string s, .string t], .bool true]) (by simp [results, Tryz.results14, go_sem, r0, r1]) rfl ⟨rfl, ?_⟩
  exact setCells_belowB HB.out (W.heap.size + 1 + 1) (by omega) _ _

set_option maxRecDepth 100000 in
set_option maxHeartbeats 8000000 in
theorem ssub2_no (p1 q1 p2 q2 : Nat) (n1 : Lib.nDigits p1 ≤ 5000) (n2 : Lib.nDigits q1 ≤ 5000) (n3 : Lib.nDigits p2 ≤ 5000) (n4 : Lib.nDigits q2 ≤ 5000) (hlt : p1 * q2 < p2 * q1) (W : World) :
    Calls Tryz.prog 14 #[sv p1 q1, sv p2 q2] W fun e w' => e = .returned (.tuple #[sv 0 1, .bool false]) ∧ Below W.heap.size W w' := by
  have CO := mkHid (fun W => over_g p1 q1 p2 q2 (by omega) (by omega) (by omega) (by omega) W)
  have CA := mkHid (fun W => ssub_lt (p1 * q2) (p2 * q1) W hlt)
  have CZ := mkHid szero
  unfold sv at *
  clear n1 n2 n3 n4 hlt
  generalize ds (p1 * q2) = x at *
  generalize ds (p2 * q1) = y at *
  generalize ds (q1 * q2) = z at *
  generalize ds 0 = s at *
  generalize ds 1 = t at *
  generalize ds p1 = a at *
  generalize ds q1 = b at *
  generalize ds p2 = c at *
  generalize ds q2 = d at *
  have HB := mkHid (((Below.refl W.heap.size W).alloc (Nat.le_refl _) (.cells #[.string a, .string b] 32)).alloc (by simp) (.cells #[.string c, .string d] 32))
  have HR := mkHid (AtS.new ((W.alloc (.cells #[.string a, .string b] 32)).alloc (.cells #[.string c, .string d] 32)) (W.heap.size + 1 + 1) ⟨#[]⟩ ⟨#[]⟩ (by simp))
  replace HB := mkHid (HB.out.alloc (by simp; omega) (.cells #[.string ⟨#[]⟩, .string ⟨#[]⟩] 32))
  go_enter Tryz.func14, Tryz.ntmps14
  go_wp2_with (first
    | (go_at_call 44; (with_reducible refine (CO.out _).mono ?_); rintro e w6 ⟨rfl, hb⟩; have HB := mkHid (blx HB.out hb); have HR := mkHid (HR.out.grows hb); clear hb; obtain ⟨r0, r1, f0, f1⟩ := HR.out)
    | (go_at_call 45; (with_reducible refine (CA.out _).mono ?_); rintro e w6 ⟨rfl, hb⟩; have HB := mkHid (blx HB.out hb); have HR := mkHid (HR.out.grows hb); clear hb; obtain ⟨r0, r1, f0, f1⟩ := HR.out)
    | (go_at_call 24; (with_reducible refine (CZ.out _).mono ?_); rintro e w6 ⟨rfl, hb⟩; have HB := mkHid (blx HB.out hb); have HR := mkHid (HR.out.grows hb); clear hb; obtain ⟨r0, r1, f0, f1⟩ := HR.out))
  refine bodyPost_ret (v := .tuple #[.agg #[.string s, .string t], .bool false]) (by simp [results, Tryz.results14, go_sem, r0, r1]) rfl ⟨rfl, ?_⟩
  exact setCells_belowB HB.out (W.heap.size + 1 + 1) (by omega) _ _

set_option maxRecDepth 100000 in
set_option maxHeartbeats 8000000 in
theorem scmp2 (p1 q1 p2 q2 : Nat) (n1 : Lib.nDigits p1 ≤ 5000) (n2 : Lib.nDigits q1 ≤ 5000) (n3 : Lib.nDigits p2 ≤ 5000) (n4 : Lib.nDigits q2 ≤ 5000)  (W : World) :
    Calls Tryz.prog 19 #[sv p1 q1, sv p2 q2] W fun e w' => e = .returned (.int .i64 (Lib.compareInt ((p1 * q2 : Nat) : Int) ((p2 * q1 : Nat) : Int))) ∧ Below W.heap.size W w' := by
  have CO := mkHid (fun W => over_g p1 q1 p2 q2 (by omega) (by omega) (by omega) (by omega) W)
  have CA := mkHid (fun W => rcmp_any (p1 * q2) (p2 * q1) W)
  unfold sv at *
  clear n1 n2 n3 n4
  generalize Lib.compareInt ((p1 * q2 : Nat) : Int) ((p2 * q1 : Nat) : Int) = cv at *
  generalize ds (p1 * q2) = x at *
  generalize ds (p2 * q1) = y at *
  generalize ds (q1 * q2) = z at *
  generalize ds p1 = a at *
  generalize ds q1 = b at *
  generalize ds p2 = c at *
  generalize ds q2 = d at *
  have HB := mkHid (((Below.refl W.heap.size W).alloc (Nat.le_refl _) (.cells #[.string a, .string b] 32)).alloc (by simp) (.cells #[.string c, .string d] 32))
  go_enter Tryz.func19, Tryz.ntmps19
  go_wp2_with (first
    | (go_at_call 44; (with_reducible refine (CO.out _).mono ?_); rintro e w6 ⟨rfl, hb⟩; have HB := mkHid (blx HB.out hb); clear hb)
    | (go_at_call 51; (with_reducible refine (CA.out _).mono ?_); rintro e w6 ⟨rfl, h2⟩; obtain rfl := h2.symm; clear h2))
  go_ret
  exact ⟨rfl, HB.out⟩

theorem AtS.same {w w' : World} {b : Nat} {x y : ByteArray} (H : AtS w b x y) (e : w'.heap[b]? = w.heap[b]?) : AtS w' b x y :=
  ⟨(World.cell?_of_block (a := ⟨b, 0, none⟩) e).trans H.1, (World.cell?_of_block (a := ⟨b, 1, none⟩) e).trans H.2.1, (World.frozen?_of_block (a := ⟨b, 0, none⟩) e).trans H.2.2.1, (World.frozen?_of_block (a := ⟨b, 1, none⟩) e).trans H.2.2.2⟩
theorem AtS.set2 {w : World} {b : Nat} {x y : ByteArray} (H : AtS w b x y) {p : Nat} (hne : b ≠ p) (u v : Value) : AtS ((w.setCell ⟨p, 0, none⟩ u).setCell ⟨p, 1, none⟩ v) b x y :=
  H.same ((Below.heap_setCell _ _ _ _ hne).trans (Below.heap_setCell _ _ _ _ hne))
theorem AtS.set {w : World} {b : Nat} {x y : ByteArray} (H : AtS w b x y) (u v : ByteArray) : AtS ((w.setCell ⟨b, 0, none⟩ (.string u)).setCell ⟨b, 1, none⟩ (.string v)) b u v := by
  obtain ⟨h0, h1, f0, f1⟩ := H
  have hc : ∃ c e fr, w.heap[b]? = some (.cells c e fr) := by
    unfold World.cell? at h0
    split at h0
    · rename_i c e fr hb; exact ⟨c, e, fr, hb⟩
    · simp at h0
  obtain ⟨c, e, fr, hb⟩ := hc
  have hb' : ((w.setCell ⟨b, 0, none⟩ (.string u)).setCell ⟨b, 1, none⟩ (.string v)).heap[b]? = some (.cells ((c.setIfInBounds 0 (.string u)).setIfInBounds 1 (.string v)) e fr) := by
    simp [World.setCell, Array.getElem?_modify, hb]
  simp only [AtS, World.cell?, World.frozen?, hb, hb', Option.isSome_none, Bool.false_eq_true, if_false] at h0 h1 f0 f1 ⊢
  have l0 := (Array.getElem?_eq_some_iff.1 h0).1
  have l1 := (Array.getElem?_eq_some_iff.1 h1).1
  refine ⟨?_, ?_, f0, f1⟩ <;> simp [l0, l1]
theorem BelowS.alloc {W X : World} (h : Below W.heap.size W X) (o : Obj) : Below W.heap.size W (X.alloc o) := h.alloc h.size o

set_option maxRecDepth 100000 in
set_option maxHeartbeats 16000000 in
theorem smul2 (p1 q1 p2 q2 : Nat) (n1 : Lib.nDigits p1 ≤ 5000) (n2 : Lib.nDigits q1 ≤ 5000) (n3 : Lib.nDigits p2 ≤ 5000) (n4 : Lib.nDigits q2 ≤ 5000) (hp : 0 < q1 * q2) (W : World) :
    Calls Tryz.prog 23 #[sv p1 q1, sv p2 q2] W fun e w' => e = .returned (sv (rn (p1 * p2) (q1 * q2)) (rd (p1 * p2) (q1 * q2))) ∧ Below W.heap.size W w' := by
  have b1 := nd_mul n1 n3
  have b2 := nd_mul n2 n4
  have M1 := mkHid (fun W => smul_any p1 p2 W (by omega) (by omega))
  have M2 := mkHid (fun W => smul_any q1 q2 W (by omega) (by omega))
  have CN := mkHid (fun W => snew_pos (p1 * p2) (q1 * q2) W hp (by omega) (by omega))
  unfold sv at *
  clear n1 n2 n3 n4 hp b1 b2
  generalize ds (rn (p1 * p2) (q1 * q2)) = s at *
  generalize ds (rd (p1 * p2) (q1 * q2)) = t at *
  generalize ds (p1 * p2) = x at *
  generalize ds (q1 * q2) = y at *
  generalize ds p1 = a at *
  generalize ds q1 = b at *
  generalize ds p2 = c at *
  generalize ds q2 = d at *
  have hsn := (((Below.refl W.heap.size W).alloc (Nat.le_refl _) (.cells #[.string a, .string b] 32)).alloc (by simp) (.cells #[.string c, .string d] 32)).alloc (by simp; omega) (.cells #[.string ⟨#[]⟩, .string ⟨#[]⟩] 32)
  have H0 := ((AtS.new W W.heap.size a b rfl).alloc (.cells #[.string c, .string d] 32)).alloc (.cells #[.string ⟨#[]⟩, .string ⟨#[]⟩] 32)
  have H1 := (AtS.new (W.alloc (.cells #[.string a, .string b] 32)) (W.heap.size + 1) c d (by simp)).alloc (.cells #[.string ⟨#[]⟩, .string ⟨#[]⟩] 32)
  have x2 := AtS.new ((W.alloc (.cells #[.string a, .string b] 32)).alloc (.cells #[.string c, .string d] 32)) (W.heap.size + 1 + 1) ⟨#[]⟩ ⟨#[]⟩ (by simp)
  obtain ⟨a0, a1, -, -⟩ := H0
  obtain ⟨c0, c1, -, -⟩ := H1
  have hz6 : W.heap.size + 3 ≤ (((W.alloc (.cells #[.string a, .string b] 32)).alloc (.cells #[.string c, .string d] 32)).alloc (.cells #[.string ⟨#[]⟩, .string ⟨#[]⟩] 32)).heap.size := by simp
  go_enter Tryz.func23, Tryz.ntmps23
  go_upto_region 1 with (fail)
  generalize ((W.alloc (.cells #[.string a, .string b] 32)).alloc (.cells #[.string c, .string d] 32)).alloc (.cells #[.string ⟨#[]⟩, .string ⟨#[]⟩] 32) = w6 at *
  go_cut [5, 6] (fun v v' wx => ∃ j : Nat, v = .pointer (some ⟨j, 0, none⟩) ∧ v' = .bool true ∧ W.heap.size + 3 ≤ j ∧ Hid (AtS wx j s t ∧ Below W.heap.size W wx ∧ AtS wx (W.heap.size + 1 + 1) ⟨#[]⟩ ⟨#[]⟩))
  case first =>
    go_region_held3 (fun X => Below W.heap.size W X ∧ X.cell? ⟨W.heap.size, 0, none⟩ = some (.string a) ∧ X.cell? ⟨W.heap.size, 1, none⟩ = some (.string b) ∧ X.cell? ⟨W.heap.size + 1, 0, none⟩ = some (.string c) ∧ X.cell? ⟨W.heap.size + 1, 1, none⟩ = some (.string d) ∧ AtS X (W.heap.size + 1 + 1) ⟨#[]⟩ ⟨#[]⟩)
      (first
        | (with_reducible exact ⟨blx hS.1 hb, St.cell hb hS.2.1, St.cell hb hS.2.2.1, St.cell hb hS.2.2.2.1, St.cell hb hS.2.2.2.2.1, hS.2.2.2.2.2.grows hb⟩)
        | (have hT : Below W.heap.size W _ ∧ _ := (by assumption); with_reducible exact ⟨BelowS.alloc (hT.1) _, cellAl (hT.2.1) _, cellAl (hT.2.2.1) _, cellAl (hT.2.2.2.1) _, cellAl (hT.2.2.2.2.1) _, (hT.2.2.2.2.2).alloc _⟩)
        | (with_reducible exact ⟨BelowS.alloc (blx hS.1 hb) _, cellAl (St.cell hb hS.2.1) _, cellAl (St.cell hb hS.2.2.1) _, cellAl (St.cell hb hS.2.2.2.1) _, cellAl (St.cell hb hS.2.2.2.2.1) _, (hS.2.2.2.2.2.grows hb).alloc _⟩)
        | (have hT : Below W.heap.size W _ ∧ _ := (by assumption); exact ⟨setCells_belowB (hT.1) _ (by omega) _ _, cellSet2 (hT.2.1) (by omega) _ _, cellSet2 (hT.2.2.1) (by omega) _ _, cellSet2 (hT.2.2.2.1) (by omega) _ _, cellSet2 (hT.2.2.2.2.1) (by omega) _ _, (hT.2.2.2.2.2).set2 (by omega) _ _⟩)
        | exact ⟨hsn.drew, a0, a1, c0, c1, x2.drew⟩
        | exact ⟨(BelowS.alloc hsn _).drew, cellAl a0 _, cellAl a1 _, cellAl c0 _, cellAl c1 _, (x2.alloc _).drew⟩)
      (first
        | (go_at_call 52; (with_reducible refine (M1.out _).mono ?_); rintro e w6 ⟨rfl, hb⟩; have hS : Below W.heap.size W _ ∧ _ := (by assumption); (first | (have hz := HZ.out.grows hb; (have HZ := mkHid hz); obtain ⟨z0, z1, z2, z3⟩ := hz) | (have hz := (AtS.new _ _ ⟨#[]⟩ ⟨#[]⟩ rfl).grows hb; (try simp only [World.size_alloc] at hz); (have HZ := mkHid hz); obtain ⟨z0, z1, z2, z3⟩ := hz) | (have hz := (AtS.new _ _ ⟨#[]⟩ ⟨#[]⟩ rfl).drew.grows hb; (try simp only [World.size_alloc] at hz); (have HZ := mkHid hz); obtain ⟨z0, z1, z2, z3⟩ := hz) | skip); have h9 := hb.size; (try simp at h9); have hz6 : W.heap.size + 3 ≤ w6.heap.size := (by have h8 := hz6; omega))
        | (go_at_call 52; (with_reducible refine (M2.out _).mono ?_); rintro e w6 ⟨rfl, hb⟩; have hS : Below W.heap.size W _ ∧ _ := (by assumption); (first | (have hz := HZ.out.grows hb; (have HZ := mkHid hz); obtain ⟨z0, z1, z2, z3⟩ := hz) | (have hz := (AtS.new _ _ ⟨#[]⟩ ⟨#[]⟩ rfl).grows hb; (try simp only [World.size_alloc] at hz); (have HZ := mkHid hz); obtain ⟨z0, z1, z2, z3⟩ := hz) | (have hz := (AtS.new _ _ ⟨#[]⟩ ⟨#[]⟩ rfl).drew.grows hb; (try simp only [World.size_alloc] at hz); (have HZ := mkHid hz); obtain ⟨z0, z1, z2, z3⟩ := hz) | skip); have h9 := hb.size; (try simp at h9); have hz6 : W.heap.size + 3 ≤ w6.heap.size := (by have h8 := hz6; omega))
        | (go_at_call 34; (with_reducible refine (CN.out _).mono ?_); rintro e w6 ⟨rfl, hb⟩; have hS : Below W.heap.size W _ ∧ _ := (by assumption); (first | (have hz := HZ.out.grows hb; (have HZ := mkHid hz); obtain ⟨z0, z1, z2, z3⟩ := hz) | (have hz := (AtS.new _ _ ⟨#[]⟩ ⟨#[]⟩ rfl).grows hb; (try simp only [World.size_alloc] at hz); (have HZ := mkHid hz); obtain ⟨z0, z1, z2, z3⟩ := hz) | (have hz := (AtS.new _ _ ⟨#[]⟩ ⟨#[]⟩ rfl).drew.grows hb; (try simp only [World.size_alloc] at hz); (have HZ := mkHid hz); obtain ⟨z0, z1, z2, z3⟩ := hz) | skip); have h9 := hb.size; (try simp at h9); have hz6 : W.heap.size + 3 ≤ w6.heap.size := (by have h8 := hz6; omega)))
    all_goals
      have hT : Below W.heap.size W _ ∧ _ := (by assumption)
      have HT := mkHid hT.1
      have HU := mkHid hT.2.2.2.2.2
      clear hT
      go_wp2_with fail
      go_meet
      refine ⟨_, rfl, rfl, (by first | omega | (simp; omega) | simp), mkHid ⟨?_, HT.out, HU.out⟩⟩
      first
        | (with_reducible exact AtS.new _ _ s t (by simp))
        | (with_reducible exact AtS.set HZ.out s t)
        | (with_reducible exact AtS.set (AtS.new _ _ ⟨#[]⟩ ⟨#[]⟩ rfl) s t)
  case rest =>
    obtain ⟨j, rfl, rfl, hj, H⟩ := hcut
    obtain ⟨⟨g0, g1, -, -⟩, hs, r0, r1, f0, f1⟩ := H.out
    have HSS := mkHid hs
    clear hs H
    go_wp2_with fail
    refine bodyPost_ret (v := .agg #[.string s, .string t]) (by simp [results, Tryz.results23, go_sem, r0, r1]) rfl ⟨rfl, ?_⟩
    exact setCells_belowB HSS.out (W.heap.size + 1 + 1) (by omega) _ _

set_option maxRecDepth 100000 in
set_option maxHeartbeats 4000000 in
theorem sdiv2_no (p1 q1 q2 : Nat) (W : World) :
    Calls Tryz.prog 21 #[sv p1 q1, sv 0 q2] W fun e w' => e = .returned (.tuple #[sv 0 1, .bool false]) ∧ Below W.heap.size W w' := by
  have CZ := mkHid szero
  unfold sv at *
  rw [ds_zero] at *
  generalize ds 1 = t at *
  generalize ds p1 = a at *
  generalize ds q1 = b at *
  generalize ds q2 = d at *
  have HB := mkHid (((Below.refl W.heap.size W).alloc (Nat.le_refl _) (.cells #[.string a, .string b] 32)).alloc (by simp) (.cells #[.string ⟨#[48]⟩, .string d] 32))
  have HR := mkHid (AtS.new ((W.alloc (.cells #[.string a, .string b] 32)).alloc (.cells #[.string ⟨#[48]⟩, .string d] 32)) (W.heap.size + 1 + 1) ⟨#[]⟩ ⟨#[]⟩ (by simp))
  replace HB := mkHid (HB.out.alloc (by simp; omega) (.cells #[.string ⟨#[]⟩, .string ⟨#[]⟩] 32))
  go_enter Tryz.func21, Tryz.ntmps21
  go_wp2_with (go_at_call 24; (with_reducible refine (CZ.out _).mono ?_); rintro e w6 ⟨rfl, hb⟩; have HB := mkHid (blx HB.out hb); have HR := mkHid (HR.out.grows hb); clear hb; obtain ⟨r0, r1, f0, f1⟩ := HR.out)
  refine bodyPost_ret (v := .tuple #[.agg #[.string ⟨#[48]⟩, .string t], .bool false]) (by simp [results, Tryz.results21, go_sem, r0, r1]) rfl ⟨rfl, ?_⟩
  exact setCells_belowB HB.out (W.heap.size + 1 + 1) (by omega) _ _

set_option maxRecDepth 100000 in
set_option maxHeartbeats 16000000 in
theorem sdiv2_ok (p1 q1 p2 q2 : Nat) (n1 : Lib.nDigits p1 ≤ 5000) (n2 : Lib.nDigits q1 ≤ 5000) (n3 : Lib.nDigits p2 ≤ 5000) (n4 : Lib.nDigits q2 ≤ 5000) (h0 : p2 ≠ 0) (hp : 0 < q1 * p2) (W : World) :
    Calls Tryz.prog 21 #[sv p1 q1, sv p2 q2] W fun e w' => e = .returned (.tuple #[sv (rn (p1 * q2) (q1 * p2)) (rd (p1 * q2) (q1 * p2)), .bool true]) ∧ Below W.heap.size W w' := by
  have b1 := nd_mul n1 n4
  have b2 := nd_mul n2 n3
  have M1 := mkHid (fun W => smul_any p1 q2 W (by omega) (by omega))
  have M2 := mkHid (fun W => smul_any q1 p2 W (by omega) (by omega))
  have CN := mkHid (fun W => snew_pos (p1 * q2) (q1 * p2) W hp (by omega) (by omega))
  have hne := ds_ne_zero h0
  unfold sv at *
  clear n1 n2 n3 n4 hp b1 b2 h0
  generalize ds (rn (p1 * q2) (q1 * p2)) = s at *
  generalize ds (rd (p1 * q2) (q1 * p2)) = t at *
  generalize ds (p1 * q2) = x at *
  generalize ds (q1 * p2) = y at *
  generalize ds p1 = a at *
  generalize ds q1 = b at *
  generalize ds p2 = c at *
  generalize ds q2 = d at *
  have hsn := (((Below.refl W.heap.size W).alloc (Nat.le_refl _) (.cells #[.string a, .string b] 32)).alloc (by simp) (.cells #[.string c, .string d] 32)).alloc (by simp; omega) (.cells #[.string ⟨#[]⟩, .string ⟨#[]⟩] 32)
  have H0 := ((AtS.new W W.heap.size a b rfl).alloc (.cells #[.string c, .string d] 32)).alloc (.cells #[.string ⟨#[]⟩, .string ⟨#[]⟩] 32)
  have H1 := (AtS.new (W.alloc (.cells #[.string a, .string b] 32)) (W.heap.size + 1) c d (by simp)).alloc (.cells #[.string ⟨#[]⟩, .string ⟨#[]⟩] 32)
  have x2 := Bxn.new ((W.alloc (.cells #[.string a, .string b] 32)).alloc (.cells #[.string c, .string d] 32)) (W.heap.size + 1 + 1) #[.string ⟨#[]⟩, .string ⟨#[]⟩] 32 (by simp)
  obtain ⟨a0, a1, -, -⟩ := H0
  obtain ⟨c0, c1, -, -⟩ := H1
  go_enter Tryz.func21, Tryz.ntmps21
  go_upto_region 3 with (fail)
  go_region_held3 (fun X => Below W.heap.size W X ∧ X.cell? ⟨W.heap.size, 0, none⟩ = some (.string a) ∧ X.cell? ⟨W.heap.size, 1, none⟩ = some (.string b) ∧ X.cell? ⟨W.heap.size + 1, 0, none⟩ = some (.string c) ∧ X.cell? ⟨W.heap.size + 1, 1, none⟩ = some (.string d) ∧ Bxn X (W.heap.size + 1 + 1) 2)
    (first
      | (with_reducible exact ⟨blx hS.1 hb, St.cell hb hS.2.1, St.cell hb hS.2.2.1, St.cell hb hS.2.2.2.1, St.cell hb hS.2.2.2.2.1, hS.2.2.2.2.2.grows hb⟩)
      | exact ⟨hsn.drew, a0, a1, c0, c1, x2.drew⟩
      | (have hP : Below W.heap.size W w6 ∧ _ := (by assumption); exact ⟨setCells_belowB (hP.1) _ (by omega) _ _, cellSet2 (hP.2.1) (by omega) _ _, cellSet2 (hP.2.2.1) (by omega) _ _, cellSet2 (hP.2.2.2.1) (by omega) _ _, cellSet2 (hP.2.2.2.2.1) (by omega) _ _, (hP.2.2.2.2.2).set2 _ _ _⟩))
    (first
      | (go_at_call 52; (with_reducible refine (M1.out _).mono ?_); rintro e w6 ⟨rfl, hb⟩; have hS : Below W.heap.size W _ ∧ _ := (by assumption))
      | (go_at_call 52; (with_reducible refine (M2.out _).mono ?_); rintro e w6 ⟨rfl, hb⟩; have hS : Below W.heap.size W _ ∧ _ := (by assumption))
      | (go_at_call 34; (with_reducible refine (CN.out _).mono ?_); rintro e w6 ⟨rfl, hb⟩; have hS : Below W.heap.size W _ ∧ _ := (by assumption); obtain ⟨v0, v1, ⟨r0, r1⟩, f0, f1⟩ := (hS.2.2.2.2.2.grows hb).facts2))
  have hT : Below W.heap.size W _ ∧ _ := (by assumption)
  have HT := mkHid hT.1
  clear hT
  go_wp2_with fail
  refine bodyPost_ret (v := .tuple #[.agg #[.string s, .string t], .bool true]) (by simp [results, Tryz.results21, go_sem, r0, r1]) rfl ⟨rfl, ?_⟩
  exact HT.out

set_option maxRecDepth 100000 in
set_option maxHeartbeats 4000000 in
theorem ref_zero (a b : ByteArray) (n : Nat) (h : Taken a b n 0) (W : World) :
    Calls Tryz.prog 15 #[.agg #[.string a, .string b]] W fun e w' => e = .returned (sv (rn n 1) (rd n 1)) ∧ Below W.heap.size W w' := by
  have DA := mkHid h.da
  have DB := h.db
  have CN := mkHid (fun W => snew_pos n 1 W (by omega) (Nat.le_trans h.nn (by omega)) (by rw [show Lib.nDigits 1 = 1 from Lib.nDigits_small (by omega)]; omega))

  unfold sv at *
  rw [ds_zero] at DB
  rw [ds_1] at *
  replace DB := mkHid DB
  clear h
  generalize ds (rn n 1) = s at *
  generalize ds (rd n 1) = t at *
  generalize ds n = x at *

  have HB := mkHid (((Below.refl W.heap.size W).alloc (Nat.le_refl _) (.cells #[.string a, .string b] 37)).alloc (by simp) (.cells #[.string ⟨#[]⟩, .string ⟨#[]⟩] 32))
  have HV := mkHid ((AtV.new W W.heap.size a b rfl).alloc (.cells #[.string ⟨#[]⟩, .string ⟨#[]⟩] 32))
  have HR := mkHid (AtS.new (W.alloc (.cells #[.string a, .string b] 37)) (W.heap.size + 1) ⟨#[]⟩ ⟨#[]⟩ (by simp))
  obtain ⟨i0, i1⟩ := HV.out
  go_enter Tryz.func15, Tryz.ntmps15
  go_wp2_with (first
    | (go_at_call 46; (with_reducible refine (DB.out _).mono ?_); rintro e w6 ⟨rfl, h2⟩; obtain rfl := h2.symm; clear h2)
    | (go_at_call 46; (with_reducible refine (DA.out _).mono ?_); rintro e w6 ⟨rfl, h2⟩; obtain rfl := h2.symm; clear h2)
    | (go_at_call 34; (with_reducible refine (CN.out _).mono ?_); rintro e w6 ⟨rfl, hb⟩; have HB := mkHid (blx HB.out hb); have HR := mkHid (HR.out.grows hb); have HB := mkHid (HB.out.alloc HB.out.size (.cells #[.string s, .string t] 32)); have HR := mkHid (HR.out.alloc (.cells #[.string s, .string t] 32)); clear hb; obtain ⟨r0, r1, f0, f1⟩ := HR.out))
  refine bodyPost_ret (v := .agg #[.string s, .string t]) (by simp [results, Tryz.results15, go_sem, r0, r1]) rfl ⟨rfl, ?_⟩
  exact setCells_belowB HB.out (W.heap.size + 1) (by omega) _ _

set_option maxRecDepth 100000 in
set_option maxHeartbeats 4000000 in
theorem ref_pos (a b : ByteArray) (n d : Nat) (h : Taken a b n d) (h0 : d ≠ 0) (W : World) :
    Calls Tryz.prog 15 #[.agg #[.string a, .string b]] W fun e w' => e = .returned (sv (rn n d) (rd n d)) ∧ Below W.heap.size W w' := by
  have DA := mkHid h.da
  have DB := h.db
  have CN := mkHid (fun W => snew_pos n d W (by omega) (Nat.le_trans h.nn (by omega)) (Nat.le_trans h.nd (by omega)))
  have hne := ds_ne_zero h0
  unfold sv at *
  
  
  replace DB := mkHid DB
  clear h h0
  generalize ds (rn n d) = s at *
  generalize ds (rd n d) = t at *
  generalize ds n = x at *
  generalize ds d = y at *
  have HB := mkHid (((Below.refl W.heap.size W).alloc (Nat.le_refl _) (.cells #[.string a, .string b] 37)).alloc (by simp) (.cells #[.string ⟨#[]⟩, .string ⟨#[]⟩] 32))
  have HV := mkHid ((AtV.new W W.heap.size a b rfl).alloc (.cells #[.string ⟨#[]⟩, .string ⟨#[]⟩] 32))
  have HR := mkHid (AtS.new (W.alloc (.cells #[.string a, .string b] 37)) (W.heap.size + 1) ⟨#[]⟩ ⟨#[]⟩ (by simp))
  obtain ⟨i0, i1⟩ := HV.out
  go_enter Tryz.func15, Tryz.ntmps15
  go_wp2_with (first
    | (go_at_call 46; (with_reducible refine (DB.out _).mono ?_); rintro e w6 ⟨rfl, h2⟩; obtain rfl := h2.symm; clear h2)
    | (go_at_call 46; (with_reducible refine (DA.out _).mono ?_); rintro e w6 ⟨rfl, h2⟩; obtain rfl := h2.symm; clear h2)
    | (go_at_call 34; (with_reducible refine (CN.out _).mono ?_); rintro e w6 ⟨rfl, hb⟩; have HB := mkHid (blx HB.out hb); have HR := mkHid (HR.out.grows hb); have HB := mkHid (HB.out.alloc HB.out.size (.cells #[.string s, .string t] 32)); have HR := mkHid (HR.out.alloc (.cells #[.string s, .string t] 32)); clear hb; obtain ⟨r0, r1, f0, f1⟩ := HR.out))
  refine bodyPost_ret (v := .agg #[.string s, .string t]) (by simp [results, Tryz.results15, go_sem, r0, r1]) rfl ⟨rfl, ?_⟩
  exact setCells_belowB HB.out (W.heap.size + 1) (by omega) _ _

theorem ref_g (a b : ByteArray) (n d : Nat) (h : Taken a b n d) (W : World) :
    Calls Tryz.prog 15 #[.agg #[.string a, .string b]] W fun e w' => e = .returned (sv (rn n (pos1 d)) (rd n (pos1 d))) ∧ Below W.heap.size W w' := by
  by_cases h0 : d = 0
  · subst h0; exact ref_zero a b n h W
  · have := ref_pos a b n d h h0 W
    unfold pos1; rw [if_neg h0]; exact this
end Go.Proofs.YtflcdpolfimggaaGreatDoor
