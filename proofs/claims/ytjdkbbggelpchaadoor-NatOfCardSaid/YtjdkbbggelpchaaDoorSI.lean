/- Contracts of the specification of layer 1: Of, Add, Sub. -/
import Derived.Test.YtjdkbbggelpchaaDoorSG
namespace Go.Proofs.YtjdkbbggelpchaaDoor
open Go.RowKit SD

theorem OwnD.snoc {w : World} {base : Nat} {v : Value} {L : List Nat} {y : Nat} (h : w.ownsRow base 3 1 v (L.length + 1) (L.map iv ++ [.int .i64 (y : Int)])) : OwnD w base v (L ++ [y]) := by
  unfold OwnD; rw [List.map_append, List.length_append]; exact h
theorem dig_snoc {L : List Nat} {y : Nat} (h : ∀ x ∈ L, x < 10) (hy : y < 10) : ∀ x ∈ L ++ [y], x < 10 := by
  intro x hx; rcases List.mem_append.1 hx with h1 | h1
  · exact h x h1
  · simp at h1; omega
theorem below_trans {B : Nat} {a b c : World} (h1 : Below B a b) (h2 : Below b.heap.size b c) (hB : B ≤ b.heap.size) : Below B a c := h1.trans (h2.mono hB)

/-- What Of's loop keeps. -/
structure OfI (w wr : World) (n m : Nat) (lv : Value) (L : List Nat) : Prop where
  own : OwnD wr w.heap.size lv L
  below : Below w.heap.size w wr
  val : val L + 10 ^ L.length * m = n
  dig : ∀ x ∈ L, x < 10
  lt : m < 10 ^ (20 - L.length)
  len : L.length ≤ 20
theorem OfI.step {w wr w7 : World} {n m : Nat} {lv v' : Value} {L : List Nat} (h : OfI w wr n m lv L) (hm : 0 < m) (ho : OwnD w7 w.heap.size v' (L ++ [m % 10])) (hb : Below w.heap.size w w7) : OfI w w7 n (m / 10) v' (L ++ [m % 10]) := by
  have hl := h.lt
  have h20 : L.length < 20 := by
    apply Nat.lt_of_not_le; intro hle
    rw [show 20 - L.length = 0 by omega] at hl
    omega
  refine ⟨ho, hb, ?_, dig_snoc h.dig (by omega), ?_, by simp; omega⟩
  · rw [val_snoc, List.length_append, List.length_singleton, Nat.pow_succ, ← h.val, Nat.add_assoc, Nat.mul_assoc, ← Nat.mul_add]
    congr 2; omega
  · rw [List.length_append, List.length_singleton]
    have e : 20 - L.length = (20 - (L.length + 1)) + 1 := by omega
    rw [e, Nat.pow_succ] at hl
    omega
set_option maxRecDepth 100000 in
set_option maxHeartbeats 4000000 in
theorem sof_any (n : Nat) (w : World) (hn : n < 18446744073709551616) :
    Calls Tryd.prog 26 #[.int .u64 (n : Int)] w fun e w' => e = .returned (.string (ds n)) ∧ Below w.heap.size w w' := by
  obtain ⟨i0, hi, hz0, hz1, hz2⟩ := info_parts infoI
  have hi' := Lib.hid hi; have hz0' := Lib.hid hz0; have hz1' := Lib.hid hz1; have hz2' := Lib.hid hz2; clear hi hz0 hz1 hz2
  go_enter Tryd.func26, Tryd.ntmps26
  go_wp2
  go_loopw [0, 3] (fun nv lv wr => ∃ (m : Nat) (L : List Nat), nv = .int .u64 (m : Int) ∧ m < 18446744073709551616 ∧ Hid (OfI w wr n m lv L)) (fun nv _ _ => (intOf nv).toNat)
  case atStart => exact ⟨n, [], rfl, hn, mkHid ⟨OwnD.nil _ _, Below.refl _ _, by simp [val], by simp, by simp; omega, by simp⟩⟩
  case round =>
    obtain ⟨m, L, rfl, hm64, H⟩ := hrel
    rcases Nat.eq_zero_or_pos m with rfl | hm
    · have hf := form_any _ L wr H.out.own.dg H.out.dig (by have := H.out.len; omega)
      have hv : val L = n := by have := H.out.val; simpa using this
      rw [hv] at hf
      have HF := mkHid hf
      have HBW := mkHid H.out.below
      clear hf hv H
      go_wp2_with (go_at_call 40; refine (HF.out).mono ?_; rintro e w2 ⟨rfl, HB2⟩)
      go_ret
      exact ⟨rfl, below_trans HBW.out HB2 HBW.out.size⟩
    · have hm0 : (0 : Int) < (m : Int) := by omega
      have e1 : (m : Int).tmod 10 = ((m % 10 : Nat) : Int) := by rw [Int.tmod_eq_emod_of_nonneg (by omega)]; omega
      have e2 : (m : Int).tdiv 10 = ((m / 10 : Nat) : Int) := by rw [Int.tdiv_eq_ediv_of_nonneg (by omega)]; omega
      have e3 : IntKind.u64.wrap ((m % 10 : Nat) : Int) = ((m % 10 : Nat) : Int) := by rw [IntKind.wrap_u64]; omega
      have e5 : IntKind.i64.wrap ((m % 10 : Nat) : Int) = ((m % 10 : Nat) : Int) := IntWalk.i64_in _ (by omega)
      have e4 : IntKind.u64.wrap ((m / 10 : Nat) : Int) = ((m / 10 : Nat) : Int) := by rw [IntKind.wrap_u64]; omega
      have HW := mkHid H.out.own
      have HBW := mkHid H.out.below
      have hLl : L.length ≤ 20 := H.out.len
      generalize hy : m % 10 = y at *
      generalize hz : m / 10 = z at *
      have hzm : z < m := by omega
      have hz64 : z < 18446744073709551616 := by omega
      have HYZ := mkHid (And.intro hy hz)
      clear hy hz
      go_wp2_with (at_builtin; refine wpList_append_own _ rfl _ _ 64 rfl w.heap.size 3 i0 (.int .i64 0) 1 8 Tryd.underlying64 hi'.out hz0'.out hz1'.out hz2'.out rfl (by decide) _ _ _ rfl (World.ownsRow.alloc HW.out _) ⟨wr.heap.size, 0, none⟩ 1 1 [.int .i64 ((y : Nat) : Int)] rfl rfl ?c1 ?c2 ?c3 ?c4 ?c5 ?_)
      case c1 => exact new_list wr #[.int .i64 ((y : Nat) : Int)] 3
      case c2 => intro u hu; simp only [List.mem_cons, List.not_mem_nil, or_false] at hu; subst hu; rfl
      case c3 => first | omega | (unfold maxLen; omega)
      case c4 => first | omega | (unfold maxLen at *; omega)
      case c5 => have := HBW.out.size; simp; omega
      intro v' w7 hown' hgrow _
      have HN := mkHid (OwnD.snoc hown')
      have HG := mkHid (((HBW.out).alloc HBW.out.size (.cells #[.int .i64 ((y : Nat) : Int)] 3)).grown hgrow (by have := HBW.out.size; simp; omega) (fun k hk => (World.ownsRow.lt HW.out k hk).1))
      clear hown' hgrow
      go_wp2
      go_roundw
      case rel => exact ⟨z, L ++ [y], rfl, hz64, mkHid (by
        have h1 := HYZ.out.1; have h2 := HYZ.out.2
        subst h1; subst h2
        exact H.out.step hm HN.out HG.out)⟩
      case measure => simp [intOf]; omega

/-- What Add's loop keeps. -/
structure AddI (w wr : World) (a b c : Nat) (lv : Value) (L : List Nat) : Prop where
  own : OwnD wr w.heap.size lv L
  below : Below w.heap.size w wr
  val : val L + 10 ^ L.length * c = a % 10 ^ L.length + b % 10 ^ L.length
  dig : ∀ x ∈ L, x < 10
theorem AddI.step {w wr w7 : World} {a b c : Nat} {lv v' : Value} {L : List Nat} (h : AddI w wr a b c lv L) (ho : OwnD w7 w.heap.size v' (L ++ [(dg a L.length + dg b L.length + c) % 10])) (hb : Below w.heap.size w w7) : AddI w w7 a b ((dg a L.length + dg b L.length + c) / 10) v' (L ++ [(dg a L.length + dg b L.length + c) % 10]) := by
  refine ⟨ho, hb, ?_, dig_snoc h.dig (by omega)⟩
  have hv := h.val
  rw [val_snoc, List.length_append, List.length_singleton, pow_split, pow_split, Nat.pow_succ]
  generalize dg a L.length = x at *
  generalize dg b L.length = y at *
  have e : 10 ^ L.length * ((x + y + c) % 10) + 10 ^ L.length * 10 * ((x + y + c) / 10) = 10 ^ L.length * x + 10 ^ L.length * y + 10 ^ L.length * c := by
    rw [Nat.mul_assoc, ← Nat.mul_add, ← Nat.mul_add, ← Nat.mul_add]
    congr 1; omega
  omega
set_option maxRecDepth 100000 in
set_option maxHeartbeats 8000000 in
theorem sadd_any (a b : Nat) (w : World) (ha : Lib.nDigits a ≤ 200000) (hb : Lib.nDigits b ≤ 200000) :
    Calls Tryd.prog 13 #[.string (ds a), .string (ds b)] w fun e w' => e = .returned (.string (ds (a + b))) ∧ Below w.heap.size w w' := by
  obtain ⟨i0, hi, hz0, hz1, hz2⟩ := info_parts infoI
  have hi' := Lib.hid hi; have hz0' := Lib.hid hz0; have hz1' := Lib.hid hz1; have hz2' := Lib.hid hz2; clear hi hz0 hz1 hz2
  have la := ds_size a
  have lb := ds_size b
  go_enter Tryd.func13, Tryd.ntmps13
  go_wp2
  go_loopw [5, 6, 7] (fun lv cv nv wr => ∃ (L : List Nat) (c : Nat), cv = .int .i64 (c : Int) ∧ nv = .int .i64 (L.length : Int) ∧ c ≤ 1 ∧ L.length + c ≤ 200001 ∧ Hid (AddI w wr a b c lv L)) (fun _ cv nv _ => (2 * (600000 - intOf nv) + intOf cv).toNat)
  case atStart => exact ⟨[], 0, rfl, rfl, by omega, by simp, mkHid ⟨OwnD.nil _ _, Below.refl _ _, by simp [val, Nat.mod_one], by simp⟩⟩
  case round =>
    obtain ⟨L, c, rfl, rfl, hc, hk, H⟩ := hrel
    by_cases h1 : L.length < Lib.nDigits a
    · have h1' : (L.length : Int) < (Lib.nDigits a : Int) := by omega
      have HDA := mkHid (digit_any a L.length wr (by omega))
      have HDB := mkHid (digit_any b L.length wr (by omega))
      have HDL := mkHid (And.intro (dg_lt a L.length) (dg_lt b L.length))
      generalize hx1 : dg a L.length = x1 at *
      generalize hx2 : dg b L.length = x2 at *
      have hx1l : x1 < 10 := HDL.out.1
      have hx2l : x2 < 10 := HDL.out.2
      have HW := mkHid H.out.own
      have HBW := mkHid H.out.below
      have e1 : IntKind.i64.wrap ((x1 : Int) + (x2 : Int)) = (x1 : Int) + (x2 : Int) := IntWalk.i64_in _ (by omega)
      have e2 : IntKind.i64.wrap ((x1 : Int) + (x2 : Int) + (c : Int)) = ((x1 + x2 + c : Nat) : Int) := by rw [IntWalk.i64_in _ (by omega)]; omega
      have e3 : ((x1 + x2 + c : Nat) : Int).tmod 10 = (((x1 + x2 + c) % 10 : Nat) : Int) := by rw [Int.tmod_eq_emod_of_nonneg (by omega)]; omega
      have e4 : IntKind.i64.wrap (((x1 + x2 + c) % 10 : Nat) : Int) = (((x1 + x2 + c) % 10 : Nat) : Int) := IntWalk.i64_in _ (by omega)
      have e5 : ((x1 + x2 + c : Nat) : Int).tdiv 10 = (((x1 + x2 + c) / 10 : Nat) : Int) := by rw [Int.tdiv_eq_ediv_of_nonneg (by omega)]; omega
      have e6 : IntKind.i64.wrap (((x1 + x2 + c) / 10 : Nat) : Int) = (((x1 + x2 + c) / 10 : Nat) : Int) := IntWalk.i64_in _ (by omega)
      have hz1 : (x1 + x2 + c) / 10 ≤ 1 := by omega
      have e7 : IntKind.i64.wrap ((L.length : Int) + 1) = (L.length : Int) + 1 := IntWalk.i64_in _ (by omega)
      generalize hs : x1 + x2 + c = s at *
      generalize hy : s % 10 = y at *
      generalize hz : s / 10 = z at *
      have HYZ := mkHid (And.intro hx1 (And.intro hx2 (And.intro hs (And.intro hy hz))))
      have hkk : L.length + 1 + z ≤ 200001 := by omega
      clear hx1 hx2 hs hy hz
      go_wp2_with (first
        | (go_at_call 39; with_reducible refine (HDA.out).mono ?_; rintro e w2 ⟨rfl, h2⟩; obtain rfl := h2.symm; clear h2)
        | (go_at_call 39; with_reducible refine (HDB.out).mono ?_; rintro e w2 ⟨rfl, h2⟩; obtain rfl := h2.symm; clear h2)
        | (at_builtin; refine wpList_append_own _ rfl _ _ 64 rfl w.heap.size 3 i0 (.int .i64 0) 1 8 Tryd.underlying64 hi'.out hz0'.out hz1'.out hz2'.out rfl (by decide) _ _ _ rfl (World.ownsRow.alloc HW.out _) ⟨wr.heap.size, 0, none⟩ 1 1 [.int .i64 ((y : Nat) : Int)] rfl rfl ?c1 ?c2 ?c3 ?c4 ?c5 ?_))
      case c1 => exact new_list wr #[.int .i64 ((y : Nat) : Int)] 3
      case c2 => intro u hu; simp only [List.mem_cons, List.not_mem_nil, or_false] at hu; subst hu; rfl
      case c3 => first | omega | (unfold maxLen; omega)
      case c4 => first | omega | (unfold maxLen at *; omega)
      case c5 => have := HBW.out.size; simp; omega
      intro v' w7 hown' hgrow _
      have HN := mkHid (OwnD.snoc hown')
      have HG := mkHid (((HBW.out).alloc HBW.out.size (.cells #[.int .i64 ((y : Nat) : Int)] 3)).grown hgrow (by have := HBW.out.size; simp; omega) (fun k hk => (World.ownsRow.lt HW.out k hk).1))
      clear hown' hgrow
      go_wp2
      go_roundw
      case rel => exact ⟨L ++ [y], z, rfl, by simp, hz1, by rw [List.length_append, List.length_singleton]; exact hkk, mkHid (by
        obtain ⟨h1, h2, h3, h4, h5⟩ := HYZ.out
        subst h5; subst h4; subst h3; subst h2; subst h1
        exact H.out.step HN.out HG.out)⟩
      case measure => simp [intOf]; omega
    · have h1' : ¬ (L.length : Int) < (Lib.nDigits a : Int) := by omega
      by_cases h2 : L.length < Lib.nDigits b
      · have h2' : (L.length : Int) < (Lib.nDigits b : Int) := by omega
        have HDA := mkHid (digit_any a L.length wr (by omega))
        have HDB := mkHid (digit_any b L.length wr (by omega))
        have HDL := mkHid (And.intro (dg_lt a L.length) (dg_lt b L.length))
        generalize hx1 : dg a L.length = x1 at *
        generalize hx2 : dg b L.length = x2 at *
        have hx1l : x1 < 10 := HDL.out.1
        have hx2l : x2 < 10 := HDL.out.2
        have HW := mkHid H.out.own
        have HBW := mkHid H.out.below
        have e1 : IntKind.i64.wrap ((x1 : Int) + (x2 : Int)) = (x1 : Int) + (x2 : Int) := IntWalk.i64_in _ (by omega)
        have e2 : IntKind.i64.wrap ((x1 : Int) + (x2 : Int) + (c : Int)) = ((x1 + x2 + c : Nat) : Int) := by rw [IntWalk.i64_in _ (by omega)]; omega
        have e3 : ((x1 + x2 + c : Nat) : Int).tmod 10 = (((x1 + x2 + c) % 10 : Nat) : Int) := by rw [Int.tmod_eq_emod_of_nonneg (by omega)]; omega
        have e4 : IntKind.i64.wrap (((x1 + x2 + c) % 10 : Nat) : Int) = (((x1 + x2 + c) % 10 : Nat) : Int) := IntWalk.i64_in _ (by omega)
        have e5 : ((x1 + x2 + c : Nat) : Int).tdiv 10 = (((x1 + x2 + c) / 10 : Nat) : Int) := by rw [Int.tdiv_eq_ediv_of_nonneg (by omega)]; omega
        have e6 : IntKind.i64.wrap (((x1 + x2 + c) / 10 : Nat) : Int) = (((x1 + x2 + c) / 10 : Nat) : Int) := IntWalk.i64_in _ (by omega)
        have hz1 : (x1 + x2 + c) / 10 ≤ 1 := by omega
        have e7 : IntKind.i64.wrap ((L.length : Int) + 1) = (L.length : Int) + 1 := IntWalk.i64_in _ (by omega)
        generalize hs : x1 + x2 + c = s at *
        generalize hy : s % 10 = y at *
        generalize hz : s / 10 = z at *
        have HYZ := mkHid (And.intro hx1 (And.intro hx2 (And.intro hs (And.intro hy hz))))
        have hkk : L.length + 1 + z ≤ 200001 := by omega
        clear hx1 hx2 hs hy hz
        go_wp2_with (first
          | (go_at_call 39; with_reducible refine (HDA.out).mono ?_; rintro e w2 ⟨rfl, h2⟩; obtain rfl := h2.symm; clear h2)
          | (go_at_call 39; with_reducible refine (HDB.out).mono ?_; rintro e w2 ⟨rfl, h2⟩; obtain rfl := h2.symm; clear h2)
          | (at_builtin; refine wpList_append_own _ rfl _ _ 64 rfl w.heap.size 3 i0 (.int .i64 0) 1 8 Tryd.underlying64 hi'.out hz0'.out hz1'.out hz2'.out rfl (by decide) _ _ _ rfl (World.ownsRow.alloc HW.out _) ⟨wr.heap.size, 0, none⟩ 1 1 [.int .i64 ((y : Nat) : Int)] rfl rfl ?c1 ?c2 ?c3 ?c4 ?c5 ?_))
        case c1 => exact new_list wr #[.int .i64 ((y : Nat) : Int)] 3
        case c2 => intro u hu; simp only [List.mem_cons, List.not_mem_nil, or_false] at hu; subst hu; rfl
        case c3 => first | omega | (unfold maxLen; omega)
        case c4 => first | omega | (unfold maxLen at *; omega)
        case c5 => have := HBW.out.size; simp; omega
        intro v' w7 hown' hgrow _
        have HN := mkHid (OwnD.snoc hown')
        have HG := mkHid (((HBW.out).alloc HBW.out.size (.cells #[.int .i64 ((y : Nat) : Int)] 3)).grown hgrow (by have := HBW.out.size; simp; omega) (fun k hk => (World.ownsRow.lt HW.out k hk).1))
        clear hown' hgrow
        go_wp2
        go_roundw
        case rel => exact ⟨L ++ [y], z, rfl, by simp, hz1, by rw [List.length_append, List.length_singleton]; exact hkk, mkHid (by
          obtain ⟨h1, h2, h3, h4, h5⟩ := HYZ.out
          subst h5; subst h4; subst h3; subst h2; subst h1
          exact H.out.step HN.out HG.out)⟩
        case measure => simp [intOf]; omega
      · have h2' : ¬ (L.length : Int) < (Lib.nDigits b : Int) := by omega
        rcases Nat.eq_zero_or_pos c with rfl | hc0
        · have hv : val L = a + b := by
            have := H.out.val
            rw [mod_all a _ (by omega), mod_all b _ (by omega)] at this
            simpa using this
          have hf := form_any _ L wr H.out.own.dg H.out.dig (by omega)
          rw [hv] at hf
          have HF := mkHid hf
          have HBW := mkHid H.out.below
          clear hf hv H
          go_wp2_with (go_at_call 40; refine (HF.out).mono ?_; rintro e w2 ⟨rfl, HB2⟩)
          go_ret
          exact ⟨rfl, below_trans HBW.out HB2 HBW.out.size⟩
        · have hc0' : (0 : Int) < (c : Int) := by omega
          have HDA := mkHid (digit_any a L.length wr (by omega))
          have HDB := mkHid (digit_any b L.length wr (by omega))
          have HDL := mkHid (And.intro (dg_lt a L.length) (dg_lt b L.length))
          have h5 := dg_zero a L.length (by omega)
          have h6 := dg_zero b L.length (by omega)
          have H56 := mkHid (And.intro h5 h6)
          clear h5 h6
          generalize hx1 : dg a L.length = x1 at *
          generalize hx2 : dg b L.length = x2 at *
          have hx1l : x1 < 10 := HDL.out.1
          have hx2l : x2 < 10 := HDL.out.2
          have HW := mkHid H.out.own
          have HBW := mkHid H.out.below
          have e1 : IntKind.i64.wrap ((x1 : Int) + (x2 : Int)) = (x1 : Int) + (x2 : Int) := IntWalk.i64_in _ (by omega)
          have e2 : IntKind.i64.wrap ((x1 : Int) + (x2 : Int) + (c : Int)) = ((x1 + x2 + c : Nat) : Int) := by rw [IntWalk.i64_in _ (by omega)]; omega
          have e3 : ((x1 + x2 + c : Nat) : Int).tmod 10 = (((x1 + x2 + c) % 10 : Nat) : Int) := by rw [Int.tmod_eq_emod_of_nonneg (by omega)]; omega
          have e4 : IntKind.i64.wrap (((x1 + x2 + c) % 10 : Nat) : Int) = (((x1 + x2 + c) % 10 : Nat) : Int) := IntWalk.i64_in _ (by omega)
          have e5 : ((x1 + x2 + c : Nat) : Int).tdiv 10 = (((x1 + x2 + c) / 10 : Nat) : Int) := by rw [Int.tdiv_eq_ediv_of_nonneg (by omega)]; omega
          have e6 : IntKind.i64.wrap (((x1 + x2 + c) / 10 : Nat) : Int) = (((x1 + x2 + c) / 10 : Nat) : Int) := IntWalk.i64_in _ (by omega)
          have hz1 : (x1 + x2 + c) / 10 ≤ 1 := by omega
          have e7 : IntKind.i64.wrap ((L.length : Int) + 1) = (L.length : Int) + 1 := IntWalk.i64_in _ (by omega)
          generalize hs : x1 + x2 + c = s at *
          generalize hy : s % 10 = y at *
          generalize hz : s / 10 = z at *
          have HYZ := mkHid (And.intro hx1 (And.intro hx2 (And.intro hs (And.intro hy hz))))
          have hkk : L.length + 1 + z ≤ 200001 := by have := H56.out.1; have := H56.out.2; omega
          clear hx1 hx2 hs hy hz
          go_wp2_with (first
            | (go_at_call 39; with_reducible refine (HDA.out).mono ?_; rintro e w2 ⟨rfl, h2⟩; obtain rfl := h2.symm; clear h2)
            | (go_at_call 39; with_reducible refine (HDB.out).mono ?_; rintro e w2 ⟨rfl, h2⟩; obtain rfl := h2.symm; clear h2)
            | (at_builtin; refine wpList_append_own _ rfl _ _ 64 rfl w.heap.size 3 i0 (.int .i64 0) 1 8 Tryd.underlying64 hi'.out hz0'.out hz1'.out hz2'.out rfl (by decide) _ _ _ rfl (World.ownsRow.alloc HW.out _) ⟨wr.heap.size, 0, none⟩ 1 1 [.int .i64 ((y : Nat) : Int)] rfl rfl ?c1 ?c2 ?c3 ?c4 ?c5 ?_))
          case c1 => exact new_list wr #[.int .i64 ((y : Nat) : Int)] 3
          case c2 => intro u hu; simp only [List.mem_cons, List.not_mem_nil, or_false] at hu; subst hu; rfl
          case c3 => first | omega | (unfold maxLen; omega)
          case c4 => first | omega | (unfold maxLen at *; omega)
          case c5 => have := HBW.out.size; simp; omega
          intro v' w7 hown' hgrow _
          have HN := mkHid (OwnD.snoc hown')
          have HG := mkHid (((HBW.out).alloc HBW.out.size (.cells #[.int .i64 ((y : Nat) : Int)] 3)).grown hgrow (by have := HBW.out.size; simp; omega) (fun k hk => (World.ownsRow.lt HW.out k hk).1))
          clear hown' hgrow
          go_wp2
          go_roundw
          case rel => exact ⟨L ++ [y], z, rfl, by simp, hz1, by rw [List.length_append, List.length_singleton]; exact hkk, mkHid (by
            obtain ⟨h1, h2, h3, h4, h5⟩ := HYZ.out
            subst h5; subst h4; subst h3; subst h2; subst h1
            exact H.out.step HN.out HG.out)⟩
          case measure => simp [intOf]; omega

/-- What Sub's loop keeps. -/
structure SubI (w wr : World) (a b c : Nat) (lv : Value) (L : List Nat) : Prop where
  own : OwnD wr w.heap.size lv L
  below : Below w.heap.size w wr
  val : val L + b % 10 ^ L.length = a % 10 ^ L.length + 10 ^ L.length * c
  dig : ∀ x ∈ L, x < 10
theorem SubI.step {w wr w7 : World} {a b c d y : Nat} {lv v' : Value} {L : List Nat} (h : SubI w wr a b c lv L) (hy : y + dg b L.length + c = dg a L.length + 10 * d) (hy10 : y < 10) (ho : OwnD w7 w.heap.size v' (L ++ [y])) (hb : Below w.heap.size w w7) : SubI w w7 a b d v' (L ++ [y]) := by
  refine ⟨ho, hb, ?_, dig_snoc h.dig (by omega)⟩
  have hv := h.val
  rw [val_snoc, List.length_append, List.length_singleton, pow_split, pow_split, Nat.pow_succ]
  generalize dg a L.length = x at *
  generalize dg b L.length = z at *
  have e : 10 ^ L.length * y + 10 ^ L.length * z + 10 ^ L.length * c = 10 ^ L.length * x + 10 ^ L.length * 10 * d := by
    rw [Nat.mul_assoc, ← Nat.mul_add, ← Nat.mul_add, ← Nat.mul_add]
    congr 1
  omega
theorem SubI.fin {w wr : World} {a b c : Nat} {lv : Value} {L : List Nat} (h : SubI w wr a b c lv L) (hc : c ≤ 1) (hab : b ≤ a) (hl : L.length = Lib.nDigits a) : SD.val L = a - b := by
  have hv := h.val
  have hm := nDigits_mono b a hab
  rw [mod_all a _ (by omega), mod_all b _ (by omega)] at hv
  have hlt := val_lt L h.dig
  rcases Nat.eq_zero_or_pos c with rfl | hc0
  · omega
  · obtain rfl : c = 1 := by omega
    omega
set_option maxRecDepth 100000 in
set_option maxHeartbeats 1000000 in
theorem ssub_lt (a b : Nat) (w : World) (hab : a < b) :
    Calls Tryd.prog 10 #[.string (ds a), .string (ds b)] w fun e w' => e = .returned (.tuple #[.string ⟨#[48]⟩, .bool false]) ∧ Below w.heap.size w w' := by
  have HC := rcmp_any a b
  rw [show Lib.compareInt (a : Int) (b : Int) = -1 from by unfold Lib.compareInt; rw [if_pos (by omega)]] at HC
  replace HC := mkHid HC
  go_enter Tryd.func10, Tryd.ntmps10
  go_wp2_with (go_at_call 15; refine (HC.out _).mono ?_; rintro e w2 ⟨rfl, h2⟩; obtain rfl := h2.symm; clear h2)
  go_ret2
  exact ⟨rfl, Below.refl _ _⟩
set_option maxRecDepth 100000 in
set_option maxHeartbeats 8000000 in
theorem ssub_ge (a b : Nat) (w : World) (ha : Lib.nDigits a ≤ 200000) (hab : b ≤ a) :
    Calls Tryd.prog 10 #[.string (ds a), .string (ds b)] w fun e w' => e = .returned (.tuple #[.string (ds (a - b)), .bool true]) ∧ Below w.heap.size w w' := by
  obtain ⟨i0, hi, hz0, hz1, hz2⟩ := info_parts infoI
  have hi' := Lib.hid hi; have hz0' := Lib.hid hz0; have hz1' := Lib.hid hz1; have hz2' := Lib.hid hz2; clear hi hz0 hz1 hz2
  have la := ds_size a
  have hb : Lib.nDigits b ≤ 200000 := Nat.le_trans (nDigits_mono b a hab) ha
  have HC := rcmp_any a b
  obtain ⟨cv, hcv⟩ : ∃ cv, cv = Lib.compareInt (a : Int) (b : Int) := ⟨_, rfl⟩
  have hcv0 : ¬ cv < 0 := by rw [hcv]; unfold Lib.compareInt; rw [if_neg (by omega)]; split <;> omega
  rw [← hcv] at HC
  clear hcv
  replace HC := mkHid HC
  go_enter Tryd.func10, Tryd.ntmps10
  go_wp2_with (go_at_call 15; refine (HC.out _).mono ?_; rintro e w2 ⟨rfl, h2⟩; obtain rfl := h2.symm; clear h2)
  go_loopw [6, 7, 8] (fun lv cv nv wr => ∃ (L : List Nat) (c : Nat), cv = .int .i64 (c : Int) ∧ nv = .int .i64 (L.length : Int) ∧ c ≤ 1 ∧ L.length ≤ Lib.nDigits a ∧ Hid (SubI w wr a b c lv L)) (fun _ _ nv _ => (600000 - intOf nv).toNat)
  case atStart => exact ⟨[], 0, rfl, rfl, by omega, by simp, mkHid ⟨OwnD.nil _ _, Below.refl _ _, by simp [val, Nat.mod_one], by simp⟩⟩
  case round =>
    obtain ⟨L, c, rfl, rfl, hc, hk, H⟩ := hrel
    by_cases h1 : L.length < Lib.nDigits a
    · have h1' : (L.length : Int) < (Lib.nDigits a : Int) := by omega
      have HDA := mkHid (digit_any a L.length wr (by omega))
      have HDB := mkHid (digit_any b L.length wr (by omega))
      have HDL := mkHid (And.intro (dg_lt a L.length) (dg_lt b L.length))
      generalize hx1 : dg a L.length = x1 at *
      generalize hx2 : dg b L.length = x2 at *
      have hx1l : x1 < 10 := HDL.out.1
      have hx2l : x2 < 10 := HDL.out.2
      have HW := mkHid H.out.own
      have HBW := mkHid H.out.below
      have e1 : IntKind.i64.wrap ((x1 : Int) - (x2 : Int)) = (x1 : Int) - (x2 : Int) := IntWalk.i64_in _ (by omega)
      have e2 : IntKind.i64.wrap ((x1 : Int) - (x2 : Int) - (c : Int)) = (x1 : Int) - (x2 : Int) - (c : Int) := IntWalk.i64_in _ (by omega)
      have e7 : IntKind.i64.wrap ((L.length : Int) + 1) = (L.length : Int) + 1 := IntWalk.i64_in _ (by omega)
      have hkk : L.length + 1 ≤ Lib.nDigits a := by omega
      rcases Nat.lt_or_ge x1 (x2 + c) with hlt | hge
      · obtain ⟨y, hy⟩ : ∃ y : Nat, y + x2 + c = x1 + 10 * 1 := ⟨x1 + 10 - x2 - c, by omega⟩
        have hy10 : y < 10 := by omega
        have hd : (x1 : Int) - (x2 : Int) - (c : Int) < 0 := by omega
        have e3 : IntKind.i64.wrap ((x1 : Int) - (x2 : Int) - (c : Int) + 10) = (y : Int) := by rw [IntWalk.i64_in _ (by omega)]; omega
        have HYZ := mkHid (And.intro hx1 (And.intro hx2 (And.intro hy hy10)))
        clear hx1 hx2 hy
        go_wp2_with (first
          | (go_at_call 39; with_reducible refine (HDA.out).mono ?_; rintro e w2 ⟨rfl, h2⟩; obtain rfl := h2.symm; clear h2)
          | (go_at_call 39; with_reducible refine (HDB.out).mono ?_; rintro e w2 ⟨rfl, h2⟩; obtain rfl := h2.symm; clear h2)
          | (at_builtin; refine wpList_append_own _ rfl _ _ 64 rfl w.heap.size 3 i0 (.int .i64 0) 1 8 Tryd.underlying64 hi'.out hz0'.out hz1'.out hz2'.out rfl (by decide) _ _ _ rfl (World.ownsRow.alloc HW.out _) ⟨wr.heap.size, 0, none⟩ 1 1 [.int .i64 ((y : Nat) : Int)] rfl rfl ?c1 ?c2 ?c3 ?c4 ?c5 ?_))
        case c1 => exact new_list wr #[.int .i64 ((y : Nat) : Int)] 3
        case c2 => intro u hu; simp only [List.mem_cons, List.not_mem_nil, or_false] at hu; subst hu; rfl
        case c3 => first | omega | (unfold maxLen; omega)
        case c4 => first | omega | (unfold maxLen at *; omega)
        case c5 => have := HBW.out.size; simp; omega
        intro v' w7 hown' hgrow _
        have HN := mkHid (OwnD.snoc hown')
        have HG := mkHid (((HBW.out).alloc HBW.out.size (.cells #[.int .i64 ((y : Nat) : Int)] 3)).grown hgrow (by have := HBW.out.size; simp; omega) (fun k hk => (World.ownsRow.lt HW.out k hk).1))
        clear hown' hgrow
        go_wp2
        go_roundw
        case rel => exact ⟨L ++ [y], 1, rfl, by simp, by omega, by rw [List.length_append, List.length_singleton]; exact hkk, mkHid (by
          obtain ⟨h1, h2, h3, h4⟩ := HYZ.out
          subst h1; subst h2
          exact H.out.step h3 h4 HN.out HG.out)⟩
        case measure => simp [intOf]; omega
      · obtain ⟨y, hy⟩ : ∃ y : Nat, y + x2 + c = x1 + 10 * 0 := ⟨x1 - x2 - c, by omega⟩
        have hy10 : y < 10 := by omega
        have hd : ¬ (x1 : Int) - (x2 : Int) - (c : Int) < 0 := by omega
        have e3 : (x1 : Int) - (x2 : Int) - (c : Int) = (y : Int) := by omega
        rw [e3] at e2 hd
        have HYZ := mkHid (And.intro hx1 (And.intro hx2 (And.intro hy hy10)))
        clear hx1 hx2 hy
        go_wp2_with (first
          | (go_at_call 39; with_reducible refine (HDA.out).mono ?_; rintro e w2 ⟨rfl, h2⟩; obtain rfl := h2.symm; clear h2)
          | (go_at_call 39; with_reducible refine (HDB.out).mono ?_; rintro e w2 ⟨rfl, h2⟩; obtain rfl := h2.symm; clear h2)
          | (at_builtin; refine wpList_append_own _ rfl _ _ 64 rfl w.heap.size 3 i0 (.int .i64 0) 1 8 Tryd.underlying64 hi'.out hz0'.out hz1'.out hz2'.out rfl (by decide) _ _ _ rfl (World.ownsRow.alloc HW.out _) ⟨wr.heap.size, 0, none⟩ 1 1 [.int .i64 ((y : Nat) : Int)] rfl rfl ?c1 ?c2 ?c3 ?c4 ?c5 ?_))
        case c1 => exact new_list wr #[.int .i64 ((y : Nat) : Int)] 3
        case c2 => intro u hu; simp only [List.mem_cons, List.not_mem_nil, or_false] at hu; subst hu; rfl
        case c3 => first | omega | (unfold maxLen; omega)
        case c4 => first | omega | (unfold maxLen at *; omega)
        case c5 => have := HBW.out.size; simp; omega
        intro v' w7 hown' hgrow _
        have HN := mkHid (OwnD.snoc hown')
        have HG := mkHid (((HBW.out).alloc HBW.out.size (.cells #[.int .i64 ((y : Nat) : Int)] 3)).grown hgrow (by have := HBW.out.size; simp; omega) (fun k hk => (World.ownsRow.lt HW.out k hk).1))
        clear hown' hgrow
        go_wp2
        go_roundw
        case rel => exact ⟨L ++ [y], 0, rfl, by simp, by omega, by rw [List.length_append, List.length_singleton]; exact hkk, mkHid (by
          obtain ⟨h1, h2, h3, h4⟩ := HYZ.out
          subst h1; subst h2
          exact H.out.step h3 h4 HN.out HG.out)⟩
        case measure => simp [intOf]; omega
    · have h1' : ¬ (L.length : Int) < (Lib.nDigits a : Int) := by omega
      have hv := H.out.fin hc hab (by omega)
      have hf := form_any _ L wr H.out.own.dg H.out.dig (by omega)
      rw [hv] at hf
      have HF := mkHid hf
      have HBW := mkHid H.out.below
      clear hf hv H
      go_wp2_with (go_at_call 40; refine (HF.out).mono ?_; rintro e w2 ⟨rfl, HB2⟩)
      go_ret2
      exact ⟨rfl, below_trans HBW.out HB2 HBW.out.size⟩
end Go.Proofs.YtjdkbbggelpchaaDoor
