/- Contracts, laid one behind the other: SG SI SJ SK SO SN. -/
import Derived.Test.YtflcdpolfimggaaDoorG6
import Derived.Test.YtflcdpolfimggaaDoorG1
import Derived.Deep.QuietTactic
import Derived.BigQuiet
namespace Go.Proofs.YtflcdpolfimggaaDoor
open Go.RowKit SD

set_option maxRecDepth 100000 in
set_option maxHeartbeats 4000000 in
theorem form_nil (ao : Option Addr) (cap : Nat) (w : World) :
    Calls Tryd.prog 67 #[.slice ao 0 cap] w fun e w' => e = .returned (.string ⟨#[48]⟩) ∧ Below w.heap.size w w' := by
  obtain ⟨i0, hi, hz0, hz1, hz2⟩ := info_parts info8
  have hi' := Lib.hid hi; have hz0' := Lib.hid hz0; have hz1' := Lib.hid hz1; have hz2' := Lib.hid hz2; clear hi hz0 hz1 hz2
  go_enter Tryd.func67, Tryd.ntmps67
  go_wp2
  refine wp_loop_rounds 1 ?_
  rw [rounds_succ]
  go_wp2_with (at_make; refine wpList_make_own _ rfl _ _ 100 rfl w.heap.size 5 i0 (.int .u8 0) 1 Tryd.underlying100 hi'.out hz0'.out hz1'.out _ _ _ 0 rfl rfl rfl (by rw [hz2'.out]; omega) (by unfold maxLen; omega) (Nat.le_refl _) ?_; intro w1 hown hgrow; have HB := mkHid ((Below.refl w.heap.size w).grown hgrow (Nat.le_refl _) (fun k hk => by cases hk)); clear hown hgrow)
  refine wp_loop_rounds 1 ?_
  rw [rounds_succ]
  go_wp2
  go_ret
  exact ⟨rfl, HB.out⟩

set_option maxRecDepth 100000 in
set_option maxHeartbeats 4000000 in
theorem form_some (l : List Nat) (b off cap : Nat) (w : World) (hc : ∀ (j x : Nat), l[j]? = some x → w.cell? ⟨b, off + j, none⟩ = some (.int .i64 (x : Int))) (hd : ∀ x ∈ l, x < 10) (hlen : l.length ≤ 1000000) (hne : 1 ≤ l.length) :
    Calls Tryd.prog 67 #[.slice (some ⟨b, off, none⟩) l.length cap] w fun e w' => e = .returned (.string (ds (val l))) ∧ Below w.heap.size w w' := by
  have HC := mkHid hc
  have HD := mkHid hd
  have HNE := mkHid hne
  clear hc hd hne
  obtain ⟨i0, hi, hz0, hz1, hz2⟩ := info_parts info8
  have hi' := Lib.hid hi; have hz0' := Lib.hid hz0; have hz1' := Lib.hid hz1; have hz2' := Lib.hid hz2; clear hi hz0 hz1 hz2
  go_enter Tryd.func67, Tryd.ntmps67
  go_wp2
  go_loopw [3] (fun nw wr => ∃ k : Nat, k ≤ l.length ∧ nw = .int .i64 (k : Int) ∧ Hid (val (l.take k) = val l ∧ 1 ≤ k) ∧ wr = w) (fun nw _ => (intOf nw).toNat)
  case atStart => exact ⟨l.length, Nat.le_refl _, rfl, mkHid ⟨by rw [List.take_length], HNE.out⟩, rfl⟩
  case round =>
    obtain ⟨k, hk, rfl, H, rfl⟩ := hrel
    obtain ⟨w, rfl⟩ : ∃ w0 : World, w0 = wr := ⟨_, rfl⟩
    have hkm : k ≤ 1000000 := by omega
    by_cases hk1 : 1 < k
    · have hk1' : (1 : Int) < (k : Int) := by omega
      obtain ⟨x, hx⟩ : ∃ x, l[k - 1]? = some x := ⟨l[k - 1]'(by omega), List.getElem?_eq_getElem _⟩
      have hcx := HC.out (k - 1) x hx
      obtain ⟨p, hp⟩ : ∃ p, p = k - 1 := ⟨_, rfl⟩
      rw [← hp] at hcx hx
      have e1 : IntKind.i64.wrap ((k : Int) - 1) = (p : Int) := by rw [IntWalk.i64_in _ (by omega)]; omega
      have hp0 : (0 : Int) ≤ (p : Int) := by omega
      have hpl : (p : Int) < (l.length : Int) := by omega
      have HP := mkHid hp
      by_cases hx0 : x = 0
      · subst hx0
        rw [show ((0 : Nat) : Int) = 0 from rfl] at hcx
        have HX : Hid (val (l.take p) = val l ∧ 1 ≤ p) := mkHid ⟨val_take_zero l p hx (by rw [show p + 1 = k by omega]; exact H.out.1), by rw [hp]; omega⟩
        have hpk : p < k := by omega
        have HPK : Hid (p ≤ l.length) := mkHid (by omega)
        clear hx hp
        go_wp2
        go_roundw
        case rel => exact ⟨p, HPK.out, rfl, HX, trivial⟩
        case measure => simp [intOf]; omega
      · have HF : Hid (bs (l.take k) = Lib.decDigits (val l)) := mkHid (form_bytes l HD.out k hk H.out.1 (by omega) (.inr ⟨x, by rw [← hp]; exact hx, hx0⟩))
        have hxi : ((x : Int) == 0) = false := by rw [beq_eq_false_iff_ne]; omega
        clear hx hx0 hp
        go_wp2_with (at_make; refine wpList_make_own _ rfl _ _ 100 rfl w.heap.size 5 i0 (.int .u8 0) 1 Tryd.underlying100 hi'.out hz0'.out hz1'.out _ _ _ k rfl rfl (by omega) (by rw [hz2'.out]; omega) (by unfold maxLen; omega) (Nat.le_refl _) ?_; intro w1 hown hgrow; have HO := mkHid hown; have HB := mkHid ((Below.refl w.heap.size w).grown hgrow (Nat.le_refl _) (fun k hk => by cases hk)); clear hown hgrow)
        go_loopw [4, 5] (fun ov iw wr => ∃ m : Nat, m ≤ k ∧ iw = .int .i64 ((m : Int) - 1) ∧ Hid (wr.ownsRow w.heap.size 5 1 ov (k - m) (bv (bs ((l.take k).drop m))) ∧ Below w.heap.size w wr)) (fun _ iw _ => (intOf iw + 1).toNat)
        case atStart => exact ⟨k, Nat.le_refl _, by have h1 := HP.out; congr 1; omega, mkHid ⟨by rw [Nat.sub_self, List.drop_eq_nil_of_le (by rw [List.length_take]; exact Nat.min_le_left _ _)]; exact HO.out, HB.out⟩⟩
        case round =>
          obtain ⟨m, hm, rfl, H⟩ := hrel
          clear HO HB
          rcases Nat.eq_zero_or_pos m with rfl | hm0
          · rw [show ((0 : Nat) : Int) - 1 = -1 from rfl]
            have hown := H.out.1
            rw [Nat.sub_zero, List.drop_zero] at hown
            have HBW := mkHid H.out.2
            clear H
            obtain ⟨g, gc, rfl, hgl, hgc⟩ := ownsRow_cells hown (by omega)
            have hconv := run_convert_bytes_arg (P := Tryd.prog) wr 100 5 Tryd.underlying100 Tryd.underlying5 g 0 k gc ((bs (l.take k)).map fun b : UInt8 => (b.toNat : Int)) (by simp [bs_length]; omega) hgc 9 Tryd.underlying9
            rw [strOf, HF.out, show (⟨(Lib.decDigits (val l)).toArray⟩ : ByteArray) = ds (val l) from rfl] at hconv
            have hkne : ((k : Int) == 0) = false := by rw [beq_eq_false_iff_ne]; omega
            clear hown hgl hgc
            generalize hres : ds (val l) = res at hconv
            go_wp2
            go_ret
            exact ⟨by subst hres; rfl, HBW.out⟩
          · obtain ⟨p, rfl⟩ : ∃ p, m = p + 1 := ⟨m - 1, by omega⟩
            rw [show ((p + 1 : Nat) : Int) - 1 = (p : Int) by omega]
            obtain ⟨x, hx⟩ : ∃ x, l[p]? = some x := ⟨l[p]'(by omega), List.getElem?_eq_getElem _⟩
            have hcx0 := HC.out p x hx
            have hcx := cell_grow2 H.out.2 hcx0
            have hx10 := HD.out x (List.mem_of_getElem? hx)
            have hp0 : (0 : Int) ≤ (p : Int) := by omega
            have hpl : (p : Int) < (l.length : Int) := by omega
            have e1 : IntKind.i64.wrap (48 + (x : Int)) = 48 + (x : Int) := IntWalk.i64_in _ (by omega)
            have e2 : IntKind.u8.wrap (48 + (x : Int)) = ((UInt8.ofNat (48 + x)).toNat : Int) := by rw [D.dig_toNat x hx10, IntKind.wrap_u8]; omega
            have e3 : IntKind.i64.wrap ((p : Int) - 1) = (p : Int) - 1 := IntWalk.i64_in _ (by omega)
            have HE : Hid (bv (bs ((l.take k).drop p)) = bv (bs ((l.take k).drop (p + 1))) ++ [.int .u8 ((UInt8.ofNat (48 + x)).toNat : Int)]) := mkHid (by
              have hpk : p < (l.take k).length := by rw [List.length_take]; omega
              rw [List.drop_eq_getElem_cons hpk, bs_cons, ← bv_append]
              congr 1
              rw [List.getElem_take]
              have := (List.getElem?_eq_some_iff.1 hx).2
              rw [this]; rfl)
            generalize hby : ((UInt8.ofNat (48 + x)).toNat : Int) = y at *
            clear hby hx hcx0 hx10
            have HW := mkHid H.out.1
            have HBW := mkHid H.out.2
            clear H
            go_wp2_with (at_builtin; refine wpList_append_own _ rfl _ _ 100 rfl w.heap.size 5 i0 (.int .u8 0) 1 1 Tryd.underlying100 hi'.out hz0'.out hz1'.out hz2'.out rfl (by decide) _ _ _ rfl (World.ownsRow.alloc HW.out _) ⟨wr.heap.size, 0, none⟩ 1 1 [.int .u8 y] rfl rfl ?c1 ?c2 ?c3 ?c4 ?c5 ?_)
            case c1 => exact new_list wr #[.int .u8 y] 5
            case c2 => intro u hu; simp only [List.mem_cons, List.not_mem_nil, or_false] at hu; subst hu; rfl
            case c3 => unfold maxLen; omega
            case c4 => omega
            case c5 => have := HBW.out.size; simp; omega
            intro v' w7 hown' hgrow _
            have HN := mkHid hown'
            have HG := mkHid (((HBW.out).alloc HBW.out.size (.cells #[.int .u8 y] 5)).grown hgrow (by have := HBW.out.size; simp; omega) (fun k hk => (World.ownsRow.lt HW.out k hk).1))
            clear hown' hgrow
            go_wp2
            go_roundw
            case rel => exact ⟨p, by omega, by go_num, mkHid ⟨by rw [HE.out, show k - p = k - (p + 1) + 1 by omega]; exact HN.out, HG.out⟩⟩
            case measure => simp [intOf]
    · have hk1' : ¬ (1 : Int) < (k : Int) := by omega
      have HF : Hid (bs (l.take k) = Lib.decDigits (val l)) := mkHid (form_bytes l HD.out k hk H.out.1 H.out.2 (.inl (by have := H.out.2; omega)))
      have hk0 : 1 ≤ k := H.out.2
      go_wp2_with (at_make; refine wpList_make_own _ rfl _ _ 100 rfl w.heap.size 5 i0 (.int .u8 0) 1 Tryd.underlying100 hi'.out hz0'.out hz1'.out _ _ _ k rfl rfl (by omega) (by rw [hz2'.out]; omega) (by unfold maxLen; omega) (Nat.le_refl _) ?_; intro w1 hown hgrow; have HO := mkHid hown; have HB := mkHid ((Below.refl w.heap.size w).grown hgrow (Nat.le_refl _) (fun k hk => by cases hk)); clear hown hgrow)
      go_loopw [4, 5] (fun ov iw wr => ∃ m : Nat, m ≤ k ∧ iw = .int .i64 ((m : Int) - 1) ∧ Hid (wr.ownsRow w.heap.size 5 1 ov (k - m) (bv (bs ((l.take k).drop m))) ∧ Below w.heap.size w wr)) (fun _ iw _ => (intOf iw + 1).toNat)
      case atStart => exact ⟨k, Nat.le_refl _, by go_num, mkHid ⟨by rw [Nat.sub_self, List.drop_eq_nil_of_le (by rw [List.length_take]; exact Nat.min_le_left _ _)]; exact HO.out, HB.out⟩⟩
      case round =>
        obtain ⟨m, hm, rfl, H⟩ := hrel
        clear HO HB
        rcases Nat.eq_zero_or_pos m with rfl | hm0
        · rw [show ((0 : Nat) : Int) - 1 = -1 from rfl]
          have hown := H.out.1
          rw [Nat.sub_zero, List.drop_zero] at hown
          have HBW := mkHid H.out.2
          clear H
          obtain ⟨g, gc, rfl, hgl, hgc⟩ := ownsRow_cells hown (by omega)
          have hconv := run_convert_bytes_arg (P := Tryd.prog) wr 100 5 Tryd.underlying100 Tryd.underlying5 g 0 k gc ((bs (l.take k)).map fun b : UInt8 => (b.toNat : Int)) (by simp [bs_length]; omega) hgc 9 Tryd.underlying9
          rw [strOf, HF.out, show (⟨(Lib.decDigits (val l)).toArray⟩ : ByteArray) = ds (val l) from rfl] at hconv
          have hkne : ((k : Int) == 0) = false := by rw [beq_eq_false_iff_ne]; omega
          clear hown hgl hgc
          generalize hres : ds (val l) = res at hconv
          go_wp2
          go_ret
          exact ⟨by subst hres; rfl, HBW.out⟩
        · obtain ⟨p, rfl⟩ : ∃ p, m = p + 1 := ⟨m - 1, by omega⟩
          rw [show ((p + 1 : Nat) : Int) - 1 = (p : Int) by omega]
          obtain ⟨x, hx⟩ : ∃ x, l[p]? = some x := ⟨l[p]'(by omega), List.getElem?_eq_getElem _⟩
          have hcx0 := HC.out p x hx
          have hcx := cell_grow2 H.out.2 hcx0
          have hx10 := HD.out x (List.mem_of_getElem? hx)
          have hp0 : (0 : Int) ≤ (p : Int) := by omega
          have hpl : (p : Int) < (l.length : Int) := by omega
          have e1 : IntKind.i64.wrap (48 + (x : Int)) = 48 + (x : Int) := IntWalk.i64_in _ (by omega)
          have e2 : IntKind.u8.wrap (48 + (x : Int)) = ((UInt8.ofNat (48 + x)).toNat : Int) := by rw [D.dig_toNat x hx10, IntKind.wrap_u8]; omega
          have e3 : IntKind.i64.wrap ((p : Int) - 1) = (p : Int) - 1 := IntWalk.i64_in _ (by omega)
          have HE : Hid (bv (bs ((l.take k).drop p)) = bv (bs ((l.take k).drop (p + 1))) ++ [.int .u8 ((UInt8.ofNat (48 + x)).toNat : Int)]) := mkHid (by
            have hpk : p < (l.take k).length := by rw [List.length_take]; omega
            rw [List.drop_eq_getElem_cons hpk, bs_cons, ← bv_append]
            congr 1
            rw [List.getElem_take]
            have := (List.getElem?_eq_some_iff.1 hx).2
            rw [this]; rfl)
          generalize hby : ((UInt8.ofNat (48 + x)).toNat : Int) = y at *
          clear hby hx hcx0 hx10
          have HW := mkHid H.out.1
          have HBW := mkHid H.out.2
          clear H
          go_wp2_with (at_builtin; refine wpList_append_own _ rfl _ _ 100 rfl w.heap.size 5 i0 (.int .u8 0) 1 1 Tryd.underlying100 hi'.out hz0'.out hz1'.out hz2'.out rfl (by decide) _ _ _ rfl (World.ownsRow.alloc HW.out _) ⟨wr.heap.size, 0, none⟩ 1 1 [.int .u8 y] rfl rfl ?c1 ?c2 ?c3 ?c4 ?c5 ?_)
          case c1 => exact new_list wr #[.int .u8 y] 5
          case c2 => intro u hu; simp only [List.mem_cons, List.not_mem_nil, or_false] at hu; subst hu; rfl
          case c3 => unfold maxLen; omega
          case c4 => omega
          case c5 => have := HBW.out.size; simp; omega
          intro v' w7 hown' hgrow _
          have HN := mkHid hown'
          have HG := mkHid (((HBW.out).alloc HBW.out.size (.cells #[.int .u8 y] 5)).grown hgrow (by have := HBW.out.size; simp; omega) (fun k hk => (World.ownsRow.lt HW.out k hk).1))
          clear hown' hgrow
          go_wp2
          go_roundw
          case rel => exact ⟨p, by omega, by go_num, mkHid ⟨by rw [HE.out, show k - p = k - (p + 1) + 1 by omega]; exact HN.out, HG.out⟩⟩
          case measure => simp [intOf]

theorem form_any (v : Value) (l : List Nat) (w : World) (hv : Dg w v l) (hd : ∀ x ∈ l, x < 10) (hlen : l.length ≤ 1000000) :
    Calls Tryd.prog 67 #[v] w fun e w' => e = .returned (.string (ds (val l))) ∧ Below w.heap.size w w' := by
  rcases hv with ⟨rfl, ao, cap, rfl⟩ | ⟨b, off, cap, rfl, hc⟩
  · rw [show ds (val []) = ⟨#[48]⟩ from by kernel_rfl]
    exact form_nil ao cap w
  · by_cases hne : 1 ≤ l.length
    · exact form_some l b off cap w hc hd hlen hne
    · obtain rfl : l = [] := List.eq_nil_of_length_eq_zero (by omega)
      rw [show ds (val []) = ⟨#[48]⟩ from by kernel_rfl]
      exact form_nil _ cap w
end Go.Proofs.YtflcdpolfimggaaDoor
namespace Go.Proofs.YtflcdpolfimggaaDoor
open Go.RowKit SD

theorem OwnD.snoc {w : World} {base : Nat} {v : Value} {L : List Nat} {y : Nat} (h : w.ownsRow base 3 1 v (L.length + 1) (L.map iv ++ [.int .i64 (y : Int)])) : OwnD w base v (L ++ [y]) := by
  unfold OwnD; rw [List.map_append, List.length_append]; exact h
theorem dig_snoc {L : List Nat} {y : Nat} (h : ∀ x ∈ L, x < 10) (hy : y < 10) : ∀ x ∈ L ++ [y], x < 10 := by
  intro x hx; rcases List.mem_append.1 hx with h1 | h1
  · exact h x h1
  · simp at h1; omega
theorem below_trans {B : Nat} {a b c : World} (h1 : Below B a b) (h2 : Below b.heap.size b c) (hB : B ≤ b.heap.size) : Below B a c := h1.trans (h2.mono hB)

/-- What Of's loop keeps. -/
structure OfI (w wr : World) (n m : Nat) (lv : Value) (L : List Nat) : Prop where
  own : OwnD wr w.heap.size lv L
  below : Below w.heap.size w wr
  val : val L + 10 ^ L.length * m = n
  dig : ∀ x ∈ L, x < 10
  lt : m < 10 ^ (20 - L.length)
  len : L.length ≤ 20
theorem OfI.step {w wr w7 : World} {n m : Nat} {lv v' : Value} {L : List Nat} (h : OfI w wr n m lv L) (hm : 0 < m) (ho : OwnD w7 w.heap.size v' (L ++ [m % 10])) (hb : Below w.heap.size w w7) : OfI w w7 n (m / 10) v' (L ++ [m % 10]) := by
  have hl := h.lt
  have h20 : L.length < 20 := by
    apply Nat.lt_of_not_le; intro hle
    rw [show 20 - L.length = 0 by omega] at hl
    omega
  refine ⟨ho, hb, ?_, dig_snoc h.dig (by omega), ?_, by simp; omega⟩
  · rw [val_snoc, List.length_append, List.length_singleton, Nat.pow_succ, ← h.val, Nat.add_assoc, Nat.mul_assoc, ← Nat.mul_add]
    congr 2; omega
  · rw [List.length_append, List.length_singleton]
    have e : 20 - L.length = (20 - (L.length + 1)) + 1 := by omega
    rw [e, Nat.pow_succ] at hl
    omega
set_option maxRecDepth 100000 in
set_option maxHeartbeats 4000000 in
theorem sof_any (n : Nat) (w : World) (hn : n < 18446744073709551616) :
    Calls Tryd.prog 38 #[.int .u64 (n : Int)] w fun e w' => e = .returned (.string (ds n)) ∧ Below w.heap.size w w' := by
  obtain ⟨i0, hi, hz0, hz1, hz2⟩ := info_parts infoI
  have hi' := Lib.hid hi; have hz0' := Lib.hid hz0; have hz1' := Lib.hid hz1; have hz2' := Lib.hid hz2; clear hi hz0 hz1 hz2
  go_enter Tryd.func38, Tryd.ntmps38
  go_wp2
  go_loopw [0, 3] (fun nv lv wr => ∃ (m : Nat) (L : List Nat), nv = .int .u64 (m : Int) ∧ m < 18446744073709551616 ∧ Hid (OfI w wr n m lv L)) (fun nv _ _ => (intOf nv).toNat)
  case atStart => exact ⟨n, [], rfl, hn, mkHid ⟨OwnD.nil _ _, Below.refl _ _, by simp [val], by simp, by simp; omega, by simp⟩⟩
  case round =>
    obtain ⟨m, L, rfl, hm64, H⟩ := hrel
    rcases Nat.eq_zero_or_pos m with rfl | hm
    · have hf := form_any _ L wr H.out.own.dg H.out.dig (by have := H.out.len; omega)
      have hv : val L = n := by have := H.out.val; simpa using this
      rw [hv] at hf
      have HF := mkHid hf
      have HBW := mkHid H.out.below
      clear hf hv H
      go_wp2_with (go_at_call 67; refine (HF.out).mono ?_; rintro e w2 ⟨rfl, HB2⟩)
      go_ret
      exact ⟨rfl, below_trans HBW.out HB2 HBW.out.size⟩
    · have hm0 : (0 : Int) < (m : Int) := by omega
      have e1 : (m : Int).tmod 10 = ((m % 10 : Nat) : Int) := by rw [Int.tmod_eq_emod_of_nonneg (by omega)]; omega
      have e2 : (m : Int).tdiv 10 = ((m / 10 : Nat) : Int) := by rw [Int.tdiv_eq_ediv_of_nonneg (by omega)]; omega
      have e3 : IntKind.u64.wrap ((m % 10 : Nat) : Int) = ((m % 10 : Nat) : Int) := by rw [IntKind.wrap_u64]; omega
      have e5 : IntKind.i64.wrap ((m % 10 : Nat) : Int) = ((m % 10 : Nat) : Int) := IntWalk.i64_in _ (by omega)
      have e4 : IntKind.u64.wrap ((m / 10 : Nat) : Int) = ((m / 10 : Nat) : Int) := by rw [IntKind.wrap_u64]; omega
      have HW := mkHid H.out.own
      have HBW := mkHid H.out.below
      have hLl : L.length ≤ 20 := H.out.len
      generalize hy : m % 10 = y at *
      generalize hz : m / 10 = z at *
      have hzm : z < m := by omega
      have hz64 : z < 18446744073709551616 := by omega
      have HYZ := mkHid (And.intro hy hz)
      clear hy hz
      go_wp2_with (at_builtin; refine wpList_append_own _ rfl _ _ 85 rfl w.heap.size 3 i0 (.int .i64 0) 1 8 Tryd.underlying85 hi'.out hz0'.out hz1'.out hz2'.out rfl (by decide) _ _ _ rfl (World.ownsRow.alloc HW.out _) ⟨wr.heap.size, 0, none⟩ 1 1 [.int .i64 ((y : Nat) : Int)] rfl rfl ?c1 ?c2 ?c3 ?c4 ?c5 ?_)
      case c1 => exact new_list wr #[.int .i64 ((y : Nat) : Int)] 3
      case c2 => intro u hu; simp only [List.mem_cons, List.not_mem_nil, or_false] at hu; subst hu; rfl
      case c3 => first | omega | (unfold maxLen; omega)
      case c4 => first | omega | (unfold maxLen at *; omega)
      case c5 => have := HBW.out.size; simp; omega
      intro v' w7 hown' hgrow _
      have HN := mkHid (OwnD.snoc hown')
      have HG := mkHid (((HBW.out).alloc HBW.out.size (.cells #[.int .i64 ((y : Nat) : Int)] 3)).grown hgrow (by have := HBW.out.size; simp; omega) (fun k hk => (World.ownsRow.lt HW.out k hk).1))
      clear hown' hgrow
      go_wp2
      go_roundw
      case rel => exact ⟨z, L ++ [y], rfl, hz64, mkHid (by
        have h1 := HYZ.out.1; have h2 := HYZ.out.2
        subst h1; subst h2
        exact H.out.step hm HN.out HG.out)⟩
      case measure => simp [intOf]; omega

/-- What Add's loop keeps. -/
structure AddI (w wr : World) (a b c : Nat) (lv : Value) (L : List Nat) : Prop where
  own : OwnD wr w.heap.size lv L
  below : Below w.heap.size w wr
  val : val L + 10 ^ L.length * c = a % 10 ^ L.length + b % 10 ^ L.length
  dig : ∀ x ∈ L, x < 10
theorem AddI.step {w wr w7 : World} {a b c : Nat} {lv v' : Value} {L : List Nat} (h : AddI w wr a b c lv L) (ho : OwnD w7 w.heap.size v' (L ++ [(dg a L.length + dg b L.length + c) % 10])) (hb : Below w.heap.size w w7) : AddI w w7 a b ((dg a L.length + dg b L.length + c) / 10) v' (L ++ [(dg a L.length + dg b L.length + c) % 10]) := by
  refine ⟨ho, hb, ?_, dig_snoc h.dig (by omega)⟩
  have hv := h.val
  rw [val_snoc, List.length_append, List.length_singleton, pow_split, pow_split, Nat.pow_succ]
  generalize dg a L.length = x at *
  generalize dg b L.length = y at *
  have e : 10 ^ L.length * ((x + y + c) % 10) + 10 ^ L.length * 10 * ((x + y + c) / 10) = 10 ^ L.length * x + 10 ^ L.length * y + 10 ^ L.length * c := by
    rw [Nat.mul_assoc, ← Nat.mul_add, ← Nat.mul_add, ← Nat.mul_add]
    congr 1; omega
  omega
set_option maxRecDepth 100000 in
set_option maxHeartbeats 8000000 in
theorem sadd_any (a b : Nat) (w : World) (ha : Lib.nDigits a ≤ 200000) (hb : Lib.nDigits b ≤ 200000) :
    Calls Tryd.prog 62 #[.string (ds a), .string (ds b)] w fun e w' => e = .returned (.string (ds (a + b))) ∧ Below w.heap.size w w' := by
  obtain ⟨i0, hi, hz0, hz1, hz2⟩ := info_parts infoI
  have hi' := Lib.hid hi; have hz0' := Lib.hid hz0; have hz1' := Lib.hid hz1; have hz2' := Lib.hid hz2; clear hi hz0 hz1 hz2
  have la := ds_size a
  have lb := ds_size b
  go_enter Tryd.func62, Tryd.ntmps62
  go_wp2
  go_loopw [5, 6, 7] (fun lv cv nv wr => ∃ (L : List Nat) (c : Nat), cv = .int .i64 (c : Int) ∧ nv = .int .i64 (L.length : Int) ∧ c ≤ 1 ∧ L.length + c ≤ 200001 ∧ Hid (AddI w wr a b c lv L)) (fun _ cv nv _ => (2 * (600000 - intOf nv) + intOf cv).toNat)
  case atStart => exact ⟨[], 0, rfl, rfl, by omega, by simp, mkHid ⟨OwnD.nil _ _, Below.refl _ _, by simp [val, Nat.mod_one], by simp⟩⟩
  case round =>
    obtain ⟨L, c, rfl, rfl, hc, hk, H⟩ := hrel
    by_cases h1 : L.length < Lib.nDigits a
    · have h1' : (L.length : Int) < (Lib.nDigits a : Int) := by omega
      have HDA := mkHid (digit_any a L.length wr (by omega))
      have HDB := mkHid (digit_any b L.length wr (by omega))
      have HDL := mkHid (And.intro (dg_lt a L.length) (dg_lt b L.length))
      generalize hx1 : dg a L.length = x1 at *
      generalize hx2 : dg b L.length = x2 at *
      have hx1l : x1 < 10 := HDL.out.1
      have hx2l : x2 < 10 := HDL.out.2
      have HW := mkHid H.out.own
      have HBW := mkHid H.out.below
      have e1 : IntKind.i64.wrap ((x1 : Int) + (x2 : Int)) = (x1 : Int) + (x2 : Int) := IntWalk.i64_in _ (by omega)
      have e2 : IntKind.i64.wrap ((x1 : Int) + (x2 : Int) + (c : Int)) = ((x1 + x2 + c : Nat) : Int) := by rw [IntWalk.i64_in _ (by omega)]; omega
      have e3 : ((x1 + x2 + c : Nat) : Int).tmod 10 = (((x1 + x2 + c) % 10 : Nat) : Int) := by rw [Int.tmod_eq_emod_of_nonneg (by omega)]; omega
      have e4 : IntKind.i64.wrap (((x1 + x2 + c) % 10 : Nat) : Int) = (((x1 + x2 + c) % 10 : Nat) : Int) := IntWalk.i64_in _ (by omega)
      have e5 : ((x1 + x2 + c : Nat) : Int).tdiv 10 = (((x1 + x2 + c) / 10 : Nat) : Int) := by rw [Int.tdiv_eq_ediv_of_nonneg (by omega)]; omega
      have e6 : IntKind.i64.wrap (((x1 + x2 + c) / 10 : Nat) : Int) = (((x1 + x2 + c) / 10 : Nat) : Int) := IntWalk.i64_in _ (by omega)
      have hz1 : (x1 + x2 + c) / 10 ≤ 1 := by omega
      have e7 : IntKind.i64.wrap ((L.length : Int) + 1) = (L.length : Int) + 1 := IntWalk.i64_in _ (by omega)
      generalize hs : x1 + x2 + c = s at *
      generalize hy : s % 10 = y at *
      generalize hz : s / 10 = z at *
      have HYZ := mkHid (And.intro hx1 (And.intro hx2 (And.intro hs (And.intro hy hz))))
      have hkk : L.length + 1 + z ≤ 200001 := by omega
      clear hx1 hx2 hs hy hz
      go_wp2_with (first
        | (go_at_call 64; with_reducible refine (HDA.out).mono ?_; rintro e w2 ⟨rfl, h2⟩; obtain rfl := h2.symm; clear h2)
        | (go_at_call 64; with_reducible refine (HDB.out).mono ?_; rintro e w2 ⟨rfl, h2⟩; obtain rfl := h2.symm; clear h2)
        | (at_builtin; refine wpList_append_own _ rfl _ _ 85 rfl w.heap.size 3 i0 (.int .i64 0) 1 8 Tryd.underlying85 hi'.out hz0'.out hz1'.out hz2'.out rfl (by decide) _ _ _ rfl (World.ownsRow.alloc HW.out _) ⟨wr.heap.size, 0, none⟩ 1 1 [.int .i64 ((y : Nat) : Int)] rfl rfl ?c1 ?c2 ?c3 ?c4 ?c5 ?_))
      case c1 => exact new_list wr #[.int .i64 ((y : Nat) : Int)] 3
      case c2 => intro u hu; simp only [List.mem_cons, List.not_mem_nil, or_false] at hu; subst hu; rfl
      case c3 => first | omega | (unfold maxLen; omega)
      case c4 => first | omega | (unfold maxLen at *; omega)
      case c5 => have := HBW.out.size; simp; omega
      intro v' w7 hown' hgrow _
      have HN := mkHid (OwnD.snoc hown')
      have HG := mkHid (((HBW.out).alloc HBW.out.size (.cells #[.int .i64 ((y : Nat) : Int)] 3)).grown hgrow (by have := HBW.out.size; simp; omega) (fun k hk => (World.ownsRow.lt HW.out k hk).1))
      clear hown' hgrow
      go_wp2
      go_roundw
      case rel => exact ⟨L ++ [y], z, rfl, by simp, hz1, by rw [List.length_append, List.length_singleton]; exact hkk, mkHid (by
        obtain ⟨h1, h2, h3, h4, h5⟩ := HYZ.out
        subst h5; subst h4; subst h3; subst h2; subst h1
        exact H.out.step HN.out HG.out)⟩
      case measure => simp [intOf]; omega
    · have h1' : ¬ (L.length : Int) < (Lib.nDigits a : Int) := by omega
      by_cases h2 : L.length < Lib.nDigits b
      · have h2' : (L.length : Int) < (Lib.nDigits b : Int) := by omega
        have HDA := mkHid (digit_any a L.length wr (by omega))
        have HDB := mkHid (digit_any b L.length wr (by omega))
        have HDL := mkHid (And.intro (dg_lt a L.length) (dg_lt b L.length))
        generalize hx1 : dg a L.length = x1 at *
        generalize hx2 : dg b L.length = x2 at *
        have hx1l : x1 < 10 := HDL.out.1
        have hx2l : x2 < 10 := HDL.out.2
        have HW := mkHid H.out.own
        have HBW := mkHid H.out.below
        have e1 : IntKind.i64.wrap ((x1 : Int) + (x2 : Int)) = (x1 : Int) + (x2 : Int) := IntWalk.i64_in _ (by omega)
        have e2 : IntKind.i64.wrap ((x1 : Int) + (x2 : Int) + (c : Int)) = ((x1 + x2 + c : Nat) : Int) := by rw [IntWalk.i64_in _ (by omega)]; omega
        have e3 : ((x1 + x2 + c : Nat) : Int).tmod 10 = (((x1 + x2 + c) % 10 : Nat) : Int) := by rw [Int.tmod_eq_emod_of_nonneg (by omega)]; omega
        have e4 : IntKind.i64.wrap (((x1 + x2 + c) % 10 : Nat) : Int) = (((x1 + x2 + c) % 10 : Nat) : Int) := IntWalk.i64_in _ (by omega)
        have e5 : ((x1 + x2 + c : Nat) : Int).tdiv 10 = (((x1 + x2 + c) / 10 : Nat) : Int) := by rw [Int.tdiv_eq_ediv_of_nonneg (by omega)]; omega
        have e6 : IntKind.i64.wrap (((x1 + x2 + c) / 10 : Nat) : Int) = (((x1 + x2 + c) / 10 : Nat) : Int) := IntWalk.i64_in _ (by omega)
        have hz1 : (x1 + x2 + c) / 10 ≤ 1 := by omega
        have e7 : IntKind.i64.wrap ((L.length : Int) + 1) = (L.length : Int) + 1 := IntWalk.i64_in _ (by omega)
        generalize hs : x1 + x2 + c = s at *
        generalize hy : s % 10 = y at *
        generalize hz : s / 10 = z at *
        have HYZ := mkHid (And.intro hx1 (And.intro hx2 (And.intro hs (And.intro hy hz))))
        have hkk : L.length + 1 + z ≤ 200001 := by omega
        clear hx1 hx2 hs hy hz
        go_wp2_with (first
          | (go_at_call 64; with_reducible refine (HDA.out).mono ?_; rintro e w2 ⟨rfl, h2⟩; obtain rfl := h2.symm; clear h2)
          | (go_at_call 64; with_reducible refine (HDB.out).mono ?_; rintro e w2 ⟨rfl, h2⟩; obtain rfl := h2.symm; clear h2)
          | (at_builtin; refine wpList_append_own _ rfl _ _ 85 rfl w.heap.size 3 i0 (.int .i64 0) 1 8 Tryd.underlying85 hi'.out hz0'.out hz1'.out hz2'.out rfl (by decide) _ _ _ rfl (World.ownsRow.alloc HW.out _) ⟨wr.heap.size, 0, none⟩ 1 1 [.int .i64 ((y : Nat) : Int)] rfl rfl ?c1 ?c2 ?c3 ?c4 ?c5 ?_))
        case c1 => exact new_list wr #[.int .i64 ((y : Nat) : Int)] 3
        case c2 => intro u hu; simp only [List.mem_cons, List.not_mem_nil, or_false] at hu; subst hu; rfl
        case c3 => first | omega | (unfold maxLen; omega)
        case c4 => first | omega | (unfold maxLen at *; omega)
        case c5 => have := HBW.out.size; simp; omega
        intro v' w7 hown' hgrow _
        have HN := mkHid (OwnD.snoc hown')
        have HG := mkHid (((HBW.out).alloc HBW.out.size (.cells #[.int .i64 ((y : Nat) : Int)] 3)).grown hgrow (by have := HBW.out.size; simp; omega) (fun k hk => (World.ownsRow.lt HW.out k hk).1))
        clear hown' hgrow
        go_wp2
        go_roundw
        case rel => exact ⟨L ++ [y], z, rfl, by simp, hz1, by rw [List.length_append, List.length_singleton]; exact hkk, mkHid (by
          obtain ⟨h1, h2, h3, h4, h5⟩ := HYZ.out
          subst h5; subst h4; subst h3; subst h2; subst h1
          exact H.out.step HN.out HG.out)⟩
        case measure => simp [intOf]; omega
      · have h2' : ¬ (L.length : Int) < (Lib.nDigits b : Int) := by omega
        rcases Nat.eq_zero_or_pos c with rfl | hc0
        · have hv : val L = a + b := by
            have := H.out.val
            rw [mod_all a _ (by omega), mod_all b _ (by omega)] at this
            simpa using this
          have hf := form_any _ L wr H.out.own.dg H.out.dig (by omega)
          rw [hv] at hf
          have HF := mkHid hf
          have HBW := mkHid H.out.below
          clear hf hv H
          go_wp2_with (go_at_call 67; refine (HF.out).mono ?_; rintro e w2 ⟨rfl, HB2⟩)
          go_ret
          exact ⟨rfl, below_trans HBW.out HB2 HBW.out.size⟩
        · have hc0' : (0 : Int) < (c : Int) := by omega
          have HDA := mkHid (digit_any a L.length wr (by omega))
          have HDB := mkHid (digit_any b L.length wr (by omega))
          have HDL := mkHid (And.intro (dg_lt a L.length) (dg_lt b L.length))
          have h5 := dg_zero a L.length (by omega)
          have h6 := dg_zero b L.length (by omega)
          have H56 := mkHid (And.intro h5 h6)
          clear h5 h6
          generalize hx1 : dg a L.length = x1 at *
          generalize hx2 : dg b L.length = x2 at *
          have hx1l : x1 < 10 := HDL.out.1
          have hx2l : x2 < 10 := HDL.out.2
          have HW := mkHid H.out.own
          have HBW := mkHid H.out.below
          have e1 : IntKind.i64.wrap ((x1 : Int) + (x2 : Int)) = (x1 : Int) + (x2 : Int) := IntWalk.i64_in _ (by omega)
          have e2 : IntKind.i64.wrap ((x1 : Int) + (x2 : Int) + (c : Int)) = ((x1 + x2 + c : Nat) : Int) := by rw [IntWalk.i64_in _ (by omega)]; omega
          have e3 : ((x1 + x2 + c : Nat) : Int).tmod 10 = (((x1 + x2 + c) % 10 : Nat) : Int) := by rw [Int.tmod_eq_emod_of_nonneg (by omega)]; omega
          have e4 : IntKind.i64.wrap (((x1 + x2 + c) % 10 : Nat) : Int) = (((x1 + x2 + c) % 10 : Nat) : Int) := IntWalk.i64_in _ (by omega)
          have e5 : ((x1 + x2 + c : Nat) : Int).tdiv 10 = (((x1 + x2 + c) / 10 : Nat) : Int) := by rw [Int.tdiv_eq_ediv_of_nonneg (by omega)]; omega
          have e6 : IntKind.i64.wrap (((x1 + x2 + c) / 10 : Nat) : Int) = (((x1 + x2 + c) / 10 : Nat) : Int) := IntWalk.i64_in _ (by omega)
          have hz1 : (x1 + x2 + c) / 10 ≤ 1 := by omega
          have e7 : IntKind.i64.wrap ((L.length : Int) + 1) = (L.length : Int) + 1 := IntWalk.i64_in _ (by omega)
          generalize hs : x1 + x2 + c = s at *
          generalize hy : s % 10 = y at *
          generalize hz : s / 10 = z at *
          have HYZ := mkHid (And.intro hx1 (And.intro hx2 (And.intro hs (And.intro hy hz))))
          have hkk : L.length + 1 + z ≤ 200001 := by have := H56.out.1; have := H56.out.2; omega
          clear hx1 hx2 hs hy hz
          go_wp2_with (first
            | (go_at_call 64; with_reducible refine (HDA.out).mono ?_; rintro e w2 ⟨rfl, h2⟩; obtain rfl := h2.symm; clear h2)
            | (go_at_call 64; with_reducible refine (HDB.out).mono ?_; rintro e w2 ⟨rfl, h2⟩; obtain rfl := h2.symm; clear h2)
            | (at_builtin; refine wpList_append_own _ rfl _ _ 85 rfl w.heap.size 3 i0 (.int .i64 0) 1 8 Tryd.underlying85 hi'.out hz0'.out hz1'.out hz2'.out rfl (by decide) _ _ _ rfl (World.ownsRow.alloc HW.out _) ⟨wr.heap.size, 0, none⟩ 1 1 [.int .i64 ((y : Nat) : Int)] rfl rfl ?c1 ?c2 ?c3 ?c4 ?c5 ?_))
          case c1 => exact new_list wr #[.int .i64 ((y : Nat) : Int)] 3
          case c2 => intro u hu; simp only [List.mem_cons, List.not_mem_nil, or_false] at hu; subst hu; rfl
          case c3 => first | omega | (unfold maxLen; omega)
          case c4 => first | omega | (unfold maxLen at *; omega)
          case c5 => have := HBW.out.size; simp; omega
          intro v' w7 hown' hgrow _
          have HN := mkHid (OwnD.snoc hown')
          have HG := mkHid (((HBW.out).alloc HBW.out.size (.cells #[.int .i64 ((y : Nat) : Int)] 3)).grown hgrow (by have := HBW.out.size; simp; omega) (fun k hk => (World.ownsRow.lt HW.out k hk).1))
          clear hown' hgrow
          go_wp2
          go_roundw
          case rel => exact ⟨L ++ [y], z, rfl, by simp, hz1, by rw [List.length_append, List.length_singleton]; exact hkk, mkHid (by
            obtain ⟨h1, h2, h3, h4, h5⟩ := HYZ.out
            subst h5; subst h4; subst h3; subst h2; subst h1
            exact H.out.step HN.out HG.out)⟩
          case measure => simp [intOf]; omega

/-- What Sub's loop keeps. -/
structure SubI (w wr : World) (a b c : Nat) (lv : Value) (L : List Nat) : Prop where
  own : OwnD wr w.heap.size lv L
  below : Below w.heap.size w wr
  val : val L + b % 10 ^ L.length = a % 10 ^ L.length + 10 ^ L.length * c
  dig : ∀ x ∈ L, x < 10
theorem SubI.step {w wr w7 : World} {a b c d y : Nat} {lv v' : Value} {L : List Nat} (h : SubI w wr a b c lv L) (hy : y + dg b L.length + c = dg a L.length + 10 * d) (hy10 : y < 10) (ho : OwnD w7 w.heap.size v' (L ++ [y])) (hb : Below w.heap.size w w7) : SubI w w7 a b d v' (L ++ [y]) := by
  refine ⟨ho, hb, ?_, dig_snoc h.dig (by omega)⟩
  have hv := h.val
  rw [val_snoc, List.length_append, List.length_singleton, pow_split, pow_split, Nat.pow_succ]
  generalize dg a L.length = x at *
  generalize dg b L.length = z at *
  have e : 10 ^ L.length * y + 10 ^ L.length * z + 10 ^ L.length * c = 10 ^ L.length * x + 10 ^ L.length * 10 * d := by
    rw [Nat.mul_assoc, ← Nat.mul_add, ← Nat.mul_add, ← Nat.mul_add]
    congr 1
  omega
theorem SubI.fin {w wr : World} {a b c : Nat} {lv : Value} {L : List Nat} (h : SubI w wr a b c lv L) (hc : c ≤ 1) (hab : b ≤ a) (hl : L.length = Lib.nDigits a) : SD.val L = a - b := by
  have hv := h.val
  have hm := nDigits_mono b a hab
  rw [mod_all a _ (by omega), mod_all b _ (by omega)] at hv
  have hlt := val_lt L h.dig
  rcases Nat.eq_zero_or_pos c with rfl | hc0
  · omega
  · obtain rfl : c = 1 := by omega
    omega
set_option maxRecDepth 100000 in
set_option maxHeartbeats 1000000 in
theorem ssub_lt (a b : Nat) (w : World) (hab : a < b) :
    Calls Tryd.prog 66 #[.string (ds a), .string (ds b)] w fun e w' => e = .returned (.tuple #[.string ⟨#[48]⟩, .bool false]) ∧ Below w.heap.size w w' := by
  have HC := rcmp_any a b
  rw [show Lib.compareInt (a : Int) (b : Int) = -1 from by unfold Lib.compareInt; rw [if_pos (by omega)]] at HC
  replace HC := mkHid HC
  go_enter Tryd.func66, Tryd.ntmps66
  go_wp2_with (go_at_call 65; refine (HC.out _).mono ?_; rintro e w2 ⟨rfl, h2⟩; obtain rfl := h2.symm; clear h2)
  go_ret2
  exact ⟨rfl, Below.refl _ _⟩
set_option maxRecDepth 100000 in
set_option maxHeartbeats 8000000 in
theorem ssub_ge (a b : Nat) (w : World) (ha : Lib.nDigits a ≤ 200000) (hab : b ≤ a) :
    Calls Tryd.prog 66 #[.string (ds a), .string (ds b)] w fun e w' => e = .returned (.tuple #[.string (ds (a - b)), .bool true]) ∧ Below w.heap.size w w' := by
  obtain ⟨i0, hi, hz0, hz1, hz2⟩ := info_parts infoI
  have hi' := Lib.hid hi; have hz0' := Lib.hid hz0; have hz1' := Lib.hid hz1; have hz2' := Lib.hid hz2; clear hi hz0 hz1 hz2
  have la := ds_size a
  have hb : Lib.nDigits b ≤ 200000 := Nat.le_trans (nDigits_mono b a hab) ha
  have HC := rcmp_any a b
  obtain ⟨cv, hcv⟩ : ∃ cv, cv = Lib.compareInt (a : Int) (b : Int) := ⟨_, rfl⟩
  have hcv0 : ¬ cv < 0 := by rw [hcv]; unfold Lib.compareInt; rw [if_neg (by omega)]; split <;> omega
  rw [← hcv] at HC
  clear hcv
  replace HC := mkHid HC
  go_enter Tryd.func66, Tryd.ntmps66
  go_wp2_with (go_at_call 65; refine (HC.out _).mono ?_; rintro e w2 ⟨rfl, h2⟩; obtain rfl := h2.symm; clear h2)
  go_loopw [6, 7, 8] (fun lv cv nv wr => ∃ (L : List Nat) (c : Nat), cv = .int .i64 (c : Int) ∧ nv = .int .i64 (L.length : Int) ∧ c ≤ 1 ∧ L.length ≤ Lib.nDigits a ∧ Hid (SubI w wr a b c lv L)) (fun _ _ nv _ => (600000 - intOf nv).toNat)
  case atStart => exact ⟨[], 0, rfl, rfl, by omega, by simp, mkHid ⟨OwnD.nil _ _, Below.refl _ _, by simp [val, Nat.mod_one], by simp⟩⟩
  case round =>
    obtain ⟨L, c, rfl, rfl, hc, hk, H⟩ := hrel
    by_cases h1 : L.length < Lib.nDigits a
    · have h1' : (L.length : Int) < (Lib.nDigits a : Int) := by omega
      have HDA := mkHid (digit_any a L.length wr (by omega))
      have HDB := mkHid (digit_any b L.length wr (by omega))
      have HDL := mkHid (And.intro (dg_lt a L.length) (dg_lt b L.length))
      generalize hx1 : dg a L.length = x1 at *
      generalize hx2 : dg b L.length = x2 at *
      have hx1l : x1 < 10 := HDL.out.1
      have hx2l : x2 < 10 := HDL.out.2
      have HW := mkHid H.out.own
      have HBW := mkHid H.out.below
      have e1 : IntKind.i64.wrap ((x1 : Int) - (x2 : Int)) = (x1 : Int) - (x2 : Int) := IntWalk.i64_in _ (by omega)
      have e2 : IntKind.i64.wrap ((x1 : Int) - (x2 : Int) - (c : Int)) = (x1 : Int) - (x2 : Int) - (c : Int) := IntWalk.i64_in _ (by omega)
      have e7 : IntKind.i64.wrap ((L.length : Int) + 1) = (L.length : Int) + 1 := IntWalk.i64_in _ (by omega)
      have hkk : L.length + 1 ≤ Lib.nDigits a := by omega
      rcases Nat.lt_or_ge x1 (x2 + c) with hlt | hge
      · obtain ⟨y, hy⟩ : ∃ y : Nat, y + x2 + c = x1 + 10 * 1 := ⟨x1 + 10 - x2 - c, by omega⟩
        have hy10 : y < 10 := by omega
        have hd : (x1 : Int) - (x2 : Int) - (c : Int) < 0 := by omega
        have e3 : IntKind.i64.wrap ((x1 : Int) - (x2 : Int) - (c : Int) + 10) = (y : Int) := by rw [IntWalk.i64_in _ (by omega)]; omega
        have HYZ := mkHid (And.intro hx1 (And.intro hx2 (And.intro hy hy10)))
        clear hx1 hx2 hy
        go_wp2_with (first
          | (go_at_call 64; with_reducible refine (HDA.out).mono ?_; rintro e w2 ⟨rfl, h2⟩; obtain rfl := h2.symm; clear h2)
          | (go_at_call 64; with_reducible refine (HDB.out).mono ?_; rintro e w2 ⟨rfl, h2⟩; obtain rfl := h2.symm; clear h2)
          | (at_builtin; refine wpList_append_own _ rfl _ _ 85 rfl w.heap.size 3 i0 (.int .i64 0) 1 8 Tryd.underlying85 hi'.out hz0'.out hz1'.out hz2'.out rfl (by decide) _ _ _ rfl (World.ownsRow.alloc HW.out _) ⟨wr.heap.size, 0, none⟩ 1 1 [.int .i64 ((y : Nat) : Int)] rfl rfl ?c1 ?c2 ?c3 ?c4 ?c5 ?_))
        case c1 => exact new_list wr #[.int .i64 ((y : Nat) : Int)] 3
        case c2 => intro u hu; simp only [List.mem_cons, List.not_mem_nil, or_false] at hu; subst hu; rfl
        case c3 => first | omega | (unfold maxLen; omega)
        case c4 => first | omega | (unfold maxLen at *; omega)
        case c5 => have := HBW.out.size; simp; omega
        intro v' w7 hown' hgrow _
        have HN := mkHid (OwnD.snoc hown')
        have HG := mkHid (((HBW.out).alloc HBW.out.size (.cells #[.int .i64 ((y : Nat) : Int)] 3)).grown hgrow (by have := HBW.out.size; simp; omega) (fun k hk => (World.ownsRow.lt HW.out k hk).1))
        clear hown' hgrow
        go_wp2
        go_roundw
        case rel => exact ⟨L ++ [y], 1, rfl, by simp, by omega, by rw [List.length_append, List.length_singleton]; exact hkk, mkHid (by
          obtain ⟨h1, h2, h3, h4⟩ := HYZ.out
          subst h1; subst h2
          exact H.out.step h3 h4 HN.out HG.out)⟩
        case measure => simp [intOf]; omega
      · obtain ⟨y, hy⟩ : ∃ y : Nat, y + x2 + c = x1 + 10 * 0 := ⟨x1 - x2 - c, by omega⟩
        have hy10 : y < 10 := by omega
        have hd : ¬ (x1 : Int) - (x2 : Int) - (c : Int) < 0 := by omega
        have e3 : (x1 : Int) - (x2 : Int) - (c : Int) = (y : Int) := by omega
        rw [e3] at e2 hd
        have HYZ := mkHid (And.intro hx1 (And.intro hx2 (And.intro hy hy10)))
        clear hx1 hx2 hy
        go_wp2_with (first
          | (go_at_call 64; with_reducible refine (HDA.out).mono ?_; rintro e w2 ⟨rfl, h2⟩; obtain rfl := h2.symm; clear h2)
          | (go_at_call 64; with_reducible refine (HDB.out).mono ?_; rintro e w2 ⟨rfl, h2⟩; obtain rfl := h2.symm; clear h2)
          | (at_builtin; refine wpList_append_own _ rfl _ _ 85 rfl w.heap.size 3 i0 (.int .i64 0) 1 8 Tryd.underlying85 hi'.out hz0'.out hz1'.out hz2'.out rfl (by decide) _ _ _ rfl (World.ownsRow.alloc HW.out _) ⟨wr.heap.size, 0, none⟩ 1 1 [.int .i64 ((y : Nat) : Int)] rfl rfl ?c1 ?c2 ?c3 ?c4 ?c5 ?_))
        case c1 => exact new_list wr #[.int .i64 ((y : Nat) : Int)] 3
        case c2 => intro u hu; simp only [List.mem_cons, List.not_mem_nil, or_false] at hu; subst hu; rfl
        case c3 => first | omega | (unfold maxLen; omega)
        case c4 => first | omega | (unfold maxLen at *; omega)
        case c5 => have := HBW.out.size; simp; omega
        intro v' w7 hown' hgrow _
        have HN := mkHid (OwnD.snoc hown')
        have HG := mkHid (((HBW.out).alloc HBW.out.size (.cells #[.int .i64 ((y : Nat) : Int)] 3)).grown hgrow (by have := HBW.out.size; simp; omega) (fun k hk => (World.ownsRow.lt HW.out k hk).1))
        clear hown' hgrow
        go_wp2
        go_roundw
        case rel => exact ⟨L ++ [y], 0, rfl, by simp, by omega, by rw [List.length_append, List.length_singleton]; exact hkk, mkHid (by
          obtain ⟨h1, h2, h3, h4⟩ := HYZ.out
          subst h1; subst h2
          exact H.out.step h3 h4 HN.out HG.out)⟩
        case measure => simp [intOf]; omega
    · have h1' : ¬ (L.length : Int) < (Lib.nDigits a : Int) := by omega
      have hv := H.out.fin hc hab (by omega)
      have hf := form_any _ L wr H.out.own.dg H.out.dig (by omega)
      rw [hv] at hf
      have HF := mkHid hf
      have HBW := mkHid H.out.below
      clear hf hv H
      go_wp2_with (go_at_call 67; refine (HF.out).mono ?_; rintro e w2 ⟨rfl, HB2⟩)
      go_ret2
      exact ⟨rfl, below_trans HBW.out HB2 HBW.out.size⟩
end Go.Proofs.YtflcdpolfimggaaDoor
namespace Go.Proofs.YtflcdpolfimggaaDoor
open Go.RowKit SD
open Go.Lib hiding dg

/-- The cells of block g. -/
def DC (w : World) (g : Nat) (L : List Nat) : Prop := ∀ (j x : Nat), L[j]? = some x → w.cell? ⟨g, j, none⟩ = some (.int .i64 (x : Int)) ∧ w.frozen? ⟨g, j, none⟩ = false
theorem DC.made {w w' : World} {n : Nat} (h : w'.ownsRow w.heap.size 3 1 (.slice (some ⟨w.heap.size, 0, none⟩) n n) n (madeCells #[Value.int .i64 0] n).toList) : DC w' w.heap.size (List.replicate n 0) := by
  obtain ⟨_, h⟩ := h
  rcases h with ⟨e, _⟩ | ⟨g, cap, cur, e, hg, hc, h1, h2, h3, h4⟩
  · cases e
  · injection e with e1 e2 e3
    injection e1 with e1
    injection e1 with e1 _ _
    subst e1
    intro j x hj
    have hjn : j < n := by have := (List.getElem?_eq_some_iff.1 hj).1; simpa using this
    have hx : x = 0 := by rw [List.getElem?_replicate, if_pos hjn] at hj; injection hj with hj; exact hj.symm
    subst hx
    refine ⟨?_, ?_⟩
    · have hj' : (madeCells #[Value.int .i64 0] n).toList[j]? = some (.int .i64 0) := by
        simp [madeCells, hjn, Nat.mod_one]
      rw [← h4, List.getElem?_take] at hj'
      split at hj'
      · simp only [World.cell?, hc]
        rw [Array.getElem?_toList] at hj'
        simpa using hj'
      · cases hj'
    · simp only [World.frozen?, hc]
      simp
theorem DC.set {w : World} {g : Nat} {L : List Nat} (h : DC w g L) (i y : Nat) : DC (w.setCell ⟨g, i, none⟩ (.int .i64 (y : Int))) g (L.set i y) := by
  intro j x hj
  obtain ⟨x0, hx0⟩ : ∃ x0, L[j]? = some x0 := by
    have := (List.getElem?_eq_some_iff.1 hj).1
    rw [List.length_set] at this
    exact ⟨L[j], List.getElem?_eq_getElem this⟩
  obtain ⟨h1, h2⟩ := h j x0 hx0
  have hc : ∃ c e fr, w.heap[g]? = some (.cells c e fr) := by
    unfold World.cell? at h1
    split at h1
    · rename_i c e fr hb; exact ⟨c, e, fr, hb⟩
    · simp at h1
  obtain ⟨c, e, fr, hb⟩ := hc
  have hb' : (w.setCell ⟨g, i, none⟩ (.int .i64 (y : Int))).heap[g]? = some (.cells (c.setIfInBounds i (.int .i64 (y : Int))) e fr) := by
    simp [World.setCell, Array.getElem?_modify, hb]
  constructor
  · simp only [World.cell?, hb, hb'] at h1 ⊢
    have h1' : c[j]? = some (.int .i64 (x0 : Int)) := by simpa using h1
    have hlt := (Array.getElem?_eq_some_iff.1 h1').1
    simp only [Option.isSome_none, Bool.false_eq_true, if_false]
    rw [Array.getElem?_setIfInBounds]
    by_cases hij : i = j
    · subst hij
      rw [List.getElem?_set_self (List.getElem?_eq_some_iff.1 hx0).1] at hj
      injection hj with hj
      subst hj
      rw [if_pos rfl, if_pos hlt]
    · rw [List.getElem?_set_ne hij, hx0] at hj
      injection hj with hj
      subst hj
      rw [if_neg hij, h1']
  · simp only [World.frozen?, hb, hb'] at h2 ⊢
    exact h2
theorem DC.drewN {w : World} {g : Nat} {L : List Nat} (h : DC w g L) (n : Nat) : DC (w.drewN n) g L := h
theorem DC.dg {w : World} {g cap : Nat} {L : List Nat} (h : DC w g L) : Dg w (.slice (some ⟨g, 0, none⟩) L.length cap) L :=
  .inr ⟨g, 0, cap, rfl, fun j x hj => by rw [Nat.zero_add]; exact (h j x hj).1⟩
theorem DC.next {w w' : World} {g : Nat} {L : List Nat} (h : DC w g L) (hb : Below w.heap.size w w') : DC w' g L := fun j x hj => by
  obtain ⟨h1, h2⟩ := h j x hj
  have hlt := World.block_lt_of_cell? w _ h1
  exact ⟨cell_grow2 hb h1, (World.frozen?_of_block (w := w) (w' := w') (a := ⟨g, j, none⟩) (hb.block g hlt)).trans h2⟩
theorem below_setCell {B : Nat} {w W : World} (h : Below B w W) {g : Nat} (hg : B ≤ g) (i : Nat) (v : Value) : Below B w (W.setCell ⟨g, i, none⟩ v) :=
  ⟨h.os, h.tape, h.output, by have := h.size; simpa [World.setCell] using this, fun k hk => (Below.heap_setCell _ _ _ _ (by simp; omega)).trans (h.block k hk)⟩

/-- What the loops keep: the cells, and their value but for u. -/
structure MulI (w wr : World) (g N : Nat) (L : List Nat) (u T : Nat) : Prop where
  cells : DC wr g L
  below : Below w.heap.size w wr
  ge : w.heap.size ≤ g
  len : L.length = N
  dig : ∀ x ∈ L, x < 10
  val : val L + u = T
theorem MulI.drewN {w wr : World} {g N u T : Nat} {L : List Nat} (h : MulI w wr g N L u T) (n : Nat) : MulI w (wr.drewN n) g N L u T := ⟨h.cells, below_drew h.below n, h.ge, h.len, h.dig, h.val⟩
theorem MulI.to {w wr : World} {g N u T u' T' : Nat} {L : List Nat} (h : MulI w wr g N L u T) (h1 : u = u') (h2 : T = T') : MulI w wr g N L u' T' := by subst h1; subst h2; exact h
theorem dig_set {L : List Nat} {i y : Nat} (h : ∀ x ∈ L, x < 10) (hy : y < 10) : ∀ x ∈ L.set i y, x < 10 := fun x hx => by
  rcases List.mem_or_eq_of_mem_set hx with h1 | h1
  · exact h x h1
  · omega
theorem MulI.step {w wr : World} {g N : Nat} {L : List Nat} {a b i j c x s y z : Nat} (h : MulI w wr g N L (10 ^ (i + j) * c) (a % 10 ^ i * b + 10 ^ i * (dg a i * (b % 10 ^ j)))) (hx : L[i + j]? = some x)
    (hs : x + dg a i * dg b j + c = s) (hy : s % 10 = y) (hz : s / 10 = z) :
    MulI w (wr.setCell ⟨g, i + j, none⟩ (.int .i64 (y : Int))) g N (L.set (i + j) y) (10 ^ (i + (j + 1)) * z) (a % 10 ^ i * b + 10 ^ i * (dg a i * (b % 10 ^ (j + 1)))) := by
  refine ⟨h.cells.set _ _, below_setCell h.below h.ge _ _, h.ge, by rw [List.length_set]; exact h.len, dig_set h.dig (by omega), ?_⟩
  have e1 := val_set L (i + j) y x hx
  have e2 := h.val
  rw [pow_split b j, ← Nat.add_assoc i j 1, Nat.pow_succ]
  have e3 : 10 ^ i * (dg a i * (b % 10 ^ j + 10 ^ j * dg b j)) = 10 ^ i * (dg a i * (b % 10 ^ j)) + 10 ^ (i + j) * (dg a i * dg b j) := by
    rw [Nat.mul_add, Nat.mul_add, Nat.pow_add]
    congr 1
    ac_rfl
  rw [e3]
  have e4 : 10 ^ (i + j) * x + 10 ^ (i + j) * (dg a i * dg b j) + 10 ^ (i + j) * c = 10 ^ (i + j) * y + 10 ^ (i + j) * 10 * z := by
    rw [Nat.mul_assoc, ← Nat.mul_add, ← Nat.mul_add, ← Nat.mul_add]
    congr 1; omega
  omega
theorem MulI.room {w wr : World} {g N : Nat} {L : List Nat} {a b i j c : Nat} (h : MulI w wr g N L (10 ^ (i + j) * c) (a % 10 ^ i * b + 10 ^ i * (dg a i * (b % 10 ^ j)))) (hc : 0 < c) : i + j < nDigits a + nDigits b := by
  apply Nat.lt_of_not_le; intro hle
  have e := h.val
  have h1 : a % 10 ^ i * b + 10 ^ i * (dg a i * (b % 10 ^ j)) ≤ a * b := by
    have hb : b % 10 ^ j ≤ b := Nat.mod_le _ _
    have h2 : 10 ^ i * (dg a i * (b % 10 ^ j)) ≤ 10 ^ i * (dg a i * b) := Nat.mul_le_mul_left _ (Nat.mul_le_mul_left _ hb)
    have h3 : a % 10 ^ i * b + 10 ^ i * (dg a i * b) = a % 10 ^ (i + 1) * b := by rw [pow_split, Nat.add_mul, Nat.mul_assoc]
    have h4 : a % 10 ^ (i + 1) * b ≤ a * b := Nat.mul_le_mul_right _ (Nat.mod_le _ _)
    omega
  have h5 : a * b < 10 ^ (nDigits a + nDigits b) := by
    rw [Nat.pow_add]
    have h6 := lt_pow_nDigits a
    have h7 := lt_pow_nDigits b
    exact Nat.mul_lt_mul_of_lt_of_le h6 (Nat.le_of_lt h7) (Nat.pow_pos (by omega))
  have h8 : 10 ^ (nDigits a + nDigits b) ≤ 10 ^ (i + j) := Nat.pow_le_pow_right (by omega) hle
  have h9 : 10 ^ (i + j) * 1 ≤ 10 ^ (i + j) * c := Nat.mul_le_mul_left _ hc
  omega
theorem MulI.done {w wr : World} {g N : Nat} {L : List Nat} {a b i j : Nat} (h : MulI w wr g N L (10 ^ (i + j) * 0) (a % 10 ^ i * b + 10 ^ i * (dg a i * (b % 10 ^ j)))) (hj : nDigits b ≤ j) : MulI w wr g N L 0 (a % 10 ^ (i + 1) * b) :=
  h.to (by simp) (by rw [mod_all b j hj, pow_split, Nat.add_mul, Nat.mul_assoc])

end Go.Proofs.YtflcdpolfimggaaDoor
namespace Go.Proofs.YtflcdpolfimggaaDoor
open Go.RowKit SD

set_option maxRecDepth 100000 in
set_option maxHeartbeats 8000000 in
theorem smul_any (a b : Nat) (w : World) (ha : Lib.nDigits a ≤ 100000) (hb : Lib.nDigits b ≤ 100000) :
    Calls Tryd.prog 63 #[.string (ds a), .string (ds b)] w fun e w' => e = .returned (.string (ds (a * b))) ∧ Below w.heap.size w w' := by
  obtain ⟨i0, hi, hz0, hz1, hz2⟩ := info_parts infoI
  have hi' := Lib.hid hi; have hz0' := Lib.hid hz0; have hz1' := Lib.hid hz1; have hz2' := Lib.hid hz2; clear hi hz0 hz1 hz2
  have la := ds_size a
  have lb := ds_size b
  have hnd1 : 0 < Lib.nDigits a := Lib.nDigits_pos a
  obtain ⟨N, hN⟩ : ∃ N, N = Lib.nDigits a + Lib.nDigits b + 1 := ⟨_, rfl⟩
  have hN3 : N ≤ 200001 := by omega
  have hN0 : 0 < N := by omega
  have e0 : IntKind.i64.wrap ((Lib.nDigits a : Int) + (Lib.nDigits b : Int)) = (Lib.nDigits a : Int) + (Lib.nDigits b : Int) := IntWalk.i64_in _ (by omega)
  have e1 : IntKind.i64.wrap ((Lib.nDigits a : Int) + (Lib.nDigits b : Int) + 1) = (N : Int) := by rw [IntWalk.i64_in _ (by omega)]; omega
  have HN := mkHid hN
  clear hN
  go_enter Tryd.func63, Tryd.ntmps63
  go_wp2_with (at_make; refine wpList_make_full _ rfl _ _ 85 rfl w.heap.size 3 i0 (.int .i64 0) 1 Tryd.underlying85 hi'.out hz0'.out hz1'.out _ _ _ _ N rfl rfl (by omega) (by omega) ?bytes ?maxl ?base ?_)
  case bytes => rw [hz2'.out]; omega
  case maxl => first | omega | (unfold maxLen; omega)
  case base => exact Nat.le_refl _
  intro w1 hown hgrow
  obtain ⟨g, hg⟩ : ∃ g, g = w.heap.size := ⟨_, rfl⟩
  have HM : Hid (MulI w w1 g N (List.replicate N 0) 0 (a % 10 ^ 0 * b)) := mkHid ⟨by rw [hg]; exact DC.made hown, below_grown hgrow (Nat.le_refl _), by omega, by simp, by intro x hx; have := (List.mem_replicate.1 hx).2; omega, by rw [val_zeros, Nat.pow_zero, Nat.mod_one, Nat.zero_mul]⟩
  clear hown hgrow hi' hz0' hz1' hz2'
  rw [← hg]
  have HG := mkHid hg
  clear hg
  go_wp2
  go_loopw [6] (fun iv wr => ∃ (i : Nat) (L : List Nat), iv = .int .i64 (i : Int) ∧ i ≤ Lib.nDigits a ∧ Hid (MulI w wr g N L 0 (a % 10 ^ i * b))) (fun iv _ => (600000 - intOf iv).toNat)
  case atStart => exact ⟨0, List.replicate N 0, rfl, by omega, HM⟩
  case round =>
    obtain ⟨i, L, rfl, hi, H⟩ := hrel
    by_cases h1 : i < Lib.nDigits a
    · have h1' : (i : Int) < (Lib.nDigits a : Int) := by omega
      have ei : IntKind.i64.wrap ((i : Int) + 1) = (i : Int) + 1 := IntWalk.i64_in _ (by omega)
      go_wp2
      go_loopw [7, 8] (fun cv jv wr => ∃ (c j : Nat) (L : List Nat), cv = .int .i64 (c : Int) ∧ jv = .int .i64 (j : Int) ∧ c ≤ 9 ∧ i + j ≤ Lib.nDigits a + Lib.nDigits b ∧ Hid (MulI w wr g N L (10 ^ (i + j) * c) (a % 10 ^ i * b + 10 ^ i * (dg a i * (b % 10 ^ j))))) (fun _ jv _ => (600000 - intOf jv).toNat)
      case atStart => exact ⟨0, 0, L, rfl, rfl, by omega, by omega, mkHid (H.out.to (by simp) (by simp [Nat.mod_one]))⟩
      case round =>
        clear H
        obtain ⟨c, j, L, rfl, rfl, hc, hij, H⟩ := hrel
        by_cases h2 : j < Lib.nDigits b ∨ 0 < c
        · have hroom : i + j < Lib.nDigits a + Lib.nDigits b := by
            rcases h2 with h2 | h2
            · omega
            · exact H.out.room h2
          obtain ⟨x, hx⟩ : ∃ x, L[i + j]? = some x := ⟨L[i + j]'(by rw [H.out.len]; have := HN.out; omega), List.getElem?_eq_getElem _⟩
          obtain ⟨hcx, hfx⟩ := H.out.cells _ x hx
          have hx10 : x < 10 := H.out.dig x (List.mem_of_getElem? hx)
          have HDA := mkHid (fun W => digit_any a i W (by omega))
          have HDB := mkHid (fun W => digit_any b j W (by omega))
          have hx1l := dg_lt a i
          have hx2l := dg_lt b j
          obtain ⟨x1, hx1⟩ : ∃ x1, dg a i = x1 := ⟨_, rfl⟩
          obtain ⟨x2, hx2⟩ : ∃ x2, dg b j = x2 := ⟨_, rfl⟩
          rw [hx1] at HDA hx1l
          rw [hx2] at HDB hx2l
          obtain ⟨m, hm⟩ : ∃ m, x1 * x2 = m := ⟨_, rfl⟩
          have hml : m ≤ 81 := by rw [← hm]; exact Nat.mul_le_mul (show x1 ≤ 9 by omega) (show x2 ≤ 9 by omega)
          obtain ⟨s, hs⟩ : ∃ s, x + m + c = s := ⟨_, rfl⟩
          obtain ⟨y, hy⟩ : ∃ y, s % 10 = y := ⟨_, rfl⟩
          obtain ⟨z, hz⟩ : ∃ z, s / 10 = z := ⟨_, rfl⟩
          have hz9 : z ≤ 9 := by omega
          have f1 : IntKind.i64.wrap ((i : Int) + (j : Int)) = ((i + j : Nat) : Int) := by rw [IntWalk.i64_in _ (by omega)]; omega
          have f2 : IntKind.i64.wrap ((x1 : Int) * (x2 : Int)) = (m : Int) := by rw [← Int.natCast_mul, hm, IntWalk.i64_in _ (by omega)]
          have f3 : IntKind.i64.wrap ((x : Int) + (m : Int)) = (x : Int) + (m : Int) := IntWalk.i64_in _ (by omega)
          have f4 : IntKind.i64.wrap ((x : Int) + (m : Int) + (c : Int)) = (s : Int) := by rw [IntWalk.i64_in _ (by omega)]; omega
          have f5 : (s : Int).tmod 10 = (y : Int) := by rw [Int.tmod_eq_emod_of_nonneg (by omega)]; omega
          have f6 : (s : Int).tdiv 10 = (z : Int) := by rw [Int.tdiv_eq_ediv_of_nonneg (by omega)]; omega
          have f7 : IntKind.i64.wrap (y : Int) = (y : Int) := IntWalk.i64_in _ (by omega)
          have f8 : IntKind.i64.wrap (z : Int) = (z : Int) := IntWalk.i64_in _ (by omega)
          have f9 : IntKind.i64.wrap ((j : Int) + 1) = (j : Int) + 1 := IntWalk.i64_in _ (by omega)
          have hp0 : (0 : Int) ≤ ((i + j : Nat) : Int) := by omega
          have hpl : ((i + j : Nat) : Int) < (N : Int) := by have := HN.out; omega
          have HST := mkHid (fun (wd : World) (hd : MulI w wd g N L (10 ^ (i + j) * c) (a % 10 ^ i * b + 10 ^ i * (dg a i * (b % 10 ^ j)))) => hd.step (s := s) (y := y) (z := z) hx (by rw [hx1, hx2, hm]; exact hs) hy hz)
          have hij2 : i + (j + 1) ≤ Lib.nDigits a + Lib.nDigits b := by omega
          obtain ⟨p, hp⟩ : ∃ p, i + j = p := ⟨_, rfl⟩
          rw [hp] at hcx hfx f1 hp0 hpl
          have HP := mkHid hp
          have hjm : j < 300000 := by omega
          clear hx hx1 hx2 hm hs hy hz hx10 hp hroom hij
          have h2' : Hid (j < Lib.nDigits b ∨ 0 < c) := mkHid h2
          have arm : (decide ((j : Int) < (Lib.nDigits b : Int)) = true ∨ (¬ (j : Int) < (Lib.nDigits b : Int) ∧ (0 : Int) < (c : Int))) := by
            by_cases h : (j : Int) < (Lib.nDigits b : Int)
            · exact .inl (decide_eq_true h)
            · exact .inr ⟨h, by rcases h2 with h2 | h2 <;> omega⟩
          clear h2
          rcases arm with h3 | ⟨h3, h4⟩
          · have h3 := of_decide_eq_true h3
            go_wp2
            go_quiet ((first
              | (go_at_call 64; with_reducible exact Calls.quiet_of_same (HDA.out _))
              | (go_at_call 64; with_reducible exact Calls.quiet_of_same (HDB.out _))))
            go_wp2
            go_roundw
            case rel => exact ⟨z, j + 1, L.set p y, rfl, rfl, hz9, hij2, mkHid (by have h9 := HP.out; subst h9; exact HST.out _ (H.out.drewN _))⟩
            case measure => simp [intOf]; omega
          · go_wp2
            go_quiet ((first
              | (go_at_call 64; with_reducible exact Calls.quiet_of_same (HDA.out _))
              | (go_at_call 64; with_reducible exact Calls.quiet_of_same (HDB.out _))))
            go_wp2
            go_roundw
            case rel => exact ⟨z, j + 1, L.set p y, rfl, rfl, hz9, hij2, mkHid (by have h9 := HP.out; subst h9; exact HST.out _ (H.out.drewN _))⟩
            case measure => simp [intOf]; omega
        · have h3 : ¬ (j : Int) < (Lib.nDigits b : Int) := by omega
          obtain rfl : c = 0 := by omega
          have HD := mkHid (H.out.done (by omega))
          clear H
          go_wp2
          go_roundw
          case rel => exact ⟨i + 1, L, rfl, by omega, HD⟩
          case measure => simp [intOf]; omega
    · have h1' : ¬ (i : Int) < (Lib.nDigits a : Int) := by omega
      have hv : val L = a * b := by
        have := H.out.val
        rw [mod_all a _ (by omega)] at this
        simpa using this
      have hf := form_any _ L wr (H.out.cells.dg (cap := N)) H.out.dig (by rw [H.out.len]; omega)
      rw [hv, H.out.len] at hf
      have HF := mkHid hf
      have HBW := mkHid H.out.below
      clear hf hv H
      go_wp2_with (go_at_call 67; refine (HF.out).mono ?_; rintro e w2 ⟨rfl, HB2⟩)
      go_ret
      exact ⟨rfl, below_trans HBW.out HB2 HBW.out.size⟩
theorem ds_zero : ds 0 = ⟨#[48]⟩ := by kernel_rfl
end Go.Proofs.YtflcdpolfimggaaDoor
namespace Go.Proofs.YtflcdpolfimggaaDoor
open Go.RowKit SD

theorem ds_ten : ds 10 = ⟨#[49, 48]⟩ := by kernel_rfl
theorem ds_ne_zero {n : Nat} (h : n ≠ 0) : ((ds n).toList == [48]) = false := by
  rw [beq_eq_false_iff_ne, ds_list]
  intro e
  exact h (D.dec_inj (show Lib.decDigits n = Lib.decDigits 0 by rw [e]; kernel_rfl))
/-- What the loops of Div keep: q's digits so far (those from place k on), and the rest. -/
structure DivI (w wr : World) (g N : Nat) (L : List Nat) (Q : Nat) : Prop where
  cells : DC wr g L
  below : Below w.heap.size w wr
  ge : w.heap.size ≤ g
  len : L.length = N
  dig : ∀ x ∈ L, x < 10
  val : val L = Q
theorem DivI.next {w wr w' : World} {g N Q : Nat} {L : List Nat} (h : DivI w wr g N L Q) (hb : Below wr.heap.size wr w') : DivI w w' g N L Q := ⟨h.cells.next hb, below_trans h.below hb h.below.size, h.ge, h.len, h.dig, h.val⟩
theorem DivI.step {w wr : World} {g N Q k x : Nat} {L : List Nat} (h : DivI w wr g N L Q) (hx : L[k]? = some x) (hx9 : x + 1 < 10) : DivI w (wr.setCell ⟨g, k, none⟩ (.int .i64 ((x + 1 : Nat) : Int))) g N (L.set k (x + 1)) (Q + 10 ^ k) := by
  refine ⟨h.cells.set _ _, below_setCell h.below h.ge _ _, h.ge, by rw [List.length_set]; exact h.len, dig_set h.dig hx9, ?_⟩
  have e1 := val_set L k (x + 1) x hx
  have e2 := h.val
  rw [Nat.mul_add] at e1
  omega
theorem DivI.to {w wr : World} {g N Q Q' : Nat} {L : List Nat} (h : DivI w wr g N L Q) (e : Q = Q') : DivI w wr g N L Q' := by subst e; exact h
/-- The digit of a number below it. -/
theorem get_dg (L : List Nat) : ∀ (k x : Nat), (∀ y ∈ L, y < 10) → L[k]? = some x → dg (val L) k = x := by
  induction L with
  | nil => intro k x _ h; simp at h
  | cons z L ih =>
    intro k x hd h
    have hz := hd z (by simp)
    cases k with
    | zero =>
      simp at h
      subst h
      simp only [dg, val, Nat.pow_zero, Nat.div_one]; omega
    | succ k =>
      simp at h
      have := ih k x (fun y hy => hd y (by simp [hy])) h
      rw [← this]
      simp only [dg, val, Nat.pow_succ]
      rw [Nat.mul_comm (10 ^ k) 10, ← Nat.div_div_eq_div_mul, show (z + 10 * val L) / 10 = val L by omega]
theorem sdiv_step (a b k : Nat) (hb : 0 < b) : a / 10 ^ k = a / 10 ^ (k + 1) * 10 + dg a k ∧ a / 10 ^ k % b = (a / 10 ^ (k + 1) % b * 10 + dg a k) % b ∧ a / 10 ^ k / b = (a / 10 ^ (k + 1)) / b * 10 + (a / 10 ^ (k + 1) % b * 10 + dg a k) / b := by
  have e : a / 10 ^ k = a / 10 ^ (k + 1) * 10 + dg a k := by
    unfold dg
    rw [Nat.pow_succ, ← Nat.div_div_eq_div_mul]; omega
  refine ⟨e, ?_, ?_⟩
  · rw [e, Nat.add_mod, Nat.mul_mod, Nat.add_mod (a / 10 ^ (k + 1) % b * 10), Nat.mul_mod (a / 10 ^ (k + 1) % b) 10, Nat.mod_mod]
  · have h1 := Nat.div_add_mod (a / 10 ^ (k + 1)) b
    rw [e]
    generalize a / 10 ^ (k + 1) = m at *
    generalize m / b = q at *
    generalize m % b = r at *
    subst h1
    rw [show (b * q + r) * 10 + dg a k = (r * 10 + dg a k) + b * (q * 10) by rw [Nat.add_mul, Nat.mul_assoc]; omega, Nat.add_mul_div_left _ _ hb]
    omega
/-- A string's number. -/
def sval (v : Value) : Nat := match v with | .string s => D.dv s.data.toList | _ => 0
theorem sval_ds (n : Nat) : sval (.string (ds n)) = n := by show D.dv (ds n).data.toList = n; rw [ds_data]; exact D.dv_dec n
theorem scmp_lt {a b : Nat} (h : a < b) : Lib.compareInt (a : Int) (b : Int) = -1 := by unfold Lib.compareInt; rw [if_pos (by omega)]
theorem scmp_ge {a b : Nat} (h : b ≤ a) : (0 : Int) ≤ Lib.compareInt (a : Int) (b : Int) := by unfold Lib.compareInt; rw [if_neg (by omega)]; split <;> omega
theorem DivI.digit {w wr : World} {g N k t Q : Nat} {L : List Nat} (h : DivI w wr g N L (10 ^ (k + 1) * Q + 10 ^ k * t)) (ht : t < 10) (hk : k < N) : L[k]? = some t := by
  obtain ⟨x, hx⟩ : ∃ x, L[k]? = some x := ⟨L[k]'(by rw [h.len]; exact hk), List.getElem?_eq_getElem _⟩
  have e := get_dg L k x h.dig hx
  rw [h.val] at e
  rw [hx, ← e]
  unfold dg
  rw [Nat.pow_succ, Nat.mul_assoc, ← Nat.mul_add, Nat.mul_div_cancel_left _ (Nat.pow_pos (by omega))]
  congr 1; omega

set_option maxRecDepth 100000 in
set_option maxHeartbeats 1000000 in
theorem sdiv_zero (a : Nat) (w : World) :
    Calls Tryd.prog 35 #[.string (ds a), .string (ds 0)] w fun e w' => e = .returned (.tuple #[.string (ds 0), .string (ds 0), .bool false]) ∧ Below w.heap.size w w' := by
  rw [ds_zero]
  go_enter Tryd.func35, Tryd.ntmps35
  go_wp2
  go_ret3
  exact ⟨rfl, Below.refl _ _⟩

set_option maxRecDepth 100000 in
set_option maxHeartbeats 8000000 in
theorem sdiv_pos (a b : Nat) (w : World) (hb : 0 < b) (ha : Lib.nDigits a ≤ 50000) :
    Calls Tryd.prog 35 #[.string (ds a), .string (ds b)] w fun e w' => e = .returned (.tuple #[.string (ds (a / b)), .string (ds (a % b)), .bool true]) ∧ Below w.heap.size w w' := by
  obtain ⟨i0, hi, hz0, hz1, hz2⟩ := info_parts infoI
  have hi' := Lib.hid hi; have hz0' := Lib.hid hz0; have hz1' := Lib.hid hz1; have hz2' := Lib.hid hz2; clear hi hz0 hz1 hz2
  have la := ds_size a
  have hb0 := ds_ne_zero (show b ≠ 0 by omega)
  obtain ⟨N, hN⟩ : ∃ N, Lib.nDigits a = N := ⟨_, rfl⟩
  have hnd1 : 0 < N := by have := Lib.nDigits_pos a; omega
  have HNA := mkHid hN
  rw [hN] at la ha
  have HMO := mkHid (fun (x : Nat) (h : x ≤ a) => show Lib.nDigits x ≤ N by rw [← hN]; exact nDigits_mono _ _ h)
  clear hN
  have e0 : IntKind.i64.wrap ((N : Int) - 1) = (N : Int) - 1 := IntWalk.i64_in _ (by omega)
  go_enter Tryd.func35, Tryd.ntmps35
  go_wp2_with (at_make; refine wpList_make_full _ rfl _ _ 85 rfl w.heap.size 3 i0 (.int .i64 0) 1 Tryd.underlying85 hi'.out hz0'.out hz1'.out _ _ _ _ N rfl rfl (by omega) (by omega) ?bytes ?maxl ?base ?_)
  case bytes => rw [hz2'.out]; omega
  case maxl => first | omega | (unfold maxLen; omega)
  case base => exact Nat.le_refl _
  intro w1 hown hgrow
  obtain ⟨g, hg⟩ : ∃ g, g = w.heap.size := ⟨_, rfl⟩
  have HM : Hid (DivI w w1 g N (List.replicate N 0) (10 ^ N * (a / 10 ^ N / b)) ∧ a / 10 ^ N % b = 0) := mkHid (by
    have h0 : a / 10 ^ N = 0 := Nat.div_eq_of_lt (nd_lt a N (by rw [HNA.out]; exact Nat.le_refl _))
    rw [h0, Nat.zero_div, Nat.mul_zero, Nat.zero_mod]
    exact ⟨⟨by rw [hg]; exact DC.made hown, below_grown hgrow (Nat.le_refl _), by omega, by simp, by intro x hx; have := (List.mem_replicate.1 hx).2; omega, val_zeros N⟩, rfl⟩)
  clear hown hgrow hi' hz0' hz1' hz2'
  rw [← hg]
  have HG := mkHid hg
  clear hg
  go_wp2
  go_loopw [8, 9] (fun sv iv wr => ∃ (k : Nat) (L : List Nat), sv = .string (ds (a / 10 ^ k % b)) ∧ iv = .int .i64 ((k : Int) - 1) ∧ k ≤ N ∧ Hid (DivI w wr g N L (10 ^ k * (a / 10 ^ k / b)))) (fun _ iv _ => (intOf iv + 1).toNat)
  case atStart => exact ⟨N, List.replicate N 0, by rw [HM.out.2]; exact congrArg _ ds_zero.symm, rfl, Nat.le_refl _, mkHid HM.out.1⟩
  case round =>
    obtain ⟨k, L, rfl, rfl, hk, H⟩ := hrel
    clear HM
    rcases Nat.eq_zero_or_pos k with rfl | hk0
    · have hf := form_any _ L wr (H.out.cells.dg (cap := N)) H.out.dig (by rw [H.out.len]; omega)
      rw [H.out.val, H.out.len, Nat.pow_zero, Nat.one_mul, Nat.div_one] at hf
      have HF := mkHid hf
      have HBW := mkHid H.out.below
      clear hf H
      rw [Nat.pow_zero, Nat.div_one, show ((0 : Nat) : Int) - 1 = -1 from rfl]
      go_wp2_with (go_at_call 67; refine (HF.out).mono ?_; rintro e w2 ⟨rfl, HB2⟩)
      go_ret3
      exact ⟨rfl, below_trans HBW.out HB2 HBW.out.size⟩
    · obtain ⟨j, rfl⟩ : ∃ j, k = j + 1 := ⟨k - 1, by omega⟩
      rw [show ((j + 1 : Nat) : Int) - 1 = (j : Int) by omega]
      obtain ⟨E1, E2, E3⟩ := sdiv_step a b j hb
      have hR10 : a / 10 ^ (j + 1) % b < b := Nat.mod_lt _ hb
      have hRa : a / 10 ^ (j + 1) % b * 10 + dg a j ≤ a := by
        have h1 : a / 10 ^ (j + 1) % b ≤ a / 10 ^ (j + 1) := Nat.mod_le _ _
        have h2 : a / 10 ^ j ≤ a := Nat.div_le_self _ _
        omega
      have hd10 := dg_lt a j
      obtain ⟨r0, hr0⟩ : ∃ r0, a / 10 ^ (j + 1) % b = r0 := ⟨_, rfl⟩
      obtain ⟨d, hd⟩ : ∃ d, dg a j = d := ⟨_, rfl⟩
      have HDA := mkHid (fun W => digit_any a j W (by rw [HNA.out]; omega))
      rw [hr0] at E2 E3 hR10 hRa ⊢
      rw [hd] at E1 E2 E3 hRa hd10 HDA
      obtain ⟨R, hR⟩ : ∃ R, r0 * 10 + d = R := ⟨_, rfl⟩
      have CM := mkHid (fun W => smul_any r0 10 W (by have := HMO.out r0 (by omega); omega) (by have : Lib.nDigits 10 ≤ 2 := D.nDigits_le 1 _ (by decide); omega))
      rw [ds_ten] at CM
      have CO := mkHid (fun W => sof_any d W (by omega))
      have CA := mkHid (fun W => sadd_any (r0 * 10) d W (by have := HMO.out (r0 * 10) (by omega); omega) (by have : Lib.nDigits d ≤ 1 := D.nDigits_le 0 _ (by omega); omega))
      rw [hR] at E2 E3 hRa CA
      have hRb : R < 10 * b := by omega
      have HE := mkHid (And.intro E2 E3)
      clear hr0 hd hR E1 E2 E3 hR10
      have f1 : IntKind.u64.wrap (d : Int) = (d : Int) := by rw [IntKind.wrap_u64]; omega
      have f2 : IntKind.i64.wrap ((j : Int) - 1) = (j : Int) - 1 := IntWalk.i64_in _ (by omega)
      generalize hs2 : ds (r0 * 10) = s2 at *
      generalize hs3 : ds d = s3 at *
      clear hs2 hs3
      obtain ⟨Q0, hQ0⟩ : ∃ Q0, a / 10 ^ (j + 1) / b = Q0 := ⟨_, rfl⟩
      rw [hQ0] at H HE
      clear hQ0
      have hj0 : (0 : Int) ≤ (j : Int) := by omega
      have hjN : (j : Int) < (N : Int) := by omega
      have hjn : j < N := by omega
      go_wp2_with (first
        | (go_at_call 63; refine (CM.out _).mono ?_; rintro e w2 ⟨rfl, hb⟩; have HX := mkHid (H.out.next hb); clear hb)
        | (go_at_call 64; refine (HDA.out _).mono ?_; rintro e w3 ⟨rfl, h3⟩; obtain rfl := h3.symm; clear h3)
        | (go_at_call 38; refine (CO.out _).mono ?_; rintro e w4 ⟨rfl, hb⟩; have HX := mkHid (HX.out.next hb); clear hb)
        | (go_at_call 62; refine (CA.out _).mono ?_; rintro e w5 ⟨rfl, hb⟩; have HX5 := mkHid (HX.out.next hb); clear hb))
      go_loopw [8] (fun sv wr => ∃ (r t : Nat) (L : List Nat), sv = .string (ds r) ∧ r + b * t = R ∧ Hid (DivI w wr g N L (10 ^ (j + 1) * Q0 + 10 ^ j * t))) (fun sv _ => sval sv)
      case atStart => exact ⟨R, 0, L, rfl, by simp, mkHid (HX5.out.to (by simp))⟩
      case round =>
        clear H HX5
        obtain ⟨r, t, L, rfl, hrt, H⟩ := hrel
        have CC := rcmp_any r b
        by_cases hle : b ≤ r
        · have hcv := scmp_ge hle
          generalize Lib.compareInt (r : Int) (b : Int) = cv at *
          replace CC := mkHid CC
          have ht9 : t + 1 < 10 := by
            apply Nat.lt_of_not_le; intro h9
            have : b * 9 ≤ b * t := Nat.mul_le_mul_left _ (by omega)
            omega
          have CS := mkHid (fun W => ssub_ge r b W (by have := HMO.out r (by omega); omega) hle)
          have hx := H.out.digit (by omega) hjn
          have HXG := mkHid hx
          have e1 : IntKind.i64.wrap ((t : Int) + 1) = ((t + 1 : Nat) : Int) := by rw [IntWalk.i64_in _ (by omega)]; omega
          have hlt : r - b < r := by omega
          have HRT : Hid (r - b + b * (t + 1) = R) := mkHid (by rw [Nat.mul_add]; omega)
          generalize hrb : r - b = rb at *
          clear hrt hrb hx
          go_wp2_with (first
            | (go_at_call 65; refine (CC.out _).mono ?_; rintro e w3 ⟨rfl, h3⟩; obtain rfl := h3.symm; clear h3)
            | (go_at_call 66; refine (CS.out _).mono ?_; rintro e w6 ⟨rfl, hb⟩; have HX6 := mkHid (H.out.next hb); clear hb; obtain ⟨hcx, hfx⟩ := HX6.out.cells _ t HXG.out))
          go_roundw
          case rel => exact ⟨rb, t + 1, L.set j (t + 1), rfl, HRT.out, mkHid ((HX6.out.step HXG.out ht9).to (by rw [Nat.mul_add, Nat.mul_one, Nat.add_assoc]))⟩
          case measure => rw [sval_ds, sval_ds]; exact hlt
        · rw [scmp_lt (by omega)] at CC
          replace CC := mkHid CC
          have hq : R / b = t := by rw [← hrt, Nat.add_mul_div_left _ _ hb, Nat.div_eq_of_lt (by omega), Nat.zero_add]
          have hr : R % b = r := by rw [← hrt, Nat.add_mul_mod_self_left, Nat.mod_eq_of_lt (by omega)]
          have HQR := mkHid (And.intro hq hr)
          clear hq hr hrt hle
          go_wp2_with (go_at_call 65; refine (CC.out _).mono ?_; rintro e w3 ⟨rfl, h3⟩; obtain rfl := h3.symm; clear h3)
          go_roundw
          case rel => exact ⟨j, L, by rw [HE.out.1, HQR.out.2], rfl, by omega, mkHid (H.out.to (by rw [HE.out.2, HQR.out.1, Nat.pow_succ, Nat.mul_assoc, ← Nat.mul_add, Nat.mul_comm 10 Q0]))⟩
          case measure => simp [intOf]

set_option maxRecDepth 100000 in
set_option maxHeartbeats 4000000 in
theorem sgcd_any (a b : Nat) (w : World) (ha : Lib.nDigits a ≤ 50000) (hb : Lib.nDigits b ≤ 50000) :
    Calls Tryd.prog 34 #[.string (ds a), .string (ds b)] w fun e w' => e = .returned (.string (ds (Nat.gcd a b))) ∧ Below w.heap.size w w' := by
  go_enter Tryd.func34, Tryd.ntmps34
  go_wp2
  go_loopw [0, 1] (fun av bv wr => ∃ (x y : Nat), av = .string (ds x) ∧ bv = .string (ds y) ∧ Hid (Nat.gcd x y = Nat.gcd a b ∧ Lib.nDigits x ≤ 50000 ∧ Lib.nDigits y ≤ 50000 ∧ Below w.heap.size w wr)) (fun _ bv _ => sval bv)
  case atStart => exact ⟨a, b, rfl, rfl, mkHid ⟨rfl, ha, hb, Below.refl _ _⟩⟩
  case round =>
    obtain ⟨x, y, rfl, rfl, H⟩ := hrel
    rcases Nat.eq_zero_or_pos y with rfl | hy
    · have HB := mkHid H.out.2.2.2
      have e : x = Nat.gcd a b := by have := H.out.1; rw [Nat.gcd_zero_right] at this; exact this
      rw [ds_zero, e]
      clear H e
      go_wp2
      go_ret
      exact ⟨rfl, HB.out⟩
    · have hy0 := ds_ne_zero (show y ≠ 0 by omega)
      have CD := mkHid (fun W => sdiv_pos x y W hy H.out.2.1)
      have hlt : x % y < y := Nat.mod_lt _ hy
      have HX : Hid (∀ wd, Below wr.heap.size wr wd → Nat.gcd y (x % y) = Nat.gcd a b ∧ Lib.nDigits y ≤ 50000 ∧ Lib.nDigits (x % y) ≤ 50000 ∧ Below w.heap.size w wd) := mkHid (fun wd hbd => by
        obtain ⟨h1, h2, h3, h4⟩ := H.out
        refine ⟨?_, h3, ?_, below_trans h4 hbd h4.size⟩
        · rw [← h1, Nat.gcd_comm x y, Nat.gcd_rec y x, Nat.gcd_comm]
        · have := nDigits_mono (x % y) y (by omega); omega)
      clear H
      generalize ds (x / y) = q at *
      generalize x % y = r at *
      go_wp2_with (go_at_call 35; refine (CD.out _).mono ?_; rintro e w2 ⟨rfl, hb⟩; have HR := mkHid (HX.out _ hb); clear hb)
      go_roundw
      case rel => exact ⟨y, r, rfl, rfl, HR⟩
      case measure => rw [sval_ds, sval_ds]; exact hlt
end Go.Proofs.YtflcdpolfimggaaDoor
namespace Go.Proofs.YtflcdpolfimggaaDoor
open Go.RowKit SD

set_option maxRecDepth 100000 in
set_option maxHeartbeats 2000000 in
theorem rread_raw (s X : ByteArray) (R : Bool) (w : World) (hR : D.isDec s.data.toList = R) (hX : (R = true → X = s) ∧ (R = false → X = ⟨#[48]⟩)) :
    Calls Tryd.prog 36 #[.string s] w fun e w' => e = .returned (.tuple #[.string X, .bool R]) ∧ w' = w := by
  have HR := mkHid hR
  have HX := mkHid hX
  clear hR hX
  by_cases h0 : s.toList = []
  · have HF : Hid (R = false) := mkHid (by rw [← HR.out, ← str_toList, h0]; rfl)
    have hz : s.size = 0 := by rw [← str_len, ← str_toList, h0]; rfl
    go_enter Tryd.func36, Tryd.ntmps36
    go_wp2
    go_ret2
    exact ⟨by rw [HX.out.2 HF.out, HF.out]; rfl, rfl⟩
  · have hpos : 0 < s.size := by
      have := List.length_pos_iff.2 h0
      rwa [str_toList, str_len] at this
    have hsz0 : ((s.size : Int) == 0) = false := by rw [beq_eq_false_iff_ne]; omega
    by_cases hsz : s.size ≤ 2000
    · have hsz' : ¬ (2000 : Int) < (s.size : Int) := by omega
      obtain ⟨c, hc⟩ : ∃ c, s[0] = c := ⟨_, rfl⟩
      have HH : Hid (s.data.toList.head? = some c) := mkHid (by
        rw [List.head?_eq_getElem?, List.getElem?_eq_getElem (by rw [str_len]; exact hpos), str_get s 0 hpos, hc])
      by_cases h1 : 1 < s.size
      · have h1' : (1 : Int) < (s.size : Int) := by omega
        by_cases h48 : (c.toNat : Int) = 48
        · have HF : Hid (R = false) := mkHid (by
            have hc48 : c = 48 := UInt8.toNat_inj.1 (by have : (48 : UInt8).toNat = 48 := rfl; omega)
            rw [← HR.out]
            refine D.isDec_zero (by rw [HH.out, hc48]) ?_
            intro e; have := congrArg List.length e; rw [str_len] at this; simp at this; omega)
          go_enter Tryd.func36, Tryd.ntmps36
          go_wp2
          go_ret2
          exact ⟨by rw [HX.out.2 HF.out, HF.out]; rfl, rfl⟩
        · have HT : Hid (s.data.toList.head? ≠ some 48 ∨ s.data.toList = [48]) := mkHid (.inl (by
            rw [HH.out]; intro e; injection e with e; subst e; exact h48 rfl))
          have h48' : ((c.toNat : Int) == 48) = false := by rw [beq_eq_false_iff_ne]; exact h48
          go_enter Tryd.func36, Tryd.ntmps36
          go_wp2
          go_loop [4] (fun iv => ∃ i : Nat, i ≤ s.size ∧ iv = .int .i64 i ∧ Hid (∀ j (_ : j < i) (h : j < s.size), D.isDig s[j] = true)) (fun iv => s.size - (intOf iv).toNat)
          case atStart => exact ⟨0, by omega, rfl, mkHid fun j hj _ => absurd hj (by omega)⟩
          case round =>
            obtain ⟨i, hi, rfl, H⟩ := hrel
            by_cases hlt : i < s.size
            · obtain ⟨d, hd⟩ : ∃ d, s[i] = d := ⟨_, rfl⟩
              have HDD := mkHid hd
              by_cases hd1 : (d.toNat : Int) < 48
              · have HF : Hid (R = false) := mkHid (by rw [← HR.out]; exact D.isDec_bad (c := s[i]) (by rw [← str_get s i hlt]; exact List.getElem_mem _) (by rw [HDD.out]; simp [D.isDig]; omega))
                go_wp2
                go_ret2
                exact ⟨by rw [HX.out.2 HF.out, HF.out]; rfl, rfl⟩
              · by_cases hd2 : (57 : Int) < d.toNat
                · have HF : Hid (R = false) := mkHid (by rw [← HR.out]; exact D.isDec_bad (c := s[i]) (by rw [← str_get s i hlt]; exact List.getElem_mem _) (by rw [HDD.out]; simp [D.isDig]; omega))
                  go_wp2
                  go_ret2
                  exact ⟨by rw [HX.out.2 HF.out, HF.out]; rfl, rfl⟩
                · go_wp2
                  go_round
                  case rel => exact ⟨i + 1, by omega, by go_num, mkHid fun j hj h => by
                    by_cases e : j = i
                    · subst e; rw [HDD.out]; simp [D.isDig]; omega
                    · exact H.out j (by omega) h⟩
                  case measure => simp [intOf]; omega
            · have hie : i = s.size := by omega
              subst hie
              have HF : Hid (R = true) := mkHid (by
                rw [← HR.out]
                refine D.isDec_ok (by rw [← str_toList]; exact h0) (by rw [str_len]; omega) HT.out ?_
                rw [List.all_eq_true]
                intro x hx
                obtain ⟨j, hj, rfl⟩ := List.getElem_of_mem hx
                rw [str_len] at hj
                rw [str_get s j hj]
                exact H.out j hj hj)
              go_wp2
              go_ret2
              exact ⟨by rw [HX.out.1 HF.out, HF.out]; rfl, rfl⟩
      · have h1' : ¬ (1 : Int) < (s.size : Int) := by omega
        have hs1 : s.size = 1 := by omega
        have HT : Hid (s.data.toList.head? ≠ some 48 ∨ s.data.toList = [48]) := mkHid (by
          by_cases hc48 : c = 48
          · right
            have e := HH.out
            have hl : s.data.toList.length = 1 := by rw [str_len]; exact hs1
            obtain ⟨y, hy⟩ := List.length_eq_one_iff.1 hl
            rw [hy] at e ⊢
            simp at e
            rw [e, hc48]
          · left; rw [HH.out]; intro e; injection e with e; exact hc48 e)
        clear hs1 hc
        go_enter Tryd.func36, Tryd.ntmps36
        go_wp2
        go_loop [4] (fun iv => ∃ i : Nat, i ≤ s.size ∧ iv = .int .i64 i ∧ Hid (∀ j (_ : j < i) (h : j < s.size), D.isDig s[j] = true)) (fun iv => s.size - (intOf iv).toNat)
        case atStart => exact ⟨0, by omega, rfl, mkHid fun j hj _ => absurd hj (by omega)⟩
        case round =>
          obtain ⟨i, hi, rfl, H⟩ := hrel
          by_cases hlt : i < s.size
          · obtain ⟨d, hd⟩ : ∃ d, s[i] = d := ⟨_, rfl⟩
            have HDD := mkHid hd
            by_cases hd1 : (d.toNat : Int) < 48
            · have HF : Hid (R = false) := mkHid (by rw [← HR.out]; exact D.isDec_bad (c := s[i]) (by rw [← str_get s i hlt]; exact List.getElem_mem _) (by rw [HDD.out]; simp [D.isDig]; omega))
              go_wp2
              go_ret2
              exact ⟨by rw [HX.out.2 HF.out, HF.out]; rfl, rfl⟩
            · by_cases hd2 : (57 : Int) < d.toNat
              · have HF : Hid (R = false) := mkHid (by rw [← HR.out]; exact D.isDec_bad (c := s[i]) (by rw [← str_get s i hlt]; exact List.getElem_mem _) (by rw [HDD.out]; simp [D.isDig]; omega))
                go_wp2
                go_ret2
                exact ⟨by rw [HX.out.2 HF.out, HF.out]; rfl, rfl⟩
              · go_wp2
                go_round
                case rel => exact ⟨i + 1, by omega, by go_num, mkHid fun j hj h => by
                  by_cases e : j = i
                  · subst e; rw [HDD.out]; simp [D.isDig]; omega
                  · exact H.out j (by omega) h⟩
                case measure => simp [intOf]; omega
          · have hie : i = s.size := by omega
            subst hie
            have HF : Hid (R = true) := mkHid (by
              rw [← HR.out]
              refine D.isDec_ok (by rw [← str_toList]; exact h0) (by rw [str_len]; omega) HT.out ?_
              rw [List.all_eq_true]
              intro x hx
              obtain ⟨j, hj, rfl⟩ := List.getElem_of_mem hx
              rw [str_len] at hj
              rw [str_get s j hj]
              exact H.out j hj hj)
            go_wp2
            go_ret2
            exact ⟨by rw [HX.out.1 HF.out, HF.out]; rfl, rfl⟩
    · have hsz' : (2000 : Int) < (s.size : Int) := by omega
      have HF : Hid (R = false) := mkHid (by rw [← HR.out]; exact D.isDec_long (by rw [str_len]; omega))
      go_enter Tryd.func36, Tryd.ntmps36
      go_wp2
      go_ret2
      exact ⟨by rw [HX.out.2 HF.out, HF.out]; rfl, rfl⟩

theorem rread_ok (s : ByteArray) (w : World) (h : D.isDec s.data.toList = true) :
    Calls Tryd.prog 36 #[.string s] w fun e w' => e = .returned (.tuple #[.string s, .bool true]) ∧ w' = w := rread_raw s s true w h ⟨fun _ => rfl, fun h => by cases h⟩
theorem rread_bad (s : ByteArray) (w : World) (h : D.isDec s.data.toList = false) :
    Calls Tryd.prog 36 #[.string s] w fun e w' => e = .returned (.tuple #[.string ⟨#[48]⟩, .bool false]) ∧ w' = w := rread_raw s _ false w h ⟨fun h => (by cases h), fun _ => rfl⟩
end Go.Proofs.YtflcdpolfimggaaDoor
