/- The contract of the specification's form. -/
import Derived.Test.YtjdkbbggelpchaaDoorSF
import Derived.Test.YtjdkbbggelpchaaDoorPack
namespace Go.Proofs.YtjdkbbggelpchaaDoor
open Go.RowKit SD

set_option maxRecDepth 100000 in
set_option maxHeartbeats 4000000 in
theorem form_nil (ao : Option Addr) (cap : Nat) (w : World) :
    Calls Tryd.prog 40 #[.slice ao 0 cap] w fun e w' => e = .returned (.string ⟨#[48]⟩) ∧ Below w.heap.size w w' := by
  obtain ⟨i0, hi, hz0, hz1, hz2⟩ := info_parts info8
  have hi' := Lib.hid hi; have hz0' := Lib.hid hz0; have hz1' := Lib.hid hz1; have hz2' := Lib.hid hz2; clear hi hz0 hz1 hz2
  go_enter Tryd.func40, Tryd.ntmps40
  go_wp2
  refine wp_loop_rounds 1 ?_
  rw [rounds_succ]
  go_wp2_with (at_make; refine wpList_make_own _ rfl _ _ 88 rfl w.heap.size 5 i0 (.int .u8 0) 1 Tryd.underlying88 hi'.out hz0'.out hz1'.out _ _ _ 0 rfl rfl rfl (by rw [hz2'.out]; omega) (by unfold maxLen; omega) (Nat.le_refl _) ?_; intro w1 hown hgrow; have HB := mkHid ((Below.refl w.heap.size w).grown hgrow (Nat.le_refl _) (fun k hk => by cases hk)); clear hown hgrow)
  refine wp_loop_rounds 1 ?_
  rw [rounds_succ]
  go_wp2
  go_ret
  exact ⟨rfl, HB.out⟩

set_option maxRecDepth 100000 in
set_option maxHeartbeats 4000000 in
theorem form_some (l : List Nat) (b off cap : Nat) (w : World) (hc : ∀ (j x : Nat), l[j]? = some x → w.cell? ⟨b, off + j, none⟩ = some (.int .i64 (x : Int))) (hd : ∀ x ∈ l, x < 10) (hlen : l.length ≤ 1000000) (hne : 1 ≤ l.length) :
    Calls Tryd.prog 40 #[.slice (some ⟨b, off, none⟩) l.length cap] w fun e w' => e = .returned (.string (ds (val l))) ∧ Below w.heap.size w w' := by
  have HC := mkHid hc
  have HD := mkHid hd
  have HNE := mkHid hne
  clear hc hd hne
  obtain ⟨i0, hi, hz0, hz1, hz2⟩ := info_parts info8
  have hi' := Lib.hid hi; have hz0' := Lib.hid hz0; have hz1' := Lib.hid hz1; have hz2' := Lib.hid hz2; clear hi hz0 hz1 hz2
  go_enter Tryd.func40, Tryd.ntmps40
  go_wp2
  go_loopw [3] (fun nw wr => ∃ k : Nat, k ≤ l.length ∧ nw = .int .i64 (k : Int) ∧ Hid (val (l.take k) = val l ∧ 1 ≤ k) ∧ wr = w) (fun nw _ => (intOf nw).toNat)
  case atStart => exact ⟨l.length, Nat.le_refl _, rfl, mkHid ⟨by rw [List.take_length], HNE.out⟩, rfl⟩
  case round =>
    obtain ⟨k, hk, rfl, H, rfl⟩ := hrel
    obtain ⟨w, rfl⟩ : ∃ w0 : World, w0 = wr := ⟨_, rfl⟩
    have hkm : k ≤ 1000000 := by omega
    by_cases hk1 : 1 < k
    · have hk1' : (1 : Int) < (k : Int) := by omega
      obtain ⟨x, hx⟩ : ∃ x, l[k - 1]? = some x := ⟨l[k - 1]'(by omega), List.getElem?_eq_getElem _⟩
      have hcx := HC.out (k - 1) x hx
      obtain ⟨p, hp⟩ : ∃ p, p = k - 1 := ⟨_, rfl⟩
      rw [← hp] at hcx hx
      have e1 : IntKind.i64.wrap ((k : Int) - 1) = (p : Int) := by rw [IntWalk.i64_in _ (by omega)]; omega
      have hp0 : (0 : Int) ≤ (p : Int) := by omega
      have hpl : (p : Int) < (l.length : Int) := by omega
      have HP := mkHid hp
      by_cases hx0 : x = 0
      · subst hx0
        rw [show ((0 : Nat) : Int) = 0 from rfl] at hcx
        have HX : Hid (val (l.take p) = val l ∧ 1 ≤ p) := mkHid ⟨val_take_zero l p hx (by rw [show p + 1 = k by omega]; exact H.out.1), by rw [hp]; omega⟩
        have hpk : p < k := by omega
        have HPK : Hid (p ≤ l.length) := mkHid (by omega)
        clear hx hp
        go_wp2
        go_roundw
        case rel => exact ⟨p, HPK.out, rfl, HX, trivial⟩
        case measure => simp [intOf]; omega
      · have HF : Hid (bs (l.take k) = Lib.decDigits (val l)) := mkHid (form_bytes l HD.out k hk H.out.1 (by omega) (.inr ⟨x, by rw [← hp]; exact hx, hx0⟩))
        have hxi : ((x : Int) == 0) = false := by rw [beq_eq_false_iff_ne]; omega
        clear hx hx0 hp
        go_wp2_with (at_make; refine wpList_make_own _ rfl _ _ 88 rfl w.heap.size 5 i0 (.int .u8 0) 1 Tryd.underlying88 hi'.out hz0'.out hz1'.out _ _ _ k rfl rfl (by omega) (by rw [hz2'.out]; omega) (by unfold maxLen; omega) (Nat.le_refl _) ?_; intro w1 hown hgrow; have HO := mkHid hown; have HB := mkHid ((Below.refl w.heap.size w).grown hgrow (Nat.le_refl _) (fun k hk => by cases hk)); clear hown hgrow)
        go_loopw [4, 5] (fun ov iw wr => ∃ m : Nat, m ≤ k ∧ iw = .int .i64 ((m : Int) - 1) ∧ Hid (wr.ownsRow w.heap.size 5 1 ov (k - m) (bv (bs ((l.take k).drop m))) ∧ Below w.heap.size w wr)) (fun _ iw _ => (intOf iw + 1).toNat)
        case atStart => exact ⟨k, Nat.le_refl _, by have h1 := HP.out; congr 1; omega, mkHid ⟨by rw [Nat.sub_self, List.drop_eq_nil_of_le (by rw [List.length_take]; exact Nat.min_le_left _ _)]; exact HO.out, HB.out⟩⟩
        case round =>
          obtain ⟨m, hm, rfl, H⟩ := hrel
          clear HO HB
          rcases Nat.eq_zero_or_pos m with rfl | hm0
          · rw [show ((0 : Nat) : Int) - 1 = -1 from rfl]
            have hown := H.out.1
            rw [Nat.sub_zero, List.drop_zero] at hown
            have HBW := mkHid H.out.2
            clear H
            obtain ⟨g, gc, rfl, hgl, hgc⟩ := ownsRow_cells hown (by omega)
            have hconv := run_convert_bytes_arg (P := Tryd.prog) wr 88 5 Tryd.underlying88 Tryd.underlying5 g 0 k gc ((bs (l.take k)).map fun b : UInt8 => (b.toNat : Int)) (by simp [bs_length]; omega) hgc 9 Tryd.underlying9
            rw [strOf, HF.out, show (⟨(Lib.decDigits (val l)).toArray⟩ : ByteArray) = ds (val l) from rfl] at hconv
            have hkne : ((k : Int) == 0) = false := by rw [beq_eq_false_iff_ne]; omega
            clear hown hgl hgc
            generalize hres : ds (val l) = res at hconv
            go_wp2
            go_ret
            exact ⟨by subst hres; rfl, HBW.out⟩
          · obtain ⟨p, rfl⟩ : ∃ p, m = p + 1 := ⟨m - 1, by omega⟩
            rw [show ((p + 1 : Nat) : Int) - 1 = (p : Int) by omega]
            obtain ⟨x, hx⟩ : ∃ x, l[p]? = some x := ⟨l[p]'(by omega), List.getElem?_eq_getElem _⟩
            have hcx0 := HC.out p x hx
            have hcx := cell_grow2 H.out.2 hcx0
            have hx10 := HD.out x (List.mem_of_getElem? hx)
            have hp0 : (0 : Int) ≤ (p : Int) := by omega
            have hpl : (p : Int) < (l.length : Int) := by omega
            have e1 : IntKind.i64.wrap (48 + (x : Int)) = 48 + (x : Int) := IntWalk.i64_in _ (by omega)
            have e2 : IntKind.u8.wrap (48 + (x : Int)) = ((UInt8.ofNat (48 + x)).toNat : Int) := by rw [D.dig_toNat x hx10, IntKind.wrap_u8]; omega
            have e3 : IntKind.i64.wrap ((p : Int) - 1) = (p : Int) - 1 := IntWalk.i64_in _ (by omega)
            have HE : Hid (bv (bs ((l.take k).drop p)) = bv (bs ((l.take k).drop (p + 1))) ++ [.int .u8 ((UInt8.ofNat (48 + x)).toNat : Int)]) := mkHid (by
              have hpk : p < (l.take k).length := by rw [List.length_take]; omega
              rw [List.drop_eq_getElem_cons hpk, bs_cons, ← bv_append]
              congr 1
              rw [List.getElem_take]
              have := (List.getElem?_eq_some_iff.1 hx).2
              rw [this]; rfl)
            generalize hby : ((UInt8.ofNat (48 + x)).toNat : Int) = y at *
            clear hby hx hcx0 hx10
            have HW := mkHid H.out.1
            have HBW := mkHid H.out.2
            clear H
            go_wp2_with (at_builtin; refine wpList_append_own _ rfl _ _ 88 rfl w.heap.size 5 i0 (.int .u8 0) 1 1 Tryd.underlying88 hi'.out hz0'.out hz1'.out hz2'.out rfl (by decide) _ _ _ rfl (World.ownsRow.alloc HW.out _) ⟨wr.heap.size, 0, none⟩ 1 1 [.int .u8 y] rfl rfl ?c1 ?c2 ?c3 ?c4 ?c5 ?_)
            case c1 => exact new_list wr #[.int .u8 y] 5
            case c2 => intro u hu; simp only [List.mem_cons, List.not_mem_nil, or_false] at hu; subst hu; rfl
            case c3 => unfold maxLen; omega
            case c4 => omega
            case c5 => have := HBW.out.size; simp; omega
            intro v' w7 hown' hgrow _
            have HN := mkHid hown'
            have HG := mkHid (((HBW.out).alloc HBW.out.size (.cells #[.int .u8 y] 5)).grown hgrow (by have := HBW.out.size; simp; omega) (fun k hk => (World.ownsRow.lt HW.out k hk).1))
            clear hown' hgrow
            go_wp2
            go_roundw
            case rel => exact ⟨p, by omega, by go_num, mkHid ⟨by rw [HE.out, show k - p = k - (p + 1) + 1 by omega]; exact HN.out, HG.out⟩⟩
            case measure => simp [intOf]
    · have hk1' : ¬ (1 : Int) < (k : Int) := by omega
      have HF : Hid (bs (l.take k) = Lib.decDigits (val l)) := mkHid (form_bytes l HD.out k hk H.out.1 H.out.2 (.inl (by have := H.out.2; omega)))
      have hk0 : 1 ≤ k := H.out.2
      go_wp2_with (at_make; refine wpList_make_own _ rfl _ _ 88 rfl w.heap.size 5 i0 (.int .u8 0) 1 Tryd.underlying88 hi'.out hz0'.out hz1'.out _ _ _ k rfl rfl (by omega) (by rw [hz2'.out]; omega) (by unfold maxLen; omega) (Nat.le_refl _) ?_; intro w1 hown hgrow; have HO := mkHid hown; have HB := mkHid ((Below.refl w.heap.size w).grown hgrow (Nat.le_refl _) (fun k hk => by cases hk)); clear hown hgrow)
      go_loopw [4, 5] (fun ov iw wr => ∃ m : Nat, m ≤ k ∧ iw = .int .i64 ((m : Int) - 1) ∧ Hid (wr.ownsRow w.heap.size 5 1 ov (k - m) (bv (bs ((l.take k).drop m))) ∧ Below w.heap.size w wr)) (fun _ iw _ => (intOf iw + 1).toNat)
      case atStart => exact ⟨k, Nat.le_refl _, by go_num, mkHid ⟨by rw [Nat.sub_self, List.drop_eq_nil_of_le (by rw [List.length_take]; exact Nat.min_le_left _ _)]; exact HO.out, HB.out⟩⟩
      case round =>
        obtain ⟨m, hm, rfl, H⟩ := hrel
        clear HO HB
        rcases Nat.eq_zero_or_pos m with rfl | hm0
        · rw [show ((0 : Nat) : Int) - 1 = -1 from rfl]
          have hown := H.out.1
          rw [Nat.sub_zero, List.drop_zero] at hown
          have HBW := mkHid H.out.2
          clear H
          obtain ⟨g, gc, rfl, hgl, hgc⟩ := ownsRow_cells hown (by omega)
          have hconv := run_convert_bytes_arg (P := Tryd.prog) wr 88 5 Tryd.underlying88 Tryd.underlying5 g 0 k gc ((bs (l.take k)).map fun b : UInt8 => (b.toNat : Int)) (by simp [bs_length]; omega) hgc 9 Tryd.underlying9
          rw [strOf, HF.out, show (⟨(Lib.decDigits (val l)).toArray⟩ : ByteArray) = ds (val l) from rfl] at hconv
          have hkne : ((k : Int) == 0) = false := by rw [beq_eq_false_iff_ne]; omega
          clear hown hgl hgc
          generalize hres : ds (val l) = res at hconv
          go_wp2
          go_ret
          exact ⟨by subst hres; rfl, HBW.out⟩
        · obtain ⟨p, rfl⟩ : ∃ p, m = p + 1 := ⟨m - 1, by omega⟩
          rw [show ((p + 1 : Nat) : Int) - 1 = (p : Int) by omega]
          obtain ⟨x, hx⟩ : ∃ x, l[p]? = some x := ⟨l[p]'(by omega), List.getElem?_eq_getElem _⟩
          have hcx0 := HC.out p x hx
          have hcx := cell_grow2 H.out.2 hcx0
          have hx10 := HD.out x (List.mem_of_getElem? hx)
          have hp0 : (0 : Int) ≤ (p : Int) := by omega
          have hpl : (p : Int) < (l.length : Int) := by omega
          have e1 : IntKind.i64.wrap (48 + (x : Int)) = 48 + (x : Int) := IntWalk.i64_in _ (by omega)
          have e2 : IntKind.u8.wrap (48 + (x : Int)) = ((UInt8.ofNat (48 + x)).toNat : Int) := by rw [D.dig_toNat x hx10, IntKind.wrap_u8]; omega
          have e3 : IntKind.i64.wrap ((p : Int) - 1) = (p : Int) - 1 := IntWalk.i64_in _ (by omega)
          have HE : Hid (bv (bs ((l.take k).drop p)) = bv (bs ((l.take k).drop (p + 1))) ++ [.int .u8 ((UInt8.ofNat (48 + x)).toNat : Int)]) := mkHid (by
            have hpk : p < (l.take k).length := by rw [List.length_take]; omega
            rw [List.drop_eq_getElem_cons hpk, bs_cons, ← bv_append]
            congr 1
            rw [List.getElem_take]
            have := (List.getElem?_eq_some_iff.1 hx).2
            rw [this]; rfl)
          generalize hby : ((UInt8.ofNat (48 + x)).toNat : Int) = y at *
          clear hby hx hcx0 hx10
          have HW := mkHid H.out.1
          have HBW := mkHid H.out.2
          clear H
          go_wp2_with (at_builtin; refine wpList_append_own _ rfl _ _ 88 rfl w.heap.size 5 i0 (.int .u8 0) 1 1 Tryd.underlying88 hi'.out hz0'.out hz1'.out hz2'.out rfl (by decide) _ _ _ rfl (World.ownsRow.alloc HW.out _) ⟨wr.heap.size, 0, none⟩ 1 1 [.int .u8 y] rfl rfl ?c1 ?c2 ?c3 ?c4 ?c5 ?_)
          case c1 => exact new_list wr #[.int .u8 y] 5
          case c2 => intro u hu; simp only [List.mem_cons, List.not_mem_nil, or_false] at hu; subst hu; rfl
          case c3 => unfold maxLen; omega
          case c4 => omega
          case c5 => have := HBW.out.size; simp; omega
          intro v' w7 hown' hgrow _
          have HN := mkHid hown'
          have HG := mkHid (((HBW.out).alloc HBW.out.size (.cells #[.int .u8 y] 5)).grown hgrow (by have := HBW.out.size; simp; omega) (fun k hk => (World.ownsRow.lt HW.out k hk).1))
          clear hown' hgrow
          go_wp2
          go_roundw
          case rel => exact ⟨p, by omega, by go_num, mkHid ⟨by rw [HE.out, show k - p = k - (p + 1) + 1 by omega]; exact HN.out, HG.out⟩⟩
          case measure => simp [intOf]

theorem form_any (v : Value) (l : List Nat) (w : World) (hv : Dg w v l) (hd : ∀ x ∈ l, x < 10) (hlen : l.length ≤ 1000000) :
    Calls Tryd.prog 40 #[v] w fun e w' => e = .returned (.string (ds (val l))) ∧ Below w.heap.size w w' := by
  rcases hv with ⟨rfl, ao, cap, rfl⟩ | ⟨b, off, cap, rfl, hc⟩
  · rw [show ds (val []) = ⟨#[48]⟩ from by kernel_rfl]
    exact form_nil ao cap w
  · by_cases hne : 1 ≤ l.length
    · exact form_some l b off cap w hc hd hlen hne
    · obtain rfl : l = [] := List.eq_nil_of_length_eq_zero (by omega)
      rw [show ds (val []) = ⟨#[48]⟩ from by kernel_rfl]
      exact form_nil _ cap w
end Go.Proofs.YtjdkbbggelpchaaDoor
