/- The contract of NatKnown. -/
import Derived.Test.YtagbojcoihpgcaaDoorWorks
import Derived.Test.YtagbojcoihpgcaaDoorFrom
import Derived.Test.YtagbojcoihpgcaaDoorParts
import Derived.Deep.CutBlock
import Derived.Deep.DeepCutAuto
namespace Go.Proofs.YtagbojcoihpgcaaDoor
open Go.RowKit

/-- Strings that are no decimal forms. -/
def bad : List (List UInt8) := [[], [48, 48], [48, 49], [45, 49], [43, 49], [32, 49], [49, 32], [49, 97], [48, 120, 49], [47], [58]]
theorem bad_all : ∀ i (h : i < bad.length), D.isDec bad[i] = false := by decide
def badV : Array Value := #[.string ⟨#[]⟩, .string ⟨#[48, 48]⟩, .string ⟨#[48, 49]⟩, .string ⟨#[45, 49]⟩, .string ⟨#[43, 49]⟩, .string ⟨#[32, 49]⟩, .string ⟨#[49, 32]⟩, .string ⟨#[49, 97]⟩, .string ⟨#[48, 120, 49]⟩, .string ⟨#[47]⟩, .string ⟨#[58]⟩]
theorem badV_eq : badV = (bad.map fun l => Value.string ⟨l.toArray⟩).toArray := rfl
theorem badV_at (w : World) (i : Nat) (l : List UInt8) (h : bad[i]? = some l) : (w.alloc (.cells badV 9)).cell? ⟨w.heap.size, i, none⟩ = some (.string ⟨l.toArray⟩) := by
  have hb : (w.alloc (.cells badV 9)).heap[w.heap.size]? = some (.cells badV 9 (0, 0)) := heap_alloc_new w _
  simp only [World.cell?, hb, Option.isSome_none, Bool.false_eq_true, if_false]
  rw [badV_eq, List.getElem?_toArray, List.getElem?_map, h]; rfl
theorem bad_length : bad.length = 11 := rfl
theorem bad_len : ∀ i (h : i < bad.length), bad[i].length ≤ 3 := by decide
theorem readb_g (i : Nat) (l : List UInt8) (h : bad[i]? = some l) : Gives 8 #[.string ⟨l.toArray⟩] (.tuple #[nv 0, .bool false]) := fun W _ _ => by
  obtain ⟨hi, rfl⟩ := List.getElem?_eq_some_iff.1 h
  exact read_bad ⟨bad[i].toArray⟩ W (by rw [← str_len]; have := bad_len i hi; unfold maxLen; simp; omega) (by simpa using bad_all i hi)
theorem pow_out_g (n : Int) (h : n < 0 ∨ 4096 < n) : Gives 12 #[.int .i64 n] (nv 0) := fun W _ _ => pow2_out n h W
theorem len_zero : lenN 0 = 0 := by unfold lenN; rw [M.dig_zero]; decide
theorem len_one : lenN 1 = 1 := by unfold lenN; rw [M.dig_small (by omega) (by decide)]; decide

set_option maxRecDepth 100000 in
set_option maxHeartbeats 8000000 in
theorem known_any (w : World) (ht : Tabs w) (h6 : 6 ≤ w.heap.size) :
    Calls Tryd.prog 4 #[] w fun e w' => e = .returned (.bool true) ∧ Below w.heap.size w w' := by
  have CW := mkHid works_any
  have HS0 := mkHid (St.refl ht h6)
  clear ht h6
  have C5 := of_g 5 (by decide)
  have C0 := of_g 0 (by decide)
  have C3 := of_g 3 (by decide)
  have C1 := of_g 1 (by decide)
  have Cdz := div_z 5
  have Cg := gcd_g 0 0 (sm_word (by decide)) (sm_word (by decide))
  rw [show Nat.gcd 0 0 = 0 from rfl] at Cg
  have Cp1 := pow_out_g 4097 (by decide)
  have Cp2 := pow_out_g (-1) (by decide)
  have Cs1 : Gives 14 #[nv 3, nv 5] (.tuple #[nv 0, .bool false]) := fun W _ _ => sub_any 3 5 W (Nat.le_trans (sm_word (by decide)) (by omega))
  have Cs2 : Gives 14 #[nv 5, nv 5] (.tuple #[nv 0, .bool true]) := fun W _ _ => sub_any 5 5 W (Nat.le_trans (sm_word (by decide)) (by omega))
  have Cl0 : Gives 11 #[nv 0] (.int .i64 0) := fun W _ _ => by have := len_any 0 W (Nat.le_trans (sm_word (by decide)) (by omega)); rwa [len_zero] at this
  have Cl1 : Gives 11 #[nv 1] (.int .i64 1) := fun W _ _ => by have := len_any 1 W (Nat.le_trans (sm_word (by decide)) (by omega)); rwa [len_one] at this
  have Crb := readb_g
  rw [show ((0 : Nat) : Int) = 0 from rfl] at C0
  rw [show ((1 : Nat) : Int) = 1 from rfl] at C1
  rw [show ((3 : Nat) : Int) = 3 from rfl] at C3
  rw [show ((5 : Nat) : Int) = 5 from rfl] at C5
  unfold nv at C5 C0 C3 C1 Cdz Cg Cp1 Cp2 Cs1 Cs2 Cl0 Cl1 Crb
  generalize lo 5 = lf at *
  generalize hi 5 = kf at *
  generalize lo 3 = lt at *
  generalize hi 3 = kt at *
  generalize lo 1 = lu at *
  generalize hi 1 = ku at *
  generalize hlz : lo 0 = lz at *
  generalize hkz : hi 0 = kz at *
  have Elz := mkHid hlz; have Ekz := mkHid hkz
  clear hlz hkz
  have C5 := mkHid C5
  have C0 := mkHid C0
  have C3 := mkHid C3
  have C1 := mkHid C1
  have Cdz := mkHid Cdz
  have Cg := mkHid Cg
  have Cp1 := mkHid Cp1
  have Cp2 := mkHid Cp2
  have Cs1 := mkHid Cs1
  have Cs2 := mkHid Cs2
  have Cl0 := mkHid Cl0
  have Cl1 := mkHid Cl1
  have Crb := mkHid Crb
  go_enter Tryd.func4, Tryd.ntmps4
  go_upto_region 4 with (first
    | (go_at_call 13; ((with_reducible refine (Cdz.out _ HX.out.tabs HX.out.six').mono ?_); rintro e w2 ⟨rfl, hb⟩; have HA2 := mkHid (((HX.out.next hb).alloc (.cells #[.int .u64 (lz : Int), .string kz] 26)).alloc (.cells #[.int .u64 (lz : Int), .string kz] 26)); clear HX; have HX := HA2; clear hb HA2))
    | (go_at_call 14; ((with_reducible refine (Cs1.out _ HX.out.tabs HX.out.six').mono ?_); rintro e w2 ⟨rfl, hb⟩; have HA2 := mkHid ((HX.out.next hb).alloc (.cells #[.int .u64 (lz : Int), .string kz] 26)); clear HX; have HX := HA2; clear hb HA2))
    | (go_at_call 14; ((with_reducible refine (Cs2.out _ HX.out.tabs HX.out.six').mono ?_); rintro e w5 ⟨rfl, hb⟩; have HA2 := mkHid ((HX.out.next hb).alloc (.cells #[.int .u64 (lz : Int), .string kz] 26)); have HC := mkHid (At2.new w5 w5.heap.size lz kz rfl); clear HX; have HX := HA2; clear hb HA2))
    | (go_at_call_of 10 (Value.int .u64 5); (first | ((with_reducible refine (C5.out _ HX.out.tabs HX.out.six').mono ?_); rintro e w1 ⟨rfl, hb⟩; have HA2 := mkHid (HX.out.next hb); clear HX; have HX := HA2; clear hb HA2) | ((with_reducible refine (C5.out _ HS0.out.tabs HS0.out.six').mono ?_); rintro e w1 ⟨rfl, hb⟩; have HX := mkHid (HS0.out.next hb); clear hb)))
    | (go_at_call_of 10 (Value.int .u64 0); refine (C0.out _ HX.out.tabs HX.out.six').mono ?_; rintro e w1 ⟨rfl, hb⟩; have HA2 := mkHid (HX.out.next hb); clear HX; have HX := HA2; clear hb HA2)
    | (go_at_call_of 10 (Value.int .u64 3); refine (C3.out _ HX.out.tabs HX.out.six').mono ?_; rintro e w1 ⟨rfl, hb⟩; have HA2 := mkHid (HX.out.next hb); clear HX; have HX := HA2; clear hb HA2))
  obtain ⟨q0, q1, -, -⟩ := HC.out
  have hs0 := HX.out.drew
  clear HC HX
  generalize w5.heap.size = j6 at *
  go_region_held3 (fun W => St w W ∧ W.cell? ⟨j6, 0, none⟩ = some (.int .u64 (lz : Int)) ∧ W.cell? ⟨j6, 1, none⟩ = some (.string kz))
    (first
      | (with_reducible exact ⟨hS.1.next hb, St.cell hb hS.2.1, St.cell hb hS.2.2⟩)
      | exact ⟨hs0, q0, q1⟩)
    (first
      | (go_at_call 10; have hS : St w _ ∧ _ := (by assumption); ((with_reducible refine (C0.out _ hS.1.tabs hS.1.six').mono ?_); rintro e w6 ⟨rfl, hb⟩))
      | (go_at_call 15; have hS : St w _ ∧ _ := (by assumption); ((with_reducible refine (Cg.out _ hS.1.tabs hS.1.six').mono ?_); rintro e w6 ⟨rfl, hb⟩))
      | (go_at_call 12; have hS : St w _ ∧ _ := (by assumption); ((with_reducible refine (Cp1.out _ hS.1.tabs hS.1.six').mono ?_); rintro e w6 ⟨rfl, hb⟩))
      | (go_at_call 12; have hS : St w _ ∧ _ := (by assumption); ((with_reducible refine (Cp2.out _ hS.1.tabs hS.1.six').mono ?_); rintro e w6 ⟨rfl, hb⟩))
      | (go_at_call 11; have hS : St w _ ∧ _ := (by assumption); ((with_reducible refine (Cl0.out _ hS.1.tabs hS.1.six').mono ?_); rintro e w6 ⟨rfl, hb⟩))
      | (go_at_call 11; have hS : St w _ ∧ _ := (by assumption); ((with_reducible refine (Cl1.out _ hS.1.tabs hS.1.six').mono ?_); rintro e w6 ⟨rfl, hb⟩))
      | (go_at_call 10; have hS : St w _ ∧ _ := (by assumption); ((with_reducible refine (C1.out _ hS.1.tabs hS.1.six').mono ?_); rintro e w6 ⟨rfl, hb⟩)))
  have hT : St w _ ∧ _ := (by assumption)
  have HS1 := mkHid hT.1
  have HC1 := mkHid hT.2
  clear hs0 q0 q1 hT
  have HB7 := mkHid (badV_at w6)
  have HS7 := mkHid (HS1.out.alloc (.cells badV 9))
  have HC7 : Hid ((w6.alloc (.cells badV 9)).cell? ⟨j6, 0, none⟩ = some (.int .u64 (lz : Int)) ∧ (w6.alloc (.cells badV 9)).cell? ⟨j6, 1, none⟩ = some (.string kz)) := mkHid ⟨St.cellAlloc HC1.out.1 _, St.cellAlloc HC1.out.2 _⟩
  clear HS1 HC1 HS0
  go_wp2_with fail
  go_loopw [80] (fun iv wr => ∃ i : Nat, i ≤ 11 ∧ iv = .int .i64 i ∧ Hid (St w wr ∧ (wr.cell? ⟨j6, 0, none⟩ = some (.int .u64 (lz : Int)) ∧ wr.cell? ⟨j6, 1, none⟩ = some (.string kz)) ∧ ∀ (j : Nat) (l : List UInt8), bad[j]? = some l → wr.cell? ⟨w6.heap.size, j, none⟩ = some (.string ⟨l.toArray⟩))) (fun iv _ => 11 - (intOf iv).toNat)
  case atStart => exact ⟨0, by omega, rfl, mkHid ⟨HS7.out, HC7.out, HB7.out⟩⟩
  case round =>
    obtain ⟨i, hil, rfl, H⟩ := hrel
    clear HS7 HC7 HB7
    by_cases hlt : i < 11
    · obtain ⟨l, hl⟩ : ∃ l, bad[i]? = some l := ⟨bad[i]'(by rw [bad_length]; exact hlt), List.getElem?_eq_getElem _⟩
      have hcl := H.out.2.2 i l hl
      have CR := mkHid (Crb.out i l hl)
      clear hl
      go_wp2_with (go_at_call 8; refine (CR.out _ H.out.1.tabs H.out.1.six').mono ?_; rintro e w8 ⟨rfl, hb⟩; have HN : Hid (St w (w8.alloc (.cells #[.int .u64 (lz : Int), .string kz] 26)) ∧ ((w8.alloc (.cells #[.int .u64 (lz : Int), .string kz] 26)).cell? ⟨j6, 0, none⟩ = some (.int .u64 (lz : Int)) ∧ (w8.alloc (.cells #[.int .u64 (lz : Int), .string kz] 26)).cell? ⟨j6, 1, none⟩ = some (.string kz)) ∧ ∀ (j : Nat) (l : List UInt8), bad[j]? = some l → (w8.alloc (.cells #[.int .u64 (lz : Int), .string kz] 26)).cell? ⟨w6.heap.size, j, none⟩ = some (.string ⟨l.toArray⟩)) := mkHid ⟨(H.out.1.next hb).alloc _, ⟨St.cellAlloc (St.cell hb H.out.2.1.1) _, St.cellAlloc (St.cell hb H.out.2.1.2) _⟩, fun j l h => St.cellAlloc (St.cell hb (H.out.2.2 j l h)) _⟩; obtain ⟨g1, g2⟩ := HN.out.2.1; clear hb)
      go_roundw
      case rel => exact ⟨i + 1, by omega, by go_num, HN⟩
      case measure => simp [intOf]; omega
    · have hie : i = 11 := by omega
      subst hie
      have HS9 := mkHid H.out.1
      clear H
      go_wp2_with fail
      go_loopw [12] (fun iv wr => ∃ i : Nat, i ≤ 40 ∧ iv = .int .u64 i ∧ Hid (St w wr)) (fun iv _ => 40 - (intOf iv).toNat)
      case atStart => exact ⟨0, by omega, rfl, HS9⟩
      case round =>
        obtain ⟨i, hil, rfl, H⟩ := hrel
        clear HS9
        by_cases hlt : i < 40
        · have hi40 : (i : Int) < 40 := by omega
          obtain ⟨wo, hwo⟩ : ∃ wo : World, wo = wr := ⟨_, rfl⟩
          subst hwo
          go_wp2_with fail
          go_loopw [13] (fun kv wk => ∃ k : Nat, k ≤ 40 ∧ kv = .int .u64 k ∧ Hid (St w wk)) (fun kv _ => 40 - (intOf kv).toNat)
          case atStart => exact ⟨0, by omega, rfl, H⟩
          case round =>
          obtain ⟨k, hk, rfl, HI⟩ := hrel
          clear H
          by_cases hkl : k < 40
          rcases Nat.eq_zero_or_pos k with hk0 | hkp
          next =>
            subst hk0
            have Coi := of_g i (by rw [M.B_eq]; omega)
            have Cad := add_g i 0 (sm_word (by rw [M.B_eq]; omega)) (sm_word (by decide))
            rw [Nat.add_zero] at Cad
            have Cmu := mul_g i 0 (sm_word (by rw [M.B_eq]; omega)) (sm_word (by decide))
            rw [Nat.mul_zero] at Cmu
            have Cdv := div_z i
            unfold nv at Coi Cad Cmu Cdv
            rw [Elz.out, Ekz.out] at Cad Cmu Cdv
            have hi9 : (i : Int) ≤ 39 := by omega
            have hw0 : IntKind.u64.wrap (i : Int) = (i : Int) := by rw [IntKind.wrap_u64]; omega
            have hw00 : IntKind.u64.wrap 0 = 0 := by decide
            generalize lo i = li at *
            generalize hi i = ki at *
            have Coi := mkHid Coi
            have Cad := mkHid Cad
            have Cmu := mkHid Cmu
            have Cdv := mkHid Cdv
            go_upto_region 21 with (first
              | (go_at_call 10; ((with_reducible refine (Coi.out _ HI.out.tabs HI.out.six').mono ?_); rintro e w1 ⟨rfl, hb⟩; have HS1 := mkHid (HI.out.next hb); clear hb HI))
              | (go_at_call 10; ((with_reducible refine (C0.out _ HS1.out.tabs HS1.out.six').mono ?_); rintro e w2 ⟨rfl, hb⟩; have HS2 := mkHid (((HS1.out.next hb).alloc (.cells #[.int .u64 (li : Int), .string ki] 26)).alloc (.cells #[.int .u64 (lz : Int), .string kz] 26)); have HC2 := mkHid (Cs.box (Cs.box (Cs.nil w2) w2.heap.size li ki rfl) (w2.heap.size + 1) lz kz (by simp)); clear hb))
              | (go_at_call 13; ((with_reducible refine (Cdv.out _ HS2.out.tabs HS2.out.six').mono ?_); rintro e w3 ⟨rfl, hb⟩; have HS3 := mkHid (((HS2.out.next hb).alloc (.cells #[.int .u64 (lz : Int), .string kz] 26)).alloc (.cells #[.int .u64 (lz : Int), .string kz] 26)); have HC3 := mkHid (Cs.box (Cs.box (HC2.out.next hb) w3.heap.size lz kz rfl) (w3.heap.size + 1) lz kz (by simp)); clear hb)))
            obtain ⟨q6, q7⟩ := HC3.out _ (.head _)
            obtain ⟨q4, q5⟩ := HC3.out _ (.tail _ (.head _))
            obtain ⟨q2, q3⟩ := HC3.out _ (.tail _ (.tail _ (.head _)))
            obtain ⟨q0, q1⟩ := HC3.out _ (.tail _ (.tail _ (.tail _ (.head _))))
            dsimp only at q0 q1 q2 q3 q4 q5 q6 q7
            have hs0 := HS3.out.drew
            clear HS1 HS2 HS3 HC2 HC3
            generalize w2.heap.size + 1 = b2 at *
            generalize w2.heap.size = b1 at *
            generalize w3.heap.size + 1 = b4 at *
            generalize w3.heap.size = b3 at *
            refine wp_region_held_drew (S := (fun W => St w W ∧ W.cell? ⟨b1, 0, none⟩ = some (.int .u64 (li : Int)) ∧ W.cell? ⟨b1, 1, none⟩ = some (.string ki) ∧ W.cell? ⟨b2, 0, none⟩ = some (.int .u64 (lz : Int)) ∧ W.cell? ⟨b2, 1, none⟩ = some (.string kz))) (by kernel_rfl) (by (try dsimp only); exact ⟨hs0, q0, q1, q2, q3⟩) (fun hHeld => ?_)
            refine wpAnyH_take (i := 0) (oi := { dst := some 115, op := Op.load 26 (Operand.tmp 14), type := 26, pos := "outright.go:115", after := #[], guard := none }) (v := ?_) rfl (by kernel_rfl) (by kernel_rfl) (by kernel_rfl) (fun _ _ _ h => h) (Or.inl ⟨by rfl, ?_⟩) (by assumption) ?_
            rotate_left
            · intro w' hSw; (try dsimp only at hSw); (go_simp <;> with_reducible rfl)
            try simp only [Act.put, List.setIfInBounds_toArray, List.set_cons_zero, List.set_cons_succ]
            refine wpAnyH_take (i := 1) (oi := { dst := some 116, op := Op.load 26 (Operand.tmp 15), type := 26, pos := "outright.go:115", after := #[], guard := none }) (v := ?_) rfl (by kernel_rfl) (by kernel_rfl) (by kernel_rfl) (fun _ _ _ h => h) (Or.inl ⟨by rfl, ?_⟩) (by assumption) ?_
            rotate_left
            · intro w' hSw; (try dsimp only at hSw); (go_simp <;> with_reducible rfl)
            try simp only [Act.put, List.setIfInBounds_toArray, List.set_cons_zero, List.set_cons_succ]
            refine wpAnyH_take (i := 3) (oi := { dst := some 118, op := Op.move (Operand.tmp 12), type := 24, pos := "outright.go:115", after := #[], guard := none }) (v := ?_) rfl (by kernel_rfl) (by kernel_rfl) (by kernel_rfl) (fun _ _ _ h => h) (Or.inl ⟨by rfl, ?_⟩) (by assumption) ?_
            rotate_left
            · intro w' hSw; (try dsimp only at hSw); (go_simp <;> with_reducible rfl)
            try simp only [Act.put, List.setIfInBounds_toArray, List.set_cons_zero, List.set_cons_succ]
            refine wpAnyH_take (i := 4) (oi := { dst := some 119, op := Op.move (Operand.tmp 13), type := 24, pos := "outright.go:115", after := #[], guard := none }) (v := ?_) rfl (by kernel_rfl) (by kernel_rfl) (by kernel_rfl) (fun _ _ _ h => h) (Or.inl ⟨by rfl, ?_⟩) (by assumption) ?_
            rotate_left
            · intro w' hSw; (try dsimp only at hSw); (go_simp <;> with_reducible rfl)
            try simp only [Act.put, List.setIfInBounds_toArray, List.set_cons_zero, List.set_cons_succ]
            refine wpAnyH_take (i := 5) (oi := { dst := some 120, op := Op.binOp BinOp.add 24 (Operand.tmp 118) (Operand.tmp 119) 24, type := 24, pos := "outright.go:115", after := #[{ on := 3, ground := Ground.data }, { on := 4, ground := Ground.data }], guard := none }) (v := ?_) rfl (by kernel_rfl) (by kernel_rfl) (by kernel_rfl) (fun _ _ _ h => h) (Or.inl ⟨by rfl, ?_⟩) (by assumption) ?_
            rotate_left
            · intro w' hSw; (try dsimp only at hSw); (go_simp <;> with_reducible rfl)
            try simp only [Act.put, List.setIfInBounds_toArray, List.set_cons_zero, List.set_cons_succ]
            refine wpAnyH_ready (rs := [2]) (by kernel_rfl) (by simp) ?_
            refine AllReadyH.cons (o := { dst := some 117, op := Op.call { callee := Callee.value (Operand.func 16), args := #[Operand.tmp 115, Operand.tmp 116], argTypes := #[26, 26] }, type := 26, pos := "outright.go:115", after := #[{ on := 0, ground := Ground.data }, { on := 1, ground := Ground.data }], guard := none }) rfl (fun K hK => ?_) AllReadyH.nil
            (first | (go_at_call 16; have hS : St w _ ∧ _ := (by assumption); ((with_reducible refine (Cad.out _ hS.1.tabs hS.1.six').mono ?_); rintro e w6 ⟨rfl, hb⟩)) | (go_simp; go_at_call 16; have hS : St w _ ∧ _ := (by assumption); ((with_reducible refine (Cad.out _ hS.1.tabs hS.1.six').mono ?_); rintro e w6 ⟨rfl, hb⟩)))
            (first | (refine hK.out _ _ (by (try dsimp only); exact ⟨hS.1.next hb, St.cell hb hS.2.1, St.cell hb hS.2.2.1, St.cell hb hS.2.2.2.1, St.cell hb hS.2.2.2.2⟩) (fun hNew => ?_)) | (go_wp2_with fail; refine hK.out _ _ (by (try dsimp only); exact ⟨hS.1.next hb, St.cell hb hS.2.1, St.cell hb hS.2.2.1, St.cell hb hS.2.2.2.1, St.cell hb hS.2.2.2.2⟩) (fun hNew => ?_)))
            clear hK K hHeld
            have hHeld := hNew
            clear hNew
            try simp only [Act.put, List.setIfInBounds_toArray, List.set_cons_zero, List.set_cons_succ]
            refine wpAnyH_ready (rs := [6]) (by kernel_rfl) (by simp) ?_
            refine AllReadyH.cons (o := { dst := some 121, op := Op.call { callee := Callee.value (Operand.func 10), args := #[Operand.tmp 120], argTypes := #[24] }, type := 26, pos := "outright.go:115", after := #[{ on := 5, ground := Ground.data }, { on := 2, ground := Ground.chain }], guard := none }) rfl (fun K hK => ?_) AllReadyH.nil
            (first | (go_at_call 10; have hS : St w _ ∧ _ := (by assumption); ((with_reducible refine (Coi.out _ hS.1.tabs hS.1.six').mono ?_); rintro e w6 ⟨rfl, hb⟩)) | (go_simp; go_at_call 10; have hS : St w _ ∧ _ := (by assumption); ((with_reducible refine (Coi.out _ hS.1.tabs hS.1.six').mono ?_); rintro e w6 ⟨rfl, hb⟩)))
            (first | (refine hK.out _ _ (by (try dsimp only); exact ⟨hS.1.next hb, St.cell hb hS.2.1, St.cell hb hS.2.2.1, St.cell hb hS.2.2.2.1, St.cell hb hS.2.2.2.2⟩) (fun hNew => ?_)) | (go_wp2_with fail; refine hK.out _ _ (by (try dsimp only); exact ⟨hS.1.next hb, St.cell hb hS.2.1, St.cell hb hS.2.2.1, St.cell hb hS.2.2.2.1, St.cell hb hS.2.2.2.2⟩) (fun hNew => ?_)))
            clear hK K hHeld
            have hHeld := hNew
            clear hNew
            try simp only [Act.put, List.setIfInBounds_toArray, List.set_cons_zero, List.set_cons_succ]
            refine wpAnyH_take (i := 7) (oi := { dst := some 122, op := Op.binOp BinOp.neq 26 (Operand.tmp 117) (Operand.tmp 121) 26, type := 4, pos := "outright.go:115", after := #[{ on := 2, ground := Ground.data }, { on := 6, ground := Ground.data }], guard := none }) (v := ?_) rfl (by kernel_rfl) (by kernel_rfl) (by kernel_rfl) (fun _ _ _ h => h) (Or.inl ⟨by rfl, ?_⟩) (by assumption) ?_
            rotate_left
            · intro w' hSw; (try dsimp only at hSw); (go_simp <;> with_reducible rfl)
            try simp only [Act.put, List.setIfInBounds_toArray, List.set_cons_zero, List.set_cons_succ]
            refine wpAnyH_take (i := 8) (oi := { dst := some 123, op := Op.move (Operand.tmp 122), type := 4, pos := "outright.go:115", after := #[{ on := 7, ground := Ground.data }, { on := 6, ground := Ground.chain }], guard := none }) (v := ?_) rfl (by kernel_rfl) (by kernel_rfl) (by kernel_rfl) (fun _ _ _ h => h) (Or.inl ⟨by rfl, ?_⟩) (by assumption) ?_
            rotate_left
            · intro w' hSw; (try dsimp only at hSw); (go_simp <;> with_reducible rfl)
            try simp only [Act.put, List.setIfInBounds_toArray, List.set_cons_zero, List.set_cons_succ]
            refine wpAnyH_take (i := 9) (oi := { dst := some 124, op := Op.load 26 (Operand.tmp 14), type := 26, pos := "outright.go:115", after := #[{ on := 8, ground := Ground.guard }], guard := some (8, false) }) (v := ?_) rfl (by kernel_rfl) (by kernel_rfl) (by kernel_rfl) (fun _ _ _ h => h) (Or.inl ⟨by rfl, ?_⟩) (by assumption) ?_
            rotate_left
            · intro w' hSw; (try dsimp only at hSw); (go_simp <;> with_reducible rfl)
            try simp only [Act.put, List.setIfInBounds_toArray, List.set_cons_zero, List.set_cons_succ]
            refine wpAnyH_take (i := 10) (oi := { dst := some 125, op := Op.load 26 (Operand.tmp 15), type := 26, pos := "outright.go:115", after := #[{ on := 8, ground := Ground.guard }], guard := some (8, false) }) (v := ?_) rfl (by kernel_rfl) (by kernel_rfl) (by kernel_rfl) (fun _ _ _ h => h) (Or.inl ⟨by rfl, ?_⟩) (by assumption) ?_
            rotate_left
            · intro w' hSw; (try dsimp only at hSw); (go_simp <;> with_reducible rfl)
            try simp only [Act.put, List.setIfInBounds_toArray, List.set_cons_zero, List.set_cons_succ]
            refine wpAnyH_take (i := 12) (oi := { dst := some 127, op := Op.move (Operand.tmp 12), type := 24, pos := "outright.go:115", after := #[{ on := 8, ground := Ground.guard }], guard := some (8, false) }) (v := ?_) rfl (by kernel_rfl) (by kernel_rfl) (by kernel_rfl) (fun _ _ _ h => h) (Or.inl ⟨by rfl, ?_⟩) (by assumption) ?_
            rotate_left
            · intro w' hSw; (try dsimp only at hSw); (go_simp <;> with_reducible rfl)
            try simp only [Act.put, List.setIfInBounds_toArray, List.set_cons_zero, List.set_cons_succ]
            refine wpAnyH_take (i := 13) (oi := { dst := some 128, op := Op.move (Operand.tmp 13), type := 24, pos := "outright.go:115", after := #[{ on := 8, ground := Ground.guard }], guard := some (8, false) }) (v := ?_) rfl (by kernel_rfl) (by kernel_rfl) (by kernel_rfl) (fun _ _ _ h => h) (Or.inl ⟨by rfl, ?_⟩) (by assumption) ?_
            rotate_left
            · intro w' hSw; (try dsimp only at hSw); (go_simp <;> with_reducible rfl)
            try simp only [Act.put, List.setIfInBounds_toArray, List.set_cons_zero, List.set_cons_succ]
            refine wpAnyH_take (i := 14) (oi := { dst := some 129, op := Op.binOp BinOp.mul 24 (Operand.tmp 127) (Operand.tmp 128) 24, type := 24, pos := "outright.go:115", after := #[{ on := 12, ground := Ground.data }, { on := 13, ground := Ground.data }, { on := 8, ground := Ground.guard }], guard := some (8, false) }) (v := ?_) rfl (by kernel_rfl) (by kernel_rfl) (by kernel_rfl) (fun _ _ _ h => h) (Or.inl ⟨by rfl, ?_⟩) (by assumption) ?_
            rotate_left
            · intro w' hSw; (try dsimp only at hSw); (go_simp <;> with_reducible rfl)
            try simp only [Act.put, List.setIfInBounds_toArray, List.set_cons_zero, List.set_cons_succ]
            refine wpAnyH_ready (rs := [11]) (by kernel_rfl) (by simp) ?_
            refine AllReadyH.cons (o := { dst := some 126, op := Op.call { callee := Callee.value (Operand.func 17), args := #[Operand.tmp 124, Operand.tmp 125], argTypes := #[26, 26] }, type := 26, pos := "outright.go:115", after := #[{ on := 9, ground := Ground.data }, { on := 10, ground := Ground.data }, { on := 8, ground := Ground.chain }, { on := 8, ground := Ground.guard }], guard := some (8, false) }) rfl (fun K hK => ?_) AllReadyH.nil
            (first | (go_at_call 17; have hS : St w _ ∧ _ := (by assumption); ((with_reducible refine (Cmu.out _ hS.1.tabs hS.1.six').mono ?_); rintro e w6 ⟨rfl, hb⟩)) | (go_simp; go_at_call 17; have hS : St w _ ∧ _ := (by assumption); ((with_reducible refine (Cmu.out _ hS.1.tabs hS.1.six').mono ?_); rintro e w6 ⟨rfl, hb⟩)))
            (first | (refine hK.out _ _ (by (try dsimp only); exact ⟨hS.1.next hb, St.cell hb hS.2.1, St.cell hb hS.2.2.1, St.cell hb hS.2.2.2.1, St.cell hb hS.2.2.2.2⟩) (fun hNew => ?_)) | (go_wp2_with fail; refine hK.out _ _ (by (try dsimp only); exact ⟨hS.1.next hb, St.cell hb hS.2.1, St.cell hb hS.2.2.1, St.cell hb hS.2.2.2.1, St.cell hb hS.2.2.2.2⟩) (fun hNew => ?_)))
            clear hK K hHeld
            have hHeld := hNew
            clear hNew
            try simp only [Act.put, List.setIfInBounds_toArray, List.set_cons_zero, List.set_cons_succ]
            refine wpAnyH_ready (rs := [15]) (by kernel_rfl) (by simp) ?_
            refine AllReadyH.cons (o := { dst := some 130, op := Op.call { callee := Callee.value (Operand.func 10), args := #[Operand.tmp 129], argTypes := #[24] }, type := 26, pos := "outright.go:115", after := #[{ on := 14, ground := Ground.data }, { on := 11, ground := Ground.chain }, { on := 8, ground := Ground.guard }], guard := some (8, false) }) rfl (fun K hK => ?_) AllReadyH.nil
            (first | (go_at_call 10; have hS : St w _ ∧ _ := (by assumption); ((with_reducible refine (C0.out _ hS.1.tabs hS.1.six').mono ?_); rintro e w6 ⟨rfl, hb⟩)) | (go_simp; go_at_call 10; have hS : St w _ ∧ _ := (by assumption); ((with_reducible refine (C0.out _ hS.1.tabs hS.1.six').mono ?_); rintro e w6 ⟨rfl, hb⟩)))
            (first | (refine hK.out _ _ (by (try dsimp only); exact ⟨hS.1.next hb, St.cell hb hS.2.1, St.cell hb hS.2.2.1, St.cell hb hS.2.2.2.1, St.cell hb hS.2.2.2.2⟩) (fun hNew => ?_)) | (go_wp2_with fail; refine hK.out _ _ (by (try dsimp only); exact ⟨hS.1.next hb, St.cell hb hS.2.1, St.cell hb hS.2.2.1, St.cell hb hS.2.2.2.1, St.cell hb hS.2.2.2.2⟩) (fun hNew => ?_)))
            clear hK K hHeld
            have hHeld := hNew
            clear hNew
            try simp only [Act.put, List.setIfInBounds_toArray, List.set_cons_zero, List.set_cons_succ]
            refine wpAnyH_take (i := 16) (oi := { dst := some 131, op := Op.binOp BinOp.neq 26 (Operand.tmp 126) (Operand.tmp 130) 26, type := 4, pos := "outright.go:115", after := #[{ on := 11, ground := Ground.data }, { on := 15, ground := Ground.data }, { on := 8, ground := Ground.guard }], guard := some (8, false) }) (v := ?_) rfl (by kernel_rfl) (by kernel_rfl) (by kernel_rfl) (fun _ _ _ h => h) (Or.inl ⟨by rfl, ?_⟩) (by assumption) ?_
            rotate_left
            · intro w' hSw; (try dsimp only at hSw); (go_simp <;> with_reducible rfl)
            try simp only [Act.put, List.setIfInBounds_toArray, List.set_cons_zero, List.set_cons_succ]
            refine wpAnyH_take (i := 17) (oi := { dst := some 132, op := Op.pick (Operand.tmp 123) (Operand.const (Value.bool true)) (Operand.tmp 131), type := 4, pos := "outright.go:115", after := #[{ on := 8, ground := Ground.data }, { on := 16, ground := Ground.data }], guard := none }) (v := ?_) rfl (by kernel_rfl) (by kernel_rfl) (by kernel_rfl) (fun _ _ _ h => h) (Or.inl ⟨by rfl, ?_⟩) (by assumption) ?_
            rotate_left
            · intro w' hSw; (try dsimp only at hSw); (go_simp <;> with_reducible rfl)
            try simp only [Act.put, List.setIfInBounds_toArray, List.set_cons_zero, List.set_cons_succ]
            refine wpAnyH_take (i := 18) (oi := { dst := some 133, op := Op.move (Operand.tmp 132), type := 4, pos := "outright.go:115", after := #[{ on := 17, ground := Ground.data }, { on := 15, ground := Ground.chain }], guard := none }) (v := ?_) rfl (by kernel_rfl) (by kernel_rfl) (by kernel_rfl) (fun _ _ _ h => h) (Or.inl ⟨by rfl, ?_⟩) (by assumption) ?_
            rotate_left
            · intro w' hSw; (try dsimp only at hSw); (go_simp <;> with_reducible rfl)
            try simp only [Act.put, List.setIfInBounds_toArray, List.set_cons_zero, List.set_cons_succ]
            refine wpAnyH_take (i := 19) (oi := { dst := some 134, op := Op.move (Operand.tmp 18), type := 4, pos := "outright.go:115", after := #[{ on := 18, ground := Ground.guard }], guard := some (18, false) }) (v := ?_) rfl (by kernel_rfl) (by kernel_rfl) (by kernel_rfl) (fun _ _ _ h => h) (Or.inl ⟨by rfl, ?_⟩) (by assumption) ?_
            rotate_left
            · intro w' hSw; (try dsimp only at hSw); (go_simp <;> with_reducible rfl)
            try simp only [Act.put, List.setIfInBounds_toArray, List.set_cons_zero, List.set_cons_succ]
            refine wpAnyH_take (i := 20) (oi := { dst := some 135, op := Op.move (Operand.tmp 13), type := 24, pos := "outright.go:115", after := #[{ on := 18, ground := Ground.guard }], guard := some (18, false) }) (v := ?_) rfl (by kernel_rfl) (by kernel_rfl) (by kernel_rfl) (fun _ _ _ h => h) (Or.inl ⟨by rfl, ?_⟩) (by assumption) ?_
            rotate_left
            · intro w' hSw; (try dsimp only at hSw); (go_simp <;> with_reducible rfl)
            try simp only [Act.put, List.setIfInBounds_toArray, List.set_cons_zero, List.set_cons_succ]
            refine wpAnyH_take (i := 21) (oi := { dst := some 136, op := Op.binOp BinOp.gtr 24 (Operand.tmp 135) (Operand.const (Value.int IntKind.u64 0)) 24, type := 4, pos := "outright.go:115", after := #[{ on := 20, ground := Ground.data }, { on := 18, ground := Ground.guard }], guard := some (18, false) }) (v := ?_) rfl (by kernel_rfl) (by kernel_rfl) (by kernel_rfl) (fun _ _ _ h => h) (Or.inl ⟨by rfl, ?_⟩) (by assumption) ?_
            rotate_left
            · intro w' hSw; (try dsimp only at hSw); (go_simp <;> with_reducible rfl)
            try simp only [Act.put, List.setIfInBounds_toArray, List.set_cons_zero, List.set_cons_succ]
            refine wpAnyH_take (i := 22) (oi := { dst := some 137, op := Op.binOp BinOp.neq 4 (Operand.tmp 134) (Operand.tmp 136) 4, type := 4, pos := "outright.go:115", after := #[{ on := 19, ground := Ground.data }, { on := 21, ground := Ground.data }, { on := 18, ground := Ground.guard }], guard := some (18, false) }) (v := ?_) rfl (by kernel_rfl) (by kernel_rfl) (by kernel_rfl) (fun _ _ _ h => h) (Or.inl ⟨by rfl, ?_⟩) (by assumption) ?_
            rotate_left
            · intro w' hSw; (try dsimp only at hSw); (go_simp <;> with_reducible rfl)
            try simp only [Act.put, List.setIfInBounds_toArray, List.set_cons_zero, List.set_cons_succ]
            refine wpAnyH_take (i := 23) (oi := { dst := some 138, op := Op.pick (Operand.tmp 133) (Operand.const (Value.bool true)) (Operand.tmp 137), type := 4, pos := "outright.go:115", after := #[{ on := 18, ground := Ground.data }, { on := 22, ground := Ground.data }], guard := none }) (v := ?_) rfl (by kernel_rfl) (by kernel_rfl) (by kernel_rfl) (fun _ _ _ h => h) (Or.inl ⟨by rfl, ?_⟩) (by assumption) ?_
            rotate_left
            · intro w' hSw; (try dsimp only at hSw); (go_simp <;> with_reducible rfl)
            try simp only [Act.put, List.setIfInBounds_toArray, List.set_cons_zero, List.set_cons_succ]
            refine wpAnyH_take (i := 24) (oi := { dst := some 139, op := Op.move (Operand.tmp 138), type := 4, pos := "outright.go:115", after := #[{ on := 23, ground := Ground.data }, { on := 18, ground := Ground.chain }], guard := none }) (v := ?_) rfl (by kernel_rfl) (by kernel_rfl) (by kernel_rfl) (fun _ _ _ h => h) (Or.inl ⟨by rfl, ?_⟩) (by assumption) ?_
            rotate_left
            · intro w' hSw; (try dsimp only at hSw); (go_simp <;> with_reducible rfl)
            try simp only [Act.put, List.setIfInBounds_toArray, List.set_cons_zero, List.set_cons_succ]
            refine wpAnyH_take (i := 25) (oi := { dst := some 140, op := Op.move (Operand.tmp 13), type := 24, pos := "outright.go:115", after := #[{ on := 24, ground := Ground.guard }], guard := some (24, false) }) (v := ?_) rfl (by kernel_rfl) (by kernel_rfl) (by kernel_rfl) (fun _ _ _ h => h) (Or.inl ⟨by rfl, ?_⟩) (by assumption) ?_
            rotate_left
            · intro w' hSw; (try dsimp only at hSw); (go_simp <;> with_reducible rfl)
            try simp only [Act.put, List.setIfInBounds_toArray, List.set_cons_zero, List.set_cons_succ]
            refine wpAnyH_take (i := 26) (oi := { dst := some 141, op := Op.binOp BinOp.gtr 24 (Operand.tmp 140) (Operand.const (Value.int IntKind.u64 0)) 24, type := 4, pos := "outright.go:115", after := #[{ on := 25, ground := Ground.data }, { on := 24, ground := Ground.guard }], guard := some (24, false) }) (v := ?_) rfl (by kernel_rfl) (by kernel_rfl) (by kernel_rfl) (fun _ _ _ h => h) (Or.inl ⟨by rfl, ?_⟩) (by assumption) ?_
            rotate_left
            · intro w' hSw; (try dsimp only at hSw); (go_simp <;> with_reducible rfl)
            try simp only [Act.put, List.setIfInBounds_toArray, List.set_cons_zero, List.set_cons_succ]
            refine wpAnyH_take (i := 27) (oi := { dst := some 142, op := Op.move (Operand.tmp 141), type := 4, pos := "outright.go:115", after := #[{ on := 26, ground := Ground.data }, { on := 24, ground := Ground.chain }, { on := 24, ground := Ground.guard }], guard := some (24, false) }) (v := ?_) rfl (by kernel_rfl) (by kernel_rfl) (by kernel_rfl) (fun _ _ _ h => h) (Or.inl ⟨by rfl, ?_⟩) (by assumption) ?_
            rotate_left
            · intro w' hSw; (try dsimp only at hSw); (go_simp <;> with_reducible rfl)
            try simp only [Act.put, List.setIfInBounds_toArray, List.set_cons_zero, List.set_cons_succ]
            refine wpAnyH_take (i := 28) (oi := { dst := some 143, op := Op.load 26 (Operand.tmp 16), type := 26, pos := "outright.go:115", after := #[{ on := 27, ground := Ground.guard }], guard := some (27, true) }) (v := undef) rfl (by kernel_rfl) (by kernel_rfl) (by kernel_rfl) (fun _ _ _ h => h) (Or.inr ⟨by rfl, rfl⟩) (by assumption) ?_
            try simp only [Act.put, List.setIfInBounds_toArray, List.set_cons_zero, List.set_cons_succ]
            refine wpAnyH_take (i := 29) (oi := { dst := some 144, op := Op.move (Operand.tmp 12), type := 24, pos := "outright.go:115", after := #[{ on := 27, ground := Ground.guard }], guard := some (27, true) }) (v := undef) rfl (by kernel_rfl) (by kernel_rfl) (by kernel_rfl) (fun _ _ _ h => h) (Or.inr ⟨by rfl, rfl⟩) (by assumption) ?_
            try simp only [Act.put, List.setIfInBounds_toArray, List.set_cons_zero, List.set_cons_succ]
            refine wpAnyH_take (i := 30) (oi := { dst := some 145, op := Op.move (Operand.tmp 13), type := 24, pos := "outright.go:115", after := #[{ on := 27, ground := Ground.guard }], guard := some (27, true) }) (v := undef) rfl (by kernel_rfl) (by kernel_rfl) (by kernel_rfl) (fun _ _ _ h => h) (Or.inr ⟨by rfl, rfl⟩) (by assumption) ?_
            try simp only [Act.put, List.setIfInBounds_toArray, List.set_cons_zero, List.set_cons_succ]
            refine wpAnyH_take (i := 31) (oi := { dst := some 146, op := Op.binOp BinOp.quo 24 (Operand.tmp 144) (Operand.tmp 145) 24, type := 24, pos := "outright.go:115", after := #[{ on := 29, ground := Ground.data }, { on := 30, ground := Ground.data }, { on := 27, ground := Ground.guard }], guard := some (27, true) }) (v := undef) rfl (by kernel_rfl) (by kernel_rfl) (by kernel_rfl) (fun _ _ _ h => h) (Or.inr ⟨by rfl, rfl⟩) (by assumption) ?_
            try simp only [Act.put, List.setIfInBounds_toArray, List.set_cons_zero, List.set_cons_succ]
            refine wpAnyH_take (i := 32) (oi := { dst := some 147, op := Op.call { callee := Callee.value (Operand.func 10), args := #[Operand.tmp 146], argTypes := #[24] }, type := 26, pos := "outright.go:115", after := #[{ on := 31, ground := Ground.data }, { on := 27, ground := Ground.chain }, { on := 27, ground := Ground.guard }], guard := some (27, true) }) (v := undef) rfl (by kernel_rfl) (by kernel_rfl) (by kernel_rfl) (fun _ _ _ h => h) (Or.inr ⟨by rfl, rfl⟩) (by assumption) ?_
            try simp only [Act.put, List.setIfInBounds_toArray, List.set_cons_zero, List.set_cons_succ]
            refine wpAnyH_take (i := 33) (oi := { dst := some 148, op := Op.binOp BinOp.neq 26 (Operand.tmp 143) (Operand.tmp 147) 26, type := 4, pos := "outright.go:115", after := #[{ on := 28, ground := Ground.data }, { on := 32, ground := Ground.data }, { on := 27, ground := Ground.guard }], guard := some (27, true) }) (v := undef) rfl (by kernel_rfl) (by kernel_rfl) (by kernel_rfl) (fun _ _ _ h => h) (Or.inr ⟨by rfl, rfl⟩) (by assumption) ?_
            try simp only [Act.put, List.setIfInBounds_toArray, List.set_cons_zero, List.set_cons_succ]
            refine wpAnyH_take (i := 34) (oi := { dst := some 149, op := Op.move (Operand.tmp 148), type := 4, pos := "outright.go:115", after := #[{ on := 33, ground := Ground.data }, { on := 32, ground := Ground.chain }, { on := 27, ground := Ground.guard }], guard := some (27, true) }) (v := undef) rfl (by kernel_rfl) (by kernel_rfl) (by kernel_rfl) (fun _ _ _ h => h) (Or.inr ⟨by rfl, rfl⟩) (by assumption) ?_
            try simp only [Act.put, List.setIfInBounds_toArray, List.set_cons_zero, List.set_cons_succ]
            refine wpAnyH_take (i := 35) (oi := { dst := some 150, op := Op.load 26 (Operand.tmp 17), type := 26, pos := "outright.go:115", after := #[{ on := 34, ground := Ground.guard }], guard := some (34, false) }) (v := undef) rfl (by kernel_rfl) (by kernel_rfl) (by kernel_rfl) (fun _ _ _ h => h) (Or.inr ⟨by rfl, rfl⟩) (by assumption) ?_
            try simp only [Act.put, List.setIfInBounds_toArray, List.set_cons_zero, List.set_cons_succ]
            refine wpAnyH_take (i := 36) (oi := { dst := some 151, op := Op.move (Operand.tmp 12), type := 24, pos := "outright.go:115", after := #[{ on := 34, ground := Ground.guard }], guard := some (34, false) }) (v := undef) rfl (by kernel_rfl) (by kernel_rfl) (by kernel_rfl) (fun _ _ _ h => h) (Or.inr ⟨by rfl, rfl⟩) (by assumption) ?_
            try simp only [Act.put, List.setIfInBounds_toArray, List.set_cons_zero, List.set_cons_succ]
            refine wpAnyH_take (i := 37) (oi := { dst := some 152, op := Op.move (Operand.tmp 13), type := 24, pos := "outright.go:115", after := #[{ on := 34, ground := Ground.guard }], guard := some (34, false) }) (v := undef) rfl (by kernel_rfl) (by kernel_rfl) (by kernel_rfl) (fun _ _ _ h => h) (Or.inr ⟨by rfl, rfl⟩) (by assumption) ?_
            try simp only [Act.put, List.setIfInBounds_toArray, List.set_cons_zero, List.set_cons_succ]
            refine wpAnyH_take (i := 38) (oi := { dst := some 153, op := Op.binOp BinOp.rem 24 (Operand.tmp 151) (Operand.tmp 152) 24, type := 24, pos := "outright.go:115", after := #[{ on := 36, ground := Ground.data }, { on := 37, ground := Ground.data }, { on := 34, ground := Ground.guard }], guard := some (34, false) }) (v := undef) rfl (by kernel_rfl) (by kernel_rfl) (by kernel_rfl) (fun _ _ _ h => h) (Or.inr ⟨by rfl, rfl⟩) (by assumption) ?_
            try simp only [Act.put, List.setIfInBounds_toArray, List.set_cons_zero, List.set_cons_succ]
            refine wpAnyH_take (i := 39) (oi := { dst := some 154, op := Op.call { callee := Callee.value (Operand.func 10), args := #[Operand.tmp 153], argTypes := #[24] }, type := 26, pos := "outright.go:115", after := #[{ on := 38, ground := Ground.data }, { on := 34, ground := Ground.chain }, { on := 34, ground := Ground.guard }], guard := some (34, false) }) (v := undef) rfl (by kernel_rfl) (by kernel_rfl) (by kernel_rfl) (fun _ _ _ h => h) (Or.inr ⟨by rfl, rfl⟩) (by assumption) ?_
            try simp only [Act.put, List.setIfInBounds_toArray, List.set_cons_zero, List.set_cons_succ]
            refine wpAnyH_take (i := 40) (oi := { dst := some 155, op := Op.binOp BinOp.neq 26 (Operand.tmp 150) (Operand.tmp 154) 26, type := 4, pos := "outright.go:115", after := #[{ on := 35, ground := Ground.data }, { on := 39, ground := Ground.data }, { on := 34, ground := Ground.guard }], guard := some (34, false) }) (v := undef) rfl (by kernel_rfl) (by kernel_rfl) (by kernel_rfl) (fun _ _ _ h => h) (Or.inr ⟨by rfl, rfl⟩) (by assumption) ?_
            try simp only [Act.put, List.setIfInBounds_toArray, List.set_cons_zero, List.set_cons_succ]
            refine wpAnyH_take (i := 41) (oi := { dst := some 156, op := Op.pick (Operand.tmp 149) (Operand.const (Value.bool true)) (Operand.tmp 155), type := 4, pos := "outright.go:115", after := #[{ on := 34, ground := Ground.data }, { on := 40, ground := Ground.data }, { on := 27, ground := Ground.guard }], guard := some (27, true) }) (v := undef) rfl (by kernel_rfl) (by kernel_rfl) (by kernel_rfl) (fun _ _ _ h => h) (Or.inr ⟨by rfl, rfl⟩) (by assumption) ?_
            try simp only [Act.put, List.setIfInBounds_toArray, List.set_cons_zero, List.set_cons_succ]
            refine wpAnyH_take (i := 42) (oi := { dst := some 157, op := Op.pick (Operand.tmp 142) (Operand.tmp 156) (Operand.const (Value.bool false)), type := 4, pos := "outright.go:115", after := #[{ on := 27, ground := Ground.data }, { on := 41, ground := Ground.data }, { on := 24, ground := Ground.guard }], guard := some (24, false) }) (v := ?_) rfl (by kernel_rfl) (by kernel_rfl) (by kernel_rfl) (fun _ _ _ h => h) (Or.inl ⟨by rfl, ?_⟩) (by assumption) ?_
            rotate_left
            · intro w' hSw; (try dsimp only at hSw); (go_simp <;> with_reducible rfl)
            try simp only [Act.put, List.setIfInBounds_toArray, List.set_cons_zero, List.set_cons_succ]
            refine wpAnyH_take (i := 43) (oi := { dst := some 158, op := Op.pick (Operand.tmp 139) (Operand.const (Value.bool true)) (Operand.tmp 157), type := 4, pos := "outright.go:115", after := #[{ on := 24, ground := Ground.data }, { on := 42, ground := Ground.data }], guard := none }) (v := ?_) rfl (by kernel_rfl) (by kernel_rfl) (by kernel_rfl) (fun _ _ _ h => h) (Or.inl ⟨by rfl, ?_⟩) (by assumption) ?_
            rotate_left
            · intro w' hSw; (try dsimp only at hSw); (go_simp <;> with_reducible rfl)
            try simp only [Act.put, List.setIfInBounds_toArray, List.set_cons_zero, List.set_cons_succ]
            refine wpAnyH_done (by kernel_rfl) ?_ _
            have HS4 := mkHid hHeld.1
            clear hHeld hs0 q0 q1 q2 q3 q4 q5 q6 q7
            clear hw0 hw00
            go_wp2_with fail
            go_roundw
            case rel => first | exact ⟨1, by omega, rfl, HS4⟩ | exact ⟨1, by omega, by go_num, HS4⟩ | ((repeat apply Exists.intro); exact ⟨⟨1, by omega, rfl, HS4⟩, rfl⟩)
            case measure => simp [intOf]

          next =>
            have hmle : i * k ≤ 1600 := Nat.mul_le_mul (show i ≤ 40 by omega) (show k ≤ 40 by omega)
            have hqle := Nat.div_le_self i k
            have hrle := Nat.mod_le i k
            have Coi := of_g i (by rw [M.B_eq]; omega)
            have Cad := add_g i k (sm_word (by rw [M.B_eq]; omega)) (sm_word (by rw [M.B_eq]; omega))
            have Cos := of_g (i + k) (by rw [M.B_eq]; omega)
            have Cmu := mul_g i k (sm_word (by rw [M.B_eq]; omega)) (sm_word (by rw [M.B_eq]; omega))
            have Com := of_g (i * k) (by rw [M.B_eq]; omega)
            have Cok := of_g k (by rw [M.B_eq]; omega)
            have Cdv := div_g i k (sm_word (by rw [M.B_eq]; omega)) (by omega)
            have Coq := of_g (i / k) (by rw [M.B_eq]; have := Nat.div_le_self i k; omega)
            have Cor := of_g (i % k) (by rw [M.B_eq]; have := Nat.mod_le i k; omega)
            unfold nv at Coi Cad Cos Cmu Com Cok Cdv Coq Cor
            have hws : IntKind.u64.wrap ((i : Int) + (k : Int)) = ((i + k : Nat) : Int) := by rw [IntKind.wrap_u64]; omega
            have hwm : IntKind.u64.wrap ((i : Int) * (k : Int)) = ((i * k : Nat) : Int) := by rw [IntKind.wrap_u64, ← Int.natCast_mul]; omega
            have hq : (i : Int) / (k : Int) = ((i / k : Nat) : Int) := by simp
            have hr : (i : Int) % (k : Int) = ((i % k : Nat) : Int) := by simp
            have hq2 : Int.tdiv (i : Int) (k : Int) = ((i / k : Nat) : Int) := rfl
            have hr2 : Int.tmod (i : Int) (k : Int) = ((i % k : Nat) : Int) := rfl
            have hwq : IntKind.u64.wrap ((i / k : Nat) : Int) = ((i / k : Nat) : Int) := by rw [IntKind.wrap_u64]; exact Int.emod_eq_of_lt (Int.natCast_nonneg _) (by omega)
            have hwr : IntKind.u64.wrap ((i % k : Nat) : Int) = ((i % k : Nat) : Int) := by rw [IntKind.wrap_u64]; exact Int.emod_eq_of_lt (Int.natCast_nonneg _) (by omega)
            have hk0 : ¬ (k : Int) = 0 := by omega
            have hk0n : ¬ k = 0 := by omega
            have hk1 : (1 : Int) ≤ (k : Int) := by omega
            have hk2 : (0 : Int) < (k : Int) := by omega
            have hk3 : 0 < k := by omega
            have hi9 : (i : Int) ≤ 39 := by omega
            have hk9 : (k : Int) ≤ 39 := by omega
            clear hqle hrle hmle
            generalize lo (i + k) = ls at *
            generalize hi (i + k) = ks at *
            generalize lo (i * k) = lm at *
            generalize hi (i * k) = km at *
            generalize lo (i / k) = lq at *
            generalize hi (i / k) = kq at *
            generalize lo (i % k) = lr at *
            generalize hi (i % k) = kr at *
            generalize lo i = li at *
            generalize hi i = ki at *
            generalize lo k = lk at *
            generalize hi k = kk at *
            generalize i + k = s at *
            generalize i * k = m at *
            generalize i / k = q at *
            generalize i % k = r at *
            have Coi := mkHid Coi
            have Cad := mkHid Cad
            have Cos := mkHid Cos
            have Cmu := mkHid Cmu
            have Com := mkHid Com
            have Cok := mkHid Cok
            have Cdv := mkHid Cdv
            have Coq := mkHid Coq
            have Cor := mkHid Cor
            go_upto_region 21 with (first
              | (go_at_call 10; ((with_reducible refine (Coi.out _ HI.out.tabs HI.out.six').mono ?_); rintro e w1 ⟨rfl, hb⟩; have HS1 := mkHid (HI.out.next hb); clear hb HI))
              | (go_at_call 10; ((with_reducible refine (Cok.out _ HS1.out.tabs HS1.out.six').mono ?_); rintro e w2 ⟨rfl, hb⟩; have HS2 := mkHid (((HS1.out.next hb).alloc (.cells #[.int .u64 (li : Int), .string ki] 26)).alloc (.cells #[.int .u64 (lk : Int), .string kk] 26)); have HC2 := mkHid (Cs.box (Cs.box (Cs.nil w2) w2.heap.size li ki rfl) (w2.heap.size + 1) lk kk (by simp)); clear hb))
              | (go_at_call 13; ((with_reducible refine (Cdv.out _ HS2.out.tabs HS2.out.six').mono ?_); rintro e w3 ⟨rfl, hb⟩; have HS3 := mkHid (((HS2.out.next hb).alloc (.cells #[.int .u64 (lq : Int), .string kq] 26)).alloc (.cells #[.int .u64 (lr : Int), .string kr] 26)); have HC3 := mkHid (Cs.box (Cs.box (HC2.out.next hb) w3.heap.size lq kq rfl) (w3.heap.size + 1) lr kr (by simp)); clear hb)))
            obtain ⟨q6, q7⟩ := HC3.out _ (.head _)
            obtain ⟨q4, q5⟩ := HC3.out _ (.tail _ (.head _))
            obtain ⟨q2, q3⟩ := HC3.out _ (.tail _ (.tail _ (.head _)))
            obtain ⟨q0, q1⟩ := HC3.out _ (.tail _ (.tail _ (.tail _ (.head _))))
            dsimp only at q0 q1 q2 q3 q4 q5 q6 q7
            have hs0 := HS3.out.drew
            clear HS1 HS2 HS3 HC2 HC3
            generalize w2.heap.size + 1 = b2 at *
            generalize w2.heap.size = b1 at *
            generalize w3.heap.size + 1 = b4 at *
            generalize w3.heap.size = b3 at *
            go_region_held3 (fun W => St w W ∧ W.cell? ⟨b1, 0, none⟩ = some (.int .u64 (li : Int)) ∧ W.cell? ⟨b1, 1, none⟩ = some (.string ki) ∧ W.cell? ⟨b2, 0, none⟩ = some (.int .u64 (lk : Int)) ∧ W.cell? ⟨b2, 1, none⟩ = some (.string kk) ∧ W.cell? ⟨b3, 0, none⟩ = some (.int .u64 (lq : Int)) ∧ W.cell? ⟨b3, 1, none⟩ = some (.string kq) ∧ W.cell? ⟨b4, 0, none⟩ = some (.int .u64 (lr : Int)) ∧ W.cell? ⟨b4, 1, none⟩ = some (.string kr))
              (first
                | (with_reducible exact ⟨hS.1.next hb, St.cell hb hS.2.1, St.cell hb hS.2.2.1, St.cell hb hS.2.2.2.1, St.cell hb hS.2.2.2.2.1, St.cell hb hS.2.2.2.2.2.1, St.cell hb hS.2.2.2.2.2.2.1, St.cell hb hS.2.2.2.2.2.2.2.1, St.cell hb hS.2.2.2.2.2.2.2.2⟩)
                | exact ⟨hs0, q0, q1, q2, q3, q4, q5, q6, q7⟩)
              (first
                | (go_at_call 16; have hS : St w _ ∧ _ := (by assumption); ((with_reducible refine (Cad.out _ hS.1.tabs hS.1.six').mono ?_); rintro e w6 ⟨rfl, hb⟩))
                | (go_at_call 10; have hS : St w _ ∧ _ := (by assumption); ((with_reducible refine (Cos.out _ hS.1.tabs hS.1.six').mono ?_); rintro e w6 ⟨rfl, hb⟩))
                | (go_at_call 17; have hS : St w _ ∧ _ := (by assumption); ((with_reducible refine (Cmu.out _ hS.1.tabs hS.1.six').mono ?_); rintro e w6 ⟨rfl, hb⟩))
                | (go_at_call 10; have hS : St w _ ∧ _ := (by assumption); ((with_reducible refine (Com.out _ hS.1.tabs hS.1.six').mono ?_); rintro e w6 ⟨rfl, hb⟩))
                | (go_at_call 10; have hS : St w _ ∧ _ := (by assumption); ((with_reducible refine (Coq.out _ hS.1.tabs hS.1.six').mono ?_); rintro e w6 ⟨rfl, hb⟩))
                | (go_at_call 10; have hS : St w _ ∧ _ := (by assumption); ((with_reducible refine (Cor.out _ hS.1.tabs hS.1.six').mono ?_); rintro e w6 ⟨rfl, hb⟩)))
            have hT : St w _ ∧ _ := (by assumption)
            have HS4 := mkHid hT.1
            clear hT hs0 q0 q1 q2 q3 q4 q5 q6 q7
            clear hws hwm hq hr hq2 hr2 hwq hwr
            go_wp2_with fail
            go_roundw
            case rel => first | exact ⟨k + 1, by omega, by go_num, HS4⟩ | ((repeat apply Exists.intro); exact ⟨⟨k + 1, by omega, by go_num, HS4⟩, rfl⟩)
            case measure => simp [intOf]; omega

          next =>
            have hke : k = 40 := by omega
            subst hke
            go_wp2_with fail
            go_roundw
            case rel => exact ⟨i + 1, by omega, by go_num, HI⟩
            case measure => simp [intOf]; omega
        · have hie : i = 40 := by omega
          subst hie
          have CWX := mkHid (CW.out _ H.out.tabs H.out.six')
          go_wp2_with fail
          refine CWX.out.mono ?_
          rintro e w9 ⟨rfl, hb⟩
          have HE := mkHid (H.out.next hb).below
          clear hb
          go_wp2_with fail
          go_ret
          exact ⟨rfl, HE.out⟩
end Go.Proofs.YtagbojcoihpgcaaDoor
