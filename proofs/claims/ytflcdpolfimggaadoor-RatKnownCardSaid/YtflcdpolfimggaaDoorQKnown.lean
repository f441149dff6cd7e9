/- Package rat: RatKnown. -/
import Derived.Test.YtflcdpolfimggaaDoorG13
import Derived.Test.YtflcdpolfimggaaDoorG11
namespace Go.Proofs.YtflcdpolfimggaaDoor
open Go.RowKit Q SD

/-- Strings that are no numbers'. -/
def badR : List (List UInt8) := [[54, 47, 52], [51, 47, 49], [48, 47, 50], [48, 51], [49, 47, 48], [43, 49], [], [49, 47], [47, 50], [49, 47, 50, 47, 51], [45, 49, 47, 50], [49, 32, 47, 50], [49, 47, 48, 50], [50, 47, 52], [97], [49, 47, 50, 32]]
theorem badR_all : ∀ i (h : i < badR.length), accB badR[i] = false := by decide +kernel
def badRV : Array Value := #[.string ⟨#[54, 47, 52]⟩, .string ⟨#[51, 47, 49]⟩, .string ⟨#[48, 47, 50]⟩, .string ⟨#[48, 51]⟩, .string ⟨#[49, 47, 48]⟩, .string ⟨#[43, 49]⟩, .string ⟨#[]⟩, .string ⟨#[49, 47]⟩, .string ⟨#[47, 50]⟩, .string ⟨#[49, 47, 50, 47, 51]⟩, .string ⟨#[45, 49, 47, 50]⟩, .string ⟨#[49, 32, 47, 50]⟩, .string ⟨#[49, 47, 48, 50]⟩, .string ⟨#[50, 47, 52]⟩, .string ⟨#[97]⟩, .string ⟨#[49, 47, 50, 32]⟩]
theorem badRV_eq : badRV = (badR.map fun l => Value.string ⟨l.toArray⟩).toArray := rfl
theorem badRV_at (w : World) (i : Nat) (l : List UInt8) (h : badR[i]? = some l) : (w.alloc (.cells badRV 9)).cell? ⟨w.heap.size, i, none⟩ = some (.string ⟨l.toArray⟩) := by
  have hb : (w.alloc (.cells badRV 9)).heap[w.heap.size]? = some (.cells badRV 9 (0, 0)) := heap_alloc_new w _
  simp only [World.cell?, hb, Option.isSome_none, Bool.false_eq_true, if_false]
  rw [badRV_eq, List.getElem?_toArray, List.getElem?_map, h]; rfl
theorem badR_length : badR.length = 16 := rfl
theorem badR_len : ∀ i (h : i < badR.length), badR[i].length ≤ 5 := by decide
theorem readR_g (i : Nat) (l : List UInt8) (h : badR[i]? = some l) : Gives 25 #[.string ⟨l.toArray⟩] (.tuple #[rv 0 1, .bool false]) := by
  obtain ⟨hi, rfl⟩ := List.getElem?_eq_some_iff.1 h
  exact read_no ⟨badR[i].toArray⟩ (by rw [← str_len]; have := badR_len i hi; simp; omega) (by simpa using badR_all i hi)

set_option maxRecDepth 100000 in
set_option maxHeartbeats 16000000 in
theorem known_raw
    (O1 : Gives 13 #[.int .u64 1, .int .u64 6] (.tuple #[rv 1 6, .bool true]))
    (O2 : Gives 13 #[.int .u64 1, .int .u64 3] (.tuple #[rv 1 3, .bool true]))
    (O3 : Gives 13 #[.int .u64 1, .int .u64 2] (.tuple #[rv 1 2, .bool true]))
    (O4 : Gives 13 #[.int .u64 33, .int .u64 100] (.tuple #[rv 33 100, .bool true]))
    (O5 : Gives 13 #[.int .u64 4, .int .u64 9] (.tuple #[rv 4 9, .bool true]))
    (O6 : Gives 13 #[.int .u64 3, .int .u64 8] (.tuple #[rv 3 8, .bool true]))
    (O7 : Gives 13 #[.int .u64 1, .int .u64 0] (.tuple #[rv 0 1, .bool false]))
    (S1 : Gives 21 #[rv 1 2, rv 1 6] (.tuple #[rv 1 3, .bool true]))
    (S2 : Gives 21 #[rv 1 2, rv 1 2] (.tuple #[rv 0 1, .bool true]))
    (S3 : Gives 21 #[rv 1 3, rv 1 2] (.tuple #[rv 0 1, .bool false]))
    (A1 : Gives 19 #[rv 1 6, rv 1 3] (rv 1 2))
    (M1 : Gives 20 #[rv 4 9, rv 3 8] (rv 1 6))
    (K1 : Gives 24 #[rv 1 3, rv 33 100] (.int .i64 1))
    (T1 : Gives 22 #[rv 1 2] (.string ⟨#[49, 47, 50]⟩))
    (T2 : Gives 22 #[rv 1 3] (.string ⟨#[49, 47, 51]⟩))
    (T3 : Gives 22 #[rv 0 1] (.string ⟨#[48]⟩))
    (T4 : Gives 22 #[rv 1 6] (.string ⟨#[49, 47, 54]⟩))
    (w : World) (ht : Tabs w) (h6 : 6 ≤ w.heap.size) :
    Calls Tryd.prog 8 #[] w fun e w' => e = .returned (.bool true) ∧ Below w.heap.size w w' := by
  have CW := mkHid rworks_g
  have CR := readR_g
  unfold rv at *
  generalize lo (dz 6) = lz6 at *
  generalize hi (dz 6) = kz6 at *
  generalize lo (dz 3) = lz3 at *
  generalize hi (dz 3) = kz3 at *
  generalize lo (dz 2) = lz2 at *
  generalize hi (dz 2) = kz2 at *
  generalize lo (dz 100) = lz100 at *
  generalize hi (dz 100) = kz100 at *
  generalize lo (dz 9) = lz9 at *
  generalize hi (dz 9) = kz9 at *
  generalize lo (dz 8) = lz8 at *
  generalize hi (dz 8) = kz8 at *
  generalize lo (dz 1) = lz1 at *
  generalize hi (dz 1) = kz1 at *
  generalize lo (1) = ln1 at *
  generalize hi (1) = kn1 at *
  generalize lo (33) = ln33 at *
  generalize hi (33) = kn33 at *
  generalize lo (4) = ln4 at *
  generalize hi (4) = kn4 at *
  generalize lo (3) = ln3 at *
  generalize hi (3) = kn3 at *
  generalize lo (0) = ln0 at *
  generalize hi (0) = kn0 at *
  replace O1 := mkHid O1
  replace O2 := mkHid O2
  replace O3 := mkHid O3
  replace O4 := mkHid O4
  replace O5 := mkHid O5
  replace O6 := mkHid O6
  replace O7 := mkHid O7
  replace S1 := mkHid S1
  replace S2 := mkHid S2
  replace S3 := mkHid S3
  replace A1 := mkHid A1
  replace M1 := mkHid M1
  replace K1 := mkHid K1
  replace T1 := mkHid T1
  replace T2 := mkHid T2
  replace T3 := mkHid T3
  replace T4 := mkHid T4
  replace CR := mkHid CR
  have HS0 := mkHid (St.refl ht h6)
  have HB7 := mkHid (badRV_at w)
  have HS7 := mkHid (HS0.out.alloc (.cells badRV 9))
  clear ht h6
  go_enter Tryd.func8, Tryd.ntmps8
  go_wp2_with fail
  go_loopw [2] (fun iv wr => ∃ i : Nat, i ≤ 16 ∧ iv = .int .i64 i ∧ Hid (St w wr ∧ ∀ (j : Nat) (l : List UInt8), badR[j]? = some l → wr.cell? ⟨w.heap.size, j, none⟩ = some (.string ⟨l.toArray⟩))) (fun iv _ => 16 - (intOf iv).toNat)
  case atStart => exact ⟨0, by omega, rfl, mkHid ⟨HS7.out, HB7.out⟩⟩
  case round =>
    obtain ⟨i, hil, rfl, H⟩ := hrel
    clear HS7 HB7
    by_cases hlt : i < 16
    · obtain ⟨l, hl⟩ : ∃ l, badR[i]? = some l := ⟨badR[i]'(by rw [badR_length]; exact hlt), List.getElem?_eq_getElem _⟩
      have hcl := H.out.2 i l hl
      have CR := mkHid (CR.out i l hl)
      clear hl
      go_wp2_with (first
        | (go_at_call 25; refine (CR.out _ H.out.1.tabs H.out.1.six').mono ?_; rintro e w8 ⟨rfl, hb⟩; have HN : Hid (St w (w8.alloc (.cells #[.int .u64 (ln0 : Int), .string kn0, .int .u64 (lz1 : Int), .string kz1] 26)) ∧ ∀ (j : Nat) (l : List UInt8), badR[j]? = some l → (w8.alloc (.cells #[.int .u64 (ln0 : Int), .string kn0, .int .u64 (lz1 : Int), .string kz1] 26)).cell? ⟨w.heap.size, j, none⟩ = some (.string ⟨l.toArray⟩)) := mkHid ⟨(H.out.1.next hb).alloc _, fun j l h => cellAl (St.cell hb (H.out.2 j l h)) _⟩; have HX := mkHid (At4.new w8 w8.heap.size ln0 kn0 lz1 kz1 rfl); clear hb; obtain ⟨⟨x0, x1, x2, x3⟩, -⟩ := HX.out)
        | (go_at_call 22; (with_reducible refine (T3.out _ HN.out.1.tabs HN.out.1.six').mono ?_); rintro e w9 ⟨rfl, hb⟩; have HM : Hid (St w w9 ∧ ∀ (j : Nat) (l : List UInt8), badR[j]? = some l → w9.cell? ⟨w.heap.size, j, none⟩ = some (.string ⟨l.toArray⟩)) := mkHid ⟨HN.out.1.next hb, fun j l h => St.cell hb (HN.out.2 j l h)⟩; clear hb))
      go_roundw
      case rel => exact ⟨i + 1, by omega, by go_num, HM⟩
      case measure => simp [intOf]; omega
    · have hie : i = 16 := by omega
      subst hie
      have HS := mkHid H.out.1
      clear H HS0
      go_wp2_with (first
        | (go_at_call 13; (with_reducible refine (O1.out _ HS.out.tabs HS.out.six').mono ?_); rintro e wa ⟨rfl, hb⟩; have HS := mkHid (HS.out.next hb); have HS := mkHid (HS.out.alloc (.cells #[.int .u64 (ln1 : Int), .string kn1, .int .u64 (lz6 : Int), .string kz6] 26)); have Ha := mkHid (At4.new wa wa.heap.size ln1 kn1 lz6 kz6 rfl); clear hb; obtain ⟨⟨a0, a1, a2, a3⟩, -⟩ := Ha.out)
        | (go_at_call 13; (with_reducible refine (O2.out _ HS.out.tabs HS.out.six').mono ?_); rintro e wb ⟨rfl, hb⟩; have HS := mkHid (HS.out.next hb); have Ha := mkHid (Ha.out.grows hb); have HS := mkHid (HS.out.alloc (.cells #[.int .u64 (ln1 : Int), .string kn1, .int .u64 (lz3 : Int), .string kz3] 26)); have Ha := mkHid (Ha.out.alloc (.cells #[.int .u64 (ln1 : Int), .string kn1, .int .u64 (lz3 : Int), .string kz3] 26)); have Hb := mkHid (At4.new wb wb.heap.size ln1 kn1 lz3 kz3 rfl); clear hb; obtain ⟨⟨a0, a1, a2, a3⟩, -⟩ := Ha.out; obtain ⟨⟨b0, b1, b2, b3⟩, -⟩ := Hb.out)
        | (go_at_call 13; (with_reducible refine (O3.out _ HS.out.tabs HS.out.six').mono ?_); rintro e wc ⟨rfl, hb⟩; have HS := mkHid (HS.out.next hb); have Ha := mkHid (Ha.out.grows hb); have Hb := mkHid (Hb.out.grows hb); have HS := mkHid (HS.out.alloc (.cells #[.int .u64 (ln1 : Int), .string kn1, .int .u64 (lz2 : Int), .string kz2] 26)); have Ha := mkHid (Ha.out.alloc (.cells #[.int .u64 (ln1 : Int), .string kn1, .int .u64 (lz2 : Int), .string kz2] 26)); have Hb := mkHid (Hb.out.alloc (.cells #[.int .u64 (ln1 : Int), .string kn1, .int .u64 (lz2 : Int), .string kz2] 26)); have Hc := mkHid (At4.new wc wc.heap.size ln1 kn1 lz2 kz2 rfl); clear hb; obtain ⟨⟨a0, a1, a2, a3⟩, -⟩ := Ha.out; obtain ⟨⟨b0, b1, b2, b3⟩, -⟩ := Hb.out; obtain ⟨⟨c0, c1, c2, c3⟩, -⟩ := Hc.out)
        | (go_at_call 21; (with_reducible refine (S1.out _ HS.out.tabs HS.out.six').mono ?_); rintro e wd ⟨rfl, hb⟩; have HS := mkHid (HS.out.next hb); have Ha := mkHid (Ha.out.grows hb); have Hb := mkHid (Hb.out.grows hb); have Hc := mkHid (Hc.out.grows hb); have HS := mkHid (HS.out.alloc (.cells #[.int .u64 (ln1 : Int), .string kn1, .int .u64 (lz3 : Int), .string kz3] 26)); have Ha := mkHid (Ha.out.alloc (.cells #[.int .u64 (ln1 : Int), .string kn1, .int .u64 (lz3 : Int), .string kz3] 26)); have Hb := mkHid (Hb.out.alloc (.cells #[.int .u64 (ln1 : Int), .string kn1, .int .u64 (lz3 : Int), .string kz3] 26)); have Hc := mkHid (Hc.out.alloc (.cells #[.int .u64 (ln1 : Int), .string kn1, .int .u64 (lz3 : Int), .string kz3] 26)); have Hd := mkHid (At4.new wd wd.heap.size ln1 kn1 lz3 kz3 rfl); clear hb; obtain ⟨⟨a0, a1, a2, a3⟩, -⟩ := Ha.out; obtain ⟨⟨b0, b1, b2, b3⟩, -⟩ := Hb.out; obtain ⟨⟨c0, c1, c2, c3⟩, -⟩ := Hc.out; obtain ⟨⟨d0, d1, d2, d3⟩, -⟩ := Hd.out)
        | (go_at_call 21; (with_reducible refine (S2.out _ HS.out.tabs HS.out.six').mono ?_); rintro e we ⟨rfl, hb⟩; have HS := mkHid (HS.out.next hb); have Ha := mkHid (Ha.out.grows hb); have Hb := mkHid (Hb.out.grows hb); have Hc := mkHid (Hc.out.grows hb); have Hd := mkHid (Hd.out.grows hb); have HS := mkHid (HS.out.alloc (.cells #[.int .u64 (ln0 : Int), .string kn0, .int .u64 (lz1 : Int), .string kz1] 26)); have Ha := mkHid (Ha.out.alloc (.cells #[.int .u64 (ln0 : Int), .string kn0, .int .u64 (lz1 : Int), .string kz1] 26)); have Hb := mkHid (Hb.out.alloc (.cells #[.int .u64 (ln0 : Int), .string kn0, .int .u64 (lz1 : Int), .string kz1] 26)); have Hc := mkHid (Hc.out.alloc (.cells #[.int .u64 (ln0 : Int), .string kn0, .int .u64 (lz1 : Int), .string kz1] 26)); have Hd := mkHid (Hd.out.alloc (.cells #[.int .u64 (ln0 : Int), .string kn0, .int .u64 (lz1 : Int), .string kz1] 26)); have He := mkHid (At4.new we we.heap.size ln0 kn0 lz1 kz1 rfl); clear hb; obtain ⟨⟨a0, a1, a2, a3⟩, -⟩ := Ha.out; obtain ⟨⟨b0, b1, b2, b3⟩, -⟩ := Hb.out; obtain ⟨⟨c0, c1, c2, c3⟩, -⟩ := Hc.out; obtain ⟨⟨d0, d1, d2, d3⟩, -⟩ := Hd.out; obtain ⟨⟨e0, e1, e2, e3⟩, -⟩ := He.out)
        | (go_at_call 21; (with_reducible refine (S3.out _ HS.out.tabs HS.out.six').mono ?_); rintro e wo ⟨rfl, hb⟩; have HS := mkHid (HS.out.next hb); have Ha := mkHid (Ha.out.grows hb); have Hb := mkHid (Hb.out.grows hb); have Hc := mkHid (Hc.out.grows hb); have Hd := mkHid (Hd.out.grows hb); have He := mkHid (He.out.grows hb); have HS := mkHid (HS.out.alloc (.cells #[.int .u64 (ln0 : Int), .string kn0, .int .u64 (lz1 : Int), .string kz1] 26)); have Ha := mkHid (Ha.out.alloc (.cells #[.int .u64 (ln0 : Int), .string kn0, .int .u64 (lz1 : Int), .string kz1] 26)); have Hb := mkHid (Hb.out.alloc (.cells #[.int .u64 (ln0 : Int), .string kn0, .int .u64 (lz1 : Int), .string kz1] 26)); have Hc := mkHid (Hc.out.alloc (.cells #[.int .u64 (ln0 : Int), .string kn0, .int .u64 (lz1 : Int), .string kz1] 26)); have Hd := mkHid (Hd.out.alloc (.cells #[.int .u64 (ln0 : Int), .string kn0, .int .u64 (lz1 : Int), .string kz1] 26)); have He := mkHid (He.out.alloc (.cells #[.int .u64 (ln0 : Int), .string kn0, .int .u64 (lz1 : Int), .string kz1] 26)); have Ho := mkHid (At4.new wo wo.heap.size ln0 kn0 lz1 kz1 rfl); clear hb; obtain ⟨⟨a0, a1, a2, a3⟩, -⟩ := Ha.out; obtain ⟨⟨b0, b1, b2, b3⟩, -⟩ := Hb.out; obtain ⟨⟨c0, c1, c2, c3⟩, -⟩ := Hc.out; obtain ⟨⟨d0, d1, d2, d3⟩, -⟩ := Hd.out; obtain ⟨⟨e0, e1, e2, e3⟩, -⟩ := He.out; obtain ⟨⟨o0, o1, o2, o3⟩, -⟩ := Ho.out)
        | (go_at_call 13; (with_reducible refine (O4.out _ HS.out.tabs HS.out.six').mono ?_); rintro e wf ⟨rfl, hb⟩; have HS := mkHid (HS.out.next hb); have Ha := mkHid (Ha.out.grows hb); have Hb := mkHid (Hb.out.grows hb); have Hc := mkHid (Hc.out.grows hb); have Hd := mkHid (Hd.out.grows hb); have He := mkHid (He.out.grows hb); have Ho := mkHid (Ho.out.grows hb); have HS := mkHid (HS.out.alloc (.cells #[.int .u64 (ln33 : Int), .string kn33, .int .u64 (lz100 : Int), .string kz100] 26)); have Ha := mkHid (Ha.out.alloc (.cells #[.int .u64 (ln33 : Int), .string kn33, .int .u64 (lz100 : Int), .string kz100] 26)); have Hb := mkHid (Hb.out.alloc (.cells #[.int .u64 (ln33 : Int), .string kn33, .int .u64 (lz100 : Int), .string kz100] 26)); have Hc := mkHid (Hc.out.alloc (.cells #[.int .u64 (ln33 : Int), .string kn33, .int .u64 (lz100 : Int), .string kz100] 26)); have Hd := mkHid (Hd.out.alloc (.cells #[.int .u64 (ln33 : Int), .string kn33, .int .u64 (lz100 : Int), .string kz100] 26)); have He := mkHid (He.out.alloc (.cells #[.int .u64 (ln33 : Int), .string kn33, .int .u64 (lz100 : Int), .string kz100] 26)); have Ho := mkHid (Ho.out.alloc (.cells #[.int .u64 (ln33 : Int), .string kn33, .int .u64 (lz100 : Int), .string kz100] 26)); have Hf := mkHid (At4.new wf wf.heap.size ln33 kn33 lz100 kz100 rfl); clear hb; obtain ⟨⟨a0, a1, a2, a3⟩, -⟩ := Ha.out; obtain ⟨⟨b0, b1, b2, b3⟩, -⟩ := Hb.out; obtain ⟨⟨c0, c1, c2, c3⟩, -⟩ := Hc.out; obtain ⟨⟨d0, d1, d2, d3⟩, -⟩ := Hd.out; obtain ⟨⟨e0, e1, e2, e3⟩, -⟩ := He.out; obtain ⟨⟨o0, o1, o2, o3⟩, -⟩ := Ho.out; obtain ⟨⟨f0, f1, f2, f3⟩, -⟩ := Hf.out)
        | (go_at_call 13; (with_reducible refine (O5.out _ HS.out.tabs HS.out.six').mono ?_); rintro e wg ⟨rfl, hb⟩; have HS := mkHid (HS.out.next hb); have Ha := mkHid (Ha.out.grows hb); have Hb := mkHid (Hb.out.grows hb); have Hc := mkHid (Hc.out.grows hb); have Hd := mkHid (Hd.out.grows hb); have He := mkHid (He.out.grows hb); have Ho := mkHid (Ho.out.grows hb); have Hf := mkHid (Hf.out.grows hb); have HS := mkHid (HS.out.alloc (.cells #[.int .u64 (ln4 : Int), .string kn4, .int .u64 (lz9 : Int), .string kz9] 26)); have Ha := mkHid (Ha.out.alloc (.cells #[.int .u64 (ln4 : Int), .string kn4, .int .u64 (lz9 : Int), .string kz9] 26)); have Hb := mkHid (Hb.out.alloc (.cells #[.int .u64 (ln4 : Int), .string kn4, .int .u64 (lz9 : Int), .string kz9] 26)); have Hc := mkHid (Hc.out.alloc (.cells #[.int .u64 (ln4 : Int), .string kn4, .int .u64 (lz9 : Int), .string kz9] 26)); have Hd := mkHid (Hd.out.alloc (.cells #[.int .u64 (ln4 : Int), .string kn4, .int .u64 (lz9 : Int), .string kz9] 26)); have He := mkHid (He.out.alloc (.cells #[.int .u64 (ln4 : Int), .string kn4, .int .u64 (lz9 : Int), .string kz9] 26)); have Ho := mkHid (Ho.out.alloc (.cells #[.int .u64 (ln4 : Int), .string kn4, .int .u64 (lz9 : Int), .string kz9] 26)); have Hf := mkHid (Hf.out.alloc (.cells #[.int .u64 (ln4 : Int), .string kn4, .int .u64 (lz9 : Int), .string kz9] 26)); have Hg := mkHid (At4.new wg wg.heap.size ln4 kn4 lz9 kz9 rfl); clear hb; obtain ⟨⟨a0, a1, a2, a3⟩, -⟩ := Ha.out; obtain ⟨⟨b0, b1, b2, b3⟩, -⟩ := Hb.out; obtain ⟨⟨c0, c1, c2, c3⟩, -⟩ := Hc.out; obtain ⟨⟨d0, d1, d2, d3⟩, -⟩ := Hd.out; obtain ⟨⟨e0, e1, e2, e3⟩, -⟩ := He.out; obtain ⟨⟨o0, o1, o2, o3⟩, -⟩ := Ho.out; obtain ⟨⟨f0, f1, f2, f3⟩, -⟩ := Hf.out; obtain ⟨⟨g0, g1, g2, g3⟩, -⟩ := Hg.out)
        | (go_at_call 13; (with_reducible refine (O6.out _ HS.out.tabs HS.out.six').mono ?_); rintro e wh ⟨rfl, hb⟩; have HS := mkHid (HS.out.next hb); have Ha := mkHid (Ha.out.grows hb); have Hb := mkHid (Hb.out.grows hb); have Hc := mkHid (Hc.out.grows hb); have Hd := mkHid (Hd.out.grows hb); have He := mkHid (He.out.grows hb); have Ho := mkHid (Ho.out.grows hb); have Hf := mkHid (Hf.out.grows hb); have Hg := mkHid (Hg.out.grows hb); have HS := mkHid (HS.out.alloc (.cells #[.int .u64 (ln3 : Int), .string kn3, .int .u64 (lz8 : Int), .string kz8] 26)); have Ha := mkHid (Ha.out.alloc (.cells #[.int .u64 (ln3 : Int), .string kn3, .int .u64 (lz8 : Int), .string kz8] 26)); have Hb := mkHid (Hb.out.alloc (.cells #[.int .u64 (ln3 : Int), .string kn3, .int .u64 (lz8 : Int), .string kz8] 26)); have Hc := mkHid (Hc.out.alloc (.cells #[.int .u64 (ln3 : Int), .string kn3, .int .u64 (lz8 : Int), .string kz8] 26)); have Hd := mkHid (Hd.out.alloc (.cells #[.int .u64 (ln3 : Int), .string kn3, .int .u64 (lz8 : Int), .string kz8] 26)); have He := mkHid (He.out.alloc (.cells #[.int .u64 (ln3 : Int), .string kn3, .int .u64 (lz8 : Int), .string kz8] 26)); have Ho := mkHid (Ho.out.alloc (.cells #[.int .u64 (ln3 : Int), .string kn3, .int .u64 (lz8 : Int), .string kz8] 26)); have Hf := mkHid (Hf.out.alloc (.cells #[.int .u64 (ln3 : Int), .string kn3, .int .u64 (lz8 : Int), .string kz8] 26)); have Hg := mkHid (Hg.out.alloc (.cells #[.int .u64 (ln3 : Int), .string kn3, .int .u64 (lz8 : Int), .string kz8] 26)); have Hh := mkHid (At4.new wh wh.heap.size ln3 kn3 lz8 kz8 rfl); clear hb; obtain ⟨⟨a0, a1, a2, a3⟩, -⟩ := Ha.out; obtain ⟨⟨b0, b1, b2, b3⟩, -⟩ := Hb.out; obtain ⟨⟨c0, c1, c2, c3⟩, -⟩ := Hc.out; obtain ⟨⟨d0, d1, d2, d3⟩, -⟩ := Hd.out; obtain ⟨⟨e0, e1, e2, e3⟩, -⟩ := He.out; obtain ⟨⟨o0, o1, o2, o3⟩, -⟩ := Ho.out; obtain ⟨⟨f0, f1, f2, f3⟩, -⟩ := Hf.out; obtain ⟨⟨g0, g1, g2, g3⟩, -⟩ := Hg.out; obtain ⟨⟨h0, h1, h2, h3⟩, -⟩ := Hh.out)
        | (go_at_call 13; (with_reducible refine (O7.out _ HS.out.tabs HS.out.six').mono ?_); rintro e wy ⟨rfl, hb⟩; have HS := mkHid (HS.out.next hb); have Ha := mkHid (Ha.out.grows hb); have Hb := mkHid (Hb.out.grows hb); have Hc := mkHid (Hc.out.grows hb); have Hd := mkHid (Hd.out.grows hb); have He := mkHid (He.out.grows hb); have Ho := mkHid (Ho.out.grows hb); have Hf := mkHid (Hf.out.grows hb); have Hg := mkHid (Hg.out.grows hb); have Hh := mkHid (Hh.out.grows hb); have HS := mkHid (HS.out.alloc (.cells #[.int .u64 (ln0 : Int), .string kn0, .int .u64 (lz1 : Int), .string kz1] 26)); have Ha := mkHid (Ha.out.alloc (.cells #[.int .u64 (ln0 : Int), .string kn0, .int .u64 (lz1 : Int), .string kz1] 26)); have Hb := mkHid (Hb.out.alloc (.cells #[.int .u64 (ln0 : Int), .string kn0, .int .u64 (lz1 : Int), .string kz1] 26)); have Hc := mkHid (Hc.out.alloc (.cells #[.int .u64 (ln0 : Int), .string kn0, .int .u64 (lz1 : Int), .string kz1] 26)); have Hd := mkHid (Hd.out.alloc (.cells #[.int .u64 (ln0 : Int), .string kn0, .int .u64 (lz1 : Int), .string kz1] 26)); have He := mkHid (He.out.alloc (.cells #[.int .u64 (ln0 : Int), .string kn0, .int .u64 (lz1 : Int), .string kz1] 26)); have Ho := mkHid (Ho.out.alloc (.cells #[.int .u64 (ln0 : Int), .string kn0, .int .u64 (lz1 : Int), .string kz1] 26)); have Hf := mkHid (Hf.out.alloc (.cells #[.int .u64 (ln0 : Int), .string kn0, .int .u64 (lz1 : Int), .string kz1] 26)); have Hg := mkHid (Hg.out.alloc (.cells #[.int .u64 (ln0 : Int), .string kn0, .int .u64 (lz1 : Int), .string kz1] 26)); have Hh := mkHid (Hh.out.alloc (.cells #[.int .u64 (ln0 : Int), .string kn0, .int .u64 (lz1 : Int), .string kz1] 26)); have Hy := mkHid (At4.new wy wy.heap.size ln0 kn0 lz1 kz1 rfl); clear hb; obtain ⟨⟨a0, a1, a2, a3⟩, -⟩ := Ha.out; obtain ⟨⟨b0, b1, b2, b3⟩, -⟩ := Hb.out; obtain ⟨⟨c0, c1, c2, c3⟩, -⟩ := Hc.out; obtain ⟨⟨d0, d1, d2, d3⟩, -⟩ := Hd.out; obtain ⟨⟨e0, e1, e2, e3⟩, -⟩ := He.out; obtain ⟨⟨o0, o1, o2, o3⟩, -⟩ := Ho.out; obtain ⟨⟨f0, f1, f2, f3⟩, -⟩ := Hf.out; obtain ⟨⟨g0, g1, g2, g3⟩, -⟩ := Hg.out; obtain ⟨⟨h0, h1, h2, h3⟩, -⟩ := Hh.out; obtain ⟨⟨y0, y1, y2, y3⟩, -⟩ := Hy.out)
        | (go_at_call 19; (with_reducible refine (A1.out _ HS.out.tabs HS.out.six').mono ?_); rintro e w6 ⟨rfl, hb⟩; have HS := mkHid (HS.out.next hb); have Ha := mkHid (Ha.out.grows hb); have Hb := mkHid (Hb.out.grows hb); have Hc := mkHid (Hc.out.grows hb); have Hd := mkHid (Hd.out.grows hb); have He := mkHid (He.out.grows hb); have Ho := mkHid (Ho.out.grows hb); have Hf := mkHid (Hf.out.grows hb); have Hg := mkHid (Hg.out.grows hb); have Hh := mkHid (Hh.out.grows hb); have Hy := mkHid (Hy.out.grows hb); clear hb; obtain ⟨⟨a0, a1, a2, a3⟩, -⟩ := Ha.out; obtain ⟨⟨b0, b1, b2, b3⟩, -⟩ := Hb.out; obtain ⟨⟨c0, c1, c2, c3⟩, -⟩ := Hc.out; obtain ⟨⟨d0, d1, d2, d3⟩, -⟩ := Hd.out; obtain ⟨⟨e0, e1, e2, e3⟩, -⟩ := He.out; obtain ⟨⟨o0, o1, o2, o3⟩, -⟩ := Ho.out; obtain ⟨⟨f0, f1, f2, f3⟩, -⟩ := Hf.out; obtain ⟨⟨g0, g1, g2, g3⟩, -⟩ := Hg.out; obtain ⟨⟨h0, h1, h2, h3⟩, -⟩ := Hh.out; obtain ⟨⟨y0, y1, y2, y3⟩, -⟩ := Hy.out)
        | (go_at_call 20; (with_reducible refine (M1.out _ HS.out.tabs HS.out.six').mono ?_); rintro e w6 ⟨rfl, hb⟩; have HS := mkHid (HS.out.next hb); have Ha := mkHid (Ha.out.grows hb); have Hb := mkHid (Hb.out.grows hb); have Hc := mkHid (Hc.out.grows hb); have Hd := mkHid (Hd.out.grows hb); have He := mkHid (He.out.grows hb); have Ho := mkHid (Ho.out.grows hb); have Hf := mkHid (Hf.out.grows hb); have Hg := mkHid (Hg.out.grows hb); have Hh := mkHid (Hh.out.grows hb); have Hy := mkHid (Hy.out.grows hb); clear hb; obtain ⟨⟨a0, a1, a2, a3⟩, -⟩ := Ha.out; obtain ⟨⟨b0, b1, b2, b3⟩, -⟩ := Hb.out; obtain ⟨⟨c0, c1, c2, c3⟩, -⟩ := Hc.out; obtain ⟨⟨d0, d1, d2, d3⟩, -⟩ := Hd.out; obtain ⟨⟨e0, e1, e2, e3⟩, -⟩ := He.out; obtain ⟨⟨o0, o1, o2, o3⟩, -⟩ := Ho.out; obtain ⟨⟨f0, f1, f2, f3⟩, -⟩ := Hf.out; obtain ⟨⟨g0, g1, g2, g3⟩, -⟩ := Hg.out; obtain ⟨⟨h0, h1, h2, h3⟩, -⟩ := Hh.out; obtain ⟨⟨y0, y1, y2, y3⟩, -⟩ := Hy.out)
        | (go_at_call 24; (with_reducible refine (K1.out _ HS.out.tabs HS.out.six').mono ?_); rintro e w6 ⟨rfl, hb⟩; have HS := mkHid (HS.out.next hb); have Ha := mkHid (Ha.out.grows hb); have Hb := mkHid (Hb.out.grows hb); have Hc := mkHid (Hc.out.grows hb); have Hd := mkHid (Hd.out.grows hb); have He := mkHid (He.out.grows hb); have Ho := mkHid (Ho.out.grows hb); have Hf := mkHid (Hf.out.grows hb); have Hg := mkHid (Hg.out.grows hb); have Hh := mkHid (Hh.out.grows hb); have Hy := mkHid (Hy.out.grows hb); clear hb; obtain ⟨⟨a0, a1, a2, a3⟩, -⟩ := Ha.out; obtain ⟨⟨b0, b1, b2, b3⟩, -⟩ := Hb.out; obtain ⟨⟨c0, c1, c2, c3⟩, -⟩ := Hc.out; obtain ⟨⟨d0, d1, d2, d3⟩, -⟩ := Hd.out; obtain ⟨⟨e0, e1, e2, e3⟩, -⟩ := He.out; obtain ⟨⟨o0, o1, o2, o3⟩, -⟩ := Ho.out; obtain ⟨⟨f0, f1, f2, f3⟩, -⟩ := Hf.out; obtain ⟨⟨g0, g1, g2, g3⟩, -⟩ := Hg.out; obtain ⟨⟨h0, h1, h2, h3⟩, -⟩ := Hh.out; obtain ⟨⟨y0, y1, y2, y3⟩, -⟩ := Hy.out)
        | (go_at_call 22; (with_reducible refine (T1.out _ HS.out.tabs HS.out.six').mono ?_); rintro e w6 ⟨rfl, hb⟩; have HS := mkHid (HS.out.next hb); have Ha := mkHid (Ha.out.grows hb); have Hb := mkHid (Hb.out.grows hb); have Hc := mkHid (Hc.out.grows hb); have Hd := mkHid (Hd.out.grows hb); have He := mkHid (He.out.grows hb); have Ho := mkHid (Ho.out.grows hb); have Hf := mkHid (Hf.out.grows hb); have Hg := mkHid (Hg.out.grows hb); have Hh := mkHid (Hh.out.grows hb); have Hy := mkHid (Hy.out.grows hb); clear hb; obtain ⟨⟨a0, a1, a2, a3⟩, -⟩ := Ha.out; obtain ⟨⟨b0, b1, b2, b3⟩, -⟩ := Hb.out; obtain ⟨⟨c0, c1, c2, c3⟩, -⟩ := Hc.out; obtain ⟨⟨d0, d1, d2, d3⟩, -⟩ := Hd.out; obtain ⟨⟨e0, e1, e2, e3⟩, -⟩ := He.out; obtain ⟨⟨o0, o1, o2, o3⟩, -⟩ := Ho.out; obtain ⟨⟨f0, f1, f2, f3⟩, -⟩ := Hf.out; obtain ⟨⟨g0, g1, g2, g3⟩, -⟩ := Hg.out; obtain ⟨⟨h0, h1, h2, h3⟩, -⟩ := Hh.out; obtain ⟨⟨y0, y1, y2, y3⟩, -⟩ := Hy.out)
        | (go_at_call 22; (with_reducible refine (T2.out _ HS.out.tabs HS.out.six').mono ?_); rintro e w6 ⟨rfl, hb⟩; have HS := mkHid (HS.out.next hb); have Ha := mkHid (Ha.out.grows hb); have Hb := mkHid (Hb.out.grows hb); have Hc := mkHid (Hc.out.grows hb); have Hd := mkHid (Hd.out.grows hb); have He := mkHid (He.out.grows hb); have Ho := mkHid (Ho.out.grows hb); have Hf := mkHid (Hf.out.grows hb); have Hg := mkHid (Hg.out.grows hb); have Hh := mkHid (Hh.out.grows hb); have Hy := mkHid (Hy.out.grows hb); clear hb; obtain ⟨⟨a0, a1, a2, a3⟩, -⟩ := Ha.out; obtain ⟨⟨b0, b1, b2, b3⟩, -⟩ := Hb.out; obtain ⟨⟨c0, c1, c2, c3⟩, -⟩ := Hc.out; obtain ⟨⟨d0, d1, d2, d3⟩, -⟩ := Hd.out; obtain ⟨⟨e0, e1, e2, e3⟩, -⟩ := He.out; obtain ⟨⟨o0, o1, o2, o3⟩, -⟩ := Ho.out; obtain ⟨⟨f0, f1, f2, f3⟩, -⟩ := Hf.out; obtain ⟨⟨g0, g1, g2, g3⟩, -⟩ := Hg.out; obtain ⟨⟨h0, h1, h2, h3⟩, -⟩ := Hh.out; obtain ⟨⟨y0, y1, y2, y3⟩, -⟩ := Hy.out)
        | (go_at_call 22; (with_reducible refine (T3.out _ HS.out.tabs HS.out.six').mono ?_); rintro e w6 ⟨rfl, hb⟩; have HS := mkHid (HS.out.next hb); have Ha := mkHid (Ha.out.grows hb); have Hb := mkHid (Hb.out.grows hb); have Hc := mkHid (Hc.out.grows hb); have Hd := mkHid (Hd.out.grows hb); have He := mkHid (He.out.grows hb); have Ho := mkHid (Ho.out.grows hb); have Hf := mkHid (Hf.out.grows hb); have Hg := mkHid (Hg.out.grows hb); have Hh := mkHid (Hh.out.grows hb); have Hy := mkHid (Hy.out.grows hb); clear hb; obtain ⟨⟨a0, a1, a2, a3⟩, -⟩ := Ha.out; obtain ⟨⟨b0, b1, b2, b3⟩, -⟩ := Hb.out; obtain ⟨⟨c0, c1, c2, c3⟩, -⟩ := Hc.out; obtain ⟨⟨d0, d1, d2, d3⟩, -⟩ := Hd.out; obtain ⟨⟨e0, e1, e2, e3⟩, -⟩ := He.out; obtain ⟨⟨o0, o1, o2, o3⟩, -⟩ := Ho.out; obtain ⟨⟨f0, f1, f2, f3⟩, -⟩ := Hf.out; obtain ⟨⟨g0, g1, g2, g3⟩, -⟩ := Hg.out; obtain ⟨⟨h0, h1, h2, h3⟩, -⟩ := Hh.out; obtain ⟨⟨y0, y1, y2, y3⟩, -⟩ := Hy.out)
        | (go_at_call 22; (with_reducible refine (T4.out _ HS.out.tabs HS.out.six').mono ?_); rintro e w6 ⟨rfl, hb⟩; have HS := mkHid (HS.out.next hb); have Ha := mkHid (Ha.out.grows hb); have Hb := mkHid (Hb.out.grows hb); have Hc := mkHid (Hc.out.grows hb); have Hd := mkHid (Hd.out.grows hb); have He := mkHid (He.out.grows hb); have Ho := mkHid (Ho.out.grows hb); have Hf := mkHid (Hf.out.grows hb); have Hg := mkHid (Hg.out.grows hb); have Hh := mkHid (Hh.out.grows hb); have Hy := mkHid (Hy.out.grows hb); clear hb; obtain ⟨⟨a0, a1, a2, a3⟩, -⟩ := Ha.out; obtain ⟨⟨b0, b1, b2, b3⟩, -⟩ := Hb.out; obtain ⟨⟨c0, c1, c2, c3⟩, -⟩ := Hc.out; obtain ⟨⟨d0, d1, d2, d3⟩, -⟩ := Hd.out; obtain ⟨⟨e0, e1, e2, e3⟩, -⟩ := He.out; obtain ⟨⟨o0, o1, o2, o3⟩, -⟩ := Ho.out; obtain ⟨⟨f0, f1, f2, f3⟩, -⟩ := Hf.out; obtain ⟨⟨g0, g1, g2, g3⟩, -⟩ := Hg.out; obtain ⟨⟨h0, h1, h2, h3⟩, -⟩ := Hh.out; obtain ⟨⟨y0, y1, y2, y3⟩, -⟩ := Hy.out)
        | (go_at_call 16; (with_reducible refine (CW.out _ HS.out.tabs HS.out.six').mono ?_); rintro e w6 ⟨rfl, hb⟩; have HS := mkHid (HS.out.next hb); have Ha := mkHid (Ha.out.grows hb); have Hb := mkHid (Hb.out.grows hb); have Hc := mkHid (Hc.out.grows hb); have Hd := mkHid (Hd.out.grows hb); have He := mkHid (He.out.grows hb); have Ho := mkHid (Ho.out.grows hb); have Hf := mkHid (Hf.out.grows hb); have Hg := mkHid (Hg.out.grows hb); have Hh := mkHid (Hh.out.grows hb); have Hy := mkHid (Hy.out.grows hb); clear hb; obtain ⟨⟨a0, a1, a2, a3⟩, -⟩ := Ha.out; obtain ⟨⟨b0, b1, b2, b3⟩, -⟩ := Hb.out; obtain ⟨⟨c0, c1, c2, c3⟩, -⟩ := Hc.out; obtain ⟨⟨d0, d1, d2, d3⟩, -⟩ := Hd.out; obtain ⟨⟨e0, e1, e2, e3⟩, -⟩ := He.out; obtain ⟨⟨o0, o1, o2, o3⟩, -⟩ := Ho.out; obtain ⟨⟨f0, f1, f2, f3⟩, -⟩ := Hf.out; obtain ⟨⟨g0, g1, g2, g3⟩, -⟩ := Hg.out; obtain ⟨⟨h0, h1, h2, h3⟩, -⟩ := Hh.out; obtain ⟨⟨y0, y1, y2, y3⟩, -⟩ := Hy.out))
      go_ret
      exact ⟨rfl, HS.out.below⟩

theorem low2 (p q : Nat) (h0 : 0 < q) (h : Nat.gcd p q = 1) : Lo p q := ⟨h0, h⟩
theorem ratKnown_any (w : World) (ht : Tabs w) (h6 : 6 ≤ w.heap.size) :
    Calls Tryd.prog 8 #[] w fun e w' => e = .returned (.bool true) ∧ Below w.heap.size w w' := by
  have o1 := of2_pos 1 6 (by decide) (by decide) (by omega)
  rw [show rn 1 6 = 1 by decide +kernel, show rd 1 6 = 6 by decide +kernel] at o1
  have o2 := of2_pos 1 3 (by decide) (by decide) (by omega)
  rw [show rn 1 3 = 1 by decide +kernel, show rd 1 3 = 3 by decide +kernel] at o2
  have o3 := of2_pos 1 2 (by decide) (by decide) (by omega)
  rw [show rn 1 2 = 1 by decide +kernel, show rd 1 2 = 2 by decide +kernel] at o3
  have o4 := of2_pos 33 100 (by decide) (by decide) (by omega)
  rw [show rn 33 100 = 33 by decide +kernel, show rd 33 100 = 100 by decide +kernel] at o4
  have o5 := of2_pos 4 9 (by decide) (by decide) (by omega)
  rw [show rn 4 9 = 4 by decide +kernel, show rd 4 9 = 9 by decide +kernel] at o5
  have o6 := of2_pos 3 8 (by decide) (by decide) (by omega)
  rw [show rn 3 8 = 3 by decide +kernel, show rd 3 8 = 8 by decide +kernel] at o6
  have o7 := of2_zero 1 (by decide)
  have l16 : Lo 1 6 := low2 _ _ (by omega) (by decide +kernel)
  have l13 : Lo 1 3 := low2 _ _ (by omega) (by decide +kernel)
  have l12 : Lo 1 2 := low2 _ _ (by omega) (by decide +kernel)
  have l49 : Lo 4 9 := low2 _ _ (by omega) (by decide +kernel)
  have l38 : Lo 3 8 := low2 _ _ (by omega) (by decide +kernel)
  have k16 : Kb 1 6 := kbs (by decide) (by decide)
  have k13 : Kb 1 3 := kbs (by decide) (by decide)
  have k12 : Kb 1 2 := kbs (by decide) (by decide)
  have k49 : Kb 4 9 := kbs (by decide) (by decide)
  have k38 : Kb 3 8 := kbs (by decide) (by decide)
  have k33 : Kb 33 100 := kbs (by decide) (by decide)
  have k01 : Kb 0 1 := kbs (by decide) (by decide)
  have s1 := sub2_ok l12 l16 k12 k16 (by omega)
  rw [show rn (1 * 6 - 1 * 2) (2 * 6) = 1 by decide +kernel, show rd (1 * 6 - 1 * 2) (2 * 6) = 3 by decide +kernel] at s1
  have s2 := sub2_ok l12 l12 k12 k12 (by omega)
  rw [show rn (1 * 2 - 1 * 2) (2 * 2) = 0 by decide +kernel, show rd (1 * 2 - 1 * 2) (2 * 2) = 1 by decide +kernel] at s2
  have s3 := sub2_no l13 l12 k13 k12 (by omega)
  have a1 := add2_g l16 l13 k16 k13
  rw [show rn (1 * 3 + 1 * 6) (6 * 3) = 1 by decide +kernel, show rd (1 * 3 + 1 * 6) (6 * 3) = 2 by decide +kernel] at a1
  have m1 := mul2_g l49 l38 k49 k38
  rw [show rn (4 * 3) (9 * 8) = 1 by decide +kernel, show rd (4 * 3) (9 * 8) = 6 by decide +kernel] at m1
  have c1 := qcmp_raw 1 3 33 100 (by omega) (by omega) k13 k33
  rw [show Lib.compareInt ((1 * 100 : Nat) : Int) ((33 * 3 : Nat) : Int) = 1 by decide +kernel] at c1
  have t1 := rtext_g 1 2 k12.num k12.den (by omega)
  rw [show tx 1 2 = ⟨#[49, 47, 50]⟩ by kernel_rfl] at t1
  have t2 := rtext_g 1 3 k13.num k13.den (by omega)
  rw [show tx 1 3 = ⟨#[49, 47, 51]⟩ by kernel_rfl] at t2
  have t3 := rtext_g 0 1 k01.num k01.den (by omega)
  rw [show tx 0 1 = ⟨#[48]⟩ by kernel_rfl] at t3
  have t4 := rtext_g 1 6 k16.num k16.den (by omega)
  rw [show tx 1 6 = ⟨#[49, 47, 54]⟩ by kernel_rfl] at t4
  exact known_raw o1 o2 o3 o4 o5 o6 o7 s1 s2 s3 a1 m1 c1 t1 t2 t3 t4 w ht h6
end Go.Proofs.YtflcdpolfimggaaDoor
