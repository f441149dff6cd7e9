/- Contracts, laid one behind the other: QR QB QC QE QF QG QH QI. -/
import Derived.Test.YtflcdpolfimggaaDoorG7
import Derived.Test.YtflcdpolfimggaaDoorG6
namespace Go.Proofs.YtflcdpolfimggaaDoor
open Go.RowKit SD Q

/-- Two strings in a block of their own. -/
def AtS (w : World) (b : Nat) (x y : ByteArray) : Prop :=
  w.cell? ⟨b, 0, none⟩ = some (.string x) ∧ w.cell? ⟨b, 1, none⟩ = some (.string y) ∧ w.frozen? ⟨b, 0, none⟩ = false ∧ w.frozen? ⟨b, 1, none⟩ = false
theorem AtS.lt {w : World} {b : Nat} {x y : ByteArray} (H : AtS w b x y) : b < w.heap.size := World.block_lt_of_cell? w _ H.1
theorem AtS.grows {w w' : World} {b : Nat} {x y : ByteArray} (H : AtS w b x y) (hb : Below w.heap.size w w') : AtS w' b x y :=
  ⟨(hb.cell (p := ⟨b, 0, none⟩) H.lt).trans H.1, (hb.cell (p := ⟨b, 1, none⟩) H.lt).trans H.2.1, (hb.frozen (p := ⟨b, 0, none⟩) H.lt).trans H.2.2.1, (hb.frozen (p := ⟨b, 1, none⟩) H.lt).trans H.2.2.2⟩
theorem AtS.new (w : World) (n : Nat) (x y : ByteArray) (hn : n = w.heap.size) : AtS (w.alloc (.cells #[.string x, .string y] 31)) n x y := by
  subst hn
  have hb : (w.alloc (.cells #[.string x, .string y] 31)).heap[w.heap.size]? = some (.cells #[.string x, .string y] 31 (0, 0)) := heap_alloc_new w _
  refine ⟨?_, ?_, ?_, ?_⟩
  · simp only [World.cell?, hb]; rfl
  · simp only [World.cell?, hb]; rfl
  · simp only [World.frozen?, hb]; rfl
  · simp only [World.frozen?, hb]; rfl
theorem setCells_belowB {w W : World} {B : Nat} (h : Below B w W) (b : Nat) (hb : B ≤ b) (x y : Value) : Below B w ((W.setCell ⟨b, 0, none⟩ x).setCell ⟨b, 1, none⟩ y) :=
  (h.setCell (p := ⟨b, 0, none⟩) hb _).setCell (p := ⟨b, 1, none⟩) hb _
/-- The specification's quotient as a value. -/
abbrev sv (p q : Nat) : Value := .agg #[.string (ds p), .string (ds q)]
/-- A quotient's text. -/
def tx (p q : Nat) : ByteArray := if q = 1 then ds p else ds p ++ ⟨#[47]⟩ ++ ds q
theorem tx_one (p : Nat) : tx p 1 = ds p := rfl
theorem tx_ne {p q : Nat} (h : q ≠ 1) : tx p q = ds p ++ ⟨#[47]⟩ ++ ds q := if_neg h
theorem ds_1 : ds 1 = ⟨#[49]⟩ := by kernel_rfl
theorem ds_ne_one {n : Nat} (h : n ≠ 1) : ((ds n).toList == [49]) = false := by
  rw [beq_eq_false_iff_ne, ds_list]
  intro e
  exact h (D.dec_inj (show Lib.decDigits n = Lib.decDigits 1 by rw [e]; kernel_rfl))

set_option maxRecDepth 100000 in
set_option maxHeartbeats 1000000 in
theorem szero (W : World) : Calls Tryd.prog 33 #[] W fun e w' => e = .returned (sv 0 1) ∧ Below W.heap.size W w' := by
  unfold sv
  rw [ds_zero, ds_1]
  go_enter Tryd.func33, Tryd.ntmps33
  go_wp2
  refine bodyPost_ret (v := .agg #[.string ⟨#[48]⟩, .string ⟨#[49]⟩]) (by simp [results, Tryd.results33, go_sem]) rfl ⟨rfl, ?_⟩
  exact (Below.refl _ _).alloc (Nat.le_refl _) _

set_option maxRecDepth 100000 in
set_option maxHeartbeats 1000000 in
theorem stext (p q : Nat) (W : World) (hp : Lib.nDigits p ≤ 1000000) (hq : Lib.nDigits q ≤ 1000000) : Calls Tryd.prog 39 #[sv p q] W fun e w' => e = .returned (.string (tx p q)) ∧ Below W.heap.size W w' := by
  by_cases h : q = 1
  · subst h
    rw [tx_one]
    unfold sv
    rw [ds_1]
    go_enter Tryd.func39, Tryd.ntmps39
    go_wp2
    go_ret
    exact ⟨rfl, (Below.refl _ _).alloc (Nat.le_refl _) _⟩
  · have hne := ds_ne_one h
    have sp := ds_size p
    have sq := ds_size q
    rw [tx_ne h]
    unfold sv
    generalize ds p = a at *
    generalize ds q = b at *
    have h1 : ¬ 9223372036854775807 < a.size + 1 := by omega
    have h2 : ¬ 9223372036854775807 < a.size + 1 + b.size := by omega
    clear hp hq sp sq
    go_enter Tryd.func39, Tryd.ntmps39
    go_wp2
    go_ret
    exact ⟨rfl, (Below.refl _ _).alloc (Nat.le_refl _) _⟩

set_option maxRecDepth 100000 in
set_option maxHeartbeats 2000000 in
theorem snew_zero (n : Nat) (W : World) : Calls Tryd.prog 11 #[.string (ds n), .string (ds 0)] W fun e w' => e = .returned (.tuple #[sv 0 1, .bool false]) ∧ Below W.heap.size W w' := by
  have CZ := mkHid szero
  unfold sv at *
  rw [ds_zero, ds_1] at *
  have HB := mkHid ((Below.refl W.heap.size W).alloc (Nat.le_refl _) (.cells #[.string ⟨#[]⟩, .string ⟨#[]⟩] 31))
  have HR := mkHid (AtS.new W W.heap.size ⟨#[]⟩ ⟨#[]⟩ rfl)
  go_enter Tryd.func11, Tryd.ntmps11
  go_wp2_with (go_at_call 33; refine (CZ.out _).mono ?_; rintro e w2 ⟨rfl, hb⟩; have HB2 := mkHid (below_trans HB.out hb HB.out.size); have HR2 := mkHid (HR.out.grows hb); clear hb; obtain ⟨r0, r1, f0, f1⟩ := HR2.out)
  refine bodyPost_ret (v := .tuple #[.agg #[.string ⟨#[48]⟩, .string ⟨#[49]⟩], .bool false]) (by simp [results, Tryd.results11, go_sem, r0, r1]) rfl ⟨rfl, ?_⟩
  exact setCells_belowB HB2.out W.heap.size (Nat.le_refl _) _ _

set_option maxRecDepth 100000 in
set_option maxHeartbeats 4000000 in
theorem snew_pos (n d : Nat) (W : World) (hd : 0 < d) (hn : Lib.nDigits n ≤ 50000) (hdd : Lib.nDigits d ≤ 50000) :
    Calls Tryd.prog 11 #[.string (ds n), .string (ds d)] W fun e w' => e = .returned (.tuple #[sv (rn n d) (rd n d), .bool true]) ∧ Below W.heap.size W w' := by
  have hg : 0 < Nat.gcd n d := Nat.gcd_pos_of_pos_right n hd
  have hd0 := ds_ne_zero (show d ≠ 0 by omega)
  have CG := mkHid (fun W => sgcd_any n d W hn hdd)
  have C1 := mkHid (fun W => sdiv_pos n (Nat.gcd n d) W hg hn)
  have C2 := mkHid (fun W => sdiv_pos d (Nat.gcd n d) W hg hdd)
  unfold sv rn rd
  clear hg hn hdd hd
  generalize ds (n / Nat.gcd n d) = s1 at *
  generalize ds (n % Nat.gcd n d) = s2 at *
  generalize ds (d / Nat.gcd n d) = s3 at *
  generalize ds (d % Nat.gcd n d) = s4 at *
  generalize ds (Nat.gcd n d) = s5 at *
  generalize ds n = s6 at *
  generalize ds d = s7 at *
  have HB := mkHid ((Below.refl W.heap.size W).alloc (Nat.le_refl _) (.cells #[.string ⟨#[]⟩, .string ⟨#[]⟩] 31))
  have HR := mkHid (AtS.new W W.heap.size ⟨#[]⟩ ⟨#[]⟩ rfl)
  go_enter Tryd.func11, Tryd.ntmps11
  go_wp2_with (go_at_call 34; refine (CG.out _).mono ?_; rintro e w2 ⟨rfl, hb⟩; have HB := mkHid (below_trans HB.out hb HB.out.size); have HR := mkHid (HR.out.grows hb); clear hb)
  refine (C1.out _).mono ?_
  rintro e w3 ⟨rfl, hb⟩
  have HB := mkHid (below_trans HB.out hb HB.out.size); have HR := mkHid (HR.out.grows hb); clear hb
  go_wp2_with (go_at_call 35; refine (C2.out _).mono ?_; rintro e w4 ⟨rfl, hb⟩; have HB := mkHid (below_trans HB.out hb HB.out.size); have HR := mkHid (HR.out.grows hb); clear hb; obtain ⟨r0, r1, f0, f1⟩ := HR.out)
  refine bodyPost_ret (v := .tuple #[.agg #[.string s1, .string s3], .bool true]) (by simp [results, Tryd.results11, go_sem, r0, r1]) rfl ⟨rfl, ?_⟩
  exact setCells_belowB HB.out W.heap.size (Nat.le_refl _) _ _

set_option maxRecDepth 100000 in
set_option maxHeartbeats 2000000 in
theorem sof2_pos (a b : Nat) (W : World) (ha : a < 18446744073709551616) (hb : b < 18446744073709551616) (h0 : 0 < b) :
    Calls Tryd.prog 14 #[.int .u64 (a : Int), .int .u64 (b : Int)] W fun e w' => e = .returned (.tuple #[sv (rn a b) (rd a b), .bool true]) ∧ Below W.heap.size W w' := by
  have C1 := mkHid (fun W => sof_any a W ha)
  have C2 := mkHid (fun W => sof_any b W hb)
  have C3 := mkHid (fun W => snew_pos a b W h0 (by have := D.nDigits_le 19 a (by omega); omega) (by have := D.nDigits_le 19 b (by omega); omega))
  unfold sv at *
  clear ha hb h0
  generalize ds (rn a b) = s1 at *
  generalize ds (rd a b) = s2 at *
  generalize ds a = s3 at *
  generalize ds b = s4 at *
  have HB := mkHid ((Below.refl W.heap.size W).alloc (Nat.le_refl _) (.cells #[.string ⟨#[]⟩, .string ⟨#[]⟩] 31))
  have HR := mkHid (AtS.new W W.heap.size ⟨#[]⟩ ⟨#[]⟩ rfl)
  go_enter Tryd.func14, Tryd.ntmps14
  go_wp2_with (fail)
  refine (C1.out _).mono ?_
  rintro e w3 ⟨rfl, hb⟩
  have HB := mkHid (below_trans HB.out hb HB.out.size); have HR := mkHid (HR.out.grows hb); clear hb
  go_wp2_with (first
    | (go_at_call 38; refine (C2.out _).mono ?_; rintro e w4 ⟨rfl, hb⟩; have HB := mkHid (below_trans HB.out hb HB.out.size); have HR := mkHid (HR.out.grows hb); clear hb)
    | (go_at_call 11; refine (C3.out _).mono ?_; rintro e w5 ⟨rfl, hb⟩; have HB := mkHid (below_trans HB.out hb HB.out.size); have HR := mkHid (HR.out.grows hb); clear hb; obtain ⟨r0, r1, f0, f1⟩ := HR.out))
  refine bodyPost_ret (v := .tuple #[.agg #[.string s1, .string s2], .bool true]) (by simp [results, Tryd.results14, go_sem, r0, r1]) rfl ⟨rfl, ?_⟩
  exact setCells_belowB HB.out W.heap.size (Nat.le_refl _) _ _
set_option maxRecDepth 100000 in
set_option maxHeartbeats 2000000 in
theorem sof2_zero (a : Nat) (W : World) (ha : a < 18446744073709551616) :
    Calls Tryd.prog 14 #[.int .u64 (a : Int), .int .u64 0] W fun e w' => e = .returned (.tuple #[sv 0 1, .bool false]) ∧ Below W.heap.size W w' := by
  have C1 := mkHid (fun W => sof_any a W ha)
  have C2 := fun W => sof_any 0 W (by decide)
  rw [show ((0 : Nat) : Int) = 0 from rfl] at C2
  replace C2 := mkHid C2
  have C3 := mkHid (fun W => snew_zero a W)
  unfold sv at *
  clear ha
  generalize ds 1 = s2 at *
  generalize ds a = s3 at *
  generalize ds 0 = s4 at *
  have HB := mkHid ((Below.refl W.heap.size W).alloc (Nat.le_refl _) (.cells #[.string ⟨#[]⟩, .string ⟨#[]⟩] 31))
  have HR := mkHid (AtS.new W W.heap.size ⟨#[]⟩ ⟨#[]⟩ rfl)
  go_enter Tryd.func14, Tryd.ntmps14
  go_wp2_with (fail)
  refine (C1.out _).mono ?_
  rintro e w3 ⟨rfl, hb⟩
  have HB := mkHid (below_trans HB.out hb HB.out.size); have HR := mkHid (HR.out.grows hb); clear hb
  go_wp2_with (first
    | (go_at_call 38; refine (C2.out _).mono ?_; rintro e w4 ⟨rfl, hb⟩; have HB := mkHid (below_trans HB.out hb HB.out.size); have HR := mkHid (HR.out.grows hb); clear hb)
    | (go_at_call 11; refine (C3.out _).mono ?_; rintro e w5 ⟨rfl, hb⟩; have HB := mkHid (below_trans HB.out hb HB.out.size); have HR := mkHid (HR.out.grows hb); clear hb; obtain ⟨r0, r1, f0, f1⟩ := HR.out))
  refine bodyPost_ret (v := .tuple #[.agg #[.string s4, .string s2], .bool false]) (by simp [results, Tryd.results14, go_sem, r0, r1]) rfl ⟨rfl, ?_⟩
  exact setCells_belowB HB.out W.heap.size (Nat.le_refl _) _ _

set_option maxRecDepth 100000 in
set_option maxHeartbeats 2000000 in
/-- What the laws take of a string: a number of at most 150 digits. -/
theorem digits_any (s : ByteArray) : ∃ n, Lib.nDigits n ≤ 150 ∧ ∀ W, Calls Tryd.prog 12 #[.string s] W fun e w' => e = .returned (.string (ds n)) ∧ w' = W := by
  rcases hd : D.isDec s.data.toList with _ | _
  · refine ⟨1, by have := D.nDigits_le 0 1 (by omega); omega, fun W => ?_⟩
    have CR := mkHid (fun W => rread_bad s W hd)
    rw [ds_1]
    clear hd
    go_enter Tryd.func12, Tryd.ntmps12
    go_wp2_with (go_at_call 36; refine (CR.out _).mono ?_; rintro e w2 ⟨rfl, h2⟩; obtain rfl := h2.symm; clear h2)
    go_ret
    exact ⟨rfl, rfl⟩
  · have CR := mkHid (fun W => rread_ok s W hd)
    by_cases hl : s.size ≤ 150
    · have hl' : ¬ (150 : Int) < (s.size : Int) := by omega
      have e : ds (D.dv s.data.toList) = s := by
        refine ByteArray.ext ?_
        have := D.dec_dv _ hd
        show (Lib.decDigits (D.dv s.data.toList)).toArray = s.data
        rw [this]
      refine ⟨D.dv s.data.toList, by rw [← Lib.decDigits_length, D.dec_dv _ hd, str_len]; exact hl, fun W => ?_⟩
      rw [e]
      clear hd e hl
      go_enter Tryd.func12, Tryd.ntmps12
      go_wp2_with (go_at_call 36; refine (CR.out _).mono ?_; rintro e w2 ⟨rfl, h2⟩; obtain rfl := h2.symm; clear h2)
      go_ret
      exact ⟨rfl, rfl⟩
    · have hl' : (150 : Int) < (s.size : Int) := by omega
      refine ⟨1, by have := D.nDigits_le 0 1 (by omega); omega, fun W => ?_⟩
      rw [ds_1]
      clear hd hl
      go_enter Tryd.func12, Tryd.ntmps12
      go_wp2_with (go_at_call 36; refine (CR.out _).mono ?_; rintro e w2 ⟨rfl, h2⟩; obtain rfl := h2.symm; clear h2)
      go_ret
      exact ⟨rfl, rfl⟩
end Go.Proofs.YtflcdpolfimggaaDoor
namespace Go.Proofs.YtflcdpolfimggaaDoor
open Go.RowKit Q SD

set_option maxRecDepth 100000 in
set_option maxHeartbeats 2000000 in
theorem num_g (p q : Nat) : Gives 27 #[rv p q] (nv p) := by
  intro W _ _
  unfold rv nv
  generalize lo p = lp at *
  generalize hi p = kp at *
  generalize lo (dz q) = lq at *
  generalize hi (dz q) = kq at *
  go_enter Tryd.func27, Tryd.ntmps27
  go_wp2
  refine bodyPost_ret (v := .agg #[.int .u64 (lp : Int), .string kp]) (by simp [results, Tryd.results27, go_sem]) rfl ⟨rfl, ?_⟩
  exact ((Below.refl _ _).alloc (Nat.le_refl _) _).alloc (by simp) _

set_option maxRecDepth 100000 in
set_option maxHeartbeats 2000000 in
theorem new_zero (n : Nat) : Gives 9 #[nv n, nv 0] (.tuple #[rv 0 1, .bool false]) := by
  intro W _ _
  unfold rv
  rw [dz_one]
  unfold nv at *
  rw [lo_zero, hi_zero]
  generalize lo n = ln at *
  generalize hi n = kn at *
  go_enter Tryd.func9, Tryd.ntmps9
  go_wp2
  refine bodyPost_ret (v := .tuple #[.agg #[.int .u64 ((0 : Nat) : Int), .string ⟨#[]⟩, .int .u64 ((0 : Nat) : Int), .string ⟨#[]⟩], .bool false]) (by simp [results, Tryd.results9, go_sem]) rfl ⟨rfl, ?_⟩
  exact (((Below.refl _ _).alloc (Nat.le_refl _) _).alloc (by simp) _).alloc (by simp; omega) _


theorem frozen_grow {W w' : World} (hb : Below W.heap.size W w') {b o : Nat} {v : Value} {f : Bool} (h : W.cell? ⟨b, o, none⟩ = some v) (hf : W.frozen? ⟨b, o, none⟩ = f) : w'.frozen? ⟨b, o, none⟩ = f :=
  (hb.frozen (p := ⟨b, o, none⟩) (World.block_lt_of_cell? W _ h)).trans hf
end Go.Proofs.YtflcdpolfimggaaDoor
namespace Go.Proofs.YtflcdpolfimggaaDoor
open Go.RowKit Q SD

/-- Four cells of the call's own. -/
def Bx4 (X : World) (r : Nat) : Prop := ∃ c e, X.heap[r]? = some (.cells c e (0, 0)) ∧ c.size = 4
theorem Bx4.grows {X w' : World} {r : Nat} (h : Bx4 X r) (hb : Below X.heap.size X w') : Bx4 w' r := by
  obtain ⟨c, e, h1, h2⟩ := h
  exact ⟨c, e, (hb.block r (Array.getElem?_eq_some_iff.1 h1).1).trans h1, h2⟩
theorem Bx4.set {X : World} {r : Nat} (h : Bx4 X r) (i : Nat) (v : Value) : Bx4 (X.setCell ⟨r, i, none⟩ v) r := by
  obtain ⟨c, e, h1, h2⟩ := h
  exact ⟨c.setIfInBounds i v, e, by simp [World.setCell, Array.getElem?_modify, h1], by simpa using h2⟩
theorem Bx4.facts {X : World} {r : Nat} (h : Bx4 X r) : ∃ v0 v1 v2 v3, (X.cell? ⟨r, 0, none⟩ = some v0 ∧ X.cell? ⟨r, 1, none⟩ = some v1 ∧ X.cell? ⟨r, 2, none⟩ = some v2 ∧ X.cell? ⟨r, 3, none⟩ = some v3) ∧ X.frozen? ⟨r, 0, none⟩ = false ∧ X.frozen? ⟨r, 1, none⟩ = false ∧ X.frozen? ⟨r, 2, none⟩ = false ∧ X.frozen? ⟨r, 3, none⟩ = false := by
  obtain ⟨c, e, h1, h2⟩ := h
  refine ⟨c[0], c[1], c[2], c[3], ⟨?_, ?_, ?_, ?_⟩, ?_, ?_, ?_, ?_⟩ <;> simp [World.cell?, World.frozen?, h1, h2]
theorem Bx4.new (w : World) (n : Nat) (a b c d : Value) (T : TypeId) (hn : n = w.heap.size) : Bx4 (w.alloc (.cells #[a, b, c, d] T)) n := by
  subst hn; exact ⟨_, _, heap_alloc_new w _, rfl⟩
theorem set4_other {X : World} {r b o : Nat} {v : Value} (h : X.cell? ⟨b, o, none⟩ = some v) (hne : b ≠ r) (x y z u : Value) : ((((X.setCell ⟨r, 0, none⟩ x).setCell ⟨r, 1, none⟩ y).setCell ⟨r, 2, none⟩ z).setCell ⟨r, 3, none⟩ u).cell? ⟨b, o, none⟩ = some v := by
  have e : ((((X.setCell ⟨r, 0, none⟩ x).setCell ⟨r, 1, none⟩ y).setCell ⟨r, 2, none⟩ z).setCell ⟨r, 3, none⟩ u).heap[b]? = X.heap[b]? :=
    (Below.heap_setCell _ _ _ _ hne).trans ((Below.heap_setCell _ _ _ _ hne).trans ((Below.heap_setCell _ _ _ _ hne).trans (Below.heap_setCell _ _ _ _ hne)))
  exact (World.cell?_of_block (a := ⟨b, o, none⟩) e).trans h
theorem St.set4 {w X : World} (h : St w X) {r : Nat} (hr : w.heap.size ≤ r) (x y z u : Value) : St w ((((X.setCell ⟨r, 0, none⟩ x).setCell ⟨r, 1, none⟩ y).setCell ⟨r, 2, none⟩ z).setCell ⟨r, 3, none⟩ u) := by
  have hB : Below w.heap.size X ((((X.setCell ⟨r, 0, none⟩ x).setCell ⟨r, 1, none⟩ y).setCell ⟨r, 2, none⟩ z).setCell ⟨r, 3, none⟩ u) := setCells4_below (Below.refl _ X |>.mono h.size) r hr x y z u
  exact ⟨h.below.trans hB, h.tabs.below hB h.six, h.six⟩

set_option maxRecDepth 100000 in
set_option maxHeartbeats 8000000 in
theorem new_pos (n d : Nat) (hn : Sm n) (hd : Sm d) (h0 : d ≠ 0) : Gives 9 #[nv n, nv d] (.tuple #[rv (rn n d) (rd n d), .bool true]) := by
  intro W ht h6
  have hg : Nat.gcd n d ≠ 0 := by have := Nat.gcd_pos_of_pos_right n (Nat.pos_of_ne_zero h0); omega
  have CG := mkHid (gcd_g n d hn hd)
  have C1 := mkHid (quotient_g n (Nat.gcd n d) hn hg)
  have C2 := mkHid (quotient_g d (Nat.gcd n d) hd hg)
  have CP := mkHid (pack_g (n / Nat.gcd n d) (d / Nat.gcd n d))
  have hne := nv_ne h0
  rw [lo_zero, hi_zero] at hne
  unfold rv rn rd at *
  unfold nv at *
  clear hn hd h0 hg
  generalize lo (dz (d / Nat.gcd n d)) = l5 at *
  generalize hi (dz (d / Nat.gcd n d)) = k5 at *
  generalize lo (n / Nat.gcd n d) = l1 at *
  generalize hi (n / Nat.gcd n d) = k1 at *
  generalize lo (d / Nat.gcd n d) = l2 at *
  generalize hi (d / Nat.gcd n d) = k2 at *
  generalize lo (Nat.gcd n d) = lg at *
  generalize hi (Nat.gcd n d) = kg at *
  generalize lo n = ln at *
  generalize hi n = kn at *
  generalize lo d = ld at *
  generalize hi d = kd at *
  have HS := mkHid ((((St.refl ht h6).alloc (.cells #[.int .u64 (ln : Int), .string kn] 24)).alloc (.cells #[.int .u64 (ld : Int), .string kd] 24)).alloc (.cells #[.int .u64 0, .string ⟨#[]⟩, .int .u64 0, .string ⟨#[]⟩] 26))
  have HN := mkHid (((At2.new W W.heap.size ln kn rfl).alloc (.cells #[.int .u64 (ld : Int), .string kd] 24)).alloc (.cells #[.int .u64 0, .string ⟨#[]⟩, .int .u64 0, .string ⟨#[]⟩] 26))
  have HD := mkHid ((At2.new (W.alloc (.cells #[.int .u64 (ln : Int), .string kn] 24)) (W.heap.size + 1) ld kd (by simp)).alloc (.cells #[.int .u64 0, .string ⟨#[]⟩, .int .u64 0, .string ⟨#[]⟩] 26))
  have HR := mkHid (At4.new ((W.alloc (.cells #[.int .u64 (ln : Int), .string kn] 24)).alloc (.cells #[.int .u64 (ld : Int), .string kd] 24)) (W.heap.size + 1 + 1) 0 ⟨#[]⟩ 0 ⟨#[]⟩ (by simp))
  have HB := mkHid (Bx4.new ((W.alloc (.cells #[.int .u64 (ln : Int), .string kn] 24)).alloc (.cells #[.int .u64 (ld : Int), .string kd] 24)) (W.heap.size + 1 + 1) (.int .u64 0) (.string ⟨#[]⟩) (.int .u64 0) (.string ⟨#[]⟩) 26 (by simp))
  clear ht h6
  have key : ∀ (hx : ((ld : Int) == 0) = false ∨ (ld = 0 ∧ kd.toList.isEmpty = false)), Calls Tryd.prog 9 #[.agg #[.int .u64 (ln : Int), .string kn], .agg #[.int .u64 (ld : Int), .string kd]] W fun e w' => e = .returned (.tuple #[.agg #[.int .u64 (l1 : Int), .string k1, .int .u64 (l5 : Int), .string k5], .bool true]) ∧ Below W.heap.size W w' := by
    intro hx
    have hx2 : ((ld : Int) == 0) = false ∨ (((ld : Int) == 0) = true ∧ kd.toList.isEmpty = false) := hx.imp id fun ⟨a, b⟩ => ⟨by subst a; rfl, b⟩
    clear hx
    rcases hx2 with hx | ⟨hl, hx⟩
    all_goals
      go_enter Tryd.func9, Tryd.ntmps9
      go_upto_region 4 with (go_at_call 26; refine (CG.out _ HS.out.tabs HS.out.six').mono ?_; rintro e w2 ⟨rfl, hb⟩; have HS2 := mkHid (((HS.out.next hb).alloc (.cells #[.int .u64 (lg : Int), .string kg] 24)).drew); have HN2 := mkHid (((HN.out.grows hb).alloc (.cells #[.int .u64 (lg : Int), .string kg] 24)).drew); have HD2 := mkHid (((HD.out.grows hb).alloc (.cells #[.int .u64 (lg : Int), .string kg] 24)).drew); have hs2 : W.heap.size + 1 + 1 + 1 ≤ w2.heap.size := (by have := hb.size; simpa using this); have HB2 := mkHid (((HB.out.grows hb).grows ((Below.refl _ _).alloc (Nat.le_refl _) (.cells #[.int .u64 (lg : Int), .string kg] 24)))); have HR2 := mkHid (((HR.out.grows hb).alloc (.cells #[.int .u64 (lg : Int), .string kg] 24)).drew); have HG2 := mkHid ((At2.new w2 w2.heap.size lg kg rfl).drew); clear hb; obtain ⟨n0, n1, -, -⟩ := HN2.out; obtain ⟨d0, d1, -, -⟩ := HD2.out; obtain ⟨g0, g1, -, -⟩ := HG2.out; obtain ⟨-, f0, f1, f2, f3⟩ := HR2.out)
      have hs0 := HS2.out
      have hj : w2.heap.size ≠ W.heap.size + 1 + 1 := by have := hs2; omega
      generalize w2.heap.size = j1 at *
      go_region_held3 (fun X => St W X ∧ X.cell? ⟨W.heap.size, 0, none⟩ = some (.int .u64 (ln : Int)) ∧ X.cell? ⟨W.heap.size, 1, none⟩ = some (.string kn) ∧ X.cell? ⟨W.heap.size + 1, 0, none⟩ = some (.int .u64 (ld : Int)) ∧ X.cell? ⟨W.heap.size + 1, 1, none⟩ = some (.string kd) ∧ X.cell? ⟨j1, 0, none⟩ = some (.int .u64 (lg : Int)) ∧ X.cell? ⟨j1, 1, none⟩ = some (.string kg) ∧ Bx4 X (W.heap.size + 1 + 1))
        (first
          | (with_reducible exact ⟨hS.1.next hb, St.cell hb hS.2.1, St.cell hb hS.2.2.1, St.cell hb hS.2.2.2.1, St.cell hb hS.2.2.2.2.1, St.cell hb hS.2.2.2.2.2.1, St.cell hb hS.2.2.2.2.2.2.1, hS.2.2.2.2.2.2.2.grows hb⟩)
          | exact ⟨hs0, n0, n1, d0, d1, g0, g1, HB2.out⟩
          | (have hP : St W w6 ∧ _ := (by assumption); exact ⟨hP.1.set4 (by omega) _ _ _ _, set4_other hP.2.1 (by omega) _ _ _ _, set4_other hP.2.2.1 (by omega) _ _ _ _, set4_other hP.2.2.2.1 (by omega) _ _ _ _, set4_other hP.2.2.2.2.1 (by omega) _ _ _ _, set4_other hP.2.2.2.2.2.1 hj _ _ _ _, set4_other hP.2.2.2.2.2.2.1 hj _ _ _ _, ((((hP.2.2.2.2.2.2.2).set 0 _).set 1 _).set 2 _).set 3 _⟩))
        (first
          | (go_at_call 31; have hS : St W _ ∧ _ := (by assumption); (with_reducible refine (C1.out _ hS.1.tabs hS.1.six').mono ?_); rintro e w6 ⟨rfl, hb⟩)
          | (go_at_call 31; have hS : St W _ ∧ _ := (by assumption); (with_reducible refine (C2.out _ hS.1.tabs hS.1.six').mono ?_); rintro e w6 ⟨rfl, hb⟩)
          | (go_at_call 30; have hS : St W _ ∧ _ := (by assumption); (with_reducible refine (CP.out _ hS.1.tabs hS.1.six').mono ?_); rintro e w6 ⟨rfl, hb⟩; obtain ⟨v0, v1, v2, v3, ⟨r0, r1, r2, r3⟩, f0, f1, f2, f3⟩ := (hS.2.2.2.2.2.2.2.grows hb).facts))
      have hT : St W _ ∧ _ := (by assumption)
      have HT := mkHid hT.1.below
      clear hT
      go_wp2_with fail
      refine bodyPost_ret (v := .tuple #[.agg #[.int .u64 (l1 : Int), .string k1, .int .u64 (l5 : Int), .string k5], .bool true]) (by simp [results, Tryd.results9, go_sem, r0, r1, r2, r3]) rfl ⟨rfl, ?_⟩
      exact HT.out
  refine key (hne.imp id fun ⟨h1, h2⟩ => ⟨h1, ?_⟩)
  cases hc : kd.toList with
  | nil => rw [hc] at h2; simp at h2
  | cons a t => rfl
end Go.Proofs.YtflcdpolfimggaaDoor
namespace Go.Proofs.YtflcdpolfimggaaDoor
open Go.RowKit Q SD

set_option maxRecDepth 100000 in
set_option maxHeartbeats 4000000 in
theorem of2_raw (a b l1 l2 : Nat) (k1 k2 : ByteArray) (ok : Bool) (ha : a < M.B) (hb : b < M.B) (C3 : Gives 9 #[nv a, nv b] (.tuple #[.agg #[.int .u64 (l1 : Int), .string k1, .int .u64 (l2 : Int), .string k2], .bool ok])) :
    Gives 13 #[.int .u64 (a : Int), .int .u64 (b : Int)] (.tuple #[.agg #[.int .u64 (l1 : Int), .string k1, .int .u64 (l2 : Int), .string k2], .bool ok]) := by
  intro W ht h6
  have C1 := mkHid (of_g a ha)
  have C2 := mkHid (of_g b hb)
  replace C3 := mkHid C3
  unfold nv at *
  clear ha hb
  generalize lo a = la at *
  generalize hi a = ka at *
  generalize lo b = lb at *
  generalize hi b = kb at *
  have HS := mkHid ((St.refl ht h6).alloc (.cells #[.int .u64 0, .string ⟨#[]⟩, .int .u64 0, .string ⟨#[]⟩] 26))
  have HR := mkHid (At4.new W W.heap.size 0 ⟨#[]⟩ 0 ⟨#[]⟩ rfl)
  clear ht h6
  go_enter Tryd.func13, Tryd.ntmps13
  go_wp2_with (first
    | (go_at_call 37; (with_reducible refine (C1.out _ HS.out.tabs HS.out.six').mono ?_); rintro e w2 ⟨rfl, hb⟩; have HS := mkHid (HS.out.next hb); have HR := mkHid (HR.out.grows hb); clear hb)
    | (go_at_call 37; (with_reducible refine (C2.out _ HS.out.tabs HS.out.six').mono ?_); rintro e w3 ⟨rfl, hb⟩; have HS := mkHid (HS.out.next hb); have HR := mkHid (HR.out.grows hb); clear hb)
    | (go_at_call 9; (with_reducible refine (C3.out _ HS.out.tabs HS.out.six').mono ?_); rintro e w4 ⟨rfl, hb⟩; have HS := mkHid (HS.out.next hb); have HR := mkHid (HR.out.grows hb); clear hb; obtain ⟨⟨r0, r1, r2, r3⟩, f0, f1, f2, f3⟩ := HR.out))
  refine bodyPost_ret (v := .tuple #[.agg #[.int .u64 (l1 : Int), .string k1, .int .u64 (l2 : Int), .string k2], .bool ok]) (by simp [results, Tryd.results13, go_sem, r0, r1, r2, r3]) rfl ⟨rfl, ?_⟩
  exact setCells4_below HS.out.below W.heap.size (Nat.le_refl _) _ _ _ _
theorem of2_pos (a b : Nat) (ha : a < M.B) (hb : b < M.B) (h0 : b ≠ 0) : Gives 13 #[.int .u64 (a : Int), .int .u64 (b : Int)] (.tuple #[rv (rn a b) (rd a b), .bool true]) :=
  of2_raw a b _ _ _ _ true ha hb (new_pos a b (sm_word ha) (sm_word hb) h0)
theorem of2_zero (a : Nat) (ha : a < M.B) : Gives 13 #[.int .u64 (a : Int), .int .u64 ((0 : Nat) : Int)] (.tuple #[rv 0 1, .bool false]) :=
  of2_raw a 0 _ _ _ _ false ha (by decide) (new_zero a)

set_option maxRecDepth 100000 in
set_option maxHeartbeats 4000000 in
theorem rtext_one (p : Nat) (hp : Sm p) : Gives 22 #[rv p 1] (.string (tx p 1)) := by
  intro W ht h6
  have CT := mkHid (text_g p hp)
  rw [tx_one]
  rw [show (⟨(Lib.decDigits p).toArray⟩ : ByteArray) = ds p from rfl] at CT
  unfold rv
  rw [dz_one, lo_zero, hi_zero]
  unfold nv at *
  clear hp
  generalize ds p = s at *
  generalize lo p = lp at *
  generalize hi p = kp at *
  have HS := mkHid ((St.refl ht h6).alloc (.cells #[.int .u64 (lp : Int), .string kp, .int .u64 ((0 : Nat) : Int), .string ⟨#[]⟩] 26))
  clear ht h6
  go_enter Tryd.func22, Tryd.ntmps22
  go_wp2_with (go_at_call 29; refine (CT.out _ HS.out.tabs HS.out.six').mono ?_; rintro e w2 ⟨rfl, hb⟩; have HS2 := mkHid (HS.out.next hb); clear hb)
  go_ret
  exact ⟨rfl, HS2.out.below⟩
end Go.Proofs.YtflcdpolfimggaaDoor
namespace Go.Proofs.YtflcdpolfimggaaDoor
open Go.RowKit Q SD

theorem nd_sm {n : Nat} (h : Sm n) : Lib.nDigits n ≤ 18001 := by
  obtain ⟨k, hk⟩ : ∃ k : Nat, k = 900 := ⟨_, rfl⟩
  have h1 : n < M.B ^ k := M.dig_length_le.1 (by unfold Sm at h; omega)
  have := D.nDigits_words k n h1
  omega
set_option maxRecDepth 100000 in
set_option maxHeartbeats 8000000 in
theorem rtext_ne (p q : Nat) (hp : Sm p) (hq : Sm q) (h0 : q ≠ 0) (h1 : q ≠ 1) : Gives 22 #[rv p q] (.string (tx p q)) := by
  intro W ht h6
  have CT1 := mkHid (text_g p hp)
  have CT2 := mkHid (text_g q hq)
  have sp := ds_size p
  have sq := ds_size q
  have np := nd_sm hp
  have nq := nd_sm hq
  have hne := nv_ne h0
  rw [lo_zero, hi_zero] at hne
  rw [tx_ne h1]
  rw [show (⟨(Lib.decDigits p).toArray⟩ : ByteArray) = ds p from rfl] at CT1
  rw [show (⟨(Lib.decDigits q).toArray⟩ : ByteArray) = ds q from rfl] at CT2
  unfold rv
  rw [dz_ne h1]
  unfold nv at *
  clear hp hq h0 h1
  generalize ds p = a at *
  generalize ds q = b at *
  have z1 : ¬ 9223372036854775807 < a.size + 1 := by omega
  have z2 : ¬ 9223372036854775807 < a.size + 1 + b.size := by omega
  clear sp sq np nq
  generalize lo p = lp at *
  generalize hi p = kp at *
  generalize lo q = lq at *
  generalize hi q = kq at *
  have hx2 : ((lq : Int) == 0) = false ∨ (((lq : Int) == 0) = true ∧ kq.toList.isEmpty = false) := hne.imp id fun ⟨x, y⟩ => ⟨by subst x; rfl, by
    cases hc : kq.toList with
    | nil => rw [hc] at y; simp at y
    | cons a t => rfl⟩
  clear hne
  have hs0 := ((St.refl ht h6).alloc (.cells #[.int .u64 (lp : Int), .string kp, .int .u64 (lq : Int), .string kq] 26)).drew
  obtain ⟨⟨c0, c1, c2, c3⟩, -⟩ := (At4.new W W.heap.size lp kp lq kq rfl).drew
  clear ht h6
  rcases hx2 with hx | ⟨hl, hx⟩
  all_goals
    go_enter Tryd.func22, Tryd.ntmps22
    go_upto_region 3 with (fail)
    go_region_held3 (fun X => St W X ∧ X.cell? ⟨W.heap.size, 0, none⟩ = some (.int .u64 (lp : Int)) ∧ X.cell? ⟨W.heap.size, 1, none⟩ = some (.string kp) ∧ X.cell? ⟨W.heap.size, 2, none⟩ = some (.int .u64 (lq : Int)) ∧ X.cell? ⟨W.heap.size, 3, none⟩ = some (.string kq))
      (first
        | (with_reducible exact ⟨hS.1.next hb, St.cell hb hS.2.1, St.cell hb hS.2.2.1, St.cell hb hS.2.2.2.1, St.cell hb hS.2.2.2.2⟩)
        | exact ⟨hs0, c0, c1, c2, c3⟩)
      (first
        | (go_at_call 29; have hS : St W _ ∧ _ := (by assumption); (with_reducible refine (CT1.out _ hS.1.tabs hS.1.six').mono ?_); rintro e w6 ⟨rfl, hb⟩)
        | (go_at_call 29; have hS : St W _ ∧ _ := (by assumption); (with_reducible refine (CT2.out _ hS.1.tabs hS.1.six').mono ?_); rintro e w6 ⟨rfl, hb⟩))
    have hT : St W _ ∧ _ := (by assumption)
    have HT := mkHid hT.1.below
    clear hT
    go_wp2_with fail
    go_ret
    exact ⟨rfl, HT.out⟩
theorem rtext_g (p q : Nat) (hp : Sm p) (hq : Sm q) (h0 : q ≠ 0) : Gives 22 #[rv p q] (.string (tx p q)) := by
  by_cases h1 : q = 1
  · subst h1; exact rtext_one p hp
  · exact rtext_ne p q hp hq h0 h1
end Go.Proofs.YtflcdpolfimggaaDoor
namespace Go.Proofs.YtflcdpolfimggaaDoor
open Go.RowKit Q SD

set_option maxRecDepth 100000 in
set_option maxHeartbeats 8000000 in
theorem lowest_g (n c d g : Nat) (hn : Sm n) (hc : Sm c) (hd : Sm d) (hg : Sm g) (g0 : g ≠ 0) :
    Gives 43 #[nv n, nv c, nv d, nv g] (rv (n / Nat.gcd n g) (c / g * (d / Nat.gcd n g))) := by
  intro W ht h6
  have h0 : Nat.gcd n g ≠ 0 := by have := Nat.gcd_pos_of_pos_right n (Nat.pos_of_ne_zero g0); omega
  have CG := mkHid (gcd_g n g hn hg)
  have C1 := mkHid (quotient_g n (Nat.gcd n g) hn h0)
  have C2 := mkHid (quotient_g c g hc g0)
  have C3 := mkHid (quotient_g d (Nat.gcd n g) hd h0)
  have CM := mkHid (mul_g (c / g) (d / Nat.gcd n g) (sm_le (Nat.div_le_self _ _) hc) (sm_le (Nat.div_le_self _ _) hd))
  have CP := mkHid (pack_g (n / Nat.gcd n g) (c / g * (d / Nat.gcd n g)))
  unfold rv at *
  unfold nv at *
  clear hn hc hd hg g0 h0
  generalize lo (dz (c / g * (d / Nat.gcd n g))) = l9 at *
  generalize hi (dz (c / g * (d / Nat.gcd n g))) = k9 at *
  generalize lo (c / g * (d / Nat.gcd n g)) = l8 at *
  generalize hi (c / g * (d / Nat.gcd n g)) = k8 at *
  generalize lo (d / Nat.gcd n g) = l7 at *
  generalize hi (d / Nat.gcd n g) = k7 at *
  generalize lo (c / g) = l6 at *
  generalize hi (c / g) = k6 at *
  generalize lo (n / Nat.gcd n g) = l5 at *
  generalize hi (n / Nat.gcd n g) = k5 at *
  generalize lo (Nat.gcd n g) = lh at *
  generalize hi (Nat.gcd n g) = kh at *
  generalize lo n = ln at *
  generalize hi n = kn at *
  generalize lo c = lc at *
  generalize hi c = kc at *
  generalize lo d = ld at *
  generalize hi d = kd at *
  generalize lo g = lg at *
  generalize hi g = kg at *
  have HS := mkHid ((((((St.refl ht h6).alloc (.cells #[.int .u64 (ln : Int), .string kn] 24)).alloc (.cells #[.int .u64 (lc : Int), .string kc] 24)).alloc (.cells #[.int .u64 (ld : Int), .string kd] 24)).alloc (.cells #[.int .u64 (lg : Int), .string kg] 24)).alloc (.cells #[.int .u64 0, .string ⟨#[]⟩, .int .u64 0, .string ⟨#[]⟩] 26))
  have H0 := mkHid (((((At2.new W (W.heap.size) ln kn (by simp)).alloc (.cells #[.int .u64 (lc : Int), .string kc] 24)).alloc (.cells #[.int .u64 (ld : Int), .string kd] 24)).alloc (.cells #[.int .u64 (lg : Int), .string kg] 24)).alloc (.cells #[.int .u64 0, .string ⟨#[]⟩, .int .u64 0, .string ⟨#[]⟩] 26))
  have H1 := mkHid ((((At2.new (W.alloc (.cells #[.int .u64 (ln : Int), .string kn] 24)) (W.heap.size + 1) lc kc (by simp)).alloc (.cells #[.int .u64 (ld : Int), .string kd] 24)).alloc (.cells #[.int .u64 (lg : Int), .string kg] 24)).alloc (.cells #[.int .u64 0, .string ⟨#[]⟩, .int .u64 0, .string ⟨#[]⟩] 26))
  have H2 := mkHid (((At2.new ((W.alloc (.cells #[.int .u64 (ln : Int), .string kn] 24)).alloc (.cells #[.int .u64 (lc : Int), .string kc] 24)) (W.heap.size + 1 + 1) ld kd (by simp)).alloc (.cells #[.int .u64 (lg : Int), .string kg] 24)).alloc (.cells #[.int .u64 0, .string ⟨#[]⟩, .int .u64 0, .string ⟨#[]⟩] 26))
  have H3 := mkHid ((At2.new (((W.alloc (.cells #[.int .u64 (ln : Int), .string kn] 24)).alloc (.cells #[.int .u64 (lc : Int), .string kc] 24)).alloc (.cells #[.int .u64 (ld : Int), .string kd] 24)) (W.heap.size + 1 + 1 + 1) lg kg (by simp)).alloc (.cells #[.int .u64 0, .string ⟨#[]⟩, .int .u64 0, .string ⟨#[]⟩] 26))
  have HB := mkHid (Bx4.new ((((W.alloc (.cells #[.int .u64 (ln : Int), .string kn] 24)).alloc (.cells #[.int .u64 (lc : Int), .string kc] 24)).alloc (.cells #[.int .u64 (ld : Int), .string kd] 24)).alloc (.cells #[.int .u64 (lg : Int), .string kg] 24)) (W.heap.size + 1 + 1 + 1 + 1) (.int .u64 0) (.string ⟨#[]⟩) (.int .u64 0) (.string ⟨#[]⟩) 26 (by simp))
  clear ht h6
  go_enter Tryd.func43, Tryd.ntmps43
  go_upto_region 2 with (go_at_call 26; refine (CG.out _ HS.out.tabs HS.out.six').mono ?_; rintro e w2 ⟨rfl, hb⟩; have hs2 : W.heap.size + 1 + 1 + 1 + 1 + 1 ≤ w2.heap.size := (by have := hb.size; simpa using this); have HS2 := mkHid (((HS.out.next hb).alloc (.cells #[.int .u64 (lh : Int), .string kh] 24)).drew); have G0 := mkHid (((H0.out.grows hb).alloc (.cells #[.int .u64 (lh : Int), .string kh] 24)).drew); have G1 := mkHid (((H1.out.grows hb).alloc (.cells #[.int .u64 (lh : Int), .string kh] 24)).drew); have G2 := mkHid (((H2.out.grows hb).alloc (.cells #[.int .u64 (lh : Int), .string kh] 24)).drew); have G3 := mkHid (((H3.out.grows hb).alloc (.cells #[.int .u64 (lh : Int), .string kh] 24)).drew); have HB2 := mkHid ((HB.out.grows hb).grows ((Below.refl _ _).alloc (Nat.le_refl _) (.cells #[.int .u64 (lh : Int), .string kh] 24))); have HH2 := mkHid ((At2.new w2 w2.heap.size lh kh rfl).drew); clear hb; obtain ⟨a0, b0, -, -⟩ := G0.out; obtain ⟨a1, b1, -, -⟩ := G1.out; obtain ⟨a2, b2, -, -⟩ := G2.out; obtain ⟨a3, b3, -, -⟩ := G3.out; obtain ⟨a4, b4, -, -⟩ := HH2.out)
  have hs0 := HS2.out
  have hj : w2.heap.size ≠ W.heap.size + 1 + 1 + 1 + 1 := by have := hs2; omega
  generalize w2.heap.size = j1 at *
  go_region_held3 (fun X => St W X ∧ X.cell? ⟨W.heap.size, 0, none⟩ = some (.int .u64 (ln : Int)) ∧ X.cell? ⟨W.heap.size, 1, none⟩ = some (.string kn) ∧ X.cell? ⟨W.heap.size + 1, 0, none⟩ = some (.int .u64 (lc : Int)) ∧ X.cell? ⟨W.heap.size + 1, 1, none⟩ = some (.string kc) ∧ X.cell? ⟨W.heap.size + 1 + 1, 0, none⟩ = some (.int .u64 (ld : Int)) ∧ X.cell? ⟨W.heap.size + 1 + 1, 1, none⟩ = some (.string kd) ∧ X.cell? ⟨W.heap.size + 1 + 1 + 1, 0, none⟩ = some (.int .u64 (lg : Int)) ∧ X.cell? ⟨W.heap.size + 1 + 1 + 1, 1, none⟩ = some (.string kg) ∧ X.cell? ⟨j1, 0, none⟩ = some (.int .u64 (lh : Int)) ∧ X.cell? ⟨j1, 1, none⟩ = some (.string kh) ∧ Bx4 X (W.heap.size + 1 + 1 + 1 + 1))
    (first
      | (with_reducible exact ⟨hS.1.next hb, St.cell hb hS.2.1, St.cell hb hS.2.2.1, St.cell hb hS.2.2.2.1, St.cell hb hS.2.2.2.2.1, St.cell hb hS.2.2.2.2.2.1, St.cell hb hS.2.2.2.2.2.2.1, St.cell hb hS.2.2.2.2.2.2.2.1, St.cell hb hS.2.2.2.2.2.2.2.2.1, St.cell hb hS.2.2.2.2.2.2.2.2.2.1, St.cell hb hS.2.2.2.2.2.2.2.2.2.2.1, hS.2.2.2.2.2.2.2.2.2.2.2.grows hb⟩)
      | exact ⟨hs0, a0, b0, a1, b1, a2, b2, a3, b3, a4, b4, HB2.out⟩
      | (have hP : St W w6 ∧ _ := (by assumption); exact ⟨hP.1.set4 (by omega) _ _ _ _, set4_other hP.2.1 (by omega) _ _ _ _, set4_other hP.2.2.1 (by omega) _ _ _ _, set4_other hP.2.2.2.1 (by omega) _ _ _ _, set4_other hP.2.2.2.2.1 (by omega) _ _ _ _, set4_other hP.2.2.2.2.2.1 (by omega) _ _ _ _, set4_other hP.2.2.2.2.2.2.1 (by omega) _ _ _ _, set4_other hP.2.2.2.2.2.2.2.1 (by omega) _ _ _ _, set4_other hP.2.2.2.2.2.2.2.2.1 (by omega) _ _ _ _, set4_other hP.2.2.2.2.2.2.2.2.2.1 hj _ _ _ _, set4_other hP.2.2.2.2.2.2.2.2.2.2.1 hj _ _ _ _, (((hP.2.2.2.2.2.2.2.2.2.2.2.set 0 _).set 1 _).set 2 _).set 3 _⟩))
    (first
      | (go_at_call 31; have hS : St W _ ∧ _ := (by assumption); (with_reducible refine (C1.out _ hS.1.tabs hS.1.six').mono ?_); rintro e w6 ⟨rfl, hb⟩)
      | (go_at_call 31; have hS : St W _ ∧ _ := (by assumption); (with_reducible refine (C2.out _ hS.1.tabs hS.1.six').mono ?_); rintro e w6 ⟨rfl, hb⟩)
      | (go_at_call 31; have hS : St W _ ∧ _ := (by assumption); (with_reducible refine (C3.out _ hS.1.tabs hS.1.six').mono ?_); rintro e w6 ⟨rfl, hb⟩)
      | (go_at_call 44; have hS : St W _ ∧ _ := (by assumption); (with_reducible refine (CM.out _ hS.1.tabs hS.1.six').mono ?_); rintro e w6 ⟨rfl, hb⟩)
      | (go_at_call 30; have hS : St W _ ∧ _ := (by assumption); (with_reducible refine (CP.out _ hS.1.tabs hS.1.six').mono ?_); rintro e w6 ⟨rfl, hb⟩; obtain ⟨v0, v1, v2, v3, ⟨r0, r1, r2, r3⟩, f0, f1, f2, f3⟩ := (hS.2.2.2.2.2.2.2.2.2.2.2.grows hb).facts))
  have hT : St W _ ∧ _ := (by assumption)
  have HT := mkHid hT.1.below
  clear hT
  go_wp2_with fail
  refine bodyPost_ret (v := .agg #[.int .u64 (l5 : Int), .string k5, .int .u64 (l9 : Int), .string k9]) (by simp [results, Tryd.results43, go_sem, r0, r1, r2, r3]) rfl ⟨rfl, ?_⟩
  exact HT.out
end Go.Proofs.YtflcdpolfimggaaDoor
namespace Go.Proofs.YtflcdpolfimggaaDoor
open Go.RowKit Q SD

theorem cellAl {W : World} {b o : Nat} {v : Value} (h : W.cell? ⟨b, o, none⟩ = some v) (x : Obj) : (W.alloc x).cell? ⟨b, o, none⟩ = some v := St.cell ((Below.refl _ _).alloc (Nat.le_refl _) x) h
theorem cellSet2 {W : World} {b o p : Nat} {v : Value} (h : W.cell? ⟨b, o, none⟩ = some v) (hne : b ≠ p) (x y : Value) : ((W.setCell ⟨p, 0, none⟩ x).setCell ⟨p, 1, none⟩ y).cell? ⟨b, o, none⟩ = some v := by
  have e : ((W.setCell ⟨p, 0, none⟩ x).setCell ⟨p, 1, none⟩ y).heap[b]? = W.heap[b]? := (Below.heap_setCell _ _ _ _ hne).trans (Below.heap_setCell _ _ _ _ hne)
  exact (World.cell?_of_block (a := ⟨b, o, none⟩) e).trans h
theorem St.set2 {w W : World} (h : St w W) {b : Nat} (hb : w.heap.size ≤ b) (x y : Value) : St w ((W.setCell ⟨b, 0, none⟩ x).setCell ⟨b, 1, none⟩ y) := by
  have hB : Below w.heap.size W ((W.setCell ⟨b, 0, none⟩ x).setCell ⟨b, 1, none⟩ y) := ((Below.refl _ W).setCell (p := ⟨b, 0, none⟩) hb _).setCell (p := ⟨b, 1, none⟩) hb _
  exact ⟨h.below.trans hB, h.tabs.below hB h.six, h.six⟩
/-- So many cells of the call's own. -/
def Bxn (X : World) (r k : Nat) : Prop := ∃ c e, X.heap[r]? = some (.cells c e (0, 0)) ∧ c.size = k
theorem Bxn.lt {X : World} {r k : Nat} (h : Bxn X r k) : r < X.heap.size := by
  obtain ⟨c, e, h1, h2⟩ := h; exact (Array.getElem?_eq_some_iff.1 h1).1
theorem Bxn.same {X w' : World} {r k : Nat} (h : Bxn X r k) (e : w'.heap[r]? = X.heap[r]?) : Bxn w' r k := by
  obtain ⟨c, t, h1, h2⟩ := h; exact ⟨c, t, e.trans h1, h2⟩
theorem Bxn.grows {X w' : World} {r k : Nat} (h : Bxn X r k) (hb : Below X.heap.size X w') : Bxn w' r k := h.same (hb.block r h.lt)
theorem Bxn.alloc {X : World} {r k : Nat} (h : Bxn X r k) (o : Obj) : Bxn (X.alloc o) r k := h.grows ((Below.refl _ _).alloc (Nat.le_refl _) o)
theorem Bxn.drew {X : World} {r k : Nat} (h : Bxn X r k) : Bxn X.drew r k := h
theorem Bxn.set {X : World} {r k : Nat} (h : Bxn X r k) (b i : Nat) (v : Value) : Bxn (X.setCell ⟨b, i, none⟩ v) r k := by
  by_cases e : r = b
  · subst e
    obtain ⟨c, e, h1, h2⟩ := h
    exact ⟨c.setIfInBounds i v, e, by simp [World.setCell, Array.getElem?_modify, h1], by simpa using h2⟩
  · exact h.same (Below.heap_setCell _ _ _ _ e)
theorem Bxn.set2 {X : World} {r k : Nat} (h : Bxn X r k) (b : Nat) (x y : Value) : Bxn ((X.setCell ⟨b, 0, none⟩ x).setCell ⟨b, 1, none⟩ y) r k := (h.set b 0 x).set b 1 y
theorem Bxn.set4 {X : World} {r k : Nat} (h : Bxn X r k) (b : Nat) (x y z u : Value) : Bxn ((((X.setCell ⟨b, 0, none⟩ x).setCell ⟨b, 1, none⟩ y).setCell ⟨b, 2, none⟩ z).setCell ⟨b, 3, none⟩ u) r k := (((h.set b 0 x).set b 1 y).set b 2 z).set b 3 u
theorem Bxn.facts4 {X : World} {r : Nat} (h : Bxn X r 4) : ∃ v0 v1 v2 v3, (X.cell? ⟨r, 0, none⟩ = some v0 ∧ X.cell? ⟨r, 1, none⟩ = some v1 ∧ X.cell? ⟨r, 2, none⟩ = some v2 ∧ X.cell? ⟨r, 3, none⟩ = some v3) ∧ X.frozen? ⟨r, 0, none⟩ = false ∧ X.frozen? ⟨r, 1, none⟩ = false ∧ X.frozen? ⟨r, 2, none⟩ = false ∧ X.frozen? ⟨r, 3, none⟩ = false := by
  obtain ⟨c, e, h1, h2⟩ := h
  refine ⟨c[0], c[1], c[2], c[3], ⟨?_, ?_, ?_, ?_⟩, ?_, ?_, ?_, ?_⟩ <;> simp [World.cell?, World.frozen?, h1, h2]
theorem Bxn.facts2 {X : World} {r : Nat} (h : Bxn X r 2) : ∃ v0 v1, (X.cell? ⟨r, 0, none⟩ = some v0 ∧ X.cell? ⟨r, 1, none⟩ = some v1) ∧ X.frozen? ⟨r, 0, none⟩ = false ∧ X.frozen? ⟨r, 1, none⟩ = false := by
  obtain ⟨c, e, h1, h2⟩ := h
  refine ⟨c[0], c[1], ⟨?_, ?_⟩, ?_, ?_⟩ <;> simp [World.cell?, World.frozen?, h1, h2]
theorem Bxn.facts1 {X : World} {r : Nat} (h : Bxn X r 1) : ∃ v0, X.cell? ⟨r, 0, none⟩ = some v0 ∧ X.frozen? ⟨r, 0, none⟩ = false := by
  obtain ⟨c, e, h1, h2⟩ := h
  refine ⟨c[0], ?_, ?_⟩ <;> simp [World.cell?, World.frozen?, h1, h2]
theorem Bxn.new (w : World) (n : Nat) (a : Array Value) (T : TypeId) (hn : n = w.heap.size) : Bxn (w.alloc (.cells a T)) n a.size := by
  subst hn; exact ⟨_, _, heap_alloc_new w _, rfl⟩
theorem Bxn.at2 {X : World} {r : Nat} (h : Bxn X r 2) (l : Nat) (k : ByteArray) : At2 ((X.setCell ⟨r, 0, none⟩ (.int .u64 (l : Int))).setCell ⟨r, 1, none⟩ (.string k)) r l k := by
  obtain ⟨c, e, h1, h2⟩ := h
  have hb : ((X.setCell ⟨r, 0, none⟩ (.int .u64 (l : Int))).setCell ⟨r, 1, none⟩ (.string k)).heap[r]? = some (.cells ((c.setIfInBounds 0 (.int .u64 (l : Int))).setIfInBounds 1 (.string k)) e (0, 0)) := by
    simp [World.setCell, Array.getElem?_modify, h1]
  refine ⟨?_, ?_, ?_, ?_⟩ <;> simp [World.cell?, World.frozen?, hb, h2]
theorem Bxn.ofAt2 {X : World} {r l : Nat} {k : ByteArray} {a : Array Value} {T : TypeId} (_ : At2 X r l k) (h : X.heap[r]? = some (.cells a T (0, 0))) : Bxn X r a.size := ⟨a, T, h, rfl⟩

/-- The world has grown, but for some boxes, which a closure turns. -/
structure SB (bs : List (Nat × Nat)) (W X : World) : Prop where
  os : X.os = W.os
  tape : X.tape = W.tape
  output : X.output = W.output
  size : W.heap.size ≤ X.heap.size
  block : ∀ k, k < W.heap.size → (∀ n, (k, n) ∉ bs) → X.heap[k]? = W.heap[k]?
  tabs : Tabs X
  six : 6 ≤ W.heap.size
  kb : ∀ p ∈ bs, Bxn X p.1 p.2
  hi : ∀ p ∈ bs, 6 ≤ p.1 ∧ p.1 < W.heap.size
theorem SB.six' {bs : List (Nat × Nat)} {W X : World} (h : SB bs W X) : 6 ≤ X.heap.size := Nat.le_trans h.six h.size
theorem SB.refl {bs : List (Nat × Nat)} {W : World} (ht : Tabs W) (h6 : 6 ≤ W.heap.size) (kb : ∀ p ∈ bs, Bxn W p.1 p.2 ∧ 6 ≤ p.1) : SB bs W W :=
  ⟨rfl, rfl, rfl, Nat.le_refl _, fun _ _ _ => rfl, ht, h6, fun p hp => (kb p hp).1, fun p hp => ⟨(kb p hp).2, (kb p hp).1.lt⟩⟩
theorem SB.next {bs : List (Nat × Nat)} {W X w' : World} (h : SB bs W X) (hb : Below X.heap.size X w') : SB bs W w' :=
  ⟨hb.os.trans h.os, hb.tape.trans h.tape, hb.output.trans h.output, Nat.le_trans h.size hb.size, fun k hk hn => (hb.block k (Nat.lt_of_lt_of_le hk h.size)).trans (h.block k hk hn), h.tabs.below hb h.six', h.six, fun p hp => (h.kb p hp).grows hb, h.hi⟩
theorem SB.alloc {bs : List (Nat × Nat)} {W X : World} (h : SB bs W X) (o : Obj) : SB bs W (X.alloc o) := h.next ((Below.refl _ _).alloc (Nat.le_refl _) o)
theorem SB.drew {bs : List (Nat × Nat)} {W X : World} (h : SB bs W X) : SB bs W X.drew := ⟨h.os, h.tape, h.output, h.size, h.block, h.tabs, h.six, h.kb, h.hi⟩
theorem SB.trans {bs : List (Nat × Nat)} {W X Y : World} (h : SB bs W X) (k : SB bs X Y) : SB bs W Y :=
  ⟨k.os.trans h.os, k.tape.trans h.tape, k.output.trans h.output, Nat.le_trans h.size k.size, fun i hi hn => (k.block i (Nat.lt_of_lt_of_le hi h.size) hn).trans (h.block i hi hn), k.tabs, h.six, k.kb, h.hi⟩
theorem SB.heap {bs : List (Nat × Nat)} {W X Y : World} (h : SB bs W X) (k : SB bs X Y) {b : Nat} (hb : W.heap.size ≤ b) (hl : b < X.heap.size) : Y.heap[b]? = X.heap[b]? :=
  k.block b hl fun n hn => by have := (h.hi _ hn).2; simp at this; omega
theorem SB.cell {bs : List (Nat × Nat)} {W X Y : World} (h : SB bs W X) (k : SB bs X Y) {b o : Nat} {v : Value} (hb : W.heap.size ≤ b) (hc : X.cell? ⟨b, o, none⟩ = some v) : Y.cell? ⟨b, o, none⟩ = some v :=
  (World.cell?_of_block (a := ⟨b, o, none⟩) (h.heap k hb (World.block_lt_of_cell? X _ hc))).trans hc
theorem below6 {bs : List (Nat × Nat)} {W X : World} (h : SB bs W X) : Below 6 W X :=
  ⟨h.os, h.tape, h.output, h.size, fun k hk => h.block k (Nat.lt_of_lt_of_le hk h.six) fun n hn => by have := (h.hi _ hn).1; simp at this; omega⟩
theorem SB.store2 {W X : World} {B : Nat} (h : SB [(B, 2)] W X) (x y : Value) : SB [(B, 2)] W ((X.setCell ⟨B, 0, none⟩ x).setCell ⟨B, 1, none⟩ y) := by
  have h6 := (h.hi _ (.head _)).1
  have hB : Below 6 X ((X.setCell ⟨B, 0, none⟩ x).setCell ⟨B, 1, none⟩ y) := ((Below.refl _ X).setCell (p := ⟨B, 0, none⟩) h6 _).setCell (p := ⟨B, 1, none⟩) h6 _
  refine ⟨h.os, h.tape, h.output, by have := hB.size; have := h.size; omega, fun k hk hn => ?_, h.tabs.below hB (Nat.le_refl _), h.six, fun p hp => (h.kb p hp).set2 _ _ _, h.hi⟩
  have hne : k ≠ B := fun e => hn 2 (by rw [e]; exact .head _)
  exact ((Below.heap_setCell _ _ _ _ hne).trans (Below.heap_setCell _ _ _ _ hne)).trans (h.block k hk hn)
theorem SB.store1 {W X : World} {B : Nat} (h : SB [(B, 1)] W X) (x : Value) : SB [(B, 1)] W (X.setCell ⟨B, 0, none⟩ x) := by
  have h6 := (h.hi _ (.head _)).1
  have hB : Below 6 X (X.setCell ⟨B, 0, none⟩ x) := (Below.refl _ X).setCell (p := ⟨B, 0, none⟩) h6 _
  refine ⟨h.os, h.tape, h.output, by have := hB.size; have := h.size; omega, fun k hk hn => ?_, h.tabs.below hB (Nat.le_refl _), h.six, fun p hp => (h.kb p hp).set _ _ _, h.hi⟩
  have hne : k ≠ B := fun e => hn 1 (by rw [e]; exact .head _)
  exact (Below.heap_setCell _ _ _ _ hne).trans (h.block k hk hn)
theorem SB.store21 {W X : World} {B C : Nat} (h : SB [(B, 2), (C, 1)] W X) (x y z : Value) : SB [(B, 2), (C, 1)] W (((X.setCell ⟨B, 0, none⟩ x).setCell ⟨B, 1, none⟩ y).setCell ⟨C, 0, none⟩ z) := by
  have h6 := (h.hi _ (.head _)).1
  have h7 := (h.hi _ (.tail _ (.head _))).1
  have hB : Below 6 X (((X.setCell ⟨B, 0, none⟩ x).setCell ⟨B, 1, none⟩ y).setCell ⟨C, 0, none⟩ z) := (((Below.refl _ X).setCell (p := ⟨B, 0, none⟩) h6 _).setCell (p := ⟨B, 1, none⟩) h6 _).setCell (p := ⟨C, 0, none⟩) h7 _
  refine ⟨h.os, h.tape, h.output, by have := hB.size; have := h.size; omega, fun k hk hn => ?_, h.tabs.below hB (Nat.le_refl _), h.six, fun p hp => ((h.kb p hp).set2 _ _ _).set _ _ _, h.hi⟩
  have hne : k ≠ B := fun e => hn 2 (by rw [e]; exact .head _)
  have hnc : k ≠ C := fun e => hn 1 (by rw [e]; exact .tail _ (.head _))
  exact ((Below.heap_setCell _ _ _ _ hnc).trans ((Below.heap_setCell _ _ _ _ hne).trans (Below.heap_setCell _ _ _ _ hne))).trans (h.block k hk hn)

set_option maxRecDepth 100000 in
set_option maxHeartbeats 4000000 in
theorem add1_g (x y : Nat) (hx : Sm x) (hy : Sm y) (B : Nat) (X : World) (h : SB [(B, 2)] X X) :
    Calls Tryd.prog 41 #[nv x, nv y, .pointer (some ⟨B, 0, none⟩)] X fun e w' => e = .returned (.tuple #[]) ∧ SB [(B, 2)] X w' ∧ At2 w' B (lo (x + y)) (hi (x + y)) := by
  have C := mkHid (add_g x y hx hy)
  clear hx hy
  unfold nv at *
  generalize lo (x + y) = l3 at *
  generalize hi (x + y) = k3 at *
  generalize lo x = l1 at *
  generalize hi x = k1 at *
  generalize lo y = l2 at *
  generalize hi y = k2 at *
  have HS := mkHid ((h.alloc (.cells #[.int .u64 (l1 : Int), .string k1] 24)).alloc (.cells #[.int .u64 (l2 : Int), .string k2] 24))
  clear h
  go_enter Tryd.func41, Tryd.ntmps41
  go_wp2_with (go_at_call 42; refine (C.out _ HS.out.tabs HS.out.six').mono ?_; rintro e w2 ⟨rfl, hb⟩; have HS2 := mkHid (HS.out.next hb); clear hb; obtain ⟨v0, v1, ⟨r0, r1⟩, f0, f1⟩ := (HS2.out.kb _ (.head _)).facts2; (try dsimp only at r0 r1 f0 f1))
  go_end0
  exact ⟨rfl, HS2.out.store2 _ _, (HS2.out.kb _ (.head _)).at2 _ _⟩

set_option maxRecDepth 100000 in
set_option maxHeartbeats 4000000 in
theorem cmp1_g (x y : Nat) (B : Nat) (X : World) (h : SB [(B, 1)] X X) :
    Calls Tryd.prog 47 #[nv x, nv y, .pointer (some ⟨B, 0, none⟩)] X fun e w' => e = .returned (.tuple #[]) ∧ SB [(B, 1)] X w' ∧ w'.cell? ⟨B, 0, none⟩ = some (.int .i64 (Lib.compareInt (x : Int) (y : Int))) := by
  have C := mkHid (cmp_g x y)
  unfold nv at *
  generalize Lib.compareInt (x : Int) (y : Int) = c at *
  generalize lo x = l1 at *
  generalize hi x = k1 at *
  generalize lo y = l2 at *
  generalize hi y = k2 at *
  have HS := mkHid ((h.alloc (.cells #[.int .u64 (l1 : Int), .string k1] 24)).alloc (.cells #[.int .u64 (l2 : Int), .string k2] 24))
  clear h
  go_enter Tryd.func47, Tryd.ntmps47
  go_wp2_with (go_at_call 48; refine (C.out _ HS.out.tabs HS.out.six').mono ?_; rintro e w2 ⟨rfl, hb⟩; have HS2 := mkHid (HS.out.next hb); clear hb; obtain ⟨v0, r0, f0⟩ := (HS2.out.kb _ (.head _)).facts1; (try dsimp only at r0 f0))
  go_end0
  refine ⟨rfl, HS2.out.store1 _, ?_⟩
  obtain ⟨cc, e, h1, h2⟩ := HS2.out.kb _ (.head _)
  simp [World.cell?, World.setCell, Array.getElem?_modify, h1, h2]

/-- What the subtraction says. -/
theorem sub1_raw (x y : Nat) (z : Nat) (ok : Bool) (C0 : Gives 46 #[nv x, nv y] (.tuple #[nv z, .bool ok])) (B C : Nat) (hBC : B ≠ C) (X : World) (h : SB [(B, 2), (C, 1)] X X) :
    Calls Tryd.prog 45 #[nv x, nv y, .pointer (some ⟨B, 0, none⟩), .pointer (some ⟨C, 0, none⟩)] X fun e w' => e = .returned (.tuple #[]) ∧ SB [(B, 2), (C, 1)] X w' ∧ At2 w' B (lo z) (hi z) ∧ w'.cell? ⟨C, 0, none⟩ = some (.bool ok) := by
  have CC := mkHid C0
  unfold nv at *
  generalize lo z = l3 at *
  generalize hi z = k3 at *
  generalize lo x = l1 at *
  generalize hi x = k1 at *
  generalize lo y = l2 at *
  generalize hi y = k2 at *
  have HS := mkHid ((h.alloc (.cells #[.int .u64 (l1 : Int), .string k1] 24)).alloc (.cells #[.int .u64 (l2 : Int), .string k2] 24))
  clear h C0
  go_enter Tryd.func45, Tryd.ntmps45
  go_wp2_with (go_at_call 46; refine (CC.out _ HS.out.tabs HS.out.six').mono ?_; rintro e w2 ⟨rfl, hb⟩; have HS2 := mkHid (HS.out.next hb); clear hb; obtain ⟨v0, v1, ⟨r0, r1⟩, f0, f1⟩ := (HS2.out.kb _ (.head _)).facts2; obtain ⟨v2, r2, f2⟩ := (HS2.out.kb _ (.tail _ (.head _))).facts1; (try dsimp only at r0 r1 f0 f1 r2 f2))
  go_end0
  refine ⟨rfl, HS2.out.store21 _ _ _, ?_, ?_⟩
  · have := (HS2.out.kb _ (.head _)).at2 l3 k3
    have e : ((((w2.setCell ⟨B, 0, none⟩ (.int .u64 (l3 : Int))).setCell ⟨B, 1, none⟩ (.string k3)).setCell ⟨C, 0, none⟩ (.bool ok)).heap[B]?) = ((w2.setCell ⟨B, 0, none⟩ (.int .u64 (l3 : Int))).setCell ⟨B, 1, none⟩ (.string k3)).heap[B]? := Below.heap_setCell _ _ _ _ hBC
    exact ⟨(World.cell?_of_block (a := ⟨B, 0, none⟩) e).trans this.1, (World.cell?_of_block (a := ⟨B, 1, none⟩) e).trans this.2.1, (World.frozen?_of_block (a := ⟨B, 0, none⟩) e).trans this.2.2.1, (World.frozen?_of_block (a := ⟨B, 1, none⟩) e).trans this.2.2.2⟩
  · obtain ⟨cc, e, h1, h2⟩ := ((HS2.out.kb _ (.tail _ (.head _))).set2 B (.int .u64 (l3 : Int)) (.string k3))
    have h2 : cc.size = 1 := h2
    have h1 : ((w2.setCell ⟨B, 0, none⟩ (.int .u64 (l3 : Int))).setCell ⟨B, 1, none⟩ (.string k3)).heap[C]? = some (.cells cc e (0, 0)) := h1
    generalize (w2.setCell ⟨B, 0, none⟩ (.int .u64 (l3 : Int))).setCell ⟨B, 1, none⟩ (.string k3) = wz at *
    simp [World.cell?, World.setCell, Array.getElem?_modify, h1, h2]

set_option maxRecDepth 100000 in
set_option maxHeartbeats 8000000 in
theorem overOne_g (F : Nat) (lb : Array Value) (eg : ∀ args w, (callFunc F args).run Tryd.prog w = .ok (.enter F args) w) (p1 q1 p2 q2 g : Nat) (bs : List (Nat × Nat)) (R : World → Prop) (W : World) (h : SB bs W W)
    (n1 : Sm p1) (n2 : Sm q1) (n3 : Sm p2) (n4 : Sm q2) (z1 : 0 < q1) (z2 : 0 < q2) (g0 : g ≠ 0)
    (hF : ∀ X, SB bs W X → Calls Tryd.prog F (#[nv (p1 * (q2 / g)), nv (p2 * (q1 / g))] ++ lb) X fun e w' => e = .returned (.tuple #[]) ∧ SB bs X w' ∧ R w') :
    Calls Tryd.prog 40 #[rv p1 q1, rv p2 q2, nv g, .func (.func F) #[] lb] W fun e w' => e = .returned (.tuple #[]) ∧ SB bs W w' ∧ R w' := by
  have D1 := mkHid (den_g p1 q1 z1)
  have D2 := mkHid (den_g p2 q2 z2)
  have Q1 := mkHid (quotient_g q1 g n2 g0)
  have Q2 := mkHid (quotient_g q2 g n4 g0)
  have M1 := mkHid (mul_g p1 (q2 / g) n1 (sm_le (Nat.div_le_self _ _) n4))
  have M2 := mkHid (mul_g p2 (q1 / g) n3 (sm_le (Nat.div_le_self _ _) n2))
  have HF := mkHid hF
  unfold rv at *
  unfold nv at *
  clear n1 n2 n3 n4 z1 z2 g0 hF
  generalize lo (p1 * (q2 / g)) = lm1 at *
  generalize hi (p1 * (q2 / g)) = km1 at *
  generalize lo (p2 * (q1 / g)) = lm2 at *
  generalize hi (p2 * (q1 / g)) = km2 at *
  generalize lo (q1 / g) = lq1g at *
  generalize hi (q1 / g) = kq1g at *
  generalize lo (q2 / g) = lq2g at *
  generalize hi (q2 / g) = kq2g at *
  generalize lo (dz q1) = lz1 at *
  generalize hi (dz q1) = kz1 at *
  generalize lo (dz q2) = lz2 at *
  generalize hi (dz q2) = kz2 at *
  generalize lo (p1) = lp1 at *
  generalize hi (p1) = kp1 at *
  generalize lo (p2) = lp2 at *
  generalize hi (p2) = kp2 at *
  generalize lo (q1) = lq1 at *
  generalize hi (q1) = kq1 at *
  generalize lo (q2) = lq2 at *
  generalize hi (q2) = kq2 at *
  generalize lo (g) = lg at *
  generalize hi (g) = kg at *
  have HS := mkHid (((h.alloc (.cells #[.int .u64 (lp1 : Int), .string kp1, .int .u64 (lz1 : Int), .string kz1] 26)).alloc (.cells #[.int .u64 (lp2 : Int), .string kp2, .int .u64 (lz2 : Int), .string kz2] 26)).alloc (.cells #[.int .u64 (lg : Int), .string kg] 24)).drew
  have H0 := mkHid (((At4.new W W.heap.size lp1 kp1 lz1 kz1 rfl).alloc (.cells #[.int .u64 (lp2 : Int), .string kp2, .int .u64 (lz2 : Int), .string kz2] 26)).alloc (.cells #[.int .u64 (lg : Int), .string kg] 24)).drew
  have H1 := mkHid ((At4.new (W.alloc (.cells #[.int .u64 (lp1 : Int), .string kp1, .int .u64 (lz1 : Int), .string kz1] 26)) (W.heap.size + 1) lp2 kp2 lz2 kz2 (by simp)).alloc (.cells #[.int .u64 (lg : Int), .string kg] 24)).drew
  have H2 := mkHid (At2.new ((W.alloc (.cells #[.int .u64 (lp1 : Int), .string kp1, .int .u64 (lz1 : Int), .string kz1] 26)).alloc (.cells #[.int .u64 (lp2 : Int), .string kp2, .int .u64 (lz2 : Int), .string kz2] 26)) (W.heap.size + 1 + 1) lg kg (by simp)).drew
  obtain ⟨⟨a0, a1, a2, a3⟩, -⟩ := H0.out
  obtain ⟨⟨b0, b1, b2, b3⟩, -⟩ := H1.out
  obtain ⟨c0, c1, -, -⟩ := H2.out
  have hs0 := HS.out
  clear h
  go_enter Tryd.func40, Tryd.ntmps40
  go_upto_region 1 with (fail)
  go_region_held3 (fun X => SB bs W X ∧ X.cell? ⟨W.heap.size, 0, none⟩ = some (.int .u64 (lp1 : Int)) ∧ X.cell? ⟨W.heap.size, 1, none⟩ = some (.string kp1) ∧ X.cell? ⟨W.heap.size, 2, none⟩ = some (.int .u64 (lz1 : Int)) ∧ X.cell? ⟨W.heap.size, 3, none⟩ = some (.string kz1) ∧ X.cell? ⟨W.heap.size + 1, 0, none⟩ = some (.int .u64 (lp2 : Int)) ∧ X.cell? ⟨W.heap.size + 1, 1, none⟩ = some (.string kp2) ∧ X.cell? ⟨W.heap.size + 1, 2, none⟩ = some (.int .u64 (lz2 : Int)) ∧ X.cell? ⟨W.heap.size + 1, 3, none⟩ = some (.string kz2) ∧ X.cell? ⟨W.heap.size + 1 + 1, 0, none⟩ = some (.int .u64 (lg : Int)) ∧ X.cell? ⟨W.heap.size + 1 + 1, 1, none⟩ = some (.string kg))
    (first
      | (with_reducible exact ⟨hS.1.next hb, St.cell hb hS.2.1, St.cell hb hS.2.2.1, St.cell hb hS.2.2.2.1, St.cell hb hS.2.2.2.2.1, St.cell hb hS.2.2.2.2.2.1, St.cell hb hS.2.2.2.2.2.2.1, St.cell hb hS.2.2.2.2.2.2.2.1, St.cell hb hS.2.2.2.2.2.2.2.2.1, St.cell hb hS.2.2.2.2.2.2.2.2.2.1, St.cell hb hS.2.2.2.2.2.2.2.2.2.2⟩)
      | exact ⟨hs0, a0, a1, a2, a3, b0, b1, b2, b3, c0, c1⟩
      | (exact ⟨hS.1.trans hq, hS.1.cell hq (by omega) hS.2.1, hS.1.cell hq (by omega) hS.2.2.1, hS.1.cell hq (by omega) hS.2.2.2.1, hS.1.cell hq (by omega) hS.2.2.2.2.1, hS.1.cell hq (by omega) hS.2.2.2.2.2.1, hS.1.cell hq (by omega) hS.2.2.2.2.2.2.1, hS.1.cell hq (by omega) hS.2.2.2.2.2.2.2.1, hS.1.cell hq (by omega) hS.2.2.2.2.2.2.2.2.1, hS.1.cell hq (by omega) hS.2.2.2.2.2.2.2.2.2.1, hS.1.cell hq (by omega) hS.2.2.2.2.2.2.2.2.2.2⟩))
    (first
      | (go_at_call 28; have hS : SB bs W _ ∧ _ := (by assumption); (with_reducible refine (D1.out _ hS.1.tabs hS.1.six').mono ?_); rintro e w6 ⟨rfl, hb⟩)
      | (go_at_call 28; have hS : SB bs W _ ∧ _ := (by assumption); (with_reducible refine (D2.out _ hS.1.tabs hS.1.six').mono ?_); rintro e w6 ⟨rfl, hb⟩)
      | (go_at_call 31; have hS : SB bs W _ ∧ _ := (by assumption); (with_reducible refine (Q1.out _ hS.1.tabs hS.1.six').mono ?_); rintro e w6 ⟨rfl, hb⟩)
      | (go_at_call 31; have hS : SB bs W _ ∧ _ := (by assumption); (with_reducible refine (Q2.out _ hS.1.tabs hS.1.six').mono ?_); rintro e w6 ⟨rfl, hb⟩)
      | (go_at_call 44; have hS : SB bs W _ ∧ _ := (by assumption); (with_reducible refine (M1.out _ hS.1.tabs hS.1.six').mono ?_); rintro e w6 ⟨rfl, hb⟩)
      | (go_at_call 44; have hS : SB bs W _ ∧ _ := (by assumption); (with_reducible refine (M2.out _ hS.1.tabs hS.1.six').mono ?_); rintro e w6 ⟨rfl, hb⟩)
      | (go_at_fn F; have hS : SB bs W _ ∧ _ := (by assumption); refine (HF.out _ hS.1).mono ?_; rintro e w6 ⟨rfl, hq, hr⟩))
  have hT : SB bs W _ ∧ _ := (by assumption)
  have HT := mkHid hT.1
  have HR := mkHid hr
  clear hT hr
  go_wp2_with fail
  go_end0
  exact ⟨rfl, HT.out, HR.out⟩
end Go.Proofs.YtflcdpolfimggaaDoor
namespace Go.Proofs.YtflcdpolfimggaaDoor
open Go.RowKit Q SD

theorem SB.here {bs : List (Nat × Nat)} {W X : World} (h : SB bs W X) : SB bs X X :=
  SB.refl h.tabs h.six' fun p hp => ⟨h.kb p hp, (h.hi p hp).1⟩
theorem SB.old {bs : List (Nat × Nat)} {W X : World} (h : SB bs W X) {b o : Nat} {v : Value} (hn : ∀ n, (b, n) ∉ bs) (hc : W.cell? ⟨b, o, none⟩ = some v) : X.cell? ⟨b, o, none⟩ = some v :=
  (World.cell?_of_block (a := ⟨b, o, none⟩) (h.block b (World.block_lt_of_cell? W _ hc) hn)).trans hc
theorem SB.oldBx {bs : List (Nat × Nat)} {W X : World} (h : SB bs W X) {b k : Nat} (hn : ∀ n, (b, n) ∉ bs) (hc : Bxn W b k) : Bxn X b k := hc.same (h.block b hc.lt hn)
theorem St.past {w W X : World} {bs : List (Nat × Nat)} (h : St w W) (k : SB bs W X) (hb : ∀ p ∈ bs, w.heap.size ≤ p.1) : St w X :=
  ⟨⟨k.os.trans h.below.os, k.tape.trans h.below.tape, k.output.trans h.below.output, Nat.le_trans h.below.size k.size, fun i hi => (k.block i (Nat.lt_of_lt_of_le hi h.below.size) fun n hn => by have := hb _ hn; simp at this; omega).trans (h.below.block i hi)⟩, k.tabs, h.six⟩
theorem not_one {b B n : Nat} (h : b ≠ B) : ∀ m, (b, m) ∉ [(B, n)] := fun m hm => h (by simp at hm; exact hm.1)
theorem not_two {b B C n m : Nat} (h : b ≠ B) (h' : b ≠ C) : ∀ k, (b, k) ∉ [(B, n), (C, m)] := fun k hk => by simp at hk; rcases hk with hk | hk <;> omega
/-- Both parts have at most 400 words. -/
def Kb (p q : Nat) : Prop := p < M.B ^ 400 ∧ q < M.B ^ 400
theorem Kb.num {p q : Nat} (h : Kb p q) : Sm p := sm_pow h.1 (by omega)
theorem Kb.den {p q : Nat} (h : Kb p q) : Sm q := sm_pow h.2 (by omega)
theorem kb_mul {a b : Nat} (h : a < M.B ^ 400) (k : b < M.B ^ 400) : a * b < M.B ^ 800 := by
  obtain ⟨i, hi⟩ : ∃ i : Nat, i = 400 := ⟨_, rfl⟩
  rw [← hi] at h k
  rw [show 800 = i + i by omega]
  exact mul_lt M.B_pos h k
theorem kb_add {a b : Nat} (h : a < M.B ^ 800) (k : b < M.B ^ 800) : a + b < M.B ^ 801 := by
  obtain ⟨e, he⟩ : ∃ e : Nat, e = 800 := ⟨_, rfl⟩
  rw [← he] at h k
  rw [show 801 = e + 1 by omega, Nat.pow_succ]
  have h2 : M.B ^ e * 2 ≤ M.B ^ e * M.B := Nat.mul_le_mul_left _ (by unfold M.B; omega)
  omega
theorem div_kb {a d : Nat} (h : a < M.B ^ 400) : a / d < M.B ^ 400 := Nat.lt_of_le_of_lt (Nat.div_le_self _ _) h

set_option maxRecDepth 100000 in
set_option maxHeartbeats 16000000 in
theorem add_raw (p1 q1 p2 q2 n : Nat) (z1 : 0 < q1) (z2 : 0 < q2) (k1 : Kb p1 q1) (k2 : Kb p2 q2) (hn : n = p1 * (q2 / Nat.gcd q1 q2) + p2 * (q1 / Nat.gcd q1 q2)) :
    Gives 19 #[rv p1 q1, rv p2 q2] (rv (n / Nat.gcd n (Nat.gcd q1 q2)) (q1 / Nat.gcd q1 q2 * (q2 / Nat.gcd n (Nat.gcd q1 q2)))) := by
  intro W ht h6
  have gp : Nat.gcd q1 q2 ≠ 0 := by have := Nat.gcd_pos_of_pos_right q1 z2; omega
  have CG := mkHid (gcd_g q1 q2 k1.den k2.den)
  have D1 := mkHid (den_g p1 q1 z1)
  have D2 := mkHid (den_g p2 q2 z2)
  have eg : ∀ args w, (callFunc 41 args).run Tryd.prog w = .ok (.enter 41 args) w := enters_of Tryd.func41 (by kernel_rfl) rfl
  have CO := mkHid (fun X (h : SB [(W.heap.size + 1 + 1 + 1, 2)] X X) => overOne_g 41 #[.pointer (some ⟨W.heap.size + 1 + 1 + 1, 0, none⟩)] eg p1 q1 p2 q2 (Nat.gcd q1 q2) [(W.heap.size + 1 + 1 + 1, 2)] (fun w' => At2 w' (W.heap.size + 1 + 1 + 1) (lo n) (hi n)) X h k1.num k1.den k2.num k2.den z1 z2 gp (fun Y hY => hn ▸ add1_g _ _ (sm_pow (kb_mul k1.1 (div_kb k2.2)) (by omega)) (sm_pow (kb_mul k2.1 (div_kb k1.2)) (by omega)) _ Y hY.here))
  have CL := mkHid (lowest_g n q1 q2 (Nat.gcd q1 q2) (by rw [hn]; exact sm_pow (kb_add (kb_mul k1.1 (div_kb k2.2)) (kb_mul k2.1 (div_kb k1.2))) (by omega)) k1.den k2.den (sm_le (Nat.gcd_le_left _ z1) k1.den) gp)
  unfold rv at *
  unfold nv at *
  clear hn k1 k2 z1 z2 gp eg
  generalize lo (dz (q1 / Nat.gcd q1 q2 * (q2 / Nat.gcd n (Nat.gcd q1 q2)))) = l9 at *
  generalize hi (dz (q1 / Nat.gcd q1 q2 * (q2 / Nat.gcd n (Nat.gcd q1 q2)))) = k9 at *
  generalize lo (n / Nat.gcd n (Nat.gcd q1 q2)) = l5 at *
  generalize hi (n / Nat.gcd n (Nat.gcd q1 q2)) = k5 at *
  generalize lo (dz q1) = lz1 at *
  generalize hi (dz q1) = kz1 at *
  generalize lo (dz q2) = lz2 at *
  generalize hi (dz q2) = kz2 at *
  generalize lo (Nat.gcd q1 q2) = lg at *
  generalize hi (Nat.gcd q1 q2) = kg at *
  generalize lo (n) = ln at *
  generalize hi (n) = kn at *
  generalize lo (p1) = lp1 at *
  generalize hi (p1) = kp1 at *
  generalize lo (p2) = lp2 at *
  generalize hi (p2) = kp2 at *
  generalize lo (q1) = lq1 at *
  generalize hi (q1) = kq1 at *
  generalize lo (q2) = lq2 at *
  generalize hi (q2) = kq2 at *
  have HS := mkHid (((((St.refl ht h6).alloc (.cells #[.int .u64 (lp1 : Int), .string kp1, .int .u64 (lz1 : Int), .string kz1] 26)).alloc (.cells #[.int .u64 (lp2 : Int), .string kp2, .int .u64 (lz2 : Int), .string kz2] 26)).alloc (.cells #[.int .u64 0, .string ⟨#[]⟩, .int .u64 0, .string ⟨#[]⟩] 26)).alloc (.cells #[.int .u64 0, .string ⟨#[]⟩] 24))
  have H0 := mkHid ((((At4.new W (W.heap.size) lp1 kp1 lz1 kz1 rfl).alloc (.cells #[.int .u64 (lp2 : Int), .string kp2, .int .u64 (lz2 : Int), .string kz2] 26)).alloc (.cells #[.int .u64 0, .string ⟨#[]⟩, .int .u64 0, .string ⟨#[]⟩] 26)).alloc (.cells #[.int .u64 0, .string ⟨#[]⟩] 24))
  have H1 := mkHid (((At4.new (W.alloc (.cells #[.int .u64 (lp1 : Int), .string kp1, .int .u64 (lz1 : Int), .string kz1] 26)) (W.heap.size + 1) lp2 kp2 lz2 kz2 (by simp)).alloc (.cells #[.int .u64 0, .string ⟨#[]⟩, .int .u64 0, .string ⟨#[]⟩] 26)).alloc (.cells #[.int .u64 0, .string ⟨#[]⟩] 24))
  have H2 := mkHid ((Bxn.new ((W.alloc (.cells #[.int .u64 (lp1 : Int), .string kp1, .int .u64 (lz1 : Int), .string kz1] 26)).alloc (.cells #[.int .u64 (lp2 : Int), .string kp2, .int .u64 (lz2 : Int), .string kz2] 26)) (W.heap.size + 1 + 1) #[.int .u64 0, .string ⟨#[]⟩, .int .u64 0, .string ⟨#[]⟩] 26 (by simp)).alloc (.cells #[.int .u64 0, .string ⟨#[]⟩] 24))
  have H3 := mkHid (Bxn.new (((W.alloc (.cells #[.int .u64 (lp1 : Int), .string kp1, .int .u64 (lz1 : Int), .string kz1] 26)).alloc (.cells #[.int .u64 (lp2 : Int), .string kp2, .int .u64 (lz2 : Int), .string kz2] 26)).alloc (.cells #[.int .u64 0, .string ⟨#[]⟩, .int .u64 0, .string ⟨#[]⟩] 26)) (W.heap.size + 1 + 1 + 1) #[.int .u64 0, .string ⟨#[]⟩] 24 (by simp))
  have hs0 := HS.out
  obtain ⟨⟨a0, a1, a2, a3⟩, -⟩ := H0.out
  obtain ⟨⟨b0, b1, b2, b3⟩, -⟩ := H1.out
  have x2 := H2.out
  have x3 := H3.out

  clear ht H0 H1 H2 H3 HS
  go_enter Tryd.func19, Tryd.ntmps19
  go_upto_region 2 with (fail)
  go_cut [6] (fun v wx => ∃ j : Nat, v = .pointer (some ⟨j, 0, none⟩) ∧ W.heap.size + 4 ≤ j ∧ Hid (At2 wx j lg kg ∧ St W wx ∧ wx.cell? ⟨W.heap.size, 0, none⟩ = some (.int .u64 (lp1 : Int)) ∧ wx.cell? ⟨W.heap.size, 1, none⟩ = some (.string kp1) ∧ wx.cell? ⟨W.heap.size, 2, none⟩ = some (.int .u64 (lz1 : Int)) ∧ wx.cell? ⟨W.heap.size, 3, none⟩ = some (.string kz1) ∧ wx.cell? ⟨W.heap.size + 1, 0, none⟩ = some (.int .u64 (lp2 : Int)) ∧ wx.cell? ⟨W.heap.size + 1, 1, none⟩ = some (.string kp2) ∧ wx.cell? ⟨W.heap.size + 1, 2, none⟩ = some (.int .u64 (lz2 : Int)) ∧ wx.cell? ⟨W.heap.size + 1, 3, none⟩ = some (.string kz2) ∧ Bxn wx (W.heap.size + 1 + 1) 4 ∧ Bxn wx (W.heap.size + 1 + 1 + 1) 2))
  case first =>
    go_region_held3 (fun X => St W X ∧ X.cell? ⟨W.heap.size, 0, none⟩ = some (.int .u64 (lp1 : Int)) ∧ X.cell? ⟨W.heap.size, 1, none⟩ = some (.string kp1) ∧ X.cell? ⟨W.heap.size, 2, none⟩ = some (.int .u64 (lz1 : Int)) ∧ X.cell? ⟨W.heap.size, 3, none⟩ = some (.string kz1) ∧ X.cell? ⟨W.heap.size + 1, 0, none⟩ = some (.int .u64 (lp2 : Int)) ∧ X.cell? ⟨W.heap.size + 1, 1, none⟩ = some (.string kp2) ∧ X.cell? ⟨W.heap.size + 1, 2, none⟩ = some (.int .u64 (lz2 : Int)) ∧ X.cell? ⟨W.heap.size + 1, 3, none⟩ = some (.string kz2) ∧ Bxn X (W.heap.size + 1 + 1) 4 ∧ Bxn X (W.heap.size + 1 + 1 + 1) 2)
      (first
        | (with_reducible exact ⟨hS.1.next hb, St.cell hb hS.2.1, St.cell hb hS.2.2.1, St.cell hb hS.2.2.2.1, St.cell hb hS.2.2.2.2.1, St.cell hb hS.2.2.2.2.2.1, St.cell hb hS.2.2.2.2.2.2.1, St.cell hb hS.2.2.2.2.2.2.2.1, St.cell hb hS.2.2.2.2.2.2.2.2.1, hS.2.2.2.2.2.2.2.2.2.1.grows hb, hS.2.2.2.2.2.2.2.2.2.2.grows hb⟩)
        | (have hT : St W _ ∧ _ := (by assumption); with_reducible exact ⟨(hT.1).alloc _, cellAl (hT.2.1) _, cellAl (hT.2.2.1) _, cellAl (hT.2.2.2.1) _, cellAl (hT.2.2.2.2.1) _, cellAl (hT.2.2.2.2.2.1) _, cellAl (hT.2.2.2.2.2.2.1) _, cellAl (hT.2.2.2.2.2.2.2.1) _, cellAl (hT.2.2.2.2.2.2.2.2.1) _, (hT.2.2.2.2.2.2.2.2.2.1).alloc _, (hT.2.2.2.2.2.2.2.2.2.2).alloc _⟩)
        | (with_reducible exact ⟨(hS.1.next hb).alloc _, cellAl (St.cell hb hS.2.1) _, cellAl (St.cell hb hS.2.2.1) _, cellAl (St.cell hb hS.2.2.2.1) _, cellAl (St.cell hb hS.2.2.2.2.1) _, cellAl (St.cell hb hS.2.2.2.2.2.1) _, cellAl (St.cell hb hS.2.2.2.2.2.2.1) _, cellAl (St.cell hb hS.2.2.2.2.2.2.2.1) _, cellAl (St.cell hb hS.2.2.2.2.2.2.2.2.1) _, (hS.2.2.2.2.2.2.2.2.2.1.grows hb).alloc _, (hS.2.2.2.2.2.2.2.2.2.2.grows hb).alloc _⟩)
        | (have hT : St W _ ∧ _ := (by assumption); exact ⟨(hT.1).set2 (by omega) _ _, cellSet2 (hT.2.1) (by omega) _ _, cellSet2 (hT.2.2.1) (by omega) _ _, cellSet2 (hT.2.2.2.1) (by omega) _ _, cellSet2 (hT.2.2.2.2.1) (by omega) _ _, cellSet2 (hT.2.2.2.2.2.1) (by omega) _ _, cellSet2 (hT.2.2.2.2.2.2.1) (by omega) _ _, cellSet2 (hT.2.2.2.2.2.2.2.1) (by omega) _ _, cellSet2 (hT.2.2.2.2.2.2.2.2.1) (by omega) _ _, (hT.2.2.2.2.2.2.2.2.2.1).set2 _ _ _, (hT.2.2.2.2.2.2.2.2.2.2).set2 _ _ _⟩)
        | exact ⟨hs0.drew, a0, a1, a2, a3, b0, b1, b2, b3, x2, x3⟩
        | exact ⟨(hs0.alloc _).drew, cellAl a0 _, cellAl a1 _, cellAl a2 _, cellAl a3 _, cellAl b0 _, cellAl b1 _, cellAl b2 _, cellAl b3 _, x2.alloc _, x3.alloc _⟩)
      (first
        | (go_at_call 28; have hS : St W _ ∧ _ := (by assumption); (with_reducible refine (D1.out _ hS.1.tabs hS.1.six').mono ?_); rintro e w6 ⟨rfl, hb⟩; (first | (have hz := HZ.out.grows hb; (have HZ := mkHid hz); obtain ⟨z0, z1, z2, z3⟩ := hz) | (have hz := (At2.new _ _ 0 ⟨#[]⟩ rfl).grows hb; (try simp only [World.size_alloc] at hz); (have HZ := mkHid hz); obtain ⟨z0, z1, z2, z3⟩ := hz) | (have hz := (At2.new _ _ 0 ⟨#[]⟩ rfl).drew.grows hb; (try simp only [World.size_alloc] at hz); (have HZ := mkHid hz); obtain ⟨z0, z1, z2, z3⟩ := hz) | skip); have hz6 : W.heap.size + 4 ≤ w6.heap.size := (by have h9 := hb.size; (try simp at h9); (try have h8 := hz6); omega))
        | (go_at_call 28; have hS : St W _ ∧ _ := (by assumption); (with_reducible refine (D2.out _ hS.1.tabs hS.1.six').mono ?_); rintro e w6 ⟨rfl, hb⟩; (first | (have hz := HZ.out.grows hb; (have HZ := mkHid hz); obtain ⟨z0, z1, z2, z3⟩ := hz) | (have hz := (At2.new _ _ 0 ⟨#[]⟩ rfl).grows hb; (try simp only [World.size_alloc] at hz); (have HZ := mkHid hz); obtain ⟨z0, z1, z2, z3⟩ := hz) | (have hz := (At2.new _ _ 0 ⟨#[]⟩ rfl).drew.grows hb; (try simp only [World.size_alloc] at hz); (have HZ := mkHid hz); obtain ⟨z0, z1, z2, z3⟩ := hz) | skip); have hz6 : W.heap.size + 4 ≤ w6.heap.size := (by have h9 := hb.size; (try simp at h9); (try have h8 := hz6); omega))
        | (go_at_call 26; have hS : St W _ ∧ _ := (by assumption); (with_reducible refine (CG.out _ hS.1.tabs hS.1.six').mono ?_); rintro e w6 ⟨rfl, hb⟩; (first | (have hz := HZ.out.grows hb; (have HZ := mkHid hz); obtain ⟨z0, z1, z2, z3⟩ := hz) | (have hz := (At2.new _ _ 0 ⟨#[]⟩ rfl).grows hb; (try simp only [World.size_alloc] at hz); (have HZ := mkHid hz); obtain ⟨z0, z1, z2, z3⟩ := hz) | (have hz := (At2.new _ _ 0 ⟨#[]⟩ rfl).drew.grows hb; (try simp only [World.size_alloc] at hz); (have HZ := mkHid hz); obtain ⟨z0, z1, z2, z3⟩ := hz) | skip); have hz6 : W.heap.size + 4 ≤ w6.heap.size := (by have h9 := hb.size; (try simp at h9); (try have h8 := hz6); omega)))
    all_goals
      have hT : St W _ ∧ _ := (by assumption)
      have HT := mkHid hT
      clear hT
      go_wp2_with fail
      go_meet
      refine ⟨_, rfl, (by first | omega | (simp; omega) | simp), mkHid ⟨?_, HT⟩⟩
      first
        | (with_reducible exact At2.new _ _ lg kg (by simp))
        | (with_reducible exact HZ.out.set lg kg)
        | (with_reducible exact (At2.new _ _ 0 ⟨#[]⟩ rfl).set lg kg)
  case rest =>
    obtain ⟨j, rfl, hj, H⟩ := hcut
    obtain ⟨⟨g0, g1, -, -⟩, hs1, a0, a1, a2, a3, b0, b1, b2, b3, x2, x3⟩ := H.out
    clear H
    have HX2 := mkHid x2
    have HS1 := mkHid hs1
    have hsb := SB.refl (bs := [(W.heap.size + 1 + 1 + 1, 2)]) hs1.tabs hs1.six' (by intro p hp; simp at hp; subst hp; exact ⟨x3, by omega⟩)
    have HSB := mkHid hsb
    clear hsb hs1 x2 x3
    go_upto_region 4 with (go_at_call 40; refine (CO.out _ HSB.out).mono ?_; rintro e w3 ⟨rfl, hq, hr⟩; have HQ := mkHid hq; have HR := mkHid hr; clear hq hr)
    replace a0 := HQ.out.old (not_one (by omega)) a0
    replace a1 := HQ.out.old (not_one (by omega)) a1
    replace a2 := HQ.out.old (not_one (by omega)) a2
    replace a3 := HQ.out.old (not_one (by omega)) a3
    replace b0 := HQ.out.old (not_one (by omega)) b0
    replace b1 := HQ.out.old (not_one (by omega)) b1
    replace b2 := HQ.out.old (not_one (by omega)) b2
    replace b3 := HQ.out.old (not_one (by omega)) b3
    replace g0 := HQ.out.old (not_one (by omega)) g0
    replace g1 := HQ.out.old (not_one (by omega)) g1
    have x2 := HQ.out.oldBx (not_one (by omega)) HX2.out
    have hs1 := (HS1.out.past HQ.out (by intro p hp; simp at hp; subst hp; show W.heap.size ≤ _; omega)).drew
    obtain ⟨n0, n1, -, -⟩ := HR.out
    clear HR HQ HX2 HS1 HSB CO
    go_region_held3 (fun X => St W X ∧ X.cell? ⟨W.heap.size, 0, none⟩ = some (.int .u64 (lp1 : Int)) ∧ X.cell? ⟨W.heap.size, 1, none⟩ = some (.string kp1) ∧ X.cell? ⟨W.heap.size, 2, none⟩ = some (.int .u64 (lz1 : Int)) ∧ X.cell? ⟨W.heap.size, 3, none⟩ = some (.string kz1) ∧ X.cell? ⟨W.heap.size + 1, 0, none⟩ = some (.int .u64 (lp2 : Int)) ∧ X.cell? ⟨W.heap.size + 1, 1, none⟩ = some (.string kp2) ∧ X.cell? ⟨W.heap.size + 1, 2, none⟩ = some (.int .u64 (lz2 : Int)) ∧ X.cell? ⟨W.heap.size + 1, 3, none⟩ = some (.string kz2) ∧ X.cell? ⟨W.heap.size + 1 + 1 + 1, 0, none⟩ = some (.int .u64 (ln : Int)) ∧ X.cell? ⟨W.heap.size + 1 + 1 + 1, 1, none⟩ = some (.string kn) ∧ X.cell? ⟨j, 0, none⟩ = some (.int .u64 (lg : Int)) ∧ X.cell? ⟨j, 1, none⟩ = some (.string kg) ∧ Bxn X (W.heap.size + 1 + 1) 4)
      (first
        | (with_reducible exact ⟨hS.1.next hb, St.cell hb hS.2.1, St.cell hb hS.2.2.1, St.cell hb hS.2.2.2.1, St.cell hb hS.2.2.2.2.1, St.cell hb hS.2.2.2.2.2.1, St.cell hb hS.2.2.2.2.2.2.1, St.cell hb hS.2.2.2.2.2.2.2.1, St.cell hb hS.2.2.2.2.2.2.2.2.1, St.cell hb hS.2.2.2.2.2.2.2.2.2.1, St.cell hb hS.2.2.2.2.2.2.2.2.2.2.1, St.cell hb hS.2.2.2.2.2.2.2.2.2.2.2.1, St.cell hb hS.2.2.2.2.2.2.2.2.2.2.2.2.1, hS.2.2.2.2.2.2.2.2.2.2.2.2.2.grows hb⟩)
        | exact ⟨hs1, a0, a1, a2, a3, b0, b1, b2, b3, n0, n1, g0, g1, x2⟩
        | (have hP : St W w6 ∧ _ := (by assumption); exact ⟨(hP.1).set4 (by omega) _ _ _ _, set4_other (hP.2.1) (by omega) _ _ _ _, set4_other (hP.2.2.1) (by omega) _ _ _ _, set4_other (hP.2.2.2.1) (by omega) _ _ _ _, set4_other (hP.2.2.2.2.1) (by omega) _ _ _ _, set4_other (hP.2.2.2.2.2.1) (by omega) _ _ _ _, set4_other (hP.2.2.2.2.2.2.1) (by omega) _ _ _ _, set4_other (hP.2.2.2.2.2.2.2.1) (by omega) _ _ _ _, set4_other (hP.2.2.2.2.2.2.2.2.1) (by omega) _ _ _ _, set4_other (hP.2.2.2.2.2.2.2.2.2.1) (by omega) _ _ _ _, set4_other (hP.2.2.2.2.2.2.2.2.2.2.1) (by omega) _ _ _ _, set4_other (hP.2.2.2.2.2.2.2.2.2.2.2.1) (by omega) _ _ _ _, set4_other (hP.2.2.2.2.2.2.2.2.2.2.2.2.1) (by omega) _ _ _ _, (hP.2.2.2.2.2.2.2.2.2.2.2.2.2).set4 _ _ _ _ _⟩))
      (first
        | (go_at_call 28; have hS : St W _ ∧ _ := (by assumption); (with_reducible refine (D1.out _ hS.1.tabs hS.1.six').mono ?_); rintro e w6 ⟨rfl, hb⟩)
        | (go_at_call 28; have hS : St W _ ∧ _ := (by assumption); (with_reducible refine (D2.out _ hS.1.tabs hS.1.six').mono ?_); rintro e w6 ⟨rfl, hb⟩)
        | (go_at_call 43; have hS : St W _ ∧ _ := (by assumption); (with_reducible refine (CL.out _ hS.1.tabs hS.1.six').mono ?_); rintro e w6 ⟨rfl, hb⟩; obtain ⟨v0, v1, v2, v3, ⟨r0, r1, r2, r3⟩, f0, f1, f2, f3⟩ := (hS.2.2.2.2.2.2.2.2.2.2.2.2.2.grows hb).facts4))
    have hT : St W _ ∧ _ := (by assumption)
    have HT := mkHid hT.1.below
    clear hT
    go_wp2_with fail
    refine bodyPost_ret (v := .agg #[.int .u64 (l5 : Int), .string k5, .int .u64 (l9 : Int), .string k9]) (by simp [results, Tryd.results19, go_sem, r0, r1, r2, r3]) rfl ⟨rfl, ?_⟩
    exact HT.out
end Go.Proofs.YtflcdpolfimggaaDoor
