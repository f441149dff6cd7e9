/- VarsKnown: the examples of the chapter. -/
import Derived.Test.YtpfappojeneecaaDoorVOne
namespace Go.Proofs.YtpfappojeneecaaDoor
open Go.RowKit VM

theorem k13 : sv (ofL [1, 3]) = .agg #[.int .u64 5, .int .u64 0] := by kernel_rfl
theorem k1 : sv (ofL [1]) = .agg #[.int .u64 1, .int .u64 0] := by kernel_rfl
theorem k65 : sv (ofL [65]) = .agg #[.int .u64 0, .int .u64 1] := by kernel_rfl
theorem kM : sv (all (-1)) = .agg #[.int .u64 0, .int .u64 0] := by kernel_rfl
theorem kW : sv (without (ofL [1, 3]) 1) = .agg #[.int .u64 4, .int .u64 0] := by kernel_rfl
theorem k3 : sv (ofL [3]) = .agg #[.int .u64 4, .int .u64 0] := by kernel_rfl
theorem kV : sv (withV (ofL [1]) 129) = .agg #[.int .u64 1, .int .u64 0] := by kernel_rfl
theorem k12 : sv (ofL [1, 2]) = .agg #[.int .u64 3, .int .u64 0] := by kernel_rfl
theorem k23 : sv (ofL [2, 3]) = .agg #[.int .u64 6, .int .u64 0] := by kernel_rfl
theorem kN : sv (ofL [1, 2] &&& ~~~ofL [2, 3]) = .agg #[.int .u64 1, .int .u64 0] := by kernel_rfl
theorem k128 : sv (ofL [128, 3]) = .agg #[.int .u64 4, .int .u64 9223372036854775808] := by kernel_rfl
theorem kA : sv (all 128) = .agg #[.int .u64 18446744073709551615, .int .u64 18446744073709551615] := by kernel_rfl
theorem kB : sv (all 1000) = .agg #[.int .u64 18446744073709551615, .int .u64 18446744073709551615] := by kernel_rfl
theorem kl : lst (ofL [128, 3]) 128 = [3, 128] := by decide +kernel
theorem kf : firstV 0#128 = 0 := by decide +kernel
theorem kc : card (all 128) = 128 := by decide +kernel
theorem ly1 : less (ofL [1]) (ofL [1, 3]) = true := by decide +kernel
theorem ly2 : less (ofL [1, 3]) (ofL [1, 2]) = true := by decide +kernel
theorem ly3 : less (ofL [1]) (ofL [1]) = false := by decide +kernel
def OfIs (l : List Int) (n : Nat) (v : Value) : Prop := ∀ (W : World) (N : Nat), Ints W (.slice (some ⟨N, 0, none⟩) n n) l →
  Calls Tryd.prog 14 #[.slice (some ⟨N, 0, none⟩) n n] W fun e w' => e = .returned v ∧ Below W.heap.size W w'
theorem of_is (l : List Int) (n : Nat) (v : Value) (hl : l.length ≤ 1000) (hv : sv (ofL l) = v) : OfIs l n v := fun W N h => by
  rw [← hv]; exact of_any _ l W h (by omega)
theorem Ints.now (w : World) (l : List Int) (arr : Array Value) (n : Nat) (h : arr = (l.map (Value.int .i64)).toArray) (hn : n = l.length) : Ints (w.alloc (.cells arr 3)) (.slice (some ⟨w.heap.size, 0, none⟩) n n) l := by
  subst h hn
  exact Ints.new w l 3 _ rfl
theorem Ints.dr {w : World} {v : Value} {l : List Int} (h : Ints w v l) : Ints w.drew v l := h
theorem OfIs.call {l : List Int} {n : Nat} {v : Value} (h : OfIs l n v) {W : World} {N : Nat} (hI : Ints W (.slice (some ⟨N, 0, none⟩) n n) l) :
    Calls Tryd.prog 14 #[.slice (some ⟨N, 0, none⟩) n n] W fun e w' => e = .returned v ∧ Below W.heap.size W w' := h W N hI
theorem n13 (w : World) : Ints (w.alloc (.cells #[.int .i64 1, .int .i64 3] 3)) (.slice (some ⟨w.heap.size, 0, none⟩) 2 2) [1, 3] := Ints.now w [1, 3] _ _ rfl rfl
theorem n13e (w : World) (N : Nat) (h : w.heap.size = N) : Ints (w.alloc (.cells #[.int .i64 1, .int .i64 3] 3)) (.slice (some ⟨N, 0, none⟩) 2 2) [1, 3] := by subst h; exact n13 w
theorem n1 (w : World) : Ints (w.alloc (.cells #[.int .i64 1] 3)) (.slice (some ⟨w.heap.size, 0, none⟩) 1 1) [1] := Ints.now w [1] _ _ rfl rfl
theorem n1e (w : World) (N : Nat) (h : w.heap.size = N) : Ints (w.alloc (.cells #[.int .i64 1] 3)) (.slice (some ⟨N, 0, none⟩) 1 1) [1] := by subst h; exact n1 w
theorem n65 (w : World) : Ints (w.alloc (.cells #[.int .i64 65] 3)) (.slice (some ⟨w.heap.size, 0, none⟩) 1 1) [65] := Ints.now w [65] _ _ rfl rfl
theorem n65e (w : World) (N : Nat) (h : w.heap.size = N) : Ints (w.alloc (.cells #[.int .i64 65] 3)) (.slice (some ⟨N, 0, none⟩) 1 1) [65] := by subst h; exact n65 w
theorem n3 (w : World) : Ints (w.alloc (.cells #[.int .i64 3] 3)) (.slice (some ⟨w.heap.size, 0, none⟩) 1 1) [3] := Ints.now w [3] _ _ rfl rfl
theorem n3e (w : World) (N : Nat) (h : w.heap.size = N) : Ints (w.alloc (.cells #[.int .i64 3] 3)) (.slice (some ⟨N, 0, none⟩) 1 1) [3] := by subst h; exact n3 w
theorem n12 (w : World) : Ints (w.alloc (.cells #[.int .i64 1, .int .i64 2] 3)) (.slice (some ⟨w.heap.size, 0, none⟩) 2 2) [1, 2] := Ints.now w [1, 2] _ _ rfl rfl
theorem n12e (w : World) (N : Nat) (h : w.heap.size = N) : Ints (w.alloc (.cells #[.int .i64 1, .int .i64 2] 3)) (.slice (some ⟨N, 0, none⟩) 2 2) [1, 2] := by subst h; exact n12 w
theorem n23 (w : World) : Ints (w.alloc (.cells #[.int .i64 2, .int .i64 3] 3)) (.slice (some ⟨w.heap.size, 0, none⟩) 2 2) [2, 3] := Ints.now w [2, 3] _ _ rfl rfl
theorem n23e (w : World) (N : Nat) (h : w.heap.size = N) : Ints (w.alloc (.cells #[.int .i64 2, .int .i64 3] 3)) (.slice (some ⟨N, 0, none⟩) 2 2) [2, 3] := by subst h; exact n23 w
theorem n128 (w : World) : Ints (w.alloc (.cells #[.int .i64 128, .int .i64 3] 3)) (.slice (some ⟨w.heap.size, 0, none⟩) 2 2) [128, 3] := Ints.now w [128, 3] _ _ rfl rfl
theorem n128e (w : World) (N : Nat) (h : w.heap.size = N) : Ints (w.alloc (.cells #[.int .i64 128, .int .i64 3] 3)) (.slice (some ⟨N, 0, none⟩) 2 2) [128, 3] := by subst h; exact n128 w

set_option maxRecDepth 100000 in
set_option maxHeartbeats 8000000 in
theorem known_any (w : World) (ht : Tab w) :
    Calls Tryd.prog 12 #[] w fun e w' => e = .returned (.bool true) ∧ Below w.heap.size w w' := by
  have C13 := mkHid (of_is [1, 3] 2 _ (by decide) k13)
  have C1 := mkHid (of_is [1] 1 _ (by decide) k1)
  have C65 := mkHid (of_is [65] 1 _ (by decide) k65)
  have C3 := mkHid (of_is [3] 1 _ (by decide) k3)
  have C12 := mkHid (of_is [1, 2] 2 _ (by decide) k12)
  have C23 := mkHid (of_is [2, 3] 2 _ (by decide) k23)
  have C128 := mkHid (of_is [128, 3] 2 _ (by decide) k128)
  have AM := fun W => all_any (-1) W (by omega) (by omega)
  rw [kM] at AM
  replace AM := mkHid AM
  have W1 := fun W => without_any (ofL [1, 3]) 1 W
  rw [k13, kW] at W1
  replace W1 := mkHid W1
  have WV := fun W => with_any (ofL [1]) 129 W
  rw [k1, kV] at WV
  replace WV := mkHid WV
  have MN := fun W => minus_any (ofL [1, 2]) (ofL [2, 3]) W
  rw [k12, k23, kN] at MN
  replace MN := mkHid MN
  have LS := fun W hT => listV_any (ofL [128, 3]) W hT
  rw [k128, kl] at LS
  replace LS := mkHid LS
  have FE := fun W hT => first_any 0#128 W hT
  rw [sv_empty, kf] at FE
  replace FE := mkHid FE
  have A1 := fun W => all_any 128 W (by omega) (by omega)
  rw [kA] at A1
  replace A1 := mkHid A1
  have LN := fun W => len_any (all 128) W
  rw [kA, kc] at LN
  replace LN := mkHid LN
  have A2 := fun W => all_any 1000 W (by omega) (by omega)
  rw [kB] at A2
  replace A2 := mkHid A2
  have L1 := fun W => less_any (ofL [1]) (ofL [1, 3]) W
  rw [k1, k13, ly1] at L1
  replace L1 := mkHid L1
  have L2 := fun W => less_any (ofL [1, 3]) (ofL [1, 2]) W
  rw [k13, k12, ly2] at L2
  replace L2 := mkHid L2
  have L3 := fun W => less_any (ofL [1]) (ofL [1]) W
  rw [k1, ly3] at L3
  replace L3 := mkHid L3
  have HT := mkHid ht
  have E := eq_words
  have hg64 := ht.lt
  clear ht
  go_enter Tryd.func12, Tryd.ntmps12
  go_wp2_with (first
    | (go_at_call 14; ((with_reducible refine (C13.out.call (n13e _ _ (by simp))).mono ?_); rintro e w1 ⟨rfl, hw⟩; have HB1 := mkHid (bnx (bal (Below.refl _ _) _) hw); clear hw))
    | (go_at_call 14; ((with_reducible refine (C1.out.call (n1e _ _ (by simp))).mono ?_); rintro e w2 ⟨rfl, hw⟩; have HB2 := mkHid (bnx (bal HB1.out _) hw); clear hw)))
  have hT0 := ((show On w w2 [] from ⟨HB2.out, HT.out.below HB2.out, fun _ h => by cases h⟩).box 5 0 26 w2.heap.size rfl).box 1 0 26 (w2.heap.size + 1) (by simp)
  generalize hb1 : w2.heap.size = b1 at hT0 ⊢
  generalize (w2.alloc (.cells #[.int .u64 5, .int .u64 0] 26)).alloc (.cells #[.int .u64 1, .int .u64 0] 26) = W0 at hT0 ⊢
  obtain ⟨q0, q1, -, -⟩ := hT0.h1
  obtain ⟨p0, p1, -, -⟩ := hT0.h2
  clear hb1 HB1 HB2
  go_cut [38] (fun v38 wx => v38 = .bool false ∧ Hid (On w wx [(b1 + 1, 1, 0), (b1, 5, 0)]))
  case first =>
    go_region_held3 (fun W => On w W [(b1 + 1, 1, 0), (b1, 5, 0)] ∧ W.cell? ⟨b1 + 1, 0, none⟩ = some (.int .u64 1) ∧ W.cell? ⟨b1 + 1, 1, none⟩ = some (.int .u64 0) ∧ W.cell? ⟨b1, 0, none⟩ = some (.int .u64 5) ∧ W.cell? ⟨b1, 1, none⟩ = some (.int .u64 0))
      (first
        | (with_reducible exact ⟨hS.1.next hw, cell_grows hw hS.2.1, cell_grows hw hS.2.2.1, cell_grows hw hS.2.2.2.1, cell_grows hw hS.2.2.2.2⟩)
        | (have hT : On w _ _ ∧ _ := (by assumption); with_reducible exact ⟨hT.1.alloc _, cell_al hT.2.1 _, cell_al hT.2.2.1 _, cell_al hT.2.2.2.1 _, cell_al hT.2.2.2.2 _⟩)
        | (with_reducible exact ⟨(hS.1.next hw).alloc _, cell_al (cell_grows hw hS.2.1) _, cell_al (cell_grows hw hS.2.2.1) _, cell_al (cell_grows hw hS.2.2.2.1) _, cell_al (cell_grows hw hS.2.2.2.2) _⟩)
        | (with_reducible exact ⟨((hS.1.next hw).alloc _).alloc _, cell_al (cell_al (cell_grows hw hS.2.1) _) _, cell_al (cell_al (cell_grows hw hS.2.2.1) _) _, cell_al (cell_al (cell_grows hw hS.2.2.2.1) _) _, cell_al (cell_al (cell_grows hw hS.2.2.2.2) _) _⟩)
        | exact ⟨hT0.drew, q0, q1, p0, p1⟩
        | exact ⟨(hT0.alloc _).drew, cell_al q0 _, cell_al q1 _, cell_al p0 _, cell_al p1 _⟩
        | exact ⟨((hT0.alloc _).alloc _).drew, cell_al (cell_al q0 _) _, cell_al (cell_al q1 _) _, cell_al (cell_al p0 _) _, cell_al (cell_al p1 _) _⟩)
      (first
        | (go_at_call 14; have hS : On w _ _ ∧ _ := (by assumption); ((with_reducible refine (C65.out.call (n65e _ _ (by simp))).mono ?_); rintro e w6 ⟨rfl, hw⟩))
        | (go_at_call 14; have hS : On w _ _ ∧ _ := (by assumption); ((with_reducible refine (C65.out.call (Ints.dr (n65e _ _ (by simp)))).mono ?_); rintro e w6 ⟨rfl, hw⟩))
        | (go_at_call 17; have hS : On w _ _ ∧ _ := (by assumption); ((with_reducible refine (AM.out _).mono ?_); rintro e w6 ⟨rfl, hw⟩))
        | (go_at_call 23; have hS : On w _ _ ∧ _ := (by assumption); ((with_reducible refine (W1.out _).mono ?_); rintro e w6 ⟨rfl, hw⟩; (first | (have HI3 := mkHid ((n3 _).next hw)) | skip)))
        | (go_at_call 14; have hS : On w _ _ ∧ _ := (by assumption); ((with_reducible refine (C3.out.call (n3e _ _ (by simp))).mono ?_); rintro e w6 ⟨rfl, hw⟩))
        | (go_at_call 14; have hS : On w _ _ ∧ _ := (by assumption); ((with_reducible refine (C3.out.call HI3.out).mono ?_); rintro e w6 ⟨rfl, hw⟩))
        | (go_at_call 21; have hS : On w _ _ ∧ _ := (by assumption); ((with_reducible refine (WV.out _).mono ?_); rintro e w6 ⟨rfl, hw⟩))
        | (go_at_call 14; have hS : On w _ _ ∧ _ := (by assumption); ((with_reducible refine (C12.out.call (n12e _ _ (by simp))).mono ?_); rintro e w6 ⟨rfl, hw⟩; (first | (have HI23 := mkHid (((n23 _).next (bal (Below.refl _ _) _)).next hw)) | skip)))
        | (go_at_call 14; have hS : On w _ _ ∧ _ := (by assumption); ((with_reducible refine (C12.out.call ((n12e _ _ (by simp)).next (bal (Below.refl _ _) _))).mono ?_); rintro e w6 ⟨rfl, hw⟩; (first | (have hn23 := (n23 _).next hw; rw [World.size_alloc] at hn23; have HI23 := mkHid hn23; clear hn23) | skip)))
        | (go_at_call 14; have hS : On w _ _ ∧ _ := (by assumption); ((with_reducible refine (C23.out.call (n23e _ _ (by simp))).mono ?_); rintro e w6 ⟨rfl, hw⟩))
        | (go_at_call 14; have hS : On w _ _ ∧ _ := (by assumption); ((with_reducible refine (C23.out.call HI23.out).mono ?_); rintro e w6 ⟨rfl, hw⟩))
        | (go_at_call 29; have hS : On w _ _ ∧ _ := (by assumption); ((with_reducible refine (MN.out _).mono ?_); rintro e w6 ⟨rfl, hw⟩)))
    all_goals
      have hT : On w _ _ ∧ _ := (by assumption)
      have HT2 := mkHid hT.1
      clear hT
      go_wp2_with fail
      go_meet
      exact ⟨rfl, HT2⟩
  case rest =>
  obtain ⟨rfl, HO⟩ := hcut
  go_wp2_with (first
    | (go_at_call 14; ((with_reducible refine (C128.out.call (n128e _ _ (by simp))).mono ?_); rintro e w6 ⟨rfl, hw⟩; have HO4 := mkHid ((HO.out.alloc _).next hw); clear hw))
    | (go_at_call 35; ((with_reducible refine (LS.out _ HO4.out.tab).mono ?_); rintro e w7 ⟨v1, rfl, hv⟩; have HO7 := mkHid (HO4.out.next hv.out.2); have hI := hv.out.1.ints; clear hv; obtain ⟨b, off, cap, rfl, hc0⟩ := (hI.resolve_left (fun h => by cases h.1)); have hc := hc0 0 3 rfl; have hd := hc0 1 128 rfl; rw [Nat.add_zero] at hc; clear hI hc0; rw [show ([3, 128] : List Int).length = 2 from rfl]))
    | (go_at_call 37; ((with_reducible refine (FE.out _ HO7.out.tab).mono ?_); rintro e w8 ⟨rfl, hw⟩; have HO8 := mkHid (HO7.out.next hw); clear hw))
    | (go_at_call 17; have HX := HO11; ((with_reducible refine (A1.out _).mono ?_); rintro e w12 ⟨rfl, hw⟩; have HO12 := mkHid (HX.out.next hw); clear hw))
    | (go_at_call 17; have HX := HO8; ((with_reducible refine (A1.out _).mono ?_); rintro e w9 ⟨rfl, hw⟩; have HO9 := mkHid (HX.out.next hw); clear hw))
    | (go_at_call 33; ((with_reducible refine (LN.out _).mono ?_); rintro e w10 ⟨rfl, hw⟩; have HO10 := mkHid (HO9.out.next hw); clear hw))
    | (go_at_call 17; ((with_reducible refine (A2.out _).mono ?_); rintro e w11 ⟨rfl, hw⟩; have HO11 := mkHid (HO10.out.next hw); clear hw)))
  have hs0 := HO12.out.drew
  obtain ⟨q2, q3, -, -⟩ := HO12.out.h1
  obtain ⟨p2, p3, -, -⟩ := HO12.out.h2
  clear HO HO4 HO7 HO8 HO9 HO10 HO11 HO12 HX hc hd q0 q1 p0 p1 hT0
  go_region_held3 (fun W => On w W [(b1 + 1, 1, 0), (b1, 5, 0)] ∧ W.cell? ⟨b1 + 1, 0, none⟩ = some (.int .u64 1) ∧ W.cell? ⟨b1 + 1, 1, none⟩ = some (.int .u64 0) ∧ W.cell? ⟨b1, 0, none⟩ = some (.int .u64 5) ∧ W.cell? ⟨b1, 1, none⟩ = some (.int .u64 0))
    (first
      | (with_reducible exact ⟨hS.1.next hw, cell_grows hw hS.2.1, cell_grows hw hS.2.2.1, cell_grows hw hS.2.2.2.1, cell_grows hw hS.2.2.2.2⟩)
      | (have hT : On w _ _ ∧ _ := (by assumption); with_reducible exact ⟨hT.1.alloc _, cell_al hT.2.1 _, cell_al hT.2.2.1 _, cell_al hT.2.2.2.1 _, cell_al hT.2.2.2.2 _⟩)
      | (with_reducible exact ⟨(hS.1.next hw).alloc _, cell_al (cell_grows hw hS.2.1) _, cell_al (cell_grows hw hS.2.2.1) _, cell_al (cell_grows hw hS.2.2.2.1) _, cell_al (cell_grows hw hS.2.2.2.2) _⟩)
      | exact ⟨hs0, q2, q3, p2, p3⟩)
    (first
      | (go_at_call 39; have hS : On w _ _ ∧ _ := (by assumption); ((with_reducible refine (L1.out _).mono ?_); rintro e w6 ⟨rfl, hw⟩))
      | (go_at_call 14; have hS : On w _ _ ∧ _ := (by assumption); ((with_reducible refine (C12.out.call (n12e _ _ (by simp))).mono ?_); rintro e w6 ⟨rfl, hw⟩))
      | (go_at_call 39; have hS : On w _ _ ∧ _ := (by assumption); ((with_reducible refine (L2.out _).mono ?_); rintro e w6 ⟨rfl, hw⟩))
      | (go_at_call 39; have hS : On w _ _ ∧ _ := (by assumption); ((with_reducible refine (L3.out _).mono ?_); rintro e w6 ⟨rfl, hw⟩))
      | (go_at_call 13; have hS : On w _ _ ∧ _ := (by assumption); ((with_reducible refine (works_any _ hS.1.tab).mono ?_); rintro e w6 ⟨rfl, hw⟩)))
  have hT' : On w _ _ ∧ _ := (by assumption)
  have HB := mkHid hT'.1.below
  clear hT'
  go_wp2
  go_ret
  exact ⟨rfl, HB.out⟩
end Go.Proofs.YtpfappojeneecaaDoor
