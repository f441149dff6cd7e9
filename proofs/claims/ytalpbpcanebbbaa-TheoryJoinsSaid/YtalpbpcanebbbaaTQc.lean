/- Contracts of the specification: Normal, Assignment, Term. -/
import Derived.Test.YtalpbpcanebbbaaTQb
import Derived.Deep.RegionHeld3
namespace Go.Proofs.Ytalpbpcanebbbaa
open Go.RowKit VM LM TM

theorem TB.off {w : World} {b b' o : Nat} {n : Int} {v : Value} (h : TB w b n v) (hne : b ≠ b') (u : Value) : TB (w.setCell ⟨b', o, none⟩ u) b n v := by
  unfold TB at h ⊢
  rw [Below.heap_setCell _ _ _ _ hne]; exact h
/-- Three boxes and the list that is being made. -/
structure NS (w W : World) (b3 : Nat) (n : Int) (v v3 : Value) (M : List (List Int)) : Prop where
  t : TB W w.heap.size n v
  r : TB W (w.heap.size + 1) 0 (.slice none 0 0)
  o : TB W b3 n v3
  l : OwnC W w.heap.size v3 M
  b : Below w.heap.size w W
  h : w.heap.size + 1 < b3
theorem NS.next {w W W' : World} {b3 : Nat} {n : Int} {v v3 : Value} {M : List (List Int)} (H : NS w W b3 n v v3 M) (hb : Below W.heap.size W W') : NS w W' b3 n v v3 M :=
  ⟨H.t.grows hb, H.r.grows hb, H.o.grows hb, H.l.below hb, bnx H.b hb, H.h⟩
theorem NS.drew {w W : World} {b3 : Nat} {n : Int} {v v3 : Value} {M : List (List Int)} (H : NS w W b3 n v v3 M) : NS w W.drew b3 n v v3 M := ⟨H.t, H.r, H.o, H.l, H.b.drew, H.h⟩
theorem NS.set {w W : World} {b3 : Nat} {n : Int} {v v3 v4 : Value} {M K : List (List Int)} (H : NS w W b3 n v v3 M) (hl : OwnC W w.heap.size v4 K) : NS w (W.setCell ⟨b3, 1, none⟩ v4) b3 n v v4 K :=
  ⟨H.t.off (by have := H.h; omega) _, H.r.off (by have := H.h; omega) _, H.o.set1 _, hl.setT H.o, bst H.b (by have := H.h; show w.heap.size ≤ b3; omega) _, H.h⟩
theorem NS.done {w W : World} {b3 : Nat} {n m : Int} {v v3 u : Value} {M : List (List Int)} (H : NS w W b3 n v v3 M) : OwnC ((W.setCell ⟨w.heap.size + 1, 0, none⟩ (.int .i64 m)).setCell ⟨w.heap.size + 1, 1, none⟩ u) w.heap.size v3 M ∧ Below w.heap.size w ((W.setCell ⟨w.heap.size + 1, 0, none⟩ (.int .i64 m)).setCell ⟨w.heap.size + 1, 1, none⟩ u) := by
  have h1 := H.l.setT (o := 0) (u' := .int .i64 m) H.r
  have hr : TB (W.setCell ⟨w.heap.size + 1, 0, none⟩ (.int .i64 m)) (w.heap.size + 1) m (.slice none 0 0) := by
    have := H.r
    unfold TB at this ⊢
    simp [World.setCell, Array.getElem?_modify, this]
  exact ⟨h1.setT hr, bst2 H.b _ (by omega) _ _⟩

set_option maxRecDepth 100000 in
set_option maxHeartbeats 8000000 in
theorem rnormal_any (n : Int) (v : Value) (L : List (List Int)) (w : World) (h : Th w v L) :
    Calls Try.prog 21 #[.agg #[.int .i64 n, v]] w fun e w' => ∃ u, e = .returned (.tuple #[.agg #[.int .i64 (if ckT n L = 0 then n else 0), u], .int .i64 (ckT n L)]) ∧
      Hid (OwnC w' w.heap.size u (if ckT n L = 0 then nmK L else []) ∧ Below w.heap.size w w') := by
  have CK := mkHid (fun W (hb : Below w.heap.size w W) => rcheck_any n v L W (h.next hb))
  have HT := mkHid h
  have HB := mkHid (bal (bal (Below.refl _ w) (.cells #[.int .i64 n, v] 24)) (.cells #[.int .i64 0, .slice none 0 0] 24))
  have HA := mkHid ((TB.new w w.heap.size n v rfl).grows (bal (Below.refl _ _) (.cells #[.int .i64 0, .slice none 0 0] 24)))
  have HR := mkHid (TB.new (w.alloc (.cells #[.int .i64 n, v] 24)) (w.heap.size + 1) 0 (.slice none 0 0) (by simp))
  obtain ⟨ao, cap, rfl, hc⟩ := h.cls
  have HC := mkHid hc
  obtain ⟨a0, a1⟩ := HA.out.at
  have hlen := h.len
  clear h hc
  by_cases hk : ckT n L = 0
  · obtain ⟨hn, hL, hcs⟩ := ckT_zero.1 hk
    have HCS := mkHid hcs
    have HL := mkHid hL
    obtain ⟨N, rfl⟩ : ∃ N : Nat, n = (N : Int) := ⟨n.toNat, by omega⟩
    have HN : Hid (N ≤ 128) := mkHid (by omega)
    rw [if_pos hk, if_pos hk, hk]
    rw [hk] at CK
    clear hk hcs hL hn
    go_enter Try.func21, Try.ntmps21
    go_wp2_with (go_at_call 18; refine (CK.out _ HB.out).mono ?_; rintro e w1 ⟨rfl, hb⟩; have G := mkHid (HA.out.grows hb); have G1 := mkHid (HR.out.grows hb); have GB := mkHid (bnx HB.out hb); have hz := hb.size; obtain ⟨b0, b1⟩ := G.out.at; clear hb)
    have HO := mkHid (TB.new w1 w1.heap.size (N : Int) (.slice none 0 0) rfl)
    have HNS : Hid (NS w (w1.alloc (.cells #[.int .i64 N, .slice none 0 0] 24)) w1.heap.size N (.slice ao L.length cap) (.slice none 0 0) (nmP L 0)) := mkHid
      ⟨G.out.grows (bal (Below.refl _ _) _), G1.out.grows (bal (Below.refl _ _) _), HO.out, OwnC.nil _ _, bal GB.out _, by simp at hz; omega⟩
    generalize hb3 : w1.heap.size = b3 at *
    clear HA HR HB a0 a1 b0 b1 G G1 GB HO CK
    go_loopw [6] (fun iv wr => ∃ k : Nat, k ≤ L.length ∧ iv = .int .i64 (k : Int) ∧ Hid (∃ v3, NS w wr b3 N (.slice ao L.length cap) v3 (nmP L k))) (fun iv _ => L.length - (intOf iv).toNat)
    case atStart => exact ⟨0, Nat.zero_le _, rfl, mkHid ⟨_, HNS.out⟩⟩
    case round =>
      obtain ⟨k, hk, rfl, H⟩ := hrel
      obtain ⟨v3, hns⟩ := H.out
      have HH := mkHid hns
      clear H HNS hns
      obtain ⟨a0, a1⟩ := HH.out.t.at
      by_cases hlt : k < L.length
      · obtain ⟨c, hc⟩ : ∃ c, L[k]? = some c := ⟨L[k], List.getElem?_eq_getElem hlt⟩
        obtain ⟨b, off, x, rfl, hx, hi⟩ := HC.out k c hc
        have p1 := cell_grows HH.out.b hx
        have hk1 : (k : Int) < (L.length : Int) := by omega
        have hk0 : (0 : Int) ≤ (k : Int) := by omega
        have hm := List.mem_of_getElem? hc
        have hcm := HCS.out c hm
        have C := mkHid (fun W (hb : Below w.heap.size w W) => rsorted_any x c N W (hi.next hb) (by omega) HN.out hcm.2)
        have hs0 := HH.out.drew
        have HY := mkHid hc
        have HCM := mkHid hcm
        clear hc hx hi hm hcm
        cases ho : opp c
        all_goals
          rw [ho] at C
          have HOP := mkHid ho
          clear ho
          go_wp2
          go_region_held3 (fun W => NS w W b3 N (.slice (some ⟨b, off, none⟩) L.length cap) v3 (nmP L k) ∧ W.cell? ⟨w.heap.size, 0, none⟩ = some (.int .i64 N) ∧ W.cell? ⟨w.heap.size, 1, none⟩ = some (.slice (some ⟨b, off, none⟩) L.length cap) ∧ W.cell? ⟨b, off + k, none⟩ = some x)
            (first
              | (with_reducible exact ⟨hS.1.next hw, cell_grows hw hS.2.1, cell_grows hw hS.2.2.1, cell_grows hw hS.2.2.2⟩)
              | exact ⟨hs0, a0, a1, p1⟩)
            (first
              | (go_at_call 47; have hS : NS w _ _ _ _ _ _ ∧ _ := (by assumption); ((with_reducible refine (C.out _ hS.1.b).mono ?_); rintro e w6 ⟨u6, rfl, ho6⟩; have hw := ho6.out.2; have HU := mkHid (Own.wk ho6.out.1 (base' := w.heap.size) hS.1.b.size))))
        · have hT' : NS w _ _ _ _ _ _ ∧ _ := (by assumption)
          have HT6 := mkHid hT'.1
          clear hT'
          obtain ⟨g0, g1⟩ := HT6.out.o.at
          obtain ⟨xs3, hx1, hx2⟩ := HT6.out.l
          have hnl := nmP_length L k
          have hcv : ∀ d ∈ L, validAll d (N : Int) = true := fun d hd => (HCS.out d hd).2
          have hlit := nmP_lits (n := N) (by have := HN.out; omega) hcv k
          have hrc : ∀ y ∈ order c, -128 ≤ y ∧ y ≤ 128 := fun y hy => by
            have := valid_range (n := N) (by have := HN.out; omega) HCM.out.2 y ((mem_order c y).1 hy).1
            have := HN.out
            omega
          have CP := mkHid (rput_any w.heap.size v3 u6 xs3 (nmP L k) (order c) w6 hx1.vals hx2 HU.out (by have := HL.out; omega) (by have := order_length c; omega) hlit hrc)
          have HE := mkHid (nmP_put HY.out HOP.out)
          have HX2 := mkHid hx2
          clear hx1 hx2 hnl hcv hlit hrc
          go_wp2_with (go_at_call 48; refine CP.out.mono ?_; rintro e w9 ⟨u9, rfl, h9⟩; have HNB := mkHid h9.out.2; have HN9 := mkHid (HT6.out.next h9.out.2); have HP9 : Hid (OwnC w9 w.heap.size u9 (nmP L (k + 1))) := mkHid (by
            obtain ⟨⟨ys, q1, q2⟩, q3⟩ := h9.out
            exact ⟨ys, q1.weaken HT6.out.b.size, by rw [HE.out]; exact q2.below q3⟩); obtain ⟨a9, c9, rfl⟩ := HP9.out.form; obtain ⟨i0, i1⟩ := HN9.out.o.at; obtain ⟨if0, if1⟩ := HN9.out.o.free)
          go_roundw
          case rel => exact ⟨k + 1, by omega, by go_num, mkHid ⟨_, HN9.out.set HP9.out⟩⟩
          case measure => simp [intOf]; omega
        · have hT' : NS w _ _ _ _ _ _ ∧ _ := (by assumption)
          have HT6 := mkHid hT'.1
          have HE := mkHid (nmP_skip HY.out HOP.out)
          clear hT'
          go_wp2
          go_roundw
          case rel => exact ⟨k + 1, by omega, by go_num, mkHid ⟨_, by rw [HE.out]; exact HT6.out⟩⟩
          case measure => simp [intOf]; omega
      · have hk1 : ¬ (k : Int) < (L.length : Int) := by omega
        have HF : Hid (nmP L k = nmK L) := mkHid (by rw [show k = L.length by omega]; exact nmP_all L)
        obtain ⟨a3, c3, rfl⟩ := HH.out.l.form
        obtain ⟨g0, g1⟩ := HH.out.o.at
        obtain ⟨r0, r1⟩ := HH.out.r.at
        obtain ⟨rf0, rf1⟩ := HH.out.r.free
        go_wp2
        refine bodyPost_ret (v := .tuple #[.agg #[.int .i64 N, .slice a3 (nmP L k).length c3], .int .i64 0]) (by simp [results, Try.results21, go_sem, r0, r1]) rfl ?_
        have hd := HH.out.done (m := N) (u := .slice a3 (nmP L k).length c3)
        exact ⟨_, rfl, mkHid ⟨by rw [← HF.out]; exact hd.1, hd.2⟩⟩
  · rw [if_neg hk, if_neg hk]
    generalize hq : ckT n L = q at *
    clear hq
    go_enter Try.func21, Try.ntmps21
    go_wp2_with (go_at_call 18; refine (CK.out _ HB.out).mono ?_; rintro e w1 ⟨rfl, hb⟩; have G1 := mkHid (HR.out.grows hb); have GB := mkHid (bnx HB.out hb); obtain ⟨r0, r1⟩ := G1.out.at; obtain ⟨rf0, rf1⟩ := G1.out.free; clear hb)
    refine bodyPost_ret (v := .tuple #[.agg #[.int .i64 0, .slice none 0 0], .int .i64 q]) (by simp [results, Try.results21, go_sem, r0, r1]) rfl ?_
    exact ⟨_, rfl, mkHid ⟨OwnC.nil _ _, bst2 GB.out _ (by omega) _ _⟩⟩
end Go.Proofs.Ytalpbpcanebbbaa
