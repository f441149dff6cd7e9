/- Contract of the specification: Given. -/
import Derived.Test.YtalpbpcanebbbaaTQd
namespace Go.Proofs.Ytalpbpcanebbbaa
open Go.RowKit VM LM TM

/-- What appending a list to a boxed theory keeps. -/
theorem TB.app {W w8 : World} {base b : Nat} {n : Int} {u v3 x : Value} {xs : List Value} (H : TB W b n u) (h1 : OwnV W base v3 xs) (hg : (W.alloc (.cells #[x] 38)).grownBy w8 v3.ownBlock) : TB w8 b n u := by
  have hb : Below W.heap.size W (W.alloc (.cells #[x] 38)) := bal (Below.refl _ _) _
  exact (H.grows hb).kept hg ((h1.below hb).not_tb (H.grows hb))
theorem RowsO.app {W w8 : World} {base : Nat} {v3 x : Value} {xs : List Value} {c : List Int} {M : List (List Int)} (h2 : RowsO W base xs M) (h1 : OwnV W base v3 xs) (hx : Own W base x c) (hg : (W.alloc (.cells #[x] 38)).grownBy w8 v3.ownBlock) : RowsO w8 base (xs ++ [x]) (M ++ [c]) := by
  have hb : Below W.heap.size W (W.alloc (.cells #[x] 38)) := bal (Below.refl _ _) _
  have hn := (h1.below hb).not_int
  exact ((h2.below hb).kept hg hn).snoc ((hx.below hb).kept hg hn)
theorem NS.app {w W w8 : World} {b3 : Nat} {n : Int} {v v3 v4 x : Value} {M : List (List Int)} {xs : List Value} {c : List Int} (H : NS w W b3 n v v3 M) (h1 : OwnV W w.heap.size v3 xs) (h2 : RowsO W w.heap.size xs M) (hx : Own W w.heap.size x c)
    (h8 : OwnV w8 w.heap.size v4 (xs ++ [x])) (hg : (W.alloc (.cells #[x] 38)).grownBy w8 v3.ownBlock) (hb8 : Below w.heap.size w w8) : TB w8 b3 n v3 ∧ NS w (w8.setCell ⟨b3, 1, none⟩ v4) b3 n v v4 (M ++ [c]) := by
  have ho := H.o.app h1 hg
  refine ⟨ho, (H.t.app h1 hg).off (by have := H.h; omega) _, (H.r.app h1 hg).off (by have := H.h; omega) _, ho.set1 _, ?_, bst hb8 (by have := H.h; show w.heap.size ≤ b3; omega) _, H.h⟩
  exact OwnC.setT ⟨_, h8, h2.app h1 hx hg⟩ ho
theorem gvC_all {s c : List Int} {j : Nat} (h : c.length ≤ j) : gvC s (c.take j) = gvC s c := by rw [List.take_of_length_le h]
theorem gvC_length (s c : List Int) : (gvC s c).length ≤ c.length := List.length_filter_le _ _
set_option maxRecDepth 100000 in
set_option maxHeartbeats 16000000 in
theorem rgiven_any (n : Int) (v tv : Value) (L : List (List Int)) (s : List Int) (w : World) (h : Th w v L) (ht : Ints w tv s) (hs : s.length ≤ 1000000) :
    Calls Try.prog 27 #[.agg #[.int .i64 n, v], tv] w fun e w' => ∃ u, e = .returned (.tuple #[.agg #[.int .i64 (if gvE n L s = 0 then n else 0), u], .int .i64 (gvE n L s)]) ∧
      Hid (OwnC w' w.heap.size u (if gvE n L s = 0 then gvL s L else []) ∧ Below w.heap.size w w') := by
  have CK := mkHid (fun W (hb : Below w.heap.size w W) => rcheck_any n v L W (h.next hb))
  have CTM := mkHid (fun W (hb : Below w.heap.size w W) (m : Nat) (hm : m ≤ 128) => rterm_any tv s m W (ht.next hb) hs hm)
  have CC := mkHid (fun W (hb : Below w.heap.size w W) (x : Int) => rcont_any tv s x W (ht.next hb) (by omega))
  have HT := mkHid h
  have HB := mkHid (bal (bal (Below.refl _ w) (.cells #[.int .i64 n, v] 24)) (.cells #[.int .i64 0, .slice none 0 0] 24))
  have HA := mkHid ((TB.new w w.heap.size n v rfl).grows (bal (Below.refl _ _) (.cells #[.int .i64 0, .slice none 0 0] 24)))
  have HR := mkHid (TB.new (w.alloc (.cells #[.int .i64 n, v] 24)) (w.heap.size + 1) 0 (.slice none 0 0) (by simp))
  obtain ⟨ao, cap, rfl, hc⟩ := h.cls
  obtain ⟨tao, tcap, rfl⟩ := ht.form
  have HC := mkHid hc
  obtain ⟨a0, a1⟩ := HA.out.at
  have hlen := h.len
  clear h hc ht
  unfold gvE
  by_cases hk : ckT n L = 0
  · obtain ⟨hn, hL, hcs⟩ := ckT_zero.1 hk
    have HCS := mkHid hcs
    have HL := mkHid hL
    obtain ⟨N, rfl⟩ : ∃ N : Nat, n = (N : Int) := ⟨n.toNat, by omega⟩
    have HN : Hid (N ≤ 128) := mkHid (by omega)
    rw [if_pos hk]
    rw [hk] at CK
    have CT := mkHid (fun W hb => CTM.out W hb N HN.out)
    clear hk hcs hL hn CTM
    cases htm : tmB s (N : Int)
    · simp only [htm] at CT
      simp only [Bool.false_eq_true, if_false, show ¬ (1 : Int) = 0 from by omega]
      clear htm
      go_enter Try.func27, Try.ntmps27
      go_wp2_with (first
        | (go_at_call 18; refine (CK.out _ HB.out).mono ?_; rintro e w1 ⟨rfl, hb⟩; have G := mkHid (HA.out.grows hb); have G1 := mkHid (HR.out.grows hb); have GB := mkHid (bnx HB.out hb); obtain ⟨b0, b1⟩ := G.out.at; obtain ⟨r0, r1⟩ := G1.out.at; obtain ⟨rf0, rf1⟩ := G1.out.free; clear hb)
        | (go_at_call 66; refine (CT.out _ GB.out).mono ?_; rintro e w2 ⟨rfl, rfl⟩))
      refine bodyPost_ret (v := .tuple #[.agg #[.int .i64 0, .slice none 0 0], .int .i64 1]) (by simp [results, Try.results27, go_sem, r0, r1]) rfl ?_
      exact ⟨_, rfl, mkHid ⟨OwnC.nil _ _, bst2 GB.out _ (by omega) _ _⟩⟩
    · simp only [htm] at CT
      simp only [if_true]
      clear htm
      go_enter Try.func27, Try.ntmps27
      go_wp2_with (first
        | (go_at_call 18; refine (CK.out _ HB.out).mono ?_; rintro e w1 ⟨rfl, hb⟩; have G := mkHid (HA.out.grows hb); have G1 := mkHid (HR.out.grows hb); have GB := mkHid (bnx HB.out hb); have hz := hb.size; obtain ⟨b0, b1⟩ := G.out.at; clear hb)
        | (go_at_call 66; refine (CT.out _ GB.out).mono ?_; rintro e w2 ⟨rfl, rfl⟩))
      have HO := mkHid (TB.new w2 w2.heap.size (N : Int) (.slice none 0 0) rfl)
      have HNS : Hid (NS w (w2.alloc (.cells #[.int .i64 N, .slice none 0 0] 24)) w2.heap.size N (.slice ao L.length cap) (.slice none 0 0) (gvP s L 0)) := mkHid
        ⟨G.out.grows (bal (Below.refl _ _) _), G1.out.grows (bal (Below.refl _ _) _), HO.out, OwnC.nil _ _, bal GB.out _, by simp at hz; omega⟩
      generalize hb3 : w2.heap.size = b3 at *
      clear HA HR HB a0 a1 b0 b1 G G1 GB HO CK CT
      go_loopw [8] (fun iv wr => ∃ k : Nat, k ≤ L.length ∧ iv = .int .i64 (k : Int) ∧ Hid (∃ v3, NS w wr b3 N (.slice ao L.length cap) v3 (gvP s L k))) (fun iv _ => L.length - (intOf iv).toNat)
      case atStart => exact ⟨0, Nat.zero_le _, rfl, mkHid ⟨_, HNS.out⟩⟩
      case round =>
        obtain ⟨k, hk, rfl, H⟩ := hrel
        obtain ⟨v3, hns⟩ := H.out
        have HH := mkHid hns
        clear H HNS hns
        obtain ⟨a0, a1⟩ := HH.out.t.at
        by_cases hlt : k < L.length
        · obtain ⟨c, hc⟩ : ∃ c, L[k]? = some c := ⟨L[k], List.getElem?_eq_getElem hlt⟩
          obtain ⟨b, off, x, rfl, hx, hi⟩ := HC.out k c hc
          have hk1 : (k : Int) < (L.length : Int) := by omega
          have hk0 : (0 : Int) ≤ (k : Int) := by omega
          have hcm := HCS.out c (List.mem_of_getElem? hc)
          have HCM := mkHid hcm
          have HY := mkHid hc
          have HX := mkHid hx
          obtain ⟨ao2, cap2, rfl, hcc⟩ := hi.uni
          have HCC := mkHid hcc
          have hcl : c.length ≤ 128 := hcm.1
          clear hc hx hi hcc hcm
          go_wp2
          obtain ⟨wo, hwo⟩ : ∃ wo : World, wr = wo := ⟨_, rfl⟩
          rw [hwo] at HH a0 a1
          go_loopw [9, 10, 11] (fun cv fv jv wi => ∃ j : Nat, j ≤ c.length ∧ fv = .bool ((c.take j).any s.contains) ∧ jv = .int .i64 (j : Int) ∧ Hid (Own wi wo.heap.size cv (gvC s (c.take j)) ∧ Below wo.heap.size wo wi)) (fun _ _ jv _ => c.length - (intOf jv).toNat)
          case atStart => exact ⟨0, Nat.zero_le _, rfl, rfl, mkHid ⟨Own.nil _ _, by rw [hwo]; exact Below.refl _ _⟩⟩
          case round =>
            obtain ⟨j, hj, rfl, rfl, G⟩ := hrel
            have G0 := mkHid (HH.out.next G.out.2)
            clear a0 a1
            obtain ⟨a0, a1⟩ := G0.out.t.at
            have p1 := cell_grows G0.out.b HX.out
            by_cases hjl : j < c.length
            · obtain ⟨y, hy⟩ : ∃ y, c[j]? = some y := ⟨c[j], List.getElem?_eq_getElem hjl⟩
              obtain ⟨b2, off2, rfl, hcy⟩ := HCC.out j y hy
              have p2 := cell_grows G0.out.b hcy
              have hj1 : (j : Int) < (c.length : Int) := by omega
              have hj0 : (0 : Int) ≤ (j : Int) := by omega
              have hr := valid_range (by have := HN.out; omega) HCM.out.2 y (List.mem_of_getElem? hy)
              have e1 : IntKind.i64.wrap (-y) = -y := IntWalk.i64_in _ (by have := HN.out; omega)
              have C1 := mkHid (fun W hb => CC.out W hb y)
              have C2 := mkHid (fun W hb => CC.out W hb (-y))
              have HE := mkHid (any_take_step (P := s.contains) hy)
              have HG := mkHid (gvC_step (s := s) hy)
              have HGL : Hid ((gvC s (c.take j)).length ≤ 128) := mkHid (by have := gvC_length s (c.take j); rw [List.length_take] at this; omega)
              clear hy hcy hr CC
              generalize s.contains y = h1 at *
              generalize hfl : (c.take j).any s.contains = fl at *
              have HFL := mkHid hfl
              clear hfl
              have HE2 : Hid ((c.take (j + 1)).any s.contains = (fl || h1)) := mkHid (by rw [HE.out])
              clear HE
              cases h2 : s.contains (-y)
              · rw [h2] at C2 HG
                have HG2 : Hid (gvC s (c.take (j + 1)) = gvC s (c.take j) ++ [y]) := mkHid (by rw [HG.out]; rfl)
                clear HG h2
                cases fl
                all_goals
                  go_wp2_with (first
                    | (go_at_call 67; with_reducible refine (C1.out _ G0.out.b).mono ?_; rintro e w6 ⟨rfl, rfl⟩)
                    | (go_at_call 67; with_reducible refine (C2.out _ G0.out.b).mono ?_; rintro e w6 ⟨rfl, rfl⟩)
                    | (at_builtin; refine wpList_app1 rfl (.tmp 69) (.tmp 78) rfl rfl rfl G.out.1 (by have := HGL.out; omega) G.out.2.size G.out.2 ?_; intro v7 w7 H7))
                  go_roundw
                  case rel => exact ⟨j + 1, by omega, by rw [HE2.out]; simp, by go_num, mkHid ⟨by rw [HG2.out]; exact H7.out.1, H7.out.2⟩⟩
                  case measure => simp [intOf]; omega
              · rw [h2] at C2 HG
                have HG2 : Hid (gvC s (c.take (j + 1)) = gvC s (c.take j)) := mkHid (by rw [HG.out]; rfl)
                clear HG h2
                cases fl
                all_goals
                  go_wp2_with (first
                    | (go_at_call 67; with_reducible refine (C1.out _ G0.out.b).mono ?_; rintro e w6 ⟨rfl, rfl⟩)
                    | (go_at_call 67; with_reducible refine (C2.out _ G0.out.b).mono ?_; rintro e w6 ⟨rfl, rfl⟩))
                  go_roundw
                  case rel => exact ⟨j + 1, by omega, by rw [HE2.out]; simp, by go_num, mkHid ⟨by rw [HG2.out]; exact G.out.1, G.out.2⟩⟩
                  case measure => simp [intOf]; omega
            · have hj1 : ¬ (j : Int) < (c.length : Int) := by omega
              have HE : Hid ((c.take j).any s.contains = c.any s.contains) := mkHid (by rw [List.take_of_length_le (by omega)])
              have HG : Hid (gvC s (c.take j) = gvC s c) := mkHid (gvC_all (by omega))
              rw [HE.out]
              cases hfl : c.any s.contains
              · have HP := mkHid (gvP_put HY.out hfl)
                obtain ⟨xs3, hx1, hx2⟩ := G0.out.l
                have hown := Own.wk G.out.1 (base' := w.heap.size) HH.out.b.size
                rw [HG.out] at hown
                have HO := mkHid hown
                obtain ⟨a9, c9, rfl⟩ := HO.out.ints.form
                obtain ⟨g0, g1⟩ := G0.out.o.at
                have HX1 := mkHid hx1
                have HX2 := mkHid hx2
                have HLN : Hid (xs3.length ≤ 1000000) := mkHid (by rw [hx2.1]; have := gvP_length s L k; have := HL.out; omega)
                clear hx1 hx2 hown hfl
                go_wp2_with (at_builtin; refine wpList_appV rfl (.tmp 83) (.tmp 85) rfl rfl rfl (x := .slice a9 (gvC s c).length c9) HX1.out (oneCell_slice _ _ _) HLN.out G0.out.b.size G0.out.b ?_; intro v8 w8 H8; have HA8 := mkHid (G0.out.app HX1.out HX2.out HO.out H8.out.1 H8.out.2.1 H8.out.2.2); obtain ⟨i0, i1⟩ := HA8.out.1.at; obtain ⟨if0, if1⟩ := HA8.out.1.free; obtain ⟨a8, c8, rfl⟩ := H8.out.1.vals.form)
                go_roundw
                case rel => exact ⟨k + 1, by omega, by go_num, mkHid ⟨_, by have h8 := HA8.out.2; rw [List.length_append] at h8; rw [HP.out]; exact h8⟩⟩
                case measure => simp [intOf]; omega
              · have HP := mkHid (gvP_skip HY.out hfl)
                clear hfl
                go_wp2
                go_roundw
                case rel => exact ⟨k + 1, by omega, by go_num, mkHid ⟨_, by rw [HP.out]; exact G0.out⟩⟩
                case measure => simp [intOf]; omega
        · have hk1 : ¬ (k : Int) < (L.length : Int) := by omega
          have HF : Hid (gvP s L k = gvL s L) := mkHid (by rw [show k = L.length by omega]; exact gvP_all s L)
          obtain ⟨a3, c3, rfl⟩ := HH.out.l.form
          obtain ⟨g0, g1⟩ := HH.out.o.at
          obtain ⟨r0, r1⟩ := HH.out.r.at
          obtain ⟨rf0, rf1⟩ := HH.out.r.free
          go_wp2
          refine bodyPost_ret (v := .tuple #[.agg #[.int .i64 N, .slice a3 (gvP s L k).length c3], .int .i64 0]) (by simp [results, Try.results27, go_sem, r0, r1]) rfl ?_
          have hd := HH.out.done (m := N) (u := .slice a3 (gvP s L k).length c3)
          exact ⟨_, rfl, mkHid ⟨by rw [← HF.out]; exact hd.1, hd.2⟩⟩
  · rw [if_neg hk, if_neg hk, if_neg hk]
    generalize hq : ckT n L = q at *
    clear hq
    go_enter Try.func27, Try.ntmps27
    go_wp2_with (go_at_call 18; refine (CK.out _ HB.out).mono ?_; rintro e w1 ⟨rfl, hb⟩; have G1 := mkHid (HR.out.grows hb); have GB := mkHid (bnx HB.out hb); obtain ⟨r0, r1⟩ := G1.out.at; obtain ⟨rf0, rf1⟩ := G1.out.free; clear hb)
    refine bodyPost_ret (v := .tuple #[.agg #[.int .i64 0, .slice none 0 0], .int .i64 q]) (by simp [results, Try.results27, go_sem, r0, r1]) rfl ?_
    exact ⟨_, rfl, mkHid ⟨OwnC.nil _ _, bst2 GB.out _ (by omega) _ _⟩⟩
end Go.Proofs.Ytalpbpcanebbbaa
