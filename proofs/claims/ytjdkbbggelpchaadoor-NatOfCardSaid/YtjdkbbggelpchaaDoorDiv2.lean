/- Div where both numbers are of several words; Div. -/
import Derived.Test.YtjdkbbggelpchaaDoorDiv
namespace Go.Proofs.YtjdkbbggelpchaaDoor
open Go.RowKit

set_option maxRecDepth 100000 in
set_option maxHeartbeats 2000000 in
theorem div_words (a b : Nat) (w : World) (hb : M.B ≤ b) (h : b ≤ a) (la : (M.dig a).length ≤ 90000) :
    Calls Tryd.prog 16 #[natV a, natV b] w fun e w' => e = .returned (.tuple #[natV (a / b), natV (a % b), .bool true]) ∧ Below w.heap.size w w' := by
  have CB := mkHid (fun W => bothSmall_any a b W)
  rw [decide_eq_false (show ¬ (a < M.B ∧ b < M.B) by omega)] at CB
  have CC := mkHid (fun W => cmp_any a b W)
  obtain ⟨z, hz⟩ : ∃ z, Lib.compareInt (a : Int) b = z := ⟨_, rfl⟩
  have hz0 : ¬ z < 0 := by
    rw [← hz]
    rcases Nat.lt_or_ge b a with h2 | h2
    · rw [ci_gt h2]; decide
    · rw [show a = b by omega, ci_eq]; decide
  rw [hz] at CC
  have hlb : (M.dig b).length ≤ (M.dig a).length := M.dig_length_le.2 (by have := M.dig_length_le (n := a) |>.1 (Nat.le_refl _); omega)
  have hl2 := M.le_dig_length (n := b) (k := 1) (by rw [Nat.pow_one]; exact hb)
  have hlr : (M.dig (a % b)).length ≤ (M.dig b).length := M.dig_length_le.2 (by
    have h1 := M.dig_length_le (n := b) |>.1 (Nat.le_refl _)
    have h2 := Nat.mod_lt a (show 0 < b by have := M.B_pos; omega)
    omega)
  have CWA := mkHid (fun W => words_any a W (by omega))
  have CWB := mkHid (fun W => words_any b W (by omega))
  obtain ⟨n, hn⟩ : ∃ n, (M.dig b).length = n + 2 := ⟨(M.dig b).length - 2, by omega⟩
  obtain ⟨m, hm⟩ : ∃ m, (M.dig a).length = m := ⟨_, rfl⟩
  have hnm : n + 2 ≤ m := by omega
  have hm9 : m ≤ 90000 := by omega
  have CD := mkHid (fun (bx cx by' cy : Nat) (W : World) (hx : Words W bx 0 (M.dig a)) (hy : Words W by' 0 (M.dig b)) => divideWords_any bx cx by' cy a b n m W hx hy hm hn hnm (by omega))
  obtain ⟨lr, hr⟩ : ∃ lr, (M.dig (a % b)).length = lr := ⟨_, rfl⟩
  have CQ : Hid (∀ (bq cq : Nat) (qs : List Nat) (W : World), Row W bq cq qs → qs.length = m - (n + 2) + 1 → M.Ok qs → M.val qs = a / b → Calls Tryd.prog 38 #[.slice (some ⟨bq, 0, none⟩) (m - (n + 2) + 1) cq] W fun e w' => e = .returned (natV (a / b)) ∧ Below W.heap.size W w') := mkHid (fun bq cq qs W hw hl okl hv => by
    have := pack_any bq cq qs W hw (by omega) okl
    rwa [hv, hl] at this)
  have CR : Hid (∀ (br cr : Nat) (W : World), Row W br cr (M.dig (a % b)) → Calls Tryd.prog 38 #[.slice (some ⟨br, 0, none⟩) lr cr] W fun e w' => e = .returned (natV (a % b)) ∧ Below W.heap.size W w') := mkHid (fun br cr W hw => by
    have := pack_any br cr _ W hw (by omega) (M.ok_dig _)
    rwa [M.val_dig, hr] at this)
  rw [hr] at CD
  rw [hm] at CWA
  rw [hn] at CWB
  have hne := hs_ne hb
  unfold natV at CB CC CWA CWB CQ CR ⊢
  clear hz h hlb hl2 hlr hn hm hr la hb
  generalize a % M.B = al at *
  generalize b % M.B = bl at *
  generalize hs a = ah at *
  generalize hs b = bh at *
  generalize hs (a / b) = h3 at *
  generalize hs (a % b) = h4 at *
  generalize (a / b) % M.B = l3 at *
  generalize (a % b) % M.B = l4 at *
  go_enter Tryd.func16, Tryd.ntmps16
  go_upto_region 11 with (first
    | (go_at_call 35; refine (CB.out _).mono ?_; rintro e w1 ⟨rfl, hb⟩; have HB1 : Hid (Below (w.heap.size + 1 + 1 + 1 + 1) (World.box4 w al bl ah bh) w1) := mkHid (hb.mono (by simp)); obtain ⟨ha10, ha11, haf10, haf11⟩ := (box4_a w al bl ah bh).below HB1.out (by omega); obtain ⟨hb10, hb11, hbf10, hbf11⟩ := (box4_b w al bl ah bh).below HB1.out (by omega); clear hb)
    | (go_at_call 14; refine (CC.out _).mono ?_; rintro e w2 ⟨rfl, hb⟩; have HB2 : Hid (Below (w.heap.size + 1 + 1 + 1 + 1) (World.box4 w al bl ah bh) w2) := mkHid (box4_past HB1.out hb ⟨rfl, rfl, rfl, rfl⟩); clear hb; obtain ⟨hc10, hc11, hcf10, hcf11⟩ := (box4_a w al bl ah bh).below HB2.out (by omega); obtain ⟨hd10, hd11, hdf10, hdf11⟩ := (box4_b w al bl ah bh).below HB2.out (by omega)))
  go_cut [9, 10] (fun v9 v10 wx => ∃ bq cq br cr, v9 = .slice (some ⟨bq, 0, none⟩) (m - (n + 2) + 1) cq ∧ v10 = .slice (some ⟨br, 0, none⟩) lr cr ∧ ∃ qs, Hid (Below (w.heap.size + 1 + 1 + 1 + 1) (World.box4 w al bl ah bh) wx ∧ qs.length = m - (n + 2) + 1 ∧ M.Ok qs ∧ M.val qs = a / b ∧ Row wx bq cq qs ∧ Row wx br cr (M.dig (a % b))))
  case first =>
    go_region_with (first
      | (go_at_call_of 36 (Value.agg #[.int .u64 (al : Int), .string ah]); refine (CWA.out _).mono ?_; rintro e w3 ⟨bx, cx, rfl, H3⟩; have HB3 := mkHid (box4_past HB2.out H3.out.2.2.1 ⟨rfl, rfl, rfl, rfl⟩); obtain ⟨h30, h31, hf30, hf31⟩ := (box4_b w al bl ah bh).below HB3.out (by omega))
      | (go_at_call_of 36 (Value.agg #[.int .u64 (bl : Int), .string bh]); refine (CWB.out _).mono ?_; rintro e w4 ⟨by', cy, rfl, H4⟩; have HB4 := mkHid (box4_past HB3.out H4.out.2.2.1 ⟨rfl, rfl, rfl, rfl⟩); have RX4 := mkHid (row_past H3.out.2.1 H4.out.2.2.1 ⟨rfl, rfl, rfl, rfl⟩))
      | (go_at_call 48; refine (CD.out _ _ _ _ _ RX4.out.words H4.out.2.1.words).mono ?_; rintro e w5 ⟨bq, cq, br, cr, rfl, qs, H5⟩; have HB5 := mkHid (box4_past HB4.out H5.out.2.2.2.2.2.2.2 ⟨rfl, rfl, rfl, rfl⟩)))
    all_goals (go_wp2_with fail; go_meet; exact ⟨bq, cq, br, cr, rfl, rfl, qs, mkHid ⟨HB5.out, H5.out.1, H5.out.2.1, H5.out.2.2.1, H5.out.2.2.2.1, H5.out.2.2.2.2.1⟩⟩)
  case rest =>
    obtain ⟨bq, cq, br, cr, rfl, rfl, qs, H⟩ := hcut
    clear HB1 HB2 ha10 ha11 haf10 haf11 hb10 hb11 hbf10 hbf11 hc10 hc11 hcf10 hcf11 hd10 hd11 hdf10 hdf11 CB CC CWA CWB CD
    go_wp2_with fail
    with_reducible refine (CQ.out bq cq qs _ H.out.2.2.2.2.1 H.out.2.1 H.out.2.2.1 H.out.2.2.2.1).mono ?_
    rintro e w6 ⟨rfl, hb⟩
    have HB6 := mkHid (box4_past H.out.1 hb ⟨rfl, rfl, rfl, rfl⟩)
    have RR := mkHid (row_past H.out.2.2.2.2.2 hb ⟨rfl, rfl, rfl, rfl⟩)
    clear hb
    go_wp2_with fail
    with_reducible refine (CR.out br cr _ RR.out).mono ?_
    rintro e w7 ⟨rfl, hb⟩
    have HB7 := mkHid (box4_past HB6.out hb ⟨rfl, rfl, rfl, rfl⟩)
    clear hb
    obtain ⟨hg10, hg11, hgf10, hgf11⟩ := (box4_c w al bl ah bh).below HB7.out (by omega)
    obtain ⟨hh10, hh11, hhf10, hhf11⟩ := (box4_d w al bl ah bh).below HB7.out (by omega)
    go_wp2_with fail
    refine bodyPost_ret (v := .tuple #[.agg #[.int .u64 (l3 : Int), .string h3], .agg #[.int .u64 (l4 : Int), .string h4], .bool true]) (by simp [results, Tryd.results16, go_sem, hg10, hg11, hh10, hh11]) rfl ⟨rfl, ?_⟩
    exact setCells_below (setCells_below ((box4_below w al bl ah bh).trans (HB7.out.mono (by omega))) _ (by omega) _ _) _ (by omega) _ _

theorem div_any (a b : Nat) (w : World) (h0 : b ≠ 0) (la : (M.dig a).length ≤ 90000) :
    Calls Tryd.prog 16 #[natV a, natV b] w fun e w' => e = .returned (.tuple #[natV (a / b), natV (a % b), .bool true]) ∧ Below w.heap.size w w' := by
  rcases Nat.lt_or_ge b M.B with hb | hb
  · rcases Nat.lt_or_ge a M.B with ha | ha
    · exact div_small a b w ha hb h0
    · exact div_word a b w ha hb h0 la
  · rcases Nat.lt_or_ge a b with h | h
    · rw [Nat.div_eq_of_lt h, Nat.mod_eq_of_lt h]
      exact div_less a b w h hb
    · exact div_words a b w hb h la

end Go.Proofs.YtjdkbbggelpchaaDoor
