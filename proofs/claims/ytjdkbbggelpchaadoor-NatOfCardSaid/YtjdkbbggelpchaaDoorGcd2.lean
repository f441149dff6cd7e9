/- The contract of Gcd. -/
import Derived.Test.YtjdkbbggelpchaaDoorDiv2
namespace Go.Proofs.YtjdkbbggelpchaaDoor
open Go.RowKit

set_option maxRecDepth 100000 in
set_option maxHeartbeats 1000000 in
theorem gcd_zero (a b : Nat) (w : World) (h : a = 0 ∨ b = 0) :
    Calls Tryd.prog 20 #[natV a, natV b] w fun e w' => e = .returned (natV (Nat.gcd a b)) ∧ Below w.heap.size w w' := by
  have CC := mkHid (fun W => cmp_any a b W)
  obtain ⟨x, hx⟩ : ∃ x, (Lib.compareInt (a : Int) b < 0 → a = 0 ∧ x = b) ∧ (¬ Lib.compareInt (a : Int) b < 0 → b = 0 ∧ x = a) := by
    by_cases h1 : Lib.compareInt (a : Int) b < 0
    · refine ⟨b, fun _ => ⟨?_, rfl⟩, fun h' => absurd h1 h'⟩
      rcases Nat.lt_or_ge a b with h2 | h2
      · omega
      · rcases Nat.lt_or_ge b a with h3 | h3
        · rw [ci_gt h3] at h1; exact absurd h1 (by decide)
        · omega
    · refine ⟨a, fun h' => absurd h' h1, fun _ => ⟨?_, rfl⟩⟩
      rcases Nat.lt_or_ge a b with h2 | h2
      · rw [ci_lt h2] at h1; exact absurd (by decide) h1
      · omega
  generalize hz : Lib.compareInt (a : Int) b = z at *
  have HX : Hid ((z < 0 → (x % M.B = b % M.B ∧ hs x = hs b) ∧ a % M.B = 0 ∧ hs a = ⟨#[]⟩) ∧ (¬ z < 0 → (x % M.B = a % M.B ∧ hs x = hs a) ∧ b % M.B = 0 ∧ hs b = ⟨#[]⟩)) := mkHid ⟨fun h => by obtain ⟨rfl, rfl⟩ := hx.1 h; exact ⟨⟨rfl, rfl⟩, Nat.zero_mod _, hs_small M.B_pos⟩, fun h => by obtain ⟨rfl, rfl⟩ := hx.2 h; exact ⟨⟨rfl, rfl⟩, Nat.zero_mod _, hs_small M.B_pos⟩⟩
  have hg : Nat.gcd a b = x := by
    by_cases h1 : z < 0
    · obtain ⟨rfl, rfl⟩ := hx.1 h1; exact Nat.gcd_zero_left _
    · obtain ⟨rfl, rfl⟩ := hx.2 h1; exact Nat.gcd_zero_right _
  rw [hg]
  unfold natV at CC ⊢
  clear hx hg hz h
  generalize x % M.B = xl at *
  generalize a % M.B = al at *
  generalize b % M.B = bl at *
  generalize hs x = xh at *
  generalize hs a = ah at *
  generalize hs b = bh at *
  go_enter Tryd.func20, Tryd.ntmps20
  go_upto_if 11 with (go_at_call 14; refine (CC.out _).mono ?_; rintro e w2 ⟨rfl, hb⟩; have HB3 : Hid (Below (w.heap.size + 1 + 1 + 1) (World.box3 w al bl ah bh) w2) := mkHid (hb.mono (by simp)); clear hb)
  have G1 := (box3_a w al bl ah bh).below HB3.out (by omega)
  have G2 := (box3_b w al bl ah bh).below HB3.out (by omega)
  have G3 := (box3_c w al bl ah bh).below HB3.out (by omega)
  have HB4 := mkHid ((box3_below w al bl ah bh).trans (HB3.out.mono (by omega)))
  have HS4 := mkHid HB3.out.size
  rw [box3_size] at HS4
  obtain ⟨h10, h11, hf10, hf11⟩ := G1
  obtain ⟨h20, h21, hf20, hf21⟩ := G2
  go_cut [] (fun wx => At2 wx w.heap.size xl xh ∧ At2 wx (w.heap.size + 1) 0 ⟨#[]⟩ ∧ At2 wx (w.heap.size + 1 + 1) 0 ⟨#[]⟩ ∧ Below w.heap.size w wx ∧ w.heap.size + 1 + 1 + 1 ≤ wx.heap.size)
  case first =>
    go_wp2
    · rename_i ht
      go_meet
      have A1 : At2 w2 w.heap.size al ah := ⟨h10, h11, hf10, hf11⟩
      have A2 : At2 w2 (w.heap.size + 1) bl bh := ⟨h20, h21, hf20, hf21⟩
      have T1 := (A1.set bl bh).setOff (b' := w.heap.size + 1) (by omega) (.int .u64 (al : Int)) (.string ah)
      have T2 := (A2.setOff (b' := w.heap.size) (by omega) (.int .u64 (bl : Int)) (.string bh)).set al ah
      have T3 := (G3.setOff (b' := w.heap.size) (by omega) (.int .u64 (bl : Int)) (.string bh)).setOff (b' := w.heap.size + 1) (by omega) (.int .u64 (al : Int)) (.string ah)
      have T4 := setCells_below (setCells_below HB4.out w.heap.size (Nat.le_refl _) (.int .u64 (bl : Int)) (.string bh)) (w.heap.size + 1) (by omega) (.int .u64 (al : Int)) (.string ah)
      obtain ⟨⟨e1, e2⟩, e3, e4⟩ := HX.out.1 ht
      have hs := HS4.out
      clear HX HB4 HB3 G3 CC
      subst e1 e2 e3 e4
      exact ⟨T1, T2, T3, T4, by simpa using hs⟩
    · rename_i ht
      go_meet
      have A1 : At2 w2 w.heap.size al ah := ⟨h10, h11, hf10, hf11⟩
      have A2 : At2 w2 (w.heap.size + 1) bl bh := ⟨h20, h21, hf20, hf21⟩
      obtain ⟨⟨e1, e2⟩, e3, e4⟩ := HX.out.2 ht
      have hs := HS4.out
      have hbb := HB4.out
      clear HX HB4 HB3 CC
      subst e1 e2 e3 e4
      exact ⟨A1, A2, G3, hbb, hs⟩
  case rest =>
    obtain ⟨⟨ha10, ha11, haf10, haf11⟩, ⟨hb10, hb11, hbf10, hbf11⟩, ⟨hc10, hc11, hcf10, hcf11⟩, hb, hsz⟩ := hcut
    have HBL := mkHid hb
    clear hb hsz HB3 HB4 HS4 G3 CC HX h10 h11 hf10 hf11 h20 h21 hf20 hf21
    go_wp2
    refine bodyPost_ret (v := .agg #[.int .u64 (xl : Int), .string xh]) (by simp [results, Tryd.results20, go_sem, hc10, hc11]) rfl ⟨rfl, ?_⟩
    exact setCells_below HBL.out _ (by omega) _ _

end Go.Proofs.YtjdkbbggelpchaaDoor
