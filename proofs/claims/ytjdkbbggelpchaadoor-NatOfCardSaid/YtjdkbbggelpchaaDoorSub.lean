/- The contract of Sub. -/
import Derived.Test.YtjdkbbggelpchaaDoorSum
namespace Go.Proofs.YtjdkbbggelpchaaDoor
open Go.RowKit

set_option maxRecDepth 100000 in
set_option maxHeartbeats 1000000 in
theorem sub_less (a b : Nat) (w : World) (h : a < b) :
    Calls Tryd.prog 9 #[natV a, natV b] w fun e w' => e = .returned (.tuple #[natV 0, .bool false]) ∧ Below w.heap.size w w' := by
  have CC := mkHid (fun W => cmp_any a b W)
  rw [ci_lt h] at CC
  unfold natV at CC ⊢
  rw [hs_small M.B_pos, Nat.zero_mod]
  generalize a % M.B = al at *
  generalize b % M.B = bl at *
  generalize hs a = ah at *
  generalize hs b = bh at *
  clear h
  go_enter Tryd.func9, Tryd.ntmps9
  go_wp2_with (go_at_call 14; refine (CC.out _).mono ?_; rintro e w1 ⟨rfl, hb⟩; have HB1 : Hid (Below (w.heap.size + 1 + 1 + 1) (World.box3 w al bl ah bh) w1) := mkHid (hb.mono (by simp)); obtain ⟨h10, h11, hf10, hf11⟩ := (box3_c w al bl ah bh).below HB1.out (by omega); clear hb)
  refine bodyPost_ret (v := .tuple #[.agg #[.int .u64 ((0 : Nat) : Int), .string ⟨#[]⟩], .bool false]) (by simp [results, Tryd.results9, go_sem, h10, h11]) rfl ⟨rfl, ?_⟩
  exact setCells_below ((box3_below w al bl ah bh).trans (HB1.out.mono (by omega))) _ (by omega) _ _

set_option maxRecDepth 100000 in
set_option maxHeartbeats 1000000 in
theorem sub_small (a b : Nat) (w : World) (h : b ≤ a) (ha : a < M.B) :
    Calls Tryd.prog 9 #[natV a, natV b] w fun e w' => e = .returned (.tuple #[natV (a - b), .bool true]) ∧ Below w.heap.size w w' := by
  have CC := mkHid (fun W => cmp_any a b W)
  obtain ⟨z, hz⟩ : ∃ z, Lib.compareInt (a : Int) b = z := ⟨_, rfl⟩
  have hz0 : ¬ z < 0 := by
    rw [← hz]
    rcases Nat.lt_or_ge b a with h2 | h2
    · rw [ci_gt h2]; decide
    · rw [show a = b by omega, ci_eq]; decide
  rw [hz] at CC
  have hb : b < M.B := by omega
  have CB := mkHid (fun W => bothSmall_any a b W)
  rw [decide_eq_true (show a < M.B ∧ b < M.B from ⟨ha, hb⟩)] at CB
  have CO := mkHid (fun W => of_any (a - b) W (by omega))
  have hwr : IntKind.u64.wrap ((a : Int) - (b : Int)) = ((a - b : Nat) : Int) := by rw [IntKind.wrap_u64]; unfold M.B at ha; omega
  have hwr2 : ((a : Int) - (b : Int)) % 18446744073709551616 = ((a - b : Nat) : Int) := by unfold M.B at ha; omega
  unfold natV at CC CB CO ⊢
  rw [Nat.mod_eq_of_lt ha, Nat.mod_eq_of_lt hb] at CB CC ⊢
  clear h ha hb hz
  generalize hs a = ah at *
  generalize hs b = bh at *
  generalize hs (a - b) = h3 at *
  generalize (a - b) % M.B = l3 at *
  generalize a - b = s at *
  go_enter Tryd.func9, Tryd.ntmps9
  go_wp2_with (first
    | (go_at_call 14; refine (CC.out _).mono ?_; rintro e w1 ⟨rfl, hb⟩; have HB1 : Hid (Below (w.heap.size + 1 + 1 + 1) (World.box3 w a b ah bh) w1) := mkHid (hb.mono (by simp)); obtain ⟨ha10, ha11, haf10, haf11⟩ := (box3_a w a b ah bh).below HB1.out (by omega); obtain ⟨hb10, hb11, hbf10, hbf11⟩ := (box3_b w a b ah bh).below HB1.out (by omega); clear hb)
    | (go_at_call 35; refine (CB.out _).mono ?_; rintro e w2 ⟨rfl, hb⟩; have HB2 : Hid (Below (w.heap.size + 1 + 1 + 1) (World.box3 w a b ah bh) w2) := mkHid (HB1.out.trans (hb.mono (by have := HB1.out.size; rw [box3_size] at this; exact this))); clear hb ha10 ha11 haf10 haf11 hb10 hb11 hbf10 hbf11; obtain ⟨ha10, ha11, haf10, haf11⟩ := (box3_a w a b ah bh).below HB2.out (by omega); obtain ⟨hb10, hb11, hbf10, hbf11⟩ := (box3_b w a b ah bh).below HB2.out (by omega))
    | (go_at_call 24; refine (CO.out _).mono ?_; rintro e w3 ⟨rfl, hb⟩; have HB3 : Hid (Below (w.heap.size + 1 + 1 + 1) (World.box3 w a b ah bh) w3) := mkHid (HB2.out.trans (hb.mono (by have := HB2.out.size; rw [box3_size] at this; exact this))); clear hb; obtain ⟨h10, h11, hf10, hf11⟩ := (box3_c w a b ah bh).below HB3.out (by omega)))
  refine bodyPost_ret (v := .tuple #[.agg #[.int .u64 (l3 : Int), .string h3], .bool true]) (by simp [results, Tryd.results9, go_sem, h10, h11]) rfl ⟨rfl, ?_⟩
  exact setCells_below ((box3_below w a b ah bh).trans (HB3.out.mono (by omega))) _ (by omega) _ _

set_option maxRecDepth 100000 in
set_option maxHeartbeats 1000000 in
theorem sub_large (a b : Nat) (w : World) (h : b ≤ a) (ha : M.B ≤ a) (la : (M.dig a).length ≤ 90000) :
    Calls Tryd.prog 9 #[natV a, natV b] w fun e w' => e = .returned (.tuple #[natV (a - b), .bool true]) ∧ Below w.heap.size w w' := by
  have CC := mkHid (fun W => cmp_any a b W)
  obtain ⟨z, hz⟩ : ∃ z, Lib.compareInt (a : Int) b = z := ⟨_, rfl⟩
  have hz0 : ¬ z < 0 := by
    rw [← hz]
    rcases Nat.lt_or_ge b a with h2 | h2
    · rw [ci_gt h2]; decide
    · rw [show a = b by omega, ci_eq]; decide
  rw [hz] at CC
  have CB := mkHid (fun W => bothSmall_any a b W)
  rw [decide_eq_false (show ¬ (a < M.B ∧ b < M.B) by omega)] at CB
  have hlb : (M.dig b).length ≤ (M.dig a).length := M.dig_length_le.2 (by have := M.dig_length_le (n := a) |>.1 (Nat.le_refl _); omega)
  have CWA := mkHid (fun W => words_any a W (by omega))
  have CWB := mkHid (fun W => words_any b W (by omega))
  have CP := mkHid (fun (b cap : Nat) (l : List Nat) (W : World) (hw : Row W b cap l) (hl : l.length ≤ 100000) (okl : M.Ok l) => pack_any b cap l W hw hl okl)
  have HV : Hid (∀ zs : List Nat, M.val zs = M.val (M.dig a) - M.val (M.dig b) → natV (M.val zs) = natV (a - b)) := mkHid (fun zs h => by rw [h, M.val_dig, M.val_dig])
  have OA := mkHid (M.ok_dig a)
  have OB := mkHid (M.ok_dig b)
  have HVB : Hid (M.val (M.dig b) ≤ M.val (M.dig a)) := mkHid (by rw [M.val_dig, M.val_dig]; exact h)
  obtain ⟨ln, hln⟩ : ∃ ln, (M.dig a).length = ln := ⟨_, rfl⟩
  obtain ⟨lm, hlm⟩ : ∃ lm, (M.dig b).length = lm := ⟨_, rfl⟩
  rw [hln] at CWA hlb la
  rw [hlm] at CWB hlb
  have HLN := mkHid hln
  have HLM := mkHid hlm
  unfold natV at CC CB CWA CWB HV ⊢
  clear h ha hz hln hlm
  generalize a % M.B = al at *
  generalize b % M.B = bl at *
  generalize hs a = ah at *
  generalize hs b = bh at *
  generalize hs (a - b) = h3 at *
  generalize (a - b) % M.B = l3 at *
  go_enter Tryd.func9, Tryd.ntmps9
  go_wp2_with (first
    | (go_at_call 14; refine (CC.out _).mono ?_; rintro e w1 ⟨rfl, hb⟩; have HB1 : Hid (Below (w.heap.size + 1 + 1 + 1) (World.box3 w al bl ah bh) w1) := mkHid (hb.mono (by simp)); obtain ⟨ha10, ha11, haf10, haf11⟩ := (box3_a w al bl ah bh).below HB1.out (by omega); obtain ⟨hb10, hb11, hbf10, hbf11⟩ := (box3_b w al bl ah bh).below HB1.out (by omega); clear hb)
    | (go_at_call 35; refine (CB.out _).mono ?_; rintro e w2 ⟨rfl, hb⟩; have HB2 : Hid (Below (w.heap.size + 1 + 1 + 1) (World.box3 w al bl ah bh) w2) := mkHid (HB1.out.trans (hb.mono (by have := HB1.out.size; rw [box3_size] at this; exact this))); clear hb ha10 ha11 haf10 haf11 hb10 hb11 hbf10 hbf11; obtain ⟨ha10, ha11, haf10, haf11⟩ := (box3_a w al bl ah bh).below HB2.out (by omega))
    | (go_at_call_of 36 (Value.agg #[.int .u64 (al : Int), .string ah]); refine (CWA.out _).mono ?_; rintro e w3 ⟨bx, cx, rfl, H3⟩; have HB3 : Hid (Below (w.heap.size + 1 + 1 + 1) (World.box3 w al bl ah bh) w3) := mkHid (HB2.out.trans (H3.out.2.2.1.mono (by have := HB2.out.size; rw [box3_size] at this; exact this))); clear ha10 ha11 haf10 haf11; obtain ⟨hb10, hb11, hbf10, hbf11⟩ := (box3_b w al bl ah bh).below HB3.out (by omega))
    | (go_at_call_of 36 (Value.agg #[.int .u64 (bl : Int), .string bh]); refine (CWB.out _).mono ?_; rintro e w4 ⟨by', cy, rfl, H4⟩))
  have HS2 := mkHid HB2.out.size
  rw [box3_size] at HS2
  have T := mkHid (two_words (w := w) (B := w.heap.size + 1 + 1 + 1) (p := w.heap.size + 1 + 1) (h := ⟨#[]⟩) ⟨(box3_c w al bl ah bh).below HB2.out (by omega), (box3_below w al bl ah bh).trans (HB2.out.mono (by omega)), HS2.out⟩ H3.out ⟨rfl, rfl, rfl, rfl⟩ H4.out ⟨rfl, rfl, rfl, rfl⟩)
  clear hb10 hb11 hbf10 hbf11 HB1 HB2 HB3 HS2 H3 H4 CC CB CWA CWB
  have CSW := mkHid (subWords_any bx 0 cx by' 0 cy (M.dig a) (M.dig b) w4 T.out.2.2.2.2.2.1.words T.out.2.2.2.2.2.2.words (by have := T.out.2.2.2.2.1; omega) (by rw [HLN.out, HLM.out]; exact hlb) HVB.out (by rw [HLN.out]; omega) OA.out OB.out)
  rw [HLN.out, HLM.out] at CSW
  refine CSW.out.mono ?_
  clear CSW
  rintro e w5 ⟨rfl, zs, R⟩
  have R2 := mkHid (T.out.2.2.2.2.2.1.after R.out.2.2.2.2 R.out.2.2.2.1 (by rw [R.out.1, ← HLN.out]; exact T.out.2.2.2.2.2.1.cap.2))
  have HB5 := mkHid (T.out.2.1.trans (R.out.2.2.2.2.toBelow (by have := T.out.2.2.2.1; omega) T.out.2.1.size))
  have HA5 := mkHid (At2.below T.out.1 (R.out.2.2.2.2.toBelow (B := w.heap.size + 1 + 1 + 1) T.out.2.2.2.1 T.out.2.2.1) (by omega))
  have CPZ := mkHid (fun W hw => CP.out bx cx zs W hw (by rw [R.out.1]; omega) R.out.2.1)
  have HZV := HV.out zs R.out.2.2.1
  have HZL := R.out.1
  unfold natV at CPZ
  rw [HZV, HZL] at CPZ
  clear HZV HZL
  go_wp2_with (go_at_call 38; refine (CPZ.out _ R2.out).mono ?_; rintro e w6 ⟨rfl, hb⟩; have HB6 := mkHid hb; obtain ⟨h10, h11, hf10, hf11⟩ := HA5.out.past hb ⟨rfl, rfl, rfl, rfl⟩; clear hb)
  refine bodyPost_ret (v := .tuple #[.agg #[.int .u64 (l3 : Int), .string h3], .bool true]) (by simp [results, Tryd.results9, go_sem, h10, h11]) rfl ⟨rfl, ?_⟩
  exact setCells_below (below_past HB5.out HB6.out ⟨rfl, rfl, rfl, rfl⟩ HB5.out.size) _ (by omega) _ _

theorem sub_any (a b : Nat) (w : World) (la : (M.dig a).length ≤ 90000) :
    Calls Tryd.prog 9 #[natV a, natV b] w fun e w' => e = .returned (.tuple #[natV (a - b), .bool (decide (b ≤ a))]) ∧ Below w.heap.size w w' := by
  by_cases h : a < b
  · rw [show a - b = 0 by omega, decide_eq_false (by omega)]
    exact sub_less a b w h
  · rw [decide_eq_true (show b ≤ a by omega)]
    rcases Nat.lt_or_ge a M.B with ha | ha
    · exact sub_small a b w (by omega) ha
    · exact sub_large a b w (by omega) ha la

end Go.Proofs.YtjdkbbggelpchaaDoor
