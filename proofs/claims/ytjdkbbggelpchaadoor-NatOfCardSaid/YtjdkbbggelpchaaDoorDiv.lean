/- The contract of Div. -/
import Derived.Test.YtjdkbbggelpchaaDoorMul
import Derived.Test.YtjdkbbggelpchaaDoorDivW
import Derived.Test.YtjdkbbggelpchaaDoorScale
import Derived.Deep.RegionHeld3
namespace Go.Proofs.YtjdkbbggelpchaaDoor
open Go.RowKit

/-- Four numbers are boxed: two that came in, and two results. -/
def World.box4 (w : World) (la lb : Nat) (ha hb : ByteArray) : World := (World.box3 w la lb ha hb).alloc (.cells #[.int .u64 0, .string ⟨#[]⟩] 26)
theorem box4_a (w : World) (la lb : Nat) (ha hb : ByteArray) : At2 (World.box4 w la lb ha hb) w.heap.size la ha := (box3_a w la lb ha hb).alloc _
theorem box4_b (w : World) (la lb : Nat) (ha hb : ByteArray) : At2 (World.box4 w la lb ha hb) (w.heap.size + 1) lb hb := (box3_b w la lb ha hb).alloc _
theorem box4_c (w : World) (la lb : Nat) (ha hb : ByteArray) : At2 (World.box4 w la lb ha hb) (w.heap.size + 1 + 1) 0 ⟨#[]⟩ := (box3_c w la lb ha hb).alloc _
theorem box4_d (w : World) (la lb : Nat) (ha hb : ByteArray) : At2 (World.box4 w la lb ha hb) (w.heap.size + 1 + 1 + 1) 0 ⟨#[]⟩ := At2.new _ _ 0 _ (box3_size w la lb ha hb).symm
theorem box4_below (w : World) (la lb : Nat) (ha hb : ByteArray) : Below w.heap.size w (World.box4 w la lb ha hb) :=
  (box3_below w la lb ha hb).alloc (by rw [box3_size]; omega) _
theorem box4_size (w : World) (la lb : Nat) (ha hb : ByteArray) : (World.box4 w la lb ha hb).heap.size = w.heap.size + 1 + 1 + 1 + 1 := by
  have := box3_size w la lb ha hb
  simp [World.box4, this]
theorem box4_past {w w1 W w' : World} {la lb : Nat} {ha hb : ByteArray} (H : Below (w.heap.size + 1 + 1 + 1 + 1) (World.box4 w la lb ha hb) w1) (h : Below W.heap.size W w') (hW : Drawn w1 W) :
    Below (w.heap.size + 1 + 1 + 1 + 1) (World.box4 w la lb ha hb) w' := below_past H h hW (by have := H.size; rw [box4_size] at this; exact this)

set_option maxRecDepth 100000 in
set_option maxHeartbeats 1000000 in
theorem div_zero (a : Nat) (w : World) :
    Calls Tryd.prog 16 #[natV a, natV 0] w fun e w' => e = .returned (.tuple #[natV 0, natV 0, .bool false]) ∧ Below w.heap.size w w' := by
  unfold natV
  rw [hs_small M.B_pos, Nat.zero_mod]
  generalize a % M.B = al at *
  generalize hs a = ah at *
  go_enter Tryd.func16, Tryd.ntmps16
  have HB := mkHid (box4_below w al 0 ah ⟨#[]⟩)
  go_wp2
  refine bodyPost_ret (v := .tuple #[.agg #[.int .u64 ((0 : Nat) : Int), .string ⟨#[]⟩], .agg #[.int .u64 ((0 : Nat) : Int), .string ⟨#[]⟩], .bool false]) (by simp [results, Tryd.results16, go_sem]) rfl ⟨rfl, ?_⟩
  exact HB.out

set_option maxRecDepth 100000 in
set_option maxHeartbeats 2000000 in
theorem div_small (a b : Nat) (w : World) (ha : a < M.B) (hb : b < M.B) (h0 : b ≠ 0) :
    Calls Tryd.prog 16 #[natV a, natV b] w fun e w' => e = .returned (.tuple #[natV (a / b), natV (a % b), .bool true]) ∧ Below w.heap.size w w' := by
  have CB := mkHid (fun W => bothSmall_any a b W)
  rw [decide_eq_true (show a < M.B ∧ b < M.B from ⟨ha, hb⟩)] at CB
  have CQ := mkHid (fun W => of_any (a / b) W (Nat.lt_of_le_of_lt (Nat.div_le_self _ _) ha))
  have CR := mkHid (fun W => of_any (a % b) W (Nat.lt_of_le_of_lt (Nat.mod_le _ _) ha))
  have hq : (a : Int) / (b : Int) = ((a / b : Nat) : Int) := by simp
  have hr : (a : Int) % (b : Int) = ((a % b : Nat) : Int) := by simp
  have hq2 : Int.tdiv (a : Int) (b : Int) = ((a / b : Nat) : Int) := rfl
  have hr2 : Int.tmod (a : Int) (b : Int) = ((a % b : Nat) : Int) := rfl
  have hb0 : ¬ (b : Int) = 0 := by omega
  have hb1 : (1 : Int) ≤ (b : Int) := by omega
  have hn1 : ¬ (w.heap.size + 1 + 1 = w.heap.size) := by omega
  have hn2 : ¬ (w.heap.size + 1 + 1 + 1 = w.heap.size) := by omega
  have hn3 : ¬ (w.heap.size + 1 + 1 + 1 = w.heap.size + 1) := by omega
  have ha0 : (0 : Int) ≤ (a : Int) := by omega
  have ha1 : (a : Int) ≤ 18446744073709551615 := by unfold M.B at ha; omega
  have hb2 : (b : Int) ≤ 18446744073709551615 := by unfold M.B at hb; omega
  unfold natV at CB CQ CR ⊢
  rw [Nat.mod_eq_of_lt ha, Nat.mod_eq_of_lt hb] at CB ⊢
  rw [hs_small hb] at CB ⊢
  have hqb : ((a / b : Nat) : Int) ≤ 18446744073709551615 := by have := Nat.div_le_self a b; unfold M.B at ha; omega
  have hrb : ((a % b : Nat) : Int) ≤ 18446744073709551615 := by have := Nat.mod_le a b; unfold M.B at ha; omega
  have hwq : IntKind.u64.wrap ((a / b : Nat) : Int) = ((a / b : Nat) : Int) := by rw [IntKind.wrap_u64]; exact Int.emod_eq_of_lt (Int.natCast_nonneg _) (by omega)
  have hwr : IntKind.u64.wrap ((a % b : Nat) : Int) = ((a % b : Nat) : Int) := by rw [IntKind.wrap_u64]; exact Int.emod_eq_of_lt (Int.natCast_nonneg _) (by omega)
  have hb0n : ¬ b = 0 := h0
  clear ha hb h0
  generalize hs a = ah at *
  generalize hs (a / b) = h3 at *
  generalize hs (a % b) = h4 at *
  generalize (a / b) % M.B = l3 at *
  generalize (a % b) % M.B = l4 at *
  generalize a / b = q at *
  generalize a % b = r at *
  go_enter Tryd.func16, Tryd.ntmps16
  go_upto_region 4 with (go_at_call 35; refine (CB.out _).mono ?_; rintro e w1 ⟨rfl, hb⟩; have HB1 : Hid (Below (w.heap.size + 1 + 1 + 1 + 1) (World.box4 w a b ah ⟨#[]⟩) w1) := mkHid (hb.mono (by simp)); obtain ⟨ha10, ha11, haf10, haf11⟩ := (box4_a w a b ah ⟨#[]⟩).below HB1.out (by omega); obtain ⟨hb10, hb11, hbf10, hbf11⟩ := (box4_b w a b ah ⟨#[]⟩).below HB1.out (by omega); clear hb)
  go_region_held3 (fun W => W.cell? ⟨w.heap.size, 0, none⟩ = some (.int .u64 (a : Int)) ∧ W.cell? ⟨w.heap.size + 1, 0, none⟩ = some (.int .u64 (b : Int))) (first | (constructor <;> with_reducible assumption) | go_keep)
    (first
      | (go_at_call_of 24 (Value.int .u64 (q : Int)); refine (CQ.out _).mono ?_; rintro e w3 ⟨rfl, hb⟩; have HB3 := mkHid (box4_past HB1.out hb ⟨rfl, rfl, rfl, rfl⟩); clear hb; obtain ⟨hc10, hc11, hcf10, hcf11⟩ := (box4_a w a b ah ⟨#[]⟩).below HB3.out (by omega); obtain ⟨hd10, hd11, hdf10, hdf11⟩ := (box4_b w a b ah ⟨#[]⟩).below HB3.out (by omega))
      | (go_at_call_of 24 (Value.int .u64 (r : Int)); refine (CR.out _).mono ?_; rintro e w4 ⟨rfl, hb⟩; have HB4 := mkHid (box4_past HB3.out hb ⟨rfl, rfl, rfl, rfl⟩); clear hb; obtain ⟨he10, he11, hef10, hef11⟩ := (box4_a w a b ah ⟨#[]⟩).below HB4.out (by omega); obtain ⟨hf10, hf11, hff10, hff11⟩ := (box4_b w a b ah ⟨#[]⟩).below HB4.out (by omega); obtain ⟨hg10, hg11, hgf10, hgf11⟩ := (box4_c w a b ah ⟨#[]⟩).below HB4.out (by omega); obtain ⟨hh10, hh11, hhf10, hhf11⟩ := (box4_d w a b ah ⟨#[]⟩).below HB4.out (by omega)))
  go_wp2_with fail
  refine bodyPost_ret (v := .tuple #[.agg #[.int .u64 (l3 : Int), .string h3], .agg #[.int .u64 (l4 : Int), .string h4], .bool true]) (by simp [results, Tryd.results16, go_sem, hg10, hg11, hh10, hh11]) rfl ⟨rfl, ?_⟩
  exact setCells_below (setCells_below ((box4_below w a b ah ⟨#[]⟩).trans (HB4.out.mono (by omega))) _ (by omega) _ _) _ (by omega) _ _

set_option maxRecDepth 100000 in
set_option maxHeartbeats 1000000 in
theorem div_less (a b : Nat) (w : World) (h : a < b) (hb : M.B ≤ b) :
    Calls Tryd.prog 16 #[natV a, natV b] w fun e w' => e = .returned (.tuple #[natV 0, natV a, .bool true]) ∧ Below w.heap.size w w' := by
  have CB := mkHid (fun W => bothSmall_any a b W)
  rw [decide_eq_false (show ¬ (a < M.B ∧ b < M.B) by omega)] at CB
  have CC := mkHid (fun W => cmp_any a b W)
  rw [ci_lt h] at CC
  have hne := hs_ne hb
  unfold natV at CB CC ⊢
  rw [hs_small M.B_pos, Nat.zero_mod]
  clear h hb
  generalize hs a = ah at *
  generalize hs b = bh at *
  generalize a % M.B = al at *
  generalize b % M.B = bl at *
  have hn1 : ¬ (w.heap.size + 1 + 1 = w.heap.size) := by omega
  have hn2 : ¬ (w.heap.size + 1 + 1 + 1 = w.heap.size) := by omega
  go_enter Tryd.func16, Tryd.ntmps16
  go_wp2_with (first
    | (go_at_call 35; refine (CB.out _).mono ?_; rintro e w1 ⟨rfl, hb⟩; have HB1 : Hid (Below (w.heap.size + 1 + 1 + 1 + 1) (World.box4 w al bl ah bh) w1) := mkHid (hb.mono (by simp)); obtain ⟨ha10, ha11, haf10, haf11⟩ := (box4_a w al bl ah bh).below HB1.out (by omega); obtain ⟨hb10, hb11, hbf10, hbf11⟩ := (box4_b w al bl ah bh).below HB1.out (by omega); clear hb)
    | (go_at_call 14; refine (CC.out _).mono ?_; rintro e w2 ⟨rfl, hb⟩; have HB2 : Hid (Below (w.heap.size + 1 + 1 + 1 + 1) (World.box4 w al bl ah bh) w2) := mkHid (box4_past HB1.out hb ⟨rfl, rfl, rfl, rfl⟩); clear hb; obtain ⟨hc10, hc11, hcf10, hcf11⟩ := (box4_a w al bl ah bh).below HB2.out (by omega); obtain ⟨hg10, hg11, hgf10, hgf11⟩ := (box4_c w al bl ah bh).below HB2.out (by omega); obtain ⟨hh10, hh11, hhf10, hhf11⟩ := (box4_d w al bl ah bh).below HB2.out (by omega)))
  go_region_held3 (fun W => W.cell? ⟨w.heap.size, 0, none⟩ = some (.int .u64 (al : Int)) ∧ W.cell? ⟨w.heap.size, 1, none⟩ = some (.string ah)) (first | (constructor <;> with_reducible assumption) | go_keep)
    (fail)
  go_wp2_with fail
  refine bodyPost_ret (v := .tuple #[.agg #[.int .u64 ((0 : Nat) : Int), .string ⟨#[]⟩], .agg #[.int .u64 (al : Int), .string ah], .bool true]) (by simp [results, Tryd.results16, go_sem, hg10, hg11, hh10, hh11]) rfl ⟨rfl, ?_⟩
  have HBX := mkHid ((box4_below w al bl ah bh).trans (HB2.out.mono (by omega)))
  clear CB CC HB1
  first
    | exact setCells_below (setCells_below HBX.out (w.heap.size + 1 + 1) (by omega) _ _) (w.heap.size + 1 + 1 + 1) (by omega) _ _
    | exact setCells_below HBX.out (w.heap.size + 1 + 1 + 1) (by omega) _ _
    | exact setCells_below HBX.out.drew (w.heap.size + 1 + 1 + 1) (by omega) _ _
    | exact setCells_below (setCells_below HBX.out.drew (w.heap.size + 1 + 1) (by omega) _ _) (w.heap.size + 1 + 1 + 1) (by omega) _ _
    | exact (setCells_below (setCells_below HBX.out (w.heap.size + 1 + 1) (by omega) _ _) (w.heap.size + 1 + 1 + 1) (by omega) _ _).drew

set_option maxRecDepth 100000 in
set_option maxHeartbeats 1000000 in
theorem div_word (a b : Nat) (w : World) (ha : M.B ≤ a) (hb : b < M.B) (h0 : b ≠ 0) (la : (M.dig a).length ≤ 90000) :
    Calls Tryd.prog 16 #[natV a, natV b] w fun e w' => e = .returned (.tuple #[natV (a / b), natV (a % b), .bool true]) ∧ Below w.heap.size w w' := by
  have CB := mkHid (fun W => bothSmall_any a b W)
  rw [decide_eq_false (show ¬ (a < M.B ∧ b < M.B) by omega)] at CB
  have CC := mkHid (fun W => cmp_any a b W)
  rw [ci_gt (show b < a by omega)] at CC
  have CW := mkHid (fun W => words_any a W (by omega))
  have CP := mkHid (fun (b cap : Nat) (l : List Nat) (W : World) (hw : Row W b cap l) (hl : l.length ≤ 100000) (okl : M.Ok l) => pack_any b cap l W hw hl okl)
  have CR := mkHid (fun W => of_any (a % b) W (Nat.lt_trans (Nat.mod_lt _ (Nat.pos_of_ne_zero h0)) hb))
  have HV : Hid (∀ zs : List Nat, M.val zs = M.val (M.dig a) / b → natV (M.val zs) = natV (a / b)) := mkHid (fun zs h => by rw [h, M.val_dig])
  have OA := mkHid (M.ok_dig a)
  have VA := mkHid (M.val_dig a)
  have HB0 := mkHid (Nat.pos_of_ne_zero h0)
  have HBB := mkHid hb
  obtain ⟨ln, hln⟩ : ∃ ln, (M.dig a).length = ln := ⟨_, rfl⟩
  rw [hln] at CW la
  have HLN := mkHid hln
  have hb0 : ¬ (b : Int) = 0 := by omega
  unfold natV at CB CC CW CR HV ⊢
  rw [Nat.mod_eq_of_lt hb] at CB CC ⊢
  rw [hs_small hb] at CB CC ⊢
  have hb0n : ¬ b = 0 := h0
  clear ha hb h0 hln
  generalize hs a = ah at *
  generalize a % M.B = al at *
  generalize hs (a / b) = h3 at *
  generalize hs (a % b) = h4 at *
  generalize (a / b) % M.B = l3 at *
  generalize (a % b) % M.B = l4 at *
  have HR : Hid (M.val (M.dig a) % b = a % b) := mkHid (by rw [VA.out])
  generalize a % b = r at *
  go_enter Tryd.func16, Tryd.ntmps16
  go_wp2_with (first
    | (go_at_call 35; refine (CB.out _).mono ?_; rintro e w1 ⟨rfl, hb⟩; have HB1 : Hid (Below (w.heap.size + 1 + 1 + 1 + 1) (World.box4 w al b ah ⟨#[]⟩) w1) := mkHid (hb.mono (by simp)); obtain ⟨ha10, ha11, haf10, haf11⟩ := (box4_a w al b ah ⟨#[]⟩).below HB1.out (by omega); obtain ⟨hb10, hb11, hbf10, hbf11⟩ := (box4_b w al b ah ⟨#[]⟩).below HB1.out (by omega); clear hb)
    | (go_at_call 14; refine (CC.out _).mono ?_; rintro e w2 ⟨rfl, hb⟩; have HB2 : Hid (Below (w.heap.size + 1 + 1 + 1 + 1) (World.box4 w al b ah ⟨#[]⟩) w2) := mkHid (box4_past HB1.out hb ⟨rfl, rfl, rfl, rfl⟩); clear hb; obtain ⟨hc10, hc11, hcf10, hcf11⟩ := (box4_a w al b ah ⟨#[]⟩).below HB2.out (by omega); obtain ⟨hd10, hd11, hdf10, hdf11⟩ := (box4_b w al b ah ⟨#[]⟩).below HB2.out (by omega))
    | (go_at_call 36; refine (CW.out _).mono ?_; rintro e w3 ⟨bx, cx, rfl, H3⟩; have HB3 := mkHid (box4_past HB2.out H3.out.2.2.1 ⟨rfl, rfl, rfl, rfl⟩); obtain ⟨he10, he11, hef10, hef11⟩ := (box4_b w al b ah ⟨#[]⟩).below HB3.out (by omega)))
  have CD := mkHid (divideByWord_any bx 0 cx b (M.dig a) w3 H3.out.2.1.words (by rw [HLN.out]; omega) OA.out HB0.out HBB.out)
  rw [HLN.out, HR.out] at CD
  refine CD.out.mono ?_
  clear CD
  rintro e w4 ⟨rfl, zs, R⟩
  have HS2 := mkHid HB2.out.size
  rw [box4_size] at HS2
  have RX := mkHid (H3.out.2.1.after R.out.2.2.2.2 R.out.2.2.2.1 (by rw [R.out.1, ← HLN.out]; exact H3.out.2.1.cap.2))
  have HB4 := mkHid (HB3.out.trans (R.out.2.2.2.2.toBelow (B := w.heap.size + 1 + 1 + 1 + 1) (Nat.le_trans HS2.out H3.out.1) (by have := HB3.out.size; rw [box4_size] at this; exact this)))
  have CPZ := mkHid (fun W hw => CP.out bx cx zs W hw (by rw [R.out.1]; omega) R.out.2.1)
  have HZV := HV.out zs R.out.2.2.1
  have HZL := R.out.1
  unfold natV at CPZ
  rw [HZV, HZL] at CPZ
  clear HZV HZL
  go_wp2_with (first
    | (go_at_call 38; refine (CPZ.out _ RX.out).mono ?_; rintro e w5 ⟨rfl, hb⟩; have HB5 := mkHid (box4_past HB4.out hb ⟨rfl, rfl, rfl, rfl⟩); clear hb)
    | (go_at_call 24; refine (CR.out _).mono ?_; rintro e w6 ⟨rfl, hb⟩; have HB6 := mkHid (box4_past HB5.out hb ⟨rfl, rfl, rfl, rfl⟩); clear hb; obtain ⟨hg10, hg11, hgf10, hgf11⟩ := (box4_c w al b ah ⟨#[]⟩).below HB6.out (by omega); obtain ⟨hh10, hh11, hhf10, hhf11⟩ := (box4_d w al b ah ⟨#[]⟩).below HB6.out (by omega)))
  refine bodyPost_ret (v := .tuple #[.agg #[.int .u64 (l3 : Int), .string h3], .agg #[.int .u64 (l4 : Int), .string h4], .bool true]) (by simp [results, Tryd.results16, go_sem, hg10, hg11, hh10, hh11]) rfl ⟨rfl, ?_⟩
  exact setCells_below (setCells_below ((box4_below w al b ah ⟨#[]⟩).trans (HB6.out.mono (by omega))) _ (by omega) _ _) _ (by omega) _ _

end Go.Proofs.YtjdkbbggelpchaaDoor
