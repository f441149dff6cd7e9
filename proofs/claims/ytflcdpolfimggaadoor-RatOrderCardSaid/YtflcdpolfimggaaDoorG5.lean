/- Contracts, laid one behind the other: Div Div2 Gcd2 Gcd3 Fmt Build Dec Text. -/
import Derived.Test.YtflcdpolfimggaaDoorG4
import Derived.Deep.RegionHeld3
import Derived.Test.YtflcdpolfimggaaDoorG3
import Derived.Test.YtflcdpolfimggaaDoorG1
import Derived.Lib.ItoaMem
import Derived.Lib.ItoaLen
import Derived.IntWalk
import Derived.Lib.Builder
import Derived.Lib.AppendStr
import Derived.Lib.Strings
import Derived.Lib.Walk
import Derived.Lib.ItoaNum
import Derived.Outline
namespace Go.Proofs.YtflcdpolfimggaaDoor
open Go.RowKit

/-- Four numbers are boxed: two that came in, and two results. -/
def World.box4 (w : World) (la lb : Nat) (ha hb : ByteArray) : World := (World.box3 w la lb ha hb).alloc (.cells #[.int .u64 0, .string ⟨#[]⟩] 24)
theorem box4_a (w : World) (la lb : Nat) (ha hb : ByteArray) : At2 (World.box4 w la lb ha hb) w.heap.size la ha := (box3_a w la lb ha hb).alloc _
theorem box4_b (w : World) (la lb : Nat) (ha hb : ByteArray) : At2 (World.box4 w la lb ha hb) (w.heap.size + 1) lb hb := (box3_b w la lb ha hb).alloc _
theorem box4_c (w : World) (la lb : Nat) (ha hb : ByteArray) : At2 (World.box4 w la lb ha hb) (w.heap.size + 1 + 1) 0 ⟨#[]⟩ := (box3_c w la lb ha hb).alloc _
theorem box4_d (w : World) (la lb : Nat) (ha hb : ByteArray) : At2 (World.box4 w la lb ha hb) (w.heap.size + 1 + 1 + 1) 0 ⟨#[]⟩ := At2.new _ _ 0 _ (box3_size w la lb ha hb).symm
theorem box4_below (w : World) (la lb : Nat) (ha hb : ByteArray) : Below w.heap.size w (World.box4 w la lb ha hb) :=
  (box3_below w la lb ha hb).alloc (by rw [box3_size]; omega) _
theorem box4_size (w : World) (la lb : Nat) (ha hb : ByteArray) : (World.box4 w la lb ha hb).heap.size = w.heap.size + 1 + 1 + 1 + 1 := by
  have := box3_size w la lb ha hb
  simp [World.box4, this]
theorem box4_past {w w1 W w' : World} {la lb : Nat} {ha hb : ByteArray} (H : Below (w.heap.size + 1 + 1 + 1 + 1) (World.box4 w la lb ha hb) w1) (h : Below W.heap.size W w') (hW : Drawn w1 W) :
    Below (w.heap.size + 1 + 1 + 1 + 1) (World.box4 w la lb ha hb) w' := below_past H h hW (by have := H.size; rw [box4_size] at this; exact this)

set_option maxRecDepth 100000 in
set_option maxHeartbeats 1000000 in
theorem div_zero (a : Nat) (w : World) :
    Calls Tryd.prog 50 #[natV a, natV 0] w fun e w' => e = .returned (.tuple #[natV 0, natV 0, .bool false]) ∧ Below w.heap.size w w' := by
  unfold natV
  rw [hs_small M.B_pos, Nat.zero_mod]
  generalize a % M.B = al at *
  generalize hs a = ah at *
  go_enter Tryd.func50, Tryd.ntmps50
  have HB := mkHid (box4_below w al 0 ah ⟨#[]⟩)
  go_wp2
  refine bodyPost_ret (v := .tuple #[.agg #[.int .u64 ((0 : Nat) : Int), .string ⟨#[]⟩], .agg #[.int .u64 ((0 : Nat) : Int), .string ⟨#[]⟩], .bool false]) (by simp [results, Tryd.results50, go_sem]) rfl ⟨rfl, ?_⟩
  exact HB.out

set_option maxRecDepth 100000 in
set_option maxHeartbeats 2000000 in
theorem div_small (a b : Nat) (w : World) (ha : a < M.B) (hb : b < M.B) (h0 : b ≠ 0) :
    Calls Tryd.prog 50 #[natV a, natV b] w fun e w' => e = .returned (.tuple #[natV (a / b), natV (a % b), .bool true]) ∧ Below w.heap.size w w' := by
  have CB := mkHid (fun W => bothSmall_any a b W)
  rw [decide_eq_true (show a < M.B ∧ b < M.B from ⟨ha, hb⟩)] at CB
  have CQ := mkHid (fun W => of_any (a / b) W (Nat.lt_of_le_of_lt (Nat.div_le_self _ _) ha))
  have CR := mkHid (fun W => of_any (a % b) W (Nat.lt_of_le_of_lt (Nat.mod_le _ _) ha))
  have hq : (a : Int) / (b : Int) = ((a / b : Nat) : Int) := by simp
  have hr : (a : Int) % (b : Int) = ((a % b : Nat) : Int) := by simp
  have hq2 : Int.tdiv (a : Int) (b : Int) = ((a / b : Nat) : Int) := rfl
  have hr2 : Int.tmod (a : Int) (b : Int) = ((a % b : Nat) : Int) := rfl
  have hb0 : ¬ (b : Int) = 0 := by omega
  have hb1 : (1 : Int) ≤ (b : Int) := by omega
  have hn1 : ¬ (w.heap.size + 1 + 1 = w.heap.size) := by omega
  have hn2 : ¬ (w.heap.size + 1 + 1 + 1 = w.heap.size) := by omega
  have hn3 : ¬ (w.heap.size + 1 + 1 + 1 = w.heap.size + 1) := by omega
  have ha0 : (0 : Int) ≤ (a : Int) := by omega
  have ha1 : (a : Int) ≤ 18446744073709551615 := by unfold M.B at ha; omega
  have hb2 : (b : Int) ≤ 18446744073709551615 := by unfold M.B at hb; omega
  unfold natV at CB CQ CR ⊢
  rw [Nat.mod_eq_of_lt ha, Nat.mod_eq_of_lt hb] at CB ⊢
  rw [hs_small hb] at CB ⊢
  have hqb : ((a / b : Nat) : Int) ≤ 18446744073709551615 := by have := Nat.div_le_self a b; unfold M.B at ha; omega
  have hrb : ((a % b : Nat) : Int) ≤ 18446744073709551615 := by have := Nat.mod_le a b; unfold M.B at ha; omega
  have hwq : IntKind.u64.wrap ((a / b : Nat) : Int) = ((a / b : Nat) : Int) := by rw [IntKind.wrap_u64]; exact Int.emod_eq_of_lt (Int.natCast_nonneg _) (by omega)
  have hwr : IntKind.u64.wrap ((a % b : Nat) : Int) = ((a % b : Nat) : Int) := by rw [IntKind.wrap_u64]; exact Int.emod_eq_of_lt (Int.natCast_nonneg _) (by omega)
  have hb0n : ¬ b = 0 := h0
  clear ha hb h0
  generalize hs a = ah at *
  generalize hs (a / b) = h3 at *
  generalize hs (a % b) = h4 at *
  generalize (a / b) % M.B = l3 at *
  generalize (a % b) % M.B = l4 at *
  generalize a / b = q at *
  generalize a % b = r at *
  go_enter Tryd.func50, Tryd.ntmps50
  go_upto_region 4 with (go_at_call 51; refine (CB.out _).mono ?_; rintro e w1 ⟨rfl, hb⟩; have HB1 : Hid (Below (w.heap.size + 1 + 1 + 1 + 1) (World.box4 w a b ah ⟨#[]⟩) w1) := mkHid (hb.mono (by simp)); obtain ⟨ha10, ha11, haf10, haf11⟩ := (box4_a w a b ah ⟨#[]⟩).below HB1.out (by omega); obtain ⟨hb10, hb11, hbf10, hbf11⟩ := (box4_b w a b ah ⟨#[]⟩).below HB1.out (by omega); clear hb)
  go_region_held3 (fun W => W.cell? ⟨w.heap.size, 0, none⟩ = some (.int .u64 (a : Int)) ∧ W.cell? ⟨w.heap.size + 1, 0, none⟩ = some (.int .u64 (b : Int))) (first | (constructor <;> with_reducible assumption) | go_keep)
    (first
      | (go_at_call_of 37 (Value.int .u64 (q : Int)); refine (CQ.out _).mono ?_; rintro e w3 ⟨rfl, hb⟩; have HB3 := mkHid (box4_past HB1.out hb ⟨rfl, rfl, rfl, rfl⟩); clear hb; obtain ⟨hc10, hc11, hcf10, hcf11⟩ := (box4_a w a b ah ⟨#[]⟩).below HB3.out (by omega); obtain ⟨hd10, hd11, hdf10, hdf11⟩ := (box4_b w a b ah ⟨#[]⟩).below HB3.out (by omega))
      | (go_at_call_of 37 (Value.int .u64 (r : Int)); refine (CR.out _).mono ?_; rintro e w4 ⟨rfl, hb⟩; have HB4 := mkHid (box4_past HB3.out hb ⟨rfl, rfl, rfl, rfl⟩); clear hb; obtain ⟨he10, he11, hef10, hef11⟩ := (box4_a w a b ah ⟨#[]⟩).below HB4.out (by omega); obtain ⟨hf10, hf11, hff10, hff11⟩ := (box4_b w a b ah ⟨#[]⟩).below HB4.out (by omega); obtain ⟨hg10, hg11, hgf10, hgf11⟩ := (box4_c w a b ah ⟨#[]⟩).below HB4.out (by omega); obtain ⟨hh10, hh11, hhf10, hhf11⟩ := (box4_d w a b ah ⟨#[]⟩).below HB4.out (by omega)))
  go_wp2_with fail
  refine bodyPost_ret (v := .tuple #[.agg #[.int .u64 (l3 : Int), .string h3], .agg #[.int .u64 (l4 : Int), .string h4], .bool true]) (by simp [results, Tryd.results50, go_sem, hg10, hg11, hh10, hh11]) rfl ⟨rfl, ?_⟩
  exact setCells_below (setCells_below ((box4_below w a b ah ⟨#[]⟩).trans (HB4.out.mono (by omega))) _ (by omega) _ _) _ (by omega) _ _

set_option maxRecDepth 100000 in
set_option maxHeartbeats 1000000 in
theorem div_less (a b : Nat) (w : World) (h : a < b) (hb : M.B ≤ b) :
    Calls Tryd.prog 50 #[natV a, natV b] w fun e w' => e = .returned (.tuple #[natV 0, natV a, .bool true]) ∧ Below w.heap.size w w' := by
  have CB := mkHid (fun W => bothSmall_any a b W)
  rw [decide_eq_false (show ¬ (a < M.B ∧ b < M.B) by omega)] at CB
  have CC := mkHid (fun W => cmp_any a b W)
  rw [ci_lt h] at CC
  have hne := hs_ne hb
  unfold natV at CB CC ⊢
  rw [hs_small M.B_pos, Nat.zero_mod]
  clear h hb
  generalize hs a = ah at *
  generalize hs b = bh at *
  generalize a % M.B = al at *
  generalize b % M.B = bl at *
  have hn1 : ¬ (w.heap.size + 1 + 1 = w.heap.size) := by omega
  have hn2 : ¬ (w.heap.size + 1 + 1 + 1 = w.heap.size) := by omega
  go_enter Tryd.func50, Tryd.ntmps50
  go_wp2_with (first
    | (go_at_call 51; refine (CB.out _).mono ?_; rintro e w1 ⟨rfl, hb⟩; have HB1 : Hid (Below (w.heap.size + 1 + 1 + 1 + 1) (World.box4 w al bl ah bh) w1) := mkHid (hb.mono (by simp)); obtain ⟨ha10, ha11, haf10, haf11⟩ := (box4_a w al bl ah bh).below HB1.out (by omega); obtain ⟨hb10, hb11, hbf10, hbf11⟩ := (box4_b w al bl ah bh).below HB1.out (by omega); clear hb)
    | (go_at_call 48; refine (CC.out _).mono ?_; rintro e w2 ⟨rfl, hb⟩; have HB2 : Hid (Below (w.heap.size + 1 + 1 + 1 + 1) (World.box4 w al bl ah bh) w2) := mkHid (box4_past HB1.out hb ⟨rfl, rfl, rfl, rfl⟩); clear hb; obtain ⟨hc10, hc11, hcf10, hcf11⟩ := (box4_a w al bl ah bh).below HB2.out (by omega); obtain ⟨hg10, hg11, hgf10, hgf11⟩ := (box4_c w al bl ah bh).below HB2.out (by omega); obtain ⟨hh10, hh11, hhf10, hhf11⟩ := (box4_d w al bl ah bh).below HB2.out (by omega)))
  go_region_held3 (fun W => W.cell? ⟨w.heap.size, 0, none⟩ = some (.int .u64 (al : Int)) ∧ W.cell? ⟨w.heap.size, 1, none⟩ = some (.string ah)) (first | (constructor <;> with_reducible assumption) | go_keep)
    (fail)
  go_wp2_with fail
  refine bodyPost_ret (v := .tuple #[.agg #[.int .u64 ((0 : Nat) : Int), .string ⟨#[]⟩], .agg #[.int .u64 (al : Int), .string ah], .bool true]) (by simp [results, Tryd.results50, go_sem, hg10, hg11, hh10, hh11]) rfl ⟨rfl, ?_⟩
  have HBX := mkHid ((box4_below w al bl ah bh).trans (HB2.out.mono (by omega)))
  clear CB CC HB1
  first
    | exact setCells_below (setCells_below HBX.out (w.heap.size + 1 + 1) (by omega) _ _) (w.heap.size + 1 + 1 + 1) (by omega) _ _
    | exact setCells_below HBX.out (w.heap.size + 1 + 1 + 1) (by omega) _ _
    | exact setCells_below HBX.out.drew (w.heap.size + 1 + 1 + 1) (by omega) _ _
    | exact setCells_below (setCells_below HBX.out.drew (w.heap.size + 1 + 1) (by omega) _ _) (w.heap.size + 1 + 1 + 1) (by omega) _ _
    | exact (setCells_below (setCells_below HBX.out (w.heap.size + 1 + 1) (by omega) _ _) (w.heap.size + 1 + 1 + 1) (by omega) _ _).drew

set_option maxRecDepth 100000 in
set_option maxHeartbeats 1000000 in
theorem div_word (a b : Nat) (w : World) (ha : M.B ≤ a) (hb : b < M.B) (h0 : b ≠ 0) (la : (M.dig a).length ≤ 90000) :
    Calls Tryd.prog 50 #[natV a, natV b] w fun e w' => e = .returned (.tuple #[natV (a / b), natV (a % b), .bool true]) ∧ Below w.heap.size w w' := by
  have CB := mkHid (fun W => bothSmall_any a b W)
  rw [decide_eq_false (show ¬ (a < M.B ∧ b < M.B) by omega)] at CB
  have CC := mkHid (fun W => cmp_any a b W)
  rw [ci_gt (show b < a by omega)] at CC
  have CW := mkHid (fun W => words_any a W (by omega))
  have CP := mkHid (fun (b cap : Nat) (l : List Nat) (W : World) (hw : Row W b cap l) (hl : l.length ≤ 100000) (okl : M.Ok l) => pack_any b cap l W hw hl okl)
  have CR := mkHid (fun W => of_any (a % b) W (Nat.lt_trans (Nat.mod_lt _ (Nat.pos_of_ne_zero h0)) hb))
  have HV : Hid (∀ zs : List Nat, M.val zs = M.val (M.dig a) / b → natV (M.val zs) = natV (a / b)) := mkHid (fun zs h => by rw [h, M.val_dig])
  have OA := mkHid (M.ok_dig a)
  have VA := mkHid (M.val_dig a)
  have HB0 := mkHid (Nat.pos_of_ne_zero h0)
  have HBB := mkHid hb
  obtain ⟨ln, hln⟩ : ∃ ln, (M.dig a).length = ln := ⟨_, rfl⟩
  rw [hln] at CW la
  have HLN := mkHid hln
  have hb0 : ¬ (b : Int) = 0 := by omega
  unfold natV at CB CC CW CR HV ⊢
  rw [Nat.mod_eq_of_lt hb] at CB CC ⊢
  rw [hs_small hb] at CB CC ⊢
  have hb0n : ¬ b = 0 := h0
  clear ha hb h0 hln
  generalize hs a = ah at *
  generalize a % M.B = al at *
  generalize hs (a / b) = h3 at *
  generalize hs (a % b) = h4 at *
  generalize (a / b) % M.B = l3 at *
  generalize (a % b) % M.B = l4 at *
  have HR : Hid (M.val (M.dig a) % b = a % b) := mkHid (by rw [VA.out])
  generalize a % b = r at *
  go_enter Tryd.func50, Tryd.ntmps50
  go_wp2_with (first
    | (go_at_call 51; refine (CB.out _).mono ?_; rintro e w1 ⟨rfl, hb⟩; have HB1 : Hid (Below (w.heap.size + 1 + 1 + 1 + 1) (World.box4 w al b ah ⟨#[]⟩) w1) := mkHid (hb.mono (by simp)); obtain ⟨ha10, ha11, haf10, haf11⟩ := (box4_a w al b ah ⟨#[]⟩).below HB1.out (by omega); obtain ⟨hb10, hb11, hbf10, hbf11⟩ := (box4_b w al b ah ⟨#[]⟩).below HB1.out (by omega); clear hb)
    | (go_at_call 48; refine (CC.out _).mono ?_; rintro e w2 ⟨rfl, hb⟩; have HB2 : Hid (Below (w.heap.size + 1 + 1 + 1 + 1) (World.box4 w al b ah ⟨#[]⟩) w2) := mkHid (box4_past HB1.out hb ⟨rfl, rfl, rfl, rfl⟩); clear hb; obtain ⟨hc10, hc11, hcf10, hcf11⟩ := (box4_a w al b ah ⟨#[]⟩).below HB2.out (by omega); obtain ⟨hd10, hd11, hdf10, hdf11⟩ := (box4_b w al b ah ⟨#[]⟩).below HB2.out (by omega))
    | (go_at_call 55; refine (CW.out _).mono ?_; rintro e w3 ⟨bx, cx, rfl, H3⟩; have HB3 := mkHid (box4_past HB2.out H3.out.2.2.1 ⟨rfl, rfl, rfl, rfl⟩); obtain ⟨he10, he11, hef10, hef11⟩ := (box4_b w al b ah ⟨#[]⟩).below HB3.out (by omega)))
  have CD := mkHid (divideByWord_any bx 0 cx b (M.dig a) w3 H3.out.2.1.words (by rw [HLN.out]; omega) OA.out HB0.out HBB.out)
  rw [HLN.out, HR.out] at CD
  refine CD.out.mono ?_
  clear CD
  rintro e w4 ⟨rfl, zs, R⟩
  have HS2 := mkHid HB2.out.size
  rw [box4_size] at HS2
  have RX := mkHid (H3.out.2.1.after R.out.2.2.2.2 R.out.2.2.2.1 (by rw [R.out.1, ← HLN.out]; exact H3.out.2.1.cap.2))
  have HB4 := mkHid (HB3.out.trans (R.out.2.2.2.2.toBelow (B := w.heap.size + 1 + 1 + 1 + 1) (Nat.le_trans HS2.out H3.out.1) (by have := HB3.out.size; rw [box4_size] at this; exact this)))
  have CPZ := mkHid (fun W hw => CP.out bx cx zs W hw (by rw [R.out.1]; omega) R.out.2.1)
  have HZV := HV.out zs R.out.2.2.1
  have HZL := R.out.1
  unfold natV at CPZ
  rw [HZV, HZL] at CPZ
  clear HZV HZL
  go_wp2_with (first
    | (go_at_call 53; refine (CPZ.out _ RX.out).mono ?_; rintro e w5 ⟨rfl, hb⟩; have HB5 := mkHid (box4_past HB4.out hb ⟨rfl, rfl, rfl, rfl⟩); clear hb)
    | (go_at_call 37; refine (CR.out _).mono ?_; rintro e w6 ⟨rfl, hb⟩; have HB6 := mkHid (box4_past HB5.out hb ⟨rfl, rfl, rfl, rfl⟩); clear hb; obtain ⟨hg10, hg11, hgf10, hgf11⟩ := (box4_c w al b ah ⟨#[]⟩).below HB6.out (by omega); obtain ⟨hh10, hh11, hhf10, hhf11⟩ := (box4_d w al b ah ⟨#[]⟩).below HB6.out (by omega)))
  refine bodyPost_ret (v := .tuple #[.agg #[.int .u64 (l3 : Int), .string h3], .agg #[.int .u64 (l4 : Int), .string h4], .bool true]) (by simp [results, Tryd.results50, go_sem, hg10, hg11, hh10, hh11]) rfl ⟨rfl, ?_⟩
  exact setCells_below (setCells_below ((box4_below w al b ah ⟨#[]⟩).trans (HB6.out.mono (by omega))) _ (by omega) _ _) _ (by omega) _ _

end Go.Proofs.YtflcdpolfimggaaDoor
namespace Go.Proofs.YtflcdpolfimggaaDoor
open Go.RowKit

set_option maxRecDepth 100000 in
set_option maxHeartbeats 2000000 in
theorem div_words (a b : Nat) (w : World) (hb : M.B ≤ b) (h : b ≤ a) (la : (M.dig a).length ≤ 90000) :
    Calls Tryd.prog 50 #[natV a, natV b] w fun e w' => e = .returned (.tuple #[natV (a / b), natV (a % b), .bool true]) ∧ Below w.heap.size w w' := by
  have CB := mkHid (fun W => bothSmall_any a b W)
  rw [decide_eq_false (show ¬ (a < M.B ∧ b < M.B) by omega)] at CB
  have CC := mkHid (fun W => cmp_any a b W)
  obtain ⟨z, hz⟩ : ∃ z, Lib.compareInt (a : Int) b = z := ⟨_, rfl⟩
  have hz0 : ¬ z < 0 := by
    rw [← hz]
    rcases Nat.lt_or_ge b a with h2 | h2
    · rw [ci_gt h2]; decide
    · rw [show a = b by omega, ci_eq]; decide
  rw [hz] at CC
  have hlb : (M.dig b).length ≤ (M.dig a).length := M.dig_length_le.2 (by have := M.dig_length_le (n := a) |>.1 (Nat.le_refl _); omega)
  have hl2 := M.le_dig_length (n := b) (k := 1) (by rw [Nat.pow_one]; exact hb)
  have hlr : (M.dig (a % b)).length ≤ (M.dig b).length := M.dig_length_le.2 (by
    have h1 := M.dig_length_le (n := b) |>.1 (Nat.le_refl _)
    have h2 := Nat.mod_lt a (show 0 < b by have := M.B_pos; omega)
    omega)
  have CWA := mkHid (fun W => words_any a W (by omega))
  have CWB := mkHid (fun W => words_any b W (by omega))
  obtain ⟨n, hn⟩ : ∃ n, (M.dig b).length = n + 2 := ⟨(M.dig b).length - 2, by omega⟩
  obtain ⟨m, hm⟩ : ∃ m, (M.dig a).length = m := ⟨_, rfl⟩
  have hnm : n + 2 ≤ m := by omega
  have hm9 : m ≤ 90000 := by omega
  have CD := mkHid (fun (bx cx by' cy : Nat) (W : World) (hx : Words W bx 0 (M.dig a)) (hy : Words W by' 0 (M.dig b)) => divideWords_any bx cx by' cy a b n m W hx hy hm hn hnm (by omega))
  obtain ⟨lr, hr⟩ : ∃ lr, (M.dig (a % b)).length = lr := ⟨_, rfl⟩
  have CQ : Hid (∀ (bq cq : Nat) (qs : List Nat) (W : World), Row W bq cq qs → qs.length = m - (n + 2) + 1 → M.Ok qs → M.val qs = a / b → Calls Tryd.prog 53 #[.slice (some ⟨bq, 0, none⟩) (m - (n + 2) + 1) cq] W fun e w' => e = .returned (natV (a / b)) ∧ Below W.heap.size W w') := mkHid (fun bq cq qs W hw hl okl hv => by
    have := pack_any bq cq qs W hw (by omega) okl
    rwa [hv, hl] at this)
  have CR : Hid (∀ (br cr : Nat) (W : World), Row W br cr (M.dig (a % b)) → Calls Tryd.prog 53 #[.slice (some ⟨br, 0, none⟩) lr cr] W fun e w' => e = .returned (natV (a % b)) ∧ Below W.heap.size W w') := mkHid (fun br cr W hw => by
    have := pack_any br cr _ W hw (by omega) (M.ok_dig _)
    rwa [M.val_dig, hr] at this)
  rw [hr] at CD
  rw [hm] at CWA
  rw [hn] at CWB
  have hne := hs_ne hb
  unfold natV at CB CC CWA CWB CQ CR ⊢
  clear hz h hlb hl2 hlr hn hm hr la hb
  generalize a % M.B = al at *
  generalize b % M.B = bl at *
  generalize hs a = ah at *
  generalize hs b = bh at *
  generalize hs (a / b) = h3 at *
  generalize hs (a % b) = h4 at *
  generalize (a / b) % M.B = l3 at *
  generalize (a % b) % M.B = l4 at *
  go_enter Tryd.func50, Tryd.ntmps50
  go_upto_region 11 with (first
    | (go_at_call 51; refine (CB.out _).mono ?_; rintro e w1 ⟨rfl, hb⟩; have HB1 : Hid (Below (w.heap.size + 1 + 1 + 1 + 1) (World.box4 w al bl ah bh) w1) := mkHid (hb.mono (by simp)); obtain ⟨ha10, ha11, haf10, haf11⟩ := (box4_a w al bl ah bh).below HB1.out (by omega); obtain ⟨hb10, hb11, hbf10, hbf11⟩ := (box4_b w al bl ah bh).below HB1.out (by omega); clear hb)
    | (go_at_call 48; refine (CC.out _).mono ?_; rintro e w2 ⟨rfl, hb⟩; have HB2 : Hid (Below (w.heap.size + 1 + 1 + 1 + 1) (World.box4 w al bl ah bh) w2) := mkHid (box4_past HB1.out hb ⟨rfl, rfl, rfl, rfl⟩); clear hb; obtain ⟨hc10, hc11, hcf10, hcf11⟩ := (box4_a w al bl ah bh).below HB2.out (by omega); obtain ⟨hd10, hd11, hdf10, hdf11⟩ := (box4_b w al bl ah bh).below HB2.out (by omega)))
  go_cut [9, 10] (fun v9 v10 wx => ∃ bq cq br cr, v9 = .slice (some ⟨bq, 0, none⟩) (m - (n + 2) + 1) cq ∧ v10 = .slice (some ⟨br, 0, none⟩) lr cr ∧ ∃ qs, Hid (Below (w.heap.size + 1 + 1 + 1 + 1) (World.box4 w al bl ah bh) wx ∧ qs.length = m - (n + 2) + 1 ∧ M.Ok qs ∧ M.val qs = a / b ∧ Row wx bq cq qs ∧ Row wx br cr (M.dig (a % b))))
  case first =>
    go_region_with (first
      | (go_at_call_of 55 (Value.agg #[.int .u64 (al : Int), .string ah]); refine (CWA.out _).mono ?_; rintro e w3 ⟨bx, cx, rfl, H3⟩; have HB3 := mkHid (box4_past HB2.out H3.out.2.2.1 ⟨rfl, rfl, rfl, rfl⟩); obtain ⟨h30, h31, hf30, hf31⟩ := (box4_b w al bl ah bh).below HB3.out (by omega))
      | (go_at_call_of 55 (Value.agg #[.int .u64 (bl : Int), .string bh]); refine (CWB.out _).mono ?_; rintro e w4 ⟨by', cy, rfl, H4⟩; have HB4 := mkHid (box4_past HB3.out H4.out.2.2.1 ⟨rfl, rfl, rfl, rfl⟩); have RX4 := mkHid (row_past H3.out.2.1 H4.out.2.2.1 ⟨rfl, rfl, rfl, rfl⟩))
      | (go_at_call 78; refine (CD.out _ _ _ _ _ RX4.out.words H4.out.2.1.words).mono ?_; rintro e w5 ⟨bq, cq, br, cr, rfl, qs, H5⟩; have HB5 := mkHid (box4_past HB4.out H5.out.2.2.2.2.2.2.2 ⟨rfl, rfl, rfl, rfl⟩)))
    all_goals (go_wp2_with fail; go_meet; exact ⟨bq, cq, br, cr, rfl, rfl, qs, mkHid ⟨HB5.out, H5.out.1, H5.out.2.1, H5.out.2.2.1, H5.out.2.2.2.1, H5.out.2.2.2.2.1⟩⟩)
  case rest =>
    obtain ⟨bq, cq, br, cr, rfl, rfl, qs, H⟩ := hcut
    clear HB1 HB2 ha10 ha11 haf10 haf11 hb10 hb11 hbf10 hbf11 hc10 hc11 hcf10 hcf11 hd10 hd11 hdf10 hdf11 CB CC CWA CWB CD
    go_wp2_with fail
    with_reducible refine (CQ.out bq cq qs _ H.out.2.2.2.2.1 H.out.2.1 H.out.2.2.1 H.out.2.2.2.1).mono ?_
    rintro e w6 ⟨rfl, hb⟩
    have HB6 := mkHid (box4_past H.out.1 hb ⟨rfl, rfl, rfl, rfl⟩)
    have RR := mkHid (row_past H.out.2.2.2.2.2 hb ⟨rfl, rfl, rfl, rfl⟩)
    clear hb
    go_wp2_with fail
    with_reducible refine (CR.out br cr _ RR.out).mono ?_
    rintro e w7 ⟨rfl, hb⟩
    have HB7 := mkHid (box4_past HB6.out hb ⟨rfl, rfl, rfl, rfl⟩)
    clear hb
    obtain ⟨hg10, hg11, hgf10, hgf11⟩ := (box4_c w al bl ah bh).below HB7.out (by omega)
    obtain ⟨hh10, hh11, hhf10, hhf11⟩ := (box4_d w al bl ah bh).below HB7.out (by omega)
    go_wp2_with fail
    refine bodyPost_ret (v := .tuple #[.agg #[.int .u64 (l3 : Int), .string h3], .agg #[.int .u64 (l4 : Int), .string h4], .bool true]) (by simp [results, Tryd.results50, go_sem, hg10, hg11, hh10, hh11]) rfl ⟨rfl, ?_⟩
    exact setCells_below (setCells_below ((box4_below w al bl ah bh).trans (HB7.out.mono (by omega))) _ (by omega) _ _) _ (by omega) _ _

theorem div_any (a b : Nat) (w : World) (h0 : b ≠ 0) (la : (M.dig a).length ≤ 90000) :
    Calls Tryd.prog 50 #[natV a, natV b] w fun e w' => e = .returned (.tuple #[natV (a / b), natV (a % b), .bool true]) ∧ Below w.heap.size w w' := by
  rcases Nat.lt_or_ge b M.B with hb | hb
  · rcases Nat.lt_or_ge a M.B with ha | ha
    · exact div_small a b w ha hb h0
    · exact div_word a b w ha hb h0 la
  · rcases Nat.lt_or_ge a b with h | h
    · rw [Nat.div_eq_of_lt h, Nat.mod_eq_of_lt h]
      exact div_less a b w h hb
    · exact div_words a b w hb h la

end Go.Proofs.YtflcdpolfimggaaDoor
namespace Go.Proofs.YtflcdpolfimggaaDoor
open Go.RowKit

set_option maxRecDepth 100000 in
set_option maxHeartbeats 1000000 in
theorem gcd_zero (a b : Nat) (w : World) (h : a = 0 ∨ b = 0) :
    Calls Tryd.prog 26 #[natV a, natV b] w fun e w' => e = .returned (natV (Nat.gcd a b)) ∧ Below w.heap.size w w' := by
  have CC := mkHid (fun W => cmp_any a b W)
  obtain ⟨x, hx⟩ : ∃ x, (Lib.compareInt (a : Int) b < 0 → a = 0 ∧ x = b) ∧ (¬ Lib.compareInt (a : Int) b < 0 → b = 0 ∧ x = a) := by
    by_cases h1 : Lib.compareInt (a : Int) b < 0
    · refine ⟨b, fun _ => ⟨?_, rfl⟩, fun h' => absurd h1 h'⟩
      rcases Nat.lt_or_ge a b with h2 | h2
      · omega
      · rcases Nat.lt_or_ge b a with h3 | h3
        · rw [ci_gt h3] at h1; exact absurd h1 (by decide)
        · omega
    · refine ⟨a, fun h' => absurd h' h1, fun _ => ⟨?_, rfl⟩⟩
      rcases Nat.lt_or_ge a b with h2 | h2
      · rw [ci_lt h2] at h1; exact absurd (by decide) h1
      · omega
  generalize hz : Lib.compareInt (a : Int) b = z at *
  have HX : Hid ((z < 0 → (x % M.B = b % M.B ∧ hs x = hs b) ∧ a % M.B = 0 ∧ hs a = ⟨#[]⟩) ∧ (¬ z < 0 → (x % M.B = a % M.B ∧ hs x = hs a) ∧ b % M.B = 0 ∧ hs b = ⟨#[]⟩)) := mkHid ⟨fun h => by obtain ⟨rfl, rfl⟩ := hx.1 h; exact ⟨⟨rfl, rfl⟩, Nat.zero_mod _, hs_small M.B_pos⟩, fun h => by obtain ⟨rfl, rfl⟩ := hx.2 h; exact ⟨⟨rfl, rfl⟩, Nat.zero_mod _, hs_small M.B_pos⟩⟩
  have hg : Nat.gcd a b = x := by
    by_cases h1 : z < 0
    · obtain ⟨rfl, rfl⟩ := hx.1 h1; exact Nat.gcd_zero_left _
    · obtain ⟨rfl, rfl⟩ := hx.2 h1; exact Nat.gcd_zero_right _
  rw [hg]
  unfold natV at CC ⊢
  clear hx hg hz h
  generalize x % M.B = xl at *
  generalize a % M.B = al at *
  generalize b % M.B = bl at *
  generalize hs x = xh at *
  generalize hs a = ah at *
  generalize hs b = bh at *
  go_enter Tryd.func26, Tryd.ntmps26
  go_upto_if 11 with (go_at_call 48; refine (CC.out _).mono ?_; rintro e w2 ⟨rfl, hb⟩; have HB3 : Hid (Below (w.heap.size + 1 + 1 + 1) (World.box3 w al bl ah bh) w2) := mkHid (hb.mono (by simp)); clear hb)
  have G1 := (box3_a w al bl ah bh).below HB3.out (by omega)
  have G2 := (box3_b w al bl ah bh).below HB3.out (by omega)
  have G3 := (box3_c w al bl ah bh).below HB3.out (by omega)
  have HB4 := mkHid ((box3_below w al bl ah bh).trans (HB3.out.mono (by omega)))
  have HS4 := mkHid HB3.out.size
  rw [box3_size] at HS4
  obtain ⟨h10, h11, hf10, hf11⟩ := G1
  obtain ⟨h20, h21, hf20, hf21⟩ := G2
  go_cut [] (fun wx => At2 wx w.heap.size xl xh ∧ At2 wx (w.heap.size + 1) 0 ⟨#[]⟩ ∧ At2 wx (w.heap.size + 1 + 1) 0 ⟨#[]⟩ ∧ Below w.heap.size w wx ∧ w.heap.size + 1 + 1 + 1 ≤ wx.heap.size)
  case first =>
    go_wp2
    · rename_i ht
      go_meet
      have A1 : At2 w2 w.heap.size al ah := ⟨h10, h11, hf10, hf11⟩
      have A2 : At2 w2 (w.heap.size + 1) bl bh := ⟨h20, h21, hf20, hf21⟩
      have T1 := (A1.set bl bh).setOff (b' := w.heap.size + 1) (by omega) (.int .u64 (al : Int)) (.string ah)
      have T2 := (A2.setOff (b' := w.heap.size) (by omega) (.int .u64 (bl : Int)) (.string bh)).set al ah
      have T3 := (G3.setOff (b' := w.heap.size) (by omega) (.int .u64 (bl : Int)) (.string bh)).setOff (b' := w.heap.size + 1) (by omega) (.int .u64 (al : Int)) (.string ah)
      have T4 := setCells_below (setCells_below HB4.out w.heap.size (Nat.le_refl _) (.int .u64 (bl : Int)) (.string bh)) (w.heap.size + 1) (by omega) (.int .u64 (al : Int)) (.string ah)
      obtain ⟨⟨e1, e2⟩, e3, e4⟩ := HX.out.1 ht
      have hs := HS4.out
      clear HX HB4 HB3 G3 CC
      subst e1 e2 e3 e4
      exact ⟨T1, T2, T3, T4, by simpa using hs⟩
    · rename_i ht
      go_meet
      have A1 : At2 w2 w.heap.size al ah := ⟨h10, h11, hf10, hf11⟩
      have A2 : At2 w2 (w.heap.size + 1) bl bh := ⟨h20, h21, hf20, hf21⟩
      obtain ⟨⟨e1, e2⟩, e3, e4⟩ := HX.out.2 ht
      have hs := HS4.out
      have hbb := HB4.out
      clear HX HB4 HB3 CC
      subst e1 e2 e3 e4
      exact ⟨A1, A2, G3, hbb, hs⟩
  case rest =>
    obtain ⟨⟨ha10, ha11, haf10, haf11⟩, ⟨hb10, hb11, hbf10, hbf11⟩, ⟨hc10, hc11, hcf10, hcf11⟩, hb, hsz⟩ := hcut
    have HBL := mkHid hb
    clear hb hsz HB3 HB4 HS4 G3 CC HX h10 h11 hf10 hf11 h20 h21 hf20 hf21
    go_wp2
    refine bodyPost_ret (v := .agg #[.int .u64 (xl : Int), .string xh]) (by simp [results, Tryd.results26, go_sem, hc10, hc11]) rfl ⟨rfl, ?_⟩
    exact setCells_below HBL.out _ (by omega) _ _

end Go.Proofs.YtflcdpolfimggaaDoor
namespace Go.Proofs.YtflcdpolfimggaaDoor
open Go.RowKit

/-- A number's parts decide that it is not 0. -/
def NotZ (l : Nat) (h : ByteArray) : Prop := (h = ⟨#[]⟩ ∧ ¬ (l : Int) = 0 ∧ ¬ l = 0) ∨ h.toList.isEmpty = false
theorem notZ (n : Nat) (h : n ≠ 0) : NotZ (n % M.B) (hs n) := by
  rcases Nat.lt_or_ge n M.B with h1 | h1
  · refine .inl ⟨hs_small h1, ?_, ?_⟩ <;> rw [Nat.mod_eq_of_lt h1] <;> omega
  · exact .inr (hs_ne h1)
theorem dig_le_of {a b : Nat} (h : a ≤ b) {k : Nat} (hb : (M.dig b).length ≤ k) : (M.dig a).length ≤ k := Nat.le_trans (dig_mono h) hb

theorem grown2 {w wc w3 : World} (h : Below w.heap.size w wc) (k : Below wc.heap.size wc w3) (o p : Obj) : Below w.heap.size w ((w3.alloc o).alloc p) :=
  ((h.trans (k.mono h.size)).alloc (Nat.le_trans h.size k.size) o).alloc (by have := h.size; have := k.size; simp; omega) p

theorem below_then {w w1 W w' : World} {B C : Nat} (H : Below B w w1) (hb : Below C W w') (hW : Drawn w1 W) (hC : B ≤ C) : Below B w w' := by
  obtain ⟨e, e1, e2, e3⟩ := hW
  refine H.trans ⟨hb.os.trans e1, hb.tape.trans e2, hb.output.trans e3, by rw [← e]; exact hb.size, fun k hk => ?_⟩
  rw [hb.block k (by omega), e]
theorem gcd_arith2 {w w6 V w7 W : World} {B : Nat} (h : Below w.heap.size w w6) (k : Below B V w7) (d : Drawn w6 V) (d2 : Drawn w7 W) : w.heap.size ≤ W.heap.size := by
  have e1 := size_past d
  have e2 := size_past d2
  have e3 := h.size
  have e4 := k.size
  omega
theorem gcd_arith {w w4 W w5 V w6 : World} {bx cx by' cy : Nat} {l m : List Nat} (h4 : w.heap.size + 1 + 1 + 1 ≤ w4.heap.size) (ha : At2 w4 (w.heap.size + 1 + 1) 0 ⟨#[]⟩) (hv : Below w.heap.size w w4)
    (h1 : W.heap.size ≤ bx) (r1 : Row w5 bx cx l) (b1 : Below W.heap.size W w5) (d1 : Drawn w4 W) (h2 : V.heap.size ≤ by') (_ : Row w6 by' cy m) (b2 : Below V.heap.size V w6) (d2 : Drawn w5 V) :
    bx ≠ by' ∧ w.heap.size + 1 + 1 + 1 ≤ bx ∧ w.heap.size + 1 + 1 + 1 ≤ by' ∧ Below w.heap.size w w6 ∧ At2 w6 (w.heap.size + 1 + 1) 0 ⟨#[]⟩ := by
  have e1 := size_past d1
  have e2 := size_past d2
  have e3 := b1.size
  have e5 := r1.lt
  have e6 := hv.size
  exact ⟨by omega, by omega, by omega, below_past (below_past hv b1 d1 e6) b2 d2 (by omega), (ha.past b1 d1).past b2 d2⟩

set_option maxRecDepth 100000 in
set_option maxHeartbeats 4000000 in
theorem gcd_nz (a b : Nat) (w : World) (ha : a ≠ 0) (hb : b ≠ 0) (la : (M.dig a).length ≤ 1000) (lb : (M.dig b).length ≤ 1000) (ht : Tabs w) (h6 : 6 ≤ w.heap.size) :
    Calls Tryd.prog 26 #[natV a, natV b] w fun e w' => e = .returned (natV (Nat.gcd a b)) ∧ Below w.heap.size w w' := by
  have CC := mkHid (fun W => cmp_any a b W)
  obtain ⟨x, y, hxy, hle, hx0, hy0, hg, lx, ly⟩ : ∃ x y, ((Lib.compareInt (a : Int) b < 0 → x = b ∧ y = a) ∧ (¬ Lib.compareInt (a : Int) b < 0 → x = a ∧ y = b)) ∧ y ≤ x ∧ x ≠ 0 ∧ y ≠ 0 ∧ Nat.gcd a b = Nat.gcd y (x % y) ∧ (M.dig x).length ≤ 1000 ∧ (M.dig y).length ≤ 1000 := by
    by_cases h1 : Lib.compareInt (a : Int) b < 0
    · have hlt : a < b := by
        rcases Nat.lt_or_ge a b with h2 | h2
        · exact h2
        · rcases Nat.lt_or_ge b a with h3 | h3
          · rw [ci_gt h3] at h1; exact absurd h1 (by decide)
          · rw [show a = b by omega, ci_eq] at h1; exact absurd h1 (by decide)
      exact ⟨b, a, ⟨fun _ => ⟨rfl, rfl⟩, fun h => absurd h1 h⟩, by omega, hb, ha, by rw [Nat.gcd_rec a b, Nat.gcd_comm], lb, la⟩
    · have hge : b ≤ a := by
        rcases Nat.lt_or_ge a b with h2 | h2
        · rw [ci_lt h2] at h1; exact absurd (by decide) h1
        · exact h2
      exact ⟨a, b, ⟨fun h => absurd h h1, fun _ => ⟨rfl, rfl⟩⟩, hge, ha, hb, by rw [Nat.gcd_comm a b, Nat.gcd_rec b a, Nat.gcd_comm], la, lb⟩
  generalize hz : Lib.compareInt (a : Int) b = z at *
  rw [hg]
  have HT := mkHid ht
  have H6 := mkHid h6
  clear ht h6
  have CD := mkHid (fun W => div_any x y W hy0 (by omega))
  have hry : x % y < y := Nat.mod_lt _ (by omega)
  have lr : (M.dig (x % y)).length ≤ 1000 := dig_le_of (by omega) ly
  have HX : Hid ((z < 0 → (b % M.B = x % M.B ∧ hs b = hs x) ∧ a % M.B = y % M.B ∧ hs a = hs y) ∧ (¬ z < 0 → (a % M.B = x % M.B ∧ hs a = hs x) ∧ b % M.B = y % M.B ∧ hs b = hs y)) := mkHid ⟨fun h => by obtain ⟨rfl, rfl⟩ := hxy.1 h; exact ⟨⟨rfl, rfl⟩, rfl, rfl⟩, fun h => by obtain ⟨rfl, rfl⟩ := hxy.2 h; exact ⟨⟨rfl, rfl⟩, rfl, rfl⟩⟩
  have HNY : Hid (NotZ (y % M.B) (hs y)) := mkHid (notZ y hy0)
  have HCASE : Hid ((x % y % M.B = 0 ∧ hs (x % y) = ⟨#[]⟩ ∧ Nat.gcd y (x % y) % M.B = y % M.B ∧ hs (Nat.gcd y (x % y)) = hs y) ∨
      (NotZ (x % y % M.B) (hs (x % y)) ∧ (∀ W, Calls Tryd.prog 51 #[natV y, natV (x % y)] W fun e w' => e = .returned (.bool true) ∧ Below W.heap.size W w') ∧
        (∀ W, Calls Tryd.prog 52 #[.int .u64 ((y % M.B : Nat) : Int), .int .u64 ((x % y % M.B : Nat) : Int)] W fun e w' => e = .returned (.int .u64 ((Nat.gcd y (x % y) : Nat) : Int)) ∧ ∃ n, w' = W.drewN n) ∧
        (∀ W, Calls Tryd.prog 37 #[.int .u64 ((Nat.gcd y (x % y) : Nat) : Int)] W fun e w' => e = .returned (natV (Nat.gcd y (x % y))) ∧ Below W.heap.size W w')) ∨
      (NotZ (x % y % M.B) (hs (x % y)) ∧ (∀ W, Calls Tryd.prog 51 #[natV y, natV (x % y)] W fun e w' => e = .returned (.bool false) ∧ Below W.heap.size W w') ∧
        (∀ W, Calls Tryd.prog 55 #[natV y] W fun e w' => ∃ b cap, e = .returned (.slice (some ⟨b, 0, none⟩) (M.dig y).length cap) ∧ Hid (W.heap.size ≤ b ∧ Row w' b cap (M.dig y) ∧ Below W.heap.size W w' ∧ cap ≤ 100001)) ∧
        (∀ W, Calls Tryd.prog 55 #[natV (x % y)] W fun e w' => ∃ b cap, e = .returned (.slice (some ⟨b, 0, none⟩) (M.dig (x % y)).length cap) ∧ Hid (W.heap.size ≤ b ∧ Row w' b cap (M.dig (x % y)) ∧ Below W.heap.size W w' ∧ cap ≤ 100001)) ∧
        (∀ (bx cx by' cy base : Nat) (W : World), Row W bx cx (M.dig y) → Row W by' cy (M.dig (x % y)) → bx ≠ by' → base ≤ bx → base ≤ by' → 6 ≤ base → Tabs W →
          Calls Tryd.prog 54 #[.slice (some ⟨bx, 0, none⟩) (M.dig y).length cx, .slice (some ⟨by', 0, none⟩) (M.dig (x % y)).length cy] W fun e w' =>
            ∃ b' cap' len, e = .returned (.slice (some ⟨b', 0, none⟩) len cap') ∧ ∃ zs, Hid (zs.length = len ∧ M.Ok zs ∧ M.val zs = Nat.gcd y (x % y) ∧ base ≤ b' ∧ Row w' b' cap' zs ∧ Below base W w' ∧ len ≤ 3000)) ∧
        (∀ (b cap len : Nat) (zs : List Nat) (W : World), zs.length = len → M.Ok zs → M.val zs = Nat.gcd y (x % y) → Row W b cap zs → len ≤ 3000 →
          Calls Tryd.prog 53 #[.slice (some ⟨b, 0, none⟩) len cap] W fun e w' => e = .returned (natV (Nat.gcd y (x % y))) ∧ Below W.heap.size W w'))) := by
    refine mkHid ?_
    by_cases hr : x % y = 0
    · rw [hr]
      exact .inl ⟨Nat.zero_mod _, hs_small M.B_pos, by rw [Nat.gcd_zero_right], by rw [Nat.gcd_zero_right]⟩
    · right
      rcases Nat.lt_or_ge y M.B with h1 | h1
      · have hgy : Nat.gcd y (x % y) ≤ y := Nat.gcd_le_left _ (by omega)
        refine .inl ⟨notZ _ hr, fun W => ?_, fun W => ?_, fun W => of_any _ W (by omega)⟩
        · have := bothSmall_any y (x % y) W
          rwa [decide_eq_true (show y < M.B ∧ x % y < M.B from ⟨h1, by omega⟩)] at this
        · rw [Nat.mod_eq_of_lt h1, Nat.mod_eq_of_lt (show x % y < M.B by omega)]
          unfold M.B at h1
          exact gcdWord_any _ _ W (by omega) (by omega)
      · refine .inr ⟨notZ _ hr, fun W => ?_, fun W => words_any _ W (by omega), fun W => words_any _ W (by omega), fun bx cx by' cy base W r1 r2 hne h1 h2 h3 h4 => gcdWords_any bx cx by' cy base y (x % y) W r1 r2 hne h1 h2 h3 hy0 hr ly lr h4, fun b cap len zs W hl okl hv hrow hlen => ?_⟩
        · have := bothSmall_any y (x % y) W
          rwa [decide_eq_false (show ¬ (y < M.B ∧ x % y < M.B) by omega)] at this
        · subst hl
          have := pack_any b cap zs W hrow (by omega) okl
          rwa [hv] at this
  unfold natV at CC CD HCASE ⊢
  clear hxy hle hx0 hy0 hg lx ly hz ha hb la lb hry lr
  generalize M.dig y = dy at *
  generalize M.dig (x % y) = dr at *
  generalize hs (Nat.gcd y (x % y)) = gh at *
  generalize Nat.gcd y (x % y) % M.B = gl at *
  generalize Nat.gcd y (x % y) = gn at *
  generalize hs (x % y) = rh at *
  generalize x % y % M.B = rl at *
  generalize hs (x / y) = qh at *
  generalize x / y % M.B = ql at *
  generalize x % M.B = xl at *
  generalize y % M.B = yl at *
  generalize a % M.B = al at *
  generalize b % M.B = bl at *
  generalize hs x = xh at *
  generalize hs y = yh at *
  generalize hs a = ah at *
  generalize hs b = bh at *
  go_enter Tryd.func26, Tryd.ntmps26
  go_upto_if 11 with (go_at_call 48; refine (CC.out _).mono ?_; rintro e w2 ⟨rfl, hb⟩; have HB3 : Hid (Below (w.heap.size + 1 + 1 + 1) (World.box3 w al bl ah bh) w2) := mkHid (hb.mono (by simp)); clear hb)
  have G1 := (box3_a w al bl ah bh).below HB3.out (by omega)
  have G2 := (box3_b w al bl ah bh).below HB3.out (by omega)
  have G3 := (box3_c w al bl ah bh).below HB3.out (by omega)
  have HB4 := mkHid ((box3_below w al bl ah bh).trans (HB3.out.mono (by omega)))
  have HS4 := mkHid HB3.out.size
  rw [box3_size] at HS4
  obtain ⟨h10, h11, hf10, hf11⟩ := G1
  obtain ⟨h20, h21, hf20, hf21⟩ := G2
  go_cut [] (fun wx => At2 wx w.heap.size xl xh ∧ At2 wx (w.heap.size + 1) yl yh ∧ At2 wx (w.heap.size + 1 + 1) 0 ⟨#[]⟩ ∧ Below w.heap.size w wx ∧ w.heap.size + 1 + 1 + 1 ≤ wx.heap.size)
  case first =>
    clear CD HCASE HNY
    go_wp2
    · rename_i ht
      go_meet
      have A1 : At2 w2 w.heap.size al ah := ⟨h10, h11, hf10, hf11⟩
      have A2 : At2 w2 (w.heap.size + 1) bl bh := ⟨h20, h21, hf20, hf21⟩
      have T1 := (A1.set bl bh).setOff (b' := w.heap.size + 1) (by omega) (.int .u64 (al : Int)) (.string ah)
      have T2 := (A2.setOff (b' := w.heap.size) (by omega) (.int .u64 (bl : Int)) (.string bh)).set al ah
      have T3 := (G3.setOff (b' := w.heap.size) (by omega) (.int .u64 (bl : Int)) (.string bh)).setOff (b' := w.heap.size + 1) (by omega) (.int .u64 (al : Int)) (.string ah)
      have T4 := setCells_below (setCells_below HB4.out w.heap.size (Nat.le_refl _) (.int .u64 (bl : Int)) (.string bh)) (w.heap.size + 1) (by omega) (.int .u64 (al : Int)) (.string ah)
      obtain ⟨⟨e1, e2⟩, e3, e4⟩ := HX.out.1 ht
      have hs := HS4.out
      clear HX HB4 HB3 G3 CC
      subst e1 e2 e3 e4
      exact ⟨T1, T2, T3, T4, by simpa using hs⟩
    · rename_i ht
      go_meet
      have A1 : At2 w2 w.heap.size al ah := ⟨h10, h11, hf10, hf11⟩
      have A2 : At2 w2 (w.heap.size + 1) bl bh := ⟨h20, h21, hf20, hf21⟩
      obtain ⟨⟨e1, e2⟩, e3, e4⟩ := HX.out.2 ht
      have hs := HS4.out
      have hbb := HB4.out
      clear HX HB4 HB3 CC
      subst e1 e2 e3 e4
      exact ⟨A1, A2, G3, hbb, hs⟩
  case rest =>
    obtain ⟨⟨ha10, ha11, haf10, haf11⟩, ⟨hb10, hb11, hbf10, hbf11⟩, hc1, hb, hsz⟩ := hcut
    have HBL := mkHid hb
    have HA2 := mkHid hc1
    have HSZ := mkHid hsz
    clear hb hsz hc1 HB3 HB4 HS4 G3 CC HX h10 h11 hf10 hf11 h20 h21 hf20 hf21
    have HYX : Hid (At2 wc (w.heap.size + 1) yl yh) := mkHid ⟨hb10, hb11, hbf10, hbf11⟩
    rcases HCASE.out with ⟨rfl, rfl, rfl, rfl⟩ | ⟨hnr, hC1, hC2, hC3⟩ | ⟨hnr, hC1, hC2, hC3, hC4, hC5⟩
    · clear HCASE
      rcases HNY.out with ⟨rfl, h1, h2⟩ | h1
      all_goals
        go_wp2_with (go_at_call 50; refine (CD.out _).mono ?_; rintro e w3 ⟨rfl, hb⟩; have HB5 := mkHid hb; clear hb; obtain ⟨hd10, hd11, hdf10, hdf11⟩ := ((HYX.out.grows HB5.out).alloc (.cells #[.int .u64 (ql : Int), .string qh] 24)).alloc (.cells #[.int .u64 0, .string ⟨#[]⟩] 24); obtain ⟨he10, he11, hef10, hef11⟩ := ((HA2.out.grows HB5.out).alloc (.cells #[.int .u64 (ql : Int), .string qh] 24)).alloc (.cells #[.int .u64 0, .string ⟨#[]⟩] 24))
        refine bodyPost_ret (v := .agg #[.int .u64 (gl : Int), .string _]) (by simp [results, Tryd.results26, go_sem, he10, he11]) rfl ⟨rfl, ?_⟩
        exact setCells_below (((HBL.out.trans (HB5.out.mono HBL.out.size)).alloc (by have := HBL.out.size; have := HB5.out.size; omega) _).alloc (by simp; have := HBL.out.size; have := HB5.out.size; omega) _) _ (by omega) _ _
    · have HC1 := mkHid hC1; have HC2 := mkHid hC2; have HC3 := mkHid hC3
      clear HCASE hC1 hC2 hC3
      rcases HNY.out with ⟨e1, h1, h2⟩ | h1 <;> rcases hnr with ⟨e2, h3, h4⟩ | h3 <;> (try clear e1) <;> (try clear e2)
      all_goals
        go_wp2_with (first
          | (go_at_call 50; refine (CD.out _).mono ?_; rintro e w3 ⟨rfl, hb⟩; have HB5 := mkHid hb; clear hb; have HBV := mkHid (grown2 HBL.out HB5.out (.cells #[.int .u64 (ql : Int), .string qh] 24) (.cells #[.int .u64 (rl : Int), .string rh] 24)); have HY5 := mkHid (((HYX.out.grows HB5.out).alloc (.cells #[.int .u64 (ql : Int), .string qh] 24)).alloc (.cells #[.int .u64 (rl : Int), .string rh] 24)); have HA5 := mkHid (((HA2.out.grows HB5.out).alloc (.cells #[.int .u64 (ql : Int), .string qh] 24)).alloc (.cells #[.int .u64 (rl : Int), .string rh] 24)); have HR5 := mkHid (At2.new (w3.alloc (.cells #[.int .u64 (ql : Int), .string qh] 24)) (w3.heap.size + 1) rl rh (by simp)); obtain ⟨hd10, hd11, hdf10, hdf11⟩ := HY5.out)
          | (go_at_call 51; refine (HC1.out _).mono ?_; rintro e w4 ⟨rfl, hb⟩; have HB6 := mkHid hb; clear hb; obtain ⟨he10, he11, hef10, hef11⟩ := HY5.out.grows HB6.out; obtain ⟨hr10, hr11, hrf10, hrf11⟩ := HR5.out.grows HB6.out)
          | (go_at_call 52; refine (HC2.out _).mono ?_; rintro e w5 ⟨rfl, n5, rfl⟩)
          | (go_at_call 37; refine (HC3.out _).mono ?_; rintro e w6 ⟨rfl, hb⟩; have HB7 := mkHid hb; clear hb; obtain ⟨ht10, ht11, htf10, htf11⟩ := (HA5.out.grows HB6.out).past HB7.out ⟨rfl, rfl, rfl, rfl⟩))
        refine bodyPost_ret (v := .agg #[.int .u64 (gl : Int), .string gh]) (by simp [results, Tryd.results26, go_sem, ht10, ht11]) rfl ⟨rfl, ?_⟩
        exact setCells_below (below_past (HBV.out.trans (HB6.out.mono HBV.out.size)) HB7.out ⟨rfl, rfl, rfl, rfl⟩ (HBV.out.trans (HB6.out.mono HBV.out.size)).size) _ (by omega) _ _
    · have HC1 := mkHid hC1; have HC2 := mkHid hC2; have HC3 := mkHid hC3; have HC4 := mkHid hC4; have HC5 := mkHid hC5
      clear HCASE hC1 hC2 hC3 hC4 hC5
      go_upto_region 3 with fail
      go_cut [16] (fun v16 wx => v16 = .bool false ∧ wx = wc)
      case first => rcases HNY.out with ⟨e1, h1, h2⟩ | h1 <;> (try clear e1) <;> (go_wp2; go_meet; exact ⟨rfl, rfl⟩)
      case rest =>
      obtain ⟨rfl, rfl⟩ := hcut
      go_upto_region 6 with (go_at_call 50; refine (CD.out _).mono ?_; rintro e w3 ⟨rfl, hb⟩; have HB5 := mkHid hb; clear hb; have HBV := mkHid (grown2 HBL.out HB5.out (.cells #[.int .u64 (ql : Int), .string qh] 24) (.cells #[.int .u64 (rl : Int), .string rh] 24)); have HY5 := mkHid (((HYX.out.grows HB5.out).alloc (.cells #[.int .u64 (ql : Int), .string qh] 24)).alloc (.cells #[.int .u64 (rl : Int), .string rh] 24)); have HA5 := mkHid (((HA2.out.grows HB5.out).alloc (.cells #[.int .u64 (ql : Int), .string qh] 24)).alloc (.cells #[.int .u64 (rl : Int), .string rh] 24)); have HR5 := mkHid (At2.new (w3.alloc (.cells #[.int .u64 (ql : Int), .string qh] 24)) (w3.heap.size + 1) rl rh (by simp)); obtain ⟨hd10, hd11, hdf10, hdf11⟩ := HY5.out)
      go_cut [25] (fun v25 wx => v25 = .bool false ∧ wx = ((w3.alloc (.cells #[.int .u64 (ql : Int), .string qh] 24)).alloc (.cells #[.int .u64 (rl : Int), .string rh] 24)))
      case first => rcases hnr with ⟨e2, h3, h4⟩ | h3 <;> (try clear e2) <;> (go_wp2; go_meet; exact ⟨rfl, rfl⟩)
      case rest =>
      obtain ⟨rfl, rfl⟩ := hcut
      clear hnr
      go_upto_region 10 with (go_at_call 51; refine (HC1.out _).mono ?_; rintro e w4 ⟨rfl, hb⟩; have HB6 := mkHid hb; clear hb; obtain ⟨he10, he11, hef10, hef11⟩ := HY5.out.grows HB6.out; obtain ⟨hr10, hr11, hrf10, hrf11⟩ := HR5.out.grows HB6.out)
      have HR6 := mkHid (HR5.out.grows HB6.out)
      have HA6 := mkHid (HA5.out.grows HB6.out)
      have HV6 := mkHid (HBV.out.trans (HB6.out.mono HBV.out.size))
      have HZ6 : Hid (w.heap.size + 1 + 1 + 1 ≤ w4.heap.size) := mkHid (Nat.le_trans HSZ.out (Nat.le_trans HB5.out.size (Nat.le_trans (by simp; omega) HB6.out.size)))
      clear HB5 HBV HY5 HA5 HR5 HB6 HBL HA2 HSZ HYX ha10 ha11 haf10 haf11 hb10 hb11 hbf10 hbf11 hd10 hd11 hdf10 hdf11
      go_region_with (first
        | (go_at_call_of 55 (Value.agg #[.int .u64 (yl : Int), .string yh]); refine (HC2.out _).mono ?_; rintro e w5 ⟨bx, cx, rfl, H3⟩; have HR7 := mkHid (HR6.out.past H3.out.2.2.1 ⟨rfl, rfl, rfl, rfl⟩); obtain ⟨hg10, hg11, hgf10, hgf11⟩ := HR7.out)
        | (go_at_call_of 55 (Value.agg #[.int .u64 (rl : Int), .string rh]); refine (HC3.out _).mono ?_; rintro e w6 ⟨by', cy, rfl, H4⟩; have RX6 := mkHid (row_past H3.out.2.1 H4.out.2.2.1 ⟨rfl, rfl, rfl, rfl⟩); have HZW := mkHid (gcd_arith HZ6.out HA6.out HV6.out H3.out.1 H3.out.2.1 H3.out.2.2.1 ⟨rfl, rfl, rfl, rfl⟩ H4.out.1 H4.out.2.1 H4.out.2.2.1 ⟨rfl, rfl, rfl, rfl⟩))
        | (go_at_call 54; refine (HC4.out _ _ _ _ (w.heap.size + 1 + 1 + 1) _ RX6.out H4.out.2.1 HZW.out.1 HZW.out.2.1 HZW.out.2.2.1 (by have := H6.out; omega) (HT.out.below HZW.out.2.2.2.1 H6.out)).mono ?_; rintro e w7 ⟨bq, cq, lq, rfl, zs, H5⟩; obtain ⟨ht10, ht11, htf10, htf11⟩ := HZW.out.2.2.2.2.below H5.out.2.2.2.2.2.1 (by omega))
        | (go_at_call 53; refine (HC5.out _ _ _ zs _ H5.out.1 H5.out.2.1 H5.out.2.2.1 H5.out.2.2.2.2.1 H5.out.2.2.2.2.2.2).mono ?_; rintro e w8 ⟨rfl, hb⟩; have HB8 := mkHid hb; clear hb; obtain ⟨hu10, hu11, huf10, huf11⟩ := (HZW.out.2.2.2.2.below H5.out.2.2.2.2.2.1 (by omega)).past HB8.out ⟨rfl, rfl, rfl, rfl⟩))
      all_goals
        go_wp2_with fail
        refine bodyPost_ret (v := .agg #[.int .u64 (gl : Int), .string gh]) (by simp [results, Tryd.results26, go_sem, hu10, hu11]) rfl ⟨rfl, ?_⟩
        have HF := mkHid (below_then (below_then HZW.out.2.2.2.1 H5.out.2.2.2.2.2.1 ⟨rfl, rfl, rfl, rfl⟩ (by omega)) (HB8.out.mono (gcd_arith2 HZW.out.2.2.2.1 H5.out.2.2.2.2.2.1 ⟨rfl, rfl, rfl, rfl⟩ ⟨rfl, rfl, rfl, rfl⟩)) ⟨rfl, rfl, rfl, rfl⟩ (Nat.le_refl _))
        first
          | exact setCells_below HF.out (w.heap.size + 1 + 1) (by omega) _ _
          | exact (setCells_below HF.out (w.heap.size + 1 + 1) (by omega) _ _).drew
          | exact setCells_below HF.out.drew (w.heap.size + 1 + 1) (by omega) _ _

theorem gcd_any (a b : Nat) (w : World) (la : (M.dig a).length ≤ 1000) (lb : (M.dig b).length ≤ 1000) (ht : Tabs w) (h6 : 6 ≤ w.heap.size) :
    Calls Tryd.prog 26 #[natV a, natV b] w fun e w' => e = .returned (natV (Nat.gcd a b)) ∧ Below w.heap.size w w' := by
  by_cases h : a = 0 ∨ b = 0
  · exact gcd_zero a b w h
  · exact gcd_nz a b w (fun e => h (.inl e)) (fun e => h (.inr e)) la lb ht h6

end Go.Proofs.YtflcdpolfimggaaDoor
namespace Go.Proofs.YtflcdpolfimggaaDoor
open Go.RowKit Go.Sort Go.Lib

theorem zeros_row (w : World) (T : TypeId) (nd : Nat) (hs : nd ≤ 24) : Holds (fun (b : UInt8) => Value.int .u8 (b.toNat : Int)) (w.alloc (.cells Lib.zeros24 T)) w.heap.size 0 (Array.replicate nd (0 : UInt8)) := fun j hj => by
  have hj' : j < nd := by simpa using hj
  refine ⟨?_, World.frozen?_alloc_new _ _ _ _⟩
  rw [World.cell?_alloc_new, Lib.zeros24_at _ (by omega), getElem!_pos _ j hj]
  simp

theorem fin_row (w : World) (o : Obj) (dk : Array UInt8) (k : Nat) : Below w.heap.size w ((putRow (fun (b : UInt8) => Value.int .u8 (b.toNat : Int)) (w.alloc o) w.heap.size 0 dk).drewN k) := by
  rw [alloc_eq_grow]
  obtain ⟨os', _, e⟩ := putRow_grow_new (fun (b : UInt8) => Value.int .u8 (b.toNat : Int)) w #[o] w.heap.size 0 dk (Nat.le_refl _)
  rw [e]
  have e2 : (grow w os').drewN k = grow (w.drewN k) os' := rfl
  rw [e2]
  refine ⟨rfl, rfl, rfl, by simp [grow, World.drewN], fun b hb => ?_⟩
  simp only [grow, World.drewN]
  rw [Array.getElem?_append_left hb]

set_option maxHeartbeats 2000000 in
set_option maxRecDepth 100000 in
theorem fmt_inner (u : Nat) (hu64 : u < 18446744073709551616) (w : World) (htab : Lib.TabIs Tryd.prog w "internal/strconv.uint64pow10" .u64 Lib.pow10Tab) :
    Calls Tryd.prog 85 #[.int .u64 u, .int .i64 10] w fun e w' => e = .returned (.string ⟨(Lib.decDigits u).toArray⟩) ∧ Below w.heap.size w w' := by
  by_cases hs : u < 100
  · have hw : IntKind.i64.wrap (u : Int) = (u : Int) := IntWalk.i64_in _ (by omega)
    go_enter Tryd.func85, Tryd.ntmps85
    go_wp2_with (go_at_call 97; refine (Tryd.internal_strconv_small u hs _).mono ?_; rintro e w' ⟨rfl, rfl⟩)
    go_ret
    exact ⟨rfl, Below.refl _ _⟩
  · have hu1 : 1 ≤ u := by omega
    have hnd20 : Lib.nDigits u ≤ 20 := nDigits_le20 u hu64
    have hb3 : Lib.nDigits u ≤ 24 := by omega
    have hal : Tryd.prog.arrayLen 119 = 24 := by kernel_rfl
    have hsl1 : ∀ W, (Instr.sliceAt 119 (.pointer (some ⟨w.heap.size, 0, none⟩)) none (some (.int .i64 (Lib.nDigits u : Int))) none).run Tryd.prog W = .ok (.slice (some ⟨w.heap.size, 0, none⟩) (Lib.nDigits u) 24) W := fun W => by
      rw [run_sliceAt_array_h W 119 ⟨w.heap.size, 0, none⟩ (by kernel_rfl) .i64 (Lib.nDigits u : Int) (by omega) (by rw [hal]; omega)]
      go_simp
    have hH0 := zeros_row w 119 (Lib.nDigits u) hb3
    have hfmt := Tryd.internal_strconv_formatBase10 w.heap.size 0 24 u (Array.replicate (Lib.nDigits u) 0) (w.alloc (.cells Lib.zeros24 119)) hH0 (by rw [Array.size_replicate]; exact Lib.lt_pow_nDigits u) hu64 (by rw [Array.size_replicate]; omega)
    rw [Array.size_replicate] at hfmt
    have HH0 := Lib.hid hH0
    clear hH0 hal
    go_enter Tryd.func85, Tryd.ntmps85
    go_wp2_with (first
      | (go_at_call 98; refine (Tryd.internal_strconv_numDigits u hu1 hu64 _ (Lib.tabIs_alloc htab _)).mono ?_; rintro e w' ⟨rfl, rfl⟩))
    go_at_call 99
    refine hfmt.mono ?_
    rintro e w' ⟨rfl, k, v', dk, rfl, hF⟩
    have hcv : (convert 100 9 (.slice (some ⟨w.heap.size, 0, none⟩) (Lib.nDigits u) 24)).run Tryd.prog ((putRow (fun (b : UInt8) => Value.int .u8 (b.toNat : Int)) (w.alloc (.cells Lib.zeros24 119)) w.heap.size 0 dk).drewN k) = .ok (.string ⟨(Lib.decDigits u).toArray⟩) ((putRow (fun (b : UInt8) => Value.int .u8 (b.toNat : Int)) (w.alloc (.cells Lib.zeros24 119)) w.heap.size 0 dk).drewN k) := by
      have h := run_convert_bytes_back (P := Tryd.prog) ((putRow (fun (b : UInt8) => Value.int .u8 (b.toNat : Int)) (w.alloc (.cells Lib.zeros24 119)) w.heap.size 0 dk).drewN k) 100 9 5 ⟨w.heap.size, 0, none⟩ 24 (Lib.decDigits u) Tryd.underlying100 Tryd.underlying5 Tryd.underlying9 (fun j hj => by
        rw [Lib.row_is_numeral hF j hj, Lib.add_plain, World.cell?_drewN]
        exact cell?_putRow (fun (b : UInt8) => Value.int .u8 (b.toNat : Int)) _ w.heap.size 0 _ dk HH0.out (by rw [hF.size, Array.size_replicate]) j (by rw [hF.size]; rw [Lib.decDigits_length] at hj; exact hj))
      rw [Lib.decDigits_length] at h
      exact h
    have HFIN := mkHid (fin_row w (.cells Lib.zeros24 119) dk k)
    go_wp2
    go_ret
    exact ⟨rfl, HFIN.out⟩

theorem formatUint_any (u : Nat) (hu64 : u < 18446744073709551616) (w : World) (ht : Tabs w) :
    Calls Tryd.prog 56 #[.int .u64 u, .int .i64 10] w fun e w' => e = .returned (.string ⟨(Lib.decDigits u).toArray⟩) ∧ Below w.heap.size w w' := by
  have C := mkHid (fmt_inner u hu64 w ht.2)
  go_enter Tryd.func56, Tryd.ntmps56
  go_wp2_with (go_at_call 85; refine C.out.mono ?_; rintro e w' ⟨rfl, hb⟩)
  go_ret
  exact ⟨rfl, hb⟩
end Go.Proofs.YtflcdpolfimggaaDoor
namespace Go.Proofs.YtflcdpolfimggaaDoor
open Go.RowKit

theorem bld_size : (Tryd.prog.info? 108).map (·.size) = some 2 := by kernel_rfl
theorem bld_lies : liesAt Tryd.prog Tryd.prog.depth 108 (2 / Tryd.prog.cellsOf 108) 0 108 1 = true := by kernel_rfl

/-- A builder's bytes, as cells. -/
abbrev Bld (B b : Nat) (l : List UInt8) (w : World) : Prop := Lib.IsBuilder 108 5 B b (Lib.byteCells l) w

set_option maxHeartbeats 1000000 in
set_option maxRecDepth 100000 in
theorem copyCheck_old (b : Nat) (w : World) (h0 : w.cell? ⟨b, 0, none⟩ = some (.pointer (some ⟨b, 0, none⟩))) :
    Calls Tryd.prog 101 #[.pointer (some ⟨b, 0, none⟩)] w fun e w' => e = .returned (.tuple #[]) ∧ w' = w := by
  obtain ⟨j, hj, _⟩ := Option.map_eq_some_iff.1 bld_size
  have hneq := fun W => Lib.run_neq_ptr_same (P := Tryd.prog) W ⟨b, 0, none⟩ Tryd.underlying106 hj
  go_enter Tryd.func101, Tryd.ntmps101
  go_wp2
  go_end0
  exact ⟨rfl, rfl⟩

set_option maxHeartbeats 1000000 in
set_option maxRecDepth 100000 in
theorem copyCheck_new (b : Nat) (w : World) (h0 : w.cell? ⟨b, 0, none⟩ = some (.pointer none)) (hsh : w.shape? b = some (108, 2)) (hfz : w.frozen? ⟨b, 0, none⟩ = false) :
    Calls Tryd.prog 101 #[.pointer (some ⟨b, 0, none⟩)] w fun e w' => e = .returned (.tuple #[]) ∧ w' = w.setCell ⟨b, 0, none⟩ (.pointer (some ⟨b, 0, none⟩)) := by
  obtain ⟨j, hj, hjs⟩ := Option.map_eq_some_iff.1 bld_size
  have e1 := Lib.run_to_unsafe (P := Tryd.prog) w ⟨b, 0, none⟩ Tryd.underlying106 Tryd.underlying132 hj (by rw [hjs]; decide) hsh (Nat.zero_lt_succ 1)
  have e2 : (callFunc 114 #[.pointer (some ⟨b, 0, none⟩)]).run Tryd.prog w = .ok (.value (.pointer (some ⟨b, 0, none⟩))) w := by
    rw [run_callFunc_extern Tryd.func114 (by kernel_rfl) (by kernel_rfl) (by kernel_rfl) (e := Extern.AbiNoEscape.same) (by kernel_rfl)]
    rfl
  have e3 := Lib.run_from_unsafe (P := Tryd.prog) w ⟨b, 0, none⟩ Tryd.underlying132 Tryd.underlying106 hj hsh bld_lies
  go_enter Tryd.func101, Tryd.ntmps101
  go_wp2
  go_end0
  exact ⟨rfl, rfl⟩

theorem copyCheck_any (B b : Nat) (l : List UInt8) (w : World) (h : Bld B b l w) :
    Calls Tryd.prog 101 #[.pointer (some ⟨b, 0, none⟩)] w fun e w' => e = .returned (.tuple #[]) ∧ Lib.BuilderAt 108 5 B b (.pointer (some ⟨b, 0, none⟩)) (Lib.byteCells l) w' ∧ Below B w w' := by
  rcases h with h | h
  · refine (copyCheck_new b w h.cell0 h.shape h.frozen0).mono ?_
    rintro e w' ⟨rfl, rfl⟩
    exact ⟨rfl, h.used _, (Below.refl B w).setCell (p := ⟨b, 0, none⟩) h.1 _⟩
  · refine (copyCheck_old b w h.cell0).mono ?_
    rintro e w' ⟨rfl, rfl⟩
    exact ⟨rfl, h, Below.refl B _⟩

set_option maxHeartbeats 2000000 in
set_option maxRecDepth 100000 in
theorem writeString_any (B b : Nat) (l : List UInt8) (m : List UInt8) (w : World) (h : Bld B b l w) (hlen : l.length + m.length ≤ 100000000) (hBw : B ≤ w.heap.size) :
    Calls Tryd.prog 87 #[.pointer (some ⟨b, 0, none⟩), .string ⟨m.toArray⟩] w fun e w' => e = .returned (.tuple #[.int .i64 (m.length : Nat), .nilIface]) ∧ Hid (Bld B b (l ++ m) w' ∧ Below B w w') := by
  obtain ⟨i0, hi, hz0, hz1, hz2⟩ := info_parts info8
  have hsz : (⟨m.toArray⟩ : ByteArray).size = m.length := by show m.toArray.size = m.length; simp
  have hll : (Lib.byteCells l).length = l.length := by simp [Lib.byteCells]
  have CC := mkHid (copyCheck_any B b l w h)
  clear h
  have I1 := mkHid hi; have I2 := mkHid hz0; have I3 := mkHid hz1; have I4 := mkHid hz2
  have HLL := mkHid hll
  clear hi hz0 hz1 hz2 hll
  go_enter Tryd.func87, Tryd.ntmps87
  go_wp2_with fail
  refine CC.out.mono ?_
  rintro e w1 ⟨rfl, h1, hb1⟩
  obtain ⟨hB, v, hbk, hown, hne⟩ := h1
  have c0 : w1.cell? ⟨b, 0, none⟩ = some (.pointer (some ⟨b, 0, none⟩)) := by rw [Lib.cell_of_heap hbk]; rfl
  have c1 : w1.cell? ⟨b, 1, none⟩ = some v := by rw [Lib.cell_of_heap hbk]; rfl
  have HBK := mkHid hbk; have HOWN := mkHid hown; have HNE := mkHid hne; have HB1 := mkHid hb1; have HB := mkHid hB
  have HS1 := mkHid (show B ≤ w1.heap.size by have := hb1.size; omega)
  clear hbk hown hne hb1 hB CC
  go_wp2_with (at_builtin; refine Lib.wpList_append_own_string _ rfl _ _ 100 9 rfl B 5 i0 Tryd.underlying100 Tryd.underlying9 I1.out I2.out I3.out I4.out _ _ _ rfl HOWN.out ⟨m.toArray⟩ rfl ?c3 ?c4 ?c5 ?_)
  case c3 => rw [hsz, HLL.out]; unfold maxLen; omega
  case c4 => rw [hsz, HLL.out]; omega
  case c5 => exact HS1.out
  intro v' w2 hown' hgrow _
  have hlt : b < w1.heap.size := (Array.getElem?_eq_some_iff.1 HBK.out).1
  have hb2 : w2.heap[b]? = some (.cells #[.pointer (some ⟨b, 0, none⟩), v] 108 (0, 0)) := by
    rw [hgrow.block b hlt (fun e => HNE.out e.symm)]
    exact HBK.out
  have d0 : w2.cell? ⟨b, 0, none⟩ = some (.pointer (some ⟨b, 0, none⟩)) := by rw [Lib.cell_of_heap hb2]; rfl
  have d1 : w2.cell? ⟨b, 1, none⟩ = some v := by rw [Lib.cell_of_heap hb2]; rfl
  have f1 : w2.frozen? ⟨b, 1, none⟩ = false := Lib.frozen_of_heap hb2 1
  obtain ⟨ao, n', cap, rfl⟩ : ∃ ao n' cap, v' = .slice ao n' cap := by
    rcases hown'.2 with ⟨hv, _⟩ | ⟨g, cap, cur, hv, _⟩
    · exact ⟨_, _, _, hv⟩
    · exact ⟨_, _, _, hv⟩
  have H2 := mkHid hb2; have HO := mkHid hown'; have HG := mkHid hgrow
  have HF : Hid (Bld B b (l ++ m) (w2.setCell ⟨b, 1, none⟩ (.slice ao n' cap)) ∧ Below B w (w2.setCell ⟨b, 1, none⟩ (.slice ao n' cap))) := by
    refine mkHid ⟨.inr ?_, ?_⟩
    · have hcat : Lib.byteCells (l ++ m) = Lib.byteCells l ++ Lib.strCells ⟨m.toArray⟩ := by simp [Lib.byteCells, Lib.strCells]
      rw [hcat]
      exact Lib.BuilderAt.put (T := 108) (e := 5) HB.out H2.out (bs' := Lib.byteCells l ++ Lib.strCells ⟨m.toArray⟩) (by rw [List.length_append, Lib.strCells_length]; first | exact HO.out | (rw [hsz]; exact HO.out) | (rw [hsz, HLL.out]; exact HO.out)) (by decide)
    · exact (HB1.out.grown HG.out HS1.out (fun k hk => (HOWN.out.lt k hk).1)).setCell (p := ⟨b, 1, none⟩) HB.out _
  clear hb2 hown' hgrow HOWN HBK HNE
  go_wp2
  go_ret2
  exact ⟨rfl, HF⟩
end Go.Proofs.YtflcdpolfimggaaDoor
namespace Go.Proofs.YtflcdpolfimggaaDoor
namespace D
open Go.Lib

/-- The last k decimal digits of v, zeros ahead. -/
def padk : Nat → Nat → List UInt8
  | 0, _ => []
  | k + 1, v => padk k (v / 10) ++ [UInt8.ofNat (48 + v % 10)]
theorem padk_length (k v : Nat) : (padk k v).length = k := by
  induction k generalizing v with
  | zero => rfl
  | succ k ih => simp [padk, ih]
theorem dec_big {u : Nat} (h : ¬ u < 10) : decDigits u = decDigits (u / 10) ++ [UInt8.ofNat (48 + u % 10)] := by rw [decDigits, dif_neg h]
theorem dec_small {u : Nat} (h : u < 10) : decDigits u = [UInt8.ofNat (48 + u)] := by rw [decDigits, dif_pos h]
theorem dec_shift (k : Nat) : ∀ u v, 0 < u → v < 10 ^ k → decDigits (u * 10 ^ k + v) = decDigits u ++ padk k v := by
  induction k with
  | zero => intro u v _ hv; have : v = 0 := by simpa using hv
            subst this; simp [padk]
  | succ k ih =>
    intro u v hu hv
    have hp : 1 ≤ 10 ^ k := Nat.one_le_pow _ _ (by decide)
    have e : u * 10 ^ (k + 1) = (u * 10 ^ k) * 10 := by rw [Nat.pow_succ, Nat.mul_assoc]
    have hle : 1 ≤ u * 10 ^ k := Nat.mul_pos hu hp
    rw [Nat.pow_succ] at hv
    have h10 : ¬ u * 10 ^ (k + 1) + v < 10 := by omega
    rw [dec_big h10]
    have d : (u * 10 ^ (k + 1) + v) / 10 = u * 10 ^ k + v / 10 := by omega
    have m : (u * 10 ^ (k + 1) + v) % 10 = v % 10 := by omega
    rw [d, m, ih u (v / 10) hu (by omega), padk, List.append_assoc]
theorem padk_zero (k : Nat) : padk k 0 = List.replicate k 48 := by
  induction k with
  | zero => rfl
  | succ k ih => rw [padk, show 0 / 10 = 0 from rfl, ih, List.replicate_succ']; rfl
theorem padk_dec : ∀ (k v : Nat), 0 < k → v < 10 ^ k → nDigits v ≤ k ∧ padk k v = List.replicate (k - nDigits v) 48 ++ decDigits v
  | 0, _, h, _ => absurd h (by omega)
  | k + 1, v, _, hv => by
    by_cases h : v < 10
    · rw [nDigits_small h, dec_small h]
      refine ⟨by omega, ?_⟩
      rw [padk, show v / 10 = 0 by omega, padk_zero, show v % 10 = v by omega]
      rfl
    · have hk : 0 < k := by
        rcases Nat.eq_zero_or_pos k with h0 | h0
        · subst h0; simp at hv; omega
        · exact h0
      rw [Nat.pow_succ] at hv
      obtain ⟨h1, h2⟩ := padk_dec k (v / 10) hk (by omega)
      rw [nDigits_big h, dec_big h, padk, h2]
      refine ⟨by omega, ?_⟩
      rw [show k + 1 - (nDigits (v / 10) + 1) = k - nDigits (v / 10) by omega, List.append_assoc]

/-- The base of the parts of a text. -/
def S : Nat := 10000000000000000000
theorem S_pow : S = 10 ^ 19 := rfl
/-- The number of a list of parts, the lowest one first. -/
def v10 : List Nat → Nat
  | [] => 0
  | x :: xs => x + S * v10 xs
theorem v10_append (a b : List Nat) : v10 (a ++ b) = v10 a + S ^ a.length * v10 b := by
  induction a with
  | nil => simp [v10]
  | cons x a ih =>
    simp only [List.cons_append, v10, ih, List.length_cons, Nat.pow_succ]
    rw [Nat.mul_add, ← Nat.add_assoc, ← Nat.mul_assoc, Nat.mul_comm (S ^ a.length) S]
theorem v10_pos {l : List Nat} (h : l ≠ []) (hl : l.getLast h ≠ 0) : 0 < v10 l := by
  have := List.dropLast_concat_getLast h
  rw [← this, v10_append]
  have h1 : 0 < S ^ l.dropLast.length := Nat.pow_pos (by decide)
  have h2 : 0 < S ^ l.dropLast.length * v10 [l.getLast h] := Nat.mul_pos h1 (by simp only [v10]; omega)
  omega
/-- One part more, from above. -/
theorem dec_part (l : List Nat) (k : Nat) (hk : k + 1 < l.length) (hlast : l.getLast (by intro h; subst h; simp at hk) ≠ 0) (p : Nat) (hp : l[k] = p) (hb : p < S) :
    decDigits (v10 (l.drop k)) = decDigits (v10 (l.drop (k + 1))) ++ (List.replicate (19 - nDigits p) 48 ++ decDigits p) := by
  rw [List.drop_eq_getElem_cons (by omega), v10, hp]
  have hne : l.drop (k + 1) ≠ [] := by intro h; have := congrArg List.length h; simp at this; omega
  have hpos := v10_pos hne (by rw [List.getLast_drop]; exact hlast)
  rw [show p + S * v10 (l.drop (k + 1)) = v10 (l.drop (k + 1)) * 10 ^ 19 + p by rw [← S_pow, Nat.mul_comm S]; omega]
  rw [dec_shift 19 _ p hpos hb, (padk_dec 19 p (by omega) hb).2]
theorem nd_part (p : Nat) (hb : p < S) : nDigits p ≤ 19 := (padk_dec 19 p (by omega) hb).1

/-- How long a numeral is. -/
theorem nDigits_le (k n : Nat) (h : n < 10 ^ (k + 1)) : nDigits n ≤ k + 1 := (padk_dec (k + 1) n (by omega) h).1
theorem nDigits_words (k n : Nat) (h : n < M.B ^ k) : nDigits n ≤ 20 * k + 1 := by
  refine nDigits_le _ _ (Nat.lt_of_lt_of_le h ?_)
  have h1 : M.B ≤ 10 ^ 20 := by rw [M.B_eq]; decide
  calc M.B ^ k ≤ (10 ^ 20) ^ k := Nat.pow_le_pow_left h1 k
    _ = 10 ^ (20 * k) := by rw [← Nat.pow_mul]
    _ ≤ 10 ^ (20 * k + 1) := Nat.pow_le_pow_right (by omega) (by omega)

/-! ### Reading -/
/-- The number of decimal digits. -/
def dvAux (acc : Nat) (l : List UInt8) : Nat := l.foldl (fun n c => n * 10 + (c.toNat - 48)) acc
def dv (l : List UInt8) : Nat := dvAux 0 l
/-- A digit. -/
def isDig (c : UInt8) : Bool := decide (48 ≤ c.toNat ∧ c.toNat ≤ 57)
/-- Is it a decimal form of at most 2000 bytes? -/
def isDec (l : List UInt8) : Bool := l ≠ [] && decide (l.length ≤ 2000) && (decide (l.head? ≠ some 48) || decide (l = [48])) && l.all isDig
theorem dvAux_append (acc : Nat) (a b : List UInt8) : dvAux acc (a ++ b) = dvAux (dvAux acc a) b := by simp [dvAux]
theorem dv_append (a b : List UInt8) : dv (a ++ b) = dvAux (dv a) b := dvAux_append 0 a b
theorem dv_snoc (a : List UInt8) (c : UInt8) : dv (a ++ [c]) = dv a * 10 + (c.toNat - 48) := by rw [dv_append]; rfl
theorem dvAux_eq (acc : Nat) (l : List UInt8) : dvAux acc l = acc * 10 ^ l.length + dv l := by
  induction l generalizing acc with
  | nil => simp [dvAux, dv]
  | cons c l ih =>
    have e1 : dvAux acc (c :: l) = dvAux (acc * 10 + (c.toNat - 48)) l := rfl
    have e2 : dv (c :: l) = dvAux (c.toNat - 48) l := by simp [dv, dvAux]
    rw [e1, e2, ih, ih (c.toNat - 48), List.length_cons, Nat.pow_succ, Nat.add_mul, Nat.mul_assoc, Nat.mul_comm 10]
    omega
theorem dv_cat (a b : List UInt8) : dv (a ++ b) = dv a * 10 ^ b.length + dv b := by rw [dv_append, dvAux_eq]
theorem isDig_le {c : UInt8} (h : isDig c = true) : 48 ≤ c.toNat ∧ c.toNat ≤ 57 := by simpa [isDig] using h
theorem dv_lt (l : List UInt8) (h : l.all isDig = true) : dv l < 10 ^ l.length := by
  have aux : ∀ (n : Nat) (l : List UInt8), l.length = n → l.all isDig = true → dv l < 10 ^ n := by
    intro n
    induction n with
    | zero => intro l hl _; rw [List.length_eq_zero_iff.1 hl]; simp [dv, dvAux]
    | succ n ih =>
      intro l hl h
      have hne : l ≠ [] := by intro h0; rw [h0] at hl; simp at hl
      have e := List.dropLast_concat_getLast hne
      rw [← e] at h ⊢
      have h2 := ih l.dropLast (by simp [hl]) (by simp at h ⊢; exact h.1)
      rw [dv_snoc, Nat.pow_succ]
      have h3 : isDig (l.getLast hne) = true := by simp at h; exact h.2
      have := isDig_le h3
      omega
  exact aux _ l rfl h
theorem dig_toNat (d : Nat) (h : d < 10) : (UInt8.ofNat (48 + d)).toNat = 48 + d := by simp [UInt8.toNat_ofNat]; omega
theorem dv_dec (n : Nat) : dv (decDigits n) = n := by
  induction n using Nat.strongRecOn with
  | ind n ih =>
    by_cases h : n < 10
    · rw [dec_small h]; show 0 * 10 + _ = _; rw [dig_toNat n h]; omega
    · rw [dec_big h, dv_snoc, ih _ (by omega), dig_toNat _ (by omega)]; omega
theorem dec_all (n : Nat) : (decDigits n).all isDig = true := by
  induction n using Nat.strongRecOn with
  | ind n ih =>
    have hd : ∀ d, d < 10 → isDig (UInt8.ofNat (48 + d)) = true := fun d h => by simp only [isDig, dig_toNat d h]; simp; omega
    by_cases h : n < 10
    · rw [dec_small h, List.all_cons, hd n h]; rfl
    · rw [dec_big h, List.all_append, ih _ (by omega), List.all_cons, hd (n % 10) (by omega)]; rfl
theorem dec_ne (n : Nat) : decDigits n ≠ [] := by
  intro h; have := decDigits_length n; rw [h] at this; have := nDigits_pos n; simp at *; omega
theorem dec_head (n : Nat) (h0 : n ≠ 0) : (decDigits n).head? ≠ some 48 := by
  induction n using Nat.strongRecOn with
  | ind n ih =>
    by_cases h : n < 10
    · rw [dec_small h]
      simp only [List.head?_cons, ne_eq, Option.some.injEq]
      intro e
      have := congrArg UInt8.toNat e
      rw [dig_toNat n h] at this
      have e48 : (48 : UInt8).toNat = 48 := rfl
      omega
    · rw [dec_big h, List.head?_append]
      have h1 := ih (n / 10) (by omega) (by omega)
      cases e : (decDigits (n / 10)).head? with
      | none => exact absurd (List.head?_eq_none_iff.1 e) (dec_ne _)
      | some c => rw [e] at h1; simpa using h1
theorem isDec_dec (n : Nat) (h : nDigits n ≤ 2000) : isDec (decDigits n) = true := by
  have h1 := dec_ne n
  have h2 := dec_all n
  have h3 : (decDigits n).length ≤ 2000 := by rw [decDigits_length]; exact h
  by_cases h0 : n = 0
  · subst h0
    have : decDigits 0 = [48] := by rw [dec_small (by omega)]; rfl
    rw [this]; decide
  · have h4 := dec_head n h0
    simp [isDec, h1, h2, h3, h4]
/-- A decimal form is that of its number. -/
theorem dec_dv (l : List UInt8) (h : isDec l = true) : decDigits (dv l) = l := by
  have aux : ∀ (n : Nat) (l : List UInt8), l.length = n → l ≠ [] → l.all isDig = true → (l.head? ≠ some 48 ∨ l = [48]) → decDigits (dv l) = l := by
    intro n
    induction n with
    | zero => intro l hl hne; exact absurd (List.length_eq_zero_iff.1 hl) hne
    | succ n ih =>
      intro l hl hne hall hh
      have e := List.dropLast_concat_getLast hne
      generalize hc : l.getLast hne = c at e
      generalize hd : l.dropLast = d at e
      subst e
      have hcd : isDig c = true := by simp at hall; exact hall.2
      have hc2 := isDig_le hcd
      have hda : d.all isDig = true := by simp at hall ⊢; exact hall.1
      have hcc : UInt8.ofNat (48 + (c.toNat - 48)) = c := by
        rw [show 48 + (c.toNat - 48) = c.toNat by omega]; simp
      by_cases hd0 : d = []
      · subst hd0
        have : dv ([] ++ [c]) = c.toNat - 48 := by rw [dv_snoc]; simp [dv, dvAux]
        rw [this, dec_small (by omega), hcc]; rfl
      · have hhd : d.head? ≠ some 48 := by
          rcases hh with hh | hh
          · rw [List.head?_append] at hh
            cases ed : d.head? with
            | none => exact absurd (List.head?_eq_none_iff.1 ed) hd0
            | some x => rw [ed] at hh; simpa using hh
          · have := congrArg List.length hh
            simp at this; exact absurd this hd0
        have hdl : d.length = n := by simpa using hl
        have h1 := ih d hdl hd0 hda (.inl hhd)
        have hpos : 0 < dv d := by
          apply Nat.pos_of_ne_zero; intro h0
          rw [h0, dec_small (by omega)] at h1
          rw [← h1] at hhd
          exact hhd rfl
        rw [dv_snoc, dec_big (by omega), show (dv d * 10 + (c.toNat - 48)) / 10 = dv d by omega, show (dv d * 10 + (c.toNat - 48)) % 10 = c.toNat - 48 by omega, h1, hcc]
  simp only [isDec, Bool.and_eq_true, Bool.or_eq_true, decide_eq_true_eq] at h
  obtain ⟨⟨⟨h1, _⟩, h3⟩, h4⟩ := h
  exact aux _ l rfl (by simpa using h1) h4 (by simpa using h3)
theorem dec_inj {a b : Nat} (h : decDigits a = decDigits b) : a = b := by rw [← dv_dec a, h, dv_dec]
end D
end Go.Proofs.YtflcdpolfimggaaDoor
namespace Go.Proofs.YtflcdpolfimggaaDoor
open Go.RowKit

theorem zeros_cut (k : Nat) (hk : k ≤ 19) (W : World) :
    (Instr.slice 9 (.string ⟨#[48, 48, 48, 48, 48, 48, 48, 48, 48, 48, 48, 48, 48, 48, 48, 48, 48, 48, 48]⟩) (some (.int .i64 (k : Int))) none none).run Tryd.prog W = .ok (.string ⟨(List.replicate (19 - k) 48).toArray⟩) W := by
  have e : (⟨#[48, 48, 48, 48, 48, 48, 48, 48, 48, 48, 48, 48, 48, 48, 48, 48, 48, 48, 48]⟩ : ByteArray).extract k 19 = ⟨(List.replicate (19 - k) 48).toArray⟩ := by
    have : ∀ k, k < 20 → (⟨#[48, 48, 48, 48, 48, 48, 48, 48, 48, 48, 48, 48, 48, 48, 48, 48, 48, 48, 48]⟩ : ByteArray).extract k 19 = ⟨(List.replicate (19 - k) 48).toArray⟩ := by decide
    exact this k (by omega)
  have h := run_slice_string_l (P := Tryd.prog) (w := W) 9 ⟨#[48, 48, 48, 48, 48, 48, 48, 48, 48, 48, 48, 48, 48, 48, 48, 48, 48, 48, 48]⟩ Tryd.underlying9 .i64 (k : Int) (by omega) (by show (k : Int) ≤ 19; omega)
  rw [h]
  simp only [Int.toNat_natCast]
  rw [← e]; rfl

theorem dec_len_parts (ps : List Nat) (k : Nat) (hb : ∀ (k p : Nat), ps[k]? = some p → p < D.S) (hl : ps.length ≤ 3001) : (Lib.decDigits (D.v10 (ps.drop k))).length ≤ 100000 := by
  have h1 : ∀ l : List Nat, (∀ p ∈ l, p < D.S) → D.v10 l < D.S ^ l.length := by
    intro l
    induction l with
    | nil => intro _; simp [D.v10]
    | cons x l ih =>
      intro h
      have h2 := ih (fun p hp => h p (by simp [hp]))
      have h3 := h x (by simp)
      simp only [D.v10, List.length_cons]
      rw [Nat.pow_succ, Nat.mul_comm _ D.S]
      have h4 : D.S * (D.v10 l + 1) ≤ D.S * D.S ^ l.length := Nat.mul_le_mul_left _ h2
      rw [Nat.mul_add] at h4
      omega
  have h2 := h1 (ps.drop k) (fun p hp => by
    obtain ⟨j, hj⟩ := List.getElem?_of_mem (List.mem_of_mem_drop hp)
    exact hb j p hj)
  rw [Lib.decDigits_length]
  have hln : (ps.drop k).length ≤ 3001 := by simp; omega
  generalize (ps.drop k).length = n at *
  have e : D.S ^ n = 10 ^ (19 * n) := by rw [D.S_pow, ← Nat.pow_mul]
  have h4 := D.nDigits_le (19 * n) _ (Nat.lt_of_lt_of_le h2 (by rw [e]; exact Nat.pow_le_pow_right (by omega) (by omega)))
  omega
theorem bldAt_grown {w w' : World} {T e : TypeId} {B b : Nat} {q : Value} {l : List Value} (h : Lib.BuilderAt T e B b q l w) (hb : Below w.heap.size w w') : Lib.BuilderAt T e B b q l w' := by
  have hlt := h.lt
  obtain ⟨hB, v, hbk, hown, hne⟩ := h
  refine ⟨hB, v, (hb.block b hlt).trans hbk, ?_, hne⟩
  refine hown.kept (row := none) ⟨hb.os, hb.tape, hb.output, hb.size, fun k hk _ => hb.block k hk⟩ (by by_cases h : v.ownBlock = none; exact .inl h; exact .inr h)
theorem bld_grown {w w' : World} {B b : Nat} {l : List UInt8} (h : Bld B b l w) (hb : Below w.heap.size w w') : Bld B b l w' := by
  rcases h with h | h
  · exact .inl (bldAt_grown h hb)
  · exact .inr (bldAt_grown h hb)
theorem row_at {w : World} {b cap k : Nat} {ps : List Nat} (h : Row w b cap ps) (p : Nat) (hp : ps[k]? = some p) : w.cell? ⟨b, k, none⟩ = some (.int .u64 (p : Int)) := by
  obtain ⟨hk, e⟩ := List.getElem?_eq_some_iff.1 hp
  have := (h.words k hk).1
  rwa [Nat.zero_add, e] at this

set_option maxRecDepth 100000 in
set_option maxHeartbeats 2000000 in
theorem joinParts_any (b cap last : Nat) (ps : List Nat) (w : World) (hrow : Row w b cap ps) (hlen : ps.length = last + 1) (hl : last ≤ 3000) (hlast : ∀ h, ps.getLast h ≠ 0) (hb : ∀ p ∈ ps, p < D.S) (ht : Tabs w) (h6 : 6 ≤ w.heap.size) :
    Calls Tryd.prog 59 #[.slice (some ⟨b, 0, none⟩) (last + 1) cap] w fun e w' => e = .returned (.string ⟨(Lib.decDigits (D.v10 ps)).toArray⟩) ∧ Below w.heap.size w w' := by
  have HROW := mkHid hrow; have HT := mkHid ht; have H6 := mkHid h6
  have HB : Hid (∀ k p, ps[k]? = some p → p < D.S) := mkHid fun k p h => hb p (List.mem_of_getElem? h)
  have HL := mkHid hlen
  have HLAST := mkHid hlast
  obtain ⟨pl, hpl⟩ : ∃ pl, ps[last]? = some pl := ⟨ps[last]'(by omega), List.getElem?_eq_getElem (by omega)⟩
  have HPL := mkHid hpl
  have hcl := row_at (hrow.grows ((Below.refl w.heap.size w).alloc (Nat.le_refl _) (.cells #[.pointer none, .slice none 0 0] 108))) pl hpl
  have HLT := mkHid hrow.lt
  clear hrow ht h6 hb hlen hlast hpl
  have CF : Hid (∀ (k p : Nat) (W : World), ps[k]? = some p → Below w.heap.size w W → Calls Tryd.prog 56 #[.int .u64 (p : Int), .int .i64 10] W fun e w' => e = .returned (.string ⟨(Lib.decDigits p).toArray⟩) ∧ Below W.heap.size W w') :=
    mkHid fun k p W hk hB => formatUint_any p (Nat.lt_of_lt_of_le (HB.out k p hk) (by decide)) W (HT.out.below hB H6.out)
  have hne1 : ¬ b = w.heap.size := by have := HLT.out; omega
  go_enter Tryd.func59, Tryd.ntmps59
  have HF0 := mkHid (Lib.fresh_isBuilder 108 5 w)
  have HB0 := mkHid ((Below.refl w.heap.size w).alloc (Nat.le_refl _) (.cells #[.pointer none, .slice none 0 0] 108))
  have CF0 := mkHid (CF.out last pl _ HPL.out HB0.out)
  go_wp2_with fail
  refine CF0.out.mono ?_
  rintro e w1 ⟨rfl, hb⟩
  have HB1 := mkHid (HB0.out.trans (hb.mono HB0.out.size))
  have CW := mkHid (writeString_any w.heap.size w.heap.size [] (Lib.decDigits pl) w1 (bld_grown HF0.out hb) (by rw [Lib.decDigits_length]; have := D.nd_part pl (HB.out _ _ HPL.out); simp; omega) HB1.out.size)
  clear hb CF0 HF0 HB0
  go_wp2_with fail
  refine CW.out.mono ?_
  rintro e w2 ⟨rfl, H2⟩
  have HS : Hid (Bld w.heap.size w.heap.size (Lib.decDigits (D.v10 (ps.drop (last - 0)))) w2 ∧ Below w.heap.size w w2) := by
    refine mkHid ⟨?_, HB1.out.trans H2.out.2⟩
    have e : ps.drop (last - 0) = [pl] := by
      obtain ⟨h1, h2⟩ := List.getElem?_eq_some_iff.1 HPL.out
      rw [Nat.sub_zero, List.drop_eq_getElem_cons h1, h2, List.drop_of_length_le (by have := HL.out; omega)]
    rw [e]
    have h := H2.out.1
    rw [List.nil_append] at h
    simpa [D.v10] using h
  clear CW H2 HB1 hcl
  go_wp2_with fail
  go_loopw [17] (fun iv wr => ∃ i : Nat, i ≤ last ∧ iv = .int .i64 i ∧ Hid (Bld w.heap.size w.heap.size (Lib.decDigits (D.v10 (ps.drop (last - i)))) wr ∧ Below w.heap.size w wr))
    (fun iv _ => last - (intOf iv).toNat)
  case atStart => exact ⟨0, by omega, rfl, HS⟩
  case round =>
    obtain ⟨i, hi, rfl, H⟩ := hrel
    clear HS
    by_cases hlt : i < last
    · obtain ⟨k, hk⟩ : ∃ k, last - i = k + 1 := ⟨last - i - 1, by omega⟩
      have hik : (last : Int) - 1 - (i : Int) = (k : Int) := by omega
      have hkl : k + 1 ≤ last := by omega
      obtain ⟨p, hp⟩ : ∃ p, ps[k]? = some p := ⟨ps[k]'(by have := HL.out; omega), List.getElem?_eq_getElem (by have := HL.out; omega)⟩
      have HP := mkHid hp
      rw [hk] at H
      have HK := mkHid hk
      clear hk hp
      have hcp := row_at (HROW.out.grows H.out.2) p HP.out
      have CF1 := mkHid (CF.out k p _ HP.out H.out.2)
      have HDP : Hid ((Lib.decDigits p).length ≤ 19) := mkHid (by rw [Lib.decDigits_length]; exact D.nd_part p (HB.out _ _ HP.out))
      have HNEW : Hid (Lib.decDigits (D.v10 (ps.drop k)) = Lib.decDigits (D.v10 (ps.drop (k + 1))) ++ (List.replicate (19 - (Lib.decDigits p).length) 48 ++ Lib.decDigits p)) := mkHid (by
        rw [Lib.decDigits_length]
        exact D.dec_part ps k (by have := HL.out; omega) (HLAST.out _) p (List.getElem?_eq_some_iff.1 HP.out).2 (HB.out _ _ HP.out))
      have HLEN : Hid ((Lib.decDigits (D.v10 (ps.drop (k + 1)))).length ≤ 100000) := mkHid (dec_len_parts ps _ (fun k p h => HB.out k p h) (by have := HL.out; omega))
      have hz := zeros_cut (Lib.decDigits p).length HDP.out
      generalize Lib.decDigits p = dp at *
      generalize Lib.decDigits (D.v10 (ps.drop (k + 1))) = old at *
      go_wp2_with fail
      refine CF1.out.mono ?_
      rintro e w3 ⟨rfl, hb⟩
      have HB3 := mkHid hb
      clear hb CF1 hcp
      have CW1 := mkHid (writeString_any w.heap.size w.heap.size old (List.replicate (19 - dp.length) 48) w3 (bld_grown H.out.1 HB3.out) (by have := HLEN.out; simp; omega) (H.out.2.trans (HB3.out.mono H.out.2.size)).size)
      rw [List.length_replicate] at CW1
      go_wp2_with fail
      refine CW1.out.mono ?_
      rintro e w4 ⟨rfl, H4⟩
      have CW2 := mkHid (writeString_any w.heap.size w.heap.size (old ++ List.replicate (19 - dp.length) 48) dp w4 H4.out.1 (by have := HLEN.out; have := HDP.out; simp; omega) ((H.out.2.trans (HB3.out.mono H.out.2.size)).trans H4.out.2).size)
      clear CW1
      go_wp2_with fail
      refine CW2.out.mono ?_
      rintro e w5 ⟨rfl, H5⟩
      clear CW2 hz
      go_wp2_with fail
      go_roundw
      case rel =>
        refine ⟨i + 1, hlt, by go_num, mkHid ⟨?_, ((H.out.2.trans (HB3.out.mono H.out.2.size)).trans H4.out.2).trans H5.out.2⟩⟩
        rw [show last - (i + 1) = k by have := HK.out; omega, HNEW.out, ← List.append_assoc]
        exact H5.out.1
      case measure => simp [intOf]; omega
    · have hie : i = last := by omega
      subst hie
      rw [Nat.sub_self, List.drop_zero] at H
      have CS := mkHid (Tryd.Builder_String_any w.heap.size w.heap.size _ _ H.out.1 H.out.2.size)
      go_wp2_with fail
      refine CS.out.mono ?_
      rintro e w6 ⟨rfl, hb⟩
      have HB6 := mkHid (H.out.2.trans hb)
      clear hb CS
      go_wp2_with fail
      go_ret
      exact ⟨rfl, HB6.out⟩
end Go.Proofs.YtflcdpolfimggaaDoor
