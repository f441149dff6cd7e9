/- The contracts of Add, Sub. -/
import Derived.Test.YtjdkbbggelpchaaDoorBase
import Derived.Test.YtjdkbbggelpchaaDoorAddW
import Derived.Test.YtjdkbbggelpchaaDoorSubW
import Derived.Deep.CutBlock
import Derived.Deep.DeepCutAuto
namespace Go.Proofs.YtjdkbbggelpchaaDoor
open Go.RowKit

/-- A number in a block of its own. -/
def At2 (w : World) (b l : Nat) (h : ByteArray) : Prop :=
  w.cell? ⟨b, 0, none⟩ = some (.int .u64 (l : Int)) ∧ w.cell? ⟨b, 1, none⟩ = some (.string h) ∧ w.frozen? ⟨b, 0, none⟩ = false ∧ w.frozen? ⟨b, 1, none⟩ = false
theorem At2.lt {w : World} {b l : Nat} {h : ByteArray} (H : At2 w b l h) : b < w.heap.size := World.block_lt_of_cell? w _ H.1
theorem At2.below {w w' : World} {b l B : Nat} {h : ByteArray} (H : At2 w b l h) (hb : Below B w w') (hB : b < B) : At2 w' b l h :=
  ⟨(hb.cell (p := ⟨b, 0, none⟩) hB).trans H.1, (hb.cell (p := ⟨b, 1, none⟩) hB).trans H.2.1, (hb.frozen (p := ⟨b, 0, none⟩) hB).trans H.2.2.1, (hb.frozen (p := ⟨b, 1, none⟩) hB).trans H.2.2.2⟩
theorem At2.grows {w w' : World} {b l : Nat} {h : ByteArray} (H : At2 w b l h) (hb : Below w.heap.size w w') : At2 w' b l h := H.below hb H.lt
theorem At2.new (w : World) (n l : Nat) (h : ByteArray) (hn : n = w.heap.size) : At2 (w.alloc (.cells #[.int .u64 (l : Int), .string h] 26)) n l h := by
  subst hn
  have hb : (w.alloc (.cells #[.int .u64 (l : Int), .string h] 26)).heap[w.heap.size]? = some (.cells #[.int .u64 (l : Int), .string h] 26 (0, 0)) := heap_alloc_new w _
  refine ⟨?_, ?_, ?_, ?_⟩
  · simp only [World.cell?, hb]; rfl
  · simp only [World.cell?, hb]; rfl
  · simp only [World.frozen?, hb]; rfl
  · simp only [World.frozen?, hb]; rfl
theorem At2.alloc {w : World} {b l : Nat} {h : ByteArray} (H : At2 w b l h) (o : Obj) : At2 (w.alloc o) b l h := H.grows ((Below.refl _ _).alloc (Nat.le_refl _) o)
theorem At2.set {w : World} {b l : Nat} {h : ByteArray} (H : At2 w b l h) (l' : Nat) (h' : ByteArray) : At2 ((w.setCell ⟨b, 0, none⟩ (.int .u64 (l' : Int))).setCell ⟨b, 1, none⟩ (.string h')) b l' h' := by
  obtain ⟨h0, h1, f0, f1⟩ := H
  have hc : ∃ c e fr, w.heap[b]? = some (.cells c e fr) := by
    unfold World.cell? at h0
    split at h0
    · rename_i c e fr hb; exact ⟨c, e, fr, hb⟩
    · simp at h0
  obtain ⟨c, e, fr, hb⟩ := hc
  have hb' : ((w.setCell ⟨b, 0, none⟩ (.int .u64 (l' : Int))).setCell ⟨b, 1, none⟩ (.string h')).heap[b]? = some (.cells ((c.setIfInBounds 0 (.int .u64 (l' : Int))).setIfInBounds 1 (.string h')) e fr) := by
    simp [World.setCell, Array.getElem?_modify, hb]
  simp only [At2, World.cell?, World.frozen?, hb, hb', Option.isSome_none, Bool.false_eq_true, if_false] at h0 h1 f0 f1 ⊢
  have l0 := (Array.getElem?_eq_some_iff.1 h0).1
  have l1 := (Array.getElem?_eq_some_iff.1 h1).1
  refine ⟨?_, ?_, f0, f1⟩
  · rw [Array.getElem?_setIfInBounds, if_neg (by omega), Array.getElem?_setIfInBounds, if_pos rfl, if_pos l0]
  · rw [Array.getElem?_setIfInBounds, if_pos rfl, if_pos (by simpa using l1)]
theorem At2.setOff {w : World} {b b' l : Nat} {h : ByteArray} (H : At2 w b l h) (hne : b ≠ b') (x y : Value) : At2 ((w.setCell ⟨b', 0, none⟩ x).setCell ⟨b', 1, none⟩ y) b l h := by
  have e : ((w.setCell ⟨b', 0, none⟩ x).setCell ⟨b', 1, none⟩ y).heap[b]? = w.heap[b]? := (Below.heap_setCell _ _ _ _ hne).trans (Below.heap_setCell _ _ _ _ hne)
  exact ⟨(World.cell?_of_block (a := ⟨b, 0, none⟩) e).trans H.1, (World.cell?_of_block (a := ⟨b, 1, none⟩) e).trans H.2.1, (World.frozen?_of_block (a := ⟨b, 0, none⟩) e).trans H.2.2.1, (World.frozen?_of_block (a := ⟨b, 1, none⟩) e).trans H.2.2.2⟩
/-- W is w but for draws. -/
def Drawn (w W : World) : Prop := W.heap = w.heap ∧ W.os = w.os ∧ W.tape = w.tape ∧ W.output = w.output
theorem At2.past {w W w' : World} {b l : Nat} {h : ByteArray} (H : At2 w b l h) (hb : Below W.heap.size W w') (hW : Drawn w W) : At2 w' b l h := by
  have e : W.heap[b]? = w.heap[b]? := by rw [hW.1]
  have H' : At2 W b l h := ⟨(World.cell?_of_block (a := ⟨b, 0, none⟩) e).trans H.1, (World.cell?_of_block (a := ⟨b, 1, none⟩) e).trans H.2.1, (World.frozen?_of_block (a := ⟨b, 0, none⟩) e).trans H.2.2.1, (World.frozen?_of_block (a := ⟨b, 1, none⟩) e).trans H.2.2.2⟩
  exact H'.grows hb
theorem below_past {w w1 W w' : World} {B : Nat} (H : Below B w w1) (hb : Below W.heap.size W w') (hW : Drawn w1 W) (hB : B ≤ w1.heap.size) : Below B w w' := by
  obtain ⟨e, e1, e2, e3⟩ := hW
  refine H.trans ⟨hb.os.trans e1, hb.tape.trans e2, hb.output.trans e3, by rw [← e]; exact hb.size, fun k hk => ?_⟩
  rw [hb.block k (by rw [e]; omega), e]
theorem row_past {w W w' : World} {b cap : Nat} {l : List Nat} (H : Row w b cap l) (hb : Below W.heap.size W w') (hW : Drawn w W) : Row w' b cap l :=
  H.ofBlock (by have := H.lt; rw [hb.block b (by rw [hW.1]; exact this), hW.1])
theorem size_past {w W : World} (hW : Drawn w W) : W.heap.size = w.heap.size := by rw [hW.1]
/-- Two calls of words, one behind the other. -/
theorem two_words {w wc W w3 V w4 : World} {B bx cx by' cy p : Nat} {l m : List Nat} {h : ByteArray} (HC : At2 wc p 0 h ∧ Below w.heap.size w wc ∧ B ≤ wc.heap.size)
    (H3 : W.heap.size ≤ bx ∧ Row w3 bx cx l ∧ Below W.heap.size W w3 ∧ cx ≤ 100001) (hW : Drawn wc W) (H4 : V.heap.size ≤ by' ∧ Row w4 by' cy m ∧ Below V.heap.size V w4 ∧ cy ≤ 100001) (hV : Drawn w3 V) :
    At2 w4 p 0 h ∧ Below w.heap.size w w4 ∧ B ≤ w4.heap.size ∧ B ≤ bx ∧ bx < by' ∧ Row w4 bx cx l ∧ Row w4 by' cy m := by
  have e1 := size_past hW
  have e2 := size_past hV
  have e3 := H3.2.2.1.size
  have e4 := H4.2.2.1.size
  have e5 := H3.2.1.lt
  have e6 := HC.2.1.size
  exact ⟨(HC.1.past H3.2.2.1 hW).past H4.2.2.1 hV, below_past (below_past HC.2.1 H3.2.2.1 hW e6) H4.2.2.1 hV (by omega), by omega, by omega, by omega, row_past H3.2.1 H4.2.2.1 hV, H4.2.1⟩
/-- Three numbers are boxed: two that came in, and a result. -/
def World.box3 (w : World) (la lb : Nat) (ha hb : ByteArray) : World :=
  ((w.alloc (.cells #[.int .u64 (la : Int), .string ha] 26)).alloc (.cells #[.int .u64 (lb : Int), .string hb] 26)).alloc (.cells #[.int .u64 0, .string ⟨#[]⟩] 26)
theorem box3_a (w : World) (la lb : Nat) (ha hb : ByteArray) : At2 (World.box3 w la lb ha hb) w.heap.size la ha := ((At2.new w _ la ha rfl).alloc _).alloc _
theorem box3_b (w : World) (la lb : Nat) (ha hb : ByteArray) : At2 (World.box3 w la lb ha hb) (w.heap.size + 1) lb hb := (At2.new _ _ lb hb (by simp)).alloc _
theorem box3_c (w : World) (la lb : Nat) (ha hb : ByteArray) : At2 (World.box3 w la lb ha hb) (w.heap.size + 1 + 1) 0 ⟨#[]⟩ := At2.new _ _ 0 _ (by simp)
theorem box3_below (w : World) (la lb : Nat) (ha hb : ByteArray) : Below w.heap.size w (World.box3 w la lb ha hb) :=
  (((Below.refl _ _).alloc (Nat.le_refl _) _).alloc (by simp) _).alloc (by simp; omega) _
theorem box3_size (w : World) (la lb : Nat) (ha hb : ByteArray) : (World.box3 w la lb ha hb).heap.size = w.heap.size + 1 + 1 + 1 := by simp [World.box3]
theorem setCells_below {w W : World} (h : Below w.heap.size w W) (b : Nat) (hb : w.heap.size ≤ b) (x y : Value) : Below w.heap.size w ((W.setCell ⟨b, 0, none⟩ x).setCell ⟨b, 1, none⟩ y) :=
  (h.setCell (p := ⟨b, 0, none⟩) hb _).setCell (p := ⟨b, 1, none⟩) hb _
theorem At2.drew {w : World} {b l : Nat} {h : ByteArray} (H : At2 w b l h) : At2 w.drew b l h := H

set_option maxRecDepth 100000 in
set_option maxHeartbeats 1000000 in
theorem add_small (a b : Nat) (w : World) (h : a + b < M.B) :
    Calls Tryd.prog 12 #[natV a, natV b] w fun e w' => e = .returned (natV (a + b)) ∧ Below w.heap.size w w' := by
  have ha : a < M.B := by omega
  have hb : b < M.B := by omega
  have CB := mkHid (fun W => bothSmall_any a b W)
  have CO := mkHid (fun W => of_any (a + b) W h)
  rw [decide_eq_true (show a < M.B ∧ b < M.B from ⟨ha, hb⟩)] at CB
  have CA := mkHid (fun W => add64_run_c0 a b W)
  rw [Nat.mod_eq_of_lt (show a + b < 18446744073709551616 from h), Nat.div_eq_of_lt (show a + b < 18446744073709551616 from h)] at CA
  unfold natV at CB CO ⊢
  rw [Nat.mod_eq_of_lt ha, Nat.mod_eq_of_lt hb] at CB ⊢
  clear h ha hb
  generalize hs a = h1 at *
  generalize hs b = h2 at *
  generalize hs (a + b) = h3 at *
  generalize (a + b) % M.B = l3 at *
  generalize a + b = s at *
  have hCA := CA.out
  go_enter Tryd.func12, Tryd.ntmps12
  go_wp2_with (first
    | (go_at_call 35; refine (CB.out _).mono ?_; rintro e w1 ⟨rfl, hb⟩; have HB1 : Hid (Below (w.heap.size + 1 + 1 + 1) (World.box3 w a b h1 h2) w1) := mkHid (hb.mono (by simp)); obtain ⟨hc1, hf1⟩ := old_cells hb; clear hb)
    | (go_at_call 24; refine (CO.out _).mono ?_; rintro e w2 ⟨rfl, hb⟩; have HB2 : Hid (Below (w.heap.size + 1 + 1 + 1) (World.box3 w a b h1 h2) w2) := mkHid (HB1.out.trans (hb.mono (by have := HB1.out.size; rw [box3_size] at this; exact this))); clear hb hc1 hf1; obtain ⟨h10, h11, hf10, hf11⟩ := (box3_c w a b h1 h2).below HB2.out (by omega)))
  refine bodyPost_ret (v := .agg #[.int .u64 (l3 : Int), .string h3]) (by simp [results, Tryd.results12, go_sem, h10, h11]) rfl ⟨rfl, ?_⟩
  exact setCells_below ((box3_below w a b h1 h2).trans (HB2.out.mono (by omega))) _ (by omega) _ _

set_option maxRecDepth 100000 in
set_option maxHeartbeats 2000000 in
theorem add_main (a b : Nat) (w : World) (hnot : ¬ a + b < M.B) (la : (M.dig a).length ≤ 90000) (lb : (M.dig b).length ≤ 90000) :
    Calls Tryd.prog 12 #[natV a, natV b] w fun e w' => e = .returned (natV (a + b)) ∧ Below w.heap.size w w' := by
  have CB := mkHid (fun W => bothSmall_any a b W)
  have CC := mkHid (fun W => cmp_any a b W)
  obtain ⟨bs, hbs⟩ : ∃ bs, decide (a < M.B ∧ b < M.B) = bs := ⟨_, rfl⟩
  rw [hbs] at CB
  obtain ⟨x, y, hx⟩ : ∃ x y, (Lib.compareInt (a : Int) b < 0 → x = b ∧ y = a) ∧ (¬ Lib.compareInt (a : Int) b < 0 → x = a ∧ y = b) := by
    by_cases h : Lib.compareInt (a : Int) b < 0
    · exact ⟨b, a, fun _ => ⟨rfl, rfl⟩, fun h' => absurd h h'⟩
    · exact ⟨a, b, fun h' => absurd h' h, fun _ => ⟨rfl, rfl⟩⟩
  have hxy : x + y = a + b ∧ y ≤ x ∧ (M.dig x).length ≤ 90000 ∧ (M.dig y).length ≤ 90000 := by
    rcases Nat.lt_or_ge a b with h | h
    · obtain ⟨rfl, rfl⟩ := hx.1 (by rw [ci_lt h]; decide)
      exact ⟨Nat.add_comm _ _, by omega, lb, la⟩
    · obtain ⟨rfl, rfl⟩ := hx.2 (by
        rcases Nat.lt_or_ge b a with h2 | h2
        · rw [ci_gt h2]; decide
        · rw [show a = b by omega, ci_eq]; decide)
      exact ⟨rfl, h, la, lb⟩
  generalize hz : Lib.compareInt (a : Int) b = z at *
  have HX := mkHid hx
  obtain ⟨hs1, hle, lx, ly⟩ := hxy
  have hcar : Hid (bs = true → ¬ (a % M.B + b % M.B) / 18446744073709551616 = 0) := mkHid fun hb => by
    subst hb
    have := of_decide_eq_true hbs
    rw [Nat.mod_eq_of_lt this.1, Nat.mod_eq_of_lt this.2]
    rw [← M.B_eq]
    intro h0
    have := (Nat.div_eq_zero_iff_lt M.B_pos).1 h0
    exact hnot this
  rw [← hs1]
  have CWX := mkHid (fun W => words_any x W (by omega))
  have CWY := mkHid (fun W => words_any y W (by omega))
  have hlx : (M.dig y).length ≤ (M.dig x).length := by
    apply M.dig_length_le.2
    have := M.dig_length_le (n := x) (k := (M.dig x).length) |>.1 (Nat.le_refl _)
    omega
  clear hx hbs hz hnot la lb
  obtain ⟨car, hcr⟩ : ∃ car, (a % M.B + b % M.B) / 18446744073709551616 = car := ⟨_, rfl⟩
  rw [hcr] at hcar
  have CA := mkHid (fun W => add64_run_c0 (a % M.B) (b % M.B) W)
  rw [hcr] at CA
  have CP := mkHid (fun (b cap : Nat) (l : List Nat) (W : World) (hw : Row W b cap l) (hl : l.length ≤ 100000) (okl : M.Ok l) => pack_any b cap l W hw hl okl)
  have HX : Hid ((z < 0 → (x % M.B = b % M.B ∧ hs x = hs b) ∧ y % M.B = a % M.B ∧ hs y = hs a) ∧ (¬ z < 0 → (x % M.B = a % M.B ∧ hs x = hs a) ∧ y % M.B = b % M.B ∧ hs y = hs b)) := mkHid ⟨fun h => by obtain ⟨rfl, rfl⟩ := HX.out.1 h; simp, fun h => by obtain ⟨rfl, rfl⟩ := HX.out.2 h; simp⟩
  obtain ⟨ln, hln⟩ : ∃ ln, (M.dig x).length = ln := ⟨_, rfl⟩
  have hl1 : ln ≤ 90000 := by omega
  have HV : Hid (∀ zs : List Nat, M.val zs = (M.val (M.dig x) + M.val (M.dig y)) % M.B ^ (ln + 1) → natV (M.val zs) = natV (x + y)) := mkHid (fun zs h => by
    rw [M.val_dig, M.val_dig, Nat.mod_eq_of_lt] at h
    · rw [h]
    · have h1 : x < M.B ^ ln := M.dig_length_le.1 (by omega)
      have h2 : y < M.B ^ ln := by omega
      have h3 : 2 * M.B ^ ln ≤ M.B * M.B ^ ln := Nat.mul_le_mul_right _ M.one_lt_B
      rw [Nat.pow_succ, Nat.mul_comm _ M.B]
      omega)
  have HLN := mkHid hln
  rw [hln] at CWX
  obtain ⟨lm, hlm⟩ : ∃ lm, (M.dig y).length = lm := ⟨_, rfl⟩
  rw [hlm] at CWY
  have HLM := mkHid hlm
  have OX := mkHid (M.ok_dig x)
  have OY := mkHid (M.ok_dig y)
  have hlmn : lm ≤ ln := by omega
  clear hln hlm hle lx ly hlx
  obtain ⟨i0, hi0, hz0, hz1, hz2⟩ := info_parts info64
  have hi' := Lib.hid hi0; have hz0' := Lib.hid hz0; have hz1' := Lib.hid hz1; have hz2' := Lib.hid hz2; clear hi0 hz0 hz1 hz2
  have hsz1 : Hid ((Tryd.prog.info? 24).map (·.size) = some 1) := mkHid (by rw [hi'.out]; simp [hz1'.out])
  unfold natV at CB CC CWX CWY HV ⊢
  clear hcr hs1
  generalize x % M.B = xl at *
  generalize y % M.B = yl at *
  generalize a % M.B = al at *
  generalize b % M.B = bl at *
  generalize hs x = xh at *
  generalize hs y = yh at *
  generalize hs a = ah at *
  generalize hs b = bh at *
  generalize hs (x + y) = sh at *
  generalize (x + y) % M.B = sl at *
  have hCA := CA.out
  go_enter Tryd.func12, Tryd.ntmps12
  go_upto_if 12 with (go_at_call 35; refine (CB.out _).mono ?_; rintro e w1 ⟨rfl, hb⟩; have HB1 : Hid (Below (w.heap.size + 1 + 1 + 1) (World.box3 w al bl ah bh) w1) := mkHid (hb.mono (by simp)); clear hb)
  obtain ⟨h10, h11, hf10, hf11⟩ := (box3_a w al bl ah bh).below HB1.out (by omega)
  obtain ⟨h20, h21, hf20, hf21⟩ := (box3_b w al bl ah bh).below HB1.out (by omega)
  go_cut [] (fun wx => Below (w.heap.size + 1 + 1 + 1) (World.box3 w al bl ah bh) wx)
  case first =>
    rcases bs with _ | _
    · go_wp2
      go_meet
      exact HB1.out
    · have hc0 : ¬ (car : Int) = 0 := by have := hcar.out rfl; omega
      go_wp2
      go_meet
      exact HB1.out
  case rest =>
    have HB2 := mkHid hcut
    obtain ⟨h10, h11, hf10, hf11⟩ := (box3_a w al bl ah bh).below hcut (by omega)
    obtain ⟨h20, h21, hf20, hf21⟩ := (box3_b w al bl ah bh).below hcut (by omega)
    clear hcut HB1 CA hCA CB
    go_upto_if 28 with (go_at_call 14; refine (CC.out _).mono ?_; rintro e w2 ⟨rfl, hb⟩; have HB3 : Hid (Below (w.heap.size + 1 + 1 + 1) (World.box3 w al bl ah bh) w2) := mkHid (HB2.out.trans (hb.mono (by have := HB2.out.size; rw [box3_size] at this; exact this))); clear hb)
    clear h10 h11 hf10 hf11 h20 h21 hf20 hf21
    have G1 := (box3_a w al bl ah bh).below HB3.out (by omega)
    have G2 := (box3_b w al bl ah bh).below HB3.out (by omega)
    have G3 := (box3_c w al bl ah bh).below HB3.out (by omega)
    have HB4 := mkHid ((box3_below w al bl ah bh).trans (HB3.out.mono (by omega)))
    have HS4 := mkHid HB3.out.size
    rw [box3_size] at HS4
    obtain ⟨h10, h11, hf10, hf11⟩ := G1
    obtain ⟨h20, h21, hf20, hf21⟩ := G2
    go_cut [] (fun wx => At2 wx w.heap.size xl xh ∧ At2 wx (w.heap.size + 1) yl yh ∧ At2 wx (w.heap.size + 1 + 1) 0 ⟨#[]⟩ ∧ Below w.heap.size w wx ∧ w.heap.size + 1 + 1 + 1 ≤ wx.heap.size)
    case first =>
      go_wp2
      · rename_i ht
        go_meet
        obtain ⟨⟨e1, e2⟩, e3, e4⟩ := HX.out.1 ht
        rw [e1, e2, e3, e4]
        have A1 : At2 w2 w.heap.size al ah := ⟨h10, h11, hf10, hf11⟩
        have A2 : At2 w2 (w.heap.size + 1) bl bh := ⟨h20, h21, hf20, hf21⟩
        exact ⟨(A1.set _ _).setOff (by omega) _ _, (A2.setOff (by omega) _ _).set _ _, (G3.setOff (by omega) _ _).setOff (by omega) _ _, setCells_below (setCells_below HB4.out _ (Nat.le_refl _) _ _) _ (by omega) _ _, by simpa using HS4.out⟩
      · rename_i ht
        go_meet
        obtain ⟨⟨e1, e2⟩, e3, e4⟩ := HX.out.2 ht
        rw [e1, e2, e3, e4]
        exact ⟨⟨h10, h11, hf10, hf11⟩, ⟨h20, h21, hf20, hf21⟩, G3, HB4.out, HS4.out⟩
    case rest =>
      rename_i wd
      clear HB2 HB3 HB4 HS4 h10 h11 hf10 hf11 h20 h21 hf20 hf21 G3 HX hcar
      have HC := mkHid hcut
      obtain ⟨⟨h10, h11, hf10, hf11⟩, ⟨h20, h21, hf20, hf21⟩, hcut⟩ := hcut
      clear hcut
      go_upto_region 7 with fail
      go_cut [7, 8] (fun v7 v8 wx => ∃ bx cx by' cy, v7 = .slice (some ⟨bx, 0, none⟩) ln cx ∧ v8 = .slice (some ⟨by', 0, none⟩) lm cy ∧ Hid (At2 wx (w.heap.size + 1 + 1) 0 ⟨#[]⟩ ∧ Below w.heap.size w wx ∧ w.heap.size + 1 + 1 + 1 ≤ wx.heap.size ∧ w.heap.size + 1 + 1 + 1 ≤ bx ∧ bx < by' ∧ Row wx bx cx (M.dig x) ∧ Row wx by' cy (M.dig y)))
      case first =>
        go_region_with (first
          | (go_at_call_of 36 (Value.agg #[.int .u64 (xl : Int), .string xh]); refine (CWX.out _).mono ?_; rintro e w3 ⟨bx, cx, rfl, H3⟩; obtain ⟨h30, h31, hf30, hf31⟩ := HC.out.2.1.past H3.out.2.2.1 ⟨rfl, rfl, rfl, rfl⟩)
          | (go_at_call_of 36 (Value.agg #[.int .u64 (yl : Int), .string yh]); refine (CWY.out _).mono ?_; rintro e w4 ⟨by', cy, rfl, H4⟩))
        all_goals (go_wp2_with fail; go_meet; refine ⟨bx, cx, by', cy, rfl, rfl, mkHid (two_words HC.out.2.2 H3.out ⟨rfl, rfl, rfl, rfl⟩ H4.out ⟨rfl, rfl, rfl, rfl⟩)⟩)
      case rest =>
        obtain ⟨bx, cx, by', cy, rfl, rfl, H⟩ := hcut
        clear HC h10 h11 hf10 hf11 h20 h21 hf20 hf21 CWX CWY CC
        have hcl : (ln : Int) ≤ 90000 := by omega
        go_wp2_with (at_make; refine wpList_make_full _ rfl _ _ 60 rfl wc.heap.size 24 i0 (.int .u64 0) 1 Tryd.underlying60 hi'.out hz0'.out hz1'.out _ _ _ _ (ln + 1) rfl rfl (by omega) (by omega) ?bytes ?maxl ?base ?_)
        case bytes => rw [hz2'.out]; omega
        case maxl => unfold maxLen; omega
        case base => exact Nat.le_refl _
        intro w1 hown hgrow
        have HR : Hid (Row w1 wc.heap.size (ln + 1) (List.replicate (ln + 1) 0)) := mkHid (Row.made hown (by omega))
        have HB1 : Hid (Below wc.heap.size wc w1) := mkHid (below_grown hgrow (Nat.le_refl _))
        clear hown hgrow
        obtain ⟨cur, hcur, hsize⟩ := HR.out.cur
        have HCUR := Lib.hid hcur; have HSZ := Lib.hid hsize; clear hcur hsize
        go_wp2_with (with_reducible refine wpList_copy_own rfl (.tmp 39) (.tmp 40) 60 60 rfl 24 Tryd.underlying60 hsz1.out wc.heap.size 0 _ _ ⟨bx, 0, none⟩ _ _ rfl rfl cur 24 HCUR.out (ws (M.dig x)) ?c1 ?c2 ?c3 ?c4 ?_)
        case c1 => rw [ws_length, HLN.out]; exact (Nat.min_eq_left (by omega)).symm
        case c2 => exact words_cells (H.out.2.2.2.2.2.1.grows HB1.out).words
        case c3 => rw [ws_length, HLN.out]; have := HSZ.out; omega
        case c4 => exact ws_one _
        have HR2 := mkHid (HR.out.spliced (by simp) cur HCUR.out (cs := M.dig x) (off := 0) (by have := HLN.out; omega))
        have HB2 := mkHid (below_setRow HB1.out (Nat.le_refl _) (cur.toList.take 0 ++ (ws (M.dig x) ++ cur.toList.drop (0 + (ws (M.dig x)).length))).toArray)
        have hrow : cur.toList.take 0 ++ (ws (M.dig x) ++ cur.toList.drop (0 + (ws (M.dig x)).length)) = ws (M.dig x) ++ cur.toList.drop (ws (M.dig x)).length := by simp
        rw [hrow] at HR2 HB2
        generalize w1.setRow wc.heap.size _ = w2 at HR2 HB2 ⊢
        clear HCUR HSZ HR hrow
        have hm : List.take 0 (List.replicate (ln + 1) 0) ++ (M.dig x ++ List.drop (0 + (M.dig x).length) (List.replicate (ln + 1) 0)) = M.dig x ++ [0] := by
          rw [HLN.out, List.drop_replicate, show ln + 1 - (0 + ln) = 1 by omega]; rfl
        rw [hm] at HR2
        clear hm
        have hlen : (M.dig x ++ [0]).length = ln + 1 := by rw [List.length_append, HLN.out]; rfl
        have CAW := mkHid (addWords_any wc.heap.size 0 (ln + 1) by' 0 cy (M.dig x ++ [0]) (M.dig y) w2 HR2.out.words (H.out.2.2.2.2.2.2.grows HB2.out).words (by have := H.out.2.2.2.2.2.2.lt; omega) (by rw [hlen, HLM.out]; omega) (by rw [hlen]; omega) (OX.out.append (M.Ok.zeros 1)) OY.out)
        have hv0 : M.val (M.dig x ++ [0]) = M.val (M.dig x) := by rw [M.val_snoc, Nat.mul_zero, Nat.add_zero]
        rw [hlen, HLM.out, hv0] at CAW
        have HLE := mkHid hlen
        clear hlen hv0
        go_wp2_with fail
        refine CAW.out.mono ?_
        clear CAW
        rintro e w5 ⟨rfl, zs, R⟩
        have R2 := mkHid (HR2.out.after R.out.2.2.2.2 R.out.2.2.2.1 (by rw [R.out.1]; exact Nat.le_refl _))
        have HB3 := mkHid (HB2.out.trans (R.out.2.2.2.2.toBelow (Nat.le_refl _) HB2.out.size))
        have CPZ := mkHid (fun W hw => CP.out wc.heap.size (ln + 1) zs W hw (by rw [R.out.1]; omega) R.out.2.1)
        have HZV := HV.out zs R.out.2.2.1
        have HZL := R.out.1
        unfold natV at CPZ
        rw [HZV, HZL] at CPZ
        clear HZV HZL
        have HA5 := mkHid (H.out.1.past HB3.out ⟨rfl, rfl, rfl, rfl⟩)
        have HB5 := mkHid (below_past H.out.2.1 HB3.out ⟨rfl, rfl, rfl, rfl⟩ H.out.2.1.size)
        clear HB2 HR2 HB3 HB1 HV
        go_wp2_with (go_at_call 38; refine (CPZ.out _ R2.out).mono ?_; rintro e w6 ⟨rfl, hb⟩; have HB6 := mkHid hb; obtain ⟨h10, h11, hf10, hf11⟩ := HA5.out.past hb ⟨rfl, rfl, rfl, rfl⟩; clear hb)
        refine bodyPost_ret (v := .agg #[.int .u64 (sl : Int), .string sh]) (by simp [results, Tryd.results12, go_sem, h10, h11]) rfl ⟨rfl, ?_⟩
        exact setCells_below (below_past HB5.out HB6.out ⟨rfl, rfl, rfl, rfl⟩ HB5.out.size) _ (by omega) _ _

theorem add_any (a b : Nat) (w : World) (la : (M.dig a).length ≤ 90000) (lb : (M.dig b).length ≤ 90000) :
    Calls Tryd.prog 12 #[natV a, natV b] w fun e w' => e = .returned (natV (a + b)) ∧ Below w.heap.size w w' := by
  by_cases h : a + b < M.B
  · exact add_small a b w h
  · exact add_main a b w h la lb

end Go.Proofs.YtjdkbbggelpchaaDoor
