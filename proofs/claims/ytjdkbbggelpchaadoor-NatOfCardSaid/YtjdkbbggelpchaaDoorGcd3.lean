/- Gcd where neither number is 0; Gcd. -/
import Derived.Test.YtjdkbbggelpchaaDoorGcd2
import Derived.Test.YtjdkbbggelpchaaDoorLen
namespace Go.Proofs.YtjdkbbggelpchaaDoor
open Go.RowKit

/-- A number's parts decide that it is not 0. -/
def NotZ (l : Nat) (h : ByteArray) : Prop := (h = ⟨#[]⟩ ∧ ¬ (l : Int) = 0 ∧ ¬ l = 0) ∨ h.toList.isEmpty = false
theorem notZ (n : Nat) (h : n ≠ 0) : NotZ (n % M.B) (hs n) := by
  rcases Nat.lt_or_ge n M.B with h1 | h1
  · refine .inl ⟨hs_small h1, ?_, ?_⟩ <;> rw [Nat.mod_eq_of_lt h1] <;> omega
  · exact .inr (hs_ne h1)
theorem dig_le_of {a b : Nat} (h : a ≤ b) {k : Nat} (hb : (M.dig b).length ≤ k) : (M.dig a).length ≤ k := Nat.le_trans (dig_mono h) hb

theorem grown2 {w wc w3 : World} (h : Below w.heap.size w wc) (k : Below wc.heap.size wc w3) (o p : Obj) : Below w.heap.size w ((w3.alloc o).alloc p) :=
  ((h.trans (k.mono h.size)).alloc (Nat.le_trans h.size k.size) o).alloc (by have := h.size; have := k.size; simp; omega) p

theorem below_then {w w1 W w' : World} {B C : Nat} (H : Below B w w1) (hb : Below C W w') (hW : Drawn w1 W) (hC : B ≤ C) : Below B w w' := by
  obtain ⟨e, e1, e2, e3⟩ := hW
  refine H.trans ⟨hb.os.trans e1, hb.tape.trans e2, hb.output.trans e3, by rw [← e]; exact hb.size, fun k hk => ?_⟩
  rw [hb.block k (by omega), e]
theorem gcd_arith2 {w w6 V w7 W : World} {B : Nat} (h : Below w.heap.size w w6) (k : Below B V w7) (d : Drawn w6 V) (d2 : Drawn w7 W) : w.heap.size ≤ W.heap.size := by
  have e1 := size_past d
  have e2 := size_past d2
  have e3 := h.size
  have e4 := k.size
  omega
theorem gcd_arith {w w4 W w5 V w6 : World} {bx cx by' cy : Nat} {l m : List Nat} (h4 : w.heap.size + 1 + 1 + 1 ≤ w4.heap.size) (ha : At2 w4 (w.heap.size + 1 + 1) 0 ⟨#[]⟩) (hv : Below w.heap.size w w4)
    (h1 : W.heap.size ≤ bx) (r1 : Row w5 bx cx l) (b1 : Below W.heap.size W w5) (d1 : Drawn w4 W) (h2 : V.heap.size ≤ by') (_ : Row w6 by' cy m) (b2 : Below V.heap.size V w6) (d2 : Drawn w5 V) :
    bx ≠ by' ∧ w.heap.size + 1 + 1 + 1 ≤ bx ∧ w.heap.size + 1 + 1 + 1 ≤ by' ∧ Below w.heap.size w w6 ∧ At2 w6 (w.heap.size + 1 + 1) 0 ⟨#[]⟩ := by
  have e1 := size_past d1
  have e2 := size_past d2
  have e3 := b1.size
  have e5 := r1.lt
  have e6 := hv.size
  exact ⟨by omega, by omega, by omega, below_past (below_past hv b1 d1 e6) b2 d2 (by omega), (ha.past b1 d1).past b2 d2⟩

set_option maxRecDepth 100000 in
set_option maxHeartbeats 4000000 in
theorem gcd_nz (a b : Nat) (w : World) (ha : a ≠ 0) (hb : b ≠ 0) (la : (M.dig a).length ≤ 1000) (lb : (M.dig b).length ≤ 1000) (ht : Tabs w) (h6 : 6 ≤ w.heap.size) :
    Calls Tryd.prog 20 #[natV a, natV b] w fun e w' => e = .returned (natV (Nat.gcd a b)) ∧ Below w.heap.size w w' := by
  have CC := mkHid (fun W => cmp_any a b W)
  obtain ⟨x, y, hxy, hle, hx0, hy0, hg, lx, ly⟩ : ∃ x y, ((Lib.compareInt (a : Int) b < 0 → x = b ∧ y = a) ∧ (¬ Lib.compareInt (a : Int) b < 0 → x = a ∧ y = b)) ∧ y ≤ x ∧ x ≠ 0 ∧ y ≠ 0 ∧ Nat.gcd a b = Nat.gcd y (x % y) ∧ (M.dig x).length ≤ 1000 ∧ (M.dig y).length ≤ 1000 := by
    by_cases h1 : Lib.compareInt (a : Int) b < 0
    · have hlt : a < b := by
        rcases Nat.lt_or_ge a b with h2 | h2
        · exact h2
        · rcases Nat.lt_or_ge b a with h3 | h3
          · rw [ci_gt h3] at h1; exact absurd h1 (by decide)
          · rw [show a = b by omega, ci_eq] at h1; exact absurd h1 (by decide)
      exact ⟨b, a, ⟨fun _ => ⟨rfl, rfl⟩, fun h => absurd h1 h⟩, by omega, hb, ha, by rw [Nat.gcd_rec a b, Nat.gcd_comm], lb, la⟩
    · have hge : b ≤ a := by
        rcases Nat.lt_or_ge a b with h2 | h2
        · rw [ci_lt h2] at h1; exact absurd (by decide) h1
        · exact h2
      exact ⟨a, b, ⟨fun h => absurd h h1, fun _ => ⟨rfl, rfl⟩⟩, hge, ha, hb, by rw [Nat.gcd_comm a b, Nat.gcd_rec b a, Nat.gcd_comm], la, lb⟩
  generalize hz : Lib.compareInt (a : Int) b = z at *
  rw [hg]
  have HT := mkHid ht
  have H6 := mkHid h6
  clear ht h6
  have CD := mkHid (fun W => div_any x y W hy0 (by omega))
  have hry : x % y < y := Nat.mod_lt _ (by omega)
  have lr : (M.dig (x % y)).length ≤ 1000 := dig_le_of (by omega) ly
  have HX : Hid ((z < 0 → (b % M.B = x % M.B ∧ hs b = hs x) ∧ a % M.B = y % M.B ∧ hs a = hs y) ∧ (¬ z < 0 → (a % M.B = x % M.B ∧ hs a = hs x) ∧ b % M.B = y % M.B ∧ hs b = hs y)) := mkHid ⟨fun h => by obtain ⟨rfl, rfl⟩ := hxy.1 h; exact ⟨⟨rfl, rfl⟩, rfl, rfl⟩, fun h => by obtain ⟨rfl, rfl⟩ := hxy.2 h; exact ⟨⟨rfl, rfl⟩, rfl, rfl⟩⟩
  have HNY : Hid (NotZ (y % M.B) (hs y)) := mkHid (notZ y hy0)
  have HCASE : Hid ((x % y % M.B = 0 ∧ hs (x % y) = ⟨#[]⟩ ∧ Nat.gcd y (x % y) % M.B = y % M.B ∧ hs (Nat.gcd y (x % y)) = hs y) ∨
      (NotZ (x % y % M.B) (hs (x % y)) ∧ (∀ W, Calls Tryd.prog 35 #[natV y, natV (x % y)] W fun e w' => e = .returned (.bool true) ∧ Below W.heap.size W w') ∧
        (∀ W, Calls Tryd.prog 51 #[.int .u64 ((y % M.B : Nat) : Int), .int .u64 ((x % y % M.B : Nat) : Int)] W fun e w' => e = .returned (.int .u64 ((Nat.gcd y (x % y) : Nat) : Int)) ∧ ∃ n, w' = W.drewN n) ∧
        (∀ W, Calls Tryd.prog 24 #[.int .u64 ((Nat.gcd y (x % y) : Nat) : Int)] W fun e w' => e = .returned (natV (Nat.gcd y (x % y))) ∧ Below W.heap.size W w')) ∨
      (NotZ (x % y % M.B) (hs (x % y)) ∧ (∀ W, Calls Tryd.prog 35 #[natV y, natV (x % y)] W fun e w' => e = .returned (.bool false) ∧ Below W.heap.size W w') ∧
        (∀ W, Calls Tryd.prog 36 #[natV y] W fun e w' => ∃ b cap, e = .returned (.slice (some ⟨b, 0, none⟩) (M.dig y).length cap) ∧ Hid (W.heap.size ≤ b ∧ Row w' b cap (M.dig y) ∧ Below W.heap.size W w' ∧ cap ≤ 100001)) ∧
        (∀ W, Calls Tryd.prog 36 #[natV (x % y)] W fun e w' => ∃ b cap, e = .returned (.slice (some ⟨b, 0, none⟩) (M.dig (x % y)).length cap) ∧ Hid (W.heap.size ≤ b ∧ Row w' b cap (M.dig (x % y)) ∧ Below W.heap.size W w' ∧ cap ≤ 100001)) ∧
        (∀ (bx cx by' cy base : Nat) (W : World), Row W bx cx (M.dig y) → Row W by' cy (M.dig (x % y)) → bx ≠ by' → base ≤ bx → base ≤ by' → 6 ≤ base → Tabs W →
          Calls Tryd.prog 52 #[.slice (some ⟨bx, 0, none⟩) (M.dig y).length cx, .slice (some ⟨by', 0, none⟩) (M.dig (x % y)).length cy] W fun e w' =>
            ∃ b' cap' len, e = .returned (.slice (some ⟨b', 0, none⟩) len cap') ∧ ∃ zs, Hid (zs.length = len ∧ M.Ok zs ∧ M.val zs = Nat.gcd y (x % y) ∧ base ≤ b' ∧ Row w' b' cap' zs ∧ Below base W w' ∧ len ≤ 3000)) ∧
        (∀ (b cap len : Nat) (zs : List Nat) (W : World), zs.length = len → M.Ok zs → M.val zs = Nat.gcd y (x % y) → Row W b cap zs → len ≤ 3000 →
          Calls Tryd.prog 38 #[.slice (some ⟨b, 0, none⟩) len cap] W fun e w' => e = .returned (natV (Nat.gcd y (x % y))) ∧ Below W.heap.size W w'))) := by
    refine mkHid ?_
    by_cases hr : x % y = 0
    · rw [hr]
      exact .inl ⟨Nat.zero_mod _, hs_small M.B_pos, by rw [Nat.gcd_zero_right], by rw [Nat.gcd_zero_right]⟩
    · right
      rcases Nat.lt_or_ge y M.B with h1 | h1
      · have hgy : Nat.gcd y (x % y) ≤ y := Nat.gcd_le_left _ (by omega)
        refine .inl ⟨notZ _ hr, fun W => ?_, fun W => ?_, fun W => of_any _ W (by omega)⟩
        · have := bothSmall_any y (x % y) W
          rwa [decide_eq_true (show y < M.B ∧ x % y < M.B from ⟨h1, by omega⟩)] at this
        · rw [Nat.mod_eq_of_lt h1, Nat.mod_eq_of_lt (show x % y < M.B by omega)]
          unfold M.B at h1
          exact gcdWord_any _ _ W (by omega) (by omega)
      · refine .inr ⟨notZ _ hr, fun W => ?_, fun W => words_any _ W (by omega), fun W => words_any _ W (by omega), fun bx cx by' cy base W r1 r2 hne h1 h2 h3 h4 => gcdWords_any bx cx by' cy base y (x % y) W r1 r2 hne h1 h2 h3 hy0 hr ly lr h4, fun b cap len zs W hl okl hv hrow hlen => ?_⟩
        · have := bothSmall_any y (x % y) W
          rwa [decide_eq_false (show ¬ (y < M.B ∧ x % y < M.B) by omega)] at this
        · subst hl
          have := pack_any b cap zs W hrow (by omega) okl
          rwa [hv] at this
  unfold natV at CC CD HCASE ⊢
  clear hxy hle hx0 hy0 hg lx ly hz ha hb la lb hry lr
  generalize M.dig y = dy at *
  generalize M.dig (x % y) = dr at *
  generalize hs (Nat.gcd y (x % y)) = gh at *
  generalize Nat.gcd y (x % y) % M.B = gl at *
  generalize Nat.gcd y (x % y) = gn at *
  generalize hs (x % y) = rh at *
  generalize x % y % M.B = rl at *
  generalize hs (x / y) = qh at *
  generalize x / y % M.B = ql at *
  generalize x % M.B = xl at *
  generalize y % M.B = yl at *
  generalize a % M.B = al at *
  generalize b % M.B = bl at *
  generalize hs x = xh at *
  generalize hs y = yh at *
  generalize hs a = ah at *
  generalize hs b = bh at *
  go_enter Tryd.func20, Tryd.ntmps20
  go_upto_if 11 with (go_at_call 14; refine (CC.out _).mono ?_; rintro e w2 ⟨rfl, hb⟩; have HB3 : Hid (Below (w.heap.size + 1 + 1 + 1) (World.box3 w al bl ah bh) w2) := mkHid (hb.mono (by simp)); clear hb)
  have G1 := (box3_a w al bl ah bh).below HB3.out (by omega)
  have G2 := (box3_b w al bl ah bh).below HB3.out (by omega)
  have G3 := (box3_c w al bl ah bh).below HB3.out (by omega)
  have HB4 := mkHid ((box3_below w al bl ah bh).trans (HB3.out.mono (by omega)))
  have HS4 := mkHid HB3.out.size
  rw [box3_size] at HS4
  obtain ⟨h10, h11, hf10, hf11⟩ := G1
  obtain ⟨h20, h21, hf20, hf21⟩ := G2
  go_cut [] (fun wx => At2 wx w.heap.size xl xh ∧ At2 wx (w.heap.size + 1) yl yh ∧ At2 wx (w.heap.size + 1 + 1) 0 ⟨#[]⟩ ∧ Below w.heap.size w wx ∧ w.heap.size + 1 + 1 + 1 ≤ wx.heap.size)
  case first =>
    clear CD HCASE HNY
    go_wp2
    · rename_i ht
      go_meet
      have A1 : At2 w2 w.heap.size al ah := ⟨h10, h11, hf10, hf11⟩
      have A2 : At2 w2 (w.heap.size + 1) bl bh := ⟨h20, h21, hf20, hf21⟩
      have T1 := (A1.set bl bh).setOff (b' := w.heap.size + 1) (by omega) (.int .u64 (al : Int)) (.string ah)
      have T2 := (A2.setOff (b' := w.heap.size) (by omega) (.int .u64 (bl : Int)) (.string bh)).set al ah
      have T3 := (G3.setOff (b' := w.heap.size) (by omega) (.int .u64 (bl : Int)) (.string bh)).setOff (b' := w.heap.size + 1) (by omega) (.int .u64 (al : Int)) (.string ah)
      have T4 := setCells_below (setCells_below HB4.out w.heap.size (Nat.le_refl _) (.int .u64 (bl : Int)) (.string bh)) (w.heap.size + 1) (by omega) (.int .u64 (al : Int)) (.string ah)
      obtain ⟨⟨e1, e2⟩, e3, e4⟩ := HX.out.1 ht
      have hs := HS4.out
      clear HX HB4 HB3 G3 CC
      subst e1 e2 e3 e4
      exact ⟨T1, T2, T3, T4, by simpa using hs⟩
    · rename_i ht
      go_meet
      have A1 : At2 w2 w.heap.size al ah := ⟨h10, h11, hf10, hf11⟩
      have A2 : At2 w2 (w.heap.size + 1) bl bh := ⟨h20, h21, hf20, hf21⟩
      obtain ⟨⟨e1, e2⟩, e3, e4⟩ := HX.out.2 ht
      have hs := HS4.out
      have hbb := HB4.out
      clear HX HB4 HB3 CC
      subst e1 e2 e3 e4
      exact ⟨A1, A2, G3, hbb, hs⟩
  case rest =>
    obtain ⟨⟨ha10, ha11, haf10, haf11⟩, ⟨hb10, hb11, hbf10, hbf11⟩, hc1, hb, hsz⟩ := hcut
    have HBL := mkHid hb
    have HA2 := mkHid hc1
    have HSZ := mkHid hsz
    clear hb hsz hc1 HB3 HB4 HS4 G3 CC HX h10 h11 hf10 hf11 h20 h21 hf20 hf21
    have HYX : Hid (At2 wc (w.heap.size + 1) yl yh) := mkHid ⟨hb10, hb11, hbf10, hbf11⟩
    rcases HCASE.out with ⟨rfl, rfl, rfl, rfl⟩ | ⟨hnr, hC1, hC2, hC3⟩ | ⟨hnr, hC1, hC2, hC3, hC4, hC5⟩
    · clear HCASE
      rcases HNY.out with ⟨rfl, h1, h2⟩ | h1
      all_goals
        go_wp2_with (go_at_call 16; refine (CD.out _).mono ?_; rintro e w3 ⟨rfl, hb⟩; have HB5 := mkHid hb; clear hb; obtain ⟨hd10, hd11, hdf10, hdf11⟩ := ((HYX.out.grows HB5.out).alloc (.cells #[.int .u64 (ql : Int), .string qh] 26)).alloc (.cells #[.int .u64 0, .string ⟨#[]⟩] 26); obtain ⟨he10, he11, hef10, hef11⟩ := ((HA2.out.grows HB5.out).alloc (.cells #[.int .u64 (ql : Int), .string qh] 26)).alloc (.cells #[.int .u64 0, .string ⟨#[]⟩] 26))
        refine bodyPost_ret (v := .agg #[.int .u64 (gl : Int), .string _]) (by simp [results, Tryd.results20, go_sem, he10, he11]) rfl ⟨rfl, ?_⟩
        exact setCells_below (((HBL.out.trans (HB5.out.mono HBL.out.size)).alloc (by have := HBL.out.size; have := HB5.out.size; omega) _).alloc (by simp; have := HBL.out.size; have := HB5.out.size; omega) _) _ (by omega) _ _
    · have HC1 := mkHid hC1; have HC2 := mkHid hC2; have HC3 := mkHid hC3
      clear HCASE hC1 hC2 hC3
      rcases HNY.out with ⟨e1, h1, h2⟩ | h1 <;> rcases hnr with ⟨e2, h3, h4⟩ | h3 <;> (try clear e1) <;> (try clear e2)
      all_goals
        go_wp2_with (first
          | (go_at_call 16; refine (CD.out _).mono ?_; rintro e w3 ⟨rfl, hb⟩; have HB5 := mkHid hb; clear hb; have HBV := mkHid (grown2 HBL.out HB5.out (.cells #[.int .u64 (ql : Int), .string qh] 26) (.cells #[.int .u64 (rl : Int), .string rh] 26)); have HY5 := mkHid (((HYX.out.grows HB5.out).alloc (.cells #[.int .u64 (ql : Int), .string qh] 26)).alloc (.cells #[.int .u64 (rl : Int), .string rh] 26)); have HA5 := mkHid (((HA2.out.grows HB5.out).alloc (.cells #[.int .u64 (ql : Int), .string qh] 26)).alloc (.cells #[.int .u64 (rl : Int), .string rh] 26)); have HR5 := mkHid (At2.new (w3.alloc (.cells #[.int .u64 (ql : Int), .string qh] 26)) (w3.heap.size + 1) rl rh (by simp)); obtain ⟨hd10, hd11, hdf10, hdf11⟩ := HY5.out)
          | (go_at_call 35; refine (HC1.out _).mono ?_; rintro e w4 ⟨rfl, hb⟩; have HB6 := mkHid hb; clear hb; obtain ⟨he10, he11, hef10, hef11⟩ := HY5.out.grows HB6.out; obtain ⟨hr10, hr11, hrf10, hrf11⟩ := HR5.out.grows HB6.out)
          | (go_at_call 51; refine (HC2.out _).mono ?_; rintro e w5 ⟨rfl, n5, rfl⟩)
          | (go_at_call 24; refine (HC3.out _).mono ?_; rintro e w6 ⟨rfl, hb⟩; have HB7 := mkHid hb; clear hb; obtain ⟨ht10, ht11, htf10, htf11⟩ := (HA5.out.grows HB6.out).past HB7.out ⟨rfl, rfl, rfl, rfl⟩))
        refine bodyPost_ret (v := .agg #[.int .u64 (gl : Int), .string gh]) (by simp [results, Tryd.results20, go_sem, ht10, ht11]) rfl ⟨rfl, ?_⟩
        exact setCells_below (below_past (HBV.out.trans (HB6.out.mono HBV.out.size)) HB7.out ⟨rfl, rfl, rfl, rfl⟩ (HBV.out.trans (HB6.out.mono HBV.out.size)).size) _ (by omega) _ _
    · have HC1 := mkHid hC1; have HC2 := mkHid hC2; have HC3 := mkHid hC3; have HC4 := mkHid hC4; have HC5 := mkHid hC5
      clear HCASE hC1 hC2 hC3 hC4 hC5
      go_upto_region 3 with fail
      go_cut [16] (fun v16 wx => v16 = .bool false ∧ wx = wc)
      case first => rcases HNY.out with ⟨e1, h1, h2⟩ | h1 <;> (try clear e1) <;> (go_wp2; go_meet; exact ⟨rfl, rfl⟩)
      case rest =>
      obtain ⟨rfl, rfl⟩ := hcut
      go_upto_region 6 with (go_at_call 16; refine (CD.out _).mono ?_; rintro e w3 ⟨rfl, hb⟩; have HB5 := mkHid hb; clear hb; have HBV := mkHid (grown2 HBL.out HB5.out (.cells #[.int .u64 (ql : Int), .string qh] 26) (.cells #[.int .u64 (rl : Int), .string rh] 26)); have HY5 := mkHid (((HYX.out.grows HB5.out).alloc (.cells #[.int .u64 (ql : Int), .string qh] 26)).alloc (.cells #[.int .u64 (rl : Int), .string rh] 26)); have HA5 := mkHid (((HA2.out.grows HB5.out).alloc (.cells #[.int .u64 (ql : Int), .string qh] 26)).alloc (.cells #[.int .u64 (rl : Int), .string rh] 26)); have HR5 := mkHid (At2.new (w3.alloc (.cells #[.int .u64 (ql : Int), .string qh] 26)) (w3.heap.size + 1) rl rh (by simp)); obtain ⟨hd10, hd11, hdf10, hdf11⟩ := HY5.out)
      go_cut [25] (fun v25 wx => v25 = .bool false ∧ wx = ((w3.alloc (.cells #[.int .u64 (ql : Int), .string qh] 26)).alloc (.cells #[.int .u64 (rl : Int), .string rh] 26)))
      case first => rcases hnr with ⟨e2, h3, h4⟩ | h3 <;> (try clear e2) <;> (go_wp2; go_meet; exact ⟨rfl, rfl⟩)
      case rest =>
      obtain ⟨rfl, rfl⟩ := hcut
      clear hnr
      go_upto_region 10 with (go_at_call 35; refine (HC1.out _).mono ?_; rintro e w4 ⟨rfl, hb⟩; have HB6 := mkHid hb; clear hb; obtain ⟨he10, he11, hef10, hef11⟩ := HY5.out.grows HB6.out; obtain ⟨hr10, hr11, hrf10, hrf11⟩ := HR5.out.grows HB6.out)
      have HR6 := mkHid (HR5.out.grows HB6.out)
      have HA6 := mkHid (HA5.out.grows HB6.out)
      have HV6 := mkHid (HBV.out.trans (HB6.out.mono HBV.out.size))
      have HZ6 : Hid (w.heap.size + 1 + 1 + 1 ≤ w4.heap.size) := mkHid (Nat.le_trans HSZ.out (Nat.le_trans HB5.out.size (Nat.le_trans (by simp; omega) HB6.out.size)))
      clear HB5 HBV HY5 HA5 HR5 HB6 HBL HA2 HSZ HYX ha10 ha11 haf10 haf11 hb10 hb11 hbf10 hbf11 hd10 hd11 hdf10 hdf11
      go_region_with (first
        | (go_at_call_of 36 (Value.agg #[.int .u64 (yl : Int), .string yh]); refine (HC2.out _).mono ?_; rintro e w5 ⟨bx, cx, rfl, H3⟩; have HR7 := mkHid (HR6.out.past H3.out.2.2.1 ⟨rfl, rfl, rfl, rfl⟩); obtain ⟨hg10, hg11, hgf10, hgf11⟩ := HR7.out)
        | (go_at_call_of 36 (Value.agg #[.int .u64 (rl : Int), .string rh]); refine (HC3.out _).mono ?_; rintro e w6 ⟨by', cy, rfl, H4⟩; have RX6 := mkHid (row_past H3.out.2.1 H4.out.2.2.1 ⟨rfl, rfl, rfl, rfl⟩); have HZW := mkHid (gcd_arith HZ6.out HA6.out HV6.out H3.out.1 H3.out.2.1 H3.out.2.2.1 ⟨rfl, rfl, rfl, rfl⟩ H4.out.1 H4.out.2.1 H4.out.2.2.1 ⟨rfl, rfl, rfl, rfl⟩))
        | (go_at_call 52; refine (HC4.out _ _ _ _ (w.heap.size + 1 + 1 + 1) _ RX6.out H4.out.2.1 HZW.out.1 HZW.out.2.1 HZW.out.2.2.1 (by have := H6.out; omega) (HT.out.below HZW.out.2.2.2.1 H6.out)).mono ?_; rintro e w7 ⟨bq, cq, lq, rfl, zs, H5⟩; obtain ⟨ht10, ht11, htf10, htf11⟩ := HZW.out.2.2.2.2.below H5.out.2.2.2.2.2.1 (by omega))
        | (go_at_call 38; refine (HC5.out _ _ _ zs _ H5.out.1 H5.out.2.1 H5.out.2.2.1 H5.out.2.2.2.2.1 H5.out.2.2.2.2.2.2).mono ?_; rintro e w8 ⟨rfl, hb⟩; have HB8 := mkHid hb; clear hb; obtain ⟨hu10, hu11, huf10, huf11⟩ := (HZW.out.2.2.2.2.below H5.out.2.2.2.2.2.1 (by omega)).past HB8.out ⟨rfl, rfl, rfl, rfl⟩))
      all_goals
        go_wp2_with fail
        refine bodyPost_ret (v := .agg #[.int .u64 (gl : Int), .string gh]) (by simp [results, Tryd.results20, go_sem, hu10, hu11]) rfl ⟨rfl, ?_⟩
        have HF := mkHid (below_then (below_then HZW.out.2.2.2.1 H5.out.2.2.2.2.2.1 ⟨rfl, rfl, rfl, rfl⟩ (by omega)) (HB8.out.mono (gcd_arith2 HZW.out.2.2.2.1 H5.out.2.2.2.2.2.1 ⟨rfl, rfl, rfl, rfl⟩ ⟨rfl, rfl, rfl, rfl⟩)) ⟨rfl, rfl, rfl, rfl⟩ (Nat.le_refl _))
        first
          | exact setCells_below HF.out (w.heap.size + 1 + 1) (by omega) _ _
          | exact (setCells_below HF.out (w.heap.size + 1 + 1) (by omega) _ _).drew
          | exact setCells_below HF.out.drew (w.heap.size + 1 + 1) (by omega) _ _

theorem gcd_any (a b : Nat) (w : World) (la : (M.dig a).length ≤ 1000) (lb : (M.dig b).length ≤ 1000) (ht : Tabs w) (h6 : 6 ≤ w.heap.size) :
    Calls Tryd.prog 20 #[natV a, natV b] w fun e w' => e = .returned (natV (Nat.gcd a b)) ∧ Below w.heap.size w w' := by
  by_cases h : a = 0 ∨ b = 0
  · exact gcd_zero a b w h
  · exact gcd_nz a b w (fun e => h (.inl e)) (fun e => h (.inr e)) la lb ht h6

end Go.Proofs.YtjdkbbggelpchaaDoor
