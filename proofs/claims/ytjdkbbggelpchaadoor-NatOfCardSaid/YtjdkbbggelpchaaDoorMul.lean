/- The contract of Mul. -/
import Derived.Test.YtjdkbbggelpchaaDoorSub
import Derived.Test.YtjdkbbggelpchaaDoorProd
namespace Go.Proofs.YtjdkbbggelpchaaDoor
open Go.RowKit

set_option maxRecDepth 100000 in
set_option maxHeartbeats 1000000 in
theorem mul_small (a b : Nat) (w : World) (ha : a < M.B) (hb : b < M.B) (h : a * b < M.B) :
    Calls Tryd.prog 18 #[natV a, natV b] w fun e w' => e = .returned (natV (a * b)) ∧ Below w.heap.size w w' := by
  have CB := mkHid (fun W => bothSmall_any a b W)
  have CO := mkHid (fun W => of_any (a * b) W h)
  rw [decide_eq_true (show a < M.B ∧ b < M.B from ⟨ha, hb⟩)] at CB
  have CA := mkHid (fun W => Tryd.bits_Mul64 a b ha hb W)
  rw [Nat.mod_eq_of_lt (show a * b < 18446744073709551616 from h), Nat.div_eq_of_lt (show a * b < 18446744073709551616 from h)] at CA
  unfold natV at CB CO ⊢
  rw [Nat.mod_eq_of_lt ha, Nat.mod_eq_of_lt hb] at CB ⊢
  clear h ha hb
  generalize hs a = h1 at *
  generalize hs b = h2 at *
  generalize hs (a * b) = h3 at *
  generalize (a * b) % M.B = l3 at *
  generalize a * b = s at *
  go_enter Tryd.func18, Tryd.ntmps18
  go_wp2_with (first
    | (go_at_call 35; refine (CB.out _).mono ?_; rintro e w1 ⟨rfl, hb⟩; have HB1 : Hid (Below (w.heap.size + 1 + 1 + 1) (World.box3 w a b h1 h2) w1) := mkHid (hb.mono (by simp)); obtain ⟨ha10, ha11, haf10, haf11⟩ := (box3_a w a b h1 h2).below HB1.out (by omega); obtain ⟨hb10, hb11, hbf10, hbf11⟩ := (box3_b w a b h1 h2).below HB1.out (by omega); clear hb)
    | (go_at_call 49; refine (CA.out _).mono ?_; rintro e w' ⟨rfl, rfl⟩)
    | (go_at_call 24; refine (CO.out _).mono ?_; rintro e w2 ⟨rfl, hb⟩; have HB2 : Hid (Below (w.heap.size + 1 + 1 + 1) (World.box3 w a b h1 h2) w2) := mkHid (HB1.out.trans (hb.mono (by have := HB1.out.size; rw [box3_size] at this; exact this))); clear hb; obtain ⟨h10, h11, hf10, hf11⟩ := (box3_c w a b h1 h2).below HB2.out (by omega)))
  refine bodyPost_ret (v := .agg #[.int .u64 (l3 : Int), .string h3]) (by simp [results, Tryd.results18, go_sem, h10, h11]) rfl ⟨rfl, ?_⟩
  exact setCells_below ((box3_below w a b h1 h2).trans (HB2.out.mono (by omega))) _ (by omega) _ _

theorem wr_past {w W w' : World} {b lo hi : Nat} (h : Wr W w' b lo hi) (hW : Drawn w W) : Wr w w' b lo hi := by
  obtain ⟨e, e1, e2, e3⟩ := hW
  exact ⟨h.os.trans e1, h.tape.trans e2, h.output.trans e3, by rw [← e]; exact h.size, fun k hk hb => by rw [← e] at hk ⊢; exact h.block k hk hb, fun cur t fr hc => by rw [← e] at hc; exact h.own cur t fr hc⟩
theorem words_past {w W : World} {b off : Nat} {l : List Nat} (h : Words w b off l) (hW : Drawn w W) : Words W b off l := h.ofBlock fun _ => by rw [hW.1]
theorem mul_step {s zs x : List Nat} {i ln c d V vt vs : Nat} (hs : s.length = i + ln) (hz : zs.length = ln) (e : M.val zs + M.B ^ ln * c = M.val (s.drop i) + d * M.val x)
    (hv : M.val s = M.val x * vt) (hV : V = vt + M.B ^ i * d) (hvs : vs = M.val (s.take i ++ (zs ++ [c]))) : vs = M.val x * V := by
  subst hvs hV
  have h1 := M.val_take_drop s i (by omega)
  rw [M.val_append, M.val_snoc, hz, e, List.length_take, Nat.min_eq_left (by omega), Nat.mul_add, ← Nat.add_assoc, ← h1, hv, Nat.mul_add]
  generalize M.B ^ i = P
  generalize M.val x = X
  congr 1
  ac_rfl

theorem mul_rel {w6 wr w5 : World} {pb ln lm i c d : Nat} {s zs xs ys : List Nat} (hlt : i < lm)
    (T : s.length = i + ln ∧ M.Ok s ∧ M.val s = M.val xs * M.val (ys.take i) ∧ Words wr pb 0 (s ++ List.replicate (lm - i) 0) ∧ Wr w6 wr pb 0 (ln + lm))
    (R1 : zs.length = ln) (R2 : M.Ok zs) (R3 : c < M.B) (R4 : M.val zs + M.B ^ ln * c = M.val (s.drop i) + d * M.val xs) (R5 : Words w5 pb i zs) (hw : Wr wr w5 pb i (i + ln))
    (hz : Words w5 pb (i + ln) (0 :: List.replicate (lm - (i + 1)) 0)) (hvt : M.val (ys.take (i + 1)) = M.val (ys.take i) + M.B ^ i * d) :
    (s.take i ++ (zs ++ [c])).length = i + 1 + ln ∧ M.Ok (s.take i ++ (zs ++ [c])) ∧ M.val (s.take i ++ (zs ++ [c])) = M.val xs * M.val (ys.take (i + 1)) ∧
      Words (w5.setCell ⟨pb, i + ln, none⟩ (.int .u64 (c : Int))) pb 0 ((s.take i ++ (zs ++ [c])) ++ List.replicate (lm - (i + 1)) 0) ∧ Wr w6 (w5.setCell ⟨pb, i + ln, none⟩ (.int .u64 (c : Int))) pb 0 (ln + lm) := by
  obtain ⟨h1, h2, h3, h4, h5⟩ := T
  have ht : (s.take i).length = i := by rw [List.length_take]; omega
  refine ⟨?_, (h2.take i).append (R2.append (M.Ok.cons R3 M.Ok.nil)), mul_step h1 R1 R4 h3 hvt rfl, ?_, ?_⟩
  · simp only [List.length_append, ht, R1, List.length_cons, List.length_nil]; omega
  · have a1 : Words w5 pb 0 (s.take i) := (h4.left.take i).keepOut hw (by left; omega)
    have a2 : Words w5 pb (0 + (s.take i).length) zs := by rw [ht, Nat.zero_add]; exact R5
    have a3 := a1.append a2
    have hl : (s.take i ++ zs).length = i + ln := by rw [List.length_append, ht, R1]
    have a4 : Words w5 pb 0 ((s.take i ++ zs) ++ 0 :: List.replicate (lm - (i + 1)) 0) := a3.append (by rw [hl, Nat.zero_add]; exact hz)
    have a5 := a4.setMid hl c
    rw [Nat.zero_add] at a5
    simpa using a5
  · exact (h5.trans (hw.mono (Nat.zero_le _) (by omega))).setCell (Nat.zero_le _) (by omega) _

set_option maxRecDepth 100000 in
set_option maxHeartbeats 2000000 in
theorem mul_main (a b : Nat) (w : World) (hnot : ¬ (a < M.B ∧ b < M.B ∧ a * b < M.B)) (la : (M.dig a).length ≤ 45000) (lb : (M.dig b).length ≤ 45000) :
    Calls Tryd.prog 18 #[natV a, natV b] w fun e w' => e = .returned (natV (a * b)) ∧ Below w.heap.size w w' := by
  have CB := mkHid (fun W => bothSmall_any a b W)
  obtain ⟨bs, hbs⟩ : ∃ bs, decide (a < M.B ∧ b < M.B) = bs := ⟨_, rfl⟩
  rw [hbs] at CB
  obtain ⟨hi, hhi⟩ : ∃ hi, (a % M.B) * (b % M.B) / 18446744073709551616 = hi := ⟨_, rfl⟩
  obtain ⟨lo, hlo⟩ : ∃ lo, (a % M.B) * (b % M.B) % 18446744073709551616 = lo := ⟨_, rfl⟩
  have CA := mkHid (fun W => Tryd.bits_Mul64 (a % M.B) (b % M.B) (Nat.mod_lt _ M.B_pos) (Nat.mod_lt _ M.B_pos) W)
  rw [hhi, hlo] at CA
  have hcar : Hid (bs = true → ¬ hi = 0) := mkHid fun hb h0 => by
    subst hb
    have := of_decide_eq_true hbs
    rw [Nat.mod_eq_of_lt this.1, Nat.mod_eq_of_lt this.2, h0, ← M.B_eq] at hhi
    exact hnot ⟨this.1, this.2, (Nat.div_eq_zero_iff_lt M.B_pos).1 hhi⟩
  have CWA := mkHid (fun W => words_any a W (by omega))
  have CWB := mkHid (fun W => words_any b W (by omega))
  have CP := mkHid (fun (b cap : Nat) (l : List Nat) (W : World) (hw : Row W b cap l) (hl : l.length ≤ 100000) (okl : M.Ok l) => pack_any b cap l W hw hl okl)
  have HV : Hid (∀ zs : List Nat, M.val zs = M.val (M.dig a) * M.val (M.dig b) → natV (M.val zs) = natV (a * b)) := mkHid (fun zs h => by rw [h, M.val_dig, M.val_dig])
  have OA := mkHid (M.ok_dig a)
  have OB := mkHid (M.ok_dig b)
  obtain ⟨ln, hln⟩ : ∃ ln, (M.dig a).length = ln := ⟨_, rfl⟩
  obtain ⟨lm, hlm⟩ : ∃ lm, (M.dig b).length = lm := ⟨_, rfl⟩
  have hpos : 1 ≤ ln + lm := by
    apply Classical.byContradiction
    intro hc
    have h1 : M.dig a = [] := List.eq_nil_of_length_eq_zero (by omega)
    have h2 : M.dig b = [] := List.eq_nil_of_length_eq_zero (by omega)
    have h3 := M.dig_eq_nil.1 h1
    have h4 := M.dig_eq_nil.1 h2
    subst h3 h4
    exact hnot ⟨M.B_pos, M.B_pos, M.B_pos⟩
  rw [hln] at CWA la
  rw [hlm] at CWB lb
  have HLN := mkHid hln
  have HLM := mkHid hlm
  obtain ⟨i0, hi0, hz0, hz1, hz2⟩ := info_parts info64
  have hi' := Lib.hid hi0; have hz0' := Lib.hid hz0; have hz1' := Lib.hid hz1; have hz2' := Lib.hid hz2; clear hi0 hz0 hz1 hz2
  unfold natV at CB CWA CWB HV ⊢
  clear hbs hhi hlo hnot hln hlm
  generalize a % M.B = al at *
  generalize b % M.B = bl at *
  generalize hs a = ah at *
  generalize hs b = bh at *
  generalize hs (a * b) = sh at *
  generalize (a * b) % M.B = sl at *
  generalize M.dig a = xs at *
  generalize M.dig b = ys at *
  go_enter Tryd.func18, Tryd.ntmps18
  go_upto_if 14 with (go_at_call 35; refine (CB.out _).mono ?_; rintro e w1 ⟨rfl, hb⟩; have HB1 : Hid (Below (w.heap.size + 1 + 1 + 1) (World.box3 w al bl ah bh) w1) := mkHid (hb.mono (by simp)); clear hb)
  obtain ⟨ha10, ha11, haf10, haf11⟩ := (box3_a w al bl ah bh).below HB1.out (by omega)
  obtain ⟨hb10, hb11, hbf10, hbf11⟩ := (box3_b w al bl ah bh).below HB1.out (by omega)
  go_cut [] (fun wx => Below (w.heap.size + 1 + 1 + 1) (World.box3 w al bl ah bh) wx)
  case first =>
    rcases bs with _ | _
    · go_wp2
      go_meet
      exact HB1.out
    · have hc0 : ¬ (hi : Int) = 0 := by have := hcar.out rfl; omega
      go_wp2_with (go_at_call 49; refine (CA.out _).mono ?_; rintro e w' ⟨rfl, rfl⟩)
      go_meet
      exact HB1.out
  case rest =>
    have HB2 := mkHid hcut
    have HS2 := mkHid HB2.out.size
    rw [box3_size] at HS2
    have HC : Hid (At2 wc (w.heap.size + 1 + 1) 0 ⟨#[]⟩ ∧ Below w.heap.size w wc ∧ w.heap.size + 1 + 1 + 1 ≤ wc.heap.size) := mkHid ⟨(box3_c w al bl ah bh).below HB2.out (by omega), (box3_below w al bl ah bh).trans (HB2.out.mono (by omega)), HS2.out⟩
    have HBX : Hid (At2 wc (w.heap.size + 1) bl bh) := mkHid ((box3_b w al bl ah bh).below HB2.out (by omega))
    clear ha10 ha11 haf10 haf11 hb10 hb11 hbf10 hbf11 hcut HB1 CB CA hcar
    obtain ⟨ha10, ha11, haf10, haf11⟩ := (box3_a w al bl ah bh).below HB2.out (by omega)
    obtain ⟨hb10, hb11, hbf10, hbf11⟩ := (box3_b w al bl ah bh).below HB2.out (by omega)
    go_upto_region 5 with fail
    go_cut [7, 8] (fun v7 v8 wx => ∃ bx cx by' cy, v7 = .slice (some ⟨bx, 0, none⟩) ln cx ∧ v8 = .slice (some ⟨by', 0, none⟩) lm cy ∧ Hid (At2 wx (w.heap.size + 1 + 1) 0 ⟨#[]⟩ ∧ Below w.heap.size w wx ∧ w.heap.size + 1 + 1 + 1 ≤ wx.heap.size ∧ w.heap.size + 1 + 1 + 1 ≤ bx ∧ bx < by' ∧ Row wx bx cx xs ∧ Row wx by' cy ys))
    case first =>
      go_region_with (first
        | (go_at_call_of 36 (Value.agg #[.int .u64 (al : Int), .string ah]); refine (CWA.out _).mono ?_; rintro e w3 ⟨bx, cx, rfl, H3⟩; obtain ⟨h30, h31, hf30, hf31⟩ := HBX.out.past H3.out.2.2.1 ⟨rfl, rfl, rfl, rfl⟩)
        | (go_at_call_of 36 (Value.agg #[.int .u64 (bl : Int), .string bh]); refine (CWB.out _).mono ?_; rintro e w4 ⟨by', cy, rfl, H4⟩))
      all_goals (go_wp2_with fail; go_meet; refine ⟨bx, cx, by', cy, rfl, rfl, mkHid (two_words HC.out H3.out ⟨rfl, rfl, rfl, rfl⟩ H4.out ⟨rfl, rfl, rfl, rfl⟩)⟩)
    case rest =>
      obtain ⟨bx, cx, by', cy, rfl, rfl, H⟩ := hcut
      clear HC HBX HB2 HS2 ha10 ha11 haf10 haf11 hb10 hb11 hbf10 hbf11 CWA CWB
      have hcl : (ln : Int) ≤ 45000 := by omega
      have hcm : (lm : Int) ≤ 45000 := by omega
      go_wp2_with (at_make; refine wpList_make_full _ rfl _ _ 60 rfl wc.heap.size 24 i0 (.int .u64 0) 1 Tryd.underlying60 hi'.out hz0'.out hz1'.out _ _ _ _ (ln + lm) rfl rfl (by omega) (by omega) ?bytes ?maxl ?base ?_)
      case bytes => rw [hz2'.out]; omega
      case maxl => unfold maxLen; omega
      case base => exact Nat.le_refl _
      intro w6 hown hgrow
      have HR : Hid (Row w6 wc.heap.size (ln + lm) (List.replicate (ln + lm) 0)) := mkHid (Row.made hown (by omega))
      have HB1 : Hid (Below wc.heap.size wc w6) := mkHid (below_grown hgrow (Nat.le_refl _))
      clear hown hgrow hi' hz0' hz1' hz2'
      have HX6 := mkHid (H.out.2.2.2.2.2.1.grows HB1.out)
      have HY6 := mkHid (H.out.2.2.2.2.2.2.grows HB1.out)
      have HNE : Hid (bx ≠ wc.heap.size ∧ by' ≠ wc.heap.size) := mkHid (by have h1 := H.out.2.2.2.2.2.2.lt; have h2 := H.out.2.2.2.2.1; omega)
      obtain ⟨pb, hpb⟩ : ∃ pb, wc.heap.size = pb := ⟨_, rfl⟩
      rw [hpb] at HR HNE
      have HPB := mkHid hpb
      go_wp2
      rw [hpb]
      clear hpb
      go_loopw [39] (fun iv wr => ∃ i : Nat, i ≤ lm ∧ iv = .int .i64 i ∧ ∃ s, Hid (s.length = i + ln ∧ M.Ok s ∧ M.val s = M.val xs * M.val (ys.take i) ∧ Words wr pb 0 (s ++ List.replicate (lm - i) 0) ∧ Wr w6 wr pb 0 (ln + lm)))
        (fun iv _ => lm - (intOf iv).toNat)
      case atStart => exact ⟨0, Nat.zero_le _, rfl, List.replicate ln 0, by simp, M.Ok.zeros _, by rw [M.val_zeros, List.take_zero]; rfl, by rw [List.replicate_append_replicate]; exact HR.out.words, Wr.refl _ _ _ _⟩
      case round =>
        obtain ⟨i, hi2, rfl, s, T⟩ := hrel
        by_cases hlt : i < lm
        · have hiy : i < ys.length := by rw [HLM.out]; exact hlt
          obtain ⟨d, hd⟩ : ∃ d, ys[i] = d := ⟨_, rfl⟩
          have hdB : d < M.B := by rw [← hd]; exact OB.out.get hiy
          have hyc := ((HY6.out.keep T.out.2.2.2.2 HNE.out.2).words i hiy).1
          rw [hd, Nat.zero_add] at hyc
          have HVT := mkHid (M.val_take_succ hiy)
          rw [hd] at HVT
          have CA : Hid (∀ W, Drawn wr W → Calls Tryd.prog 50 #[.slice (some ⟨pb, i, none⟩) ln (ln + lm - i), .slice (some ⟨bx, 0, none⟩) ln cx, .int .u64 (d : Int)] W fun e w' => ∃ c : Nat, e = .returned (.int .u64 c) ∧
              ∃ zs, Hid (zs.length = ln ∧ M.Ok zs ∧ c < M.B ∧ M.val zs + M.B ^ ln * c = M.val (s.drop i) + d * M.val xs ∧ Words w' pb i zs ∧ Wr W w' pb i (i + ln))) := mkHid fun W hW => by
            have h := addProduct_any pb i (ln + lm - i) bx 0 cx d (s.drop i) xs W (words_past (by have := T.out.2.2.2.1.left.drop i; rwa [Nat.zero_add] at this) hW) (words_past (HX6.out.keep T.out.2.2.2.2 HNE.out.1).words hW) HNE.out.1 (by rw [List.length_drop, T.out.1, HLN.out]; omega) (by rw [HLN.out]; omega) (T.out.2.1.drop i) OA.out hdB
            rwa [HLN.out] at h
          have HZ : Hid (∀ w5, Wr wr w5 pb i (i + ln) → (w5.cell? ⟨pb, i + ln, none⟩ = some (.int .u64 ((0 : Nat) : Int)) ∧ w5.frozen? ⟨pb, i + ln, none⟩ = false) ∧ Words w5 pb (i + ln) (0 :: List.replicate (lm - (i + 1)) 0)) := mkHid fun w5 hw5 => by
            have h1 := T.out.2.2.2.1.right
            rw [Nat.zero_add, T.out.1, show lm - i = (lm - (i + 1)) + 1 by omega, List.replicate_succ] at h1
            have h2 := h1.keepOut hw5 (by right; exact Nat.le_refl _)
            exact ⟨h2 0 (by simp), h2⟩
          clear hd hdB hiy
          have hil : (i : Int) ≤ 45000 := by omega
          go_wp2_with fail
          go_region_with (first
            | (go_at_call 50; refine (CA.out wr.drew ⟨rfl, rfl, rfl, rfl⟩).mono ?_; rintro e w5 ⟨c, rfl, zs, R⟩; go_loud (have R2 := mkHid (wr_past (w := wr) R.out.2.2.2.2.2 ⟨rfl, rfl, rfl, rfl⟩); obtain ⟨hz0, hzf⟩ := (HZ.out _ R2.out).1)))
          all_goals go_wp2_with fail
          all_goals go_roundw
          case measure => simp [intOf]; omega
          case measure => simp [intOf]; omega
          case rel => exact ⟨i + 1, by omega, by go_num, _, mkHid (mul_rel hlt T.out R.out.1 R.out.2.1 R.out.2.2.1 R.out.2.2.2.1 R.out.2.2.2.2.1 R2.out (HZ.out _ R2.out).2 HVT.out)⟩
          case rel => exact ⟨i + 1, by omega, by go_num, _, mkHid (mul_rel hlt T.out R.out.1 R.out.2.1 R.out.2.2.1 R.out.2.2.2.1 R.out.2.2.2.2.1 R2.out (HZ.out _ R2.out).2 HVT.out)⟩
        · have hie : i = lm := by omega
          subst hie
          have RS := mkHid (HR.out.after T.out.2.2.2.2 (by have := T.out.2.2.2.1; rwa [Nat.sub_self, List.replicate_zero, List.append_nil] at this) (by rw [T.out.1, Nat.add_comm]; exact Nat.le_refl _))
          have CPZ := mkHid (fun W hw => CP.out pb (ln + i) s W hw (by rw [T.out.1]; omega) T.out.2.1)
          have HZV := HV.out s (by rw [T.out.2.2.1, List.take_of_length_le (by rw [HLM.out]; exact Nat.le_refl _)])
          have HZL := T.out.1
          unfold natV at CPZ
          rw [HZV, HZL, Nat.add_comm i ln] at CPZ
          clear HZV HZL
          have BB := mkHid (T.out.2.2.2.2.toBelow (B := wc.heap.size) (by rw [HPB.out]; exact Nat.le_refl _) HB1.out.size)
          have HB5 := mkHid (below_past H.out.2.1 (HB1.out.trans BB.out) ⟨rfl, rfl, rfl, rfl⟩ H.out.2.1.size)
          have HA5 := mkHid (H.out.1.past (HB1.out.trans BB.out) ⟨rfl, rfl, rfl, rfl⟩)
          go_wp2_with (go_at_call 38; refine (CPZ.out _ RS.out).mono ?_; rintro e w7 ⟨rfl, hb⟩; have HB6 := mkHid hb; obtain ⟨h10, h11, hf10, hf11⟩ := HA5.out.past hb ⟨rfl, rfl, rfl, rfl⟩; clear hb)
          refine bodyPost_ret (v := .agg #[.int .u64 (sl : Int), .string sh]) (by simp [results, Tryd.results18, go_sem, h10, h11]) rfl ⟨rfl, ?_⟩
          exact setCells_below (below_past HB5.out HB6.out ⟨rfl, rfl, rfl, rfl⟩ HB5.out.size) _ (by omega) _ _

theorem mul_any (a b : Nat) (w : World) (la : (M.dig a).length ≤ 45000) (lb : (M.dig b).length ≤ 45000) :
    Calls Tryd.prog 18 #[natV a, natV b] w fun e w' => e = .returned (natV (a * b)) ∧ Below w.heap.size w w' := by
  by_cases h : a < M.B ∧ b < M.B ∧ a * b < M.B
  · exact mul_small a b w h.1 h.2.1 h.2.2
  · exact mul_main a b w h la lb

end Go.Proofs.YtjdkbbggelpchaaDoor
