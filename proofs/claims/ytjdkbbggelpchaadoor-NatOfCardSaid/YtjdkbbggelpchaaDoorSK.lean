/- The contract of the specification's Mul: the walk. -/
import Derived.Test.YtjdkbbggelpchaaDoorSJ
namespace Go.Proofs.YtjdkbbggelpchaaDoor
open Go.RowKit SD

set_option maxRecDepth 100000 in
set_option maxHeartbeats 8000000 in
theorem smul_any (a b : Nat) (w : World) (ha : Lib.nDigits a ≤ 100000) (hb : Lib.nDigits b ≤ 100000) :
    Calls Tryd.prog 19 #[.string (ds a), .string (ds b)] w fun e w' => e = .returned (.string (ds (a * b))) ∧ Below w.heap.size w w' := by
  obtain ⟨i0, hi, hz0, hz1, hz2⟩ := info_parts infoI
  have hi' := Lib.hid hi; have hz0' := Lib.hid hz0; have hz1' := Lib.hid hz1; have hz2' := Lib.hid hz2; clear hi hz0 hz1 hz2
  have la := ds_size a
  have lb := ds_size b
  have hnd1 : 0 < Lib.nDigits a := Lib.nDigits_pos a
  obtain ⟨N, hN⟩ : ∃ N, N = Lib.nDigits a + Lib.nDigits b + 1 := ⟨_, rfl⟩
  have hN3 : N ≤ 200001 := by omega
  have hN0 : 0 < N := by omega
  have e0 : IntKind.i64.wrap ((Lib.nDigits a : Int) + (Lib.nDigits b : Int)) = (Lib.nDigits a : Int) + (Lib.nDigits b : Int) := IntWalk.i64_in _ (by omega)
  have e1 : IntKind.i64.wrap ((Lib.nDigits a : Int) + (Lib.nDigits b : Int) + 1) = (N : Int) := by rw [IntWalk.i64_in _ (by omega)]; omega
  have HN := mkHid hN
  clear hN
  go_enter Tryd.func19, Tryd.ntmps19
  go_wp2_with (at_make; refine wpList_make_full _ rfl _ _ 64 rfl w.heap.size 3 i0 (.int .i64 0) 1 Tryd.underlying64 hi'.out hz0'.out hz1'.out _ _ _ _ N rfl rfl (by omega) (by omega) ?bytes ?maxl ?base ?_)
  case bytes => rw [hz2'.out]; omega
  case maxl => first | omega | (unfold maxLen; omega)
  case base => exact Nat.le_refl _
  intro w1 hown hgrow
  obtain ⟨g, hg⟩ : ∃ g, g = w.heap.size := ⟨_, rfl⟩
  have HM : Hid (MulI w w1 g N (List.replicate N 0) 0 (a % 10 ^ 0 * b)) := mkHid ⟨by rw [hg]; exact DC.made hown, below_grown hgrow (Nat.le_refl _), by omega, by simp, by intro x hx; have := (List.mem_replicate.1 hx).2; omega, by rw [val_zeros, Nat.pow_zero, Nat.mod_one, Nat.zero_mul]⟩
  clear hown hgrow hi' hz0' hz1' hz2'
  rw [← hg]
  have HG := mkHid hg
  clear hg
  go_wp2
  go_loopw [6] (fun iv wr => ∃ (i : Nat) (L : List Nat), iv = .int .i64 (i : Int) ∧ i ≤ Lib.nDigits a ∧ Hid (MulI w wr g N L 0 (a % 10 ^ i * b))) (fun iv _ => (600000 - intOf iv).toNat)
  case atStart => exact ⟨0, List.replicate N 0, rfl, by omega, HM⟩
  case round =>
    obtain ⟨i, L, rfl, hi, H⟩ := hrel
    by_cases h1 : i < Lib.nDigits a
    · have h1' : (i : Int) < (Lib.nDigits a : Int) := by omega
      have ei : IntKind.i64.wrap ((i : Int) + 1) = (i : Int) + 1 := IntWalk.i64_in _ (by omega)
      go_wp2
      go_loopw [7, 8] (fun cv jv wr => ∃ (c j : Nat) (L : List Nat), cv = .int .i64 (c : Int) ∧ jv = .int .i64 (j : Int) ∧ c ≤ 9 ∧ i + j ≤ Lib.nDigits a + Lib.nDigits b ∧ Hid (MulI w wr g N L (10 ^ (i + j) * c) (a % 10 ^ i * b + 10 ^ i * (dg a i * (b % 10 ^ j))))) (fun _ jv _ => (600000 - intOf jv).toNat)
      case atStart => exact ⟨0, 0, L, rfl, rfl, by omega, by omega, mkHid (H.out.to (by simp) (by simp [Nat.mod_one]))⟩
      case round =>
        clear H
        obtain ⟨c, j, L, rfl, rfl, hc, hij, H⟩ := hrel
        by_cases h2 : j < Lib.nDigits b ∨ 0 < c
        · have hroom : i + j < Lib.nDigits a + Lib.nDigits b := by
            rcases h2 with h2 | h2
            · omega
            · exact H.out.room h2
          obtain ⟨x, hx⟩ : ∃ x, L[i + j]? = some x := ⟨L[i + j]'(by rw [H.out.len]; have := HN.out; omega), List.getElem?_eq_getElem _⟩
          obtain ⟨hcx, hfx⟩ := H.out.cells _ x hx
          have hx10 : x < 10 := H.out.dig x (List.mem_of_getElem? hx)
          have HDA := mkHid (fun W => digit_any a i W (by omega))
          have HDB := mkHid (fun W => digit_any b j W (by omega))
          have hx1l := dg_lt a i
          have hx2l := dg_lt b j
          obtain ⟨x1, hx1⟩ : ∃ x1, dg a i = x1 := ⟨_, rfl⟩
          obtain ⟨x2, hx2⟩ : ∃ x2, dg b j = x2 := ⟨_, rfl⟩
          rw [hx1] at HDA hx1l
          rw [hx2] at HDB hx2l
          obtain ⟨m, hm⟩ : ∃ m, x1 * x2 = m := ⟨_, rfl⟩
          have hml : m ≤ 81 := by rw [← hm]; exact Nat.mul_le_mul (show x1 ≤ 9 by omega) (show x2 ≤ 9 by omega)
          obtain ⟨s, hs⟩ : ∃ s, x + m + c = s := ⟨_, rfl⟩
          obtain ⟨y, hy⟩ : ∃ y, s % 10 = y := ⟨_, rfl⟩
          obtain ⟨z, hz⟩ : ∃ z, s / 10 = z := ⟨_, rfl⟩
          have hz9 : z ≤ 9 := by omega
          have f1 : IntKind.i64.wrap ((i : Int) + (j : Int)) = ((i + j : Nat) : Int) := by rw [IntWalk.i64_in _ (by omega)]; omega
          have f2 : IntKind.i64.wrap ((x1 : Int) * (x2 : Int)) = (m : Int) := by rw [← Int.natCast_mul, hm, IntWalk.i64_in _ (by omega)]
          have f3 : IntKind.i64.wrap ((x : Int) + (m : Int)) = (x : Int) + (m : Int) := IntWalk.i64_in _ (by omega)
          have f4 : IntKind.i64.wrap ((x : Int) + (m : Int) + (c : Int)) = (s : Int) := by rw [IntWalk.i64_in _ (by omega)]; omega
          have f5 : (s : Int).tmod 10 = (y : Int) := by rw [Int.tmod_eq_emod_of_nonneg (by omega)]; omega
          have f6 : (s : Int).tdiv 10 = (z : Int) := by rw [Int.tdiv_eq_ediv_of_nonneg (by omega)]; omega
          have f7 : IntKind.i64.wrap (y : Int) = (y : Int) := IntWalk.i64_in _ (by omega)
          have f8 : IntKind.i64.wrap (z : Int) = (z : Int) := IntWalk.i64_in _ (by omega)
          have f9 : IntKind.i64.wrap ((j : Int) + 1) = (j : Int) + 1 := IntWalk.i64_in _ (by omega)
          have hp0 : (0 : Int) ≤ ((i + j : Nat) : Int) := by omega
          have hpl : ((i + j : Nat) : Int) < (N : Int) := by have := HN.out; omega
          have HST := mkHid (fun (wd : World) (hd : MulI w wd g N L (10 ^ (i + j) * c) (a % 10 ^ i * b + 10 ^ i * (dg a i * (b % 10 ^ j)))) => hd.step (s := s) (y := y) (z := z) hx (by rw [hx1, hx2, hm]; exact hs) hy hz)
          have hij2 : i + (j + 1) ≤ Lib.nDigits a + Lib.nDigits b := by omega
          obtain ⟨p, hp⟩ : ∃ p, i + j = p := ⟨_, rfl⟩
          rw [hp] at hcx hfx f1 hp0 hpl
          have HP := mkHid hp
          have hjm : j < 300000 := by omega
          clear hx hx1 hx2 hm hs hy hz hx10 hp hroom hij
          have h2' : Hid (j < Lib.nDigits b ∨ 0 < c) := mkHid h2
          have arm : (decide ((j : Int) < (Lib.nDigits b : Int)) = true ∨ (¬ (j : Int) < (Lib.nDigits b : Int) ∧ (0 : Int) < (c : Int))) := by
            by_cases h : (j : Int) < (Lib.nDigits b : Int)
            · exact .inl (decide_eq_true h)
            · exact .inr ⟨h, by rcases h2 with h2 | h2 <;> omega⟩
          clear h2
          rcases arm with h3 | ⟨h3, h4⟩
          · have h3 := of_decide_eq_true h3
            go_wp2
            go_quiet ((first
              | (go_at_call 39; with_reducible exact Calls.quiet_of_same (HDA.out _))
              | (go_at_call 39; with_reducible exact Calls.quiet_of_same (HDB.out _))))
            go_wp2
            go_roundw
            case rel => exact ⟨z, j + 1, L.set p y, rfl, rfl, hz9, hij2, mkHid (by have h9 := HP.out; subst h9; exact HST.out _ (H.out.drewN _))⟩
            case measure => simp [intOf]; omega
          · go_wp2
            go_quiet ((first
              | (go_at_call 39; with_reducible exact Calls.quiet_of_same (HDA.out _))
              | (go_at_call 39; with_reducible exact Calls.quiet_of_same (HDB.out _))))
            go_wp2
            go_roundw
            case rel => exact ⟨z, j + 1, L.set p y, rfl, rfl, hz9, hij2, mkHid (by have h9 := HP.out; subst h9; exact HST.out _ (H.out.drewN _))⟩
            case measure => simp [intOf]; omega
        · have h3 : ¬ (j : Int) < (Lib.nDigits b : Int) := by omega
          obtain rfl : c = 0 := by omega
          have HD := mkHid (H.out.done (by omega))
          clear H
          go_wp2
          go_roundw
          case rel => exact ⟨i + 1, L, rfl, by omega, HD⟩
          case measure => simp [intOf]; omega
    · have h1' : ¬ (i : Int) < (Lib.nDigits a : Int) := by omega
      have hv : val L = a * b := by
        have := H.out.val
        rw [mod_all a _ (by omega)] at this
        simpa using this
      have hf := form_any _ L wr (H.out.cells.dg (cap := N)) H.out.dig (by rw [H.out.len]; omega)
      rw [hv, H.out.len] at hf
      have HF := mkHid hf
      have HBW := mkHid H.out.below
      clear hf hv H
      go_wp2_with (go_at_call 40; refine (HF.out).mono ?_; rintro e w2 ⟨rfl, HB2⟩)
      go_ret
      exact ⟨rfl, below_trans HBW.out HB2 HBW.out.size⟩
end Go.Proofs.YtjdkbbggelpchaaDoor
