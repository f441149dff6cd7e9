/- VarsBack: sets and ascending lists are the same. -/
import Derived.Test.YtpfappojeneecaaDoorVLists
namespace Go.Proofs.YtpfappojeneecaaDoor
open Go.RowKit VM

theorem lst_up (s : BitVec 128) (k : Nat) : (lst s k).Pairwise (· < ·) := by
  unfold lst
  rw [List.pairwise_map]
  refine List.Pairwise.filter _ ?_
  exact List.Pairwise.imp (fun h => by omega) List.pairwise_lt_range
theorem lst_next (s : BitVec 128) {i : Nat} {x y : Int} (hx : (lst s 128)[i]? = some x) (hy : (lst s 128)[i + 1]? = some y) : x < y := by
  obtain ⟨h1, e1⟩ := List.getElem?_eq_some_iff.1 hx
  obtain ⟨h2, e2⟩ := List.getElem?_eq_some_iff.1 hy
  have := List.pairwise_iff_getElem.1 (lst_up s 128) i (i + 1) h1 h2 (by omega)
  rwa [e1, e2] at this

/-- Cells of the call's own that may be written. -/
def Wcells (w W : World) (ao : Option Addr) (n : Nat) : Prop := n = 0 ∨ ∃ g, ao = some ⟨g, 0, none⟩ ∧ w.heap.size ≤ g ∧ ∀ j, j < n → (∃ y, W.cell? ⟨g, j, none⟩ = some (.int .i64 y)) ∧ W.frozen? ⟨g, j, none⟩ = false
theorem Wcells.of {w W : World} {base : Nat} {ao : Option Addr} {cap : Nat} {l : List Int} (h : Own W base (.slice ao l.length cap) l) (hb : w.heap.size ≤ base) : Wcells w W ao l.length := by
  rcases h.2 with ⟨_, h0⟩ | ⟨g, cp, cur, hv, hg, hc, h1, h2, h3, h4⟩
  · exact .inl h0
  · right
    have hao : ao = some ⟨g, 0, none⟩ := by injection hv
    refine ⟨g, hao, by omega, fun j hj => ?_⟩
    obtain ⟨x, hx⟩ : ∃ x, l[j]? = some x := ⟨l[j], List.getElem?_eq_getElem hj⟩
    have hj' : (l.map (Value.int .i64))[j]? = some (.int .i64 x) := by rw [List.getElem?_map, hx]; rfl
    rw [← h4, List.getElem?_take] at hj'
    split at hj'
    · rw [Array.getElem?_toList] at hj'
      exact ⟨⟨x, by simp only [World.cell?, hc]; simpa using hj'⟩, by simp only [World.frozen?, hc]; simp⟩
    · cases hj'
theorem Wcells.set {W : World} {g n k : Nat} (h : ∀ j, j < n → (∃ y, W.cell? ⟨g, j, none⟩ = some (.int .i64 y)) ∧ W.frozen? ⟨g, j, none⟩ = false) (z : Int) :
    ∀ j, j < n → (∃ y, (W.setCell ⟨g, k, none⟩ (.int .i64 z)).cell? ⟨g, j, none⟩ = some (.int .i64 y)) ∧ (W.setCell ⟨g, k, none⟩ (.int .i64 z)).frozen? ⟨g, j, none⟩ = false := by
  intro j hj
  obtain ⟨⟨y, hy⟩, hf⟩ := h j hj
  have hc : ∃ c e fr, W.heap[g]? = some (.cells c e fr) := by
    unfold World.cell? at hy
    split at hy
    · rename_i c e fr hb; exact ⟨c, e, fr, hb⟩
    · simp at hy
  obtain ⟨c, e, fr, hb⟩ := hc
  have hb' : (W.setCell ⟨g, k, none⟩ (.int .i64 z)).heap[g]? = some (.cells (c.setIfInBounds k (.int .i64 z)) e fr) := by
    simp [World.setCell, Array.getElem?_modify, hb]
  simp only [World.cell?, hb] at hy
  simp only [World.frozen?, hb] at hf
  have g0 : c[j]? = some (.int .i64 y) := by simpa using hy
  have l0 := (Array.getElem?_eq_some_iff.1 g0).1
  refine ⟨?_, by simp only [World.frozen?, hb']; exact hf⟩
  simp only [World.cell?, hb', Array.getElem?_setIfInBounds]
  by_cases e2 : k = j
  · subst e2; exact ⟨z, by simp [l0]⟩
  · exact ⟨y, by simp [e2, g0]⟩

set_option maxRecDepth 100000 in
set_option maxHeartbeats 8000000 in
theorem back_any (s : BitVec 128) (v : Value) (l : List Int) (w : World) (ht : Tab w) (hv : Ints w v l) (hlen : l.length ≤ 9223372036854775807) (_ : ∀ x ∈ l, -9223372036854775808 ≤ x ∧ x ≤ 9223372036854775807) :
    Calls Tryd.prog 10 #[sv s, v] w fun e w' => e = .returned (.bool true) ∧ Below w.heap.size w w' := by
  obtain ⟨ao, cap, rfl⟩ := hv.form
  have hg64 := ht.lt
  have HT := mkHid ((On.nil ht).box (wd (lo s)) (wd (hi s)) 26 w.heap.size rfl)
  by_cases hl : l.length ≤ 1000
  · have CX := mkHid (fun W hT => listV_any s W hT)
    have CO := mkHid (fun v W (h : Ints W v (lst s 128)) => of_any v (lst s 128) W h (by have := lst_length s 128; omega))
    rw [ofL_lst] at CO
    have CN := mkHid (fun W => len_any s W)
    rw [← lst_card] at CN
    have CP := mkHid (fun W (h : Ints W (.slice ao l.length cap) l) => of_any _ l W h hlen)
    have CY := mkHid (fun W hT => listV_any (ofL l) W hT)
    have Es := fun W => eq_words W (wd (lo s)) (wd (hi s)) (wd (lo s)) (wd (hi s))
    simp only [beq_self_eq_true, Bool.and_self] at Es
    have HLX := mkHid (lst_length s 128)
    have HLY := mkHid (lst_length (ofL l) 128)
    have HUP := mkHid (fun (i : Nat) (x y : Int) => lst_next (ofL l) (i := i) (x := x) (y := y))
    have HIN : Hid (∀ x : Int, x ∈ l → decide (x ∈ lst (ofL l) 128) = decide (1 ≤ x ∧ x ≤ 128)) := mkHid fun x hx => by
      rw [decide_eq_decide, mem_lst]
      constructor
      · rintro ⟨h1, h2, _⟩; exact ⟨h1, h2⟩
      · rintro ⟨h1, h2⟩
        exact ⟨h1, h2, by rw [has_ofL, decide_eq_true_eq]; exact ⟨h1, h2, hx⟩⟩
    have HV := mkHid hv
    have hl3 : (l.length : Int) ≤ 1000 := by omega
    have HL := mkHid hl
    clear ht hv hl hlen
    unfold sv at *
    generalize wd (lo (ofL l)) = u0 at *
    generalize wd (hi (ofL l)) = u1 at *
    generalize wd (lo s) = s0 at *
    generalize wd (hi s) = s1 at *
    generalize lst (ofL l) 128 = ly at *
    generalize lst s 128 = lx at *
    generalize hml : l.length = m at *
    have HML := mkHid hml
    clear hml
    go_enter Tryd.func10, Tryd.ntmps10
    go_wp2_with (go_at_call 35; refine (CX.out _ HT.out.tab).mono ?_; rintro e w2 ⟨v1, rfl, hv1⟩; have hO := HT.out.next hv1.out.2; have hX := hv1.out.1; obtain ⟨xo, xc, rfl⟩ := hX.ints.form; simp at hX; have HX := mkHid hX; clear hv1 hX)
    obtain ⟨p1, p2, -, -⟩ := hO.h1
    have hs0 := hO.drew
    have hs1 : Own w2.drew (w.heap.size + 1) (.slice xo lx.length xc) lx := HX.out
    go_region_held3 (fun W => (On w W [(w.heap.size, s0, s1)] ∧ Own W (w.heap.size + 1) (.slice xo lx.length xc) lx) ∧ W.cell? ⟨w.heap.size, 0, none⟩ = some (.int .u64 s0) ∧ W.cell? ⟨w.heap.size, 1, none⟩ = some (.int .u64 s1))
      (first
        | (with_reducible exact ⟨⟨hS.1.1.next hw, hS.1.2.below hw⟩, cell_grows hw hS.2.1, cell_grows hw hS.2.2⟩)
        | exact ⟨⟨hs0, hs1⟩, p1, p2⟩)
      (first
        | (go_at_call 14; have hS : (On w _ _ ∧ Own _ _ _ _) ∧ _ := (by assumption); ((with_reducible refine (CO.out _ _ hS.1.2.ints).mono ?_); rintro e w6 ⟨rfl, hw⟩))
        | (go_at_call 33; have hS : (On w _ _ ∧ Own _ _ _ _) ∧ _ := (by assumption); ((with_reducible refine (CN.out _).mono ?_); rintro e w6 ⟨rfl, hw⟩)))
    have hT' : (On w _ _ ∧ Own _ _ _ _) ∧ _ := (by assumption)
    have hB := hT'.1.1.below
    have hTb := hT'.1.1.tab
    have HW := mkHid (Wcells.of hT'.1.2 (Nat.le_succ _))
    clear hT' hs0 hs1 p1 p2 hO HX
    have hx3 : (lx.length : Int) ≤ 128 := by have := HLX.out; omega
    have HP := mkHid (And.intro hB (And.intro hTb HW.out))
    clear hB hTb HW Es CO CN CX HT
    generalize lx.length = nx at *
    go_wp2
    go_loopw [33] (fun iv wr => ∃ k : Nat, k ≤ nx ∧ iv = .int .i64 (k : Int) ∧ Hid (Below w.heap.size w wr ∧ Tab wr ∧ Wcells w wr xo nx)) (fun iv _ => nx - (intOf iv).toNat)
    case atStart => exact ⟨0, Nat.zero_le _, rfl, HP⟩
    case round =>
      obtain ⟨k, hk1, rfl, H⟩ := hrel
      clear HP
      by_cases hlt : k < nx
      · have hk3 : (k : Int) < (nx : Int) := by omega
        have hB := mkHid H.out.1
        have hTb := mkHid H.out.2.1
        rcases H.out.2.2 with h0 | ⟨g, rfl, hg, hcells⟩
        · omega
        · obtain ⟨⟨y, hy⟩, hf⟩ := hcells k hlt
          have HC := mkHid hcells
          clear H hcells
          go_wp2
          go_roundw
          case rel => exact ⟨k + 1, by omega, by go_num, mkHid ⟨bst hB.out hg _, hTb.out.off _ _ _ (by omega), .inr ⟨g, rfl, hg, Wcells.set HC.out _⟩⟩⟩
          case measure => simp [intOf]; omega
      · have hk3 : ¬ (k : Int) < (nx : Int) := by omega
        have hB := H.out.1
        have hTb := H.out.2.1
        have HV2 := mkHid (HV.out.next hB)
        clear H
        go_wp2_with (first
          | (go_at_call 14; refine (CP.out _ HV2.out).mono ?_; rintro e w7 ⟨rfl, hw⟩; have hB7 := bnx hB hw; have hT7 := hTb.below hw; clear hw)
          | (go_at_call 35; refine (CY.out _ hT7).mono ?_; rintro e w8 ⟨v2, rfl, hv2⟩; have hB8 := bnx hB7 hv2.out.2; have hT8 := hT7.below hv2.out.2; have hY := hv2.out.1.ints; obtain ⟨yo, yc, rfl⟩ := hY.form; have HY := mkHid hY; clear hv2 hY))
        have hy3 : (ly.length : Int) ≤ 128 := by have := HLY.out; omega
        have HP := mkHid (And.intro hB8 (And.intro hT8 HY.out))
        clear hB hTb hB7 hT7 hB8 hT8 HY HV2 CP CY
        clear hk1 hlt hk3
        go_loopw [45] (fun iv wr => ∃ k : Nat, k ≤ ly.length ∧ iv = .int .i64 (k : Int) ∧ Hid (Below w.heap.size w wr ∧ Tab wr ∧ Ints wr (.slice yo ly.length yc) ly)) (fun iv _ => ly.length - (intOf iv).toNat)
        case atStart => exact ⟨0, Nat.zero_le _, rfl, HP⟩
        case round =>
          obtain ⟨k2, hk1, rfl, H⟩ := hrel
          clear HP
          by_cases hlt : k2 < ly.length
          · have hk3 : (k2 : Int) < (ly.length : Int) := by omega
            have HB := mkHid H.out.1
            have HTb := mkHid H.out.2.1
            have HI := mkHid H.out.2.2
            rcases H.out.2.2 with ⟨h0, _⟩ | ⟨b, off, cp, hvv, hc⟩
            · rw [h0] at hlt; simp at hlt
            · injection hvv with e1 e2 e3
              subst e1 e3
              clear e2
              obtain ⟨y, hy⟩ : ∃ y, ly[k2]? = some y := ⟨ly[k2], List.getElem?_eq_getElem hlt⟩
              have hcy := hc k2 y hy
              rcases Nat.eq_zero_or_pos k2 with h0 | h0
              · subst h0
                clear H hc hy
                go_wp2
                go_quiet (fail)
                go_wp2
                go_roundw
                case rel => exact ⟨1, by omega, rfl, mkHid ⟨bdr HB.out _, HTb.out.drewN _, HI.out.next (bdr (Below.refl _ _) _)⟩⟩
                case measure => simp [intOf]; omega
              · obtain ⟨j, rfl⟩ : ∃ j, k2 = j + 1 := ⟨k2 - 1, by omega⟩
                obtain ⟨x, hx⟩ : ∃ x, ly[j]? = some x := ⟨ly[j], List.getElem?_eq_getElem (by omega)⟩
                have hcx := hc j x hx
                have hxy := HUP.out j x y hx hy
                have e1 : ((j + 1 : Nat) : Int) = (j : Int) + 1 := by omega
                have e2 : (0 : Int) < (j : Int) + 1 := by omega
                have e4 : (0 : Int) ≤ (j : Int) := by omega
                have e5 : IntKind.i64.wrap ((j : Int) + 1 - 1) = (j : Int) := by rw [IntWalk.i64_in _ (by omega)]; omega
                have e6 : IntKind.i64.wrap (j : Int) = (j : Int) := by rw [IntWalk.i64_in _ (by omega)]
                have e7 : (j : Int) < (ly.length : Int) := by omega
                have e8 : ¬ y ≤ x := by omega
                rw [e1] at hk3 ⊢
                clear H hc hy hx e1
                go_wp2
                go_quiet (fail)
                go_wp2
                go_roundw
                case rel => exact ⟨j + 1 + 1, by omega, by go_num, mkHid ⟨bdr HB.out _, HTb.out.drewN _, HI.out.next (bdr (Below.refl _ _) _)⟩⟩
                case measure => simp [intOf]; omega
          · have hk3 : ¬ (k2 : Int) < (ly.length : Int) := by omega
            have HP := mkHid H.out
            clear H hlt hk1
            go_wp2
            go_loopw [65] (fun iv wr => ∃ k : Nat, k ≤ m ∧ iv = .int .i64 (k : Int) ∧ Hid (Below w.heap.size w wr ∧ Tab wr ∧ Ints wr (.slice yo ly.length yc) ly)) (fun iv _ => m - (intOf iv).toNat)
            case atStart => exact ⟨0, Nat.zero_le _, rfl, HP⟩
            case round =>
              obtain ⟨k4, hk1, rfl, H⟩ := hrel
              clear HP hk3
              by_cases hlt : k4 < m
              · have hk5 : (k4 : Int) < (m : Int) := by omega
                rcases HV.out with ⟨h0, _⟩ | ⟨b, off, cp, hvv, hc⟩
                · have := HML.out; rw [h0] at this; simp at this; omega
                · have hvv' := hvv
                  injection hvv with e1 e2 e3
                  subst e1
                  clear e2 e3 hvv'
                  obtain ⟨x, hx⟩ : ∃ x, l[k4]? = some x := ⟨l[k4]'(by have := HML.out; omega), List.getElem?_eq_getElem _⟩
                  have hcx := cell_grows H.out.1 (hc k4 x hx)
                  have hin := HIN.out x (List.mem_of_getElem? hx)
                  have HI := mkHid hin
                  have HR := mkHid H.out
                  clear H hc hx hin
                  go_wp2
                  obtain ⟨wo, rfl⟩ : ∃ wo : World, wo = wr := ⟨_, rfl⟩
                  go_loop [11, 71] (fun bv cv => ∃ j : Nat, j ≤ ly.length ∧ cv = .int .i64 (j : Int) ∧ bv = .bool (decide (x ∈ ly.take j))) (fun _ cv => ly.length - (intOf cv).toNat)
                  case atStart => exact ⟨0, Nat.zero_le _, rfl, by simp⟩
                  case round =>
                    obtain ⟨j, hj, rfl, rfl⟩ := hrel
                    by_cases hlt2 : j < ly.length
                    · have hj3 : (j : Int) < (ly.length : Int) := by omega
                      obtain ⟨y, hy⟩ : ∃ y, ly[j]? = some y := ⟨ly[j], List.getElem?_eq_getElem hlt2⟩
                      have et : ly.take (j + 1) = ly.take j ++ [y] := by rw [List.take_add_one, hy]; rfl
                      rcases HR.out.2.2 with ⟨h0, _⟩ | ⟨b2, off2, cp2, hvv, hc⟩
                      · rw [h0] at hlt2; simp at hlt2
                      · injection hvv with e1 e2 e3
                        subst e1 e3
                        clear e2
                        have hcy := hc j y hy
                        have hmem : decide (x ∈ ly.take (j + 1)) = (decide (x ∈ ly.take j) || x == y) := by
                          rw [et, Bool.eq_iff_iff]
                          simp
                        have HM := mkHid hmem
                        have HCC := mkHid hc
                        clear hc hy et hmem
                        cases hb : decide (x ∈ ly.take j)
                        · cases hxy : (x == y)
                          · have HM2 : Hid (decide (x ∈ ly.take (j + 1)) = false) := mkHid (by rw [HM.out, hb, hxy]; rfl)
                            clear hb
                            go_wp2
                            go_round
                            case rel => exact ⟨j + 1, by omega, by go_num, by rw [HM2.out]⟩
                            case measure => simp [intOf]; omega
                          · have HM2 : Hid (decide (x ∈ ly.take (j + 1)) = true) := mkHid (by rw [HM.out, hb, hxy]; rfl)
                            clear hb
                            go_wp2
                            go_round
                            case rel => exact ⟨j + 1, by omega, by go_num, by rw [HM2.out]⟩
                            case measure => simp [intOf]; omega
                        · have HM2 : Hid (decide (x ∈ ly.take (j + 1)) = true) := mkHid (by rw [HM.out, hb]; rfl)
                          clear hb
                          go_wp2
                          go_round
                          case rel => exact ⟨j + 1, by omega, by go_num, by rw [HM2.out]⟩
                          case measure => simp [intOf]; omega
                    · have hj3 : ¬ (j : Int) < (ly.length : Int) := by omega
                      rw [show ly.take j = ly by rw [show j = ly.length by omega, List.take_length], HI.out]
                      clear hlt2 hj
                      by_cases h1 : 1 ≤ x
                      · by_cases h2 : x ≤ 128
                        · rw [decide_eq_true (p := 1 ≤ x ∧ x ≤ 128) ⟨h1, h2⟩]
                          go_wp2
                          go_roundw
                          case rel => exact ⟨k4 + 1, by omega, by go_num, HR⟩
                          case measure => simp [intOf]; omega
                        · rw [decide_eq_false (p := 1 ≤ x ∧ x ≤ 128) (fun h => h2 h.2)]
                          go_wp2
                          go_roundw
                          case rel => exact ⟨k4 + 1, by omega, by go_num, HR⟩
                          case measure => simp [intOf]; omega
                      · rw [decide_eq_false (p := 1 ≤ x ∧ x ≤ 128) (fun h => h1 h.1)]
                        go_wp2
                        go_roundw
                        case rel => exact ⟨k4 + 1, by omega, by go_num, HR⟩
                        case measure => simp [intOf]; omega
              · have hk5 : ¬ (k4 : Int) < (m : Int) := by omega
                have HB := mkHid H.out.1
                have HTb := mkHid H.out.2.1
                clear H hlt
                go_wp2_with (go_at_call 13; refine (works_any _ HTb.out).mono ?_; rintro e w9 ⟨rfl, hw⟩; have HE := mkHid (bnx HB.out hw); clear hw)
                go_ret
                exact ⟨rfl, HE.out⟩
  · have CW := mkHid (works_any _ HT.out.tab)
    have hl4 : (1000 : Int) < (l.length : Int) := by omega
    clear hv hl hlen ht
    unfold sv at *
    generalize l.length = m at *
    go_enter Tryd.func10, Tryd.ntmps10
    go_wp2_with (go_at_call 13; refine CW.out.mono ?_; rintro e w1 ⟨rfl, hb⟩)
    go_ret
    exact ⟨rfl, bnx (bal (Below.refl _ _) _) hb⟩
end Go.Proofs.YtpfappojeneecaaDoor
