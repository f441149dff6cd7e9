/- Contracts of the specification: Check, Same, Assignment, Term. -/
import Derived.Test.YtalpbpcanebbbaaTS
namespace Go.Proofs.Ytalpbpcanebbbaa
open Go.RowKit VM LM TM

set_option maxRecDepth 100000 in
set_option maxHeartbeats 4000000 in
theorem rcheck_any (n : Int) (v : Value) (L : List (List Int)) (w : World) (h : Th w v L) :
    Calls Try.prog 18 #[.agg #[.int .i64 n, v]] w fun e w' => e = .returned (.int .i64 (ckT n L)) ∧ Below w.heap.size w w' := by
  have HT := mkHid h
  have HB := mkHid (bal (Below.refl _ w) (.cells #[.int .i64 n, v] 24))
  have HA := mkHid (AtT.new w w.heap.size n v rfl)
  obtain ⟨ao, cap, rfl, hc⟩ := h.cls
  have HC := mkHid hc
  obtain ⟨a0, a1⟩ := HA.out
  have hlen := h.len
  clear h hc
  by_cases h1 : n < 0
  · have e : ckT n L = 6 := by unfold ckT; rw [if_pos (.inl h1)]
    rw [e]
    clear e
    go_enter Try.func18, Try.ntmps18
    go_wp2
    go_ret
    exact ⟨rfl, HB.out⟩
  · by_cases h2 : 128 < n
    · have e : ckT n L = 6 := by unfold ckT; rw [if_pos (.inr h2)]
      rw [e]
      clear e
      go_enter Try.func18, Try.ntmps18
      go_wp2
      go_ret
      exact ⟨rfl, HB.out⟩
    · by_cases h3 : 4096 < L.length
      · have e : ckT n L = 2 := by unfold ckT; rw [if_neg (by omega), if_pos h3]
        rw [e]
        have h4 : (4096 : Int) < (L.length : Int) := by omega
        clear e
        go_enter Try.func18, Try.ntmps18
        go_wp2
        go_ret
        exact ⟨rfl, HB.out⟩
      · have HE : Hid (ckT n L = ckL n L) := mkHid (by unfold ckT; rw [if_neg (by omega), if_neg h3])
        rw [HE.out]
        have h4 : ¬ (4096 : Int) < (L.length : Int) := by omega
        have HN : Hid (0 ≤ n ∧ n ≤ 128) := mkHid (by omega)
        clear HE
        go_enter Try.func18, Try.ntmps18
        go_wp2
        go_loopw [3] (fun iv wr => ∃ k : Nat, k ≤ L.length ∧ iv = .int .i64 (k : Int) ∧ Hid ((∀ d ∈ L.take k, ckC n d = 0) ∧ AtT wr w.heap.size n (.slice ao L.length cap) ∧ Below w.heap.size w wr)) (fun iv _ => L.length - (intOf iv).toNat)
        case atStart => exact ⟨0, Nat.zero_le _, rfl, mkHid ⟨take_start, HA.out, HB.out⟩⟩
        case round =>
          obtain ⟨k, hk, rfl, H⟩ := hrel
          clear a0 a1
          obtain ⟨a0, a1⟩ := H.out.2.1
          by_cases hlt : k < L.length
          · obtain ⟨c, hc⟩ : ∃ c, L[k]? = some c := ⟨L[k], List.getElem?_eq_getElem hlt⟩
            obtain ⟨b, off, x, rfl, hx, hi⟩ := HC.out k c hc
            have p1 := cell_grows H.out.2.2 hx
            have hk1 : (k : Int) < (L.length : Int) := by omega
            have hk0 : (0 : Int) ≤ (k : Int) := by omega
            have hm := List.mem_of_getElem? hc
            have hcl := HT.out.lens c hm
            have HY := mkHid hc
            have HX := mkHid hx
            obtain ⟨ao2, cap2, rfl, hcc⟩ := hi.uni
            have HCC := mkHid hcc
            clear hc hx hi hm hcc
            by_cases hbig : 128 < c.length
            · have HF := mkHid (ckL_found H.out.1 HY.out (by unfold ckC; rw [if_pos hbig]; omega))
              have HF2 : Hid (ckC n c = 2) := mkHid (by unfold ckC; rw [if_pos hbig])
              have hbig2 : (128 : Int) < (c.length : Int) := by omega
              go_wp2
              go_ret
              exact ⟨by rw [HF.out, HF2.out]; rfl, H.out.2.2⟩
            · have hbig2 : ¬ (128 : Int) < (c.length : Int) := by omega
              have HBG := mkHid hbig
              clear hbig
              go_wp2
              obtain ⟨wo, hwo⟩ : ∃ wo : World, wo = wr := ⟨_, rfl⟩
              go_loopw [4] (fun jv wi => ∃ j : Nat, j ≤ c.length ∧ jv = .int .i64 (j : Int) ∧ Hid ((∀ y ∈ c.take j, (fun y => !validL y n) y = false) ∧ AtT wi w.heap.size n (.slice (some ⟨b, off, none⟩) L.length cap) ∧ Below w.heap.size w wi)) (fun jv _ => c.length - (intOf jv).toNat)
              case atStart => exact ⟨0, Nat.zero_le _, rfl, mkHid ⟨any_start, H.out.2.1, H.out.2.2⟩⟩
              case round =>
                obtain ⟨j, hj, rfl, G⟩ := hrel
                clear p1 a0 a1
                obtain ⟨a0, a1⟩ := G.out.2.1
                have p1 := cell_grows G.out.2.2 HX.out
                by_cases hjl : j < c.length
                · obtain ⟨y, hy⟩ : ∃ y, c[j]? = some y := ⟨c[j], List.getElem?_eq_getElem hjl⟩
                  obtain ⟨b2, off2, rfl, hcy⟩ := HCC.out j y hy
                  have p2 := cell_grows G.out.2.2 hcy
                  have hj1 : (j : Int) < (c.length : Int) := by omega
                  have hj0 : (0 : Int) ≤ (j : Int) := by omega
                  have C := mkHid (fun W => rvalid_any y n W HN.out)
                  have HY2 := mkHid hy
                  clear hy hcy
                  cases hp : validL y n
                  · have HF3 := mkHid (any_found (P := fun y => !validL y n) HY2.out (by simp only [hp]; rfl))
                    have HF2 : Hid (ckC n c = 1) := mkHid (by unfold ckC validAll; rw [if_neg HBG.out, if_neg]; rw [List.all_eq_not_any_not, HF3.out]; simp)
                    have HF := mkHid (ckL_found H.out.1 HY.out (by rw [HF2.out]; omega))
                    simp only [hp] at C
                    clear hp
                    go_wp2
                    go_quiet ((go_at_call 37; exact Calls.quiet_of_same (C.out _)))
                    go_wp2
                    go_ret
                    exact ⟨by rw [HF.out, HF2.out]; rfl, bdr G.out.2.2 _⟩
                  · have HP := mkHid hp
                    simp only [hp] at C
                    clear hp
                    go_wp2
                    go_quiet ((go_at_call 37; exact Calls.quiet_of_same (C.out _)))
                    go_wp2
                    go_roundw
                    case rel => exact ⟨j + 1, by omega, by go_num, mkHid ⟨any_step G.out.1 HY2.out (by simp only [HP.out]; rfl), G.out.2.1, bdr G.out.2.2 _⟩⟩
                    case measure => simp [intOf]; omega
                · have hj1 : ¬ (j : Int) < (c.length : Int) := by omega
                  have HP : Hid (ckC n c = 0) := mkHid (by unfold ckC validAll; rw [if_neg HBG.out, if_pos]; rw [List.all_eq_not_any_not, any_none G.out.1 (by omega)]; rfl)
                  go_wp2
                  go_roundw
                  case rel => exact ⟨k + 1, by omega, by go_num, mkHid ⟨take_step H.out.1 HY.out HP.out, G.out.2.1, G.out.2.2⟩⟩
                  case measure => simp [intOf]; omega
          · have hk1 : ¬ (k : Int) < (L.length : Int) := by omega
            have HF := mkHid (ckL_none (n := n) (take_all H.out.1 (by omega)))
            go_wp2
            go_ret
            exact ⟨by rw [HF.out]; rfl, H.out.2.2⟩
theorem eq_of_take {L K : List (List Int)} {k : Nat} (h : L.take k = K.take k) (hk : k = L.length) (hl : L.length = K.length) : L = K := by
  rwa [hk, List.take_length, hl, List.take_length] at h
set_option maxRecDepth 100000 in
set_option maxHeartbeats 4000000 in
theorem rsame_any (n m : Int) (v u : Value) (L K : List (List Int)) (w : World) (hL : Cls w v L) (hK : Cls w u K) (lL : L.length ≤ 1000000) (sL : ∀ c ∈ L, c.length ≤ 1000000) (sK : ∀ c ∈ K, c.length ≤ 1000000) :
    Calls Try.prog 22 #[.agg #[.int .i64 n, v], .agg #[.int .i64 m, u]] w fun e w' => e = .returned (.bool (decide (n = m ∧ L = K))) ∧ Below w.heap.size w w' := by
  have HB := mkHid (bal (bal (Below.refl _ w) (.cells #[.int .i64 n, v] 24)) (.cells #[.int .i64 m, u] 24))
  have HA := mkHid ((AtT.new w w.heap.size n v rfl).grows (bal (Below.refl _ _) (.cells #[.int .i64 m, u] 24)))
  have HA2 := mkHid (AtT.new (w.alloc (.cells #[.int .i64 n, v] 24)) (w.heap.size + 1) m u (by simp))
  obtain ⟨ao, cap, rfl, hc⟩ := hL
  obtain ⟨ao2, cap2, rfl, hc2⟩ := hK
  have HC := mkHid hc
  have HC2 := mkHid hc2
  have HSL := mkHid sL
  have HSK := mkHid sK
  obtain ⟨a0, a1⟩ := HA.out
  obtain ⟨b0, b1⟩ := HA2.out
  clear hc hc2 sL sK
  by_cases hn : n = m
  · by_cases hl : L.length = K.length
    · generalize hres : decide (n = m ∧ L = K) = res
      have HRES := mkHid hres
      have HL := mkHid hl
      subst hn
      rw [← hl] at HA HB a0 a1 HA2 b0 b1
      rw [← hl]
      clear hres hl
      go_enter Try.func22, Try.ntmps22
      go_wp2
      go_loopw [5] (fun iv wr => ∃ k : Nat, k ≤ L.length ∧ iv = .int .i64 (k : Int) ∧ Hid (L.take k = K.take k ∧ AtT wr w.heap.size n (.slice ao L.length cap) ∧ AtT wr (w.heap.size + 1) n (.slice ao2 L.length cap2) ∧ Below w.heap.size w wr)) (fun iv _ => L.length - (intOf iv).toNat)
      case atStart => exact ⟨0, Nat.zero_le _, rfl, mkHid ⟨by simp, HA.out, HA2.out, HB.out⟩⟩
      case round =>
        obtain ⟨k, hk, rfl, H⟩ := hrel
        clear a0 a1 b0 b1
        obtain ⟨a0, a1⟩ := H.out.2.1
        obtain ⟨b0, b1⟩ := H.out.2.2.1
        by_cases hlt : k < L.length
        · obtain ⟨c, hc⟩ : ∃ c, L[k]? = some c := ⟨L[k], List.getElem?_eq_getElem hlt⟩
          obtain ⟨d, hd⟩ : ∃ d, K[k]? = some d := ⟨K[k]'(by have := HL.out; omega), List.getElem?_eq_getElem _⟩
          obtain ⟨b, off, x, rfl, hx, hi⟩ := HC.out k c hc
          obtain ⟨b2, off2, y, rfl, hy, hi2⟩ := HC2.out k d hd
          have p1 := cell_grows H.out.2.2.2 hx
          have p2 := cell_grows H.out.2.2.2 hy
          have hk1 : (k : Int) < (L.length : Int) := by omega
          have hk0 : (0 : Int) ≤ (k : Int) := by omega
          have C := mkHid (fun m => rsameI_any x y c d (wr.drewN m) (hi.next (bdr H.out.2.2.2 m)) (hi2.next (bdr H.out.2.2.2 m)) (HSL.out c (List.mem_of_getElem? hc)) (HSK.out d (List.mem_of_getElem? hd)))
          have HCc := mkHid hc
          have HDd := mkHid hd
          clear hc hd hx hy hi hi2
          by_cases hp : c = d
          · have HT : Hid (L.take (k + 1) = K.take (k + 1)) := mkHid (by rw [List.take_add_one, List.take_add_one, HCc.out, HDd.out, H.out.1, hp])
            rw [decide_eq_true hp] at C
            clear hp
            go_wp2
            go_quiet ((go_at_call 49; exact Calls.quiet_of (C.out _)))
            go_wp2
            go_roundw
            case rel => exact ⟨k + 1, by omega, by go_num, mkHid ⟨HT.out, H.out.2.1, H.out.2.2.1, bdr H.out.2.2.2 _⟩⟩
            case measure => simp [intOf]; omega
          · have HF : Hid (res = false) := mkHid (by
              rw [← HRES.out]; exact decide_eq_false (fun e => by
                have h1 := HCc.out
                rw [e.2, HDd.out] at h1
                exact hp (Option.some.inj h1).symm))
            rw [decide_eq_false hp] at C
            clear hp
            go_wp2
            go_quiet ((go_at_call 49; exact Calls.quiet_of (C.out _)))
            go_wp2
            go_ret
            exact ⟨by rw [HF.out]; rfl, bdr H.out.2.2.2 _⟩
        · have hk1 : ¬ (k : Int) < (L.length : Int) := by omega
          have HF : Hid (res = true) := mkHid (by
            rw [← HRES.out]; exact decide_eq_true ⟨by trivial, eq_of_take H.out.1 (by omega) HL.out⟩)
          go_wp2
          go_ret
          exact ⟨by rw [HF.out]; rfl, H.out.2.2.2⟩
    · rw [decide_eq_false (fun e => hl (by rw [e.2]))]
      have hl2 : ¬ (L.length : Int) = (K.length : Int) := by omega
      subst hn
      go_enter Try.func22, Try.ntmps22
      go_wp2
      go_ret
      exact ⟨rfl, HB.out⟩
  · rw [decide_eq_false (fun e => hn e.1)]
    go_enter Try.func22, Try.ntmps22
    go_wp2
    go_ret
    exact ⟨rfl, HB.out⟩
end Go.Proofs.Ytalpbpcanebbbaa
