/- Contracts of the specification: Assignment, Term, Eval. -/
import Derived.Test.YtalpbpcanebbbaaTQc
namespace Go.Proofs.Ytalpbpcanebbbaa
open Go.RowKit VM LM TM

set_option maxRecDepth 100000 in
set_option maxHeartbeats 4000000 in
theorem rassign_any (a : BitVec 128) (n : Nat) (w : World) (hn : n ≤ 128) :
    Calls Try.prog 55 #[sv a, .int .i64 (n : Int)] w fun e w' => e = .returned (.bool (decide (a &&& ~~~all n = 0#128))) ∧ Below w.heap.size w w' := by
  have CH := mkHid (fun v W => rhasv_any a v W)
  generalize hres : decide (a &&& ~~~all n = 0#128) = res
  have HRES := mkHid hres
  have HB := mkHid (bal (Below.refl _ w) (.cells #[.int .u64 (wd (lo a)), .int .u64 (wd (hi a))] 36))
  have HA := mkHid (AtS.new w w.heap.size (wd (lo a)) (wd (hi a)) 36 rfl)
  unfold sv at *
  generalize wd (lo a) = al at *
  generalize wd (hi a) = ah at *
  clear hres
  have hn1 : (n : Int) ≤ 128 := by omega
  go_enter Try.func55, Try.ntmps55
  go_wp2
  go_loopw [5] (fun iv wr => ∃ k : Nat, k ≤ 129 ∧ n + 1 ≤ k ∧ iv = .int .i64 (k : Int) ∧ Hid ((∀ u : Int, 1 ≤ u → n < u → u < k → has a u = false) ∧ AtS wr w.heap.size al ah ∧ Below w.heap.size w wr)) (fun iv _ => 130 - (intOf iv).toNat)
  case atStart => exact ⟨n + 1, by omega, by omega, by go_num, mkHid ⟨fun u h1 h2 h3 => by omega, HA.out, HB.out⟩⟩
  case round =>
    obtain ⟨k, hk, hk2, rfl, H⟩ := hrel
    obtain ⟨p1, p2, pf1, pf2⟩ := H.out.2.1
    by_cases hlt : k ≤ 128
    · have hk1 : (k : Int) ≤ 128 := by omega
      have C := mkHid (fun W => CH.out (k : Int) W)
      cases hp : has a (k : Int)
      · have HP := mkHid hp
        rw [hp] at C
        clear hp CH
        go_wp2_with (go_at_call 72; refine (C.out _).mono ?_; rintro e w2 ⟨rfl, hb⟩; have HB2 := mkHid (bnx H.out.2.2 hb); have HA2 := mkHid (H.out.2.1.grows hb); clear hb)
        go_roundw
        case rel => exact ⟨k + 1, by omega, by omega, by go_num, mkHid ⟨fun u h1 h2 h3 => by
          by_cases e : u = k
          · rw [e]; exact HP.out
          · exact H.out.1 u h1 h2 (by omega), HA2.out, HB2.out⟩⟩
        case measure => simp [intOf]; omega
      · have HF : Hid (res = false) := mkHid (by
          rw [← HRES.out]; exact decide_eq_false (fun e => by
            have := (sub_all_iff a n).1 e k (by omega) (by omega) (by omega)
            rw [hp] at this; cases this))
        rw [hp] at C
        clear hp CH
        go_wp2_with (go_at_call 72; refine (C.out _).mono ?_; rintro e w2 ⟨rfl, hb⟩)
        go_ret
        exact ⟨by rw [HF.out]; rfl, bnx H.out.2.2 hb⟩
    · have hk1 : ¬ (k : Int) ≤ 128 := by omega
      have HF : Hid (res = true) := mkHid (by
        rw [← HRES.out]; exact decide_eq_true ((sub_all_iff a n).2 fun v h1 h2 h3 => H.out.1 v h1 h2 (by omega)))
      go_wp2
      go_ret
      exact ⟨by rw [HF.out]; rfl, H.out.2.2⟩
set_option maxRecDepth 100000 in
set_option maxHeartbeats 4000000 in
theorem rterm_any (v : Value) (l : List Int) (n : Nat) (w : World) (hv : Ints w v l) (hlen : l.length ≤ 1000000) (hn : n ≤ 128) :
    Calls Try.prog 66 #[v, .int .i64 (n : Int)] w fun e w' => e = .returned (.bool (tmB l n)) ∧ w' = w := by
  have hu := hv
  obtain ⟨ao, cap, rfl, hc⟩ := hv.uni
  have HC := mkHid hc
  have CV := mkHid (fun y W => rvalid_any y n W (by omega))
  have CH := mkHid (fun y => rcont_any _ l y w hu (by omega))
  rw [tmB_any]
  generalize hres : (l.any (fun y => !validL y (n : Int) || l.contains (-y))) = res
  have HRES := mkHid hres
  have HN := mkHid hn
  clear hres hc hv hu
  go_enter Try.func66, Try.ntmps66
  go_wp2
  go_loopw [5] (fun iv wr => ∃ k : Nat, k ≤ l.length ∧ iv = .int .i64 (k : Int) ∧ Hid (∀ y ∈ l.take k, (fun y => !validL y (n : Int) || l.contains (-y)) y = false) ∧ wr = w) (fun iv _ => l.length - (intOf iv).toNat)
  case atStart => exact ⟨0, Nat.zero_le _, rfl, mkHid any_start, rfl⟩
  case round =>
    obtain ⟨k, hk, rfl, H, rfl⟩ := hrel
    by_cases hlt : k < l.length
    · obtain ⟨y, hy⟩ : ∃ y, l[k]? = some y := ⟨l[k], List.getElem?_eq_getElem hlt⟩
      obtain ⟨b, off, rfl, hcx⟩ := HC.out k y hy
      have hk1 : (k : Int) < (l.length : Int) := by omega
      have hk0 : (0 : Int) ≤ (k : Int) := by omega
      have HY := mkHid hy
      have C := mkHid (CV.out y)
      have D := mkHid (CH.out (-y))
      clear hy CV CH
      cases hv : validL y (n : Int)
      · have HF := mkHid (any_found (P := fun y => !validL y (n : Int) || l.contains (-y)) HY.out (by simp only [hv]; rfl))
        simp only [hv] at C
        clear hv
        go_wp2_with (first | (go_at_call 37; refine (C.out _).mono ?_; rintro e w2 ⟨rfl, rfl⟩) | (go_at_call 67; refine D.out.mono ?_; rintro e w3 ⟨rfl, rfl⟩))
        go_ret
        exact ⟨by rw [← HRES.out, HF.out]; rfl, rfl⟩
      · have hr := (validL_iff (by omega : (n : Int) ≤ 128)).1 hv
        have e : IntKind.i64.wrap (-y) = -y := IntWalk.i64_in _ (by omega)
        cases hp : l.contains (-y)
        · have HP : Hid ((fun y => !validL y (n : Int) || l.contains (-y)) y = false) := mkHid (by simp only [hp, hv]; rfl)
          rw [hp] at D
          simp only [hv] at C
          clear hp hv hr
          go_wp2_with (first | (go_at_call 37; refine (C.out _).mono ?_; rintro e w2 ⟨rfl, rfl⟩) | (go_at_call 67; refine D.out.mono ?_; rintro e w3 ⟨rfl, rfl⟩))
          go_roundw
          case rel => exact ⟨k + 1, by omega, by go_num, mkHid (any_step H.out HY.out HP.out), trivial⟩
          case measure => simp [intOf]; omega
        · have HF := mkHid (any_found (P := fun y => !validL y (n : Int) || l.contains (-y)) HY.out (by simp only [hp, hv]; rfl))
          rw [hp] at D
          simp only [hv] at C
          clear hp hv hr
          go_wp2_with (first | (go_at_call 37; refine (C.out _).mono ?_; rintro e w2 ⟨rfl, rfl⟩) | (go_at_call 67; refine D.out.mono ?_; rintro e w3 ⟨rfl, rfl⟩))
          go_ret
          exact ⟨by rw [← HRES.out, HF.out]; rfl, rfl⟩
    · have hk1 : ¬ (k : Int) < (l.length : Int) := by omega
      have HF := mkHid (any_none H.out (by omega))
      go_wp2
      go_ret
      exact ⟨by rw [← HRES.out, HF.out]; rfl, rfl⟩
/-- A theory and a set in boxes. -/
structure ES (w W : World) (n : Int) (v : Value) (al ah : Int) : Prop where
  t : TB W w.heap.size n v
  s : AtS W (w.heap.size + 1) al ah
  b : Below w.heap.size w W
theorem ES.next {w W W' : World} {n : Int} {v : Value} {al ah : Int} (H : ES w W n v al ah) (hb : Below W.heap.size W W') : ES w W' n v al ah := ⟨H.t.grows hb, H.s.grows hb, bnx H.b hb⟩
theorem ES.drew {w W : World} {n : Int} {v : Value} {al ah : Int} (H : ES w W n v al ah) : ES w W.drew n v al ah := ⟨H.t, H.s, H.b.drew⟩
theorem ES.drewN {w W : World} {n : Int} {v : Value} {al ah : Int} (H : ES w W n v al ah) (m : Nat) : ES w (W.drewN m) n v al ah := ⟨H.t, H.s, bdr H.b m⟩
theorem any_take_step {c : List Int} {j : Nat} {y : Int} {P : Int → Bool} (hy : c[j]? = some y) : (c.take (j + 1)).any P = ((c.take j).any P || P y) := by
  rw [List.take_add_one, hy, List.any_append]; simp
set_option maxRecDepth 100000 in
set_option maxHeartbeats 8000000 in
theorem reval_any (n : Int) (v : Value) (L : List (List Int)) (a : BitVec 128) (w : World) (h : Th w v L) :
    Calls Try.prog 25 #[.agg #[.int .i64 n, v], sv a] w fun e w' => e = .returned (.bool (evT n L a)) ∧ Below w.heap.size w w' := by
  have CK := mkHid (fun W (hb : Below w.heap.size w W) => rcheck_any n v L W (h.next hb))
  have CA := mkHid (fun (m : Nat) (hm : m ≤ 128) W => rassign_any a m W hm)
  have CH := mkHid (fun (y : Int) (hy : -128 ≤ y ∧ y ≤ 128 ∧ y ≠ 0) W => rholds_any a y W hy)
  have HES : Hid (ES w ((w.alloc (.cells #[.int .i64 n, v] 24)).alloc (.cells #[.int .u64 (wd (lo a)), .int .u64 (wd (hi a))] 36)) n v (wd (lo a)) (wd (hi a))) := mkHid
    ⟨(TB.new w w.heap.size n v rfl).grows (bal (Below.refl _ _) _), AtS.new _ _ _ _ _ (by simp), bal (bal (Below.refl _ w) _) _⟩
  have HT := mkHid h
  obtain ⟨ao, cap, rfl, hc⟩ := h.cls
  have HC := mkHid hc
  have hlen := h.len
  have HP : Hid (∀ c, anyL a c = c.any (holdsL a)) := mkHid (fun c => rfl)
  unfold sv at *
  clear h hc
  unfold evT
  by_cases hk : ckT n L = 0
  · obtain ⟨hn, hL, hcs⟩ := ckT_zero.1 hk
    have HCS := mkHid hcs
    obtain ⟨N, rfl⟩ : ∃ N : Nat, n = (N : Int) := ⟨n.toNat, by omega⟩
    have HN : Hid (N ≤ 128) := mkHid (by omega)
    rw [decide_eq_true hk, Bool.true_and]
    rw [hk] at CK
    have CA := mkHid (CA.out N HN.out)
    clear hk hcs hL hn
    generalize hsub : decide (a &&& ~~~all (N : Int) = 0#128) = sb at *
    generalize hres : (sb && L.all (anyL a)) = res
    have HRES := mkHid hres
    generalize wd (lo a) = al at *
    generalize wd (hi a) = ah at *
    obtain ⟨a0, a1⟩ := HES.out.t.at
    obtain ⟨s0, s1, -, -⟩ := HES.out.s
    clear hsub hres
    cases sb
    · go_enter Try.func25, Try.ntmps25
      go_wp2_with (first
        | (go_at_call 18; refine (CK.out _ HES.out.b).mono ?_; rintro e w1 ⟨rfl, hb⟩; have H1 := mkHid (HES.out.next hb); obtain ⟨b0, b1⟩ := H1.out.t.at; obtain ⟨c0, c1, -, -⟩ := H1.out.s; clear hb)
        | (go_at_call 55; refine (CA.out _).mono ?_; rintro e w2 ⟨rfl, hb⟩; have H2 := mkHid (H1.out.next hb); clear hb))
      go_ret
      exact ⟨by rw [← HRES.out]; rfl, H2.out.b⟩
    · go_enter Try.func25, Try.ntmps25
      go_wp2_with (first
        | (go_at_call 18; refine (CK.out _ HES.out.b).mono ?_; rintro e w1 ⟨rfl, hb⟩; have H1 := mkHid (HES.out.next hb); obtain ⟨b0, b1⟩ := H1.out.t.at; obtain ⟨c0, c1, -, -⟩ := H1.out.s; clear hb)
        | (go_at_call 55; refine (CA.out _).mono ?_; rintro e w2 ⟨rfl, hb⟩; have H2 := mkHid (H1.out.next hb); clear hb))
      clear a0 a1 b0 b1 s0 s1 c0 c1 HES CK CA H1
      go_loopw [5] (fun iv wr => ∃ k : Nat, k ≤ L.length ∧ iv = .int .i64 (k : Int) ∧ Hid ((∀ d ∈ L.take k, anyL a d = true) ∧ ES w wr N (.slice ao L.length cap) al ah)) (fun iv _ => L.length - (intOf iv).toNat)
      case atStart => exact ⟨0, Nat.zero_le _, rfl, mkHid ⟨take_start, H2.out⟩⟩
      case round =>
        obtain ⟨k, hk, rfl, H⟩ := hrel
        clear H2
        obtain ⟨a0, a1⟩ := H.out.2.t.at
        by_cases hlt : k < L.length
        · obtain ⟨c, hc⟩ : ∃ c, L[k]? = some c := ⟨L[k], List.getElem?_eq_getElem hlt⟩
          obtain ⟨b, off, x, rfl, hx, hi⟩ := HC.out k c hc
          have p1 := cell_grows H.out.2.b hx
          have hk1 : (k : Int) < (L.length : Int) := by omega
          have hk0 : (0 : Int) ≤ (k : Int) := by omega
          have hm := List.mem_of_getElem? hc
          have hcm := HCS.out c hm
          have HCM := mkHid hcm
          have HY := mkHid hc
          have HX := mkHid hx
          obtain ⟨ao2, cap2, rfl, hcc⟩ := hi.uni
          have HCC := mkHid hcc
          have hcl : c.length ≤ 128 := hcm.1
          clear hc hx hi hm hcc hcm
          go_wp2
          obtain ⟨wo, hwo⟩ : ∃ wo : World, wo = wr := ⟨_, rfl⟩
          go_loopw [6, 7] (fun fv jv wi => ∃ j : Nat, j ≤ c.length ∧ fv = .bool ((c.take j).any (holdsL a)) ∧ jv = .int .i64 (j : Int) ∧ Hid (ES w wi N (.slice (some ⟨b, off, none⟩) L.length cap) al ah)) (fun _ jv _ => c.length - (intOf jv).toNat)
          case atStart => exact ⟨0, Nat.zero_le _, rfl, rfl, mkHid H.out.2⟩
          case round =>
            obtain ⟨j, hj, rfl, rfl, G⟩ := hrel
            clear p1 a0 a1
            obtain ⟨a0, a1⟩ := G.out.t.at
            obtain ⟨s0, s1, -, -⟩ := G.out.s
            have p1 := cell_grows G.out.b HX.out
            by_cases hjl : j < c.length
            · obtain ⟨y, hy⟩ : ∃ y, c[j]? = some y := ⟨c[j], List.getElem?_eq_getElem hjl⟩
              obtain ⟨b2, off2, rfl, hcy⟩ := HCC.out j y hy
              have p2 := cell_grows G.out.b hcy
              have hj1 : (j : Int) < (c.length : Int) := by omega
              have hj0 : (0 : Int) ≤ (j : Int) := by omega
              have hr := valid_range (by have := HN.out; omega) HCM.out.2 y (List.mem_of_getElem? hy)
              have C := mkHid (CH.out y (by have := HN.out; omega))
              have HE := mkHid (any_take_step (P := holdsL a) hy)
              clear hy hcy hr
              generalize holdsL a y = hyv at *
              cases hfl : (c.take j).any (holdsL a)
              · have HFL := mkHid hfl
                have hs0 := G.out.drew
                clear hfl
                go_wp2
                go_region_held3 (fun W => ES w W N (.slice (some ⟨b, off, none⟩) L.length cap) al ah ∧ W.cell? ⟨w.heap.size, 1, none⟩ = some (.slice (some ⟨b, off, none⟩) L.length cap) ∧ W.cell? ⟨w.heap.size + 1, 0, none⟩ = some (.int .u64 al) ∧ W.cell? ⟨w.heap.size + 1, 1, none⟩ = some (.int .u64 ah) ∧ W.cell? ⟨b, off + k, none⟩ = some (.slice (some ⟨b2, off2, none⟩) c.length cap2) ∧ W.cell? ⟨b2, off2 + j, none⟩ = some (.int .i64 y))
                  (first
                    | (with_reducible exact ⟨hS.1.next hw, cell_grows hw hS.2.1, cell_grows hw hS.2.2.1, cell_grows hw hS.2.2.2.1, cell_grows hw hS.2.2.2.2.1, cell_grows hw hS.2.2.2.2.2⟩)
                    | exact ⟨hs0, a1, s0, s1, p1, p2⟩)
                  (first
                    | (go_at_call 56; have hS : ES w _ _ _ _ _ ∧ _ := (by assumption); ((with_reducible refine (C.out _).mono ?_); rintro e w6 ⟨rfl, hw⟩)))
                have hT' : ES w _ _ _ _ _ ∧ _ := (by assumption)
                have HT6 := mkHid hT'.1
                clear hT'
                go_wp2
                go_roundw
                case rel => exact ⟨j + 1, by omega, by rw [HE.out, HFL.out]; rfl, by go_num, mkHid HT6.out⟩
                case measure => simp [intOf]; omega
              · have HFL := mkHid hfl
                clear hfl
                go_wp2
                go_region
                go_wp2
                go_roundw
                case rel => exact ⟨j + 1, by omega, by rw [HE.out, HFL.out]; rfl, by go_num, mkHid G.out.drew⟩
                case measure => simp [intOf]; omega
            · have hj1 : ¬ (j : Int) < (c.length : Int) := by omega
              have HE : Hid ((c.take j).any (holdsL a) = anyL a c) := mkHid (by rw [List.take_of_length_le (by omega)]; rfl)
              rw [HE.out]
              cases hfl : anyL a c
              · have HF : Hid (res = false) := mkHid (by
                  rw [← HRES.out, Bool.true_and, Bool.eq_false_iff]
                  intro k
                  have := List.all_eq_true.1 k c (List.mem_of_getElem? HY.out)
                  rw [hfl] at this; cases this)
                go_wp2
                go_ret
                exact ⟨by rw [HF.out]; rfl, G.out.b⟩
              · have HFL := mkHid hfl
                go_wp2
                go_roundw
                case rel => exact ⟨k + 1, by omega, by go_num, mkHid ⟨take_step H.out.1 HY.out HFL.out, G.out⟩⟩
                case measure => simp [intOf]; omega
        · have hk1 : ¬ (k : Int) < (L.length : Int) := by omega
          have HF : Hid (res = true) := mkHid (by
            rw [← HRES.out, Bool.true_and]
            exact List.all_eq_true.2 (take_all H.out.1 (by omega)))
          go_wp2
          go_ret
          exact ⟨by rw [HF.out]; rfl, H.out.2.b⟩
  · rw [decide_eq_false hk, Bool.false_and]
    generalize hq : ckT n L = q at *
    obtain ⟨a0, a1⟩ := HES.out.t.at
    clear hq
    generalize wd (lo a) = al at *
    generalize wd (hi a) = ah at *
    go_enter Try.func25, Try.ntmps25
    go_wp2_with (go_at_call 18; refine (CK.out _ HES.out.b).mono ?_; rintro e w1 ⟨rfl, hb⟩; have H1 := mkHid (HES.out.next hb); clear hb)
    go_ret
    exact ⟨rfl, H1.out.b⟩
end Go.Proofs.Ytalpbpcanebbbaa
