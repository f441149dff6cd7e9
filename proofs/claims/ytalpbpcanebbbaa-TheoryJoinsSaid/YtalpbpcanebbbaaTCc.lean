/- Contracts of slices.Equal, unrepeated, Normal. -/
import Derived.Test.YtalpbpcanebbbaaTCb
namespace Go.Proofs.Ytalpbpcanebbbaa
open Go.RowKit VM LM TM

set_option maxRecDepth 100000 in
set_option maxHeartbeats 4000000 in
/-- slices.Equal, for two lists of any numbers. -/
theorem equal_any (v u : Value) (l d : List Int) (w : World) (hv : Ints w v l) (hu : Ints w u d) (hlen : l.length ≤ 1000000) (hd : d.length ≤ 1000000) :
    Calls Try.prog 46 #[v, u] w fun e w' => e = .returned (.bool (decide (l = d))) ∧ ∃ m, w' = w.drewN m := by
  obtain ⟨ao, cap, rfl, hc⟩ := hv.uni
  obtain ⟨ao2, cap2, rfl, hc2⟩ := hu.uni
  have HC := mkHid hc
  have HC2 := mkHid hc2
  clear hc hc2 hv hu
  by_cases hne : l.length = d.length
  · generalize hres : decide (l = d) = res
    have HRES := mkHid hres
    have HL := mkHid hne
    rw [← hne]
    clear hres
    clear hne
    go_enter Try.func46, Try.ntmps46
    go_wp2
    go_loopw [13] (fun iv wr => ∃ k : Nat, k ≤ l.length ∧ iv = .int .i64 (k : Int) ∧ Hid (l.take k = d.take k) ∧ ∃ m, wr = w.drewN m) (fun iv _ => l.length - (intOf iv).toNat)
    case atStart => exact ⟨0, Nat.zero_le _, rfl, mkHid (by simp), 0, rfl⟩
    case round =>
      obtain ⟨k, hk, rfl, H, m, rfl⟩ := hrel
      by_cases hlt : k < l.length
      · obtain ⟨x, hx⟩ : ∃ x, l[k]? = some x := ⟨l[k], List.getElem?_eq_getElem hlt⟩
        obtain ⟨y, hy⟩ : ∃ y, d[k]? = some y := ⟨d[k]'(by have := HL.out; omega), List.getElem?_eq_getElem _⟩
        obtain ⟨b, off, rfl, hcx⟩ := HC.out k x hx
        obtain ⟨b2, off2, rfl, hcy⟩ := HC2.out k y hy
        have g1 : (w.drewN m).cell? ⟨b, off + k, none⟩ = some (.int .i64 x) := hcx
        have g2 : (w.drewN m).cell? ⟨b2, off2 + k, none⟩ = some (.int .i64 y) := hcy
        have hk1 : (k : Int) < (l.length : Int) := by omega
        have hk0 : (0 : Int) ≤ (k : Int) := by omega
        by_cases hxy : x = y
        · have HT : Hid (l.take (k + 1) = d.take (k + 1)) := mkHid (by rw [List.take_add_one, List.take_add_one, hx, hy, H.out, hxy])
          clear hx hy g1 g2
          go_wp2
          go_quiet (fail)
          go_wp2
          go_roundw
          case rel => exact ⟨k + 1, by omega, by go_num, mkHid HT.out, _, rfl⟩
          case measure => simp [intOf]; omega
        · have HF : Hid (decide (l = d) = false) := mkHid (decide_eq_false (fun e => by
            subst e; rw [hx] at hy; exact hxy (Option.some.inj hy)))
          clear hx hy g1 g2
          go_wp2
          go_quiet (fail)
          go_wp2
          go_ret
          exact ⟨by rw [← HRES.out, HF.out]; rfl, _, World.drewN_drewN _ _ _⟩
      · have hk1 : ¬ (k : Int) < (l.length : Int) := by omega
        have HF : Hid (decide (l = d) = true) := mkHid (decide_eq_true (by
          have := H.out
          rwa [show k = l.length by omega, List.take_length, HL.out, List.take_length] at this))
        go_wp2
        go_ret
        exact ⟨by rw [← HRES.out, HF.out]; rfl, _, rfl⟩
  · rw [decide_eq_false (fun e => hne (by rw [e]))]
    have hn2 : ¬ (l.length : Int) = (d.length : Int) := by omega
    go_enter Try.func46, Try.ntmps46
    go_wp2
    go_ret
    exact ⟨rfl, 0, rfl⟩
theorem dd_le (S : List (List Int)) (k : Nat) : (dd S k).length ≤ k := dd_length S k
set_option maxRecDepth 100000 in
set_option maxHeartbeats 8000000 in
theorem unrep_any (b0 : Nat) (v : Value) (xs : List Value) (S : List (List Int)) (w : World) (hV : Vals w v xs) (hR : RowsO w b0 xs S) (hS : S.length ≤ 100000) (sl : ∀ d ∈ S, d.length ≤ 1000000) :
    Calls Try.prog 45 #[v, .func (.func 46) #[] #[]] w fun e w' => ∃ u, e = .returned u ∧ Hid ((∃ ys, OwnV w' w.heap.size u ys ∧ RowsO w b0 ys (dd S S.length)) ∧ Below w.heap.size w w') := by
  obtain ⟨ao, cap, rfl, hcell⟩ := hV
  have HC := mkHid hcell
  have HR := mkHid hR
  have HSL := mkHid sl
  have hlen := hR.1
  rw [hlen]
  have hSs : (S.length : Int) ≤ 100000 := by omega
  clear hcell hR sl
  go_enter Try.func45, Try.ntmps45
  go_wp2
  go_loopw [5, 10] (fun ov iv wr => ∃ k : Nat, k ≤ S.length ∧ iv = .int .i64 (k : Int) ∧ Hid ((∃ ys, OwnV wr w.heap.size ov ys ∧ RowsO w b0 ys (dd S k)) ∧ Below w.heap.size w wr)) (fun _ iv _ => S.length - (intOf iv).toNat)
  case atStart => exact ⟨0, Nat.zero_le _, rfl, mkHid ⟨⟨[], OwnV.nil _ _, RowsO.nil _ _⟩, Below.refl _ _⟩⟩
  case round =>
    obtain ⟨k, hk, rfl, H⟩ := hrel
    obtain ⟨⟨ys, h1, h2⟩, h3⟩ := H.out
    have HY := mkHid h1
    have HZ := mkHid h2
    have HB := mkHid h3
    have HN : Hid (ys.length ≤ 100000) := mkHid (by rw [h2.1]; have := dd_le S k; omega)
    clear h1 h2 h3 H
    by_cases hlt : k < S.length
    · obtain ⟨d, hd⟩ : ∃ d, S[k]? = some d := ⟨S[k], List.getElem?_eq_getElem hlt⟩
      obtain ⟨u, hu⟩ : ∃ u, xs[k]? = some u := ⟨xs[k]'(by omega), List.getElem?_eq_getElem _⟩
      obtain ⟨b, off, rfl, hcu⟩ := HC.out k u hu
      have p1 := cell_grows HB.out hcu
      have hk1 : (k : Int) < (S.length : Int) := by omega
      have hk0 : (0 : Int) ≤ (k : Int) := by omega
      have hru := HR.out.2 k u d hu hd
      have HRU := mkHid hru
      have HI2 := mkHid hru.ints
      obtain ⟨au, cu, rfl⟩ := HI2.out.form
      have HU1 := mkHid (oneCell_slice au d.length cu)
      have HD := mkHid hd
      have hdl := HSL.out d (List.mem_of_getElem? hd)
      by_cases h0 : k = 0
      · have HE := mkHid (dd_keep HD.out (.inl h0))
        have hz : ((k : Int) == 0) = true := by rw [h0]; rfl
        clear hd hu hcu hru h0
        go_wp2_with (at_builtin; refine wpList_appV rfl (.tmp 28) (.tmp 30) rfl rfl rfl (x := .slice au d.length cu) HY.out HU1.out (by have := HN.out; omega) HB.out.size HB.out ?_; intro v8 w8 H8)
        go_roundw
        case rel => exact ⟨k + 1, by omega, by go_num, mkHid ⟨⟨_, H8.out.1, by rw [HE.out]; exact HZ.out.snoc HRU.out⟩, H8.out.2.2⟩⟩
        case measure => simp [intOf]; omega
      · obtain ⟨q, hq⟩ : ∃ q : Nat, k = q + 1 := ⟨k - 1, by omega⟩
        obtain ⟨p, hp⟩ : ∃ p, S[q]? = some p := ⟨S[q]'(by omega), List.getElem?_eq_getElem _⟩
        obtain ⟨z, hz⟩ : ∃ z, xs[q]? = some z := ⟨xs[q]'(by omega), List.getElem?_eq_getElem _⟩
        obtain ⟨b2, off2, e2, hcz⟩ := HC.out q z hz
        simp only [Option.some.injEq, Addr.mk.injEq, and_true] at e2
        obtain ⟨rfl, rfl⟩ := e2
        have p2 := cell_grows HB.out hcz
        have hq1 : (q : Int) < (S.length : Int) := by omega
        have hq0 : (0 : Int) ≤ (q : Int) := by omega
        have ew : IntKind.i64.wrap ((k : Int) - 1) = (q : Int) := by rw [IntWalk.i64_in _ (by omega)]; omega
        have hne : ((k : Int) == 0) = false := by rw [beq_eq_false_iff_ne]; omega
        have HQ := mkHid hq
        have CE := mkHid (fun W (hb : Below w.heap.size w W) => equal_any z (.slice au d.length cu) p d W ((HR.out.2 q z p hz hp).ints.next hb) (HI2.out.next hb) (HSL.out p (List.mem_of_getElem? hp)) hdl)
        by_cases hpd : p = d
        · have HE := mkHid (dd_drop (L := S) (k := k) HD.out (by omega) (by rw [show k - 1 = q by omega, hp, hpd]))
          rw [decide_eq_true hpd] at CE
          clear hq hd hu hcu hru hp hz hcz hpd h0
          go_wp2_with (go_at_call 46; refine (CE.out _ HB.out).mono ?_; rintro e w6 ⟨rfl, m6, rfl⟩)
          go_roundw
          case rel => exact ⟨k + 1, by omega, by go_num, mkHid ⟨⟨_, HY.out, by rw [HE.out]; exact HZ.out⟩, bdr HB.out _⟩⟩
          case measure => simp [intOf]; omega
        · have HE := mkHid (dd_keep (L := S) (k := k) HD.out (.inr (by rw [show k - 1 = q by omega, hp]; intro e; exact hpd (Option.some.inj e))))
          rw [decide_eq_false hpd] at CE
          clear hq hd hu hcu hru hp hz hcz hpd h0
          go_wp2_with (first
            | (go_at_call 46; refine (CE.out _ HB.out).mono ?_; rintro e w6 ⟨rfl, m6, rfl⟩)
            | (at_builtin; refine wpList_appV rfl (.tmp 28) (.tmp 30) rfl rfl rfl (x := .slice au d.length cu) HY.out HU1.out (by have := HN.out; omega) (bdr HB.out _).size (bdr HB.out _) ?_; intro v8 w8 H8))
          go_roundw
          case rel => exact ⟨k + 1, by omega, by go_num, mkHid ⟨⟨_, H8.out.1, by rw [HE.out]; exact HZ.out.snoc HRU.out⟩, H8.out.2.2⟩⟩
          case measure => simp [intOf]; omega
    · have hk1 : ¬ (k : Int) < (S.length : Int) := by omega
      obtain rfl : k = S.length := by omega
      go_wp2
      go_ret
      exact ⟨_, rfl, mkHid ⟨⟨_, HY.out, HZ.out⟩, HB.out⟩⟩
end Go.Proofs.Ytalpbpcanebbbaa
