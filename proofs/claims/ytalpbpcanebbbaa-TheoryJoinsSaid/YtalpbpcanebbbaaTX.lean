/- Contracts of the laws: sample, same, Light. -/
import Derived.Test.YtalpbpcanebbbaaTCd
import Derived.Test.YtalpbpcanebbbaaTGb
namespace Go.Proofs.Ytalpbpcanebbbaa
open Go.RowKit VM LM TM

def smp : List (List Int) := [[2, -1, 2], [3], [1, -1], [-1, 2]]
set_option maxRecDepth 100000 in
set_option maxHeartbeats 4000000 in
theorem same_any (m n : Int) (v u : Value) (L K : List (List Int)) (w : World) (hL : Cls w v L) (hK : Cls w u K) (lL : L.length ≤ 1000000) (sL : ∀ c ∈ L, c.length ≤ 1000000) :
    Calls Try.prog 33 #[.agg #[.int .i64 m, v], .int .i64 n, u] w fun e w' => e = .returned (.bool (decide (m = n ∧ L = K))) ∧ Below w.heap.size w w' := by
  have HB := mkHid (bal (Below.refl _ w) (.cells #[.int .i64 m, v] 24))
  have HA := mkHid (AtT.new w w.heap.size m v rfl)
  obtain ⟨ao, cap, rfl, hc⟩ := hL
  obtain ⟨ao2, cap2, rfl, hc2⟩ := hK
  have HC := mkHid hc
  have HC2 := mkHid hc2
  have HSL := mkHid sL
  obtain ⟨a0, a1⟩ := HA.out
  clear hc hc2 sL
  by_cases hn : m = n
  · by_cases hl : L.length = K.length
    · generalize hres : decide (m = n ∧ L = K) = res
      have HRES := mkHid hres
      have HL := mkHid hl
      subst hn
      rw [← hl]
      clear hres hl
      go_enter Try.func33, Try.ntmps33
      go_wp2
      go_loopw [23] (fun iv wr => ∃ k : Nat, k ≤ L.length ∧ iv = .int .i64 (k : Int) ∧ Hid (L.take k = K.take k ∧ AtT wr w.heap.size m (.slice ao L.length cap) ∧ Below w.heap.size w wr)) (fun iv _ => L.length - (intOf iv).toNat)
      case atStart => exact ⟨0, Nat.zero_le _, rfl, mkHid ⟨by simp, HA.out, HB.out⟩⟩
      case round =>
        obtain ⟨k, hk, rfl, H⟩ := hrel
        clear a0 a1
        obtain ⟨a0, a1⟩ := H.out.2.1
        by_cases hlt : k < L.length
        · obtain ⟨c, hc⟩ : ∃ c, L[k]? = some c := ⟨L[k], List.getElem?_eq_getElem hlt⟩
          obtain ⟨d, hd⟩ : ∃ d, K[k]? = some d := ⟨K[k]'(by have := HL.out; omega), List.getElem?_eq_getElem _⟩
          obtain ⟨b, off, x, rfl, hx, hi⟩ := HC.out k c hc
          obtain ⟨b2, off2, y, rfl, hy, hi2⟩ := HC2.out k d hd
          have p1 := cell_grows H.out.2.2 hx
          have p2 := cell_grows H.out.2.2 hy
          have hk1 : (k : Int) < (L.length : Int) := by omega
          have hk0 : (0 : Int) ≤ (k : Int) := by omega
          have hcl := HSL.out c (List.mem_of_getElem? hc)
          have HCc := mkHid hc
          have HDd := mkHid hd
          have HX := mkHid hx
          have HYy := mkHid hy
          obtain ⟨ao3, cap3, rfl, hcc⟩ := hi.uni
          obtain ⟨ao4, cap4, rfl, hdd⟩ := hi2.uni
          have HCC := mkHid hcc
          have HDD := mkHid hdd
          clear hc hd hx hy hi hi2 hcc hdd
          by_cases hcd : c.length = d.length
          · have HCD := mkHid hcd
            rw [← hcd] at p2 HYy
            clear hcd
            go_wp2
            go_quiet (fail)
            have HBq := mkHid (bdr H.out.2.2 nq)
            have HAq : Hid (AtT (wr.drewN nq) w.heap.size m (.slice (some ⟨b, off, none⟩) L.length cap)) := mkHid H.out.2.1
            generalize wr.drewN nq = W2 at *
            clear a0 a1 p1 p2
            obtain ⟨a0, a1⟩ := HAq.out
            have p1 := cell_grows HBq.out HX.out
            have p2 := cell_grows HBq.out HYy.out
            go_wp2
            go_loopw [43] (fun jv wi => ∃ j : Nat, j ≤ c.length ∧ jv = .int .i64 (j : Int) ∧ Hid (c.take j = d.take j ∧ AtT wi w.heap.size m (.slice (some ⟨b, off, none⟩) L.length cap) ∧ Below w.heap.size w wi)) (fun jv _ => c.length - (intOf jv).toNat)
            case atStart => exact ⟨0, Nat.zero_le _, rfl, mkHid ⟨by simp, HAq.out, HBq.out⟩⟩
            case round =>
              obtain ⟨j, hj, rfl, G⟩ := hrel
              clear a0 a1 p1 p2
              obtain ⟨a0, a1⟩ := G.out.2.1
              have p1 := cell_grows G.out.2.2 HX.out
              have p2 := cell_grows G.out.2.2 HYy.out
              by_cases hjl : j < c.length
              · obtain ⟨z, hz⟩ : ∃ z, c[j]? = some z := ⟨c[j], List.getElem?_eq_getElem hjl⟩
                obtain ⟨t, ht⟩ : ∃ t, d[j]? = some t := ⟨d[j]'(by have := HCD.out; omega), List.getElem?_eq_getElem _⟩
                obtain ⟨b3, off3, rfl, hz3⟩ := HCC.out j z hz
                obtain ⟨b4, off4, rfl, ht4⟩ := HDD.out j t ht
                have p3 := cell_grows G.out.2.2 hz3
                have p4 := cell_grows G.out.2.2 ht4
                have hj1 : (j : Int) < (c.length : Int) := by omega
                have hj0 : (0 : Int) ≤ (j : Int) := by omega
                by_cases hzt : z = t
                · have HT : Hid (c.take (j + 1) = d.take (j + 1)) := mkHid (by rw [List.take_add_one, List.take_add_one, hz, ht, G.out.1, hzt])
                  clear hz ht hz3 ht4
                  go_wp2
                  go_quiet (fail)
                  go_wp2
                  go_roundw
                  case rel => exact ⟨j + 1, by omega, by go_num, mkHid ⟨HT.out, G.out.2.1, bdr G.out.2.2 _⟩⟩
                  case measure => simp [intOf]; omega
                · have HF : Hid (res = false) := mkHid (by
                    rw [← HRES.out]; exact decide_eq_false (fun e => by
                      have h1 := HCc.out
                      rw [e.2, HDd.out] at h1
                      obtain rfl := Option.some.inj h1
                      rw [hz] at ht; exact hzt (Option.some.inj ht)))
                  clear hz ht hz3 ht4
                  go_wp2
                  go_quiet (fail)
                  go_wp2
                  go_ret
                  exact ⟨by rw [HF.out]; rfl, bdr G.out.2.2 _⟩
              · have hj1 : ¬ (j : Int) < (c.length : Int) := by omega
                have HP : Hid (L.take (k + 1) = K.take (k + 1)) := mkHid (by
                  have e : c = d := by
                    have := G.out.1
                    rwa [show j = c.length by omega, List.take_length, HCD.out, List.take_length] at this
                  rw [List.take_add_one, List.take_add_one, HCc.out, HDd.out, H.out.1, e])
                go_wp2
                go_roundw
                case rel => exact ⟨k + 1, by omega, by go_num, mkHid ⟨HP.out, G.out.2.1, G.out.2.2⟩⟩
                case measure => simp [intOf]; omega
          · have HF : Hid (res = false) := mkHid (by
              rw [← HRES.out]; exact decide_eq_false (fun e => by
                have h1 := HCc.out
                rw [e.2, HDd.out] at h1
                exact hcd (by rw [Option.some.inj h1])))
            have hcd2 : ((d.length : Int) != (c.length : Int)) = true := by simp; omega
            have hcd3 : ¬ (d.length : Int) = (c.length : Int) := by omega
            clear hcd
            go_wp2
            go_quiet (fail)
            go_wp2
            go_ret
            exact ⟨by rw [HF.out]; rfl, bdr H.out.2.2 _⟩
        · have hk1 : ¬ (k : Int) < (L.length : Int) := by omega
          have HF : Hid (res = true) := mkHid (by
            rw [← HRES.out]; exact decide_eq_true ⟨by trivial, eq_of_take H.out.1 (by omega) HL.out⟩)
          go_wp2
          go_ret
          exact ⟨by rw [HF.out]; rfl, H.out.2.2⟩
    · rw [decide_eq_false (fun e => hl (by rw [e.2]))]
      have hl2 : ¬ (L.length : Int) = (K.length : Int) := by omega
      subst hn
      go_enter Try.func33, Try.ntmps33
      go_wp2
      go_ret
      exact ⟨rfl, HB.out⟩
  · rw [decide_eq_false (fun e => hn e.1)]
    go_enter Try.func33, Try.ntmps33
    go_wp2
    go_ret
    exact ⟨rfl, HB.out⟩
theorem Rows.nil (w : World) : Rows w [] [] := ⟨rfl, fun j x c h _ => by simp at h⟩
theorem Rows.cons {w : World} {x : Value} {c : List Int} {xs : List Value} {L : List (List Int)} (h : Ints w x c) (r : Rows w xs L) : Rows w (x :: xs) (c :: L) := by
  refine ⟨by simp [r.1], fun j y d h1 h2 => ?_⟩
  cases j with
  | zero => simp at h1 h2; subst h1 h2; exact h
  | succ j => exact r.2 j y d (by simpa using h1) (by simpa using h2)
theorem cls_new (W : World) (xs : List Value) (L : List (List Int)) (t : TypeId) (hR : Rows W xs L) (k n : Nat) (hk : k = W.heap.size) (hn : n = L.length) : Cls (W.alloc (.cells xs.toArray t)) (.slice (some ⟨k, 0, none⟩) n n) L := by
  subst hk hn
  refine ⟨some ⟨W.heap.size, 0, none⟩, L.length, rfl, fun j c hj => ?_⟩
  have hl : j < xs.length := by rw [hR.1]; exact (List.getElem?_eq_some_iff.1 hj).1
  have hb : (W.alloc (.cells xs.toArray t)).heap[W.heap.size]? = some (.cells xs.toArray t (0, 0)) := heap_alloc_new W _
  refine ⟨W.heap.size, 0, xs[j], rfl, ?_, (hR.2 j _ c (List.getElem?_eq_getElem hl) hj).next (bal (Below.refl _ _) _)⟩
  simp only [World.cell?, hb, Nat.zero_add]
  simp [hl]
theorem ints_new (W : World) (l : List Int) (t : TypeId) (k n : Nat) (hk : k = W.heap.size) (hn : n = l.length) : Ints (W.alloc (.cells (l.map (Value.int .i64)).toArray t)) (.slice (some ⟨k, 0, none⟩) n n) l := by
  subst hn; exact Ints.new W l t k hk
set_option maxRecDepth 100000 in
set_option maxHeartbeats 2000000 in
theorem sample_any (w : World) :
    Calls Try.prog 35 #[] w fun e w' => ∃ u, e = .returned (.agg #[.int .i64 3, u]) ∧ Hid (Cls w' u smp ∧ Below w.heap.size w w') := by
  go_enter Try.func35, Try.ntmps35
  go_wp2
  refine bodyPost_ret (v := .agg #[.int .i64 3, .slice (some ⟨w.heap.size + 1 + 1 + 1 + 1 + 1, 0, none⟩) 4 4]) (by simp [results, Try.results35, go_sem]) rfl ⟨_, rfl, mkHid ⟨?_, ?_⟩⟩
  · refine cls_new _ [_, _, _, _] smp 38 ?_ _ _ (by simp) rfl
    refine Rows.cons ?_ (Rows.cons ?_ (Rows.cons ?_ (Rows.cons ?_ (Rows.nil _))))
    · exact (((ints_new _ [2, -1, 2] 3 _ _ (by simp) rfl).next (bal (Below.refl _ _) _)).next (bal (Below.refl _ _) _)).next (bal (Below.refl _ _) _)
    · exact ((ints_new _ [3] 3 _ _ (by simp) rfl).next (bal (Below.refl _ _) _)).next (bal (Below.refl _ _) _)
    · exact (ints_new _ [1, -1] 3 _ _ (by simp) rfl).next (bal (Below.refl _ _) _)
    · exact ints_new _ [-1, 2] 3 _ _ (by simp) rfl
  · exact bal (bal (bal (bal (bal (bal (Below.refl _ w) _) _) _) _) _) _
theorem smp_ck : ckT 3 smp = 0 := by kernel_rfl
theorem smp_nm : nmK smp = [[3], [-1, 2]] := by kernel_rfl
theorem smp_ge : gvE 3 smp [1] = 0 := by kernel_rfl
theorem smp_gv : gvL [1] smp = [[2, 2], [3], [2]] := by kernel_rfl
theorem smp_e4 : evT 3 smp 4#128 = true := by kernel_rfl
theorem smp_e5 : evT 3 smp 5#128 = false := by kernel_rfl
theorem smp_vr : vrT 3 smp = 7#128 := by kernel_rfl
theorem sv4 : sv 4#128 = .agg #[.int .u64 4, .int .u64 0] := by kernel_rfl
theorem sv5 : sv 5#128 = .agg #[.int .u64 5, .int .u64 0] := by kernel_rfl
theorem sv7 : sv 7#128 = .agg #[.int .u64 7, .int .u64 0] := by kernel_rfl
theorem smp_th {w : World} {u : Value} (h : Cls w u smp) : Th w u smp := ⟨h, by decide, by decide, by unfold smp In64; decide⟩
end Go.Proofs.Ytalpbpcanebbbaa
