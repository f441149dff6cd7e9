/- The contract of the laws' false1: a set in which all literals of a term are false. -/
import Derived.Test.YtniagnbeeebobaaLQ
namespace Go.Proofs.Ytniagnbeeebobaa
open Go.RowKit VM LM

theorem cells_of {w : World} {b : Nat} {v : Value} (h : w.cell? ⟨b, 0, none⟩ = some v) : ∃ c e fr, w.heap[b]? = some (.cells c e fr) := by
  unfold World.cell? at h
  split at h
  · rename_i c e fr hb; exact ⟨c, e, fr, hb⟩
  · simp at h
theorem AtS.set0 {w : World} {b : Nat} {x y : Int} (H : AtS w b x y) (x' : Int) : AtS (w.setCell ⟨b, 0, none⟩ (.int .u64 x')) b x' y := by
  obtain ⟨h0, h1, f0, f1⟩ := H
  obtain ⟨c, e, fr, hb⟩ := cells_of h0
  have hb' : (w.setCell ⟨b, 0, none⟩ (.int .u64 x')).heap[b]? = some (.cells (c.setIfInBounds 0 (.int .u64 x')) e fr) := by
    simp [World.setCell, Array.getElem?_modify, hb]
  simp only [World.cell?, hb] at h0 h1
  simp only [World.frozen?, hb] at f0 f1
  have g0 : c[0]? = some (.int .u64 x) := by simpa using h0
  have g1 : c[1]? = some (.int .u64 y) := by simpa using h1
  have l0 := (Array.getElem?_eq_some_iff.1 g0).1
  refine ⟨?_, ?_, ?_, ?_⟩
  · simp only [World.cell?, hb', Array.getElem?_setIfInBounds]; simp [l0]
  · simp only [World.cell?, hb', Array.getElem?_setIfInBounds]; simpa using g1
  · simp only [World.frozen?, hb']; exact f0
  · simp only [World.frozen?, hb']; exact f1
theorem AtS.set1 {w : World} {b : Nat} {x y : Int} (H : AtS w b x y) (y' : Int) : AtS (w.setCell ⟨b, 1, none⟩ (.int .u64 y')) b x y' := by
  obtain ⟨h0, h1, f0, f1⟩ := H
  obtain ⟨c, e, fr, hb⟩ := cells_of h0
  have hb' : (w.setCell ⟨b, 1, none⟩ (.int .u64 y')).heap[b]? = some (.cells (c.setIfInBounds 1 (.int .u64 y')) e fr) := by
    simp [World.setCell, Array.getElem?_modify, hb]
  simp only [World.cell?, hb] at h0 h1
  simp only [World.frozen?, hb] at f0 f1
  have g0 : c[0]? = some (.int .u64 x) := by simpa using h0
  have g1 : c[1]? = some (.int .u64 y) := by simpa using h1
  have l1 := (Array.getElem?_eq_some_iff.1 g1).1
  refine ⟨?_, ?_, ?_, ?_⟩
  · simp only [World.cell?, hb', Array.getElem?_setIfInBounds]; simpa using g0
  · simp only [World.cell?, hb', Array.getElem?_setIfInBounds]; simp [l1]
  · simp only [World.frozen?, hb']; exact f0
  · simp only [World.frozen?, hb']; exact f1
theorem falseS_down {l : List Int} {k : Nat} {x : Int} (hx : l[k]? = some x) (h : x < 0) : falseS (l.take (k + 1)) = withV (falseS (l.take k)) (-x) := by
  unfold falseS
  rw [List.take_add_one, hx, List.filterMap_append]
  simp only [Option.toList_some, List.filterMap_cons, List.filterMap_nil, if_pos h]
  exact ofL_snoc _ _
theorem falseS_up {l : List Int} {k : Nat} {x : Int} (hx : l[k]? = some x) (h : ¬ x < 0) : falseS (l.take (k + 1)) = falseS (l.take k) := by
  unfold falseS
  rw [List.take_add_one, hx, List.filterMap_append]
  simp only [Option.toList_some, List.filterMap_cons, List.filterMap_nil, if_neg h, List.append_nil]

set_option maxRecDepth 100000 in
set_option maxHeartbeats 4000000 in
theorem false1_any (v : Value) (l : List Int) (w : World) (hv : Ints w v l) (hlen : l.length ≤ 1000000) (hl : ∀ x ∈ l, -128 ≤ x ∧ x ≤ 128) :
    Calls Try.prog 33 #[v] w fun e w' => e = .returned (sv (falseS l)) ∧ Below w.heap.size w w' := by
  obtain ⟨ao, cap, rfl, hc⟩ := hv.uni
  have HC := mkHid hc
  have HL := mkHid hl
  have HB := mkHid (bal (bal (Below.refl _ w) (.cells #[.int .u64 0, .int .u64 0] 36)) (.cells #[.int .u64 0, .int .u64 0] 36))
  have HA1 := mkHid (AtS.new (w.alloc (.cells #[.int .u64 0, .int .u64 0] 36)) (w.heap.size + 1) 0 0 36 (by simp))
  have HA0 := mkHid ((AtS.new w w.heap.size 0 0 36 rfl).alloc (.cells #[.int .u64 0, .int .u64 0] 36))
  clear hc hv hl
  go_enter Try.func33, Try.ntmps33
  go_wp2
  go_loopw [4] (fun iv wr => ∃ k : Nat, k ≤ l.length ∧ iv = .int .i64 (k : Int) ∧ Hid (AtS wr (w.heap.size + 1) (wd (lo (falseS (l.take k)))) (wd (hi (falseS (l.take k)))) ∧ AtS wr w.heap.size 0 0 ∧ Below w.heap.size w wr)) (fun iv _ => l.length - (intOf iv).toNat)
  case atStart => exact ⟨0, Nat.zero_le _, rfl, mkHid ⟨by rw [List.take_zero]; exact HA1.out, HA0.out, HB.out⟩⟩
  case round =>
    obtain ⟨k, hk, rfl, H⟩ := hrel
    clear HA1 HA0 HB
    by_cases hlt : k < l.length
    · obtain ⟨x, hx⟩ : ∃ x, l[k]? = some x := ⟨l[k], List.getElem?_eq_getElem hlt⟩
      obtain ⟨b, off, rfl, hcx0⟩ := HC.out k x hx
      have hcx := cell_grows H.out.2.2 hcx0
      have hk1 : (k : Int) < (l.length : Int) := by omega
      have hk0 : (0 : Int) ≤ (k : Int) := by omega
      by_cases hneg : x < 0
      · have HE := mkHid (falseS_down hx hneg)
        obtain ⟨m, rfl⟩ : ∃ m : Int, x = -m := ⟨-x, by omega⟩
        have hm := HL.out _ (List.mem_of_getElem? hx)
        rw [Int.neg_neg] at HE
        have g1 : 1 ≤ m := by omega
        have g2 : m ≤ 128 := by omega
        have e1 : IntKind.i64.wrap m = m := IntWalk.i64_in _ (by omega)
        have e2 : IntKind.i64.wrap (m - 1) = m - 1 := IntWalk.i64_in _ (by omega)
        have e0 : (0 : Int) ≤ m - 1 := by omega
        obtain ⟨a1, a2, af1, af2⟩ := H.out.1
        have HR := mkHid H.out
        clear hx hcx0 hm
        by_cases hlow : m ≤ 64
        · have e3 : (m - 1) / 64 = 0 := by omega
          have e4 : (m - 1) % 64 = m - 1 := by omega
          have e5 : IntKind.u64.wrap (m - 1) = m - 1 := by rw [IntKind.wrap_u64]; omega
          have e6 : (2 : Int) ^ (m.toNat - 1) = wd (lo (bit m)) := by rw [lo_low m g1 hlow, show (m - 1).toNat = m.toNat - 1 by omega]
          have hb1 := wd_lo (lo (bit m))
          have hb2 := wd_hi (lo (bit m))
          have e7 : IntKind.u64.wrap (wd (lo (bit m))) = wd (lo (bit m)) := by rw [IntKind.wrap_u64]; omega
          have e8 := or_wd (lo (falseS (l.take k))) (lo (bit m))
          have E1 : Hid (wd (lo (withV (falseS (l.take k)) m)) = wd (lo (falseS (l.take k)) ||| lo (bit m))) := mkHid (by rw [lo_with])
          have E2 : Hid (wd (hi (withV (falseS (l.take k)) m)) = wd (hi (falseS (l.take k)))) := mkHid (by rw [hi_with, hi_low m (by omega), or_zero])
          generalize wd (lo (bit m)) = M at *
          generalize wd (lo (falseS (l.take k)) ||| lo (bit m)) = R at *
          generalize wd (lo (falseS (l.take k))) = al at *
          generalize wd (hi (falseS (l.take k))) = ah at *
          clear hb1 hb2 H
          go_wp2
          go_region
          go_wp2
          go_roundw
          case rel => exact ⟨k + 1, by omega, by go_num, mkHid ⟨by rw [HE.out, E1.out, E2.out]; exact (HR.out.1.set0 R).drew, (HR.out.2.1.same (Below.heap_setCell _ _ _ _ (by show w.heap.size ≠ w.heap.size + 1; omega))).drew, (bst HR.out.2.2 (p := ⟨w.heap.size + 1, 0, none⟩) (Nat.le_succ _) _).drew⟩⟩
          case measure => simp [intOf]; omega
        · have e3 : (m - 1) / 64 = 1 := by omega
          have e4 : (m - 1) % 64 = m - 65 := by omega
          have e5 : IntKind.u64.wrap (m - 65) = m - 65 := by rw [IntKind.wrap_u64]; omega
          have e9 : (0 : Int) ≤ m - 65 := by omega
          have e6 : (2 : Int) ^ (m - 65).toNat = wd (hi (bit m)) := (hi_high m (by omega) g2).symm
          have hb1 := wd_lo (hi (bit m))
          have hb2 := wd_hi (hi (bit m))
          have e7 : IntKind.u64.wrap (wd (hi (bit m))) = wd (hi (bit m)) := by rw [IntKind.wrap_u64]; omega
          have e8 := or_wd (hi (falseS (l.take k))) (hi (bit m))
          have E1 : Hid (wd (hi (withV (falseS (l.take k)) m)) = wd (hi (falseS (l.take k)) ||| hi (bit m))) := mkHid (by rw [hi_with])
          have E2 : Hid (wd (lo (withV (falseS (l.take k)) m)) = wd (lo (falseS (l.take k)))) := mkHid (by rw [lo_with, lo_high m (by omega), or_zero])
          generalize wd (hi (bit m)) = M at *
          generalize wd (hi (falseS (l.take k)) ||| hi (bit m)) = R at *
          generalize wd (lo (falseS (l.take k))) = al at *
          generalize wd (hi (falseS (l.take k))) = ah at *
          clear hb1 hb2 H
          go_wp2
          go_region
          go_wp2
          go_roundw
          case rel => exact ⟨k + 1, by omega, by go_num, mkHid ⟨by rw [HE.out, E1.out, E2.out]; exact (HR.out.1.set1 R).drew, (HR.out.2.1.same (Below.heap_setCell _ _ _ _ (by show w.heap.size ≠ w.heap.size + 1; omega))).drew, (bst HR.out.2.2 (p := ⟨w.heap.size + 1, 1, none⟩) (Nat.le_succ _) _).drew⟩⟩
          case measure => simp [intOf]; omega
      · have HE := mkHid (falseS_up hx hneg)
        clear hx hcx0
        go_wp2
        go_roundw
        case rel => exact ⟨k + 1, by omega, by go_num, mkHid ⟨by rw [HE.out]; exact H.out.1, H.out.2⟩⟩
        case measure => simp [intOf]; omega
    · have hk1 : ¬ (k : Int) < (l.length : Int) := by omega
      have HE : Hid (falseS (l.take k) = falseS l) := mkHid (by rw [show k = l.length by omega, List.take_length])
      obtain ⟨r1, r2, rf1, rf2⟩ := H.out.2.1
      have HA := H.out.1
      have HBW := mkHid H.out.2.2
      rw [HE.out] at HA
      obtain ⟨a1, a2, af1, af2⟩ := HA
      clear H HE
      generalize hal : wd (lo (falseS l)) = al at *
      generalize hah : wd (hi (falseS l)) = ah at *
      have ES : Hid (Value.agg #[.int .u64 al, .int .u64 ah] = sv (falseS l)) := mkHid (by rw [← hal, ← hah]; rfl)
      clear hal hah
      go_wp2
      refine bodyPost_ret (v := .agg #[.int .u64 al, .int .u64 ah]) (by simp [results, Try.results33, go_sem, r1, r2]) rfl ⟨by rw [ES.out], ?_⟩
      exact bst2 HBW.out _ (Nat.le_refl _) _ _
end Go.Proofs.Ytniagnbeeebobaa
