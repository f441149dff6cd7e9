/- The specification's lists of bools: none and set. -/
import Derived.Test.YtpfappojeneecaaDoorVRef
namespace Go.Proofs.YtpfappojeneecaaDoor
open Go.RowKit VM

/-- The variables of s below k. -/
def upTo (s : BitVec 128) (k : Int) : BitVec 128 := s &&& all (k - 1)
theorem has_upTo (s : BitVec 128) (k v : Int) : has (upTo s k) v = (has s v && decide (v < k)) := by
  unfold upTo
  rw [has_and, has_all]
  by_cases h : 1 ≤ v ∧ v ≤ 128
  · congr 1; rw [decide_eq_decide]; omega
  · rw [has_none _ _ h, Bool.false_and, Bool.false_and]
theorem upTo_one (s : BitVec 128) : upTo s 1 = 0#128 := ext_has fun v h1 h2 => by
  rw [has_upTo, has_empty, decide_eq_false (by omega), Bool.and_false]
theorem upTo_end (s : BitVec 128) (k : Int) (h : 129 ≤ k) : upTo s k = s := ext_has fun v h1 h2 => by
  rw [has_upTo, decide_eq_true (by omega), Bool.and_true]
theorem upTo_yes (s : BitVec 128) (k : Int) (h : has s k = true) (h1 : 1 ≤ k) (h2 : k ≤ 128) : upTo s (k + 1) = withV (upTo s k) k := ext_has fun v _ _ => by
  rw [has_upTo, has_with, has_upTo]
  by_cases e : v = k
  · subst e; rw [h, decide_eq_true (p := v < v + 1) (by omega), decide_eq_true (p := 1 ≤ v ∧ v ≤ 128 ∧ v = v) ⟨h1, h2, rfl⟩, Bool.or_true]; rfl
  · rw [decide_eq_false (p := 1 ≤ k ∧ k ≤ 128 ∧ v = k) (fun x => e x.2.2), Bool.or_false]
    congr 1; rw [decide_eq_decide]; omega
theorem upTo_no (s : BitVec 128) (k : Int) (h : has s k = false) : upTo s (k + 1) = upTo s k := ext_has fun v _ _ => by
  rw [has_upTo, has_upTo]
  by_cases e : v = k
  · subst e; rw [h]; rfl
  · congr 1; rw [decide_eq_decide]; omega

/-- 129 cells that say which variables are in s. -/
def Bools (w : World) (b : Nat) (s : BitVec 128) : Prop := ∀ j : Nat, j < 129 → w.cell? ⟨b, j, none⟩ = some (.bool (has s (j : Int))) ∧ w.frozen? ⟨b, j, none⟩ = false
theorem Bools.lt {w : World} {b : Nat} {s : BitVec 128} (h : Bools w b s) : b < w.heap.size := World.block_lt_of_cell? w _ (h 0 (by omega)).1
theorem Bools.same {w w' : World} {b : Nat} {s : BitVec 128} (h : Bools w b s) (e : w'.heap[b]? = w.heap[b]?) : Bools w' b s := fun j hj =>
  ⟨(World.cell?_of_block (a := ⟨b, j, none⟩) e).trans (h j hj).1, (World.frozen?_of_block (a := ⟨b, j, none⟩) e).trans (h j hj).2⟩
theorem Bools.grows {w w' : World} {b : Nat} {s : BitVec 128} (h : Bools w b s) (hb : Below w.heap.size w w') : Bools w' b s := h.same (hb.block b h.lt)
theorem Bools.alloc {w : World} {b : Nat} {s : BitVec 128} (h : Bools w b s) (o : Obj) : Bools (w.alloc o) b s := h.grows (bal (Below.refl _ _) o)
theorem Bools.set {w : World} {b : Nat} {s s' : BitVec 128} (h : Bools w b s) (k : Nat) (hs : ∀ j : Nat, j < 129 → j ≠ k → has s' (j : Int) = has s (j : Int)) : Bools (w.setCell ⟨b, k, none⟩ (.bool (has s' (k : Int)))) b s' := by
  intro j hj
  obtain ⟨h0, f0⟩ := h j hj
  have hc : ∃ c e fr, w.heap[b]? = some (.cells c e fr) := by
    unfold World.cell? at h0
    split at h0
    · rename_i c e fr hb; exact ⟨c, e, fr, hb⟩
    · simp at h0
  obtain ⟨c, e, fr, hb⟩ := hc
  have hb' : (w.setCell ⟨b, k, none⟩ (.bool (has s' (k : Int)))).heap[b]? = some (.cells (c.setIfInBounds k (.bool (has s' (k : Int)))) e fr) := by
    simp [World.setCell, Array.getElem?_modify, hb]
  simp only [World.cell?, hb] at h0
  simp only [World.frozen?, hb] at f0
  have g0 : c[j]? = some (.bool (has s (j : Int))) := by simpa using h0
  have l0 := (Array.getElem?_eq_some_iff.1 g0).1
  refine ⟨?_, by simp only [World.frozen?, hb']; exact f0⟩
  simp only [World.cell?, hb', Array.getElem?_setIfInBounds]
  by_cases hk : k = j
  · subst hk; simp [l0]
  · simp [hk, g0, hs j hj (fun e => hk e.symm)]
theorem Bools.setOff {w : World} {b b' : Nat} {s : BitVec 128} (h : Bools w b s) (hne : b ≠ b') (o : Nat) (v : Value) : Bools (w.setCell ⟨b', o, none⟩ v) b s := h.same (Below.heap_setCell _ _ _ _ hne)
theorem AtS.setOff1 {w : World} {b b' : Nat} {x y : Int} (H : AtS w b x y) (hne : b ≠ b') (o : Nat) (v : Value) : AtS (w.setCell ⟨b', o, none⟩ v) b x y := H.same (Below.heap_setCell _ _ _ _ hne)

/-- What make lays. -/
def falses : Array Value := Array.replicate 129 (.bool false)
theorem run_none (w : World) : (Instr.makeSlice 42 (.int .i64 129) (.int .i64 129)).run Tryd.prog w = .ok (.slice (some ⟨w.heap.size, 0, none⟩) 129 129) (w.alloc (.cells falses 4)) := by
  obtain ⟨i, hi, hz, hs, hb⟩ := info_parts (show (Tryd.prog.info? 4).map (fun i => (i.zero, i.size, i.bytes)) = some (some (.bool false), 1, 1) by kernel_rfl)
  have h := run_makeSlice (P := Tryd.prog) w 42 4 i (.bool false) Tryd.underlying42 hi hz .i64 .i64 129 129 (by omega) (by omega) (by rw [hs]; decide) (by rw [hb]; decide) (by decide)
  rw [h, hs]
  have e : madeCells (Value.bool false).cells (Int.toNat 129 * 1) = falses := by kernel_rfl
  rw [e]
  rfl
theorem Bools.new (w : World) (n : Nat) (hn : n = w.heap.size) : Bools (w.alloc (.cells falses 4)) n 0#128 := by
  subst hn
  intro j hj
  have hb : (w.alloc (.cells falses 4)).heap[w.heap.size]? = some (.cells falses 4 (0, 0)) := heap_alloc_new w _
  have e : falses[j]? = some (.bool false) := by unfold falses; rw [Array.getElem?_replicate, if_pos hj]
  refine ⟨?_, ?_⟩
  · rw [has_empty]; simp only [World.cell?, hb]; simp [e]
  · simp only [World.frozen?, hb]; simp

theorem AtS.set0 {w : World} {b : Nat} {x y : Int} (H : AtS w b x y) (x' : Int) : AtS (w.setCell ⟨b, 0, none⟩ (.int .u64 x')) b x' y := by
  obtain ⟨h0, h1, f0, f1⟩ := H
  have hc : ∃ c e fr, w.heap[b]? = some (.cells c e fr) := by
    unfold World.cell? at h0
    split at h0
    · rename_i c e fr hb; exact ⟨c, e, fr, hb⟩
    · simp at h0
  obtain ⟨c, e, fr, hb⟩ := hc
  have hb' : (w.setCell ⟨b, 0, none⟩ (.int .u64 x')).heap[b]? = some (.cells (c.setIfInBounds 0 (.int .u64 x')) e fr) := by
    simp [World.setCell, Array.getElem?_modify, hb]
  simp only [World.cell?, hb] at h0 h1
  simp only [World.frozen?, hb] at f0 f1
  have g0 : c[0]? = some (.int .u64 x) := by simpa using h0
  have g1 : c[1]? = some (.int .u64 y) := by simpa using h1
  have l0 := (Array.getElem?_eq_some_iff.1 g0).1
  refine ⟨?_, ?_, ?_, ?_⟩
  · simp only [World.cell?, hb', Array.getElem?_setIfInBounds]; simp [l0]
  · simp only [World.cell?, hb', Array.getElem?_setIfInBounds]; simp [g1]
  · simp only [World.frozen?, hb']; exact f0
  · simp only [World.frozen?, hb']; exact f1
theorem AtS.set1 {w : World} {b : Nat} {x y : Int} (H : AtS w b x y) (y' : Int) : AtS (w.setCell ⟨b, 1, none⟩ (.int .u64 y')) b x y' := by
  obtain ⟨h0, h1, f0, f1⟩ := H
  have hc : ∃ c e fr, w.heap[b]? = some (.cells c e fr) := by
    unfold World.cell? at h0
    split at h0
    · rename_i c e fr hb; exact ⟨c, e, fr, hb⟩
    · simp at h0
  obtain ⟨c, e, fr, hb⟩ := hc
  have hb' : (w.setCell ⟨b, 1, none⟩ (.int .u64 y')).heap[b]? = some (.cells (c.setIfInBounds 1 (.int .u64 y')) e fr) := by
    simp [World.setCell, Array.getElem?_modify, hb]
  simp only [World.cell?, hb] at h0 h1
  simp only [World.frozen?, hb] at f0 f1
  have g0 : c[0]? = some (.int .u64 x) := by simpa using h0
  have g1 : c[1]? = some (.int .u64 y) := by simpa using h1
  have l1 := (Array.getElem?_eq_some_iff.1 g1).1
  refine ⟨?_, ?_, ?_, ?_⟩
  · simp only [World.cell?, hb', Array.getElem?_setIfInBounds]; simp [g0]
  · simp only [World.cell?, hb', Array.getElem?_setIfInBounds]; simp [l1]
  · simp only [World.frozen?, hb']; exact f0
  · simp only [World.frozen?, hb']; exact f1
theorem wrap_pow (k : Nat) (h : k < 64) : IntKind.u64.wrap (2 ^ k) = 2 ^ k := by
  have h6 : 2 ^ k < 2 ^ 64 := Nat.pow_lt_pow_right (by omega) h
  have h7 : ((2 : Int) ^ k) = ((2 ^ k : Nat) : Int) := by simp
  rw [IntKind.wrap_u64, h7]
  generalize 2 ^ k = m at *
  omega

set_option maxRecDepth 100000 in
set_option maxHeartbeats 2000000 in
theorem none_any (w : World) :
    Calls Tryd.prog 41 #[] w fun e w' => e = .returned (.slice (some ⟨w.heap.size, 0, none⟩) 129 129) ∧ w' = w.alloc (.cells falses 4) := by
  have hmk := run_none
  go_enter Tryd.func41, Tryd.ntmps41
  go_wp2
  go_ret
  exact ⟨rfl, rfl⟩

set_option maxRecDepth 100000 in
set_option maxHeartbeats 4000000 in
theorem set_any (b : Nat) (s : BitVec 128) (w : World) (hs : Bools w b s) :
    Calls Tryd.prog 42 #[.slice (some ⟨b, 0, none⟩) 129 129] w fun e w' => e = .returned (sv s) ∧ Below w.heap.size w w' := by
  have HS := mkHid hs
  have HB := mkHid (bal (bal (Below.refl _ w) (.cells #[.int .u64 0, .int .u64 0] 26)) (.cells #[.int .u64 0, .int .u64 0] 26))
  have HA1 := mkHid (AtS.new (w.alloc (.cells #[.int .u64 0, .int .u64 0] 26)) (w.heap.size + 1) 0 0 26 (by simp))
  have HA0 := mkHid ((AtS.new w w.heap.size 0 0 26 rfl).alloc (.cells #[.int .u64 0, .int .u64 0] 26))
  clear hs
  go_enter Tryd.func42, Tryd.ntmps42
  go_wp2
  go_loopw [4] (fun iv wr => ∃ k : Nat, 1 ≤ k ∧ k ≤ 129 ∧ iv = .int .i64 (k : Int) ∧ Hid (AtS wr (w.heap.size + 1) (wd (lo (upTo s k))) (wd (hi (upTo s k))) ∧ AtS wr w.heap.size 0 0 ∧ Below w.heap.size w wr)) (fun iv _ => 129 - (intOf iv).toNat)
  case atStart => exact ⟨1, by omega, by omega, rfl, mkHid ⟨by rw [show (((1 : Nat) : Int)) = 1 from rfl, upTo_one]; exact HA1.out, HA0.out, HB.out⟩⟩
  case round =>
    obtain ⟨k, hk1, hk2, rfl, H⟩ := hrel
    clear HA1 HA0 HB
    by_cases hlt : k < 129
    · have hkb := (HS.out k hlt).1
      have hk3 : (k : Int) < 129 := by omega
      have hcx := cell_grows H.out.2.2 hkb
      have HW := mkHid H.out.2
      have HAT := mkHid H.out.1
      obtain ⟨a1, a2, af1, af2⟩ := H.out.1
      cases hh : has s (k : Int)
      · rw [hh] at hcx
        have HST := mkHid (upTo_no s k hh)
        clear H hkb hh
        go_wp2
        go_roundw
        case rel => exact ⟨k + 1, by omega, by omega, by go_num, mkHid ⟨by rw [show ((k + 1 : Nat) : Int) = (k : Int) + 1 by omega, HST.out]; exact HAT.out, HW.out.1, HW.out.2⟩⟩
        case measure => simp [intOf]; omega
      · rw [hh] at hcx
        have HST := mkHid (upTo_yes s k hh (by omega) (by omega))
        clear H hkb hh
        have e1 : IntKind.i64.wrap ((k : Int) - 1) = (k : Int) - 1 := IntWalk.i64_in _ (by omega)
        have e0 : (0 : Int) ≤ (k : Int) - 1 := by omega
        by_cases hl : k ≤ 64
        · have e2 : ((k : Int) - 1) / 64 = 0 := by omega
          have e3 : ((k : Int) - 1) % 64 = (k : Int) - 1 := by omega
          have e7 : (0 : Int) ≤ (k : Int) - 1 := by omega
          have e4 : IntKind.u64.wrap ((k : Int) - 1) = (k : Int) - 1 := by rw [IntKind.wrap_u64]; omega
          have e5 := or_wd (lo (upTo s k)) (lo (bit k))
          have e6 : IntKind.u64.wrap (2 ^ (k - 1)) = wd (lo (bit k)) := by
            rw [wrap_pow _ (by omega), lo_low (k : Int) (by omega) (by omega)]
            congr 1; omega
          have hw1 := lo_with (upTo s k) k
          have hw2 := hi_with (upTo s k) k
          rw [hi_low _ (by omega), or_zero] at hw2
          rw [← hw1] at e5
          have HW2 := mkHid hw2
          clear hw1 hw2
          generalize hg1 : wd (lo (upTo s k)) = l1 at *
          generalize hg2 : wd (hi (upTo s k)) = h1 at *
          generalize hg3 : wd (lo (withV (upTo s k) k)) = l2 at *
          generalize wd (lo (bit k)) = m at *
          have HG2 := mkHid hg2
          have HG3 := mkHid hg3
          clear hg1 hg2 hg3
          go_wp2
          go_roundw
          case rel => exact ⟨k + 1, by omega, by omega, by go_num, mkHid ⟨by rw [show ((k + 1 : Nat) : Int) = (k : Int) + 1 by omega, HST.out, HG3.out, HW2.out, HG2.out]; exact HAT.out.set0 l2, HW.out.1.setOff1 (by omega) 0 _, bst HW.out.2 (Nat.le_succ _) _⟩⟩
          case measure => simp [intOf]; omega
        · have e2 : ((k : Int) - 1) / 64 = 1 := by omega
          have e3 : ((k : Int) - 1) % 64 = (k : Int) - 65 := by omega
          have e7 : (0 : Int) ≤ (k : Int) - 65 := by omega
          have e4 : IntKind.u64.wrap ((k : Int) - 65) = (k : Int) - 65 := by rw [IntKind.wrap_u64]; omega
          have e5 := or_wd (hi (upTo s k)) (hi (bit k))
          have e6 : IntKind.u64.wrap (2 ^ (k - 65)) = wd (hi (bit k)) := by
            rw [wrap_pow _ (by omega), hi_high (k : Int) (by omega) (by omega)]
            congr 1; omega
          have hw1 := hi_with (upTo s k) k
          have hw2 := lo_with (upTo s k) k
          rw [lo_high _ (by omega), or_zero] at hw2
          rw [← hw1] at e5
          have HW2 := mkHid hw2
          clear hw1 hw2
          generalize hg1 : wd (hi (upTo s k)) = l1 at *
          generalize hg2 : wd (lo (upTo s k)) = h1 at *
          generalize hg3 : wd (hi (withV (upTo s k) k)) = l2 at *
          generalize wd (hi (bit k)) = m at *
          have HG2 := mkHid hg2
          have HG3 := mkHid hg3
          clear hg1 hg2 hg3
          go_wp2
          go_roundw
          case rel => exact ⟨k + 1, by omega, by omega, by go_num, mkHid ⟨by rw [show ((k + 1 : Nat) : Int) = (k : Int) + 1 by omega, HST.out, HG3.out, HW2.out, HG2.out]; exact HAT.out.set1 l2, HW.out.1.setOff1 (by omega) 1 _, bst HW.out.2 (Nat.le_succ _) _⟩⟩
          case measure => simp [intOf]; omega
    · have ES := upTo_end s (k : Int) (by omega)
      obtain ⟨r1, r2, rf1, rf2⟩ := H.out.2.1
      obtain ⟨a1, a2, af1, af2⟩ := H.out.1
      rw [ES] at a1 a2
      have HBW := mkHid H.out.2.2
      have hk3 : ¬ (k : Int) < 129 := by omega
      clear H ES
      go_wp2
      refine bodyPost_ret (v := sv s) (by simp [results, Tryd.results42, go_sem, sv, r1, r2]) rfl ⟨rfl, ?_⟩
      exact bst2 HBW.out _ (Nat.le_refl _) _ _
end Go.Proofs.YtpfappojeneecaaDoor
