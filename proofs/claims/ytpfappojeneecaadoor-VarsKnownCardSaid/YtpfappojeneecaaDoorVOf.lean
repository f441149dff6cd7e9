/- The contract of Of, and cells of a set. -/
import Derived.Test.YtpfappojeneecaaDoorVF
import Derived.LoopTactic
namespace Go.Proofs.YtpfappojeneecaaDoor
open Go.RowKit VM

/-- Two cells of the call's own that hold a set's words. -/
def AtS (w : World) (b : Nat) (x y : Int) : Prop :=
  w.cell? ⟨b, 0, none⟩ = some (.int .u64 x) ∧ w.cell? ⟨b, 1, none⟩ = some (.int .u64 y) ∧ w.frozen? ⟨b, 0, none⟩ = false ∧ w.frozen? ⟨b, 1, none⟩ = false
theorem AtS.lt {w : World} {b : Nat} {x y : Int} (H : AtS w b x y) : b < w.heap.size := World.block_lt_of_cell? w _ H.1
theorem AtS.same {w w' : World} {b : Nat} {x y : Int} (H : AtS w b x y) (e : w'.heap[b]? = w.heap[b]?) : AtS w' b x y :=
  ⟨(World.cell?_of_block (a := ⟨b, 0, none⟩) e).trans H.1, (World.cell?_of_block (a := ⟨b, 1, none⟩) e).trans H.2.1, (World.frozen?_of_block (a := ⟨b, 0, none⟩) e).trans H.2.2.1, (World.frozen?_of_block (a := ⟨b, 1, none⟩) e).trans H.2.2.2⟩
theorem AtS.grows {w w' : World} {b : Nat} {x y : Int} (H : AtS w b x y) (hb : Below w.heap.size w w') : AtS w' b x y := H.same (hb.block b H.lt)
theorem AtS.alloc {w : World} {b : Nat} {x y : Int} (H : AtS w b x y) (o : Obj) : AtS (w.alloc o) b x y := H.grows (bal (Below.refl _ _) o)
theorem AtS.drewN {w : World} {b : Nat} {x y : Int} (H : AtS w b x y) (n : Nat) : AtS (w.drewN n) b x y := H
theorem AtS.drew {w : World} {b : Nat} {x y : Int} (H : AtS w b x y) : AtS w.drew b x y := H
theorem AtS.new (w : World) (n : Nat) (x y : Int) (t : TypeId) (hn : n = w.heap.size) : AtS (w.alloc (.cells #[.int .u64 x, .int .u64 y] t)) n x y := by
  subst hn
  have hb : (w.alloc (.cells #[.int .u64 x, .int .u64 y] t)).heap[w.heap.size]? = some (.cells #[.int .u64 x, .int .u64 y] t (0, 0)) := heap_alloc_new w _
  refine ⟨?_, ?_, ?_, ?_⟩
  · simp only [World.cell?, hb]; rfl
  · simp only [World.cell?, hb]; rfl
  · simp only [World.frozen?, hb]; rfl
  · simp only [World.frozen?, hb]; rfl
theorem AtS.set {w : World} {b : Nat} {x y : Int} (H : AtS w b x y) (x' y' : Int) : AtS ((w.setCell ⟨b, 0, none⟩ (.int .u64 x')).setCell ⟨b, 1, none⟩ (.int .u64 y')) b x' y' := by
  obtain ⟨h0, h1, f0, f1⟩ := H
  have hc : ∃ c e fr, w.heap[b]? = some (.cells c e fr) := by
    unfold World.cell? at h0
    split at h0
    · rename_i c e fr hb; exact ⟨c, e, fr, hb⟩
    · simp at h0
  obtain ⟨c, e, fr, hb⟩ := hc
  have hb' : ((w.setCell ⟨b, 0, none⟩ (.int .u64 x')).setCell ⟨b, 1, none⟩ (.int .u64 y')).heap[b]? = some (.cells ((c.setIfInBounds 0 (.int .u64 x')).setIfInBounds 1 (.int .u64 y')) e fr) := by
    simp [World.setCell, Array.getElem?_modify, hb]
  simp only [World.cell?, hb] at h0 h1
  simp only [World.frozen?, hb] at f0 f1
  have g0 : c[0]? = some (.int .u64 x) := by simpa using h0
  have g1 : c[1]? = some (.int .u64 y) := by simpa using h1
  have l0 := (Array.getElem?_eq_some_iff.1 g0).1
  have l1 := (Array.getElem?_eq_some_iff.1 g1).1
  refine ⟨?_, ?_, ?_, ?_⟩
  · simp only [World.cell?, hb', Array.getElem?_setIfInBounds]; simp [l0]
  · simp only [World.cell?, hb', Array.getElem?_setIfInBounds]; simp [l1]
  · simp only [World.frozen?, hb']; exact f0
  · simp only [World.frozen?, hb']; exact f1
theorem AtS.setOff {w : World} {b b' : Nat} {x y : Int} (H : AtS w b x y) (hne : b ≠ b') (u v : Value) : AtS ((w.setCell ⟨b', 0, none⟩ u).setCell ⟨b', 1, none⟩ v) b x y :=
  H.same ((Below.heap_setCell _ _ _ _ hne).trans (Below.heap_setCell _ _ _ _ hne))
theorem bst2 {w W : World} (h : Below w.heap.size w W) (b : Nat) (hb : w.heap.size ≤ b) (x y : Value) : Below w.heap.size w ((W.setCell ⟨b, 0, none⟩ x).setCell ⟨b, 1, none⟩ y) :=
  (h.setCell (p := ⟨b, 0, none⟩) hb _).setCell (p := ⟨b, 1, none⟩) hb _
theorem cell_grows {W w' : World} (hb : Below W.heap.size W w') {b o : Nat} {v : Value} (h : W.cell? ⟨b, o, none⟩ = some v) : w'.cell? ⟨b, o, none⟩ = some v :=
  (hb.cell (p := ⟨b, o, none⟩) (World.block_lt_of_cell? W _ h)).trans h

/-- A slice of ints: empty, or cells. -/
def Ints (w : World) (v : Value) (l : List Int) : Prop :=
  (l = [] ∧ ∃ ao cap, v = .slice ao 0 cap) ∨ ∃ b off cap, v = .slice (some ⟨b, off, none⟩) l.length cap ∧ ∀ j (x : Int), l[j]? = some x → w.cell? ⟨b, off + j, none⟩ = some (.int .i64 x)
theorem Ints.form {w : World} {v : Value} {l : List Int} (h : Ints w v l) : ∃ ao cap, v = .slice ao l.length cap := by
  rcases h with ⟨rfl, ao, cap, rfl⟩ | ⟨b, off, cap, rfl, _⟩
  · exact ⟨ao, cap, rfl⟩
  · exact ⟨_, _, rfl⟩
theorem Ints.next {w w' : World} {v : Value} {l : List Int} (h : Ints w v l) (hb : Below w.heap.size w w') : Ints w' v l :=
  h.imp id fun ⟨b, off, cap, e, h3⟩ => ⟨b, off, cap, e, fun j x hj => cell_grows hb (h3 j x hj)⟩

set_option maxRecDepth 100000 in
set_option maxHeartbeats 2000000 in
theorem of_nil (ao : Option Addr) (cap : Nat) (w : World) : Calls Tryd.prog 14 #[.slice ao 0 cap] w fun e w' => e = .returned (sv 0#128) ∧ Below w.heap.size w w' := by
  rw [sv_empty]
  go_enter Tryd.func14, Tryd.ntmps14
  go_wp2
  refine wp_loop_rounds 1 ?_
  rw [rounds_succ]
  go_wp2
  refine bodyPost_ret (v := .agg #[.int .u64 0, .int .u64 0]) (by simp [results, Tryd.results14, go_sem]) rfl ⟨rfl, ?_⟩
  exact bal (bal (Below.refl _ _) _) _

set_option maxRecDepth 100000 in
set_option maxHeartbeats 2000000 in
theorem of_some (l : List Int) (b off cap : Nat) (w : World) (hlen : l.length ≤ 9223372036854775807) (hcells : ∀ j (x : Int), l[j]? = some x → w.cell? ⟨b, off + j, none⟩ = some (.int .i64 x)) :
    Calls Tryd.prog 14 #[.slice (some ⟨b, off, none⟩) l.length cap] w fun e w' => e = .returned (sv (ofL l)) ∧ Below w.heap.size w w' := by
  have HBLT : Hid (0 < l.length → b < w.heap.size) := mkHid fun h => World.block_lt_of_cell? w _ (hcells 0 l[0] (List.getElem?_eq_getElem h))
  have HC := mkHid hcells
  have HB := mkHid (bal (bal (Below.refl _ w) (.cells #[.int .u64 0, .int .u64 0] 26)) (.cells #[.int .u64 0, .int .u64 0] 26))
  have HA1 := mkHid (AtS.new (w.alloc (.cells #[.int .u64 0, .int .u64 0] 26)) (w.heap.size + 1) 0 0 26 (by simp))
  have HA0 := mkHid ((AtS.new w w.heap.size 0 0 26 rfl).alloc (.cells #[.int .u64 0, .int .u64 0] 26))
  clear hcells
  go_enter Tryd.func14, Tryd.ntmps14
  go_wp2
  go_loopw [8] (fun iv wr => ∃ k : Nat, k ≤ l.length ∧ iv = .int .i64 (k : Int) ∧ Hid (AtS wr (w.heap.size + 1) (wd (lo (ofL (l.take k)))) (wd (hi (ofL (l.take k)))) ∧ AtS wr w.heap.size 0 0 ∧ Below w.heap.size w wr)) (fun iv _ => l.length - (intOf iv).toNat)
  case atStart => exact ⟨0, Nat.zero_le _, rfl, mkHid ⟨by rw [List.take_zero]; exact HA1.out, HA0.out, HB.out⟩⟩
  case round =>
    obtain ⟨k, hk, rfl, H⟩ := hrel
    obtain ⟨a1, a2, af1, af2⟩ := H.out.1
    by_cases hlt : k < l.length
    · obtain ⟨x, hx⟩ : ∃ x, l[k]? = some x := ⟨l[k], List.getElem?_eq_getElem hlt⟩
      have hcx := cell_grows H.out.2.2 (HC.out k x hx)
      have et : Hid (ofL (l.take (k + 1)) = withV (ofL (l.take k)) x) := mkHid (by
        rw [List.take_add_one, hx]; exact ofL_snoc _ _)
      have C := mkHid (fun W => with_any (ofL (l.take k)) x W)
      have HW := mkHid H.out.2
      have HAT := mkHid H.out.1
      unfold sv at C
      clear H HA1 HA0 HB hx
      generalize wd (lo (ofL (l.take k))) = l1 at *
      generalize wd (hi (ofL (l.take k))) = h1 at *
      generalize hl2 : wd (lo (withV (ofL (l.take k)) x)) = l2 at *
      generalize hh2 : wd (hi (withV (ofL (l.take k)) x)) = h2 at *
      have E2 := mkHid hl2; have E3 := mkHid hh2
      clear hl2 hh2
      have hk1 : (k : Int) < (l.length : Int) := by omega
      go_wp2_with (go_at_call 21; refine (C.out _).mono ?_; rintro e w2 ⟨rfl, hb⟩; have HA4 := mkHid (HAT.out.grows hb); have HR4 := mkHid (HW.out.1.grows hb); have HB4 := mkHid (bnx HW.out.2 hb); obtain ⟨c1, c2, cf1, cf2⟩ := HA4.out; clear hb)
      go_roundw
      case rel => exact ⟨k + 1, by omega, by go_num, mkHid ⟨by rw [et.out, E2.out, E3.out]; exact HA4.out.set l2 h2, HR4.out.setOff (by omega) _ _, bst2 HB4.out _ (by omega) _ _⟩⟩
      case measure => simp [intOf]; omega
    · have hkl : k = l.length := by omega
      obtain ⟨r1, r2, rf1, rf2⟩ := H.out.2.1
      have HBW := mkHid H.out.2.2
      have et : Hid (ofL (l.take k) = ofL l) := mkHid (by rw [hkl, List.take_length])
      have hk1 : ¬ (k : Int) < (l.length : Int) := by omega
      clear H HA1 HA0 HB hkl
      generalize hl1 : wd (lo (ofL (l.take k))) = l1 at *
      generalize hh1 : wd (hi (ofL (l.take k))) = h1 at *
      have ES : Hid (Value.agg #[.int .u64 l1, .int .u64 h1] = sv (ofL l)) := mkHid (by rw [← et.out, ← hl1, ← hh1]; rfl)
      clear hl1 hh1 et
      go_wp2
      refine bodyPost_ret (v := .agg #[.int .u64 l1, .int .u64 h1]) (by simp [results, Tryd.results14, go_sem, r1, r2]) rfl ⟨by rw [ES.out], ?_⟩
      exact bst2 HBW.out _ (Nat.le_refl _) _ _
theorem of_any (v : Value) (l : List Int) (w : World) (hv : Ints w v l) (hlen : l.length ≤ 9223372036854775807) :
    Calls Tryd.prog 14 #[v] w fun e w' => e = .returned (sv (ofL l)) ∧ Below w.heap.size w w' := by
  rcases hv with ⟨rfl, ao, cap, rfl⟩ | ⟨b, off, cap, rfl, h3⟩
  · exact of_nil ao cap w
  · exact of_some l b off cap w hlen h3
end Go.Proofs.YtpfappojeneecaaDoor
