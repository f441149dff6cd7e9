/- The contract of List: the caller's side. -/
import Derived.Test.YtpfappojeneecaaDoorVListV
namespace Go.Proofs.YtpfappojeneecaaDoor
open Go.RowKit Go.Shelf VM

attribute [local go_sem] Oper.semAt_some

theorem each_stops (n : Nat) (hn : 1 ≤ n) (Bn n₀ : Nat) (s : BitVec 128) (w : World) (hB : AtS w Bn (wd (lo s)) (wd (hi s))) (hT : Tab w) (hg : 0 < n₀) :
    SeqStopsK Fence.wide n Tryd.prog 47 #[.pointer (some ⟨Bn, 0, none⟩)] (fun x : Int => #[Value.int .i64 x]) (Below n₀) (fun ys => ys = lst s 128) (fun pre => pre <+: lst s 128) (lst s 128).length w := fun l J Jx W hW _ _ hY h0 =>
  each1_in n hn l Bn n₀ s J Jx hg hY W (hB.grows hW) (hT.below hW) h0

set_option maxRecDepth 100000 in
theorem each_any (a b : Int) (w : World) :
    Calls Tryd.prog 45 #[.agg #[.int .u64 a, .int .u64 b]] w fun e w' => e = .returned (.func (.func 47) #[] #[.pointer (some ⟨w.heap.size, 0, none⟩)]) ∧ w' = w.alloc (.cells #[.int .u64 a, .int .u64 b] 26) := by
  have hmf : ∀ (fn : Fn) (first cap : Array Value) (w : World), (Instr.makeFunc fn first cap).run Tryd.prog w = .ok (.func fn first cap) w := fun _ _ _ _ => rfl
  go_enter Tryd.func45, Tryd.ntmps45
  go_wp2
  go_ret
  exact ⟨rfl, rfl⟩

theorem run_list (c : Nat) (hc : c ≤ 128) (w : World) : (Instr.makeSlice 22 (.int .i64 0) (.int .i64 (c : Int))).run Tryd.prog w = .ok (.slice (some ⟨w.heap.size, 0, none⟩) 0 c) (w.alloc (.cells (madeCells (Value.int .i64 0).cells c) 3)) := by
  obtain ⟨i, hi, hz, hs, hb⟩ := info_parts infoI
  have h := run_makeSlice (P := Tryd.prog) w 22 3 i (.int .i64 0) Tryd.underlying22 hi hz .i64 .i64 0 (c : Int) (by omega) (by omega) (by rw [hs]; omega) (by rw [hb]; omega) (by omega)
  rw [h, hs]
  simp

set_option maxRecDepth 100000 in
set_option maxHeartbeats 4000000 in
theorem listV_in (n : Nat) (hn : 3 ≤ n) (s : BitVec 128) (w : World) (ht : Tab w) :
    CallsIn Fence.wide n Tryd.prog 35 #[sv s] w fun e W' => ∃ v, e = .returned v ∧ Hid (Own W' w.heap.size v (lst s 128) ∧ Below w.heap.size w W') := by
  have h1 : 1 ≤ n := by omega
  obtain ⟨i0, hi, hz0, hz1, hz2⟩ := info_parts infoI
  have hmk := run_list (card s) (card_le s)
  have CL := mkHid (fun W => len_any s W)
  have HG := mkHid ht.lt
  have hN := lst_length s 128
  have HT := mkHid ((On.nil ht).box (wd (lo s)) (wd (VM.hi s)) 26 w.heap.size rfl)
  unfold sv at *
  generalize hg0 : wd (lo s) = a0 at *
  generalize hg1 : wd (VM.hi s) = a1 at *
  generalize hcd : card s = cd at *
  have HG0 := mkHid hg0
  have HG1 := mkHid hg1
  have HCD : Hid (cd ≤ 128) := mkHid (by rw [← hcd]; exact card_le s)
  clear hg0 hg1 hcd ht
  refine callsIn_of_wp_marks Tryd.func35 rfl trivial ?_ rfl
  simp only [Tryd.ntmps35, List.size_toArray, List.length_cons, List.length_nil, Nat.reduceAdd, Nat.reduceSub, Array.replicate_succ, Array.replicate_zero, List.push_toArray, List.append_toArray, List.nil_append, List.cons_append]
  gi_wp2_with (first
    | (refine ⟨trivial, ?_⟩; gi_at_call 33; refine (callsIn_wide.2 (CL.out _)).mono ?_; rintro e w1 ⟨rfl, hb⟩; have hO := HT.out.next hb; obtain ⟨p1, p2, -, -⟩ := hO.h1; have hz := hO.h1.lt; have hb2 := hb.size; simp at hb2; clear hb)
    | (refine ⟨trivial, ?_⟩; gi_at_call 45; refine (callsIn_wide.2 (each_any a0 a1 _)).mono ?_; rintro e w2 ⟨rfl, rfl⟩))
  have hOl := hO.alloc (.cells (madeCells #[Value.int IntKind.i64 0] cd) 3)
  have bO := Boxed.new (w1.alloc (.cells (madeCells #[Value.int IntKind.i64 0] cd) 3)) 22 (.slice (some ⟨w1.heap.size, 0, none⟩) 0 cd)
  rw [World.size_alloc] at bO
  have hOb := hOl.alloc (.cells #[.slice (some ⟨w1.heap.size, 0, none⟩) 0 cd] 22)
  have hOc := hOb.alloc (.cells #[.int .u64 a0, .int .u64 a1] 26)
  have hAc := AtS.new ((w1.alloc (.cells (madeCells #[Value.int IntKind.i64 0] cd) 3)).alloc (.cells #[.slice (some ⟨w1.heap.size, 0, none⟩) 0 cd] 22)) (w1.heap.size + 1 + 1) a0 a1 26 (by simp)
  have hrow := World.ownsRow_made (base := w.heap.size) (e := 3) (size := 1) w1 (madeCells #[Value.int IntKind.i64 0] cd) cd (by omega) (by have := HCD.out; unfold maxLen; omega) (by rw [size_madeCells, Nat.mul_one])
  have hst := each_stops (n - 1) (by omega) (w1.heap.size + 1 + 1) w.heap.size s _ (by rw [HG0.out, HG1.out]; exact hAc) hOc.tab HG.out
  refine wpIn_rangeFunc_ownG rfl h1 (gf := 47) (lb := #[.pointer (some ⟨w1.heap.size + 1 + 1, 0, none⟩)]) rfl trivial (enters_of Tryd.func47 (by kernel_rfl) rfl)
    hst belowK_t (belowK_b (by simp; omega)) (Below.refl _ _) (fun _ => rfl)
    (fun pre W => (∃ v, Boxed W (w1.heap.size + 1) 22 v ∧ W.ownsRow w.heap.size 3 1 v pre.length (pre.map (Value.int .i64)) ∧ True) ∧ Below w.heap.size w W)
    (fun _ _ _ => False)
    (OwnFrom.and (Own.from (holdsRow_own w.heap.size (w1.heap.size + 1) 22 3 1 (fun pre : List Int => pre.length) (fun pre => pre.map (Value.int .i64)) (fun _ _ => True)) _) (ownFrom_below (Nat.le_refl _) (by simp; omega)))
    (fun _ _ _ _ _ hs _ _ => hs)
    ⟨⟨_, bO.alloc _, (hrow.alloc _).alloc _, trivial⟩, hOc.below⟩
    (fun x => { tmps := #[Value.agg #[Value.int IntKind.u64 a0, Value.int IntKind.u64 a1],
          Value.pointer (some { block := w.heap.size, off := 0 }), Value.slice none 0 0,
          Value.pointer (some { block := w1.heap.size + 1, off := 0 }), .int .i64 x,
          Value.agg #[Value.int IntKind.u64 a0, Value.int IntKind.u64 a1], Value.int IntKind.i64 (cd : Int),
          Value.slice (some { block := w1.heap.size, off := 0 }) 0 cd,
          Value.agg #[Value.int IntKind.u64 a0, Value.int IntKind.u64 a1],
          Value.func (Fn.func 47) #[] #[Value.pointer (some { block := w1.heap.size + 1 + 1, off := 0 })], .int .i64 x, undef,
          undef, undef, undef, undef], defers := [] }) ?assign ?body ?done ?stop
  case assign =>
    intro l x W K hK
    gi_wp2
    exact hK
  case body =>
    rintro l pre x W ⟨⟨v, hv, hrow, _⟩, hB⟩ hlt
    have hc := hv.cell
    have hlt2 : pre.length < 128 := Nat.lt_of_lt_of_le hlt hN
    gi_wp2_with (gi_at_builtin; refine wpListIn_append_own _ rfl _ _ 22 rfl w.heap.size 3 i0 (.int .i64 0) 1 8 Tryd.underlying22 hi hz0 hz1 hz2 rfl (by decide) _ _ _ rfl (hrow.alloc _) ⟨W.heap.size, 0, none⟩ 1 1 [.int .i64 x] rfl rfl (cell_one_new _ _ _) (by simp [Value.oneCell']) (by unfold maxLen; omega) (by omega) (by have := hB.size; simp; omega) ?_; intro v' w2 hown' hgrow _; obtain ⟨g', cap', rfl⟩ := ownsRow_succ hown'; obtain ⟨hv1, hv2, hr2, hk2, hb2⟩ := hv.appended (by decide) hrow hB.size (by omega) hown' hgrow; have hc1 := hv1.cell; have hf1 := hv1.frozen)
    exact ⟨hk2.from _, hb2, ⟨_, hv2, by simpa using hr2, trivial⟩, hB.trans hb2⟩
  case done =>
    rintro D ys W hD rfl ⟨⟨v, hv, hrow, _⟩, hB⟩ hK
    have hc := hv.cell
    gi_wp2
    refine ⟨by simp, .inl ⟨_, _, rfl, run_takeDeferred hK, ?_⟩⟩
    exact ⟨_, results_tmp rfl _ _ _, v, rfl, mkHid ⟨ownsRow_putObj hrow _ hK rfl, hB.trans (belowK_b (w := w) (Nat.le_refl _) W D _ _ (by simp at hD; omega) hK rfl rfl)⟩⟩
  case stop =>
    rintro D c pre W _ _ h _
    exact h.elim

theorem listV_any (s : BitVec 128) (w : World) (ht : Tab w) :
    Calls Tryd.prog 35 #[sv s] w fun e W' => ∃ v, e = .returned v ∧ Hid (Own W' w.heap.size v (lst s 128) ∧ Below w.heap.size w W') :=
  (callsIn_wide (n := 3)).1 (listV_in 3 (by omega) s w ht)
end Go.Proofs.YtpfappojeneecaaDoor
