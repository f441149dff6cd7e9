/- Contracts: finder and Subsumes. -/
import Derived.Test.YtniagnbeeebobaaLA
import Derived.Maps.OwnOps
import Derived.Maps.Views
import Derived.Laws.EntriesVeiled
namespace Go.Proofs.Ytniagnbeeebobaa
open Go.RowKit VM LM

theorem contains_cells (v : Value) (l : List Int) (x : Int) (w : World) (hv : Ints w v l) (hlen : l.length ≤ 1000000) :
    Calls Try.prog 44 #[v, .int .i64 x] w fun e w' => e = .returned (.bool (l.contains x)) ∧ w' = w := by
  rcases hv with ⟨rfl, ao, cap, rfl⟩ | ⟨b, off, cap, rfl, h3⟩
  · exact Try.slices_Contains_int_empty ao cap x w
  · have h := Try.slices_Contains_int b off l.length cap l x w (Nat.le_refl _) (by omega) (fun j hj => by
      rw [h3 j l[j] (List.getElem?_eq_getElem hj)]; simp [List.getD, List.getElem?_eq_getElem hj])
    rwa [List.take_length] at h

/-- The map of the numbers of l. -/
def mapOf (l : List Int) : DataW Unit := Maps.setOf (.lit (.bool true)) (l.map (Lit.int .i64))
theorem law : Maps.Keyed Try.prog 3 := Maps.int_keyed Try.underlying3
theorem zeroB (w : World) : (zeroValue 4).run Try.prog w = .ok (.bool false) w := by kernel_rfl
theorem plainElem_bool_inv {v : Value} {z : DataW Unit × List MemPlace} (h : plainElem Try.prog 4 v = some z) : ∃ c, v = .bool c ∧ z = (.lit (.bool c), []) := by
  unfold plainElem at h
  rw [Try.underlying4] at h
  cases v <;> simp at h
  exact ⟨_, rfl, h.symm⟩
theorem keyLit (x : Int) : WideAt.IsKeyLit (Lit.int .i64 x) := by
  simp [WideAt.IsKeyLit]
theorem at_fold (x : Int) : ∀ (l : List Int) (m : DataW Unit), Maps.IsMap m → ((l.map (Lit.int .i64)).foldl (fun m x => m.put x (.lit (.bool true))) m).atKey (.int .i64 x) (.lit (.bool false)) = if l.contains x then .lit (.bool true) else m.atKey (.int .i64 x) (.lit (.bool false)) := by
  intro l
  induction l with
  | nil => intro m _; rfl
  | cons y l ih =>
    intro m hm
    rw [List.map_cons, List.foldl_cons, ih _ (hm.put _ _)]
    by_cases hl : l.contains x = true
    · rw [if_pos hl, if_pos (by simp at hl ⊢; exact .inr hl)]
    · rw [if_neg hl]
      by_cases hy : x = y
      · subst hy
        rw [Maps.atKey_put_same hm (keyLit x), if_pos (by simp)]
      · rw [Maps.atKey_put_other (by intro e; injection e with _ e2; exact hy e2), if_neg (by simp at hl ⊢; exact ⟨hy, hl⟩)]
theorem mapOf_at (l : List Int) (x : Int) : (mapOf l).atKey (.int .i64 x) (.lit (.bool false)) = .lit (.bool (l.contains x)) := by
  unfold mapOf Maps.setOf
  rw [at_fold x l _ Maps.isMap_empty]
  cases l.contains x <;> rfl
theorem mapOf_snoc (l : List Int) (x : Int) : mapOf (l ++ [x]) = (mapOf l).put (.int .i64 x) (.lit (.bool true)) := by
  unfold mapOf
  rw [List.map_append, List.map_cons, List.map_nil, Maps.setOf_snoc]
theorem wf64 {x : Int} (h : In64 x) : (Lit.int .i64 x).wf = true := by
  unfold In64 at h
  simp [Lit.wf, IntKind.min, IntKind.max, IntKind.signed, IntKind.bits]; omega
def HasMap (w : World) (b n : Nat) (l : List Int) : Prop := w.ownsMap Try.prog 3 (plainElem Try.prog 4) b n (mapOf l)
theorem HasMap.look {w : World} {b n : Nat} {l : List Int} (h : HasMap w b n l) {x : Int} (hx : In64 x) : (Instr.lookup 58 (.map (some b)) (.int .i64 x) false).run Try.prog w = .ok (.bool (l.contains x)) w := by
  obtain ⟨v, ps, hrun, hv⟩ := World.ownsMap.lookup h law Try.underlying58 (zeroB w) (plainElem_bool Try.underlying4 false) (Maps.keyOf_int_mk Try.underlying3 (wf64 hx))
  obtain ⟨c, rfl, hz⟩ := plainElem_bool_inv hv
  rw [mapOf_at] at hz
  simp only [Prod.mk.injEq, DataW.lit.injEq, Lit.bool.injEq] at hz
  rw [hrun, ← hz.1]
theorem HasMap.below {w w' : World} {b n : Nat} {l : List Int} (h : HasMap w b n l) (hb : Below w.heap.size w w') : HasMap w' b n l := by
  have hlt := World.ownsMap.lt h
  obtain ⟨es, clock, hc, r⟩ := h
  exact ⟨es, clock, (hb.block b hlt).trans hc, r⟩

set_option maxRecDepth 100000 in
set_option maxHeartbeats 2000000 in
theorem finder1_any (v : Value) (d : List Int) (x : Int) (B : Nat) (w : World) (hc : w.cell? ⟨B, 0, none⟩ = some v) (hv : Ints w v d) (hlen : d.length ≤ 1000000) :
    Calls Try.prog 60 #[.int .i64 x, .pointer (some ⟨B, 0, none⟩)] w fun e w' => e = .returned (.bool (d.contains x)) ∧ w' = w := by
  have C := mkHid (contains_cells v d x w hv hlen)
  obtain ⟨ao, cap, rfl⟩ := hv.form
  clear hv
  generalize d.contains x = r at *
  go_enter Try.func60, Try.ntmps60
  go_wp2_with (go_at_call 44; refine C.out.mono ?_; rintro e w2 ⟨rfl, rfl⟩)
  go_ret
  exact ⟨rfl, rfl⟩
set_option maxRecDepth 100000 in
set_option maxHeartbeats 2000000 in
theorem finder2_any (d : List Int) (x : Int) (B M n : Nat) (w : World) (hc : w.cell? ⟨B, 0, none⟩ = some (.map (some M))) (hm : HasMap w M n d) (hx : In64 x) :
    Calls Try.prog 61 #[.int .i64 x, .pointer (some ⟨B, 0, none⟩)] w fun e w' => e = .returned (.bool (d.contains x)) ∧ w' = w := by
  have C := hm.look hx
  clear hm hx
  generalize d.contains x = r at *
  go_enter Try.func61, Try.ntmps61
  go_wp2
  go_ret
  exact ⟨rfl, rfl⟩

theorem make_map (n : Nat) (w : World) : (Instr.makeMap 58 (some (.int .i64 (n : Int)))).run Try.prog w = .ok (.map (some w.heap.size)) (w.alloc (.map #[] 0)) := by
  have hu := Try.underlying3
  simp [Instr.makeMap, asInt, asIntOf, Result.andThen, go_sem]
theorem HasMap.new (w : World) : HasMap (w.alloc (.map #[] 0)) w.heap.size 0 [] := World.ownsMap_made _ _ _ _
theorem eg1 : ∀ args w, (callFunc 60 args).run Try.prog w = .ok (.enter 60 args) w := enters_of Try.func60 (by kernel_rfl) rfl
theorem eg2 : ∀ args w, (callFunc 61 args).run Try.prog w = .ok (.enter 61 args) w := enters_of Try.func61 (by kernel_rfl) rfl
theorem eg3 : ∀ args w, (callFunc 48 args).run Try.prog w = .ok (.enter 48 args) w := enters_of Try.func48 (by kernel_rfl) rfl

/-- A function value that answers, from w on, whether a number is in d. -/
def Asks (g : Nat) (lb : Array Value) (d : List Int) (w : World) : Prop :=
  (∀ args w, (callFunc g args).run Try.prog w = .ok (.enter g args) w) ∧ ∀ W (x : Int), In64 x → Below w.heap.size w W → Calls Try.prog g (#[.int .i64 x] ++ lb) W fun e w' => e = .returned (.bool (d.contains x)) ∧ w' = W
theorem cell_new (w : World) (v : Value) (t : TypeId) : (w.alloc (.cells #[v] t)).cell? ⟨w.heap.size, 0, none⟩ = some v := by
  have hb : (w.alloc (.cells #[v] t)).heap[w.heap.size]? = some (.cells #[v] t (0, 0)) := heap_alloc_new w _
  simp only [World.cell?, hb]; rfl

set_option maxRecDepth 100000 in
set_option maxHeartbeats 2000000 in
theorem finder_small (v : Value) (d : List Int) (w : World) (hv : Ints w v d) (hlen : d.length ≤ 128) :
    Calls Try.prog 47 #[v] w fun e w' => ∃ g lb, e = .returned (.func (.func g) #[] lb) ∧ Hid (Asks g lb d w') ∧ Below w.heap.size w w' := by
  have HB := mkHid (bal (Below.refl _ w) (.cells #[v] 25))
  have HA : Hid (Asks 60 #[.pointer (some ⟨w.heap.size, 0, none⟩)] d (w.alloc (.cells #[v] 25))) := mkHid ⟨eg1, fun W x _ hb =>
    finder1_any v d x w.heap.size W (cell_grows hb (cell_new w v _)) ((hv.next HB.out).next hb) (by omega)⟩
  obtain ⟨ao, cap, rfl⟩ := hv.form
  clear hv
  have hl : (d.length : Int) ≤ 128 := by omega
  generalize d.length = m at *
  go_enter Try.func47, Try.ntmps47
  go_wp2
  go_ret
  exact ⟨_, _, rfl, HA, HB.out⟩

structure Filled (w wr : World) (v : Value) (k : Nat) (l : List Int) : Prop where
  map : HasMap wr (w.heap.size + 1) k l
  ptr : wr.cell? ⟨w.heap.size + 1 + 1, 0, none⟩ = some (.map (some (w.heap.size + 1)))
  box : wr.cell? ⟨w.heap.size, 0, none⟩ = some v
  below : Below w.heap.size w wr
theorem Filled.start (w : World) (v : Value) (t1 t2 : TypeId) : Filled w (((w.alloc (.cells #[v] t1)).alloc (.map #[] 0)).alloc (.cells #[.map (some (w.heap.size + 1))] t2)) v 0 [] := by
  have s1 : (w.alloc (.cells #[v] t1)).heap.size = w.heap.size + 1 := by simp
  have s2 : ((w.alloc (.cells #[v] t1)).alloc (.map #[] 0)).heap.size = w.heap.size + 1 + 1 := by simp
  refine ⟨?_, ?_, ?_, bal (bal (bal (Below.refl _ _) _) _) _⟩
  · have h1 := HasMap.new (w.alloc (.cells #[v] t1))
    rw [s1] at h1
    exact h1.below (bal (Below.refl _ _) _)
  · have hc := cell_new ((w.alloc (.cells #[v] t1)).alloc (.map #[] 0)) (.map (some (w.heap.size + 1))) t2
    rwa [s2] at hc
  · exact cell_grows (bal (bal (Below.refl _ _) _) _) (cell_new w v t1)
theorem Filled.step {w wr w' : World} {v : Value} {l : List Int} {k n : Nat} {x : Int} (h : Filled w wr v k l) (hm : w'.ownsMap Try.prog 3 (plainElem Try.prog 4) (w.heap.size + 1) n ((mapOf l).put (.int .i64 x) (.lit (.bool true)))) (hg : wr.grownBy w' (some (w.heap.size + 1))) : Filled w w' v n (l ++ [x]) := by
  have hs := h.below.size
  have l1 := World.block_lt_of_cell? wr _ h.ptr
  have l0 := World.block_lt_of_cell? wr _ h.box
  have hb : Below w.heap.size w w' := h.below.grown hg hs (fun j hj => by cases hj; omega)
  refine ⟨?_, ?_, ?_, hb⟩
  · unfold HasMap; rw [mapOf_snoc]; exact hm
  · exact (World.cell?_of_block (a := ⟨w.heap.size + 1 + 1, 0, none⟩) (hg.block _ l1 (by simp))).trans h.ptr
  · exact (World.cell?_of_block (a := ⟨w.heap.size, 0, none⟩) (hg.block _ l0 (by simp))).trans h.box

set_option maxRecDepth 100000 in
set_option maxHeartbeats 2000000 in
theorem finder_large (v : Value) (d : List Int) (w : World) (hv : Ints w v d) (hlen : 128 < d.length) (hl2 : d.length ≤ 1000000) (h64 : ∀ x ∈ d, In64 x) :
    Calls Try.prog 47 #[v] w fun e w' => ∃ g lb, e = .returned (.func (.func g) #[] lb) ∧ Hid (Asks g lb d w') ∧ Below w.heap.size w w' := by
  have HS := mkHid (fun a => Filled.start w v a 58)
  have hmm := make_map
  have H64 := mkHid h64
  have HV := mkHid hv
  have HAK : Hid (∀ k l wr, l = d → Filled w wr v k l → Asks 61 #[.pointer (some ⟨w.heap.size + 1 + 1, 0, none⟩)] d wr) := mkHid (fun k l wr e h => ⟨eg2, fun W x hx hb => by
    subst e
    exact finder2_any l x _ _ k W (cell_grows hb h.ptr) (h.map.below hb) hx⟩)
  obtain ⟨ao, cap, rfl, hc⟩ := hv.uni
  have HC := mkHid hc
  clear hv h64 hc
  have hl : ¬ (d.length : Int) ≤ 128 := by omega
  go_enter Try.func47, Try.ntmps47
  go_wp2
  go_loopw [15] (fun iv wr => ∃ k : Nat, k ≤ d.length ∧ iv = .int .i64 (k : Int) ∧ Hid (Filled w wr (.slice ao d.length cap) k (d.take k))) (fun iv _ => d.length - (intOf iv).toNat)
  case atStart => exact ⟨0, Nat.zero_le _, rfl, mkHid (by rw [List.take_zero]; exact HS.out _)⟩
  case round =>
    obtain ⟨k, hk, rfl, H⟩ := hrel
    clear HS
    have hptr := H.out.ptr
    have hbox := H.out.box
    by_cases hlt : k < d.length
    · obtain ⟨y, hy⟩ : ∃ y, d[k]? = some y := ⟨d[k], List.getElem?_eq_getElem hlt⟩
      obtain ⟨b, off, rfl, hcx0⟩ := HC.out k y hy
      have hcx := cell_grows H.out.below hcx0
      have hk1 : (k : Int) < (d.length : Int) := by omega
      have HY : Hid (d.take (k + 1) = d.take k ++ [y]) := mkHid (by rw [List.take_add_one, hy]; rfl)
      have hkey := Maps.keyOf_int_mk Try.underlying3 (wf64 (H64.out y (List.mem_of_getElem? hy)))
      have hown : wr.ownsMap Try.prog 3 (plainElem Try.prog 4) (w.heap.size + 1) k (mapOf (d.take k)) := H.out.map
      clear hy hcx0
      go_wp2_with (at_mapUpdate; refine wpList_mapUpdate_own _ rfl _ _ _ 58 rfl 3 4 law Try.underlying58 _ _ k _ rfl hown (by unfold maxLen; omega) _ _ _ rfl rfl hkey _ [] (plainElem_bool Try.underlying4 _) ?_; intro w1 hown1 hgrow1; have HF := mkHid (H.out.step hown1 hgrow1); clear hown1 hgrow1)
      go_roundw
      case rel => exact ⟨k + 1, by omega, by go_num, mkHid (by rw [HY.out]; exact HF.out)⟩
      case measure => simp [intOf]; omega
    · have hk1 : ¬ (k : Int) < (d.length : Int) := by omega
      have HT : Hid (d.take k = d) := mkHid (by rw [show k = d.length by omega, List.take_length])
      go_wp2
      go_ret
      exact ⟨_, _, rfl, mkHid (HAK.out k _ _ HT.out H.out), H.out.below⟩

theorem finder_any (v : Value) (d : List Int) (w : World) (hv : Ints w v d) (hl2 : d.length ≤ 1000000) (h64 : ∀ x ∈ d, In64 x) :
    Calls Try.prog 47 #[v] w fun e w' => ∃ g lb, e = .returned (.func (.func g) #[] lb) ∧ Hid (Asks g lb d w') ∧ Below w.heap.size w w' := by
  by_cases h : d.length ≤ 128
  · exact finder_small v d w hv h
  · exact finder_large v d w hv (by omega) hl2 h64

set_option maxRecDepth 100000 in
set_option maxHeartbeats 2000000 in
theorem subs1_any (g : Nat) (lb : Array Value) (d : List Int) (x : Int) (B : Nat) (w0 w : World) (hA : Asks g lb d w0) (hb : Below w0.heap.size w0 w) (hc : w.cell? ⟨B, 0, none⟩ = some (.func (.func g) #[] lb)) (hx : In64 x) :
    Calls Try.prog 48 #[.int .i64 x, .pointer (some ⟨B, 0, none⟩)] w fun e w' => e = .returned (.bool (!d.contains x)) ∧ w' = w := by
  have hcall := hA.2 w x hx hb
  have eg := hA.1
  clear hA hb hx
  generalize d.contains x = r at *
  go_enter Try.func48, Try.ntmps48
  go_wp2_with (go_at_fn g; refine hcall.mono ?_; rintro e w' ⟨rfl, rfl⟩)
  go_ret
  exact ⟨rfl, rfl⟩

set_option maxRecDepth 100000 in
set_option maxHeartbeats 2000000 in
theorem subs_any (v u : Value) (c d : List Int) (w : World) (hv : Ints w v c) (hu : Ints w u d) (hlen : c.length ≤ 1000000) (hd : d.length ≤ 1000000) (h64 : ∀ x ∈ c, In64 x) (hd64 : ∀ x ∈ d, In64 x) :
    Calls Try.prog 31 #[v, u] w fun e w' => e = .returned (.bool (subsL c d)) ∧ Below w.heap.size w w' := by
  have CF := mkHid (finder_any u d w hu hd hd64)
  have CC := mkHid (fun (w2 : World) (g : Nat) (lb : Array Value) (hA : Hid (Asks g lb d w2)) (hb2 : Below w.heap.size w w2) =>
    contains_any 48 #[.pointer (some ⟨w2.heap.size, 0, none⟩)] eg3 (fun x => !d.contains x) v c (w2.alloc (.cells #[.func (.func g) #[] lb] 46)) (hv.next (bal hb2 _)) hlen (fun W x hb hx =>
      (subs1_any g lb d x w2.heap.size w2 W hA.out (bnx (bal (Below.refl _ _) _) hb) (cell_grows hb (cell_new w2 _ _)) (h64 x hx)).mono fun e w' ⟨he, hw⟩ => ⟨he, by rw [hw]; exact hb⟩))
  have HE : Hid (subsL c d = !c.any fun x => !d.contains x) := mkHid (by unfold subsL; rw [List.all_eq_not_any_not])
  rw [HE.out]
  obtain ⟨ao, cap, rfl⟩ := hv.form
  obtain ⟨ao2, cap2, rfl⟩ := hu.form
  clear hv hu h64 hd64 HE
  generalize (c.any fun x => !d.contains x) = r at *
  go_enter Try.func31, Try.ntmps31
  go_wp2_with (first
    | (go_at_call 47; refine CF.out.mono ?_; rintro e w2 ⟨g, lb, rfl, hA, hb⟩; have HB := mkHid hb; have C2 := mkHid (CC.out w2 g lb hA hb); clear hA hb)
    | (go_at_call 41; refine C2.out.mono ?_; rintro e w3 ⟨rfl, hb⟩))
  go_ret
  exact ⟨rfl, bnx (bal HB.out _) hb⟩
end Go.Proofs.Ytniagnbeeebobaa
