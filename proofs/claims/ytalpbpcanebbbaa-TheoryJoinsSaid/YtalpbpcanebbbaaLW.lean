/- Walks over literals: the base, and the contract of vars.Has. -/
import Derived.Test.YtalpbpcanebbbaaProg
import Derived.Test.YtalpbpcanebbbaaVM
import Derived.WalkKit
import Derived.WalkSpells
import Derived.WalkLawsBesides
import Derived.Lib.Hide
import Derived.Laws.Externs
import Derived.StillTailTactics
import Derived.Deep.QuietTactic
import Derived.BigQuiet
import Derived.Handy
import Derived.Deep.Draws
import Derived.IntWalk
import Derived.ChangeKeysEq
import Derived.Laws.AppendOwn
import Derived.LoopTactic
import Derived.RegionTactic
import Derived.BigRegion
import Derived.ProofKit
import Derived.Lib.ItoaMem
namespace Go.Proofs.Ytalpbpcanebbbaa
open Go.RowKit VM

theorem mkHid {p : Prop} (h : p) : Hid p := h
/-- A set as the model has it. -/
def sv (s : BitVec 128) : Value := .agg #[.int .u64 (wd (lo s)), .int .u64 (wd (hi s))]

theorem bal {w w' : World} (h : Below w.heap.size w w') (o : Obj) : Below w.heap.size w (w'.alloc o) := h.alloc h.size o
theorem bdr {w w' : World} (h : Below w.heap.size w w') (n : Nat) : Below w.heap.size w (w'.drewN n) := ⟨h.os, h.tape, h.output, h.size, h.block⟩
theorem bst {w w' : World} (h : Below w.heap.size w w') {p : Addr} (hp : w.heap.size ≤ p.block) (u : Value) : Below w.heap.size w (w'.setCell p u) := h.setCell hp u
theorem bnx {w w' w2 : World} (h : Below w.heap.size w w') (k : Below w'.heap.size w' w2) : Below w.heap.size w w2 := h.trans (k.mono h.size)

set_option maxRecDepth 100000 in
set_option maxHeartbeats 1000000 in
theorem place_none (v : Int) (w : World) (hv : ¬ (1 ≤ v ∧ v ≤ 128)) :
    Calls Try.prog 84 #[.int .i64 v] w fun e w' => e = .returned (.tuple #[.int .i64 0, .int .u64 0]) ∧ w = w' := by
  by_cases h1 : v < 1
  · go_enter Try.func84, Try.ntmps84
    go_wp2
    go_ret2
    exact ⟨rfl, rfl⟩
  · have h2 : 128 < v := by omega
    go_enter Try.func84, Try.ntmps84
    go_wp2
    go_ret2
    exact ⟨rfl, rfl⟩

set_option maxRecDepth 100000 in
set_option maxHeartbeats 1000000 in
theorem place_some (v : Int) (w : World) (h1 : 1 ≤ v) (h2 : v ≤ 128) :
    Calls Try.prog 84 #[.int .i64 v] w fun e w' => e = .returned (.tuple #[.int .i64 ((v - 1) / 64), .int .u64 (2 ^ ((v - 1) % 64).toNat)]) ∧ ∃ n, w' = w.drewN n := by
  have h3 : ¬ v < 1 := by omega
  have h4 : ¬ 128 < v := by omega
  have e1 : IntKind.i64.wrap (v - 1) = v - 1 := IntWalk.i64_in _ (by omega)
  have e2 : (0:Int) ≤ v - 1 := by omega
  have e3 : IntKind.u64.wrap (2 ^ ((v - 1) % 64).toNat) = 2 ^ ((v - 1) % 64).toNat := by
    have h5 : ((v - 1) % 64).toNat < 64 := by omega
    have h6 : 2 ^ ((v - 1) % 64).toNat < 2 ^ 64 := Nat.pow_lt_pow_right (by omega) h5
    have h7 : ((2 : Int) ^ ((v - 1) % 64).toNat) = ((2 ^ ((v - 1) % 64).toNat : Nat) : Int) := by simp
    rw [IntKind.wrap_u64, h7]
    generalize 2 ^ ((v - 1) % 64).toNat = m at *
    omega
  go_enter Try.func84, Try.ntmps84
  go_wp2
  go_quiet (fail)
  go_wp2
  go_ret2
  exact ⟨rfl, _, rfl⟩

/-- place, where the bit lies in the first word, or nowhere. -/
theorem place_low (v : Int) (w : World) (h : ¬ (65 ≤ v ∧ v ≤ 128)) :
    Calls Try.prog 84 #[.int .i64 v] w fun e w' => e = .returned (.tuple #[.int .i64 0, .int .u64 (wd (lo (bit v)))]) ∧ ∃ n, w' = w.drewN n := by
  by_cases h1 : 1 ≤ v ∧ v ≤ 128
  · refine (place_some v w h1.1 h1.2).mono fun e w' ⟨he, hw⟩ => ⟨?_, hw⟩
    rw [he, lo_low v h1.1 (by omega), show (v - 1) / 64 = 0 by omega, show (v - 1) % 64 = v - 1 by omega]
  · refine (place_none v w h1).mono fun e w' ⟨he, hw⟩ => ⟨?_, 0, hw ▸ rfl⟩
    rw [he, bit_none v h1, lo_zero, wd_zero]
theorem place_high (v : Int) (w : World) (h : 65 ≤ v ∧ v ≤ 128) :
    Calls Try.prog 84 #[.int .i64 v] w fun e w' => e = .returned (.tuple #[.int .i64 1, .int .u64 (wd (hi (bit v)))]) ∧ ∃ n, w' = w.drewN n := by
  refine (place_some v w (by omega) h.2).mono fun e w' ⟨he, hw⟩ => ⟨?_, hw⟩
  rw [he, hi_high v h.1 h.2, show (v - 1) / 64 = 1 by omega, show (v - 1) % 64 = v - 65 by omega]

set_option maxRecDepth 100000 in
set_option maxHeartbeats 1000000 in
theorem has_any (s : BitVec 128) (v : Int) (w : World) :
    Calls Try.prog 61 #[sv s, .int .i64 v] w fun e w' => e = .returned (.bool (has s v)) ∧ Below w.heap.size w w' := by
  unfold sv
  by_cases h : 65 ≤ v ∧ v ≤ 128
  · have C := mkHid (fun w => place_high v w h)
    have h1 := and_wd (hi s) (hi (bit v))
    have h0 := dz (hi s &&& hi (bit v))
    rw [has_high s v h.1, h0]
    clear h h0
    generalize wd (lo s) = al at *
    generalize wd (hi s) = ah at *
    generalize wd (hi (bit v)) = m at *
    generalize wd (hi s &&& hi (bit v)) = ch at *
    go_enter Try.func61, Try.ntmps61
    go_wp2_with (go_at_call 84; refine (C.out _).mono ?_; rintro e w2 ⟨rfl, n, rfl⟩)
    go_ret
    exact ⟨rfl, bdr (bal (Below.refl _ _) _) _⟩
  · have C := mkHid (fun w => place_low v w h)
    have h1 := and_wd (lo s) (lo (bit v))
    have h0 := dz (lo s &&& lo (bit v))
    rw [has_low s v h, h0]
    clear h h0
    generalize wd (lo s) = al at *
    generalize wd (hi s) = ah at *
    generalize wd (lo (bit v)) = m at *
    generalize wd (lo s &&& lo (bit v)) = ch at *
    go_enter Try.func61, Try.ntmps61
    go_wp2_with (go_at_call 84; refine (C.out _).mono ?_; rintro e w2 ⟨rfl, n, rfl⟩)
    go_ret
    exact ⟨rfl, bdr (bal (Below.refl _ _) _) _⟩


/-- Two cells of the call's own that hold a set's words. -/
def AtS (w : World) (b : Nat) (x y : Int) : Prop :=
  w.cell? ⟨b, 0, none⟩ = some (.int .u64 x) ∧ w.cell? ⟨b, 1, none⟩ = some (.int .u64 y) ∧ w.frozen? ⟨b, 0, none⟩ = false ∧ w.frozen? ⟨b, 1, none⟩ = false
theorem AtS.lt {w : World} {b : Nat} {x y : Int} (H : AtS w b x y) : b < w.heap.size := World.block_lt_of_cell? w _ H.1
theorem AtS.same {w w' : World} {b : Nat} {x y : Int} (H : AtS w b x y) (e : w'.heap[b]? = w.heap[b]?) : AtS w' b x y :=
  ⟨(World.cell?_of_block (a := ⟨b, 0, none⟩) e).trans H.1, (World.cell?_of_block (a := ⟨b, 1, none⟩) e).trans H.2.1, (World.frozen?_of_block (a := ⟨b, 0, none⟩) e).trans H.2.2.1, (World.frozen?_of_block (a := ⟨b, 1, none⟩) e).trans H.2.2.2⟩
theorem AtS.grows {w w' : World} {b : Nat} {x y : Int} (H : AtS w b x y) (hb : Below w.heap.size w w') : AtS w' b x y := H.same (hb.block b H.lt)
theorem AtS.alloc {w : World} {b : Nat} {x y : Int} (H : AtS w b x y) (o : Obj) : AtS (w.alloc o) b x y := H.grows (bal (Below.refl _ _) o)
theorem AtS.drewN {w : World} {b : Nat} {x y : Int} (H : AtS w b x y) (n : Nat) : AtS (w.drewN n) b x y := H
theorem AtS.drew {w : World} {b : Nat} {x y : Int} (H : AtS w b x y) : AtS w.drew b x y := H
theorem AtS.new (w : World) (n : Nat) (x y : Int) (t : TypeId) (hn : n = w.heap.size) : AtS (w.alloc (.cells #[.int .u64 x, .int .u64 y] t)) n x y := by
  subst hn
  have hb : (w.alloc (.cells #[.int .u64 x, .int .u64 y] t)).heap[w.heap.size]? = some (.cells #[.int .u64 x, .int .u64 y] t (0, 0)) := heap_alloc_new w _
  refine ⟨?_, ?_, ?_, ?_⟩
  · simp only [World.cell?, hb]; rfl
  · simp only [World.cell?, hb]; rfl
  · simp only [World.frozen?, hb]; rfl
  · simp only [World.frozen?, hb]; rfl
theorem AtS.set {w : World} {b : Nat} {x y : Int} (H : AtS w b x y) (x' y' : Int) : AtS ((w.setCell ⟨b, 0, none⟩ (.int .u64 x')).setCell ⟨b, 1, none⟩ (.int .u64 y')) b x' y' := by
  obtain ⟨h0, h1, f0, f1⟩ := H
  have hc : ∃ c e fr, w.heap[b]? = some (.cells c e fr) := by
    unfold World.cell? at h0
    split at h0
    · rename_i c e fr hb; exact ⟨c, e, fr, hb⟩
    · simp at h0
  obtain ⟨c, e, fr, hb⟩ := hc
  have hb' : ((w.setCell ⟨b, 0, none⟩ (.int .u64 x')).setCell ⟨b, 1, none⟩ (.int .u64 y')).heap[b]? = some (.cells ((c.setIfInBounds 0 (.int .u64 x')).setIfInBounds 1 (.int .u64 y')) e fr) := by
    simp [World.setCell, Array.getElem?_modify, hb]
  simp only [World.cell?, hb] at h0 h1
  simp only [World.frozen?, hb] at f0 f1
  have g0 : c[0]? = some (.int .u64 x) := by simpa using h0
  have g1 : c[1]? = some (.int .u64 y) := by simpa using h1
  have l0 := (Array.getElem?_eq_some_iff.1 g0).1
  have l1 := (Array.getElem?_eq_some_iff.1 g1).1
  refine ⟨?_, ?_, ?_, ?_⟩
  · simp only [World.cell?, hb', Array.getElem?_setIfInBounds]; simp [l0]
  · simp only [World.cell?, hb', Array.getElem?_setIfInBounds]; simp [l1]
  · simp only [World.frozen?, hb']; exact f0
  · simp only [World.frozen?, hb']; exact f1
theorem AtS.setOff {w : World} {b b' : Nat} {x y : Int} (H : AtS w b x y) (hne : b ≠ b') (u v : Value) : AtS ((w.setCell ⟨b', 0, none⟩ u).setCell ⟨b', 1, none⟩ v) b x y :=
  H.same ((Below.heap_setCell _ _ _ _ hne).trans (Below.heap_setCell _ _ _ _ hne))
theorem bst2 {w W : World} (h : Below w.heap.size w W) (b : Nat) (hb : w.heap.size ≤ b) (x y : Value) : Below w.heap.size w ((W.setCell ⟨b, 0, none⟩ x).setCell ⟨b, 1, none⟩ y) :=
  (h.setCell (p := ⟨b, 0, none⟩) hb _).setCell (p := ⟨b, 1, none⟩) hb _
theorem cell_grows {W w' : World} (hb : Below W.heap.size W w') {b o : Nat} {v : Value} (h : W.cell? ⟨b, o, none⟩ = some v) : w'.cell? ⟨b, o, none⟩ = some v :=
  (hb.cell (p := ⟨b, o, none⟩) (World.block_lt_of_cell? W _ h)).trans h

/-- A slice of ints: empty, or cells. -/
def Ints (w : World) (v : Value) (l : List Int) : Prop :=
  (l = [] ∧ ∃ ao cap, v = .slice ao 0 cap) ∨ ∃ b off cap, v = .slice (some ⟨b, off, none⟩) l.length cap ∧ ∀ j (x : Int), l[j]? = some x → w.cell? ⟨b, off + j, none⟩ = some (.int .i64 x)
theorem Ints.form {w : World} {v : Value} {l : List Int} (h : Ints w v l) : ∃ ao cap, v = .slice ao l.length cap := by
  rcases h with ⟨rfl, ao, cap, rfl⟩ | ⟨b, off, cap, rfl, _⟩
  · exact ⟨ao, cap, rfl⟩
  · exact ⟨_, _, rfl⟩
theorem Ints.next {w w' : World} {v : Value} {l : List Int} (h : Ints w v l) (hb : Below w.heap.size w w') : Ints w' v l :=
  h.imp id fun ⟨b, off, cap, e, h3⟩ => ⟨b, off, cap, e, fun j x hj => cell_grows hb (h3 j x hj)⟩

/-- A slice of the call's own that holds these numbers. -/
def Own (w : World) (base : Nat) (v : Value) (l : List Int) : Prop := w.ownsRow base 3 1 v l.length (l.map (Value.int .i64))
theorem Own.nil (w : World) (base : Nat) : Own w base (.slice none 0 0) [] := World.ownsRow_nil w base _ 1
theorem Own.below {w w' : World} {base : Nat} {v : Value} {l : List Int} (h : Own w base v l) (hb : Below w.heap.size w w') : Own w' base v l := by
  refine ⟨h.1, h.2.imp id ?_⟩
  rintro ⟨g, cap, cur, hv, hg, hc, h1, h2, h3, h4⟩
  exact ⟨g, cap, cur, hv, hg, by rw [hb.block g (Array.getElem?_eq_some_iff.1 hc).1]; exact hc, h1, h2, h3, h4⟩
theorem Own.ints {w : World} {base : Nat} {v : Value} {l : List Int} (h : Own w base v l) : Ints w v l := by
  obtain ⟨_, h⟩ := h
  rcases h with ⟨rfl, h0⟩ | ⟨g, cap, cur, rfl, hg, hc, h1, h2, h3, h4⟩
  · exact .inl ⟨List.eq_nil_of_length_eq_zero h0, none, 0, rfl⟩
  · refine .inr ⟨g, 0, cap, rfl, fun j x hj => ?_⟩
    have hj' : (l.map (Value.int .i64))[j]? = some (.int .i64 x) := by rw [List.getElem?_map, hj]; rfl
    rw [← h4, List.getElem?_take] at hj'
    split at hj'
    · simp only [World.cell?, hc, Nat.zero_add]
      rw [Array.getElem?_toList] at hj'
      simpa using hj'
    · cases hj'
theorem infoI : (Try.prog.info? 3).map (fun i => (i.zero, i.size, i.bytes)) = some (some (.int .i64 0), 1, 8) := by kernel_rfl

theorem new_list (w : World) (arr : Array Value) (e : TypeId) : ∀ j u, arr.toList[j]? = some u → (w.alloc (.cells arr e)).cell? ((⟨w.heap.size, 0, none⟩ : Addr).add j) = some u := by
  intro j u hu
  have h : (w.alloc (.cells arr e)).heap[w.heap.size]? = some (.cells arr e (0, 0)) := heap_alloc_new w _
  have ha : (⟨w.heap.size, 0, none⟩ : Addr).add j = ⟨w.heap.size, j, none⟩ := by unfold Addr.add; split <;> simp_all
  rw [ha]
  simp only [World.cell?, h]
  simpa using hu
theorem Ints.new (w : World) (l : List Int) (t : TypeId) (n : Nat) (hn : n = w.heap.size) : Ints (w.alloc (.cells (l.map (Value.int .i64)).toArray t)) (.slice (some ⟨n, 0, none⟩) l.length l.length) l := by
  subst hn
  refine .inr ⟨w.heap.size, 0, l.length, rfl, fun j x hj => ?_⟩
  have hb : (w.alloc (.cells (l.map (Value.int .i64)).toArray t)).heap[w.heap.size]? = some (.cells (l.map (Value.int .i64)).toArray t (0, 0)) := heap_alloc_new w _
  simp only [World.cell?, hb, Nat.zero_add]
  simp [hj]
theorem run_app {w : World} {base : Nat} {v v2 : Value} {l l2 : List Int} (ty : TypeId) (hown : Own w base v l) (h2 : Ints w v2 l2) (hlen : l.length + l2.length ≤ 1000000000000) (hbase : base ≤ w.heap.size) :
    ∃ v' w', (Builtin.append_ #[38, 38] ty #[v, v2]).run Try.prog w = .ok v' w' ∧ Own w' base v' (l ++ l2) ∧ w.grownBy w' v.ownBlock := by
  obtain ⟨i0, hi, hz0, hz1, hz2⟩ := info_parts infoI
  have at_adr : ∀ (ad : Addr) (m c : Nat), v2 = .slice (some ad) m c → m = l2.length → (∀ j (x : Int), l2[j]? = some x → w.cell? (ad.add j) = some (.int .i64 x)) →
      ∃ v' w', (Builtin.append_ #[38, 38] ty #[v, v2]).run Try.prog w = .ok v' w' ∧ Own w' base v' (l ++ l2) ∧ w.grownBy w' v.ownBlock := by
    intro ad m c hv hm hc
    subst hv hm
    obtain ⟨v', w', hr, g1, g2, _, _⟩ := run_append_own_at (P := Try.prog) w base 38 ty 3 i0 (.int .i64 0) 1 8 Try.underlying38 hi hz0 hz1 hz2 rfl (by decide) v l.length (l.map (Value.int .i64)) hown ad l2.length c (l2.map (Value.int .i64)) (by simp)
      (fun j u hu => by
        rw [List.getElem?_map] at hu
        obtain ⟨x, hx, rfl⟩ := Option.map_eq_some_iff.1 hu
        exact hc j x hx)
      (fun u hu => by
        obtain ⟨x, _, rfl⟩ := List.mem_map.1 hu
        rfl)
      (by unfold maxLen; omega) (by omega) hbase
    exact ⟨v', w', hr, by unfold Own; rw [List.length_append, List.map_append]; exact g1, g2⟩
  rcases h2 with ⟨rfl, ao, cap, rfl⟩ | ⟨b, off, cap, rfl, h3⟩
  · cases ao with
    | some ad => exact at_adr ad 0 cap rfl rfl (fun j x hj => by simp at hj)
    | none =>
      refine ⟨v, w, ?_, by rw [List.append_nil]; exact hown, World.grownBy.refl w _⟩
      rcases hown.2 with ⟨rfl, _⟩ | ⟨g, cp, cur, rfl, _, _, hnc, _⟩
      · simp [Builtin.append_, run_underlying Try.underlying38, sizeOf, typeInfo, hi, Builtin.lenOf, Builtin.firstCells]
      · simp [Builtin.append_, run_underlying Try.underlying38, sizeOf, typeInfo, hi, Builtin.lenOf, Builtin.firstCells, hnc, storeCells]
  · exact at_adr ⟨b, off, none⟩ l2.length cap rfl rfl (fun j x hj => by rw [Lib.add_plain]; exact h3 j x hj)
/-- The same at a step of a region that draws its order. -/
theorem step_app {w : World} {ops : Array Oper} {o : Oper} {a : Act} {K : Act → World → Prop} {Q : Exit → Act → World → Prop} {E : Prop} (hgd : o.guard = none) (s x : Operand)
    (ho : o.op = .call { callee := .builtin .append, args := #[s, x], argTypes := #[38, 38] })
    {base : Nat} {v v2 : Value} {l l2 : List Int} (hs : a.eval s = v) (hx : a.eval x = v2) (hown : Own w base v l) (h2 : Ints w v2 l2) (hlen : l.length + l2.length ≤ 1000000000000) (hbase : base ≤ w.heap.size)
    (h : ∀ v' w', Own w' base v' (l ++ l2) → w.grownBy w' v.ownBlock → K (a.put o.dst v') w') :
    if Region.wanted o (yielded ops a.tmps) = true then Oper.wp Try.prog o a w K Q else E := by
  have hw : Region.wanted o (yielded ops a.tmps) = true := by simp [Region.wanted, hgd]
  rw [if_pos hw]
  obtain ⟨v', w', hr, g1, g2⟩ := run_app o.type hown h2 hlen hbase
  unfold Oper.wp execOp
  simp only [ho, resolve, invoke, builtin, Sem.run_bind, Sem.run_pure, Result.andThen_ok, List.map_toArray, List.map_cons, List.map_nil, hs, hx, hr]
  exact h v' w' g1 g2
theorem wpList_app {w : World} {ops : Array Oper} {rest : List Oper} {o : Oper} {a : Act} {Q : Exit → Act → World → Prop} (hgd : o.guard = none) (s x : Operand)
    (ho : o.op = .call { callee := .builtin .append, args := #[s, x], argTypes := #[38, 38] })
    {base : Nat} {v v2 : Value} {l l2 : List Int} (hs : a.eval s = v) (hx : a.eval x = v2) (hown : Own w base v l) (h2 : Ints w v2 l2) (hlen : l.length + l2.length ≤ 1000000000000) (hbase : base ≤ w.heap.size)
    (h : ∀ v' w', Own w' base v' (l ++ l2) → w.grownBy w' v.ownBlock → wpList Try.prog ops Q rest (a.put o.dst v') w') : wpList Try.prog ops Q (o :: rest) a w :=
  wpList_plain hgd fun K hK => by
    obtain ⟨v', w', hr, g1, g2⟩ := run_app o.type hown h2 hlen hbase
    unfold Oper.wp execOp
    simp only [ho, resolve, invoke, builtin, Sem.run_bind, Sem.run_pure, Result.andThen_ok, List.map_toArray, List.map_cons, List.map_nil, hs, hx, hr]
    exact hK _ _ (h v' w' g1 g2)

theorem Own.bel {w W w' : World} {v : Value} {l : List Int} {base : Nat} (hb : Below base w W) (hB : base ≤ W.heap.size) (h : Own W base v l) (hg : W.grownBy w' v.ownBlock) : Below base w w' := hb.grown hg hB (fun k hk => (World.ownsRow.lt h k hk).1)
end Go.Proofs.Ytalpbpcanebbbaa
