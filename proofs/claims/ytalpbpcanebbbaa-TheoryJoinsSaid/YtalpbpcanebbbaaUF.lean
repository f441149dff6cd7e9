/- Several lists of the call's own; the terms of TheoryTwice, plain. -/
import Derived.Test.YtalpbpcanebbbaaUC
namespace Go.Proofs.Ytalpbpcanebbbaa
open Go.RowKit VM LM TM

/-- Two slices that do not share a block. -/
def Sep (v u : Value) : Prop := ∀ k, v.ownBlock = some k → u.ownBlock ≠ some k
theorem Sep.symm {v u : Value} (h : Sep v u) : Sep u v := fun k h1 h2 => h k h2 h1
theorem Sep.nil (u : Value) : Sep (.slice none 0 0) u := fun k h => by cases h
theorem run_appS {w : World} {base : Nat} {v v2 : Value} {l l2 : List Int} (ty : TypeId) (hown : Own w base v l) (h2 : Ints w v2 l2) (hne : 0 < l2.length) (hlen : l.length + l2.length ≤ 1000000000000) (hbase : base ≤ w.heap.size) :
    ∃ v' w', (Builtin.append_ #[38, 38] ty #[v, v2]).run Try.prog w = .ok v' w' ∧ Own w' base v' (l ++ l2) ∧ w.grownBy w' v.ownBlock ∧ (v'.ownBlock = v.ownBlock ∨ v'.ownBlock = some w.heap.size) := by
  obtain ⟨i0, hi, hz0, hz1, hz2⟩ := info_parts infoI
  rcases h2 with ⟨rfl, _⟩ | ⟨b, off, cap, rfl, h3⟩
  · simp at hne
  · obtain ⟨v', w', hr, g1, g2, _, g4⟩ := run_append_own_at (P := Try.prog) w base 38 ty 3 i0 (.int .i64 0) 1 8 Try.underlying38 hi hz0 hz1 hz2 rfl (by decide) v l.length (l.map (Value.int .i64)) hown ⟨b, off, none⟩ l2.length cap (l2.map (Value.int .i64)) (by simp)
      (fun j u hu => by
        rw [List.getElem?_map] at hu
        obtain ⟨x, hx, rfl⟩ := Option.map_eq_some_iff.1 hu
        rw [Lib.add_plain]; exact h3 j x hx)
      (fun u hu => by
        obtain ⟨x, _, rfl⟩ := List.mem_map.1 hu
        rfl)
      (by unfold maxLen; omega) (by omega) hbase
    exact ⟨v', w', hr, by unfold Own; rw [List.length_append, List.map_append]; exact g1, g2, g4⟩
theorem Own.sep {w w' : World} {base : Nat} {v v' u : Value} {m : List Int} (h : Own w base u m) (hs : Sep v u) (hg : w.grownBy w' v.ownBlock) (hb : v'.ownBlock = v.ownBlock ∨ v'.ownBlock = some w.heap.size) : Own w' base u m ∧ Sep v' u := by
  constructor
  · refine World.ownsRow.kept h hg ?_
    cases e : u.ownBlock with
    | none => exact .inl rfl
    | some k => exact .inr (fun e2 => hs k e2.symm e)
  · intro k h1 h2
    rcases hb with e | e
    · exact hs k (by rw [← e]; exact h1) h2
    · rw [e] at h1
      obtain rfl := Option.some.inj h1
      have := (World.ownsRow.lt h _ h2).2
      omega
theorem wpList_appS {w W : World} {ops : Array Oper} {rest : List Oper} {o : Oper} {a : Act} {Q : Exit → Act → World → Prop} (hgd : o.guard = none) (s y : Operand)
    (ho : o.op = .call { callee := .builtin .append, args := #[s, y], argTypes := #[38, 38] })
    {base : Nat} {v v2 : Value} {l l2 : List Int} (hs : a.eval s = v) (hx : a.eval y = v2) (hown : Own W base v l) (h2 : Ints W v2 l2) (hne : 0 < l2.length) (hlen : l.length + l2.length ≤ 1000000) (hbase : base ≤ W.heap.size) (hb : Below base w W)
    (h : ∀ v' w', Hid (Own w' base v' (l ++ l2) ∧ Below base w w' ∧ ∀ u m, Own W base u m → Sep v u → Own w' base u m ∧ Sep v' u) → wpList Try.prog ops Q rest (a.put o.dst v') w') :
    wpList Try.prog ops Q (o :: rest) a W := by
  refine wpList_plain hgd fun K hK => ?_
  obtain ⟨v', w', hr, g1, g2, g3⟩ := run_appS o.type hown h2 hne (by omega) hbase
  unfold Oper.wp execOp
  simp only [ho, resolve, invoke, builtin, Sem.run_bind, Sem.run_pure, Result.andThen_ok, List.map_toArray, List.map_cons, List.map_nil, hs, hx, hr]
  exact hK _ _ (h v' w' (mkHid ⟨g1, Own.bel hb hbase hown g2, fun u m hu hsp => hu.sep hsp g2 g3⟩))

theorem wpList_appS1 {w W : World} {ops : Array Oper} {rest : List Oper} {o : Oper} {a : Act} {Q : Exit → Act → World → Prop} (hgd : o.guard = none) (s y : Operand)
    (ho : o.op = .call { callee := .builtin .append, args := #[s, y], argTypes := #[38, 38] })
    {base : Nat} {v : Value} {l : List Int} {x : Int} (hs : a.eval s = v) (hx : a.eval y = .slice (some ⟨W.heap.size, 0, none⟩) 1 1) (hown : Own W base v l) (hlen : l.length ≤ 1000) (hb : Below base w W) (hbase : base ≤ W.heap.size)
    (h : ∀ v' w', Hid (Own w' base v' (l ++ [x]) ∧ Below base w w' ∧ ∀ u m, Own W base u m → Sep v u → Own w' base u m ∧ Sep v' u) → wpList Try.prog ops Q rest (a.put o.dst v') w') :
    wpList Try.prog ops Q (o :: rest) a (W.alloc (.cells #[.int .i64 x] 3)) :=
  wpList_appS hgd s y ho hs hx (hown.below (bal (Below.refl _ _) _)) (Ints.new W [x] 3 _ rfl) (by simp) (by simp; omega) (by simp; omega) (hb.alloc hbase _)
    fun v' w' H => h v' w' (mkHid ⟨H.out.1, H.out.2.1, fun u m hu hsp => H.out.2.2 u m (hu.below (bal (Below.refl _ _) _)) hsp⟩)
theorem wpList_appS2 {w W : World} {ops : Array Oper} {rest : List Oper} {o : Oper} {a : Act} {Q : Exit → Act → World → Prop} (hgd : o.guard = none) (s y : Operand)
    (ho : o.op = .call { callee := .builtin .append, args := #[s, y], argTypes := #[38, 38] })
    {base : Nat} {v : Value} {l : List Int} {x z : Int} (hs : a.eval s = v) (hx : a.eval y = .slice (some ⟨W.heap.size, 0, none⟩) 2 2) (hown : Own W base v l) (hlen : l.length ≤ 1000) (hb : Below base w W) (hbase : base ≤ W.heap.size)
    (h : ∀ v' w', Hid (Own w' base v' (l ++ [x, z]) ∧ Below base w w' ∧ ∀ u m, Own W base u m → Sep v u → Own w' base u m ∧ Sep v' u) → wpList Try.prog ops Q rest (a.put o.dst v') w') :
    wpList Try.prog ops Q (o :: rest) a (W.alloc (.cells #[.int .i64 x, .int .i64 z] 3)) :=
  wpList_appS hgd s y ho hs hx (hown.below (bal (Below.refl _ _) _)) (Ints.new W [x, z] 3 _ rfl) (by simp) (by simp; omega) (by simp; omega) (hb.alloc hbase _)
    fun v' w' H => h v' w' (mkHid ⟨H.out.1, H.out.2.1, fun u m hu hsp => H.out.2.2 u m (hu.below (bal (Below.refl _ _) _)) hsp⟩)

/-- Literals whose variables are above v, and at most n, none the opposite of another. -/
structure Tm (n v : Int) (l : List Int) : Prop where
  r : ∀ x ∈ l, (v < x ∧ x ≤ n) ∨ (v < -x ∧ -x ≤ n)
  o : ∀ x ∈ l, -x ∉ l
  len : (l.length : Int) ≤ 2 * (n - v)
theorem Tm.nil {n : Int} : Tm n n [] := ⟨fun x h => by simp at h, fun x h => by simp at h, by simp⟩
theorem Tm.less {n v : Int} {l : List Int} (h : Tm n v l) : Tm n (v - 1) l :=
  ⟨fun x hx => by have := h.r x hx; omega, h.o, by have := h.len; omega⟩
theorem Tm.add {n v x : Int} {l : List Int} (h : Tm n v l) (hv : 1 ≤ v ∧ v ≤ n) (hx : x = v ∨ x = -v) : Tm n (v - 1) (l ++ [x]) := by
  have key : ∀ y, y ∈ l ++ [x] ↔ y ∈ l ∨ y = x := fun y => by simp
  refine ⟨fun y hy => ?_, fun y hy h2 => ?_, by have := h.len; simp; omega⟩
  · rcases (key y).1 hy with hy | rfl
    · have := h.r y hy; omega
    · omega
  · rcases (key y).1 hy with hy | rfl
    · have h3 := h.r y hy
      rcases (key _).1 h2 with h2 | h2
      · exact h.o y hy h2
      · omega
    · rcases (key _).1 h2 with h2 | h2
      · have h3 := h.r _ h2; omega
      · omega
theorem Tm.add2 {n v x : Int} {l : List Int} (h : Tm n v l) (hv : 1 ≤ v ∧ v ≤ n) (hx : x = v ∨ x = -v) : Tm n (v - 1) (l ++ [x, x]) := by
  have := h.add hv hx
  have key : ∀ y, y ∈ l ++ [x, x] ↔ y ∈ l ++ [x] := fun y => by simp
  exact ⟨fun y hy => this.r y ((key y).1 hy), fun y hy h2 => this.o y ((key y).1 hy) ((key _).1 h2), by have := h.len; simp; omega⟩
theorem Tm.tm {n v : Int} {l : List Int} (h : Tm n v l) (hv : 0 ≤ v) (hn : n ≤ 128) : tmB l n = true := by
  rw [tmB_any, Bool.not_eq_true', List.any_eq_false]
  intro x hx
  have h1 := h.r x hx
  have h2 : validL x n = true := (validL_iff hn).2 (by omega)
  have h3 := h.o x hx
  rw [h2]
  simpa using h3
theorem Tm.in64 {n v : Int} {l : List Int} (h : Tm n v l) (hv : 0 ≤ v) (hn : n ≤ 128) : ∀ x ∈ l, In64 x := by
  intro x hx
  have := h.r x hx
  unfold In64; omega
theorem gvE_ok {n : Int} {K : List (List Int)} {l : List Int} (h : ckT n K = 0) (k : tmB l n = true) : gvE n K l = 0 := by
  unfold gvE; rw [if_pos h, if_pos k]
theorem given_ok (n : Int) (v tv : Value) (L : List (List Int)) (t : List Int) (w : World) (h : Cls w v L) (hk : ckT n L = 0) (ht : Ints w tv t) (hs : t.length ≤ 1000000) (h64 : ∀ x ∈ t, In64 x) (htm : tmB t n = true) :
    Calls Try.prog 26 #[.agg #[.int .i64 n, v], tv] w fun e w' => ∃ u, e = .returned (.tuple #[.agg #[.int .i64 n, u], .int .i64 0]) ∧ Hid (OwnC w' w.heap.size u (gvL t L) ∧ Below w.heap.size w w') := by
  have := given_calls n v tv L t w (ck_th hk h) ht hs h64
  rw [gvE_ok hk htm, if_pos rfl, if_pos rfl] at this
  exact this
/-- The terms of Twice. -/
structure Tw (n v : Int) (l1 l2 l3 : List Int) : Prop where
  a : Tm n v l1
  b : Tm n v l2
  c : Tm n v l3
  e : ∀ x, x ∈ l3 ↔ x ∈ l1 ∨ x ∈ l2
theorem Tw.nil {n : Int} : Tw n n [] [] [] := ⟨.nil, .nil, .nil, by simp⟩
theorem Tw.less {n v : Int} {l1 l2 l3 : List Int} (h : Tw n v l1 l2 l3) : Tw n (v - 1) l1 l2 l3 := ⟨h.a.less, h.b.less, h.c.less, h.e⟩
theorem Tw.one {n v x : Int} {l1 l2 l3 : List Int} (h : Tw n v l1 l2 l3) (hv : 1 ≤ v ∧ v ≤ n) (hx : x = v ∨ x = -v) : Tw n (v - 1) (l1 ++ [x]) l2 (l3 ++ [x]) :=
  ⟨h.a.add hv hx, h.b.less, h.c.add hv hx, fun y => by
    have := h.e y
    simp only [List.mem_append, List.mem_singleton, this]
    constructor
    · rintro ((h | h) | h) <;> simp [h]
    · rintro ((h | h) | h) <;> simp [h]⟩
theorem Tw.two {n v x : Int} {l1 l2 l3 : List Int} (h : Tw n v l1 l2 l3) (hv : 1 ≤ v ∧ v ≤ n) (hx : x = v ∨ x = -v) : Tw n (v - 1) l1 (l2 ++ [x, x]) (l3 ++ [x]) :=
  ⟨h.a.less, h.b.add2 hv hx, h.c.add hv hx, fun y => by
    have := h.e y
    simp only [List.mem_append, List.mem_cons, List.not_mem_nil, or_false, or_self, this]
    constructor
    · rintro ((h | h) | h) <;> simp [h]
    · rintro (h | h | h) <;> simp [h]⟩
theorem Tw.gv {n v : Int} {l1 l2 l3 : List Int} (h : Tw n v l1 l2 l3) (L : List (List Int)) : gvL l2 (gvL l1 L) = gvL l3 L := by
  rw [gvL_gvL (fun x hx hm => h.c.o x ((h.e x).2 (.inr hx)) ((h.e _).2 (.inl hm)))]
  exact gvL_congr (fun x => by rw [h.e]; simp) L
end Go.Proofs.Ytalpbpcanebbbaa
