/- Lists of lists of the call's own; a theory in a box of the call's own; appending a list. -/
import Derived.Test.YtalpbpcanebbbaaTW
namespace Go.Proofs.Ytalpbpcanebbbaa
open Go.RowKit VM LM TM

theorem infoL : (Try.prog.info? 38).map (fun i => (i.zero, i.size, i.bytes)) = some (some (.slice none 0 0), 1, 24) := by kernel_rfl
/-- A slice of the call's own that holds these slices. -/
def OwnV (w : World) (base : Nat) (v : Value) (xs : List Value) : Prop := w.ownsRow base 38 1 v xs.length xs
theorem OwnV.nil (w : World) (base : Nat) : OwnV w base (.slice none 0 0) [] := World.ownsRow_nil w base _ 1
theorem OwnV.weaken {w : World} {base base' : Nat} {v : Value} {xs : List Value} (h : OwnV w base v xs) (hb : base' ≤ base) : OwnV w base' v xs :=
  ⟨h.1, h.2.imp id fun ⟨g, cp, cur, hv, hg, rest⟩ => ⟨g, cp, cur, hv, Nat.le_trans hb hg, rest⟩⟩
theorem OwnV.below {w w' : World} {base : Nat} {v : Value} {xs : List Value} (h : OwnV w base v xs) (hb : Below w.heap.size w w') : OwnV w' base v xs := by
  refine ⟨h.1, h.2.imp id ?_⟩
  rintro ⟨g, cap, cur, hv, hg, hc, h1, h2, h3, h4⟩
  exact ⟨g, cap, cur, hv, hg, by rw [hb.block g (Array.getElem?_eq_some_iff.1 hc).1]; exact hc, h1, h2, h3, h4⟩
theorem OwnV.bel {w W w' : World} {v : Value} {xs : List Value} {base : Nat} (hb : Below base w W) (hB : base ≤ W.heap.size) (h : OwnV W base v xs) (hg : W.grownBy w' v.ownBlock) : Below base w w' := hb.grown hg hB (fun k hk => (World.ownsRow.lt h k hk).1)
/-- The block that it lies in holds slices. -/
theorem OwnV.block {w : World} {base : Nat} {v : Value} {xs : List Value} (h : OwnV w base v xs) {k : Nat} (hk : v.ownBlock = some k) : base ≤ k ∧ ∃ cur, w.heap[k]? = some (.cells cur 38 (0, 0)) := by
  rcases h.2 with ⟨rfl, _⟩ | ⟨g, cap, cur, rfl, hg, hc, _⟩
  · simp [Value.ownBlock] at hk
  · simp [Value.ownBlock] at hk
    subst hk
    exact ⟨hg, cur, hc⟩
/-- Slices in memory, each a value. -/
def Vals (w : World) (v : Value) (xs : List Value) : Prop :=
  ∃ ao cap, v = .slice ao xs.length cap ∧ ∀ j x, xs[j]? = some x → ∃ b off, ao = some ⟨b, off, none⟩ ∧ w.cell? ⟨b, off + j, none⟩ = some x
theorem Vals.next {w w' : World} {v : Value} {xs : List Value} (h : Vals w v xs) (hb : Below w.heap.size w w') : Vals w' v xs := by
  obtain ⟨ao, cap, e, h⟩ := h
  exact ⟨ao, cap, e, fun j x hj => by obtain ⟨b, off, e1, h1⟩ := h j x hj; exact ⟨b, off, e1, cell_grows hb h1⟩⟩
theorem Vals.form {w : World} {v : Value} {xs : List Value} (h : Vals w v xs) : ∃ ao cap, v = .slice ao xs.length cap := by
  obtain ⟨ao, cap, e, _⟩ := h; exact ⟨ao, cap, e⟩
theorem OwnV.vals {w : World} {base : Nat} {v : Value} {xs : List Value} (h : OwnV w base v xs) : Vals w v xs := by
  obtain ⟨_, h⟩ := h
  rcases h with ⟨rfl, h0⟩ | ⟨g, cap, cur, rfl, hg, hc, h1, h2, h3, h4⟩
  · rw [List.eq_nil_of_length_eq_zero h0]; exact ⟨none, 0, rfl, fun j x hj => by simp at hj⟩
  · refine ⟨some ⟨g, 0, none⟩, cap, rfl, fun j x hj => ⟨g, 0, rfl, ?_⟩⟩
    have hj' := hj
    rw [← h4, List.getElem?_take] at hj'
    split at hj'
    · simp only [World.cell?, hc, Nat.zero_add]
      rw [Array.getElem?_toList] at hj'
      simpa using hj'
    · cases hj'
/-- The lists that the slices hold. -/
def Rows (w : World) (xs : List Value) (L : List (List Int)) : Prop := xs.length = L.length ∧ ∀ (j : Nat) (x : Value) (c : List Int), xs[j]? = some x → L[j]? = some c → Ints w x c
theorem Rows.next {w w' : World} {xs : List Value} {L : List (List Int)} (h : Rows w xs L) (hb : Below w.heap.size w w') : Rows w' xs L := ⟨h.1, fun j x c h1 h2 => (h.2 j x c h1 h2).next hb⟩
theorem cls_of_vals {w : World} {v : Value} {xs : List Value} {L : List (List Int)} (h : Vals w v xs) (k : Rows w xs L) : Cls w v L := by
  obtain ⟨ao, cap, e, h⟩ := h
  refine ⟨ao, cap, by rw [← k.1]; exact e, fun j c hj => ?_⟩
  have hl : j < xs.length := by rw [k.1]; exact (List.getElem?_eq_some_iff.1 hj).1
  obtain ⟨b, off, e1, h1⟩ := h j _ (List.getElem?_eq_getElem hl)
  exact ⟨b, off, _, e1, h1, k.2 j _ c (List.getElem?_eq_getElem hl) hj⟩
theorem Cls.vals {w : World} {v : Value} {L : List (List Int)} (h : Cls w v L) : ∃ xs, Vals w v xs ∧ Rows w xs L := by
  obtain ⟨ao, cap, e, h⟩ := h
  have key : ∀ j, j < L.length → ∃ x b off, ao = some ⟨b, off, none⟩ ∧ w.cell? ⟨b, off + j, none⟩ = some x ∧ ∀ c, L[j]? = some c → Ints w x c := fun j hj => by
    obtain ⟨b, off, x, h1, h2, h3⟩ := h j _ (List.getElem?_eq_getElem hj)
    exact ⟨x, b, off, h1, h2, fun c hc => by rw [List.getElem?_eq_getElem hj] at hc; obtain rfl := Option.some.inj hc; exact h3⟩
  let f : Nat → Value := fun j => if hj : j < L.length then Classical.choose (key j hj) else .slice none 0 0
  have hf : ∀ j, j < L.length → ∃ b off, ao = some ⟨b, off, none⟩ ∧ w.cell? ⟨b, off + j, none⟩ = some (f j) ∧ ∀ c, L[j]? = some c → Ints w (f j) c := by
    intro j hj
    have e : f j = Classical.choose (key j hj) := dif_pos hj
    rw [e]; exact Classical.choose_spec (key j hj)
  have hxs : ((List.range L.length).map f).length = L.length := by simp
  have get : ∀ j x, ((List.range L.length).map f)[j]? = some x → j < L.length ∧ x = f j := by
    intro j x hj
    have hl := (List.getElem?_eq_some_iff.1 hj).1
    rw [hxs] at hl
    rw [List.getElem?_map, List.getElem?_range hl] at hj
    exact ⟨hl, (Option.some.inj hj).symm⟩
  refine ⟨(List.range L.length).map f, ⟨ao, cap, by rw [hxs]; exact e, fun j x hj => ?_⟩, hxs, fun j x c hj hc => ?_⟩
  · obtain ⟨hl, rfl⟩ := get j x hj
    obtain ⟨b, off, e1, h1, _⟩ := hf j hl
    exact ⟨b, off, e1, h1⟩
  · obtain ⟨hl, rfl⟩ := get j x hj
    obtain ⟨b, off, e1, _, h2⟩ := hf j hl
    exact h2 c hc
/-- The same, each slice of the call's own. -/
def RowsO (w : World) (base : Nat) (xs : List Value) (L : List (List Int)) : Prop := xs.length = L.length ∧ ∀ (j : Nat) (x : Value) (c : List Int), xs[j]? = some x → L[j]? = some c → Own w base x c
theorem RowsO.rows {w : World} {base : Nat} {xs : List Value} {L : List (List Int)} (h : RowsO w base xs L) : Rows w xs L := ⟨h.1, fun j x c h1 h2 => (h.2 j x c h1 h2).ints⟩
theorem RowsO.nil (w : World) (base : Nat) : RowsO w base [] [] := ⟨rfl, fun j x c h _ => by simp at h⟩
theorem snoc_get {α β : Type} {xs : List α} {L : List β} {x : α} {c : β} (hl : xs.length = L.length) {j : Nat} {y : α} {d : β} (h1 : (xs ++ [x])[j]? = some y) (h2 : (L ++ [c])[j]? = some d) : (xs[j]? = some y ∧ L[j]? = some d) ∨ (y = x ∧ d = c) := by
  rcases Nat.lt_or_ge j xs.length with h | h
  · rw [List.getElem?_append_left h] at h1
    rw [List.getElem?_append_left (by omega)] at h2
    exact .inl ⟨h1, h2⟩
  · rw [List.getElem?_append_right h] at h1
    rw [List.getElem?_append_right (by omega)] at h2
    have e : j - xs.length = 0 := by
      have := (List.getElem?_eq_some_iff.1 h1).1
      simp at this; omega
    rw [e] at h1
    rw [show j - L.length = 0 by omega] at h2
    simp at h1 h2
    exact .inr ⟨h1.symm, h2.symm⟩
theorem RowsO.snoc {w : World} {base : Nat} {xs : List Value} {L : List (List Int)} {x : Value} {c : List Int} (h : RowsO w base xs L) (hx : Own w base x c) : RowsO w base (xs ++ [x]) (L ++ [c]) := by
  refine ⟨by simp [h.1], fun j y d h1 h2 => ?_⟩
  rcases snoc_get h.1 h1 h2 with ⟨a, b⟩ | ⟨rfl, rfl⟩
  · exact h.2 j y d a b
  · exact hx
theorem Rows.snoc {w : World} {xs : List Value} {L : List (List Int)} {x : Value} {c : List Int} (h : Rows w xs L) (hx : Ints w x c) : Rows w (xs ++ [x]) (L ++ [c]) := by
  refine ⟨by simp [h.1], fun j y d h1 h2 => ?_⟩
  rcases snoc_get h.1 h1 h2 with ⟨a, b⟩ | ⟨rfl, rfl⟩
  · exact h.2 j y d a b
  · exact hx
theorem RowsO.below {w w' : World} {base : Nat} {xs : List Value} {L : List (List Int)} (h : RowsO w base xs L) (hb : Below w.heap.size w w') : RowsO w' base xs L := ⟨h.1, fun j x c h1 h2 => (h.2 j x c h1 h2).below hb⟩
theorem RowsO.weaken {w : World} {base base' : Nat} {xs : List Value} {L : List (List Int)} (h : RowsO w base xs L) (hb : base' ≤ base) : RowsO w base' xs L := ⟨h.1, fun j x c h1 h2 => ⟨(h.2 j x c h1 h2).1, (h.2 j x c h1 h2).2.imp id fun ⟨g, cp, cur, hv, hg, rest⟩ => ⟨g, cp, cur, hv, Nat.le_trans hb hg, rest⟩⟩⟩
theorem Own.kept {w w' : World} {base : Nat} {x : Value} {c : List Int} {row : Option Nat} (h : Own w base x c) (hg : w.grownBy w' row) (hr : ∀ k, row = some k → ∀ cur f, w.heap[k]? ≠ some (.cells cur 3 f)) : Own w' base x c := by
  refine ⟨h.1, h.2.imp id ?_⟩
  rintro ⟨g, cap, cur, hv, hgb, hc, h1, h2, h3, h4⟩
  refine ⟨g, cap, cur, hv, hgb, ?_, h1, h2, h3, h4⟩
  rw [hg.block g (Array.getElem?_eq_some_iff.1 hc).1 (fun e => hr g e.symm cur _ hc)]
  exact hc
theorem RowsO.kept {w w' : World} {base : Nat} {xs : List Value} {L : List (List Int)} {row : Option Nat} (h : RowsO w base xs L) (hg : w.grownBy w' row) (hr : ∀ k, row = some k → ∀ cur f, w.heap[k]? ≠ some (.cells cur 3 f)) : RowsO w' base xs L := ⟨h.1, fun j x c h1 h2 => (h.2 j x c h1 h2).kept hg hr⟩
theorem OwnV.not_int {w : World} {base : Nat} {v : Value} {xs : List Value} (h : OwnV w base v xs) : ∀ k, v.ownBlock = some k → ∀ cur f, w.heap[k]? ≠ some (.cells cur 3 f) := by
  intro k hk cur f e
  obtain ⟨_, cur', h2⟩ := h.block hk
  rw [h2] at e
  simp at e
theorem Own.wk {w : World} {base base' : Nat} {v : Value} {l : List Int} (h : Own w base v l) (hb : base' ≤ base) : Own w base' v l :=
  ⟨h.1, h.2.imp id fun ⟨g, cp, cur, hv, hg, rest⟩ => ⟨g, cp, cur, hv, Nat.le_trans hb hg, rest⟩⟩

/-- append of one slice to a slice of slices of the call's own. -/
theorem run_appV {w : World} {base : Nat} {v x : Value} {xs : List Value} (ty : TypeId) {a : Addr} {c : Nat} (hown : OwnV w base v xs) (hc : w.cell? (a.add 0) = some x) (h1 : x.oneCell' = true) (hlen : xs.length ≤ 1000000000000) (hbase : base ≤ w.heap.size) :
    ∃ v' w', (Builtin.append_ #[22, 22] ty #[v, .slice (some a) 1 c]).run Try.prog w = .ok v' w' ∧ OwnV w' base v' (xs ++ [x]) ∧ w.grownBy w' v.ownBlock := by
  obtain ⟨i0, hi, hz0, hz1, hz2⟩ := info_parts infoL
  obtain ⟨v', w', hr, g1, g2, _, _⟩ := run_append_own_at (P := Try.prog) w base 22 ty 38 i0 (.slice none 0 0) 1 24 Try.underlying22 hi hz0 hz1 hz2 rfl (by decide) v xs.length xs hown a 1 c [x] rfl
    (fun j u hu => by
      match j, hu with
      | 0, hu => simp at hu; subst hu; exact hc)
    (fun u hu => by simp at hu; subst hu; exact h1)
    (by unfold maxLen; omega) (by omega) hbase
  exact ⟨v', w', hr, by unfold OwnV; rw [List.length_append]; exact g1, g2⟩
theorem oneCell_slice (ao : Option Addr) (n c : Nat) : (Value.slice ao n c).oneCell' = true := rfl
theorem wpList_appV {w W : World} {ops : Array Oper} {rest : List Oper} {o : Oper} {a : Act} {Q : Exit → Act → World → Prop} (hgd : o.guard = none) (s y : Operand)
    (ho : o.op = .call { callee := .builtin .append, args := #[s, y], argTypes := #[22, 22] })
    {base : Nat} {v x : Value} {xs : List Value} (hs : a.eval s = v) (hx : a.eval y = .slice (some ⟨W.heap.size, 0, none⟩) 1 1) (hown : OwnV W base v xs) (h1 : x.oneCell' = true) (hlen : xs.length ≤ 1000000) (hbase : base ≤ W.heap.size) (hb : Below base w W)
    (h : ∀ v' w', Hid (OwnV w' base v' (xs ++ [x]) ∧ (W.alloc (.cells #[x] 38)).grownBy w' v.ownBlock ∧ Below base w w') → wpList Try.prog ops Q rest (a.put o.dst v') w') :
    wpList Try.prog ops Q (o :: rest) a (W.alloc (.cells #[x] 38)) := by
  have h0 : OwnV (W.alloc (.cells #[x] 38)) base v xs := hown.below (bal (Below.refl _ _) _)
  have hb0 : Below base w (W.alloc (.cells #[x] 38)) := hb.alloc hbase _
  refine wpList_plain hgd fun K hK => ?_
  obtain ⟨v', w', hr, g1, g2⟩ := run_appV o.type (c := 1) h0 (show (W.alloc (.cells #[x] 38)).cell? ((⟨W.heap.size, 0, none⟩ : Addr).add 0) = some x by rw [Lib.add_plain]; exact cell_new1 W x _) h1 (by omega) (by simp; omega)
  unfold Oper.wp execOp
  simp only [ho, resolve, invoke, builtin, Sem.run_bind, Sem.run_pure, Result.andThen_ok, List.map_toArray, List.map_cons, List.map_nil, hs, hx, hr]
  exact hK _ _ (h v' w' (mkHid ⟨g1, g2, OwnV.bel hb0 (by simp; omega) h0 g2⟩))

/-- A theory in a box of the call's own. -/
def TB (w : World) (b : Nat) (n : Int) (v : Value) : Prop := w.heap[b]? = some (.cells #[.int .i64 n, v] 24 (0, 0))
theorem TB.lt {w : World} {b : Nat} {n : Int} {v : Value} (h : TB w b n v) : b < w.heap.size := (Array.getElem?_eq_some_iff.1 h).1
theorem TB.at {w : World} {b : Nat} {n : Int} {v : Value} (h : TB w b n v) : AtT w b n v := by
  unfold TB at h; exact ⟨by simp only [World.cell?, h]; rfl, by simp only [World.cell?, h]; rfl⟩
theorem TB.free {w : World} {b : Nat} {n : Int} {v : Value} (h : TB w b n v) : w.frozen? ⟨b, 0, none⟩ = false ∧ w.frozen? ⟨b, 1, none⟩ = false := by
  unfold TB at h; exact ⟨by simp only [World.frozen?, h]; rfl, by simp only [World.frozen?, h]; rfl⟩
theorem TB.new (w : World) (k : Nat) (n : Int) (v : Value) (hk : k = w.heap.size) : TB (w.alloc (.cells #[.int .i64 n, v] 24)) k n v := by
  subst hk; exact heap_alloc_new w _
theorem TB.grows {w w' : World} {b : Nat} {n : Int} {v : Value} (h : TB w b n v) (hb : Below w.heap.size w w') : TB w' b n v := (hb.block b h.lt).trans h
theorem TB.drew {w : World} {b : Nat} {n : Int} {v : Value} (h : TB w b n v) : TB w.drew b n v := h
theorem TB.kept {w w' : World} {b : Nat} {n : Int} {v : Value} {row : Option Nat} (h : TB w b n v) (hg : w.grownBy w' row) (hr : row ≠ some b) : TB w' b n v := (hg.block b h.lt (fun e => hr e.symm)).trans h
theorem TB.set1 {w : World} {b : Nat} {n : Int} {v : Value} (h : TB w b n v) (v' : Value) : TB (w.setCell ⟨b, 1, none⟩ v') b n v' := by
  unfold TB at h ⊢
  simp [World.setCell, Array.getElem?_modify, h]
theorem TB.set {w : World} {b : Nat} {n : Int} {v : Value} (h : TB w b n v) (n' : Int) (v' : Value) : TB ((w.setCell ⟨b, 0, none⟩ (.int .i64 n')).setCell ⟨b, 1, none⟩ v') b n' v' := by
  unfold TB at h ⊢
  simp [World.setCell, Array.getElem?_modify, h]
theorem OwnV.not_tb {w : World} {base b : Nat} {v u : Value} {xs : List Value} {n : Int} (h : OwnV w base v xs) (k : TB w b n u) : v.ownBlock ≠ some b := by
  intro e
  obtain ⟨_, cur, h2⟩ := h.block e
  unfold TB at k
  rw [h2] at k
  simp at k
theorem OwnV.set {w : World} {base b o : Nat} {m : Int} {v u u' : Value} {xs : List Value} (h : OwnV w base v xs) (k : TB w b m u) : OwnV (w.setCell ⟨b, o, none⟩ u') base v xs := by
  refine ⟨h.1, h.2.imp id ?_⟩
  rintro ⟨g, cap, cur, hv, hg, hc, rest⟩
  refine ⟨g, cap, cur, hv, hg, ?_, rest⟩
  rw [Below.heap_setCell _ _ _ _ (by
    intro e
    unfold TB at k
    have e : g = b := e
    subst e; rw [hc] at k; simp at k)]
  exact hc
theorem Own.setT {w : World} {base b o : Nat} {m : Int} {v u u' : Value} {l : List Int} (h : Own w base v l) (k : TB w b m u) : Own (w.setCell ⟨b, o, none⟩ u') base v l := by
  refine ⟨h.1, h.2.imp id ?_⟩
  rintro ⟨g, cap, cur, hv, hg, hc, rest⟩
  refine ⟨g, cap, cur, hv, hg, ?_, rest⟩
  rw [Below.heap_setCell _ _ _ _ (by
    intro e
    unfold TB at k
    have e : g = b := e
    subst e; rw [hc] at k; simp at k)]
  exact hc
theorem RowsO.setT {w : World} {base b o : Nat} {m : Int} {u u' : Value} {xs : List Value} {L : List (List Int)} (h : RowsO w base xs L) (k : TB w b m u) : RowsO (w.setCell ⟨b, o, none⟩ u') base xs L := ⟨h.1, fun j x c h1 h2 => (h.2 j x c h1 h2).setT k⟩
/-- What a loop that appends to a boxed theory has made so far. -/
structure Mk (w : World) (base b : Nat) (n : Int) (L : List (List Int)) : Prop where
  ex : ∃ v xs, TB w b n v ∧ OwnV w base v xs ∧ RowsO w base xs L
end Go.Proofs.Ytalpbpcanebbbaa
