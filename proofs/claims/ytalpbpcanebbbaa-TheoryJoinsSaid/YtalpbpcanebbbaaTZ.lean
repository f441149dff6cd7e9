/- Contract of Copy. -/
import Derived.Test.YtalpbpcanebbbaaTLa
namespace Go.Proofs.Ytalpbpcanebbbaa
open Go.RowKit VM LM TM

/-- append of one slice to a slice of slices, at a step of a region that draws its order. -/
theorem step_appV {w W : World} {ops : Array Oper} {o : Oper} {a : Act} {K : Act → World → Prop} {Q : Exit → Act → World → Prop} {E : Prop} (hgd : o.guard = none) (s y : Operand)
    (ho : o.op = .call { callee := .builtin .append, args := #[s, y], argTypes := #[22, 22] })
    {base : Nat} {v x : Value} {xs : List Value} (hs : a.eval s = v) (hx : a.eval y = .slice (some ⟨W.heap.size, 0, none⟩) 1 1) (hown : OwnV W base v xs) (h1 : x.oneCell' = true) (hlen : xs.length ≤ 1000000) (hbase : base ≤ W.heap.size) (hb : Below base w W)
    (h : ∀ v' w', Hid (OwnV w' base v' (xs ++ [x]) ∧ (W.alloc (.cells #[x] 38)).grownBy w' v.ownBlock ∧ Below base w w') → K (a.put o.dst v') w') :
    if Region.wanted o (yielded ops a.tmps) = true then Oper.wp Try.prog o a (W.alloc (.cells #[x] 38)) K Q else E := by
  have hw : Region.wanted o (yielded ops a.tmps) = true := by simp [Region.wanted, hgd]
  rw [if_pos hw]
  have h0 : OwnV (W.alloc (.cells #[x] 38)) base v xs := hown.below (bal (Below.refl _ _) _)
  have hb0 : Below base w (W.alloc (.cells #[x] 38)) := hb.alloc hbase _
  obtain ⟨v', w', hr, g1, g2⟩ := run_appV o.type (c := 1) h0 (show (W.alloc (.cells #[x] 38)).cell? ((⟨W.heap.size, 0, none⟩ : Addr).add 0) = some x by rw [Lib.add_plain]; exact cell_new1 W x _) h1 (by omega) (by simp; omega)
  unfold Oper.wp execOp
  simp only [ho, resolve, invoke, builtin, Sem.run_bind, Sem.run_pure, Result.andThen_ok, List.map_toArray, List.map_cons, List.map_nil, hs, hx, hr]
  exact h v' w' (mkHid ⟨g1, g2, OwnV.bel hb0 (by simp; omega) h0 g2⟩)
theorem own_empty (W : World) (base k : Nat) (hk : k = W.heap.size) (hb : base ≤ W.heap.size) : Own (W.alloc (.cells #[] 3)) base (.slice (some ⟨k, 0, none⟩) 0 0) [] := by
  subst hk
  refine ⟨rfl, .inr ⟨W.heap.size, 0, #[], rfl, hb, heap_alloc_new W _, Nat.zero_le _, by unfold maxLen; omega, rfl, rfl⟩⟩
/-- The copy that is being made. -/
structure CI (w W : World) (n : Int) (v v3 : Value) (xs : List Value) (M : List (List Int)) : Prop where
  t : TB W w.heap.size n v
  r : TB W (w.heap.size + 1) 0 (.slice none 0 0)
  o : TB W (w.heap.size + 1 + 1) n v3
  l : OwnV W w.heap.size v3 xs
  k : RowsO W w.heap.size xs M
  b : Below w.heap.size w W
theorem CI.next {w W W' : World} {n : Int} {v v3 : Value} {xs : List Value} {M : List (List Int)} (H : CI w W n v v3 xs M) (hb : Below W.heap.size W W') : CI w W' n v v3 xs M :=
  ⟨H.t.grows hb, H.r.grows hb, H.o.grows hb, H.l.below hb, H.k.below hb, bnx H.b hb⟩
theorem CI.drew {w W : World} {n : Int} {v v3 : Value} {xs : List Value} {M : List (List Int)} (H : CI w W n v v3 xs M) : CI w W.drew n v v3 xs M := ⟨H.t, H.r, H.o, H.l, H.k, H.b.drew⟩
set_option maxRecDepth 100000 in
set_option maxHeartbeats 3000000 in
theorem copy_any (n : Int) (v : Value) (L : List (List Int)) (w : World) (h : Th w v L) (hL : L.length ≤ 60) (hl : ∀ c ∈ L, c.length ≤ 140) :
    Calls Try.prog 19 #[.agg #[.int .i64 n, v]] w fun e w' => ∃ u, e = .returned (.agg #[.int .i64 n, u]) ∧ Hid (OwnC w' w.heap.size u L ∧ Below w.heap.size w w') := by
  have HT := mkHid h
  have H0 : Hid (CI w (((w.alloc (.cells #[.int .i64 n, v] 24)).alloc (.cells #[.int .i64 0, .slice none 0 0] 24)).alloc (.cells #[.int .i64 n, .slice none 0 0] 24)) n v (.slice none 0 0) [] []) := mkHid
    ⟨((TB.new w w.heap.size n v rfl).grows (bal (Below.refl _ _) _)).grows (bal (Below.refl _ _) _), (TB.new _ _ _ _ (by simp)).grows (bal (Below.refl _ _) _), TB.new _ _ _ _ (by simp), OwnV.nil _ _, RowsO.nil _ _, bal (bal (bal (Below.refl _ w) _) _) _⟩
  obtain ⟨ao, cap, rfl, hc⟩ := h.cls
  have HC := mkHid hc
  have HL := mkHid hL
  have HLL := mkHid hl
  have a1 := H0.out.t.at.2
  have z1 := ((TB.new w w.heap.size n (.slice ao L.length cap) rfl).grows (bal (Below.refl _ _) (.cells #[.int .i64 0, .slice none 0 0] 24))).at.1
  have hlen := h.len
  clear h hc hl
  go_enter Try.func19, Try.ntmps19
  go_wp2
  go_loopw [12] (fun iv wr => ∃ k : Nat, k ≤ L.length ∧ iv = .int .i64 (k : Int) ∧ Hid (∃ v3 xs, CI w wr n (.slice ao L.length cap) v3 xs (L.take k))) (fun iv _ => L.length - (intOf iv).toNat)
  case atStart => exact ⟨0, Nat.zero_le _, rfl, mkHid ⟨_, _, H0.out⟩⟩
  case round =>
    obtain ⟨k, hk, rfl, H⟩ := hrel
    obtain ⟨v3, xs, hci⟩ := H.out
    have HH := mkHid hci
    clear H H0 hci a1 z1
    by_cases hlt : k < L.length
    · obtain ⟨c, hc⟩ : ∃ c, L[k]? = some c := ⟨L[k], List.getElem?_eq_getElem hlt⟩
      obtain ⟨b, off, x, rfl, hx, hi⟩ := HC.out k c hc
      have p1 := cell_grows HH.out.b hx
      have hk1 : (k : Int) < (L.length : Int) := by omega
      have hk0 : (0 : Int) ≤ (k : Int) := by omega
      have hcl := HLL.out c (List.mem_of_getElem? hc)
      have HE : Hid (L.take (k + 1) = L.take k ++ [c]) := mkHid (by rw [List.take_add_one, hc]; rfl)
      have HXL : Hid (xs.length ≤ 60) := mkHid (by rw [HH.out.k.1, List.length_take]; have := HL.out; omega)
      obtain ⟨ac, cc, rfl⟩ := hi.form
      have HI := mkHid (hi.next HH.out.b)
      obtain ⟨o0, o1⟩ := HH.out.o.at
      have e0 := (own_empty wr w.heap.size wr.heap.size rfl HH.out.b.size).below (Below.refl _ _).drew
      have HE0 := mkHid e0
      obtain ⟨l0, l1⟩ := (HH.out.o.grows (bal (Below.refl _ wr) (.cells #[] 3))).at
      clear hc hx hi e0
      go_wp2
      go_region_law (first
        | (go_loud (refine step_app rfl (.tmp 18) (.tmp 19) rfl (by simp [Act.eval]) (by simp [Act.eval]) (base := w.heap.size) (l := []) (l2 := c) HE0.out (HI.out.next (bal (Below.refl _ wr) (.cells #[] 3)).drew) (by simp; omega) (by have := HH.out.b.size; simp; omega) ?_; intro v6 w6 hown6 hg6; have B6 := mkHid (((bal (Below.refl _ wr) (.cells #[] 3)).drew.grown hg6 (by simp) (fun j hj => Nat.le_of_eq (by simpa [Value.ownBlock] using hj)))); have hown7 := hown6; rw [List.nil_append] at hown7; have O6 := mkHid hown7; obtain ⟨a6, c6, rfl⟩ := hown7.ints.form; have N6 := mkHid (HH.out.next B6.out); obtain ⟨u0, u1⟩ := N6.out.o.at; obtain ⟨m0, m1⟩ := (N6.out.o.grows (bal (Below.refl _ w6) (.cells #[.slice a6 c.length c6] 38))).at; clear hown6 hown7 hg6))
        | (refine step_appV rfl (.tmp 17) (.tmp 21) rfl (by simp [Act.eval]) (by simp [Act.eval]) (x := .slice a6 c.length c6) N6.out.l (oneCell_slice _ _ _) (by have := HXL.out; omega) N6.out.b.size N6.out.b ?_; intro v8 w8 H8; have T8 := mkHid (N6.out.o.app N6.out.l H8.out.2.1); obtain ⟨a8, c8, rfl⟩ := H8.out.1.vals.form; obtain ⟨y0, y1⟩ := T8.out.at; obtain ⟨yf0, yf1⟩ := T8.out.free))
      all_goals
        go_wp2
        go_roundw
        case rel =>
          refine ⟨k + 1, by omega, by go_num, mkHid ⟨_, xs ++ [Value.slice a6 c.length c6], (N6.out.t.app N6.out.l H8.out.2.1).off (by omega) _, (N6.out.r.app N6.out.l H8.out.2.1).off (by omega) _, T8.out.set1 _, ?_, ?_, bst H8.out.2.2 (by show w.heap.size ≤ w.heap.size + 1 + 1; omega) _⟩⟩
          · have := H8.out.1.set (o := 1) (u' := .slice a8 (xs ++ [Value.slice a6 c.length c6]).length c8) T8.out
            rw [List.length_append] at this
            exact this
          · rw [HE.out]; exact (N6.out.k.app N6.out.l O6.out H8.out.2.1).setT T8.out
        case measure => simp [intOf]; omega
    · have hk1 : ¬ (k : Int) < (L.length : Int) := by omega
      have HE : Hid (L.take k = L) := mkHid (by rw [List.take_of_length_le (by omega)])
      obtain ⟨a3, c3, e3⟩ : ∃ a3 c3, v3 = .slice a3 xs.length c3 := HH.out.l.vals.form
      subst e3
      obtain ⟨o0, o1⟩ := HH.out.o.at
      obtain ⟨r0, r1⟩ := HH.out.r.at
      obtain ⟨rf0, rf1⟩ := HH.out.r.free
      go_wp2
      refine bodyPost_ret (v := .agg #[.int .i64 n, .slice a3 xs.length c3]) (by simp [results, Try.results19, go_sem, r0, r1]) rfl ?_
      have hr1 : TB (wr.setCell ⟨w.heap.size + 1, 0, none⟩ (.int .i64 n)) (w.heap.size + 1) n (.slice none 0 0) := by
        have := HH.out.r
        unfold TB at this ⊢
        simp [World.setCell, Array.getElem?_modify, this]
      have hoc : OwnC wr w.heap.size (.slice a3 xs.length c3) L := ⟨xs, HH.out.l, by rw [← HE.out]; exact HH.out.k⟩
      exact ⟨_, rfl, mkHid ⟨(hoc.setT (o := 0) (u' := .int .i64 n) HH.out.r).setT (o := 1) (u' := .slice a3 xs.length c3) hr1, bst2 HH.out.b _ (by omega) _ _⟩⟩
end Go.Proofs.Ytalpbpcanebbbaa
