/- A list of lists made of two slices a round; the reversed clauses of TheoryOrder, plain. -/
import Derived.Test.YtalpbpcanebbbaaUD
import Derived.Test.YtalpbpcanebbbaaTF
namespace Go.Proofs.Ytalpbpcanebbbaa
open Go.RowKit VM LM TM

theorem vals2 (W : World) (x z : Value) : Vals (W.alloc (.cells #[x, z] 38)) (.slice (some ⟨W.heap.size, 0, none⟩) 2 2) [x, z] := by
  refine ⟨some ⟨W.heap.size, 0, none⟩, 2, rfl, fun j u hj => ⟨W.heap.size, 0, rfl, ?_⟩⟩
  match j, hj with
  | 0, hj => simp at hj; subst hj; exact (new2 W _ _ _).1
  | 1, hj => simp at hj; subst hj; exact (new2 W _ _ _).2
theorem wpList_appV2 {W : World} {ops : Array Oper} {rest : List Oper} {o : Oper} {a : Act} {Q : Exit → Act → World → Prop} (hgd : o.guard = none) (s y : Operand)
    (ho : o.op = .call { callee := .builtin .append, args := #[s, y], argTypes := #[22, 22] })
    {base : Nat} {v x z : Value} {xs : List Value} (hs : a.eval s = v) (hx : a.eval y = .slice (some ⟨W.heap.size, 0, none⟩) 2 2) (hown : OwnV W base v xs) (h1 : x.oneCell' = true) (h2 : z.oneCell' = true) (hlen : xs.length ≤ 1000) (hbase : base ≤ W.heap.size)
    (h : ∀ v' w', Hid (OwnV w' base v' (xs ++ [x, z]) ∧ (W.alloc (.cells #[x, z] 38)).grownBy w' v.ownBlock ∧ Below base W w') → wpList Try.prog ops Q rest (a.put o.dst v') w') :
    wpList Try.prog ops Q (o :: rest) a (W.alloc (.cells #[x, z] 38)) := by
  refine wpList_plain hgd fun K hK => ?_
  have h0 : OwnV (W.alloc (.cells #[x, z] 38)) base v xs := hown.below (bal (Below.refl _ _) _)
  obtain ⟨v', w', hr, g1, g2⟩ := run_appVs o.type h0 (vals2 W x z) (by simp [h1, h2]) (by simp; omega) (by simp; omega)
  unfold Oper.wp execOp
  simp only [ho, resolve, invoke, builtin, Sem.run_bind, Sem.run_pure, Result.andThen_ok, List.map_toArray, List.map_cons, List.map_nil, hs, hx, hr]
  exact hK _ _ (h v' w' (mkHid ⟨g1, g2, OwnV.bel ((Below.refl base W).alloc hbase _) (by simp; omega) h0 g2⟩))
/-- The clauses that are being made: each the call's own, or one of those that came in. -/
structure OI (Wk W : World) (n : Int) (v3 : Value) (xs : List Value) (M : List (List Int)) : Prop where
  b : Below Wk.heap.size Wk W
  o : TB W Wk.heap.size n v3
  l : OwnV W Wk.heap.size v3 xs
  e : xs.length = M.length
  k : ∀ (j : Nat) (x : Value) (c : List Int), xs[j]? = some x → M[j]? = some c → Own W Wk.heap.size x c ∨ Ints Wk x c
theorem OI.next {Wk W W' : World} {n : Int} {v3 : Value} {xs : List Value} {M : List (List Int)} (H : OI Wk W n v3 xs M) (hb : Below W.heap.size W W') : OI Wk W' n v3 xs M :=
  ⟨bnx H.b hb, H.o.grows hb, H.l.below hb, H.e, fun j x c h1 h2 => (H.k j x c h1 h2).imp (fun h => h.below hb) id⟩
theorem OI.cls {Wk W : World} {n : Int} {v3 : Value} {xs : List Value} {M : List (List Int)} (H : OI Wk W n v3 xs M) : Cls W v3 M :=
  cls_of_vals H.l.vals ⟨H.e, fun j x c h1 h2 => by
    rcases H.k j x c h1 h2 with h | h
    · exact h.ints
    · exact h.next H.b⟩
theorem snoc2 {α β : Type} {xs : List α} {L : List β} {x z : α} {c d : β} (hl : xs.length = L.length) {j : Nat} {y : α} {f : β} (h1 : (xs ++ [x, z])[j]? = some y) (h2 : (L ++ [c, d])[j]? = some f) : (xs[j]? = some y ∧ L[j]? = some f) ∨ (y = x ∧ f = c) ∨ (y = z ∧ f = d) := by
  rw [show xs ++ [x, z] = (xs ++ [x]) ++ [z] by simp] at h1
  rw [show L ++ [c, d] = (L ++ [c]) ++ [d] by simp] at h2
  rcases snoc_get (by simp [hl]) h1 h2 with ⟨h1, h2⟩ | h
  · rcases snoc_get hl h1 h2 with h | h
    · exact .inl h
    · exact .inr (.inl h)
  · exact .inr (.inr h)
theorem OI.app {Wk W w8 : World} {n : Int} {v3 v9 x z : Value} {xs : List Value} {M : List (List Int)} {c d : List Int} (H : OI Wk W n v3 xs M) (hx : Own W Wk.heap.size x c) (hz : Ints Wk z d)
    (h8 : OwnV w8 Wk.heap.size v9 (xs ++ [x, z]) ∧ (W.alloc (.cells #[x, z] 38)).grownBy w8 v3.ownBlock ∧ Below Wk.heap.size W w8) : TB w8 Wk.heap.size n v3 ∧ OI Wk (w8.setCell ⟨Wk.heap.size, 1, none⟩ v9) n v9 (xs ++ [x, z]) (M ++ [c, d]) := by
  have al : Below W.heap.size W (W.alloc (.cells #[x, z] 38)) := bal (Below.refl _ _) _
  have l0 := H.l.below al
  have t8 : TB w8 Wk.heap.size n v3 := (H.o.grows al).kept h8.2.1 (l0.not_tb (H.o.grows al))
  refine ⟨t8, (H.b.trans h8.2.2).setCell (p := ⟨Wk.heap.size, 1, none⟩) (Nat.le_refl _) _, t8.set1 _, h8.1.set t8, by simp [H.e], fun j y f h1 h2 => ?_⟩
  rcases snoc2 H.e h1 h2 with ⟨h1, h2⟩ | ⟨rfl, rfl⟩ | ⟨rfl, rfl⟩
  · exact (H.k j y f h1 h2).imp (fun h => ((h.below al).kept h8.2.1 l0.not_int).setT t8) id
  · exact .inl (((hx.below al).kept h8.2.1 l0.not_int).setT t8)
  · exact .inr hz
/-- What the made clauses have to do with those that came in. -/
structure OM (n : Int) (K : List (List Int)) (tn i : Nat) (M : List (List Int)) : Prop where
  len : M.length = 2 * i
  few : Few n M
  back : ∀ d ∈ M, ∃ c ∈ K, ∀ x, x ∈ d ↔ x ∈ c
  all : ∀ j, j < i → ∀ c, K[(j + tn) % K.length]? = some c → c ∈ M
theorem OM.nil (n : Int) (K : List (List Int)) (tn : Nat) : OM n K tn 0 [] := ⟨rfl, fun c hc => by simp at hc, fun c hc => by simp at hc, fun j hj => by omega⟩
theorem valid_same {n : Int} {c d : List Int} (h : validAll c n = true) (hd : ∀ x, x ∈ d ↔ x ∈ c) : validAll d n = true := valid_of fun x hx => of_valid h x ((hd x).1 hx)
theorem OM.step {n : Int} {K M : List (List Int)} {tn i : Nat} {c d : List Int} (H : OM n K tn i M) (hK : Few n K) (hc : K[(i + tn) % K.length]? = some c) (hl : d.length ≤ 100) (hd : ∀ x, x ∈ d ↔ x ∈ c) : OM n K tn (i + 1) (M ++ [d, c]) := by
  have hm := List.mem_of_getElem? hc
  have key : ∀ y, y ∈ M ++ [d, c] ↔ y ∈ M ∨ y = d ∨ y = c := fun y => by simp
  refine ⟨by simp [H.len]; omega, fun y hy => ?_, fun y hy => ?_, fun j hj f hf => ?_⟩
  · rcases (key y).1 hy with hy | rfl | rfl
    · exact H.few y hy
    · exact ⟨hl, valid_same (hK c hm).2 hd⟩
    · exact hK _ hm
  · rcases (key y).1 hy with hy | rfl | rfl
    · exact H.back y hy
    · exact ⟨c, hm, hd⟩
    · exact ⟨_, hm, fun x => Iff.rfl⟩
  · by_cases e : j = i
    · subst e
      rw [hc] at hf
      obtain rfl := Option.some.inj hf
      exact (key _).2 (.inr (.inr rfl))
    · exact (key _).2 (.inl (H.all j (by omega) f hf))
theorem OM.done {n : Int} {K M : List (List Int)} {tn : Nat} (H : OM n K tn K.length M) : nmK K = nmK M := by
  refine nmK_congr (fun c hc => ⟨c, ?_, fun x => Iff.rfl⟩) H.back
  obtain ⟨m, hm⟩ := List.mem_iff_getElem?.1 hc
  have hlt := (List.getElem?_eq_some_iff.1 hm).1
  refine H.all ((m + (K.length - tn % K.length)) % K.length) (Nat.mod_lt _ (by omega)) c ?_
  have : ((m + (K.length - tn % K.length)) % K.length + tn) % K.length = m := by
    have h1 := Nat.mod_lt tn (show 0 < K.length by omega)
    rw [Nat.mod_add_mod]
    have e := Nat.div_add_mod tn K.length
    generalize tn % K.length = r at *
    generalize tn / K.length = z at *
    rw [show m + (K.length - r) + tn = m + K.length * (z + 1) by rw [← e, Nat.mul_add]; omega, Nat.add_mul_mod_self_left, Nat.mod_eq_of_lt hlt]
  rw [this]; exact hm
/-- A clause that is being turned round. -/
def rvK (c : List Int) (k : Nat) : List Int := c.take (c.length - k) ++ (c.take k).reverse
theorem rvK_length {c : List Int} {k : Nat} (h : k ≤ c.length) : (rvK c k).length = c.length := by
  unfold rvK; simp; omega
theorem rvK_zero (c : List Int) : rvK c 0 = c := by unfold rvK; simp
theorem rvK_all (c : List Int) : rvK c c.length = c.reverse := by unfold rvK; simp
theorem rvK_set {c : List Int} {k : Nat} {x : Int} (hx : c[k]? = some x) : (rvK c k).set (c.length - 1 - k) x = rvK c (k + 1) := by
  have hk := (List.getElem?_eq_some_iff.1 hx).1
  unfold rvK
  have e : c.take (k + 1) = c.take k ++ [x] := by rw [List.take_add_one, hx]; rfl
  rw [e, List.reverse_append, List.set_append, if_pos (by simp; omega)]
  have e2 : c.length - k = (c.length - 1 - k) + 1 := by omega
  have hlt : c.length - 1 - k < c.length := by omega
  rw [e2, List.take_add_one, List.getElem?_eq_getElem hlt]
  rw [show c.length - (k + 1) = c.length - 1 - k by omega]
  rw [List.set_append, if_neg (by simp; omega)]
  simp
  rw [show c.length - 1 - k - min (c.length - 1 - k) c.length = 0 by omega]
  rfl
end Go.Proofs.Ytalpbpcanebbbaa
