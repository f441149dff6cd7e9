/- works: the chapter's examples; contracts at slices that have just been made. -/
import Derived.Test.YtniagnbeeebobaaLP
import Derived.Test.YtniagnbeeebobaaLZ
namespace Go.Proofs.Ytniagnbeeebobaa
open Go.RowKit VM LM

/-- A slice that has just been made of these numbers. -/
abbrev nw (W : World) (arr : Array Value) : World := W.alloc (.cells arr 3)
theorem Ints.made (W : World) (l : List Int) (arr : Array Value) (n : Nat) (ha : arr = (l.map (Value.int .i64)).toArray) (hn : n = l.length) : Ints (nw W arr) (.slice (some ⟨W.heap.size, 0, none⟩) n n) l := by
  subst ha hn; exact Ints.new W l _ _ rfl
theorem term_new (l : List Int) (arr : Array Value) (n : Nat) (m : Int) (ha : arr = (l.map (Value.int .i64)).toArray) (hn : n = l.length) (hlen : l.length ≤ 1000000) (h64 : ∀ x ∈ l, In64 x) (W : World) :
    Calls Try.prog 18 #[.slice (some ⟨W.heap.size, 0, none⟩) n n, .int .i64 m] (nw W arr) fun e w' => ∃ u, e = .returned (.tuple #[u, .bool (tmB l m)]) ∧ Hid (Own w' W.heap.size u (tmL l m) ∧ Below W.heap.size W w') :=
  (term_any _ l m _ (Ints.made W l arr n ha hn) hlen h64).mono fun e w' ⟨u, he, ho, hb⟩ => ⟨u, he, mkHid ⟨ho.weaken (by simp), bnx (bal (Below.refl _ _) _) hb⟩⟩
theorem clause_new (l : List Int) (arr : Array Value) (n : Nat) (m : Int) (ha : arr = (l.map (Value.int .i64)).toArray) (hn : n = l.length) (hlen : l.length ≤ 1000000) (h64 : ∀ x ∈ l, In64 x) (W : World) :
    Calls Try.prog 20 #[.slice (some ⟨W.heap.size, 0, none⟩) n n, .int .i64 m] (nw W arr) fun e w' => ∃ u, e = .returned (.tuple #[u, .bool (clB l m), .int .i64 (clE l m)]) ∧ Hid (Own w' W.heap.size u (clL l m) ∧ Below W.heap.size W w') :=
  (clause_any _ l m _ (Ints.made W l arr n ha hn) hlen h64).mono fun e w' ⟨u, he, ho, hb⟩ => ⟨u, he, mkHid ⟨ho.weaken (by simp), bnx (bal (Below.refl _ _) _) hb⟩⟩
theorem resolve_new (c d : List Int) (ca da : Array Value) (cn dn : Nat) (v : Int) (ha : ca = (c.map (Value.int .i64)).toArray) (hn : cn = c.length) (hb : da = (d.map (Value.int .i64)).toArray) (hm : dn = d.length) (hcl : c.length ≤ 100000) (hdl : d.length ≤ 100000) (hc64 : ∀ x ∈ c, In64 x) (hd64 : ∀ x ∈ d, In64 x) (W : World) :
    Calls Try.prog 29 #[.slice (some ⟨W.heap.size, 0, none⟩) cn cn, .slice (some ⟨W.heap.size + 1, 0, none⟩) dn dn, .int .i64 v] (nw (nw W ca) da) fun e w' => ∃ u, e = .returned (.tuple #[u, .bool (rsB c d v)]) ∧ Hid (Own w' W.heap.size u (rsL c d v) ∧ Below W.heap.size W w') := by
  have h1 := (Ints.made W c ca cn ha hn).next (bal (Below.refl _ _) (.cells da 3))
  have h2 := Ints.made (nw W ca) d da dn hb hm
  rw [show (nw W ca).heap.size = W.heap.size + 1 by simp] at h2
  exact (resolve_any _ _ c d v _ h1 h2 hcl hdl hc64 hd64).mono fun e w' ⟨u, he, ho, hb⟩ => ⟨u, he, mkHid ⟨ho.out.weaken (by simp; omega), bnx (bal (bal (Below.refl _ _) _) _) hb⟩⟩
theorem same_new (l : List Int) (arr : Array Value) (n : Nat) (ha : arr = (l.map (Value.int .i64)).toArray) (hn : n = l.length) (hlen : l.length ≤ 1000000) (W : World) (v : Value) (hv : Ints W v l) :
    Calls Try.prog 22 #[v, .slice (some ⟨W.heap.size, 0, none⟩) n n] (nw W arr) fun e w' => e = .returned (.bool true) ∧ Below W.heap.size W w' := by
  have h := rsame_any v _ l l _ (hv.next (bal (Below.refl _ _) _)) (Ints.made W l arr n ha hn) hlen hlen
  rw [decide_eq_true rfl] at h
  exact h.mono fun e w' ⟨he, hb⟩ => ⟨he, bnx (bal (Below.refl _ _) _) hb⟩
theorem lit64 {l : List Int} (h : l.all (fun x => decide (-1000 ≤ x ∧ x ≤ 1000)) = true) : ∀ x ∈ l, In64 x := by
  intro x hx
  have := List.all_eq_true.1 h x hx
  simp only [decide_eq_true_eq] at this
  unfold In64; omega

theorem ex1 : tmL [3, -1, 3] 3 = [-1, 3] := by decide +kernel
theorem ex1b : tmB [3, -1, 3] 3 = true := by decide +kernel
theorem ex2 : clL [3, -1, 3, -3] 3 = [-1, -3, 3] := by decide +kernel
theorem ex2b : clB [3, -1, 3, -3] 3 = true := by decide +kernel
theorem ex2e : clE [3, -1, 3, -3] 3 = 0 := by decide +kernel
theorem ex3 : rsL [1, 2] [-1, 3, -2] 1 = [-2, 2, 3] := by decide +kernel
theorem ex3b : rsB [1, 2] [-1, 3, -2] 1 = true := by decide +kernel
theorem ex4 : holdsL (bit 1) 1 = true := by decide +kernel
theorem ex5 : holdsL (bit 1) 2 = false := by decide +kernel
theorem ex6 : sv (bit 1) = .agg #[.int .u64 1, .int .u64 0] := by kernel_rfl
theorem ex7 : varL (-5) = 5 := by decide +kernel

set_option maxRecDepth 100000 in
set_option maxHeartbeats 4000000 in
theorem works_any (w : World) :
    Calls Try.prog 16 #[] w fun e w' => e = .returned (.bool true) ∧ Below w.heap.size w w' := by
  have CT := term_new [3, -1, 3] #[.int .i64 3, .int .i64 (-1), .int .i64 3] 3 3 rfl rfl (by decide) (lit64 (by decide))
  have CC := clause_new [3, -1, 3, -3] #[.int .i64 3, .int .i64 (-1), .int .i64 3, .int .i64 (-3)] 4 3 rfl rfl (by decide) (lit64 (by decide))
  have CR := resolve_new [1, 2] [-1, 3, -2] #[.int .i64 1, .int .i64 2] #[.int .i64 (-1), .int .i64 3, .int .i64 (-2)] 2 3 1 rfl rfl rfl rfl (by decide) (by decide) (lit64 (by decide)) (lit64 (by decide))
  have S1 := mkHid (same_new [-1, 3] #[.int .i64 (-1), .int .i64 3] 2 rfl rfl (by decide))
  have S2 := mkHid (same_new [-1, -3, 3] #[.int .i64 (-1), .int .i64 (-3), .int .i64 3] 3 rfl rfl (by decide))
  have S3 := mkHid (same_new [-2, 2, 3] #[.int .i64 (-2), .int .i64 2, .int .i64 3] 3 rfl rfl (by decide))
  have CH := fun W => holds_any (bit 1) 1 W (by unfold In64; omega)
  have CI := fun W => holds_any (bit 1) 2 W (by unfold In64; omega)
  have CV := fun W => var_any (-5) W (by unfold In64; omega)
  rw [ex1, ex1b] at CT
  rw [ex2, ex2b, ex2e] at CC
  rw [ex3, ex3b] at CR
  rw [ex4, ex6] at CH
  rw [ex5, ex6] at CI
  rw [ex7] at CV
  have CT := mkHid CT
  have CC := mkHid CC
  have CR := mkHid CR
  have CH := mkHid CH
  have CI := mkHid CI
  have CV := mkHid CV
  go_enter Try.func16, Try.ntmps16
  go_wp2_with (first
    | (go_at_call 18; refine (CT.out _).mono ?_; rintro e w1 ⟨u1, rfl, H1⟩; have HO1 := mkHid H1.out.1; have HB1 := mkHid H1.out.2; clear H1)
    | (go_at_call 20; refine (CC.out _).mono ?_; rintro e w2 ⟨u2, rfl, H2⟩; have HO2 := mkHid H2.out.1; have HB2 := mkHid (bnx HB1.out H2.out.2); have HO12 := mkHid (HO1.out.below H2.out.2); clear H2)
    | (go_at_call 29; refine (CR.out _).mono ?_; rintro e w3 ⟨u3, rfl, H3⟩; have HO3 := mkHid H3.out.1; have HB3 := mkHid (bnx HB2.out H3.out.2); have HO13 := mkHid (HO12.out.below H3.out.2); have HO23 := mkHid (HO2.out.below H3.out.2); clear H3)
    | (go_at_call 22; with_reducible refine (S1.out _ _ HO13.out.ints).mono ?_; rintro e w4 ⟨rfl, hb⟩; have HB4 := mkHid (bnx HB3.out hb); have HO24 := mkHid (HO23.out.below hb); have HO34 := mkHid (HO3.out.below hb); clear hb)
    | (go_at_call 22; with_reducible refine (S2.out _ _ HO24.out.ints).mono ?_; rintro e w5 ⟨rfl, hb⟩; have HB5 := mkHid (bnx HB4.out hb); have HO35 := mkHid (HO34.out.below hb); clear hb)
    | (go_at_call 22; with_reducible refine (S3.out _ _ HO35.out.ints).mono ?_; rintro e w6 ⟨rfl, hb⟩; have HB6 := mkHid (bnx HB5.out hb); clear hb)
    | (go_at_call 23; with_reducible refine (CH.out _).mono ?_; rintro e w7 ⟨rfl, hb⟩; have HB7 := mkHid (bnx HB6.out hb); clear hb)
    | (go_at_call 23; with_reducible refine (CI.out _).mono ?_; rintro e w8 ⟨rfl, hb⟩; have HB8 := mkHid (bnx HB7.out hb); clear hb)
    | (go_at_call 12; with_reducible refine (CV.out _).mono ?_; rintro e w9 ⟨rfl, rfl⟩))
  go_ret
  exact ⟨rfl, HB8.out⟩
end Go.Proofs.Ytniagnbeeebobaa
