/- Contract of Given. -/
import Derived.Test.YtalpbpcanebbbaaTG
import Derived.Test.YtalpbpcanebbbaaTQe
namespace Go.Proofs.Ytalpbpcanebbbaa
open Go.RowKit Go.Shelf VM LM TM

attribute [local go_sem] Oper.semAt_some

/-- The world has grown, but for blocks from B on and one block. -/
structure BX (B x : Nat) (W W' : World) : Prop where
  os : W'.os = W.os
  tape : W'.tape = W.tape
  output : W'.output = W.output
  size : W.heap.size ≤ W'.heap.size
  block : ∀ k, k < B → k ≠ x → W'.heap[k]? = W.heap[k]?
theorem BX.of {B x : Nat} {W W' : World} (h : Below B W W') : BX B x W W' := ⟨h.os, h.tape, h.output, h.size, fun k hk _ => h.block k hk⟩
theorem BX.trans {B x : Nat} {A C D : World} (h : BX B x A C) (k : BX B x C D) : BX B x A D :=
  ⟨k.os.trans h.os, k.tape.trans h.tape, k.output.trans h.output, Nat.le_trans h.size k.size, fun j h1 h2 => (k.block j h1 h2).trans (h.block j h1 h2)⟩
theorem BX.next {B x : Nat} {A C D : World} (h : BX B x A C) (hB : B ≤ C.heap.size) (k : Below C.heap.size C D) : BX B x A D := h.trans (.of (k.mono hB))
theorem BX.set {B x o : Nat} {A C : World} (h : BX B x A C) (v : Value) : BX B x A (C.setCell ⟨x, o, none⟩ v) := by
  refine h.trans ⟨rfl, rfl, rfl, by simp, fun k _ hk => ?_⟩
  exact Below.heap_setCell _ _ _ _ hk
theorem BX.cell {B x b o : Nat} {A C : World} {v : Value} (h : BX B x A C) (hc : A.cell? ⟨b, o, none⟩ = some v) (hb : b < B) (hx : b ≠ x) : C.cell? ⟨b, o, none⟩ = some v :=
  (World.cell?_of_block (a := ⟨b, o, none⟩) (h.block b hb hx)).trans hc
theorem BX.ats {B x b : Nat} {A C : World} {p q : Int} (h : BX B x A C) (hc : AtS A b p q) (hb : b < B) (hx : b ≠ x) : AtS C b p q := hc.same (h.block b hb hx)
theorem BX.tb {B x b : Nat} {A C : World} {n : Int} {v : Value} (h : BX B x A C) (hc : TB A b n v) (hb : b < B) (hx : b ≠ x) : TB C b n v := (h.block b hb hx).trans hc
theorem BX.below {B x B0 : Nat} {w A C : World} (h : BX B x A C) (hw : Below B0 w A) (h1 : B0 ≤ B) (h2 : B0 ≤ x) : Below B0 w C :=
  hw.trans ⟨h.os, h.tape, h.output, h.size, fun k hk => h.block k (by omega) (by omega)⟩
theorem OwnV.keptN {w w' : World} {base : Nat} {v : Value} {xs : List Value} {row : Option Nat} (h : OwnV w base v xs) (hg : w.grownBy w' row) (hr : ∀ r, row = some r → ∃ o : Obj, w.heap[r]? = some o ∧ o.isCells = false) : OwnV w' base v xs := by
  refine ⟨h.1, h.2.imp id ?_⟩
  rintro ⟨g, cap, cur, hv, hgb, hc, h1, h2, h3, h4⟩
  refine ⟨g, cap, cur, hv, hgb, ?_, h1, h2, h3, h4⟩
  rw [hg.block g (Array.getElem?_eq_some_iff.1 hc).1 (fun e => by
    obtain ⟨o, ho, hn⟩ := hr g e.symm
    rw [hc] at ho
    obtain rfl := Option.some.inj ho
    cases hn)]
  exact hc
theorem OwnC.keptN {w w' : World} {base : Nat} {v : Value} {L : List (List Int)} {row : Option Nat} (h : OwnC w base v L) (hg : w.grownBy w' row) (hr : ∀ r, row = some r → ∃ o : Obj, w.heap[r]? = some o ∧ o.isCells = false) : OwnC w' base v L := by
  obtain ⟨xs, h1, h2⟩ := h
  refine ⟨xs, h1.keptN hg hr, h2.kept hg fun k hk cur f e => ?_⟩
  obtain ⟨o, ho, hn⟩ := hr k hk
  rw [e] at ho
  obtain rfl := Option.some.inj ho
  cases hn
theorem BX.grown {B x : Nat} {A C D : World} {row : Option Nat} (h : BX B x A C) (hB : B ≤ A.heap.size) (hg : C.grownBy D row) (hr : ∀ r, row = some r → B ≤ r) : BX B x A D :=
  ⟨hg.os.trans h.os, hg.tape.trans h.tape, hg.output.trans h.output, Nat.le_trans h.size hg.size, fun k h1 h2 => (hg.block k (by have := h.size; omega) (fun e => by have := hr k e.symm; omega)).trans (h.block k h1 h2)⟩
theorem keepsFrom_below {B : Nat} {W W' : World} (h : Below W.heap.size W W') : KeepsFrom B W W' := ⟨h.size, fun k _ _ hk _ => (h.block k (Array.getElem?_eq_some_iff.1 hk).1).trans hk⟩
theorem keepsFrom_own {B : Nat} {W W' : World} {base : Nat} {v : Value} {xs : List Value} (h : OwnV W base v xs) (hg : W.grownBy W' v.ownBlock) : KeepsFrom B W W' :=
  ⟨hg.size, fun k o _ hk ho => (hg.block k (Array.getElem?_eq_some_iff.1 hk).1 (fun e => by
    obtain ⟨_, cur, h2⟩ := h.block e.symm
    rw [hk] at h2
    obtain rfl := Option.some.inj h2
    cases ho)).trans hk⟩
theorem keepsFrom_set {B b o : Nat} {W : World} {v : Value} (hb : b < B) : KeepsFrom B W (W.setCell ⟨b, o, none⟩ v) :=
  ⟨by simp, fun k _ hB hk _ => (Below.heap_setCell _ _ _ _ (by show k ≠ b; omega)).trans hk⟩
set_option maxRecDepth 100000 in
set_option maxHeartbeats 4000000 in
theorem given_in (m : Nat) (hm : 3 ≤ m) (n : Int) (v tv : Value) (L : List (List Int)) (t : List Int) (w : World) (h : Th w v L) (ht : Ints w tv t) (hs : t.length ≤ 1000000) (h64 : ∀ x ∈ t, In64 x) :
    CallsIn Fence.wide m Try.prog 26 #[.agg #[.int .i64 n, v], tv] w fun e w' => ∃ u, e = .returned (.tuple #[.agg #[.int .i64 (if gvE n L t = 0 then n else 0), u], .int .i64 (gvE n L t)]) ∧
      Hid (OwnC w' w.heap.size u (if gvE n L t = 0 then gvL t L else []) ∧ Below w.heap.size w w') := by
  have h1 : 1 ≤ m := by omega
  have hmf : ∀ (fn : Fn) (first cap : Array Value) (w : World), (Instr.makeFunc fn first cap).run Try.prog w = .ok (.func fn first cap) w := fun _ _ _ _ => rfl
  have CK := mkHid (fun W (hb : Below w.heap.size w W) => check_any n v L W (h.next hb))
  have CTM := mkHid (fun W (hb : Below w.heap.size w W) => term_any tv t n W (ht.next hb) hs h64)
  have HT := mkHid h
  have HB := mkHid (bal (bal (Below.refl _ w) (.cells #[.int .i64 n, v] 24)) (.cells #[.int .i64 0, .slice none 0 0] 24))
  have HA := mkHid ((TB.new w w.heap.size n v rfl).grows (bal (Below.refl _ _) (.cells #[.int .i64 0, .slice none 0 0] 24)))
  have HR := mkHid (TB.new (w.alloc (.cells #[.int .i64 n, v] 24)) (w.heap.size + 1) 0 (.slice none 0 0) (by simp))
  obtain ⟨ao, cap, rfl, hc⟩ := h.cls
  obtain ⟨tao, tcap, rfl⟩ := ht.form
  have HC := mkHid hc
  obtain ⟨a0, a1⟩ := HA.out.at
  have hlen := h.len
  clear h hc ht
  unfold gvE
  by_cases hk : ckT n L = 0
  · obtain ⟨hn, hL, hcs⟩ := ckT_zero.1 hk
    have HCS := mkHid hcs
    have HL := mkHid hL
    have HN := mkHid hn
    rw [if_pos hk]
    rw [hk] at CK
    clear hk hcs hL hn
    cases htm : tmB t n
    · simp only [htm] at CTM
      simp only [Bool.false_eq_true, if_false, show ¬ (1 : Int) = 0 from by omega]
      clear htm
      refine callsIn_of_wp_marks Try.func26 rfl trivial ?_ rfl
      simp only [Try.ntmps26, List.size_toArray, List.length_cons, List.length_nil, Nat.reduceAdd, Nat.reduceSub, Array.replicate_succ, Array.replicate_zero, List.push_toArray, List.append_toArray, List.nil_append, List.cons_append]
      gi_wp2_with (first
        | (refine ⟨trivial, ?_⟩; gi_at_call 17; refine (callsIn_wide.2 (CK.out _ HB.out)).mono ?_; rintro e w1 ⟨rfl, hb⟩; have G := mkHid (HA.out.grows hb); have G1 := mkHid (HR.out.grows hb); have GB := mkHid (bnx HB.out hb); obtain ⟨b0, b1⟩ := G.out.at; clear hb)
        | (refine ⟨trivial, ?_⟩; gi_at_call 57; refine (callsIn_wide.2 (CTM.out _ GB.out)).mono ?_; rintro e w2 ⟨u2, rfl, ho, hb⟩; have G2 := mkHid (G1.out.grows hb); have GB2 := mkHid (bnx GB.out hb); obtain ⟨r0, r1⟩ := G2.out.at; obtain ⟨rf0, rf1⟩ := G2.out.free; clear hb ho))
      refine ⟨.tuple #[.agg #[.int .i64 0, .slice none 0 0], .int .i64 1], by simp [results, Try.results26, go_sem, r0, r1], ?_⟩
      exact ⟨_, rfl, mkHid ⟨OwnC.nil _ _, bst2 GB2.out _ (by omega) _ _⟩⟩
    · have HTM := mkHid htm
      simp only [htm] at CTM
      simp only [if_true]
      have htl : tmL t n = order t := by unfold tmL; rw [if_pos htm]
      rw [htl] at CTM
      have CV := mkHid (fun (W : World) (u : Value) (hu : Ints W u (order t)) => variables_any u (order t) W hu (by have := order_length t; omega) (fun x hx => by have := (mem_order t x).1 hx; have := varL_pos this.2; unfold In64; omega))
      have CO := mkHid (fun (W : World) (u : Value) (hu : Ints W u (order t)) => of_any u (order t) W hu (by have := order_length t; omega))
      clear htm htl
      unfold sv at CV CO
      generalize hK : vrC (order t) = K at *
      generalize hY : ofL (order t) = Y at *
      have HK := mkHid hK
      have HY := mkHid hY
      clear hK hY
      generalize hkl : wd (lo K) = kl at *
      generalize hkh : wd (hi K) = kh at *
      generalize hyl : wd (lo Y) = yl at *
      generalize hyh : wd (hi Y) = yh at *
      have HW := mkHid (And.intro (And.intro hkl hkh) (And.intro hyl hyh))
      clear hkl hkh hyl hyh
      refine callsIn_of_wp_marks Try.func26 rfl trivial ?_ rfl
      simp only [Try.ntmps26, List.size_toArray, List.length_cons, List.length_nil, Nat.reduceAdd, Nat.reduceSub, Array.replicate_succ, Array.replicate_zero, List.push_toArray, List.append_toArray, List.nil_append, List.cons_append]
      gi_wp2_with (first
        | (refine ⟨trivial, ?_⟩; gi_at_call 17; refine (callsIn_wide.2 (CK.out _ HB.out)).mono ?_; rintro e w1 ⟨rfl, hb⟩; have G := mkHid (HA.out.grows hb); have G1 := mkHid (HR.out.grows hb); have GB := mkHid (bnx HB.out hb); obtain ⟨b0, b1⟩ := G.out.at; clear hb)
        | (refine ⟨trivial, ?_⟩; gi_at_call 57; refine (callsIn_wide.2 (CTM.out _ GB.out)).mono ?_; rintro e w2 ⟨u2, rfl, ho, hb⟩; have G2 := mkHid (G.out.grows hb); have GR2 := mkHid (G1.out.grows hb); have GB2 := mkHid (bnx GB.out hb); have HU2 := mkHid ho.ints; obtain ⟨au, cu, rfl⟩ := ho.ints.form; clear hb ho)
        | (refine ⟨trivial, ?_⟩; gi_at_call 58; refine (callsIn_wide.2 (CV.out _ _ HU2.out)).mono ?_; rintro e w3 ⟨rfl, hb⟩; have G3 := mkHid (G2.out.grows hb); have GR3 := mkHid (GR2.out.grows hb); have GB3 := mkHid (bnx GB2.out hb); have HU3 := mkHid (HU2.out.next hb); clear hb))
      refine ⟨trivial, ?_⟩
      gi_at_call 59
      refine (callsIn_wide.2 (CO.out _ _ HU3.out)).mono ?_
      rintro e w4 ⟨rfl, hb⟩
      have G4 := mkHid (G3.out.grows hb)
      have GR4 := mkHid (GR3.out.grows hb)
      have GB4 := mkHid (bnx GB3.out hb)
      have hz0 := G4.out.lt
      have hz1 := GR4.out.lt
      clear hb
      have X8 := mkHid ((AtS.new w4 w4.heap.size kl kh 36 rfl).alloc (.cells #[.int .u64 yl, .int .u64 yh] 36))
      have X9 := mkHid (AtS.new (w4.alloc (.cells #[.int .u64 kl, .int .u64 kh] 36)) (w4.heap.size + 1) yl yh 36 (by simp))
      have T4 := mkHid ((G4.out.grows (bal (Below.refl _ _) (.cells #[.int .u64 kl, .int .u64 kh] 36))).grows (bal (Below.refl _ _) (.cells #[.int .u64 yl, .int .u64 yh] 36)))
      have R4 := mkHid ((GR4.out.grows (bal (Below.refl _ _) (.cells #[.int .u64 kl, .int .u64 kh] 36))).grows (bal (Below.refl _ _) (.cells #[.int .u64 yl, .int .u64 yh] 36)))
      have B4 := mkHid (bal (bal GB4.out (.cells #[.int .u64 kl, .int .u64 kh] 36)) (.cells #[.int .u64 yl, .int .u64 yh] 36))
      clear a0 a1 b0 b1
      go_simp
      iterate 20 (try (first | gi_back | gi_step | gi_upon | go_values | go_simp))
      generalize hX : (w4.alloc (.cells #[.int .u64 kl, .int .u64 kh] 36)).alloc (.cells #[.int .u64 yl, .int .u64 yh] 36) = X at *
      have hXs : X.heap.size = w4.heap.size + 1 + 1 := by rw [← hX]; simp
      obtain ⟨d0, d1⟩ := T4.out.at
      generalize w4.heap.size = k4 at *
      clear hX G G1 GB G2 GR2 GB2 G3 GR3 GB3 G4 GR4 GB4 HU2 HU3 CK CTM CV CO HB HA HR
      have T5 := mkHid (T4.out.grows (bal (Below.refl _ _) (.cells #[.int .i64 n, .slice none 0 0] 24)))
      have R5 := mkHid (R4.out.grows (bal (Below.refl _ _) (.cells #[.int .i64 n, .slice none 0 0] 24)))
      have B5 := mkHid (bal B4.out (.cells #[.int .i64 n, .slice none 0 0] 24))
      have Y8 := mkHid (X8.out.alloc (.cells #[.int .i64 n, .slice none 0 0] 24))
      have Y9 := mkHid (X9.out.alloc (.cells #[.int .i64 n, .slice none 0 0] 24))
      have L5 := mkHid (TB.new X (k4 + 1 + 1) n (.slice none 0 0) hXs.symm)
      obtain ⟨e0, e1⟩ := T5.out.at
      have hXs2 : (X.alloc (.cells #[.int .i64 n, .slice none 0 0] 24)).heap.size = k4 + 1 + 1 + 1 := by rw [World.size_alloc, hXs]
      iterate 12 (try (first | gi_back | gi_step | gi_upon | go_values | go_simp))
      generalize hWL : X.alloc (.cells #[.int .i64 n, .slice none 0 0] 24) = WL at *
      clear hWL T4 R4 B4 X8 X9
      gi_wp2_with (refine ⟨trivial, ?_⟩; gi_at_call 52; refine (callsIn_wide.2 (unsatisfied_any n _ _ _ _)).mono ?_; rintro e w5 ⟨rfl, rfl⟩)
      have HW0 := mkHid (bal (bal (Below.refl _ WL) (.cells #[.int .i64 n, .slice ao L.length cap] 24)) (.cells #[(.func (.func 60) #[] #[.pointer (some ⟨k4, 0, none⟩), .pointer (some ⟨k4 + 1, 0, none⟩)])] 73))
      have f1 := mkHid ((TB.new WL (k4 + 1 + 1 + 1) n (.slice ao L.length cap) hXs2.symm).grows (bal (Below.refl _ _) (.cells #[(.func (.func 60) #[] #[.pointer (some ⟨k4, 0, none⟩), .pointer (some ⟨k4 + 1, 0, none⟩)])] 73)))
      have f2 := mkHid (cell_boxf (WL.alloc (.cells #[.int .i64 n, .slice ao L.length cap] 24)) (.func (.func 60) #[] #[.pointer (some ⟨k4, 0, none⟩), .pointer (some ⟨k4 + 1, 0, none⟩)]) 73 (k4 + 1 + 1 + 1 + 1) (by rw [World.size_alloc, hXs2]))
      have f3 := mkHid (Y8.out.grows HW0.out)
      have f4 := mkHid (Y9.out.grows HW0.out)
      have f5 := mkHid (bnx B5.out HW0.out)
      have f6 := mkHid (R5.out.grows HW0.out)
      have f7 := mkHid (L5.out.grows HW0.out)
      generalize hWS : ((WL.alloc (.cells #[.int .i64 n, .slice ao L.length cap] 24)).alloc (.cells #[(.func (.func 60) #[] #[.pointer (some ⟨k4, 0, none⟩), .pointer (some ⟨k4 + 1, 0, none⟩)])] 73)) = WS at *
      have hsz : WS.heap.size = k4 + 5 := by rw [← hWS]; simp [hXs2]
      clear hWS
      obtain ⟨xs, hV, hR⟩ := HT.out.cls.vals
      obtain ⟨ao', cap', ev, hcells⟩ := hV
      obtain ⟨rfl, _, rfl⟩ : ao = ao' ∧ L.length = xs.length ∧ cap = cap' := by simpa using ev
      have HRR := mkHid hR
      have eg : ∀ args w, (callFunc 60 args).run Try.prog w = .ok (.enter 60 args) w := enters_of Try.func60 (by kernel_rfl) rfl
      have eg2 : ∀ args w, (callFunc 65 args).run Try.prog w = .ok (.enter 65 args) w := enters_of Try.func65 (by kernel_rfl) rfl
      have hwk : w.heap.size + 1 < k4 := hz1
      have hBw : ∀ W, BX WS.heap.size (k4 + 1 + 1) WS W → Below w.heap.size w W := fun W hW => hW.below f5.out (by omega) (by omega)
      have hSV : ∀ W, BX WS.heap.size (k4 + 1 + 1) WS W → (∀ j x, xs[j]? = some x → ∃ b off, ao = some ⟨b, off, none⟩ ∧ W.cell? ⟨b, off + j, none⟩ = some x) ∧ Rows W xs L ∧ W.cell? ⟨k4 + 1 + 1 + 1, 1, none⟩ = some (.slice ao L.length cap) ∧ W.cell? ⟨k4 + 1 + 1 + 1 + 1, 0, none⟩ = some (.func (.func 60) #[] #[.pointer (some ⟨k4, 0, none⟩), .pointer (some ⟨k4 + 1, 0, none⟩)]) ∧ ∀ c ∈ L, PredG 60 #[.pointer (some ⟨k4, 0, none⟩), .pointer (some ⟨k4 + 1, 0, none⟩)] (fun x => has K (varL x) && holdsL Y x) c W := by
        intro W hW
        have hw := hBw W hW
        refine ⟨fun j x hj => ?_, HRR.out.next hw, hW.cell f1.out.at.2 (by omega) (by omega), hW.cell f2.out (by omega) (by omega), fun c hc W' x hb hx => ?_⟩
        · obtain ⟨b, off, e, hcx⟩ := hcells j x hj
          exact ⟨b, off, e, cell_grows hw hcx⟩
        · obtain ⟨⟨w1, w2⟩, w3, w4⟩ := HW.out
          refine (given1_any K Y x k4 (k4 + 1) W' ?_ ?_ (HT.out.in64 c hc x hx)).mono fun e w' ⟨he, hb'⟩ => ⟨he, bnx hb hb'⟩
          · rw [w1, w2]; exact (hW.ats f3.out (by omega) (by omega)).grows hb
          · rw [w3, w4]; exact (hW.ats f4.out (by omega) (by omega)).grows hb
      have hst := unsat_stops (m - 1) (by omega) (k4 + 1 + 1 + 1) (k4 + 1 + 1 + 1 + 1) 60 #[.pointer (some ⟨k4, 0, none⟩), .pointer (some ⟨k4 + 1, 0, none⟩)] (fun x => has K (varL x) && holdsL Y x) eg ao cap xs L (BX WS.heap.size (k4 + 1 + 1) WS) (by have := HL.out; omega) (fun c hc => by have := (HCS.out c hc).1; omega) hSV (fun W W' h1 h2 => h1.next h1.size h2) WS (.of (Below.refl _ _))
      have HSZ := mkHid hsz
      have HBW := mkHid hBw
      obtain ⟨i0, hi, hz0', hz1', hz2'⟩ := info_parts infoL
      refine wpIn_rangeFunc_ownG rfl h1 (gf := 82) (lb := #[.pointer (some ⟨k4 + 1 + 1 + 1, 0, none⟩), .pointer (some ⟨k4 + 1 + 1 + 1 + 1, 0, none⟩)]) rfl trivial (enters_of Try.func82 (by kernel_rfl) rfl)
        hst (fun h k g => k (h g)) (fun W l o o' hl ho hc hw hS => hS.grown (Nat.le_refl _) (grownBy_putObj' W l o') (fun r e => by obtain rfl := Option.some.inj e; exact hl)) (Below.refl _ _) (fun _ => rfl)
        (fun pre W => ∃ v3, TB W (k4 + 1 + 1) n v3 ∧ OwnC W WS.heap.size v3 (pre.map fun j => (L.getD j []).filter fun x => !has K (varL x)) ∧ BX WS.heap.size (k4 + 1 + 1) WS W)
        (fun _ _ _ => False)
        (fun pre A C row hs hg hr => by
          obtain ⟨v3, q1, q2, q3⟩ := hs
          exact ⟨v3, q1.kept hg (fun e => by have := (hr _ e).1; have := HSZ.out; omega), q2.keptN hg (fun r e => (hr r e).2), q3.grown (Nat.le_refl _) hg (fun r e => (hr r e).1)⟩)
        (fun _ _ _ _ _ hs _ _ => hs)
        ⟨_, f7.out, OwnC.nil _ _, .of (Below.refl _ _)⟩
        ?a1 ?assign ?body ?done ?stop
      case assign =>
        intro l x W K' hK
        gi_wp2
        exact hK
      case body =>
        rintro l pre j W ⟨v3, q1, ⟨xs3, q2, q2r⟩, q3⟩ hlt
        have hri := (HRR.out.next (HBW.out W q3)).at j
        have hcl : (L.getD j []).length ≤ 128 := getD_mem (p := fun c => c.length ≤ 128) (fun c hc => (HCS.out c hc).1) (Nat.zero_le _) j
        have hc64 : ∀ x ∈ L.getD j [], In64 x := getD_mem (p := fun c => ∀ x ∈ c, In64 x) (fun c hc => HT.out.in64 c hc) (fun x hx => by cases hx) j
        have hun : (un (fun x => has K (varL x) && holdsL Y x) L).length ≤ L.length := by
          have := (unK_pre (P := fun x => has K (varL x) && holdsL Y x) (L := L) (k := L.length) (Nat.le_refl _)).length_le
          unfold un unK
          exact Nat.le_trans (List.length_filter_le _ _) (by simp)
        have CC := mkHid (clone_any (rowAt xs j) (L.getD j []) W hri (by omega))
        have HS := mkHid (q3.ats f3.out (show k4 < WS.heap.size by have := HSZ.out; omega) (by omega))
        have Q1 := mkHid q1
        have Q2 := mkHid q2
        have Q2r := mkHid q2r
        have Q3 := mkHid q3
        have HX3 : Hid (xs3.length ≤ 1000000) := mkHid (by rw [q2r.1, List.length_map]; have := HL.out; omega)
        have HLT := mkHid hlt
        have hsW := q3.size
        generalize hrj : rowAt xs j = rj at *
        generalize hcj : L.getD j [] = cj at *
        obtain ⟨ar, cr, rfl⟩ := hri.form
        have HRJ := mkHid hrj
        have HCJ := mkHid hcj
        clear hrj hcj hri q1 q2 q2r q3 hlt hst hSV hBw hun
        gi_wp2_with (first
          | (refine ⟨trivial, fun _ => (by omega), ?_⟩; gi_at_call 64; refine (CallsIn.inRound l (callsIn_wide.2 CC.out)).mono ?_; rintro e w6 ⟨u6, rfl, ho, hb⟩; have HB6 := mkHid hb; have HO6 := mkHid ho;
              have CD := mkHid (delete_gen 65 #[.pointer (some ⟨k4, 0, none⟩)] eg2 (fun x => has K (varL x)) ho hb.size (by omega) (fun W' x hb' hx => given2_any K x k4 W' (by obtain ⟨⟨w1, w2⟩, _⟩ := HW.out; rw [w1, w2]; exact (HS.out.grows hb).same (hb'.block k4 (by have := HSZ.out; omega))) (hc64 x hx))); clear hb ho)
          | (refine ⟨trivial, fun _ => (by omega), ?_⟩; gi_at_call 63; refine (CallsIn.inRound l (callsIn_wide.2 CD.out)).mono ?_; rintro e w7 ⟨u7, rfl, ho, hb⟩; have HB7 := mkHid (HB6.out.trans hb); have HO7 := mkHid ho; have T7 := mkHid (Q1.out.grows HB7.out); have V7 := mkHid (Q2.out.below HB7.out); have R7 := mkHid (Q2r.out.below HB7.out); obtain ⟨t0, t1⟩ := T7.out.at; obtain ⟨a7, c7, rfl⟩ := ho.ints.form; clear hb ho)
          | (gi_at_builtin; refine wpListIn_append_own _ rfl _ _ 22 rfl WS.heap.size 38 i0 (.slice none 0 0) 1 24 Try.underlying22 hi hz0' hz1' hz2' rfl (by decide) _ _ _ rfl (World.ownsRow.alloc V7.out _) ⟨w7.heap.size, 0, none⟩ 1 1 [.slice a7 (cj.filter fun x => !has K (varL x)).length c7] rfl rfl (cell_one_new _ _ _) (by simp [Value.oneCell']) (by unfold maxLen; have := HX3.out; omega) (by have := HX3.out; omega) (by have := HB7.out.size; simp; omega) ?_; intro v8 w8 hown8 hgrow8 _; have HN8 : Hid (OwnV w8 WS.heap.size v8 (xs3 ++ [.slice a7 (cj.filter fun x => !has K (varL x)).length c7])) := mkHid (by unfold OwnV; rw [List.length_append]; exact hown8); have HG8 := mkHid hgrow8; have T8 := mkHid (T7.out.app V7.out hgrow8); obtain ⟨a8, c8, rfl⟩ := HN8.out.vals.form; obtain ⟨y0, y1⟩ := T8.out.at; obtain ⟨yf0, yf1⟩ := T8.out.free; clear hown8 hgrow8))
        have VA := V7.out.below (bal (Below.refl _ w7) (.cells #[.slice a7 (cj.filter fun x => !has K (varL x)).length c7] 38))
        have hst : ∀ {A : World}, BX WS.heap.size (k4 + 1 + 1) A W → WS.heap.size ≤ A.heap.size → BX WS.heap.size (k4 + 1 + 1) A (w8.setCell ⟨k4 + 1 + 1, 1, none⟩ (.slice a8 (xs3.length + 1) c8)) := fun {A} hS hA =>
          (((hS.next hsW HB7.out).next (Nat.le_trans hsW HB7.out.size) (bal (Below.refl _ _) _)).grown hA HG8.out (fun r e => (VA.block e).1)).set _
        refine ⟨(((keepsFrom_below HB7.out).trans (keepsFrom_below (bal (Below.refl _ _) _))).trans (keepsFrom_own VA HG8.out)).trans (keepsFrom_set (by have := HSZ.out; omega)), fun hS => hst hS (Nat.le_refl _), ?_⟩
        have hn8 := HN8.out
        rw [List.length_append] at hn8
        refine ⟨_, T8.out.set1 _, ?_, hst Q3.out (Nat.le_refl _)⟩
        have hr8 := R7.out.app V7.out (HO7.out.wk hsW) HG8.out
        rw [List.map_append, List.map_cons, List.map_nil, HCJ.out]
        exact OwnC.setT ⟨_, hn8, hr8⟩ T8.out
      case done =>
        rintro D ys W hD rfl ⟨v3, q1, q2, q3⟩ hK
        obtain ⟨a3, c3, e3⟩ := q2.form
        rw [List.length_map] at e3
        subst e3
        obtain ⟨t0, t1⟩ := q1.at
        have r6 := q3.tb f6.out (by omega) (by omega)
        obtain ⟨r0, r1⟩ := r6.at
        obtain ⟨rf0, rf1⟩ := r6.free
        have hu := given_un (t := t) (L := L) (n := n) HTM.out (fun c hc => (HCS.out c hc).2)
        rw [HK.out, HY.out] at hu
        have Q2 := mkHid q2
        have Q3 := mkHid q3
        have R6 := mkHid r6
        have HU := mkHid hu
        clear q2 q3 r6 hu hst hSV hBw
        gi_wp2
        generalize hM : ((un (fun x => has K (varL x) && holdsL Y x) L).map fun j => (L.getD j []).filter fun x => !has K (varL x)) = M at *
        have hw2 : ((W.setCell ⟨w.heap.size + 1, 0, none⟩ (.int .i64 n)).setCell ⟨w.heap.size + 1, 1, none⟩ (.slice a3 (un (fun x => has K (varL x) && holdsL Y x) L).length c3)).heap[D]? = some (.deferred (some [])) := by
          rw [Below.heap_setCell _ _ _ _ (by show D ≠ w.heap.size + 1; omega), Below.heap_setCell _ _ _ _ (by show D ≠ w.heap.size + 1; omega)]; exact hK
        have hr2 := R6.out.set n (.slice a3 (un (fun x => has K (varL x) && holdsL Y x) L).length c3)
        have hr1 : TB (W.setCell ⟨w.heap.size + 1, 0, none⟩ (.int .i64 n)) (w.heap.size + 1) n (.slice none 0 0) := by
          have := R6.out
          unfold TB at this ⊢
          simp [World.setCell, Array.getElem?_modify, this]
        have hr3 : TB (((W.setCell ⟨w.heap.size + 1, 0, none⟩ (.int .i64 n)).setCell ⟨w.heap.size + 1, 1, none⟩ (.slice a3 (un (fun x => has K (varL x) && holdsL Y x) L).length c3)).putObj D (.deferred none)) (w.heap.size + 1) n (.slice a3 (un (fun x => has K (varL x) && holdsL Y x) L).length c3) :=
          (World.putObj_heap_other (by omega)).trans hr2
        have hl3 := ((((Q2.out.weaken (base' := w.heap.size) (by omega)).setT (o := 0) (u' := .int .i64 n) R6.out).setT (o := 1) (u' := .slice a3 (un (fun x => has K (varL x) && holdsL Y x) L).length c3) hr1)).keptN (grownBy_putObj' _ D (.deferred none)) (fun r e => by obtain rfl := Option.some.inj e; exact ⟨_, hw2, rfl⟩)
        have hb3 := (bst2 (Q3.out.below f5.out (by omega) (by omega)) (w.heap.size + 1) (by omega) (.int .i64 n) (.slice a3 (un (fun x => has K (varL x) && holdsL Y x) L).length c3)).trans (belowK_b (w := w) (Nat.le_refl _) _ D _ (.deferred none) (by omega) hw2 rfl rfl)
        refine ⟨by simp, .inl ⟨_, _, rfl, run_takeDeferred hw2, ?_⟩⟩
        obtain ⟨s0, s1⟩ := hr3.at
        refine ⟨.tuple #[.agg #[.int .i64 n, .slice a3 (un (fun x => has K (varL x) && holdsL Y x) L).length c3], .int .i64 0], by simp [results, Try.results26, go_sem, s0, s1], ?_⟩
        exact ⟨_, rfl, mkHid ⟨by rw [← HU.out]; exact hl3, hb3⟩⟩
      case stop =>
        rintro D c pre W _ _ h _
        exact h.elim
  · rw [if_neg hk, if_neg hk, if_neg hk]
    generalize hq : ckT n L = q at *
    clear hq
    refine callsIn_of_wp_marks Try.func26 rfl trivial ?_ rfl
    simp only [Try.ntmps26, List.size_toArray, List.length_cons, List.length_nil, Nat.reduceAdd, Nat.reduceSub, Array.replicate_succ, Array.replicate_zero, List.push_toArray, List.append_toArray, List.nil_append, List.cons_append]
    gi_wp2_with (refine ⟨trivial, ?_⟩; gi_at_call 17; refine (callsIn_wide.2 (CK.out _ HB.out)).mono ?_; rintro e w1 ⟨rfl, hb⟩; have G1 := mkHid (HR.out.grows hb); have GB := mkHid (bnx HB.out hb); obtain ⟨r0, r1⟩ := G1.out.at; obtain ⟨rf0, rf1⟩ := G1.out.free; clear hb)
    refine ⟨.tuple #[.agg #[.int .i64 0, .slice none 0 0], .int .i64 q], by simp [results, Try.results26, go_sem, r0, r1], ?_⟩
    exact ⟨_, rfl, mkHid ⟨OwnC.nil _ _, bst2 GB.out _ (by omega) _ _⟩⟩
theorem given_calls (n : Int) (v tv : Value) (L : List (List Int)) (t : List Int) (w : World) (h : Th w v L) (ht : Ints w tv t) (hs : t.length ≤ 1000000) (h64 : ∀ x ∈ t, In64 x) :
    Calls Try.prog 26 #[.agg #[.int .i64 n, v], tv] w fun e w' => ∃ u, e = .returned (.tuple #[.agg #[.int .i64 (if gvE n L t = 0 then n else 0), u], .int .i64 (gvE n L t)]) ∧
      Hid (OwnC w' w.heap.size u (if gvE n L t = 0 then gvL t L else []) ∧ Below w.heap.size w w') :=
  (callsIn_wide (n := 3)).1 (given_in 3 (by omega) n v tv L t w h ht hs h64)
end Go.Proofs.Ytalpbpcanebbbaa
