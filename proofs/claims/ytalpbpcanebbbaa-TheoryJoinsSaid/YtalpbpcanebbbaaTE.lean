/- Contract of Eval. -/
import Derived.Test.YtalpbpcanebbbaaTU
import Derived.Test.YtalpbpcanebbbaaTN
import Derived.Stop.RegionWithIn
import Derived.Deep.RegionHeld3
namespace Go.Proofs.Ytalpbpcanebbbaa
open Go.RowKit Go.Shelf VM LM TM

attribute [local go_sem] Oper.semAt_some

set_option maxRecDepth 100000 in
set_option maxHeartbeats 1000000 in
theorem evalP_any (a : BitVec 128) (x : Int) (B : Nat) (w : World) (hs : AtS w B (wd (lo a)) (wd (hi a))) (h : In64 x) :
    Calls Try.prog 53 #[.int .i64 x, .pointer (some ⟨B, 0, none⟩)] w fun e w' => e = .returned (.bool (holdsL a x)) ∧ Below w.heap.size w w' := by
  have CH := mkHid (fun W => holds_any a x W h)
  obtain ⟨p1, p2, -, -⟩ := hs
  generalize holdsL a x = r at *
  unfold sv at *
  generalize wd (lo a) = al at *
  generalize wd (hi a) = ah at *
  go_enter Try.func53, Try.ntmps53
  go_wp2_with (go_at_call 54; refine (CH.out _).mono ?_; rintro e w3 ⟨rfl, hb⟩)
  go_ret
  exact ⟨rfl, hb⟩
theorem wpIn_noPanic {F : Fence} {n : Nat} {P : Program} {c : Code} {Q : Exit → Act → World → Prop} {a : Act} {w : World} (h : c.wpIn F n P (NoPanic Q) a w) : c.wpIn F n P Q a w := wpIn_mono h NoPanic.imp
theorem Boxed.grows {W w' : World} {B : Nat} {t : TypeId} {v : Value} (h : Boxed W B t v) (hb : Below W.heap.size W w') : Boxed w' B t v := (hb.block B h.lt).trans h
theorem Boxed.dr {W : World} {B : Nat} {t : TypeId} {v : Value} (h : Boxed W B t v) : Boxed W.drew B t v := h
theorem ckL_vals (n : Int) : ∀ L : List (List Int), ckL n L = 0 ∨ ckL n L = 1 ∨ ckL n L = 2
  | [] => .inl rfl
  | c :: r => by
    rw [ckL]
    split
    · exact ckL_vals n r
    · exact ckC_vals n c
theorem ckT_vals (n : Int) (L : List (List Int)) : ckT n L = 0 ∨ ckT n L = 1 ∨ ckT n L = 2 ∨ ckT n L = 6 := by
  unfold ckT
  split
  · omega
  · split
    · omega
    · have := ckL_vals n L; omega
theorem un_nil {P : Int → Bool} {L : List (List Int)} : un P L = [] ↔ ∀ c ∈ L, c.any P = true := by
  have h := un_map P L (fun c => c)
  constructor
  · intro e c hc
    rw [e] at h
    have h2 : (L.filter fun c => !c.any P).map (fun c => c) = [] := by rw [← h]; rfl
    rw [List.map_eq_nil_iff, List.filter_eq_nil_iff] at h2
    have := h2 c hc
    simpa using this
  · intro k
    have h2 : (L.filter fun c => !c.any P) = [] := by
      rw [List.filter_eq_nil_iff]; intro c hc; rw [k c hc]; simp
    rw [h2] at h
    simpa using h
set_option maxRecDepth 100000 in
set_option maxHeartbeats 8000000 in
theorem eval_in (m : Nat) (hm : 3 ≤ m) (n : Int) (v : Value) (L : List (List Int)) (a : BitVec 128) (w : World) (h : Th w v L) :
    CallsIn Fence.wide m Try.prog 24 #[.agg #[.int .i64 n, v], sv a] w fun e w' => e = .returned (.bool (evT n L a)) ∧ Below w.heap.size w w' := by
  have h1 : 1 ≤ m := by omega
  have hmf : ∀ (fn : Fn) (first cap : Array Value) (w : World), (Instr.makeFunc fn first cap).run Try.prog w = .ok (.func fn first cap) w := fun _ _ _ _ => rfl
  have CK := mkHid (fun W (hb : Below w.heap.size w W) => check_any n v L W (h.next hb))
  have HB := mkHid (bal (bal (bal (Below.refl _ w) (.cells #[.int .i64 n, v] 24)) (.cells #[.int .u64 (wd (lo a)), .int .u64 (wd (hi a))] 36)) (.cells #[.bool false] 4))
  have HA := mkHid (((TB.new w w.heap.size n v rfl).grows (bal (Below.refl _ _) (.cells #[.int .u64 (wd (lo a)), .int .u64 (wd (hi a))] 36))).grows (bal (Below.refl _ _) (.cells #[.bool false] 4)))
  have HS := mkHid ((AtS.new (w.alloc (.cells #[.int .i64 n, v] 24)) (w.heap.size + 1) (wd (lo a)) (wd (hi a)) 36 (by simp)).alloc (.cells #[.bool false] 4))
  have HR := Boxed.new ((w.alloc (.cells #[.int .i64 n, v] 24)).alloc (.cells #[.int .u64 (wd (lo a)), .int .u64 (wd (hi a))] 36)) 4 (.bool false)
  rw [World.size_alloc, World.size_alloc] at HR
  have HR := mkHid HR
  have HT := mkHid h
  obtain ⟨ao, cap, rfl, hc⟩ := h.cls
  have HC := mkHid hc
  obtain ⟨a0, a1⟩ := HA.out.at
  obtain ⟨s0, s1, -, -⟩ := HS.out
  have hlen := h.len
  clear h hc
  unfold evT
  by_cases hk : ckT n L = 0
  · obtain ⟨hn, hL, hcs⟩ := ckT_zero.1 hk
    have HCS := mkHid hcs
    have HL := mkHid hL
    have CA := mkHid (fun W => all_any n W (by omega) (by omega))
    have CS := mkHid (fun W => sub_any a (all n) W)
    rw [decide_eq_true hk, Bool.true_and]
    rw [hk] at CK
    clear hk hcs hL
    unfold subV at CS
    generalize hsb : decide (a &&& ~~~all n = 0#128) = sb at *
    unfold sv at *
    generalize hal : wd (lo a) = al at *
    generalize hah : wd (hi a) = ah at *
    generalize wd (lo (all n)) = l2 at *
    generalize wd (hi (all n)) = h2 at *
    have HAL := mkHid hal
    have HAH := mkHid hah
    clear hsb hal hah
    refine callsIn_of_wp_marks Try.func24 rfl trivial ?_ rfl
    simp only [Try.ntmps24, List.size_toArray, List.length_cons, List.length_nil, Nat.reduceAdd, Nat.reduceSub, Array.replicate_succ, Array.replicate_zero, List.push_toArray, List.append_toArray, List.nil_append, List.cons_append]
    cases sb
    · gi_wp2
      refine wpIn_noPanic ?_
      gi_region_with (first
        | (refine ⟨trivial, ?_⟩; gi_at_call 17; refine (callsIn_wide.2 (CK.out _ HB.out.drew)).mono ?_; rintro e w1 ⟨rfl, hb⟩; have G := mkHid (HA.out.drew.grows hb); have GS := mkHid (HS.out.drew.grows hb); have GB := mkHid (bnx HB.out.drew hb); have GR := mkHid (Boxed.grows (Boxed.dr HR.out) hb); obtain ⟨b0, b1⟩ := G.out.at; obtain ⟨c0, c1, -, -⟩ := GS.out; clear hb)
        | (refine ⟨trivial, ?_⟩; gi_at_call 51; refine (callsIn_wide.2 (CA.out _)).mono ?_; rintro e w2 ⟨rfl, hb⟩; have G2 := mkHid (G.out.grows hb); have GS2 := mkHid (GS.out.grows hb); have GB2 := mkHid (bnx GB.out hb); have GR2 := mkHid (Boxed.grows GR.out hb); obtain ⟨d0, d1, -, -⟩ := GS2.out; clear hb)
        | (refine ⟨trivial, ?_⟩; gi_at_call 50; refine (callsIn_wide.2 (CS.out _)).mono ?_; rintro e w3 ⟨rfl, hb⟩; have G3 := mkHid (G2.out.grows hb); have GS3 := mkHid (GS2.out.grows hb); have GB3 := mkHid (bnx GB2.out hb); have GR3 := mkHid (Boxed.grows GR2.out hb); have r0 := GR3.out.cell; have rf := GR3.out.frozen; clear hb))
      all_goals
        refine NoPanic.normal ?_
        gi_wp2
        refine ⟨.bool false, by simp [results, Try.results24, go_sem, r0], rfl, ?_⟩
        exact bst GB3.out (by show w.heap.size ≤ w.heap.size + 1 + 1; omega) _
    · gi_wp2
      refine wpIn_noPanic ?_
      gi_region_with (first
        | (refine ⟨trivial, ?_⟩; gi_at_call 17; refine (callsIn_wide.2 (CK.out _ HB.out.drew)).mono ?_; rintro e w1 ⟨rfl, hb⟩; have G := mkHid (HA.out.drew.grows hb); have GS := mkHid (HS.out.drew.grows hb); have GB := mkHid (bnx HB.out.drew hb); have GR := mkHid (Boxed.grows (Boxed.dr HR.out) hb); obtain ⟨b0, b1⟩ := G.out.at; obtain ⟨c0, c1, -, -⟩ := GS.out; clear hb)
        | (refine ⟨trivial, ?_⟩; gi_at_call 51; refine (callsIn_wide.2 (CA.out _)).mono ?_; rintro e w2 ⟨rfl, hb⟩; have G2 := mkHid (G.out.grows hb); have GS2 := mkHid (GS.out.grows hb); have GB2 := mkHid (bnx GB.out hb); have GR2 := mkHid (Boxed.grows GR.out hb); obtain ⟨d0, d1, -, -⟩ := GS2.out; clear hb)
        | (refine ⟨trivial, ?_⟩; gi_at_call 50; refine (callsIn_wide.2 (CS.out _)).mono ?_; rintro e w3 ⟨rfl, hb⟩; have G3 := mkHid (G2.out.grows hb); have GS3 := mkHid (GS2.out.grows hb); have GB3 := mkHid (bnx GB2.out hb); have GR3 := mkHid (Boxed.grows GR2.out hb); have r0 := GR3.out.cell; have rf := GR3.out.frozen; clear hb))
      all_goals
        refine NoPanic.normal ?_
        obtain ⟨e0, e1⟩ := G3.out.at
        gi_wp2_with (refine ⟨trivial, ?_⟩; gi_at_call 52; refine (callsIn_wide.2 (unsatisfied_any n _ _ _ _)).mono ?_; rintro e w4 ⟨rfl, rfl⟩)
        have HW0 := mkHid (bal (bal (Below.refl _ w3) (.cells #[.int .i64 n, .slice ao L.length cap] 24)) (.cells #[.func (.func 53) #[] #[.pointer (some ⟨w.heap.size + 1, 0, none⟩)]] 73))
        have f1 := (TB.new w3 w3.heap.size n (.slice ao L.length cap) rfl).grows (bal (Below.refl _ _) (.cells #[.func (.func 53) #[] #[.pointer (some ⟨w.heap.size + 1, 0, none⟩)]] 73))
        have f2 := cell_boxf (w3.alloc (.cells #[.int .i64 n, .slice ao L.length cap] 24)) (.func (.func 53) #[] #[.pointer (some ⟨w.heap.size + 1, 0, none⟩)]) 73 (w3.heap.size + 1) (by simp)
        have f3 := GS3.out.grows HW0.out
        have f4 := Boxed.grows GR3.out HW0.out
        have f5 := bnx GB3.out HW0.out
        have hz := GR3.out.lt
        have hz2 := GS3.out.lt
        generalize hWS : ((w3.alloc (.cells #[.int .i64 n, .slice ao L.length cap] 24)).alloc (.cells #[.func (.func 53) #[] #[.pointer (some ⟨w.heap.size + 1, 0, none⟩)]] 73)) = WS at *
        have hsz : WS.heap.size = w3.heap.size + 1 + 1 := by rw [← hWS]; simp
        generalize w3.heap.size = b3 at *
        obtain ⟨xs, hV, hR⟩ := HT.out.cls.vals
        obtain ⟨ao', cap', ev, hcells⟩ := hV
        obtain ⟨rfl, _, rfl⟩ : ao = ao' ∧ L.length = xs.length ∧ cap = cap' := by simpa using ev
        have eg : ∀ args w, (callFunc 53 args).run Try.prog w = .ok (.enter 53 args) w := enters_of Try.func53 (by kernel_rfl) rfl
        have hSV : ∀ W, Below WS.heap.size WS W → (∀ j x, xs[j]? = some x → ∃ b off, ao = some ⟨b, off, none⟩ ∧ W.cell? ⟨b, off + j, none⟩ = some x) ∧ Rows W xs L ∧ W.cell? ⟨b3, 1, none⟩ = some (.slice ao L.length cap) ∧ W.cell? ⟨b3 + 1, 0, none⟩ = some (.func (.func 53) #[] #[.pointer (some ⟨w.heap.size + 1, 0, none⟩)]) ∧ ∀ c ∈ L, PredG 53 #[.pointer (some ⟨w.heap.size + 1, 0, none⟩)] (holdsL a) c W := by
          intro W hW
          have hw := bnx f5 hW
          refine ⟨fun j x hj => ?_, hR.next hw, cell_grows hW f1.at.2, cell_grows hW f2, fun c hc W' x hb hx => ?_⟩
          · obtain ⟨b, off, e, hcx⟩ := hcells j x hj
            exact ⟨b, off, e, cell_grows hw hcx⟩
          · refine (evalP_any a x (w.heap.size + 1) W' ?_ (HT.out.in64 c hc x hx)).mono fun e w' ⟨he, hb'⟩ => ⟨he, bnx hb hb'⟩
            rw [HAL.out, HAH.out]
            exact (f3.grows hW).grows hb
        have hst := unsat_stops (m - 1) (by omega) b3 (b3 + 1) 53 #[.pointer (some ⟨w.heap.size + 1, 0, none⟩)] (holdsL a) eg ao cap xs L (Below WS.heap.size WS) (by have := HL.out; omega) (fun c hc => by have := (HCS.out c hc).1; omega) hSV (fun W W' h1 h2 => bnx h1 h2) WS (Below.refl _ _)
        have f4c := f4.cell
        have f4f := f4.frozen
        refine wpIn_rangeFunc_ownG rfl h1 (gf := 82) (lb := #[.pointer (some ⟨b3, 0, none⟩), .pointer (some ⟨b3 + 1, 0, none⟩)]) rfl trivial (enters_of Try.func82 (by kernel_rfl) rfl)
          hst (fun h k g => k (h g)) (fun W l o o' hl ho hc hw hS => belowK_t hS (belowK_b (Nat.le_refl _) W l o o' hl ho hc hw)) (Below.refl _ _) (fun _ => rfl)
          (fun pre W => pre = [] ∧ Below WS.heap.size WS W)
          (fun c pre W => c = .ret ∧ pre ≠ [] ∧ Boxed W (w.heap.size + 1 + 1) 4 (.bool false) ∧ Below w.heap.size w W)
          (fun pre A B row hs hg hr => ⟨hs.1, (ownFrom_below (Nat.le_refl _) (Nat.le_refl _)) pre A B row hs.2 hg hr⟩)
          (fun c pre A B row hs hg hr => ⟨hs.1, hs.2.1, hs.2.2.1.kept hg (fun e => by have := (hr _ e.symm).1; omega), (ownFrom_below (Nat.le_refl _) (by rw [hsz]; have := GB3.out.size; omega)) pre A B row hs.2.2.2 hg hr⟩)
          ⟨rfl, Below.refl _ _⟩
          (fun x => { tmps := #[Value.agg #[Value.int IntKind.i64 n, Value.slice ao L.length cap],
            Value.agg #[Value.int IntKind.u64 al, Value.int IntKind.u64 ah],
            Value.pointer (some { block := w.heap.size, off := 0 }),
            Value.pointer (some { block := w.heap.size + 1, off := 0 }),
            Value.pointer (some { block := w.heap.size + 1 + 1, off := 0 }),
            Value.agg #[Value.int IntKind.i64 n, Value.slice ao L.length cap], Value.int IntKind.i64 0, Value.bool false,
            Value.bool false, Value.agg #[Value.int IntKind.u64 al, Value.int IntKind.u64 ah],
            Value.pointer (some { block := w.heap.size, off := 0 }), Value.int IntKind.i64 n,
            Value.agg #[Value.int IntKind.u64 l2, Value.int IntKind.u64 h2], Value.bool true, Value.bool false,
            Value.bool false, Value.agg #[Value.int IntKind.i64 n, Value.slice ao L.length cap],
            Value.func (Fn.func 53) #[] #[Value.pointer (some { block := w.heap.size + 1, off := 0 })],
            Value.func (Fn.func 82) #[]
              #[Value.pointer (some { block := b3, off := 0 }),
                Value.pointer (some { block := b3 + 1, off := 0 })],
            rowAt xs x], defers := [] }) ?assign ?body ?done ?stop
        case assign =>
          intro l x W K hK
          refine wpIn_skip ?_
          first | exact hK | (simp; exact hK) | (show K _ W; simpa using hK)
        case body =>
          rintro l pre x W ⟨rfl, hB⟩ hlt
          have g1 := Boxed.grows f4 hB
          have g2 := g1.cell
          have g3 := g1.frozen
          gi_wp2
          exact ⟨KeepsFrom.of_grownBy (grownBy_setCell' W _ _) (fun j e => by obtain rfl := Option.some.inj e; omega), rfl, by simp, g1.set _, bst (bnx f5 hB) (by show w.heap.size ≤ w.heap.size + 1 + 1; omega) _⟩
        case done =>
          rintro D ys W hD rfl ⟨hys, hB⟩ hK
          have g1 := Boxed.grows f4 hB
          have g2 := g1.cell
          have g3 := g1.frozen
          have HF : Hid ((L.all (anyL a)) = true) := mkHid (List.all_eq_true.2 fun c hc => un_nil.1 hys c hc)
          gi_wp2
          refine ⟨by simp, .inl ⟨_, _, rfl, run_takeDeferred (by rw [Below.heap_setCell _ _ _ _ (by show D ≠ w.heap.size + 1 + 1; omega)]; exact hK), ?_⟩⟩
          have g5 := (g1.set (.bool true)).cell
          have hcell : ((W.setCell ⟨w.heap.size + 1 + 1, 0, none⟩ (.bool true)).putObj D (.deferred none)).cell? ⟨w.heap.size + 1 + 1, 0, none⟩ = some (.bool true) := (World.cell?_of_block (World.putObj_heap_other (by show w.heap.size + 1 + 1 ≠ D; omega))).trans g5
          refine ⟨.bool true, by simp [results, Try.results24, go_sem, hcell], by rw [HF.out]; rfl, ?_⟩
          exact (bst (bnx f5 hB) (p := ⟨w.heap.size + 1 + 1, 0, none⟩) (by show w.heap.size ≤ w.heap.size + 1 + 1; omega) _).trans (belowK_b (w := w) (Nat.le_refl _) _ D _ _ (by omega) (by rw [Below.heap_setCell _ _ _ _ (by show D ≠ w.heap.size + 1 + 1; omega)]; exact hK) rfl rfl)
        case stop =>
          rintro D c pre W hD hpre ⟨rfl, hne, hb, hB⟩ hK
          have g2 := hb.cell
          have g3 := hb.frozen
          gi_wp2
          refine ⟨by simp, .inl ⟨_, _, rfl, run_takeDeferred hK, ?_⟩⟩
          have HF : Hid ((L.all (anyL a)) = false) := mkHid (by
            rw [Bool.eq_false_iff]
            intro hall
            have := un_nil.2 (fun c hc => List.all_eq_true.1 hall c hc)
            rw [this] at hpre
            exact hne (List.eq_nil_of_length_eq_zero (by have := hpre.length_le; simpa using this)))
          have hcell : (W.putObj D (.deferred none)).cell? ⟨w.heap.size + 1 + 1, 0, none⟩ = some (.bool false) := (World.cell?_of_block (World.putObj_heap_other (by show w.heap.size + 1 + 1 ≠ D; omega))).trans g2
          refine ⟨.bool false, by simp [results, Try.results24, go_sem, hcell], by rw [HF.out]; rfl, ?_⟩
          exact hB.trans (belowK_b (w := w) (Nat.le_refl _) W D _ _ (by omega) hK rfl rfl)
  · rw [decide_eq_false hk, Bool.false_and]
    have hq3 : ckT n L = 1 ∨ ckT n L = 2 ∨ ckT n L = 6 := by have := ckT_vals n L; omega
    clear hk
    generalize hal : wd (lo a) = al at *
    generalize hah : wd (hi a) = ah at *
    unfold sv at *
    rw [hal, hah]
    rcases hq3 with hq | hq | hq
    all_goals
      rw [hq] at CK
      clear hq
      refine callsIn_of_wp_marks Try.func24 rfl trivial ?_ rfl
      simp only [Try.ntmps24, List.size_toArray, List.length_cons, List.length_nil, Nat.reduceAdd, Nat.reduceSub, Array.replicate_succ, Array.replicate_zero, List.push_toArray, List.append_toArray, List.nil_append, List.cons_append]
      gi_wp2
      refine wpIn_noPanic ?_
      first | (gi_region_with (first
          | (refine ⟨trivial, ?_⟩; gi_at_call 17; refine (callsIn_wide.2 (CK.out _ HB.out.drew)).mono ?_; rintro e w1 ⟨rfl, hb⟩; have GB := mkHid (bnx HB.out.drew hb); have GR := mkHid (Boxed.grows (Boxed.dr HR.out) hb); have r0 := GR.out.cell; have rf := GR.out.frozen; clear hb)
          | (refine ⟨trivial, ?_⟩))) | fail
      all_goals
        refine NoPanic.normal ?_
        gi_wp2
        refine ⟨.bool false, by simp [results, Try.results24, go_sem, r0], rfl, ?_⟩
        exact bst GB.out (by show w.heap.size ≤ w.heap.size + 1 + 1; omega) _
theorem eval_any (n : Int) (v : Value) (L : List (List Int)) (a : BitVec 128) (w : World) (h : Th w v L) :
    Calls Try.prog 24 #[.agg #[.int .i64 n, v], sv a] w fun e w' => e = .returned (.bool (evT n L a)) ∧ Below w.heap.size w w' :=
  (callsIn_wide (n := 3)).1 (eval_in 3 (by omega) n v L a w h)
end Go.Proofs.Ytalpbpcanebbbaa
