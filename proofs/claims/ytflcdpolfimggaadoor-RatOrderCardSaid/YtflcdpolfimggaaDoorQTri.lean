/- Regions that draw their order, by an invariant; three boxes. -/
import Derived.Test.YtflcdpolfimggaaDoorG11
import Derived.Deep.RegionHeld3
namespace Go.Proofs.YtflcdpolfimggaaDoor
open Go Go.RowKit Q SD

theorem count_set : ∀ (l : List Bool) (i : Nat), l[i]? = some false → (l.set i true).count false + 1 = l.count false
  | [], i, h => by simp at h
  | b :: l, 0, h => by simp at h; subst h; simp
  | b :: l, i + 1, h => by
    have := count_set l i (by simpa using h)
    simp only [List.set_cons_succ, List.count_cons]
    omega
/-- Each operation waits only for such as stand before it. -/
def downB (ops : Array Oper) : Bool := (List.range ops.size).all fun i => ((ops[i]?).map (·.after.all fun e => decide (e.on < i))).getD true
theorem getD_some {listed : Array Bool} {i : Nat} (h : listed.getD i true = false) : listed.toList[i]? = some false := by
  rw [Array.getElem?_toList]
  by_cases hi : i < listed.size
  · simp [Array.getD, hi] at h ⊢; exact h
  · simp [Array.getD, hi] at h
theorem all_listed {ops : Array Oper} {listed : Array Bool} (hd : downB ops = true) (hr : Region.ready .any ops listed = []) : ∀ i, i < ops.size → listed.getD i true = true := by
  intro i
  induction i using Nat.strongRecOn with
  | _ i ih =>
    intro hi
    cases hl : listed.getD i true with
    | true => rfl
    | false =>
      exfalso
      have hm : i ∈ Region.ready .any ops listed := mem_ready.2 ⟨hl, ops[i], Array.getElem?_eq_getElem hi, fun e he _ => by
        have h1 : e.on < i := by
          unfold downB at hd
          rw [List.all_eq_true] at hd
          have h2 := hd i (List.mem_range.2 hi)
          simp only [Array.getElem?_eq_getElem hi, Option.map_some, Option.getD_some, Array.all_eq_true_iff_forall_mem, decide_eq_true_eq] at h2
          exact h2 e he
        have h3 := ih e.on h1 (by omega)
        have h4 : i < listed.size := by
          have := getD_some hl
          rw [Array.getElem?_toList] at this
          exact (Array.getElem?_eq_some_iff.1 this).1
        have h5 : e.on < listed.size := by omega
        simpa [Array.getD, h5] using h3⟩
      rw [hr] at hm
      cases hm
section
variable {P : Program} {ops : Array Oper} {Q : Exit → Act → World → Prop} {I : Array Bool → Act → World → Prop}
/-- Each operation that may come up keeps the invariant. -/
def AllI (P : Program) (ops : Array Oper) (Q : Exit → Act → World → Prop) (I : Array Bool → Act → World → Prop) (listed : Array Bool) (a : Act) (w : World) (rs : List Nat) : Prop :=
  ∀ i ∈ rs, i ∈ Region.ready .any ops listed → wpOp P ops Q i (fun a' w' => I (listed.setIfInBounds i true) a' w') a w
theorem AllI.nil {listed : Array Bool} {a : Act} {w : World} : AllI P ops Q I listed a w [] := fun _ h => by cases h
theorem AllI.cons {listed : Array Bool} {a : Act} {w : World} {i : Nat} {o : Oper} {rs : List Nat} (ho : ops[i]? = some o)
    (h : listed.getD i true = false → (∀ e ∈ o.after.toList, Region.binds .any e = true → listed.getD e.on false = true) → ∀ K' : Act → World → Prop, Shut (∀ a w, I (listed.setIfInBounds i true) a w → K' a w) → if Region.wanted o (yielded ops a.tmps) = true then Oper.wp P o a w K' Q else K' (a.put o.dst undef) w)
    (hs : AllI P ops Q I listed a w rs) : AllI P ops Q I listed a w (i :: rs) := fun j hj hr => by
  rcases List.mem_cons.1 hj with rfl | hj
  · obtain ⟨h1, o', ho', h2⟩ := mem_ready.1 hr
    obtain rfl : o = o' := Option.some.inj (ho.symm.trans ho')
    exact wpOp_step ho (fun K' hK => h h1 (fun e he => h2 e (by simpa using he)) K' hK)
  · exact hs j hj hr
theorem AllI.cons0 {listed : Array Bool} {a : Act} {w : World} {i : Nat} {o : Oper} {rs : List Nat} (ho : ops[i]? = some o) (hg : o.guard = none)
    (h : listed.getD i true = false → (∀ e ∈ o.after.toList, Region.binds .any e = true → listed.getD e.on false = true) → ∀ K' : Act → World → Prop, Shut (∀ a w, I (listed.setIfInBounds i true) a w → K' a w) → Oper.wp P o a w K' Q)
    (hs : AllI P ops Q I listed a w rs) : AllI P ops Q I listed a w (i :: rs) :=
  AllI.cons ho (fun h1 h2 K' hK => by rw [if_pos (by unfold Region.wanted; rw [hg])]; exact h h1 h2 K' hK) hs
theorem wpAny_inv (hd : downB ops = true) (hstep : ∀ listed a w, I listed a w → AllI P ops Q I listed a w (List.range ops.size)) (hend : ∀ listed a w, I listed a w → (∀ i, i < ops.size → listed.getD i true = true) → Q .normal a w) :
    ∀ (fuel : Nat) (listed : Array Bool) (a : Act) (w : World), listed.toList.count false ≤ fuel → I listed a w → wpAny P .any ops Q fuel listed a w
  | 0, listed, a, w, hc, hI => by
    have hr : Region.ready .any ops listed = [] := by
      rw [List.eq_nil_iff_forall_not_mem]
      intro i hi
      have := count_set _ _ (getD_some (mem_ready.1 hi).1)
      omega
    exact ⟨hr, hend _ _ _ hI (all_listed hd hr)⟩
  | fuel + 1, listed, a, w, hc, hI => by
    refine ⟨fun hr => hend _ _ _ hI (all_listed hd hr), fun i hi => ?_⟩
    have h1 := hstep listed a w hI i ?_ hi
    · refine wpOp_mono (fun a' w' h' => wpAny_inv hd hstep hend fuel _ a' w' ?_ h') h1
      have := count_set _ _ (getD_some (mem_ready.1 hi).1)
      rw [Array.toList_setIfInBounds]
      omega
    · obtain ⟨_, o, ho, _⟩ := mem_ready.1 hi
      exact List.mem_range.2 (Array.getElem?_eq_some_iff.1 ho).1
theorem wp_region_inv {id : Nat} {a : Act} {w : World} (I : Act → Array Bool → Act → World → Prop) (rs : List Nat) (hm : P.follows .mixedOrders = true) (hd : downB ops = true) (hrs : List.range ops.size = rs)
    (h0 : I a (Array.replicate ops.size false) a w.drew) (hstep : ∀ (Q' : Exit → Act → World → Prop) (listed : Array Bool) (a' : Act) (w : World), I a listed a' w → AllI P ops Q' (I a) listed a' w rs)
    (hend : ∀ listed a' w, I a listed a' w → (∀ i ∈ rs, listed.getD i true = true) → Q .normal a' w) : (Code.region id ops true).wp P Q a w :=
  wp_region_any hm (wpAny_inv (I := I a) hd (fun l a w h => by rw [hrs]; exact hstep Q l a w h) (fun l a w h h2 => hend l a w h (fun i hi => h2 i (by rw [← hrs] at hi; exact List.mem_range.1 hi))) _ _ _ _ (by simp) h0)
end
/-- A box that is being made (f: it is there; s: it is filled). -/
def Bq (f s : Bool) (w : World) (B0 j l : Nat) (k : ByteArray) (l2 : Nat) (k2 : ByteArray) : Prop :=
  f = true → B0 ≤ j ∧ (s = true → At4 w j l k l2 k2) ∧ (s = false → At4 w j 0 ⟨#[]⟩ 0 ⟨#[]⟩)
theorem Bq.lt {f s : Bool} {w : World} {B0 j l : Nat} {k : ByteArray} {l2 : Nat} {k2 : ByteArray} (h : Bq f s w B0 j l k l2 k2) (hf : f = true) : j < w.heap.size := by
  obtain ⟨_, h1, h2⟩ := h hf
  cases s
  · exact (h2 rfl).lt
  · exact (h1 rfl).lt
theorem Bq.no {s : Bool} {w : World} {B0 j l : Nat} {k : ByteArray} {l2 : Nat} {k2 : ByteArray} : Bq false s w B0 j l k l2 k2 := fun h => absurd h (by decide)
theorem Bq.grows {f s : Bool} {w w' : World} {B0 j l : Nat} {k : ByteArray} {l2 : Nat} {k2 : ByteArray} (h : Bq f s w B0 j l k l2 k2) (hb : Below w.heap.size w w') : Bq f s w' B0 j l k l2 k2 := fun hf =>
  ⟨(h hf).1, fun e => ((h hf).2.1 e).grows hb, fun e => ((h hf).2.2 e).grows hb⟩
theorem Bq.alloc {f s : Bool} {w : World} {B0 j l : Nat} {k : ByteArray} {l2 : Nat} {k2 : ByteArray} (h : Bq f s w B0 j l k l2 k2) (o : Obj) : Bq f s (w.alloc o) B0 j l k l2 k2 := h.grows ((Below.refl _ _).alloc (Nat.le_refl _) o)
theorem Bq.new {w : World} {B0 l : Nat} {k : ByteArray} {l2 : Nat} {k2 : ByteArray} (hB : B0 ≤ w.heap.size) : Bq true false (w.alloc (.cells #[.int .u64 0, .string ⟨#[]⟩, .int .u64 0, .string ⟨#[]⟩] 26)) B0 w.heap.size l k l2 k2 := fun _ =>
  ⟨hB, fun e => absurd e (by decide), fun _ => At4.new w _ 0 _ 0 _ rfl⟩
theorem Bq.off {f s : Bool} {w : World} {B0 j l : Nat} {k : ByteArray} {l2 : Nat} {k2 : ByteArray} (h : Bq f s w B0 j l k l2 k2) {r : Nat} (hne : f = true → j ≠ r) (x y z u : Value) : Bq f s ((((w.setCell ⟨r, 0, none⟩ x).setCell ⟨r, 1, none⟩ y).setCell ⟨r, 2, none⟩ z).setCell ⟨r, 3, none⟩ u) B0 j l k l2 k2 := fun hf =>
  ⟨(h hf).1, fun e => ((h hf).2.1 e).set4 (hne hf) x y z u, fun e => ((h hf).2.2 e).set4 (hne hf) x y z u⟩
theorem Bq.fill {w : World} {B0 j l : Nat} {k : ByteArray} {l2 : Nat} {k2 : ByteArray} (h : Bq true false w B0 j l k l2 k2) : Bq true true ((((w.setCell ⟨j, 0, none⟩ (.int .u64 (l : Int))).setCell ⟨j, 1, none⟩ (.string k)).setCell ⟨j, 2, none⟩ (.int .u64 (l2 : Int))).setCell ⟨j, 3, none⟩ (.string k2)) B0 j l k l2 k2 := fun _ =>
  ⟨(h rfl).1, fun _ => At4.set ((h rfl).2.2 rfl) l k l2 k2, fun e => absurd e (by decide)⟩
end Go.Proofs.YtflcdpolfimggaaDoor
