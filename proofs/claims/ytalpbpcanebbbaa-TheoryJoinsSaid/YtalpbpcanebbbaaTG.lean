/- Contract of Given: its predicates; plain. -/
import Derived.Test.YtalpbpcanebbbaaTE
import Derived.Test.YtalpbpcanebbbaaTF
namespace Go.Proofs.Ytalpbpcanebbbaa
open Go.RowKit Go.Shelf VM LM TM

section
variable {t : List Int} {n x : Int}
theorem given_pred (ht : tmB t n = true) (hx : validL x n = true) : (has (vrC (order t)) (varL x) && holdsL (ofL (order t)) x) = t.contains x := by
  have hx0 : 0 < varL x := by unfold validL at hx; simp at hx; exact hx.1
  have ho : opp t = false := by unfold tmB at ht; simp at ht; exact ht.2
  rw [has_vrC, Bool.eq_iff_iff]
  unfold holdsL
  rw [has_ofL]
  simp only [Bool.and_eq_true, decide_eq_true_eq, beq_iff_eq, List.contains_iff_mem, mem_order]
  rcases varL_pos hx0 with ⟨a, b, e⟩ | ⟨a, b, e⟩
  · rw [e]
    constructor
    · rintro ⟨_, _, h⟩
      rw [decide_eq_true (show 0 < x by omega)] at h
      exact (of_decide_eq_true h).2.2.1
    · intro h
      exact ⟨⟨a, b, x, ⟨h, hx0⟩, e⟩, by omega, by rw [decide_eq_true (show 0 < x by omega)]; exact decide_eq_true ⟨a, b, h, hx0⟩⟩
  · rw [e]
    constructor
    · rintro ⟨⟨_, _, y, ⟨hy, hy0⟩, ey⟩, _, h⟩
      rw [decide_eq_false (show ¬ 0 < x by omega)] at h
      have h2 := of_decide_eq_false h
      rcases varL_pos hy0 with ⟨a', b', e'⟩ | ⟨a', b', e'⟩
      · exfalso
        rw [e'] at ey
        subst ey
        exact h2 ⟨by omega, by omega, hy, hy0⟩
      · rw [e'] at ey
        have : y = x := by omega
        rwa [← this]
    · intro h
      refine ⟨⟨by omega, by omega, x, ⟨h, hx0⟩, e⟩, by omega, ?_⟩
      rw [decide_eq_false (show ¬ 0 < x by omega)]
      refine decide_eq_false fun h3 => ?_
      rw [opp_of hx0 h h3.2.2.1] at ho
      cases ho
theorem given_del (hx : validL x n = true) (hp : t.contains x = false) : has (vrC (order t)) (varL x) = t.contains (-x) := by
  have hx0 : 0 < varL x := by unfold validL at hx; simp at hx; exact hx.1
  have hnx : x ∉ t := by simpa using hp
  rw [has_vrC, Bool.eq_iff_iff]
  simp only [decide_eq_true_eq, List.contains_iff_mem, mem_order]
  constructor
  · rintro ⟨_, _, y, ⟨hy, hy0⟩, ey⟩
    have : y = x ∨ y = -x := by
      rcases varL_pos hx0 with a | a <;> rcases varL_pos hy0 with b | b <;> omega
    rcases this with rfl | rfl
    · exact absurd hy hnx
    · exact hy
  · intro h
    exact ⟨by omega, by rcases varL_pos hx0 with a | a <;> omega, -x, ⟨h, by rw [varL_neg]; exact hx0⟩, varL_neg x⟩
end
theorem given_any {t c : List Int} {n : Int} (ht : tmB t n = true) (hc : validAll c n = true) : c.any (fun x => has (vrC (order t)) (varL x) && holdsL (ofL (order t)) x) = c.any t.contains := by
  rw [Bool.eq_iff_iff, List.any_eq_true, List.any_eq_true]
  constructor
  · rintro ⟨x, hx, h⟩; exact ⟨x, hx, by rw [← given_pred ht (of_valid hc x hx)]; exact h⟩
  · rintro ⟨x, hx, h⟩; exact ⟨x, hx, by rw [given_pred ht (of_valid hc x hx)]; exact h⟩
theorem given_filter {t c : List Int} {n : Int} (hc : validAll c n = true) (hp : c.any t.contains = false) : c.filter (fun x => !has (vrC (order t)) (varL x)) = gvC t c := by
  unfold gvC
  refine List.filter_congr fun x hx => ?_
  rw [given_del (of_valid hc x hx) (by have := List.any_eq_false.1 hp x hx; simpa using this)]
theorem given_un {t : List Int} {L : List (List Int)} {n : Int} (ht : tmB t n = true) (hc : ∀ c ∈ L, validAll c n = true) :
    (un (fun x => has (vrC (order t)) (varL x) && holdsL (ofL (order t)) x) L).map (fun j => (L.getD j []).filter (fun x => !has (vrC (order t)) (varL x))) = gvL t L := by
  have h := un_map (fun x => has (vrC (order t)) (varL x) && holdsL (ofL (order t)) x) L (fun c => c.filter (fun x => !has (vrC (order t)) (varL x)))
  rw [h]
  unfold gvL
  have e1 : (L.filter fun c => !c.any fun x => has (vrC (order t)) (varL x) && holdsL (ofL (order t)) x) = L.filter fun c => !c.any t.contains :=
    List.filter_congr fun c hcm => by rw [given_any ht (hc c hcm)]
  rw [e1]
  refine List.map_congr_left fun c hcm => ?_
  obtain ⟨h1, h2⟩ := List.mem_filter.1 hcm
  exact given_filter (hc c h1) (by simpa using h2)
set_option maxRecDepth 100000 in
set_option maxHeartbeats 2000000 in
theorem given1_any (K Y : BitVec 128) (x : Int) (Bk By : Nat) (w : World) (hk : AtS w Bk (wd (lo K)) (wd (hi K))) (hy : AtS w By (wd (lo Y)) (wd (hi Y))) (h : In64 x) :
    Calls Try.prog 60 #[.int .i64 x, .pointer (some ⟨Bk, 0, none⟩), .pointer (some ⟨By, 0, none⟩)] w fun e w' => e = .returned (.bool (has K (varL x) && holdsL Y x)) ∧ Below w.heap.size w w' := by
  have CV := mkHid (fun W => var_any x W h)
  have CH := mkHid (fun W => has_any K (varL x) W)
  have CL := mkHid (fun W => holds_any Y x W h)
  have HY := mkHid hy
  have HK := mkHid hk
  obtain ⟨p1, p2, -, -⟩ := hk
  obtain ⟨q1, q2, -, -⟩ := hy
  generalize holdsL Y x = r2 at *
  generalize hr : has K (varL x) = r1 at *
  generalize varL x = vx at *
  unfold sv at *
  generalize wd (lo K) = kl at *
  generalize wd (hi K) = kh at *
  generalize wd (lo Y) = yl at *
  generalize wd (hi Y) = yh at *
  clear hr
  cases r1
  · go_enter Try.func60, Try.ntmps60
    go_wp2
    first | (go_region_with (first
      | (go_at_call 62; refine (CV.out _).mono ?_; rintro e w2 ⟨rfl, rfl⟩)
      | (go_at_call 61; refine (CH.out _).mono ?_; rintro e w3 ⟨rfl, hb⟩; have HB := mkHid hb; clear hb))) | fail
    all_goals
      go_wp2
      go_ret
      exact ⟨rfl, ⟨HB.out.os, HB.out.tape, HB.out.output, HB.out.size, HB.out.block⟩⟩
  · go_enter Try.func60, Try.ntmps60
    go_wp2
    go_region_with (first
      | (go_at_call 62; refine (CV.out _).mono ?_; rintro e w2 ⟨rfl, rfl⟩)
      | (go_at_call 61; refine (CH.out _).mono ?_; rintro e w3 ⟨rfl, hb⟩; have HB := mkHid hb; obtain ⟨c1, c2, -, -⟩ := HY.out.drew.grows hb; clear hb)
      | (go_at_call 54; refine (CL.out _).mono ?_; rintro e w4 ⟨rfl, hb⟩; have HB2 := mkHid (bnx HB.out hb); clear hb))
    all_goals
      go_wp2
      go_ret
      exact ⟨rfl, ⟨HB2.out.os, HB2.out.tape, HB2.out.output, HB2.out.size, HB2.out.block⟩⟩
set_option maxRecDepth 100000 in
set_option maxHeartbeats 2000000 in
theorem given2_any (K : BitVec 128) (x : Int) (Bk : Nat) (w : World) (hk : AtS w Bk (wd (lo K)) (wd (hi K))) (h : In64 x) :
    Calls Try.prog 65 #[.int .i64 x, .pointer (some ⟨Bk, 0, none⟩)] w fun e w' => e = .returned (.bool (has K (varL x))) ∧ Below w.heap.size w w' := by
  have CV := mkHid (fun W => var_any x W h)
  have CH := mkHid (fun W => has_any K (varL x) W)
  obtain ⟨p1, p2, -, -⟩ := hk
  generalize hr : has K (varL x) = r1 at *
  generalize varL x = vx at *
  unfold sv at *
  generalize wd (lo K) = kl at *
  generalize wd (hi K) = kh at *
  clear hr
  go_enter Try.func65, Try.ntmps65
  go_wp2
  go_region_with (first
    | (go_at_call 62; refine (CV.out _).mono ?_; rintro e w2 ⟨rfl, rfl⟩)
    | (go_at_call 61; refine (CH.out _).mono ?_; rintro e w3 ⟨rfl, hb⟩; have HB := mkHid hb; clear hb))
  all_goals
    go_wp2
    go_ret
    exact ⟨rfl, ⟨HB.out.os, HB.out.tape, HB.out.output, HB.out.size, HB.out.block⟩⟩
end Go.Proofs.Ytalpbpcanebbbaa
