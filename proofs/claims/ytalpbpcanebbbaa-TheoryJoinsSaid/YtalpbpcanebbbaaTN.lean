/- More about clauses, their order and normal forms: plain. -/
import Derived.Test.YtalpbpcanebbbaaTP
namespace Go.Proofs.Ytalpbpcanebbbaa.TM
open Go VM LM

/-- The variables of the first k that a clause contains with both signs. -/
def oppK (c : List Int) : Nat → Bool
  | 0 => false
  | k + 1 => oppK c k || (c.contains ((k : Int) + 1) && c.contains (-((k : Int) + 1)))
theorem oppK_iff (c : List Int) : ∀ k, oppK c k = true ↔ ∃ j : Nat, j < k ∧ ((j : Int) + 1) ∈ c ∧ (-((j : Int) + 1)) ∈ c
  | 0 => by simp [oppK]
  | k + 1 => by
    rw [oppK, Bool.or_eq_true, oppK_iff c k]
    simp only [Bool.and_eq_true, List.contains_iff_mem]
    constructor
    · rintro (⟨j, h, a, b⟩ | ⟨a, b⟩)
      · exact ⟨j, by omega, a, b⟩
      · exact ⟨k, by omega, a, b⟩
    · rintro ⟨j, h, a, b⟩
      by_cases e : j = k
      · subst e; exact .inr ⟨a, b⟩
      · exact .inl ⟨j, by omega, a, b⟩
theorem valid_range {c : List Int} {n : Int} (hn : n ≤ 128) (h : validAll c n = true) : ∀ x ∈ c, x ≠ 0 ∧ -n ≤ x ∧ x ≤ n := fun x hx => (validL_iff hn).1 (of_valid h x hx)
theorem oppK_opp {c : List Int} {n : Nat} (hn : n ≤ 128) (h : validAll c n = true) : oppK c n = opp c := by
  rw [Bool.eq_iff_iff, oppK_iff]
  constructor
  · rintro ⟨j, hj, a, b⟩
    exact opp_of (x := (j : Int) + 1) (by rw [varL_up (by omega)]; omega) a b
  · intro k
    obtain ⟨x, h0, h1, h2⟩ := of_opp k
    have r := valid_range (by omega) h x h1
    rcases varL_pos h0 with q | q
    · refine ⟨(x - 1).toNat, by omega, ?_, ?_⟩
      · rw [show (((x - 1).toNat : Nat) : Int) + 1 = x by omega]; exact h1
      · rw [show (((x - 1).toNat : Nat) : Int) + 1 = x by omega]; exact h2
    · refine ⟨(-x - 1).toNat, by omega, ?_, ?_⟩
      · rw [show (((-x - 1).toNat : Nat) : Int) + 1 = -x by omega]; exact h2
      · rw [show -((((-x - 1).toNat : Nat) : Int) + 1) = x by omega]; exact h1
theorem ordK_order {c : List Int} {n : Nat} (hn : n ≤ 128) (h : validAll c n = true) : ordK c n = order c :=
  sorted_ext (ordK_sorted c n hn) (order_sorted c) fun x => by
    rw [mem_ordK, mem_order]
    constructor
    · rintro ⟨a, b⟩
      refine ⟨a, ?_⟩
      rcases b with b | b
      · rw [varL_up (by omega)]; omega
      · rw [varL_down (by omega)]; omega
    · rintro ⟨a, b⟩
      have r := valid_range (by omega) h x a
      exact ⟨a, by omega⟩
/-- Two clauses that part at place k. -/
theorem lex_at : ∀ {c d : List Int} {k : Nat} {x y : Int}, c.take k = d.take k → c[k]? = some x → d[k]? = some y → x ≠ y → lexB c d = decide (varW x < varW y ∨ (varW x = varW y ∧ x < y))
  | [], _, k, x, y, _, h, _, _ => by simp at h
  | _ :: _, [], k, x, y, _, _, h, _ => by simp at h
  | a :: c, b :: d, 0, x, y, _, h1, h2, h3 => by
    simp at h1 h2
    subst h1 h2
    rw [lexB, if_neg h3]
  | a :: c, b :: d, k + 1, x, y, h, h1, h2, h3 => by
    simp only [List.take_succ_cons, List.cons.injEq] at h
    obtain ⟨rfl, h⟩ := h
    rw [lexB, if_pos rfl]
    exact lex_at h (by simpa using h1) (by simpa using h2) h3
theorem bef_len {c d : List Int} (h : c.length ≠ d.length) : bef c d = decide (c.length < d.length) := by
  unfold bef; simp [h]
theorem bef_at {c d : List Int} {k : Nat} {x y : Int} (hl : c.length = d.length) (h : c.take k = d.take k) (h1 : c[k]? = some x) (h2 : d[k]? = some y) (h3 : x ≠ y) : bef c d = decide (varW x < varW y ∨ (varW x = varW y ∧ x < y)) := by
  unfold bef
  rw [lex_at h h1 h2 h3]
  simp [hl]
theorem varW_neg {x y : Int} (hx : -128 ≤ x ∧ x ≤ 128) (hy : -128 ≤ y ∧ y ≤ 128) (hne : x ≠ y) (h : varW x = varW y) : x < 0 ↔ x < y := by
  have a : ∀ z : Int, -128 ≤ z ∧ z ≤ 128 → varW z = if z < 0 then -z else z := by
    intro z hz
    by_cases h0 : z < 0
    · rw [varW_down (by omega), if_pos h0]
    · rw [if_neg h0]
      by_cases h1 : z = 0
      · subst h1; rfl
      · exact varW_up (by omega)
  rw [a x hx, a y hy] at h
  split at h <;> split at h <;> omega
theorem varW_abs {z : Int} (hz : -128 ≤ z ∧ z ≤ 128) : varW z = if z < 0 then -z else z := by
  by_cases h0 : z < 0
  · rw [varW_down (by omega), if_pos h0]
  · rw [if_neg h0]
    by_cases h1 : z = 0
    · subst h1; rfl
    · exact varW_up (by omega)
/-- Putting a clause among others. -/
theorem putK_all {c : List Int} : ∀ {l : List (List Int)}, (∀ d ∈ l, bef d c = true) → putK c l = l ++ [c]
  | [], _ => rfl
  | d :: r, h => by
    rw [putK, if_pos (h d (.head _)), putK_all (fun e he => h e (.tail _ he))]; rfl
theorem putK_after {c e : List Int} : ∀ {l : List (List Int)}, (∃ d ∈ l, bef d c = false) → putK c (l ++ [e]) = putK c l ++ [e]
  | [], h => by obtain ⟨d, hd, _⟩ := h; cases hd
  | d :: r, h => by
    rw [List.cons_append, putK, putK]
    by_cases hb : bef d c = true
    · rw [if_pos hb, if_pos hb, putK_after (by
        obtain ⟨x, hx, h2⟩ := h
        rcases List.mem_cons.1 hx with rfl | hx
        · rw [hb] at h2; cases h2
        · exact ⟨x, hx, h2⟩)]
      rfl
    · rw [if_neg hb, if_neg hb]
      split <;> rfl
theorem putK_here {c e : List Int} {l : List (List Int)} (h : ∀ d ∈ l, bef d c = true) (he : bef e c = false) : putK c (l ++ [e]) = if bef c e then l ++ [c] ++ [e] else l ++ [e] := by
  induction l with
  | nil =>
    rw [List.nil_append, putK, if_neg (by rw [he]; simp)]
    split <;> rfl
  | cons d r ih =>
    rw [List.cons_append, putK, if_pos (h d (.head _)), ih (fun x hx => h x (.tail _ hx))]
    split <;> rfl
/-- The normal form's first steps. -/
def nmP (L : List (List Int)) (k : Nat) : List (List Int) := nmK (L.take k)
theorem nmP_skip {L : List (List Int)} {k : Nat} {c : List Int} (hc : L[k]? = some c) (h : opp c = true) : nmP L (k + 1) = nmP L k := by
  unfold nmP nmK
  rw [List.take_add_one, hc, List.filter_append]
  simp [h]
theorem nmP_put {L : List (List Int)} {k : Nat} {c : List Int} (hc : L[k]? = some c) (h : opp c = false) : nmP L (k + 1) = putK (order c) (nmP L k) := by
  unfold nmP nmK
  rw [List.take_add_one, hc, List.filter_append, List.map_append, List.foldl_append]
  simp [h]
theorem nmP_all (L : List (List Int)) : nmP L L.length = nmK L := by unfold nmP; rw [List.take_length]
theorem nmP_zero (L : List (List Int)) : nmP L 0 = [] := rfl
theorem nmP_length (L : List (List Int)) (k : Nat) : (nmP L k).length ≤ k := by
  have h := nmK_length (L.take k)
  unfold nmP
  rw [List.length_take] at h
  omega
theorem nmP_lits {L : List (List Int)} {n : Int} (hn : n ≤ 128) (hv : ∀ c ∈ L, validAll c n = true) (k : Nat) : ∀ d ∈ nmP L k, (∀ x ∈ d, -128 ≤ x ∧ x ≤ 128) ∧ d.length ≤ 256 := by
  intro d hd
  obtain ⟨c, hc, _, e⟩ := (mem_nmK _ d).1 hd
  rw [e]
  refine ⟨fun x hx => ?_, order_length c⟩
  have := valid_range hn (hv c (List.mem_of_mem_take hc)) x ((mem_order c x).1 hx).1
  omega
/-- Terms. -/
theorem tmB_any {l : List Int} {n : Int} : tmB l n = !l.any (fun y => !validL y n || l.contains (-y)) := by
  unfold tmB
  rw [Bool.eq_iff_iff]
  simp only [Bool.and_eq_true, Bool.not_eq_true', List.any_eq_false, Bool.or_eq_true, not_or, Bool.not_eq_true, Bool.not_eq_false]
  constructor
  · rintro ⟨h1, h2⟩ y hy
    have hv := of_valid h1 y hy
    refine ⟨hv, ?_⟩
    rw [Bool.eq_false_iff]
    intro k
    rw [opp_of (x := y) (by unfold validL at hv; simp at hv; exact hv.1) hy (by simpa using k)] at h2
    cases h2
  · intro h
    refine ⟨valid_of fun y hy => (h y hy).1, ?_⟩
    rw [Bool.eq_false_iff]
    intro k
    obtain ⟨x, _, h1, h2⟩ := of_opp k
    have := (h x h1).2
    rw [List.contains_iff_mem.2 h2] at this
    cases this
/-- Assignments of n variables. -/
theorem sub_all_iff (a : BitVec 128) (n : Int) : (a &&& ~~~all n = 0#128) ↔ ∀ v : Int, 1 ≤ v → n < v → v ≤ 128 → has a v = false := by
  constructor
  · intro h v h1 h2 h3
    have := congrArg (fun s => has s v) h
    simp only [has_minus, has_all, has_empty] at this
    rw [decide_eq_false (by omega : ¬ (1 ≤ v ∧ v ≤ 128 ∧ v ≤ n))] at this
    simpa using this
  · intro h
    refine ext_has fun v h1 h3 => ?_
    rw [has_minus, has_all, has_empty]
    by_cases hv : v ≤ n
    · rw [decide_eq_true (show 1 ≤ v ∧ v ≤ 128 ∧ v ≤ n by omega)]; simp
    · rw [h v h1 (by omega) h3]; rfl
theorem gvC_step {s c : List Int} {j : Nat} {y : Int} (hy : c[j]? = some y) : gvC s (c.take (j + 1)) = if s.contains (-y) then gvC s (c.take j) else gvC s (c.take j) ++ [y] := by
  unfold gvC
  rw [List.take_add_one, hy, List.filter_append]
  cases h : s.contains (-y) <;> simp only [Option.toList, List.filter_cons, List.filter_nil, h] <;> simp
def gvP (s : List Int) (L : List (List Int)) (k : Nat) : List (List Int) := gvL s (L.take k)
theorem gvP_skip {s : List Int} {L : List (List Int)} {k : Nat} {c : List Int} (hc : L[k]? = some c) (h : c.any s.contains = true) : gvP s L (k + 1) = gvP s L k := by
  unfold gvP gvL
  rw [List.take_add_one, hc, List.filter_append]
  simp only [Option.toList, List.filter_cons, List.filter_nil, h]
  simp
theorem gvP_put {s : List Int} {L : List (List Int)} {k : Nat} {c : List Int} (hc : L[k]? = some c) (h : c.any s.contains = false) : gvP s L (k + 1) = gvP s L k ++ [gvC s c] := by
  unfold gvP gvL
  rw [List.take_add_one, hc, List.filter_append]
  simp only [Option.toList, List.filter_cons, List.filter_nil, h]
  simp
theorem gvP_all (s : List Int) (L : List (List Int)) : gvP s L L.length = gvL s L := by unfold gvP; rw [List.take_length]
theorem gvP_length (s : List Int) (L : List (List Int)) (k : Nat) : (gvP s L k).length ≤ L.length := by
  unfold gvP gvL
  rw [List.length_map]
  have h := List.length_filter_le (fun c : List Int => !c.any s.contains) (L.take k)
  rw [List.length_take] at h
  omega
end Go.Proofs.Ytalpbpcanebbbaa.TM
