/- Literals, terms and clauses as plain lists of numbers. -/
import Derived.Test.YtalpbpcanebbbaaVM
import Derived.Lib.SlicesCompact
namespace Go.Proofs.Ytalpbpcanebbbaa.LM
open Go VM

/-- The variable of a literal, or 0. -/
def varL (l : Int) : Int := if 1 ≤ l ∧ l ≤ 128 then l else if -128 ≤ l ∧ l ≤ -1 then -l else 0
def In64 (x : Int) : Prop := -9223372036854775808 ≤ x ∧ x ≤ 9223372036854775807
/-- The number whose sign is struck, as the machine does it, for all integers. -/
def absW (l : Int) : Int := if l < 0 then IntKind.i64.wrap (-l) else l
def varW (l : Int) : Int := if absW l < 1 ∨ 128 < absW l then 0 else absW l
theorem varW_eq {l : Int} (h : In64 l) : varW l = varL l := by
  unfold varW absW varL
  unfold In64 at h
  rw [IntKind.wrap_i64]
  split <;> split <;> split <;> (try split) <;> omega
theorem varL_lo (l : Int) : 0 ≤ varL l := by unfold varL; split <;> (try split) <;> omega
theorem varL_hi (l : Int) : varL l ≤ 128 := by unfold varL; split <;> (try split) <;> omega
theorem varL_pos {l : Int} (h : 0 < varL l) : (1 ≤ l ∧ l ≤ 128 ∧ varL l = l) ∨ (-128 ≤ l ∧ l ≤ -1 ∧ varL l = -l) := by
  unfold varL at h ⊢
  split at h
  · next h1 => rw [if_pos h1]; omega
  · split at h
    · next h1 h2 => rw [if_neg h1, if_pos h2]; omega
    · omega
theorem varL_up {l : Int} (h : 1 ≤ l ∧ l ≤ 128) : varL l = l := by unfold varL; rw [if_pos h]
theorem varL_down {l : Int} (h : -128 ≤ l ∧ l ≤ -1) : varL l = -l := by
  unfold varL; rw [if_neg (by omega), if_pos h]
theorem varL_neg (l : Int) : varL (-l) = varL l := by
  unfold varL
  split <;> split <;> (try split) <;> omega

def validL (l n : Int) : Bool := decide (0 < varL l) && decide (varL l ≤ n)
def validAll (l : List Int) (n : Int) : Bool := l.all (validL · n)
def holdsL (a : BitVec 128) (l : Int) : Bool := decide (0 < varL l) && (has a (varL l) == decide (0 < l))
def anyL (a : BitVec 128) (l : List Int) : Bool := l.any (holdsL a)
def allL (a : BitVec 128) (l : List Int) : Bool := l.all (holdsL a)
def opp (l : List Int) : Bool := l.any fun x => decide (0 < varL x) && l.contains (-x)
def ordK (l : List Int) : Nat → List Int
  | 0 => []
  | k + 1 => ordK l k ++ (if l.contains (-((k : Int) + 1)) then [-((k : Int) + 1)] else []) ++ (if l.contains ((k : Int) + 1) then [(k : Int) + 1] else [])
def order (l : List Int) : List Int := ordK l 128
def clL (l : List Int) (n : Int) : List Int := if validAll l n then order l else []
def clB (l : List Int) (n : Int) : Bool := validAll l n && opp l
def clE (l : List Int) (n : Int) : Int := if validAll l n then 0 else 1
def tmB (l : List Int) (n : Int) : Bool := validAll l n && !opp l
def tmL (l : List Int) (n : Int) : List Int := if tmB l n then order l else []
def rest (c : List Int) (v : Int) : List Int := c.filter fun x => !(decide (x = v))
def rsB (c d : List Int) (v : Int) : Bool := decide (1 ≤ v ∧ v ≤ 128) && (validAll c 128 && (validAll d 128 && (c.contains v && d.contains (-v))))
def rsL (c d : List Int) (v : Int) : List Int := if rsB c d v then order (rest c v ++ rest d (-v)) else []
def subsL (c d : List Int) : Bool := c.all (d.contains ·)

theorem valid_all {l : List Int} {n : Int} (h : validAll l n = true) : ∀ x ∈ l, 0 < varL x := by
  intro x hx
  have := List.all_eq_true.1 h x hx
  unfold validL at this
  simp only [Bool.and_eq_true, decide_eq_true_eq] at this
  exact this.1

/-- The order of literals, for all integers. -/
def lt (a b : Int) : Prop := varW a < varW b ∨ (varW a = varW b ∧ a < b)
theorem lt_trans {a b c : Int} (h : lt a b) (k : lt b c) : lt a c := by unfold lt at *; omega
theorem lt_irrefl (a : Int) : ¬ lt a a := by unfold lt; omega
theorem lt_total (a b : Int) : lt a b ∨ a = b ∨ lt b a := by unfold lt; omega

theorem mem_ordK (l : List Int) (x : Int) : ∀ k, x ∈ ordK l k ↔ x ∈ l ∧ ((1 ≤ x ∧ x ≤ k) ∨ (-(k : Int) ≤ x ∧ x ≤ -1)) := by
  intro k
  induction k with
  | zero => simp [ordK]; omega
  | succ k ih =>
    rw [ordK, List.mem_append, List.mem_append, ih]
    have e1 : x ∈ (if l.contains (-((k : Int) + 1)) then [-((k : Int) + 1)] else []) ↔ (x ∈ l ∧ x = -((k : Int) + 1)) := by
      by_cases h : l.contains (-((k : Int) + 1)) = true
      · rw [if_pos h, List.mem_singleton]
        exact ⟨fun e => ⟨by rw [e]; simpa using h, e⟩, fun e => e.2⟩
      · rw [if_neg h]
        simp only [List.not_mem_nil, false_iff]
        rintro ⟨h1, rfl⟩
        exact h (by simpa using h1)
    have e2 : x ∈ (if l.contains ((k : Int) + 1) then [(k : Int) + 1] else []) ↔ (x ∈ l ∧ x = (k : Int) + 1) := by
      by_cases h : l.contains ((k : Int) + 1) = true
      · rw [if_pos h, List.mem_singleton]
        exact ⟨fun e => ⟨by rw [e]; simpa using h, e⟩, fun e => e.2⟩
      · rw [if_neg h]
        simp only [List.not_mem_nil, false_iff]
        rintro ⟨h1, rfl⟩
        exact h (by simpa using h1)
    rw [e1, e2]
    by_cases hx : x ∈ l <;> simp [hx] <;> omega
theorem mem_order (l : List Int) (x : Int) : x ∈ order l ↔ x ∈ l ∧ 0 < varL x := by
  unfold order
  rw [mem_ordK]
  constructor
  · rintro ⟨h, k⟩
    refine ⟨h, ?_⟩
    rcases k with k | k
    · rw [varL_up (by omega)]; omega
    · rw [varL_down (by omega)]; omega
  · rintro ⟨h, k⟩
    refine ⟨h, ?_⟩
    rcases varL_pos k with k | k <;> omega
theorem varW_up {l : Int} (h : 1 ≤ l ∧ l ≤ 128) : varW l = l := by rw [varW_eq (by unfold In64; omega), varL_up h]
theorem varW_down {l : Int} (h : -128 ≤ l ∧ l ≤ -1) : varW l = -l := by rw [varW_eq (by unfold In64; omega), varL_down h]
theorem ordK_sorted (l : List Int) : ∀ k, k ≤ 128 → (ordK l k).Pairwise lt := by
  intro k
  induction k with
  | zero => intro _; exact List.Pairwise.nil
  | succ k ih =>
    intro hk
    have ih := ih (by omega)
    have hm : ∀ x ∈ ordK l k, varW x ≤ k := by
      intro x hx
      have := ((mem_ordK l x k).1 hx).2
      rcases this with h | h
      · rw [varW_up (by omega)]; omega
      · rw [varW_down (by omega)]; omega
    have d1 : varW (-((k : Int) + 1)) = (k : Int) + 1 := by rw [varW_down (by omega)]; omega
    have d2 : varW ((k : Int) + 1) = (k : Int) + 1 := varW_up (by omega)
    rw [ordK, List.pairwise_append, List.pairwise_append]
    refine ⟨⟨ih, ?_, ?_⟩, ?_, ?_⟩
    · split <;> simp
    · intro a ha b hb
      split at hb
      · rw [List.mem_singleton] at hb
        subst hb
        have := hm a ha
        unfold lt; omega
      · cases hb
    · split <;> simp
    · intro a ha b hb
      split at hb
      · rw [List.mem_singleton] at hb
        subst hb
        rcases List.mem_append.1 ha with ha | ha
        · have := hm a ha
          unfold lt; omega
        · split at ha
          · rw [List.mem_singleton] at ha
            subst ha
            unfold lt; omega
          · cases ha
      · cases hb
theorem order_sorted (l : List Int) : (order l).Pairwise lt := ordK_sorted l 128 (Nat.le_refl _)

/-- Two ascending lists of the same numbers are one. -/
theorem sorted_ext : ∀ {a b : List Int}, a.Pairwise lt → b.Pairwise lt → (∀ x, x ∈ a ↔ x ∈ b) → a = b := by
  intro a
  induction a with
  | nil =>
    intro b _ _ h
    cases b with
    | nil => rfl
    | cons y b => exact absurd ((h y).2 (.head _)) (by simp)
  | cons x a ih =>
    intro b ha hb h
    cases b with
    | nil => exact absurd ((h x).1 (.head _)) (by simp)
    | cons y b =>
      have ha' := List.pairwise_cons.1 ha
      have hb' := List.pairwise_cons.1 hb
      have e : x = y := by
        rcases List.mem_cons.1 ((h x).1 (.head _)) with e | hx
        · exact e
        · rcases List.mem_cons.1 ((h y).2 (.head _)) with e | hy
          · exact e.symm
          · exact absurd (lt_trans (ha'.1 y hy) (hb'.1 x hx)) (lt_irrefl _)
      subst e
      congr 1
      refine ih ha'.2 hb'.2 fun z => ?_
      have hz := h z
      rw [List.mem_cons, List.mem_cons] at hz
      constructor
      · intro hza
        rcases hz.1 (.inr hza) with rfl | hzb
        · exact absurd (ha'.1 z hza) (lt_irrefl _)
        · exact hzb
      · intro hzb
        rcases hz.2 (.inr hzb) with rfl | hza
        · exact absurd (hb'.1 z hzb) (lt_irrefl _)
        · exact hza

/-- What compact leaves of an ascending list with repetitions. -/
theorem compact_sorted (d : Array Int) (hs : ∀ i j, i < j → j < d.size → d[i]! = d[j]! ∨ lt d[i]! d[j]!) : ∀ m, m ≤ d.size →
    (Lib.compactUpTo d m).Pairwise lt ∧ (∀ x, x ∈ Lib.compactUpTo d m ↔ ∃ j, j < m ∧ d[j]! = x) := by
  intro m
  induction m with
  | zero => intro _; simp [Lib.compactUpTo]
  | succ m ih =>
    intro hm
    obtain ⟨h1, h2⟩ := ih (by omega)
    rw [Lib.compactUpTo_succ]
    by_cases hk : Lib.keeps d m = true
    · rw [if_pos hk]
      have hlt : ∀ j, j < m → lt d[j]! d[m]! := by
        intro j hj
        have hne : d[m - 1]! ≠ d[m]! := by
          unfold Lib.keeps at hk
          simp at hk
          rcases hk with hk | hk
          · omega
          · intro e; exact hk e.symm
        have hlast : lt d[m - 1]! d[m]! := (hs (m - 1) m (by omega) (by omega)).resolve_left hne
        by_cases hj' : j = m - 1
        · rw [hj']; exact hlast
        · rcases hs j (m - 1) (by omega) (by omega) with e | e
          · rw [e]; exact hlast
          · exact lt_trans e hlast
      refine ⟨List.pairwise_append.2 ⟨h1, by simp, ?_⟩, ?_⟩
      · intro a ha b hb
        rw [List.mem_singleton] at hb
        subst hb
        obtain ⟨j, hj, rfl⟩ := (h2 a).1 ha
        exact hlt j hj
      · intro x
        rw [List.mem_append, h2, List.mem_singleton]
        constructor
        · rintro (⟨j, hj, e⟩ | e)
          · exact ⟨j, by omega, e⟩
          · exact ⟨m, by omega, e.symm⟩
        · rintro ⟨j, hj, e⟩
          by_cases hjm : j = m
          · subst hjm; exact .inr e.symm
          · exact .inl ⟨j, by omega, e⟩
    · rw [if_neg hk, List.append_nil]
      refine ⟨h1, fun x => ?_⟩
      rw [h2]
      have hkm : m ≠ 0 ∧ d[m]! = d[m - 1]! := by
        unfold Lib.keeps at hk
        simp at hk
        exact hk
      constructor
      · rintro ⟨j, hj, e⟩; exact ⟨j, by omega, e⟩
      · rintro ⟨j, hj, e⟩
        by_cases hjm : j = m
        · subst hjm; exact ⟨j - 1, by omega, by rw [← hkm.2]; exact e⟩
        · exact ⟨j, by omega, e⟩

/-- Opposite literals that stand side by side. -/
def side (s : List Int) : Bool := (List.range (s.length - 1)).any fun i => decide (s[i + 1]! = -s[i]!)
theorem opp_of {l : List Int} {x : Int} (h : 0 < varL x) (h1 : x ∈ l) (h2 : -x ∈ l) : opp l = true := by
  unfold opp
  rw [List.any_eq_true]
  exact ⟨x, h1, by simp [h, h2]⟩
theorem of_opp {l : List Int} (h : opp l = true) : ∃ x, 0 < varL x ∧ x ∈ l ∧ -x ∈ l := by
  unfold opp at h
  rw [List.any_eq_true] at h
  obtain ⟨x, h1, h2⟩ := h
  simp at h2
  exact ⟨x, h2.1, h1, h2.2⟩
theorem side_iff (s : List Int) : side s = true ↔ ∃ i, ∃ h : i + 1 < s.length, s[i + 1] = -s[i]'(by omega) := by
  unfold side
  rw [List.any_eq_true]
  constructor
  · rintro ⟨i, hi, e⟩
    rw [List.mem_range] at hi
    have l1 : i < s.length := by omega
    have l2 : i + 1 < s.length := by omega
    rw [decide_eq_true_eq, getElem!_pos s (i + 1) l2, getElem!_pos s i l1] at e
    exact ⟨i, l2, e⟩
  · rintro ⟨i, l2, e⟩
    have l1 : i < s.length := by omega
    refine ⟨i, by rw [List.mem_range]; omega, ?_⟩
    rw [decide_eq_true_eq, getElem!_pos s (i + 1) l2, getElem!_pos s i l1]
    exact e
theorem side_of (s l : List Int) (hm : ∀ x, x ∈ s ↔ x ∈ l ∧ 0 < varL x) (hp : s.Pairwise lt) : side s = opp l := by
  rw [Bool.eq_iff_iff, side_iff]
  have hs := List.pairwise_iff_getElem.1 hp
  constructor
  · rintro ⟨i, l2, e⟩
    have l1 : i < s.length := by omega
    have m1 := (hm _).1 (List.getElem_mem l1)
    have m2 := (hm _).1 (List.getElem_mem l2)
    rw [e] at m2
    exact opp_of m1.2 m1.1 m2.1
  · intro h
    obtain ⟨x, hx, h1, h2⟩ := of_opp h
    have hv : 0 < varL (-x) := by rw [varL_neg]; exact hx
    obtain ⟨y, hy, hy1, hy2⟩ : ∃ y : Int, (1 ≤ y ∧ y ≤ 128) ∧ y ∈ l ∧ -y ∈ l := by
      rcases varL_pos hx with k | k
      · exact ⟨x, ⟨k.1, k.2.1⟩, h1, h2⟩
      · exact ⟨-x, ⟨by omega, by omega⟩, h2, by rw [Int.neg_neg]; exact h1⟩
    have o1 : -y ∈ s := (hm _).2 ⟨hy2, by rw [varL_down (by omega)]; omega⟩
    have o2 : y ∈ s := (hm _).2 ⟨hy1, by rw [varL_up (by omega)]; omega⟩
    obtain ⟨p, hp, ep⟩ := List.getElem_of_mem o1
    obtain ⟨q, hq, eq⟩ := List.getElem_of_mem o2
    have w1 : varW (-y) = y := by rw [varW_down (by omega)]; omega
    have w2 : varW y = y := varW_up hy
    have hpq : p < q := by
      apply Classical.byContradiction
      intro hn
      by_cases e : p = q
      · subst e; rw [ep] at eq; omega
      · have := hs q p hq hp (by omega)
        rw [ep, eq] at this
        unfold lt at this; omega
    have hq1 : q = p + 1 := by
      apply Classical.byContradiction
      intro hn
      have a := hs p (p + 1) hp (by omega) (by omega)
      have b := hs (p + 1) q (by omega) hq (by omega)
      have hb' := (hm _).1 (List.getElem_mem (show p + 1 < s.length by omega))
      rw [ep] at a
      rw [eq] at b
      obtain ⟨z, hz0⟩ : ∃ z, z = s[p + 1]'(by omega) := ⟨_, rfl⟩
      rw [← hz0] at a b hb'
      have hz : varW z = varL z := varW_eq (by unfold In64; rcases varL_pos hb'.2 with k | k <;> omega)
      unfold lt at a b
      rcases varL_pos hb'.2 with k | k <;> omega
    subst hq1
    exact ⟨p, hq, by rw [ep, eq, Int.neg_neg]⟩
theorem side_order (l : List Int) : side (order l) = opp l := side_of _ _ (mem_order l) (order_sorted l)

/-- Truth. -/
theorem any_iff (a : BitVec 128) (l : List Int) : anyL a l = true ↔ ∃ x ∈ l, holdsL a x = true := by unfold anyL; rw [List.any_eq_true]
theorem holds_var {a : BitVec 128} {x : Int} (h : holdsL a x = true) : 0 < varL x := by
  unfold holdsL at h; simp at h; exact h.1
theorem holds_neg (a : BitVec 128) {x : Int} (h : 0 < varL x) : holdsL a (-x) = !holdsL a x := by
  unfold holdsL
  rw [varL_neg]
  have e : decide (0 < -x) = !decide (0 < x) := by
    rw [Bool.eq_iff_iff]; simp; rcases varL_pos h with k | k <;> omega
  rw [e]
  simp only [h, decide_true, Bool.true_and]
  cases has a (varL x) <;> cases decide (0 < x) <;> rfl
theorem any_order (a : BitVec 128) (l : List Int) : anyL a (order l) = anyL a l := by
  rw [Bool.eq_iff_iff, any_iff, any_iff]
  constructor
  · rintro ⟨x, h1, h2⟩; exact ⟨x, ((mem_order l x).1 h1).1, h2⟩
  · rintro ⟨x, h1, h2⟩; exact ⟨x, (mem_order l x).2 ⟨h1, holds_var h2⟩, h2⟩
theorem all_order (a : BitVec 128) (l : List Int) (h : ∀ x ∈ l, 0 < varL x) : allL a (order l) = allL a l := by
  unfold allL
  rw [Bool.eq_iff_iff, List.all_eq_true, List.all_eq_true]
  exact ⟨fun k x hx => k x ((mem_order l x).2 ⟨hx, h x hx⟩), fun k x hx => k x ((mem_order l x).1 hx).1⟩
theorem all_opp (a : BitVec 128) (l : List Int) (h : opp l = true) : allL a l = false := by
  obtain ⟨x, hx, h1, h2⟩ := of_opp h
  rw [Bool.eq_false_iff]
  intro k
  unfold allL at k
  rw [List.all_eq_true] at k
  have a1 := k x h1
  have a2 := k (-x) h2
  rw [holds_neg a hx, a1] at a2
  cases a2
theorem any_opp (a : BitVec 128) (l : List Int) (h : opp l = true) : anyL a l = true := by
  obtain ⟨x, hx, h1, h2⟩ := of_opp h
  rw [any_iff]
  by_cases k : holdsL a x = true
  · exact ⟨x, h1, k⟩
  · exact ⟨-x, h2, by rw [holds_neg a hx]; simp [k]⟩

/-- The set in which all literals of a clause are false. -/
def falseS (l : List Int) : BitVec 128 := ofL (l.filterMap fun x => if x < 0 then some (-x) else none)
theorem has_falseS (l : List Int) (v : Int) : has (falseS l) v = (decide (1 ≤ v ∧ v ≤ 128) && l.contains (-v)) := by
  unfold falseS
  rw [has_ofL, Bool.eq_iff_iff]
  simp only [List.mem_filterMap, decide_eq_true_eq, Bool.and_eq_true, List.contains_iff_mem]
  constructor
  · rintro ⟨h1, h2, x, hx, e⟩
    split at e
    · obtain rfl := Option.some.inj e
      exact ⟨⟨h1, h2⟩, by rw [Int.neg_neg]; exact hx⟩
    · cases e
  · rintro ⟨⟨h1, h2⟩, h3⟩
    exact ⟨h1, h2, -v, h3, by rw [if_pos (by omega), Int.neg_neg]⟩
theorem any_falseS (l : List Int) (ho : opp l = false) : anyL (falseS l) l = false := by
  rw [Bool.eq_false_iff]
  intro h
  obtain ⟨x, hx, hh⟩ := (any_iff _ _).1 h
  have hv := holds_var hh
  unfold holdsL at hh
  rw [has_falseS] at hh
  simp only [hv, decide_true, Bool.true_and] at hh
  rcases varL_pos hv with ⟨h1, h2, e⟩ | ⟨h1, h2, e⟩
  · rw [e, decide_eq_true (p := 1 ≤ x ∧ x ≤ 128) ⟨h1, h2⟩, decide_eq_true (p := 0 < x) (by omega)] at hh
    have hm : -x ∈ l := by simpa using hh
    rw [opp_of hv hx hm] at ho
    cases ho
  · rw [e, decide_eq_true (p := 1 ≤ -x ∧ -x ≤ 128) ⟨by omega, by omega⟩, decide_eq_false (p := 0 < x) (by omega), Int.neg_neg] at hh
    have : l.contains x = true := by simpa using hx
    rw [this] at hh
    cases hh
theorem opp_order (l : List Int) : opp (order l) = opp l := by
  rw [Bool.eq_iff_iff]
  constructor
  · intro h
    obtain ⟨x, hx, h1, h2⟩ := of_opp h
    exact opp_of hx ((mem_order l _).1 h1).1 ((mem_order l _).1 h2).1
  · intro h
    obtain ⟨x, hx, h1, h2⟩ := of_opp h
    exact opp_of hx ((mem_order l _).2 ⟨h1, hx⟩) ((mem_order l _).2 ⟨h2, by rw [varL_neg]; exact hx⟩)

/-- Resolution and subsumption. -/
theorem mem_rest (c : List Int) (v x : Int) : x ∈ rest c v ↔ x ∈ c ∧ x ≠ v := by
  unfold rest
  rw [List.mem_filter]
  simp
theorem resolve_follows (a : BitVec 128) (c d : List Int) (v : Int) (h : rsB c d v = true) (hc : anyL a c = true) (hd : anyL a d = true) : anyL a (rsL c d v) = true := by
  unfold rsL
  rw [if_pos h, any_order]
  have hv : 1 ≤ v ∧ v ≤ 128 := by unfold rsB at h; simp at h; exact h.1
  rw [any_iff] at hc hd ⊢
  obtain ⟨x, hx, hx1⟩ := hc
  obtain ⟨y, hy, hy1⟩ := hd
  by_cases ex : x = v
  · by_cases ey : y = -v
    · subst ex ey
      have := holds_neg a (x := x) (by rw [varL_up hv]; omega)
      rw [hx1, hy1] at this
      cases this
    · exact ⟨y, List.mem_append.2 (.inr ((mem_rest _ _ _).2 ⟨hy, ey⟩)), hy1⟩
  · exact ⟨x, List.mem_append.2 (.inl ((mem_rest _ _ _).2 ⟨hx, ex⟩)), hx1⟩
theorem subs_follows (a : BitVec 128) (c d : List Int) (h : subsL c d = true) (hc : anyL a c = true) : anyL a d = true := by
  rw [any_iff] at hc ⊢
  obtain ⟨x, hx, hx1⟩ := hc
  unfold subsL at h
  rw [List.all_eq_true] at h
  exact ⟨x, by simpa using h x hx, hx1⟩
theorem order_length (l : List Int) : (order l).length ≤ 256 := by
  have h : ∀ k, (ordK l k).length ≤ 2 * k := by
    intro k
    induction k with
    | zero => simp [ordK]
    | succ k ih =>
      rw [ordK, List.length_append, List.length_append]
      have e1 : (if l.contains (-((k : Int) + 1)) then [-((k : Int) + 1)] else []).length ≤ 1 := by split <;> simp
      have e2 : (if l.contains ((k : Int) + 1) then [(k : Int) + 1] else []).length ≤ 1 := by split <;> simp
      omega
  exact h 128
end Go.Proofs.Ytalpbpcanebbbaa.LM
