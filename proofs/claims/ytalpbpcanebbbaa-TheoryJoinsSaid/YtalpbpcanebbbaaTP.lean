/- Properties of normal forms, of what is left, of conjunctions: plain. -/
import Derived.Test.YtalpbpcanebbbaaTD
namespace Go.Proofs.Ytalpbpcanebbbaa.TM
open Go VM LM

theorem order_congr {c d : List Int} (h : ∀ x, x ∈ c ↔ x ∈ d) : order c = order d :=
  sorted_ext (order_sorted c) (order_sorted d) fun x => by rw [mem_order, mem_order, h]
theorem opp_congr {c d : List Int} (h : ∀ x, x ∈ c ↔ x ∈ d) : opp c = opp d := by
  rw [Bool.eq_iff_iff]
  constructor
  · intro k; obtain ⟨x, hx, h1, h2⟩ := of_opp k; exact opp_of hx ((h _).1 h1) ((h _).1 h2)
  · intro k; obtain ⟨x, hx, h1, h2⟩ := of_opp k; exact opp_of hx ((h _).2 h1) ((h _).2 h2)
theorem order_order (c : List Int) : order (order c) = order c :=
  sorted_ext (order_sorted _) (order_sorted _) fun x => by
    rw [mem_order, mem_order]; exact ⟨fun h => h.1, fun h => ⟨h, h.2⟩⟩
theorem nmK_congr {L K : List (List Int)} (h1 : ∀ c ∈ L, ∃ d ∈ K, ∀ x, x ∈ c ↔ x ∈ d) (h2 : ∀ d ∈ K, ∃ c ∈ L, ∀ x, x ∈ d ↔ x ∈ c) : nmK L = nmK K :=
  bef_ext (nmK_sorted L) (nmK_sorted K) fun x => by
    rw [mem_nmK, mem_nmK]
    constructor
    · rintro ⟨c, hc, ho, e0⟩; rw [e0]
      obtain ⟨d, hd, h⟩ := h1 c hc
      exact ⟨d, hd, by rw [← opp_congr h]; exact ho, order_congr h⟩
    · rintro ⟨d, hd, ho, e0⟩; rw [e0]
      obtain ⟨c, hc, h⟩ := h2 d hd
      exact ⟨c, hc, by rw [← opp_congr h]; exact ho, order_congr h⟩
theorem nmK_nmK (L : List (List Int)) : nmK (nmK L) = nmK L :=
  bef_ext (nmK_sorted _) (nmK_sorted L) fun x => by
    rw [mem_nmK]
    constructor
    · rintro ⟨c, hc, _, e0⟩; rw [e0]
      obtain ⟨d, hd, ho, e1⟩ := (mem_nmK L c).1 hc; rw [e1]
      rw [order_order, ← e1]; exact hc
    · intro hx
      obtain ⟨d, hd, ho, e1⟩ := (mem_nmK L x).1 hx
      exact ⟨x, hx, by rw [e1, opp_order]; exact ho, by rw [e1, order_order]⟩
theorem ordK_short {c : List Int} (h : opp c = false) : ∀ k, k ≤ 128 → (ordK c k).length ≤ k := by
  intro k
  induction k with
  | zero => intro _; simp [ordK]
  | succ k ih =>
    intro hk
    have ih := ih (by omega)
    rw [ordK, List.length_append, List.length_append]
    by_cases a : c.contains (-((k : Int) + 1)) = true
    · by_cases b : c.contains ((k : Int) + 1) = true
      · exfalso
        rw [opp_of (x := (k : Int) + 1) (by rw [varL_up (by omega)]; omega) (by simpa using b) (by simpa using a)] at h
        cases h
      · rw [if_pos a, if_neg b]; simp; omega
    · rw [if_neg a]
      by_cases b : c.contains ((k : Int) + 1) = true
      · rw [if_pos b]; simp; omega
      · rw [if_neg b]; simp; omega
theorem order_short {c : List Int} (h : opp c = false) : (order c).length ≤ 128 := ordK_short h 128 (Nat.le_refl _)
theorem valid_of {c : List Int} {n : Int} (h : ∀ x ∈ c, validL x n = true) : validAll c n = true := List.all_eq_true.2 h
theorem of_valid {c : List Int} {n : Int} (h : validAll c n = true) : ∀ x ∈ c, validL x n = true := List.all_eq_true.1 h
theorem valid_order {c : List Int} {n : Int} (h : validAll c n = true) : validAll (order c) n = true :=
  valid_of fun x hx => of_valid h x ((mem_order c x).1 hx).1
theorem ckT_nmK {n : Int} {L : List (List Int)} (h : ckT n L = 0) : ckT n (nmK L) = 0 := by
  obtain ⟨h1, h2, h3⟩ := ckT_zero.1 h
  refine ckT_zero.2 ⟨h1, by have := nmK_length L; omega, fun c hc => ?_⟩
  obtain ⟨d, hd, ho, e1⟩ := (mem_nmK L c).1 hc; rw [e1]
  exact ⟨order_short ho, valid_order (h3 d hd).2⟩
theorem ev_nmK (L : List (List Int)) (a : BitVec 128) : (nmK L).all (anyL a) = L.all (anyL a) := by
  rw [Bool.eq_iff_iff, List.all_eq_true, List.all_eq_true]
  constructor
  · intro h c hc
    cases ho : opp c
    · have := h (order c) ((mem_nmK L _).2 ⟨c, hc, ho, rfl⟩)
      rwa [any_order] at this
    · exact any_opp a c ho
  · intro h c hc
    obtain ⟨d, hd, ho, e1⟩ := (mem_nmK L c).1 hc; rw [e1]
    rw [any_order]; exact h d hd
theorem evT_nmK {n : Int} {L : List (List Int)} (h : ckT n L = 0) (a : BitVec 128) : evT n (nmK L) a = evT n L a := by
  unfold evT; rw [ckT_nmK h, h, ev_nmK]

/-- What is left. -/
theorem mem_gvC {s c : List Int} {x : Int} : x ∈ gvC s c ↔ x ∈ c ∧ -x ∉ s := by
  unfold gvC; rw [List.mem_filter]; simp
theorem gvL_congr {s t : List Int} (h : ∀ x, x ∈ s ↔ x ∈ t) (L : List (List Int)) : gvL s L = gvL t L := by
  have e : ∀ x, s.contains x = t.contains x := fun x => by
    rw [Bool.eq_iff_iff]; simp [h]
  unfold gvL gvC
  congr 1
  · funext c; congr 1; funext x; rw [e]
  · congr 1; funext c; congr 2; funext x; exact e x
theorem ckT_gvL {n : Int} {L : List (List Int)} (s : List Int) (h : ckT n L = 0) : ckT n (gvL s L) = 0 := by
  obtain ⟨h1, h2, h3⟩ := ckT_zero.1 h
  refine ckT_zero.2 ⟨h1, ?_, fun c hc => ?_⟩
  · unfold gvL; rw [List.length_map]
    have : (L.filter fun c => !c.any s.contains).length ≤ L.length := List.length_filter_le _ _
    omega
  · unfold gvL at hc
    obtain ⟨d, hd, rfl⟩ := List.mem_map.1 hc
    have hd := (List.mem_filter.1 hd).1
    have : (gvC s d).length ≤ d.length := List.length_filter_le _ _
    have h4 := h3 d hd
    exact ⟨by omega, valid_of fun x hx => of_valid h4.2 x (mem_gvC.1 hx).1⟩
/-- In an assignment in which the term is true, a theory is true where what is left is. -/
theorem ev_gvL {a : BitVec 128} {s : List Int} (hs : allL a s = true) {L : List (List Int)} (hv : ∀ c ∈ L, ∀ x ∈ c, 0 < varL x) : (gvL s L).all (anyL a) = L.all (anyL a) := by
  have hsa : ∀ x ∈ s, holdsL a x = true := List.all_eq_true.1 hs
  rw [Bool.eq_iff_iff, List.all_eq_true, List.all_eq_true]
  have key : ∀ c ∈ L, c.any s.contains = false → anyL a (gvC s c) = anyL a c := by
    intro c hc _
    rw [Bool.eq_iff_iff, any_iff, any_iff]
    constructor
    · rintro ⟨x, hx, h⟩; exact ⟨x, (mem_gvC.1 hx).1, h⟩
    · rintro ⟨x, hx, h⟩
      refine ⟨x, mem_gvC.2 ⟨hx, fun hn => ?_⟩, h⟩
      have := hsa _ hn
      rw [holds_neg a (hv c hc x hx), h] at this
      cases this
  constructor
  · intro h c hc
    cases hb : c.any s.contains
    · rw [← key c hc hb]
      exact h _ (List.mem_map.2 ⟨c, List.mem_filter.2 ⟨hc, by rw [hb]; rfl⟩, rfl⟩)
    · obtain ⟨x, hx, h1⟩ := List.any_eq_true.1 hb
      exact (any_iff a c).2 ⟨x, hx, hsa x (by simpa using h1)⟩
  · intro h c hc
    obtain ⟨d, hd, rfl⟩ := List.mem_map.1 hc
    obtain ⟨hd1, hd2⟩ := List.mem_filter.1 hd
    rw [key d hd1 (by simpa using hd2)]
    exact h d hd1
theorem evT_gvL {n : Int} {a : BitVec 128} {s : List Int} (hs : allL a s = true) {L : List (List Int)} (h : ckT n L = 0) : evT n (gvL s L) a = evT n L a := by
  obtain ⟨h1, h2, h3⟩ := ckT_zero.1 h
  unfold evT
  rw [ckT_gvL s h, h, ev_gvL hs fun c hc x hx => valid_all (h3 c hc).2 x hx]
/-- Variables. -/
theorem has_vrC (c : List Int) (v : Int) : has (vrC c) v = decide (1 ≤ v ∧ v ≤ 128 ∧ ∃ x ∈ c, varL x = v) := by
  unfold vrC; rw [has_ofL, decide_eq_decide, List.mem_map]
theorem has_vrL (L : List (List Int)) (v : Int) : has (vrL L) v = decide (1 ≤ v ∧ v ≤ 128 ∧ ∃ c ∈ L, ∃ x ∈ c, varL x = v) := by
  have : ∀ (L : List (List Int)) (s : BitVec 128), has (L.foldl (fun s c => s ||| vrC c) s) v = (has s v || decide (1 ≤ v ∧ v ≤ 128 ∧ ∃ c ∈ L, ∃ x ∈ c, varL x = v)) := by
    intro L
    induction L with
    | nil => intro s; simp
    | cons c L ih =>
      intro s
      rw [List.foldl_cons, ih, has_or, has_vrC, Bool.or_assoc]
      congr 1
      rw [Bool.eq_iff_iff]
      simp only [Bool.or_eq_true, decide_eq_true_eq]
      constructor
      · rintro (⟨a, b, x, h⟩ | ⟨a, b, d, hd, h⟩)
        · exact ⟨a, b, c, .head _, x, h⟩
        · exact ⟨a, b, d, .tail _ hd, h⟩
      · rintro ⟨a, b, d, hd, h⟩
        rcases List.mem_cons.1 hd with rfl | hd
        · obtain ⟨x, h⟩ := h; exact .inl ⟨a, b, x, h⟩
        · exact .inr ⟨a, b, d, hd, h⟩
  unfold vrL; rw [this, has_empty, Bool.false_or]
/-- The variables of the term do not occur in what is left. -/
theorem vrL_gvL {s : List Int} {L : List (List Int)} {x : Int} (hx : x ∈ s) (hv : 0 < varL x) : has (vrL (gvL s L)) (varL x) = false := by
  rw [has_vrL, decide_eq_false_iff_not]
  rintro ⟨_, _, c, hc, y, hy, e⟩
  obtain ⟨d, hd, rfl⟩ := List.mem_map.1 hc
  have hd2 := (List.mem_filter.1 hd).2
  obtain ⟨h1, h2⟩ := mem_gvC.1 hy
  have hyx : y = x ∨ y = -x := by
    have hy0 : 0 < varL y := by omega
    rcases varL_pos hv with a | a <;> rcases varL_pos hy0 with b | b <;> omega
  rcases hyx with rfl | rfl
  · have : d.any s.contains = true := List.any_eq_true.2 ⟨y, h1, by simpa using hx⟩
    rw [this] at hd2; cases hd2
  · rw [Int.neg_neg] at h2; exact h2 hx
/-- One term after the other is both at once. -/
theorem gvL_gvL {s t : List Int} (h : ∀ x ∈ t, -x ∉ s) (L : List (List Int)) : gvL t (gvL s L) = gvL (s ++ t) L := by
  unfold gvL
  rw [List.filter_map, List.map_map]
  have e1 : ∀ c : List Int, (gvC t ∘ gvC s) c = gvC (s ++ t) c := by
    intro c
    show gvC t (gvC s c) = _
    unfold gvC
    rw [List.filter_filter]
    congr 1
    funext x
    rw [Bool.eq_iff_iff]
    simp [and_comm]
  have e2 : (gvC t ∘ gvC s) = gvC (s ++ t) := funext e1
  rw [e2, List.filter_filter]
  congr 1
  refine List.filter_congr fun c _ => ?_
  rw [Bool.eq_iff_iff]
  simp only [Bool.and_eq_true, Bool.not_eq_true', Function.comp_apply]
  have f : ∀ (u d : List Int), d.any u.contains = false ↔ ∀ x ∈ d, x ∉ u := by
    intro u d; rw [List.any_eq_false]; simp
  rw [f, f, f]
  constructor
  · rintro ⟨h1, h2⟩ x hx hm
    rcases List.mem_append.1 hm with hm | hm
    · exact h2 x hx hm
    · exact h1 x (mem_gvC.2 ⟨hx, h x hm⟩) hm
  · intro k
    exact ⟨fun x hx hm => k x (mem_gvC.1 hx).1 (List.mem_append.2 (.inr hm)), fun x hx hm => k x hx (List.mem_append.2 (.inl hm))⟩
/-- Conjunctions. -/
theorem ckT_up {n m : Int} {L : List (List Int)} (h : ckT n L = 0) (hm : n ≤ m) (h128 : m ≤ 128) : ∀ c ∈ L, c.length ≤ 128 ∧ validAll c m = true := by
  obtain ⟨h1, _, h3⟩ := ckT_zero.1 h
  intro c hc
  refine ⟨(h3 c hc).1, valid_of fun x hx => ?_⟩
  have := of_valid (h3 c hc).2 x hx
  rw [validL_iff (by omega)] at this ⊢
  omega
theorem ckT_join {n m : Int} {L K : List (List Int)} (h : ckT n L = 0) (k : ckT m K = 0) (hl : L.length + K.length ≤ 4096) : ckT (max n m) (L ++ K) = 0 := by
  have h1 := (ckT_zero.1 h).1
  have k1 := (ckT_zero.1 k).1
  refine ckT_zero.2 ⟨by omega, by rw [List.length_append]; exact hl, fun c hc => ?_⟩
  rcases List.mem_append.1 hc with hc | hc
  · exact ckT_up h (by omega) (by omega) c hc
  · exact ckT_up k (by omega) (by omega) c hc
end Go.Proofs.Ytalpbpcanebbbaa.TM
