/- Theories as plain lists of lists of numbers. -/
import Derived.Test.YtalpbpcanebbbaaLM
namespace Go.Proofs.Ytalpbpcanebbbaa.TM
open Go VM LM

/-- What is wrong with a clause, with a list of clauses, with a theory. -/
def ckC (n : Int) (c : List Int) : Int := if 128 < c.length then 2 else if validAll c n then 0 else 1
def ckL (n : Int) : List (List Int) → Int
  | [] => 0
  | c :: r => if ckC n c = 0 then ckL n r else ckC n c
def ckT (n : Int) (L : List (List Int)) : Int := if n < 0 ∨ 128 < n then 6 else if 4096 < L.length then 2 else ckL n L
theorem ckL_none {n : Int} : ∀ {L : List (List Int)}, (∀ c ∈ L, ckC n c = 0) → ckL n L = 0
  | [], _ => rfl
  | c :: r, h => by rw [ckL, if_pos (h c (.head _))]; exact ckL_none fun d hd => h d (.tail _ hd)
theorem ckL_zero {n : Int} : ∀ {L : List (List Int)}, ckL n L = 0 → ∀ c ∈ L, ckC n c = 0
  | [], _, c, hc => by cases hc
  | d :: r, h, c, hc => by
    rw [ckL] at h
    by_cases hd : ckC n d = 0
    · rw [if_pos hd] at h
      rcases List.mem_cons.1 hc with rfl | hc
      · exact hd
      · exact ckL_zero h c hc
    · rw [if_neg hd] at h; exact absurd h hd
theorem ckL_found {n : Int} {c : List Int} : ∀ {L : List (List Int)} {k : Nat}, (∀ d ∈ L.take k, ckC n d = 0) → L[k]? = some c → ckC n c ≠ 0 → ckL n L = ckC n c
  | [], k, _, hx, _ => by simp at hx
  | d :: r, 0, _, hx, hc => by
    simp at hx; subst hx
    rw [ckL, if_neg hc]
  | d :: r, k + 1, h, hx, hc => by
    rw [ckL, if_pos (h d (by simp))]
    exact ckL_found (fun e he => h e (by rw [List.take_succ_cons]; exact .tail _ he)) (by simpa using hx) hc
theorem take_start {α : Type} {l : List α} {P : α → Prop} : ∀ y ∈ l.take 0, P y := by simp
theorem take_step {α : Type} {l : List α} {P : α → Prop} {k : Nat} {x : α} (h : ∀ y ∈ l.take k, P y) (hx : l[k]? = some x) (hp : P x) : ∀ y ∈ l.take (k + 1), P y := by
  intro y hy
  rw [List.take_add_one, hx] at hy
  rcases List.mem_append.1 hy with hy | hy
  · exact h y hy
  · simp at hy; rw [hy]; exact hp
theorem take_all {α : Type} {l : List α} {P : α → Prop} {k : Nat} (h : ∀ y ∈ l.take k, P y) (hk : l.length ≤ k) : ∀ y ∈ l, P y := by
  rwa [List.take_of_length_le hk] at h
theorem ckC_zero {n : Int} {c : List Int} : ckC n c = 0 ↔ c.length ≤ 128 ∧ validAll c n = true := by
  unfold ckC
  by_cases h : 128 < c.length
  · rw [if_pos h]; omega
  · rw [if_neg h]
    by_cases hv : validAll c n = true
    · rw [if_pos hv]; simp [hv]; omega
    · rw [if_neg hv]; simp [hv]
theorem ckT_zero {n : Int} {L : List (List Int)} : ckT n L = 0 ↔ (0 ≤ n ∧ n ≤ 128) ∧ L.length ≤ 4096 ∧ ∀ c ∈ L, c.length ≤ 128 ∧ validAll c n = true := by
  unfold ckT
  by_cases h : n < 0 ∨ 128 < n
  · rw [if_pos h]; omega
  · rw [if_neg h]
    by_cases h2 : 4096 < L.length
    · rw [if_pos h2]; omega
    · rw [if_neg h2]
      constructor
      · intro k; exact ⟨by omega, by omega, fun c hc => ckC_zero.1 (ckL_zero k c hc)⟩
      · rintro ⟨-, -, k⟩; exact ckL_none fun c hc => ckC_zero.2 (k c hc)
theorem validL_iff {x n : Int} (hn : n ≤ 128) : validL x n = true ↔ x ≠ 0 ∧ -n ≤ x ∧ x ≤ n := by
  unfold validL varL
  simp only [Bool.and_eq_true, decide_eq_true_eq]
  split
  · omega
  · split <;> omega

/-- The errors that a clause and a theory can have. -/
theorem ckC_vals (n : Int) (c : List Int) : ckC n c = 0 ∨ ckC n c = 1 ∨ ckC n c = 2 := by
  unfold ckC; split
  · omega
  · split <;> omega

/-- Truth. -/
def evT (n : Int) (L : List (List Int)) (a : BitVec 128) : Bool := decide (ckT n L = 0) && (decide (a &&& ~~~all n = 0#128) && L.all (anyL a))
/-- What is left. -/
def gvC (s c : List Int) : List Int := c.filter fun x => !s.contains (-x)
def gvL (s : List Int) (L : List (List Int)) : List (List Int) := (L.filter fun c => !c.any s.contains).map (gvC s)
def gvE (n : Int) (L : List (List Int)) (s : List Int) : Int := if ckT n L = 0 then (if tmB s n then 0 else 1) else ckT n L
/-- Variables. -/
def vrC (c : List Int) : BitVec 128 := ofL (c.map varL)
def vrL (L : List (List Int)) : BitVec 128 := L.foldl (fun s c => s ||| vrC c) 0#128
def vrT (n : Int) (L : List (List Int)) : BitVec 128 := if ckT n L = 0 then vrL L else 0#128
/-- Conjunctions. -/
def jnE (n : Int) (L : List (List Int)) (m : Int) (K : List (List Int)) : Int := if ckT n L = 0 then (if ckT m K = 0 then (if 4096 < L.length + K.length then 2 else 0) else ckT m K) else ckT n L

/-- The order of clauses. -/
def lexB : List Int → List Int → Bool
  | x :: c, y :: d => if x = y then lexB c d else decide (varW x < varW y ∨ (varW x = varW y ∧ x < y))
  | _, _ => false
def bef (c d : List Int) : Bool := decide (c.length < d.length) || (decide (c.length = d.length) && lexB c d)
theorem lex_irrefl : ∀ c : List Int, lexB c c = false
  | [] => rfl
  | x :: c => by rw [lexB, if_pos rfl]; exact lex_irrefl c
theorem lex_trans : ∀ {a b c : List Int}, lexB a b = true → lexB b c = true → lexB a c = true
  | [], _, _, h, _ => by simp [lexB] at h
  | _ :: _, [], _, h, _ => by simp [lexB] at h
  | _ :: _, _ :: _, [], _, h => by simp [lexB] at h
  | x :: a, y :: b, z :: c, h, k => by
    rw [lexB] at h k ⊢
    by_cases e1 : x = y
    · subst e1
      rw [if_pos rfl] at h
      by_cases e2 : x = z
      · subst e2; rw [if_pos rfl] at k ⊢; exact lex_trans h k
      · rw [if_neg e2] at k ⊢; exact k
    · rw [if_neg e1] at h
      by_cases e2 : y = z
      · subst e2; rw [if_neg e1]; exact h
      · rw [if_neg e2] at k
        simp only [decide_eq_true_eq] at h k
        by_cases e3 : x = z
        · subst e3; exfalso; omega
        · rw [if_neg e3]; simp only [decide_eq_true_eq]; omega
theorem lex_total : ∀ {a b : List Int}, a.length = b.length → a ≠ b → lexB a b = true ∨ lexB b a = true
  | [], [], _, h => absurd rfl h
  | [], _ :: _, h, _ => by simp at h
  | _ :: _, [], h, _ => by simp at h
  | x :: a, y :: b, h, hne => by
    rw [lexB, lexB]
    by_cases e : x = y
    · subst e
      rw [if_pos rfl, if_pos rfl]
      exact lex_total (by simpa using h) (fun e => hne (by rw [e]))
    · rw [if_neg e, if_neg (fun h => e h.symm)]
      simp only [decide_eq_true_eq]; omega
theorem bef_irrefl (c : List Int) : bef c c = false := by unfold bef; rw [lex_irrefl]; simp
theorem bef_iff {c d : List Int} : bef c d = true ↔ c.length < d.length ∨ (c.length = d.length ∧ lexB c d = true) := by unfold bef; simp
theorem bef_trans {a b c : List Int} (h : bef a b = true) (k : bef b c = true) : bef a c = true := by
  rw [bef_iff] at *
  rcases h with h | ⟨h, h2⟩
  · rcases k with k | ⟨k, k2⟩ <;> left <;> omega
  · rcases k with k | ⟨k, k2⟩
    · left; omega
    · right; exact ⟨by omega, lex_trans h2 k2⟩
theorem bef_total {a b : List Int} (h : a ≠ b) : bef a b = true ∨ bef b a = true := by
  rw [bef_iff, bef_iff]
  rcases Nat.lt_trichotomy a.length b.length with k | k | k
  · exact .inl (.inl k)
  · rcases lex_total k h with j | j
    · exact .inl (.inr ⟨k, j⟩)
    · exact .inr (.inr ⟨k.symm, j⟩)
  · exact .inr (.inl k)
theorem bef_asymm {a b : List Int} (h : bef a b = true) : bef b a = false := by
  rw [Bool.eq_false_iff]; intro k
  have := bef_trans h k
  rw [bef_irrefl] at this; cases this
/-- Lists in that order, each clause once, are the same if they have the same clauses. -/
theorem bef_ext : ∀ {a b : List (List Int)}, a.Pairwise (fun c d => bef c d = true) → b.Pairwise (fun c d => bef c d = true) → (∀ x, x ∈ a ↔ x ∈ b) → a = b := by
  intro a
  induction a with
  | nil =>
    intro b _ _ h
    cases b with
    | nil => rfl
    | cons y b => exact absurd ((h y).2 (.head _)) (by simp)
  | cons x a ih =>
    intro b ha hb h
    cases b with
    | nil => exact absurd ((h x).1 (.head _)) (by simp)
    | cons y b =>
      obtain ⟨ha1, ha2⟩ := List.pairwise_cons.1 ha
      obtain ⟨hb1, hb2⟩ := List.pairwise_cons.1 hb
      have hxy : x = y := by
        apply Classical.byContradiction
        intro hne
        have h1 : x ∈ b := by
          rcases List.mem_cons.1 ((h x).1 (.head _)) with e | e
          · exact absurd e hne
          · exact e
        have h2 : y ∈ a := by
          rcases List.mem_cons.1 ((h y).2 (.head _)) with e | e
          · exact absurd e.symm hne
          · exact e
        have := bef_trans (hb1 x h1) (ha1 y h2)
        rw [bef_irrefl] at this; cases this
      subst hxy
      congr 1
      refine ih ha2 hb2 fun z => ?_
      have ax : x ∉ a := fun k => by have := ha1 x k; rw [bef_irrefl] at this; cases this
      have bx : x ∉ b := fun k => by have := hb1 x k; rw [bef_irrefl] at this; cases this
      constructor
      · intro hz
        rcases List.mem_cons.1 ((h z).1 (.tail _ hz)) with e | e
        · subst e; exact absurd hz ax
        · exact e
      · intro hz
        rcases List.mem_cons.1 ((h z).2 (.tail _ hz)) with e | e
        · subst e; exact absurd hz bx
        · exact e
/-- A clause among others, in their order. -/
def putK (c : List Int) : List (List Int) → List (List Int)
  | [] => [c]
  | d :: r => if bef d c then d :: putK c r else if bef c d then c :: d :: r else d :: r
theorem mem_putK (c : List Int) (x : List Int) : ∀ l : List (List Int), x ∈ putK c l ↔ x = c ∨ x ∈ l
  | [] => by simp [putK]
  | d :: r => by
    rw [putK]
    by_cases h : bef d c = true
    · rw [if_pos h, List.mem_cons, mem_putK c x r, List.mem_cons]
      constructor
      · rintro (h | h | h) <;> simp [h]
      · rintro (h | h | h) <;> simp [h]
    · rw [if_neg h]
      by_cases k : bef c d = true
      · rw [if_pos k, List.mem_cons]
      · rw [if_neg k]
        have : c = d := by
          apply Classical.byContradiction; intro hne
          rcases bef_total hne with j | j
          · exact k j
          · exact h j
        subst this
        simp
theorem putK_sorted (c : List Int) : ∀ {l : List (List Int)}, l.Pairwise (fun c d => bef c d = true) → (putK c l).Pairwise (fun c d => bef c d = true)
  | [], _ => by simp [putK]
  | d :: r, hl => by
    obtain ⟨h1, h2⟩ := List.pairwise_cons.1 hl
    rw [putK]
    by_cases h : bef d c = true
    · rw [if_pos h, List.pairwise_cons]
      refine ⟨fun x hx => ?_, putK_sorted c h2⟩
      rcases (mem_putK c x r).1 hx with rfl | hx
      · exact h
      · exact h1 x hx
    · rw [if_neg h]
      by_cases k : bef c d = true
      · rw [if_pos k, List.pairwise_cons]
        refine ⟨fun x hx => ?_, hl⟩
        rcases List.mem_cons.1 hx with rfl | hx
        · exact k
        · exact bef_trans k (h1 x hx)
      · rw [if_neg k]; exact hl
/-- The normal form's clauses. -/
def nmK (L : List (List Int)) : List (List Int) := ((L.filter fun c => !opp c).map order).foldl (fun l c => putK c l) []
theorem nmK_from (M : List (List Int)) : ∀ l : List (List Int), l.Pairwise (fun c d => bef c d = true) → (M.foldl (fun l c => putK c l) l).Pairwise (fun c d => bef c d = true) ∧ ∀ x, x ∈ M.foldl (fun l c => putK c l) l ↔ x ∈ l ∨ x ∈ M := by
  induction M with
  | nil => intro l hl; exact ⟨hl, fun x => by simp⟩
  | cons c M ih =>
    intro l hl
    rw [List.foldl_cons]
    obtain ⟨h1, h2⟩ := ih _ (putK_sorted c hl)
    refine ⟨h1, fun x => ?_⟩
    rw [h2, mem_putK, List.mem_cons]
    constructor
    · rintro ((h | h) | h) <;> simp [h]
    · rintro (h | h | h) <;> simp [h]
theorem nmK_sorted (L : List (List Int)) : (nmK L).Pairwise (fun c d => bef c d = true) := (nmK_from _ [] List.Pairwise.nil).1
theorem mem_nmK (L : List (List Int)) (x : List Int) : x ∈ nmK L ↔ ∃ c ∈ L, opp c = false ∧ x = order c := by
  unfold nmK
  rw [(nmK_from _ [] List.Pairwise.nil).2]
  simp only [List.not_mem_nil, false_or, List.mem_map, List.mem_filter, Bool.not_eq_true']
  exact ⟨fun ⟨c, ⟨h1, h2⟩, e⟩ => ⟨c, h1, h2, e.symm⟩, fun ⟨c, h1, h2, e⟩ => ⟨c, ⟨h1, h2⟩, e.symm⟩⟩
theorem putK_length (c : List Int) : ∀ l : List (List Int), (putK c l).length ≤ l.length + 1
  | [] => by simp [putK]
  | d :: r => by
    rw [putK]
    have := putK_length c r
    split
    · simp; omega
    · split <;> simp
theorem fold_length (M : List (List Int)) : ∀ l : List (List Int), (M.foldl (fun l c => putK c l) l).length ≤ l.length + M.length := by
  induction M with
  | nil => intro l; simp
  | cons c M ih =>
    intro l
    rw [List.foldl_cons]
    have := ih (putK c l)
    have := putK_length c l
    simp; omega
theorem nmK_length (L : List (List Int)) : (nmK L).length ≤ L.length := by
  have := fold_length ((L.filter fun c => !opp c).map order) []
  have h2 : (L.filter fun c => !opp c).length ≤ L.length := List.length_filter_le _ _
  unfold nmK
  simp at this ⊢
  omega
end Go.Proofs.Ytalpbpcanebbbaa.TM
