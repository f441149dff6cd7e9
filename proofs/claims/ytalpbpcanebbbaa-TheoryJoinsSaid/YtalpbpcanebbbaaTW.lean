/- Lists of clauses in memory; contracts of checkClause and Check. -/
import Derived.Test.YtalpbpcanebbbaaTV
import Derived.Test.YtalpbpcanebbbaaTP
import Derived.Deep.RegionHeld3
namespace Go.Proofs.Ytalpbpcanebbbaa
open Go.RowKit VM LM TM

/-- A slice of clauses: each cell holds a slice of its numbers. -/
def Cls (w : World) (v : Value) (L : List (List Int)) : Prop :=
  ∃ ao cap, v = .slice ao L.length cap ∧ ∀ j c, L[j]? = some c → ∃ b off x, ao = some ⟨b, off, none⟩ ∧ w.cell? ⟨b, off + j, none⟩ = some x ∧ Ints w x c
theorem Cls.form {w : World} {v : Value} {L : List (List Int)} (h : Cls w v L) : ∃ ao cap, v = .slice ao L.length cap := by
  obtain ⟨ao, cap, e, _⟩ := h; exact ⟨ao, cap, e⟩
theorem Cls.next {w w' : World} {v : Value} {L : List (List Int)} (h : Cls w v L) (hb : Below w.heap.size w w') : Cls w' v L := by
  obtain ⟨ao, cap, e, h⟩ := h
  refine ⟨ao, cap, e, fun j c hj => ?_⟩
  obtain ⟨b, off, x, e1, h1, h2⟩ := h j c hj
  exact ⟨b, off, x, e1, cell_grows hb h1, h2.next hb⟩
/-- A theory's clauses, with what holds of everything that comes in. -/
structure Th (w : World) (v : Value) (L : List (List Int)) : Prop where
  cls : Cls w v L
  len : L.length ≤ 9223372036854775807
  lens : ∀ c ∈ L, c.length ≤ 9223372036854775807
  in64 : ∀ c ∈ L, ∀ x ∈ c, In64 x
theorem Th.next {w w' : World} {v : Value} {L : List (List Int)} (h : Th w v L) (hb : Below w.heap.size w w') : Th w' v L := ⟨h.cls.next hb, h.len, h.lens, h.in64⟩
/-- A theory in a box. -/
def AtT (w : World) (b : Nat) (n : Int) (v : Value) : Prop := w.cell? ⟨b, 0, none⟩ = some (.int .i64 n) ∧ w.cell? ⟨b, 1, none⟩ = some v
theorem AtT.grows {w w' : World} {b : Nat} {n : Int} {v : Value} (H : AtT w b n v) (hb : Below w.heap.size w w') : AtT w' b n v := ⟨cell_grows hb H.1, cell_grows hb H.2⟩
theorem AtT.new (w : World) (k : Nat) (n : Int) (v : Value) (hk : k = w.heap.size) : AtT (w.alloc (.cells #[.int .i64 n, v] 24)) k n v := by
  subst hk
  have hb : (w.alloc (.cells #[.int .i64 n, v] 24)).heap[w.heap.size]? = some (.cells #[.int .i64 n, v] 24 (0, 0)) := heap_alloc_new w _
  exact ⟨by simp only [World.cell?, hb]; rfl, by simp only [World.cell?, hb]; rfl⟩
theorem cell_new1 (w : World) (v : Value) (t : TypeId) : (w.alloc (.cells #[v] t)).cell? ⟨w.heap.size, 0, none⟩ = some v := by
  have hb : (w.alloc (.cells #[v] t)).heap[w.heap.size]? = some (.cells #[v] t (0, 0)) := heap_alloc_new w _
  simp only [World.cell?, hb]; rfl

set_option maxRecDepth 100000 in
set_option maxHeartbeats 1000000 in
theorem check1_any (n x : Int) (B : Nat) (w : World) (hc : w.cell? ⟨B, 0, none⟩ = some (.int .i64 n)) (h : In64 x) :
    Calls Try.prog 74 #[.int .i64 x, .pointer (some ⟨B, 0, none⟩)] w fun e w' => e = .returned (.bool (!validL x n)) ∧ Below w.heap.size w w' := by
  have C := mkHid (fun W => valid_any x n W h)
  generalize validL x n = r at *
  go_enter Try.func74, Try.ntmps74
  go_wp2_with (go_at_call 75; refine (C.out _).mono ?_; rintro e w2 ⟨rfl, rfl⟩)
  go_ret
  exact ⟨rfl, Below.refl _ _⟩

set_option maxRecDepth 100000 in
set_option maxHeartbeats 1000000 in
theorem checkClause_any (v : Value) (c : List Int) (n : Int) (w : World) (hv : Ints w v c) (hlen : c.length ≤ 9223372036854775807) (h64 : ∀ x ∈ c, In64 x) :
    Calls Try.prog 36 #[v, .int .i64 n] w fun e w' => e = .returned (.int .i64 (ckC n c)) ∧ Below w.heap.size w w' := by
  by_cases h1 : 128 < c.length
  · have e : ckC n c = 2 := by unfold ckC; rw [if_pos h1]
    rw [e]
    have h2 : (128 : Int) < (c.length : Int) := by omega
    obtain ⟨ao, cap, rfl⟩ := hv.form
    clear hv h64 e
    go_enter Try.func36, Try.ntmps36
    go_wp2
    go_ret
    exact ⟨rfl, bal (Below.refl _ _) _⟩
  · have h2 : ¬ (128 : Int) < (c.length : Int) := by omega
    have eg : ∀ args w, (callFunc 74 args).run Try.prog w = .ok (.enter 74 args) w := enters_of Try.func74 (by kernel_rfl) rfl
    have hB := bal (Below.refl _ w) (.cells #[.int .i64 n] 3)
    have hc0 := cell_new1 w (.int .i64 n) 3
    have C := mkHid (contains_any 74 #[.pointer (some ⟨w.heap.size, 0, none⟩)] eg (fun x => !validL x n) v c _ (hv.next hB) (by omega) (fun W x hb hx =>
      (check1_any n x w.heap.size W (cell_grows hb hc0) (h64 x hx)).mono fun e w' ⟨he, hb'⟩ => ⟨he, bnx hb hb'⟩))
    have HB := mkHid hB
    have HE : Hid (ckC n c = if c.any (fun x => !validL x n) then 1 else 0) := mkHid (by
      unfold ckC validAll
      rw [if_neg h1, List.all_eq_not_any_not]
      cases c.any (fun x => !validL x n) <;> rfl)
    rw [HE.out]
    obtain ⟨ao, cap, rfl⟩ := hv.form
    clear hv h64 hB eg HE hc0 h1
    generalize c.any (fun x => !validL x n) = r at *
    cases r
    all_goals
      go_enter Try.func36, Try.ntmps36
      go_wp2_with (go_at_call 73; refine C.out.mono ?_; rintro e w2 ⟨rfl, hb⟩)
      go_ret
      exact ⟨rfl, bnx HB.out hb⟩

set_option maxRecDepth 100000 in
set_option maxHeartbeats 2000000 in
theorem check_any (n : Int) (v : Value) (L : List (List Int)) (w : World) (h : Th w v L) :
    Calls Try.prog 17 #[.agg #[.int .i64 n, v]] w fun e w' => e = .returned (.int .i64 (ckT n L)) ∧ Below w.heap.size w w' := by
  have HT := mkHid h
  have HB := mkHid (bal (Below.refl _ w) (.cells #[.int .i64 n, v] 24))
  have HA := mkHid (AtT.new w w.heap.size n v rfl)
  obtain ⟨ao, cap, rfl, hc⟩ := h.cls
  have HC := mkHid hc
  obtain ⟨a0, a1⟩ := HA.out
  have hlen := h.len
  clear h hc
  by_cases h1 : n < 0
  · have e : ckT n L = 6 := by unfold ckT; rw [if_pos (.inl h1)]
    rw [e]
    clear e
    go_enter Try.func17, Try.ntmps17
    go_wp2
    go_ret
    exact ⟨rfl, HB.out⟩
  · by_cases h2 : 128 < n
    · have e : ckT n L = 6 := by unfold ckT; rw [if_pos (.inr h2)]
      rw [e]
      clear e
      go_enter Try.func17, Try.ntmps17
      go_wp2
      go_ret
      exact ⟨rfl, HB.out⟩
    · by_cases h3 : 4096 < L.length
      · have e : ckT n L = 2 := by unfold ckT; rw [if_neg (by omega), if_pos h3]
        rw [e]
        have h4 : (4096 : Int) < (L.length : Int) := by omega
        clear e
        go_enter Try.func17, Try.ntmps17
        go_wp2
        go_ret
        exact ⟨rfl, HB.out⟩
      · have HE : Hid (ckT n L = ckL n L) := mkHid (by unfold ckT; rw [if_neg (by omega), if_neg h3])
        rw [HE.out]
        have h4 : ¬ (4096 : Int) < (L.length : Int) := by omega
        clear HE
        go_enter Try.func17, Try.ntmps17
        go_wp2
        go_loopw [21] (fun iv wr => ∃ k : Nat, k ≤ L.length ∧ iv = .int .i64 (k : Int) ∧ Hid ((∀ d ∈ L.take k, ckC n d = 0) ∧ AtT wr w.heap.size n (.slice ao L.length cap) ∧ Below w.heap.size w wr)) (fun iv _ => L.length - (intOf iv).toNat)
        case atStart => exact ⟨0, Nat.zero_le _, rfl, mkHid ⟨take_start, HA.out, HB.out⟩⟩
        case round =>
          obtain ⟨k, hk, rfl, H⟩ := hrel
          clear a0 a1
          by_cases hlt : k < L.length
          · obtain ⟨c, hc⟩ : ∃ c, L[k]? = some c := ⟨L[k], List.getElem?_eq_getElem hlt⟩
            obtain ⟨b, off, x, rfl, hx, hi⟩ := HC.out k c hc
            have p1 := cell_grows H.out.2.2 hx
            obtain ⟨a0, a1⟩ := H.out.2.1
            have hk1 : (k : Int) < (L.length : Int) := by omega
            have hk0 : (0 : Int) ≤ (k : Int) := by omega
            have hm := List.mem_of_getElem? hc
            have C := mkHid (fun W (hb : Below w.heap.size w W) => checkClause_any x c n W (hi.next hb) (HT.out.lens c hm) (HT.out.in64 c hm))
            have HY := mkHid hc
            clear hc hx hi hm
            by_cases hp : ckC n c = 0
            · have HP := mkHid hp
              rw [hp] at C
              clear hp
              go_wp2_with (go_at_call 36; refine (C.out _ H.out.2.2).mono ?_; rintro e w2 ⟨rfl, hb⟩; have HN := mkHid hb; clear hb)
              go_roundw
              case rel => exact ⟨k + 1, by omega, by go_num, mkHid ⟨take_step H.out.1 HY.out HP.out, H.out.2.1.grows HN.out, bnx H.out.2.2 HN.out⟩⟩
              case measure => simp [intOf]; omega
            · have HF := mkHid (ckL_found H.out.1 HY.out hp)
              generalize ckC n c = q at *
              go_wp2_with (go_at_call 36; refine (C.out _ H.out.2.2).mono ?_; rintro e w2 ⟨rfl, hb⟩; have HN := mkHid hb; clear hb)
              go_ret
              exact ⟨by rw [HF.out]; rfl, bnx H.out.2.2 HN.out⟩
          · have hk1 : ¬ (k : Int) < (L.length : Int) := by omega
            have HF := mkHid (ckL_none (n := n) (take_all H.out.1 (by omega)))
            go_wp2
            go_ret
            exact ⟨by rw [HF.out]; rfl, H.out.2.2⟩
end Go.Proofs.Ytalpbpcanebbbaa
