/- Contracts of inOrder, of the sort, of unrepeated, of Normal. -/
import Derived.Test.YtalpbpcanebbbaaTC
import Derived.Test.YtalpbpcanebbbaaTQe
namespace Go.Proofs.Ytalpbpcanebbbaa
open Go.RowKit VM LM TM Go.Lib Go.Sort Go.Shelf

/-- The clauses that inOrder has made so far. -/
def inP (L : List (List Int)) (k : Nat) : List (List Int) := ((L.take k).filter fun c => !opp c).map order
theorem inP_skip {L : List (List Int)} {k : Nat} {c : List Int} (hc : L[k]? = some c) (h : opp c = true) : inP L (k + 1) = inP L k := by
  unfold inP; rw [List.take_add_one, hc, List.filter_append]; simp [h]
theorem inP_put {L : List (List Int)} {k : Nat} {c : List Int} (hc : L[k]? = some c) (h : opp c = false) : inP L (k + 1) = inP L k ++ [order c] := by
  unfold inP; rw [List.take_add_one, hc, List.filter_append]; simp [h]
theorem inP_length (L : List (List Int)) (k : Nat) : (inP L k).length ≤ k := by
  unfold inP; rw [List.length_map]
  have := List.length_filter_le (fun c : List Int => !opp c) (L.take k)
  rw [List.length_take] at this; omega
theorem mem_inP {L : List (List Int)} {x : List Int} : x ∈ inP L L.length ↔ ∃ c ∈ L, opp c = false ∧ x = order c := by
  unfold inP
  rw [List.take_length]
  simp only [List.mem_map, List.mem_filter, Bool.not_eq_true']
  exact ⟨fun ⟨c, ⟨h1, h2⟩, e⟩ => ⟨c, h1, h2, e.symm⟩, fun ⟨c, h1, h2, e⟩ => ⟨c, ⟨h1, h2⟩, e.symm⟩⟩
theorem cl_of {c : List Int} {n : Int} (h : validAll c n = true) : clB c n = opp c ∧ clE c n = 0 ∧ clL c n = order c := by
  unfold clB clE clL; simp [h]
set_option maxRecDepth 100000 in
set_option maxHeartbeats 8000000 in
theorem inOrderT_any (n : Int) (v : Value) (L : List (List Int)) (w : World) (h : Th w v L) (hk : ckT n L = 0) :
    Calls Try.prog 38 #[.agg #[.int .i64 n, v]] w fun e w' => ∃ u, e = .returned u ∧ Hid (OwnC w' w.heap.size u (inP L L.length) ∧ Below w.heap.size w w') := by
  have HB := mkHid (bal (Below.refl _ w) (.cells #[.int .i64 n, v] 24))
  have HA := mkHid (TB.new w w.heap.size n v rfl)
  have HT := mkHid h
  obtain ⟨ao, cap, rfl, hc⟩ := h.cls
  have HC := mkHid hc
  obtain ⟨a0, a1⟩ := HA.out.at
  obtain ⟨hn, hL, hcs⟩ := ckT_zero.1 hk
  have HCS := mkHid hcs
  have HL := mkHid hL
  have hlen := h.len
  clear h hc hk hcs hL hn
  go_enter Try.func38, Try.ntmps38
  go_wp2
  go_loopw [3, 12] (fun lv iv wr => ∃ k : Nat, k ≤ L.length ∧ iv = .int .i64 (k : Int) ∧ Hid (OwnC wr w.heap.size lv (inP L k) ∧ TB wr w.heap.size n (.slice ao L.length cap) ∧ Below w.heap.size w wr)) (fun _ iv _ => L.length - (intOf iv).toNat)
  case atStart => exact ⟨0, Nat.zero_le _, rfl, mkHid ⟨OwnC.nil _ _, HA.out, HB.out⟩⟩
  case round =>
    obtain ⟨k, hk, rfl, H⟩ := hrel
    obtain ⟨⟨xs3, h1, h2⟩, h3, h4⟩ := H.out
    have X1 := mkHid h1
    have X2 := mkHid h2
    have X3 := mkHid h3
    have X4 := mkHid h4
    have HXL : Hid (xs3.length ≤ 1000000) := mkHid (by rw [h2.1]; have := inP_length L k; have := HL.out; omega)
    clear H h1 h2 h3 h4 a0 a1
    obtain ⟨a0, a1⟩ := X3.out.at
    by_cases hlt : k < L.length
    · obtain ⟨c, hc⟩ : ∃ c, L[k]? = some c := ⟨L[k], List.getElem?_eq_getElem hlt⟩
      obtain ⟨b, off, x, rfl, hx, hi⟩ := HC.out k c hc
      have p1 := cell_grows X4.out hx
      have hk1 : (k : Int) < (L.length : Int) := by omega
      have hk0 : (0 : Int) ≤ (k : Int) := by omega
      have hm := List.mem_of_getElem? hc
      have hcm := HCS.out c hm
      obtain ⟨e1, e2, e3⟩ := cl_of hcm.2
      have C := mkHid (fun W (hb : Below w.heap.size w W) => clause_any x c n W (hi.next hb) (by omega) (HT.out.in64 c hm))
      rw [e1, e2, e3] at C
      have HY := mkHid hc
      clear hc hx hi hm hcm e1 e2 e3
      cases ho : opp c
      · rw [ho] at C
        have HE := mkHid (inP_put HY.out ho)
        clear ho
        go_wp2_with (first
          | (go_at_call 76; refine (C.out _ X4.out).mono ?_; rintro e w6 ⟨u6, rfl, ho6, hb6⟩; have Y1 := mkHid (X1.out.below hb6); have Y2 := mkHid (X2.out.below hb6); have Y3 := mkHid (X3.out.grows hb6); have Y4 := mkHid (bnx X4.out hb6); have Y5 := mkHid (Own.wk ho6 (base' := w.heap.size) X4.out.size); obtain ⟨a6, c6, rfl⟩ := ho6.ints.form; clear ho6 hb6)
          | (at_builtin; refine wpList_appV rfl (.tmp 30) (.tmp 32) rfl rfl rfl (x := .slice a6 (order c).length c6) Y1.out (oneCell_slice _ _ _) HXL.out Y4.out.size Y4.out ?_; intro v8 w8 H8))
        go_roundw
        case rel => exact ⟨k + 1, by omega, by go_num, mkHid ⟨⟨_, H8.out.1, by rw [HE.out]; exact Y2.out.app Y1.out Y5.out H8.out.2.1⟩, Y3.out.app Y1.out H8.out.2.1, H8.out.2.2⟩⟩
        case measure => simp [intOf]; omega
      · rw [ho] at C
        have HE := mkHid (inP_skip HY.out ho)
        clear ho
        go_wp2_with (go_at_call 76; refine (C.out _ X4.out).mono ?_; rintro e w6 ⟨u6, rfl, ho6, hb6⟩; have Y1 := mkHid (X1.out.below hb6); have Y2 := mkHid (X2.out.below hb6); have Y3 := mkHid (X3.out.grows hb6); have Y4 := mkHid (bnx X4.out hb6); clear ho6 hb6)
        go_roundw
        case rel => exact ⟨k + 1, by omega, by go_num, mkHid ⟨by rw [HE.out]; exact ⟨_, Y1.out, Y2.out⟩, Y3.out, Y4.out⟩⟩
        case measure => simp [intOf]; omega
    · have hk1 : ¬ (k : Int) < (L.length : Int) := by omega
      obtain rfl : k = L.length := by omega
      go_wp2
      go_ret
      exact ⟨_, rfl, mkHid ⟨⟨_, X1.out, X2.out⟩, X4.out⟩⟩
/-- A clause with the slice that holds it. -/
abbrev Pr (W : World) (base : Nat) := { p : Value × List Int // Own W base p.1 p.2 ∧ p.2.length ≤ 1000000 }
instance (W : World) (base : Nat) : Inhabited (Pr W base) := ⟨⟨(.slice none 0 0, []), Own.nil _ _, Nat.zero_le _⟩⟩
def encP {W : World} {base : Nat} (p : Pr W base) : Value := p.1.1
def cmpP {W : World} {base : Nat} (p q : Pr W base) : Int := cmpN p.1.2 q.1.2
theorem cmpP_lt {W : World} {base : Nat} (p q : Pr W base) : ltOf cmpP p q = bef p.1.2 q.1.2 := by
  rw [Bool.eq_iff_iff]
  unfold ltOf cmpP
  rw [decide_eq_true_eq]
  exact cmpN_neg _ _
theorem cmpP_swo (W : World) (base : Nat) : SWO (ltOf (cmpP (W := W) (base := base))) where
  irrefl x := by rw [cmpP_lt, bef_irrefl]
  trans x y z h1 h2 := by rw [cmpP_lt] at *; exact bef_trans h1 h2
  ntrans x y z h1 h2 := by
    rw [cmpP_lt] at *
    rw [Bool.eq_false_iff]
    intro h
    rcases le_of_not h1 with e | e
    · rw [← e] at h
      rw [h2] at h; cases h
    · have := le_bef (le_of_not h2) e
      rw [bef_asymm h] at this; cases this
theorem mk_pairs {W : World} {base : Nat} : ∀ {xs : List Value} {L : List (List Int)}, RowsO W base xs L → (∀ c ∈ L, c.length ≤ 1000000) → ∃ ps : List (Pr W base), ps.map encP = xs ∧ ps.map (fun p => p.1.2) = L
  | [], [], _, _ => ⟨[], rfl, rfl⟩
  | [], _ :: _, h, _ => by have := h.1; simp at this
  | _ :: _, [], h, _ => by have := h.1; simp at this
  | x :: xs, c :: L, h, hl => by
    obtain ⟨ps, h1, h2⟩ := mk_pairs (xs := xs) (L := L) ⟨by simpa using h.1, fun j y d a b => h.2 (j + 1) y d (by simpa using a) (by simpa using b)⟩ (fun d hd => hl d (.tail _ hd))
    exact ⟨⟨(x, c), h.2 0 x c rfl rfl, hl c (.head _)⟩ :: ps, by simp [h1, encP], by simp [h2]⟩
theorem rows_pairs {W : World} {base : Nat} (ps : List (Pr W base)) : RowsO W base (ps.map encP) (ps.map fun p => p.1.2) := by
  refine ⟨by simp, fun j x c h1 h2 => ?_⟩
  rw [List.getElem?_map] at h1 h2
  obtain ⟨p, hp, rfl⟩ := Option.map_eq_some_iff.1 h1
  rw [hp] at h2
  obtain rfl := Option.some.inj h2
  exact p.2.1
/-- Clauses of the call's own, sorted. -/
theorem sort_clauses {W : World} {base : Nat} {u : Value} {L : List (List Int)} (h : OwnC W base u L) (hB : base ≤ W.heap.size) (hlen : L.length ≤ 1000000) (hl : ∀ c ∈ L, c.length ≤ 1000000) :
    Calls Try.prog 39 #[u, .func (.func 40) #[] #[]] W fun e w' => e = .returned (.tuple #[]) ∧ ∃ S, Hid (OwnC w' base u S ∧ S.Pairwise le ∧ (∀ x, x ∈ S ↔ x ∈ L) ∧ S.length = L.length ∧ Below base W w') := by
  obtain ⟨xs, h1, h2⟩ := h
  obtain ⟨ps, rfl, rfl⟩ := mk_pairs h2 hl
  have eg : ∀ args w, (callFunc 40 args).run Try.prog w = .ok (.enter 40 args) w := enters_of Try.func40 (by kernel_rfl) rfl
  by_cases hn : u = .slice none 0 0
  · subst hn
    have hp : ps = [] := by
      rcases h1.2 with ⟨_, h0⟩ | ⟨g, cap, cur, e, _⟩
      · simpa using h0
      · cases e
    subst hp
    exact (Try.slices_SortFunc_none_f39 (α := Pr W base) none 0 _ W).mono fun e w' ⟨he, hw⟩ => ⟨he, [], mkHid ⟨by rw [hw]; exact OwnC.nil _ _, by simp, by simp, by simp, by rw [hw]; exact Below.refl _ _⟩⟩
  · have h1' : W.ownsRow base 38 1 u ps.length (ps.map encP) := by have := h1; unfold OwnV at this; rwa [List.length_map] at this
    obtain ⟨g, cap, rfl, hg, hlt, hcp, _, _, hH⟩ := Lib.holds_of_ownsRow h1' hn
    obtain ⟨_, cur, hcur⟩ := h1.block (k := g) rfl
    have hcon := Try.slices_SortFunc_f39 (encP (W := W) (base := base)) (fun p => by obtain ⟨a, c, e⟩ := p.2.1.ints.form; show p.1.1.oneCell' = true; rw [e]; rfl) cmpP (cmpP_swo W base) 40 #[] g 0 cap ps.toArray W eg
      (fun m os dk hs x y => by
        have keep : ∀ p : Pr W base, Ints (sortWorld encP W g 0 m dk os) p.1.1 p.1.2 := fun p => by
          have hk : ∀ k, (∃ cur', W.heap[k]? = some (Obj.cells cur' 3 (0, 0))) → (sortWorld encP W g 0 m dk os).heap[k]? = W.heap[k]? := fun k hex => by
            obtain ⟨cur', e⟩ := hex
            have hkl := (Array.getElem?_eq_some_iff.1 e).1
            have hne : k ≠ g := fun e2 => by subst e2; rw [hcur] at e; simp at e
            unfold sortWorld
            rw [Sort.heap_grow_old _ _ (by have := (Lib.below_putRow (enc := encP (W := W) (base := base)) (q := m) (d := dk) (Below.refl g W) (Nat.le_refl _)).size; omega)]
            unfold putRow mapBlock
            simp [Array.getElem?_modify, Ne.symm hne, Sort.ahead]
            first | done | rfl
          have ho : Own (sortWorld encP W g 0 m dk os) base p.1.1 p.1.2 := by
            refine ⟨p.2.1.1, p.2.1.2.imp id ?_⟩
            rintro ⟨g', cp, cur', hv, hg', hc', rest⟩
            exact ⟨g', cp, cur', hv, hg', by rw [hk g' ⟨_, hc'⟩]; exact hc', rest⟩
          exact ho.ints
        exact normal1_any _ _ _ _ _ (keep x) (keep y) x.2.2) hH hlt (by rw [List.size_toArray]; rw [List.length_map] at hlen; omega)
    rw [List.size_toArray] at hcon
    rw [List.length_map]
    refine hcon.mono fun e w' ⟨he, d', n, os, hP, hS, hw⟩ => ⟨he, d'.toList.map (fun p => p.1.2), mkHid ?_⟩
    obtain ⟨hsz, -, hperm⟩ := hP
    rw [List.size_toArray] at hsz
    have hperm2 : d'.toList.Perm ps := by
      have e1 : d'.extract 0 ps.length = d' := by
        have e0 : ps.length = d'.size := by simpa using hsz.symm
        rw [e0]; simp
      have e2 : ps.toArray.extract 0 ps.length = ps.toArray := by rw [← List.size_toArray]; simp
      rw [e1, e2] at hperm
      simpa using hperm
    have hlen' : d'.toList.length = ps.length := by simpa using hsz
    have hown := Lib.ownsRow_putRow (q := n) (k := ps.length) (ys := d'.toList) h1' hlen' (Nat.le_refl _)
    rw [show d'.toList.take ps.length = d'.toList by rw [← hlen', List.take_length]] at hown
    have hkeep : ∀ k cur' f, W.heap[k]? = some (Obj.cells cur' 3 f) → w'.heap[k]? = W.heap[k]? := fun k cur' f e => by
      have hkl := (Array.getElem?_eq_some_iff.1 e).1
      have hne : k ≠ g := fun e2 => by subst e2; rw [hcur] at e; simp at e
      rw [hw]
      unfold sortWorld
      rw [Sort.heap_grow_old _ _ (by have := (Lib.below_putRow (enc := encP (W := W) (base := base)) (q := n) (d := d') (Below.refl g W) (Nat.le_refl _)).size; omega)]
      unfold putRow mapBlock
      simp [Array.getElem?_modify, Ne.symm hne, Sort.ahead]
      first | done | rfl
    refine ⟨⟨d'.toList.map encP, ?_, ?_⟩, ?_, ?_, by simp [hsz], ?_⟩
    · unfold OwnV
      rw [List.length_map, hlen']
      refine ⟨hown.1, hown.2.imp id ?_⟩
      rintro ⟨g', cp, cur', hv, hg', hc', i1, i2, i3, i4⟩
      refine ⟨g', cp, cur', hv, hg', ?_, i1, i2, i3, i4⟩
      rw [hw]
      unfold sortWorld
      rw [Sort.heap_grow_old _ _ (Array.getElem?_eq_some_iff.1 hc').1]
      simpa using hc'
    · have hr := rows_pairs d'.toList
      refine ⟨hr.1, fun j x c a b => ?_⟩
      have ho := hr.2 j x c a b
      refine ⟨ho.1, ho.2.imp id ?_⟩
      rintro ⟨g', cp, cur', hv, hg', hc', rest⟩
      exact ⟨g', cp, cur', hv, hg', by rw [hkeep g' _ _ hc']; exact hc', rest⟩
    · rw [List.pairwise_map, List.pairwise_iff_getElem]
      intro i j hi hj hij
      have := hS i j (Nat.zero_le _) hij (by have h5 := hlen'; omega)
      rw [cmpP_lt] at this
      have g1 : d'[j]! = d'.toList[j] := by rw [getElem!_pos d' j (by simpa using hj)]; simp
      have g2 : d'[i]! = d'.toList[i] := by rw [getElem!_pos d' i (by simpa using hi)]; simp
      rw [g1, g2] at this
      exact le_of_not this
    · intro x
      rw [List.mem_map, List.mem_map]
      constructor
      · rintro ⟨p, hp, e⟩; exact ⟨p, hperm2.mem_iff.1 hp, e⟩
      · rintro ⟨p, hp, e⟩; exact ⟨p, hperm2.mem_iff.2 hp, e⟩
    · have hb := Lib.below_putRow (enc := encP (W := W) (base := base)) (q := n) (d := d') (Below.refl base W) hg
      rw [hw]
      unfold sortWorld
      exact ⟨hb.os, hb.tape, hb.output, by have := hb.size; simp [grow] at this ⊢; first | done | omega, fun k hk => by
        rw [Sort.heap_grow_old _ _ (by have := hb.size; omega)]; exact hb.block k hk⟩
end Go.Proofs.Ytalpbpcanebbbaa
