/- DeleteFunc over a list of the call's own, at a predicate that may make memory. -/
import Derived.Test.YtalpbpcanebbbaaTO
import Derived.Lib.SliceRun
namespace Go.Proofs.Ytalpbpcanebbbaa
open Go.RowKit VM LM TM Go.Lib Go.Sort Go.Shelf

set_option maxRecDepth 100000 in
set_option maxHeartbeats 2000000 in
theorem index2_any (g : Nat) (lb : Array Value) (eg : ∀ args w, (callFunc g args).run Try.prog w = .ok (.enter g args) w) (P : Int → Bool) (v : Value) (l : List Int) (w : World) (hv : Ints w v l) (hlen : l.length ≤ 1000000) (hP : PredG g lb P l w) :
    Calls Try.prog 85 #[v, .func (.func g) #[] lb] w fun e w' => ∃ i : Int, e = .returned (.int .i64 i) ∧ ((i = -1 ∧ ∀ x ∈ l, P x = false) ∨ ∃ (k : Nat) (y : Int), i = (k : Int) ∧ l[k]? = some y ∧ P y = true ∧ ∀ z ∈ l.take k, P z = false) ∧ Below w.heap.size w w' := by
  obtain ⟨ao, cap, rfl, hc⟩ := hv.uni
  have HC := mkHid hc
  have HP := mkHid hP
  clear hc hv hP
  go_enter Try.func85, Try.ntmps85
  go_wp2
  go_loopw [8] (fun iv wr => ∃ k : Nat, k ≤ l.length ∧ iv = .int .i64 (k : Int) ∧ Hid ((∀ y ∈ l.take k, P y = false) ∧ Below w.heap.size w wr)) (fun iv _ => l.length - (intOf iv).toNat)
  case atStart => exact ⟨0, Nat.zero_le _, rfl, mkHid ⟨any_start, Below.refl _ _⟩⟩
  case round =>
    obtain ⟨k, hk, rfl, H⟩ := hrel
    by_cases hlt : k < l.length
    · obtain ⟨y, hy⟩ : ∃ y, l[k]? = some y := ⟨l[k], List.getElem?_eq_getElem hlt⟩
      obtain ⟨b, off, rfl, hcx0⟩ := HC.out k y hy
      have hcx := cell_grows H.out.2 hcx0
      have hk1 : (k : Int) < (l.length : Int) := by omega
      have HY := mkHid hy
      have hcall := HP.out wr y H.out.2 (List.mem_of_getElem? hy)
      clear hy hcx0
      cases hp : P y
      · have HPF := mkHid hp
        rw [hp] at hcall
        clear hp
        go_wp2_with (go_at_fn g; refine hcall.mono ?_; rintro e w' ⟨rfl, hb'⟩)
        have HB := mkHid hb'
        clear hb'
        go_roundw
        case rel => exact ⟨k + 1, by omega, by go_num, mkHid ⟨any_step H.out.1 HY.out HPF.out, HB.out⟩⟩
        case measure => simp [intOf]; omega
      · have HF := mkHid hp
        rw [hp] at hcall
        clear hp
        go_wp2_with (go_at_fn g; refine hcall.mono ?_; rintro e w' ⟨rfl, hb'⟩)
        go_ret
        exact ⟨_, rfl, .inr ⟨k, y, rfl, HY.out, HF.out, H.out.1⟩, hb'⟩
    · have hk1 : ¬ (k : Int) < (l.length : Int) := by omega
      have HF := mkHid (take_all H.out.1 (by omega))
      go_wp2
      go_ret
      exact ⟨_, rfl, .inl ⟨rfl, HF.out⟩, H.out.2⟩
theorem take_mem {l : List Int} {j k : Nat} {y : Int} (hy : l[j]? = some y) (h : j < k) : y ∈ l.take k := by
  obtain ⟨hl, e⟩ := List.getElem?_eq_some_iff.1 hy
  rw [List.mem_take_iff_getElem]
  exact ⟨j, by omega, e⟩
theorem index_none (g : Nat) (lb : Array Value) (eg : ∀ args w, (callFunc g args).run Try.prog w = .ok (.enter g args) w) (P : Int → Bool) (v : Value) (l : List Int) (w : World) (hv : Ints w v l) (hlen : l.length ≤ 1000000) (hP : PredG g lb P l w) (hn : ∀ x ∈ l, P x = false) :
    Calls Try.prog 85 #[v, .func (.func g) #[] lb] w fun e w' => e = .returned (.int .i64 (-1)) ∧ Below w.heap.size w w' :=
  (index2_any g lb eg P v l w hv hlen hP).mono fun e w' ⟨i, he, hi, hb⟩ => by
    rcases hi with ⟨rfl, _⟩ | ⟨k, y, rfl, hy, hp, _⟩
    · exact ⟨he, hb⟩
    · rw [hn y (List.mem_of_getElem? hy)] at hp; cases hp
theorem index_some (g : Nat) (lb : Array Value) (eg : ∀ args w, (callFunc g args).run Try.prog w = .ok (.enter g args) w) (P : Int → Bool) (v : Value) (l : List Int) (w : World) (hv : Ints w v l) (hlen : l.length ≤ 1000000) (hP : PredG g lb P l w) {k : Nat} {y : Int} (hy : l[k]? = some y) (hp : P y = true) (hall : ∀ z ∈ l.take k, P z = false) :
    Calls Try.prog 85 #[v, .func (.func g) #[] lb] w fun e w' => e = .returned (.int .i64 (k : Int)) ∧ Below w.heap.size w w' :=
  (index2_any g lb eg P v l w hv hlen hP).mono fun e w' ⟨i, he, hi, hb⟩ => by
    rcases hi with ⟨rfl, hn⟩ | ⟨k2, y2, rfl, hy2, hp2, hall2⟩
    · rw [hn y (List.mem_of_getElem? hy)] at hp; cases hp
    · rcases Nat.lt_trichotomy k k2 with h | h | h
      · rw [hall2 y (take_mem hy h)] at hp; cases hp
      · subst h; exact ⟨he, hb⟩
      · rw [hall y2 (take_mem hy2 h)] at hp2; cases hp2
theorem first_of {l : List Int} {P : Int → Bool} : (∀ x ∈ l, P x = false) ∨ ∃ (k : Nat) (y : Int), l[k]? = some y ∧ P y = true ∧ ∀ z ∈ l.take k, P z = false := by
  induction l with
  | nil => left; simp
  | cons a l ih =>
    cases ha : P a
    · rcases ih with h | ⟨k, y, h1, h2, h3⟩
      · left
        intro x hx
        rcases List.mem_cons.1 hx with rfl | hx
        · exact ha
        · exact h x hx
      · refine .inr ⟨k + 1, y, by simpa using h1, h2, fun z hz => ?_⟩
        rw [List.take_succ_cons] at hz
        rcases List.mem_cons.1 hz with rfl | hz
        · exact ha
        · exact h3 z hz
    · exact .inr ⟨0, a, rfl, ha, by simp⟩
theorem Own.at {W : World} {base g cap : Nat} {d : List Int} (h : Own W base (.slice (some ⟨g, 0, none⟩) d.length cap) d) : base ≤ g ∧ g < W.heap.size ∧ d.length ≤ cap ∧ (∀ (j : Nat) (x : Int), d[j]? = some x → W.cell? ⟨g, j, none⟩ = some (.int .i64 x)) ∧ ∀ j : Nat, j < d.length → W.frozen? ⟨g, j, none⟩ = false := by
  obtain ⟨g', cap', e, hb, hg, hc, _, _, hH⟩ := Lib.holds_of_ownsRow h (by simp)
  simp only [Value.slice.injEq, Option.some.injEq, Addr.mk.injEq, and_true, true_and] at e
  obtain ⟨rfl, rfl⟩ := e
  refine ⟨hb, hg, hc, fun j x hj => ?_, fun j hj => ?_⟩
  · have hl := (List.getElem?_eq_some_iff.1 hj).1
    have := (hH j (by simpa using hl)).1
    rw [Nat.zero_add] at this
    rw [this, getElem!_pos _ _ (by simpa using hl)]
    have e2 := (List.getElem?_eq_some_iff.1 hj).2
    simp [e2]
  · have := (hH j (by simpa using hj)).2
    rwa [Nat.zero_add] at this
theorem Own.set {W : World} {base g cap : Nat} {d : List Int} (h : Own W base (.slice (some ⟨g, 0, none⟩) d.length cap) d) (i : Nat) (y : Int) : Own (W.setCell ⟨g, i, none⟩ (.int .i64 y)) base (.slice (some ⟨g, 0, none⟩) (d.set i y).length cap) (d.set i y) := by
  obtain ⟨h0, h⟩ := h
  rcases h with ⟨e, _⟩ | ⟨g', cap', cur, e, hb, hc, h1, h2, h3, h4⟩
  · cases e
  · simp only [Value.slice.injEq, Option.some.injEq, Addr.mk.injEq, and_true, true_and] at e
    obtain ⟨rfl, rfl⟩ := e
    refine ⟨by simp, .inr ⟨g, cap, cur.setIfInBounds i (.int .i64 y), rfl, hb, ?_, by simpa using h1, h2, by simpa using h3, ?_⟩⟩
    · simp [World.setCell, Array.getElem?_modify, hc]
    · rw [List.length_set, Array.toList_setIfInBounds, List.take_set, h4, List.map_set]
theorem Own.take {W : World} {base g cap : Nat} {d : List Int} (h : Own W base (.slice (some ⟨g, 0, none⟩) d.length cap) d) (i : Nat) (hi : i ≤ d.length) : Own W base (.slice (some ⟨g, 0, none⟩) i cap) (d.take i) := by
  obtain ⟨h0, h⟩ := h
  rcases h with ⟨e, _⟩ | ⟨g', cap', cur, e, hb, hc, h1, h2, h3, h4⟩
  · cases e
  · simp only [Value.slice.injEq, Option.some.injEq, Addr.mk.injEq, and_true, true_and] at e
    obtain ⟨rfl, rfl⟩ := e
    have hl : (d.take i).length = i := by rw [List.length_take]; omega
    refine ⟨by simp, .inr ⟨g, cap, cur, by rw [hl], hb, hc, by omega, h2, h3, ?_⟩⟩
    rw [hl, List.map_take, ← h4, List.take_take]
    congr 1; omega
theorem Own.setCells {base g cap : Nat} : ∀ (zs : List Int) (W : World) (d : List Int) (o : Nat) (_ : Own W base (.slice (some ⟨g, 0, none⟩) d.length cap) d), ∃ d', Own (W.setCells g o (zs.map (Value.int .i64))) base (.slice (some ⟨g, 0, none⟩) d'.length cap) d' ∧ d'.length = d.length ∧ d'.take o = d.take o
  | [], _, d, _, h => ⟨d, h, rfl, rfl⟩
  | z :: zs, W, d, o, h => by
    obtain ⟨d', h1, h2, h3⟩ := Own.setCells zs _ _ (o + 1) (h.set o z)
    refine ⟨d', h1, by rw [h2, List.length_set], ?_⟩
    have := congrArg (List.take o) h3
    rw [List.take_take, List.take_take, show min o (o + 1) = o by omega] at this
    rw [this, List.take_set_of_le (by omega)]
theorem below_setCells {B g : Nat} {w : World} (hg : B ≤ g) : ∀ (vs : List Value) (W : World) (o : Nat), Below B w W → Below B w (W.setCells g o vs)
  | [], _, _, h => h
  | v :: vs, _, o, h => below_setCells hg vs _ (o + 1) (h.setCell (p := ⟨g, o, none⟩) hg v)
theorem set_take {d : List Int} {i : Nat} {y : Int} (hi : i < d.length) : (d.set i y).take (i + 1) = d.take i ++ [y] := by
  rw [List.take_add_one, List.take_set_of_le (Nat.le_refl _)]
  simp [hi]
theorem filter_step {l : List Int} {j : Nat} {y : Int} {P : Int → Bool} (hy : l[j]? = some y) : (l.take (j + 1)).filter P = if P y then (l.take j).filter P ++ [y] else (l.take j).filter P := by
  rw [List.take_add_one, hy, List.filter_append]
  cases h : P y <;> simp [h]
set_option maxRecDepth 100000 in
set_option maxHeartbeats 8000000 in
theorem delete_gen (g : Nat) (lb : Array Value) (eg : ∀ args w, (callFunc g args).run Try.prog w = .ok (.enter g args) w) (P : Int → Bool) {W : World} {base : Nat} {u : Value} {l : List Int} (h : Own W base u l) (hB : base ≤ W.heap.size) (hlen : l.length ≤ 1000000)
    (hP : ∀ W' x, Below base W W' → x ∈ l → Calls Try.prog g (#[.int .i64 x] ++ lb) W' fun e w' => e = .returned (.bool (P x)) ∧ Below W'.heap.size W' w') :
    Calls Try.prog 63 #[u, .func (.func g) #[] lb] W fun e w' => ∃ u', e = .returned u' ∧ Own w' base u' (l.filter fun x => !P x) ∧ Below base W w' := by
  rcases own_cases h with ⟨rfl, rfl⟩ | ⟨blk, cap, rfl, hg, hgl, hcp, hH⟩
  · exact (delete_nil _ W).mono fun e w' ⟨he, hw⟩ => ⟨_, he, by rw [hw]; exact Own.nil _ _, by rw [hw]; exact Below.refl _ _⟩
  · have HH := mkHid h
    have HPR := mkHid hP
    have hPG : PredG g lb P l W := fun W' x hb hx => (hP W' x (hb.mono hB) hx).mono fun e w' ⟨he, hb'⟩ => ⟨he, bnx hb hb'⟩
    have t22 : Try.prog.underlying 38 = some (.slice 3) := Try.underlying38
    clear hP hH
    rcases first_of (l := l) (P := P) with ha | ⟨i0, y0, hy0, hp0, hall⟩
    · have CI := mkHid (index_none g lb eg P _ l W h.ints hlen hPG ha)
      clear h hPG
      go_enter Try.func63, Try.ntmps63
      go_wp2_with (go_at_call 85; refine CI.out.mono ?_; rintro e w2 ⟨rfl, hb⟩; have HB := mkHid hb; clear hb)
      go_ret
      refine ⟨_, rfl, ?_, HB.out.mono hB⟩
      rw [List.filter_eq_self.2 (fun x hx => by rw [ha x hx]; rfl)]
      exact HH.out.below HB.out
    · have CI := mkHid (index_some g lb eg P _ l W h.ints hlen hPG hy0 hp0 hall)
      have hi0 := (List.getElem?_eq_some_iff.1 hy0).1
      have hneg : ((i0 : Int) == -1) = false := by rw [beq_eq_false_iff_ne]; omega
      have e1 : IntKind.i64.wrap ((i0 : Int) + 1) = (i0 : Int) + 1 := IntWalk.i64_in _ (by omega)
      have HS : Hid ((l.take (i0 + 1)).filter (fun x => !P x) = l.take i0) := mkHid (by
        rw [filter_step hy0, hp0]
        rw [List.filter_eq_self.2 (fun x hx => by rw [hall x hx]; rfl)]; rfl)
      have HLi : Hid (i0 + 1 ≤ l.length) := mkHid (by omega)
      clear h hPG hy0 hp0 hall
      go_enter Try.func63, Try.ntmps63
      go_wp2_with (go_at_call 85; refine CI.out.mono ?_; rintro e w2 ⟨rfl, hb⟩; have HB := mkHid hb; clear hb)
      go_loopw [5, 6] (fun iv jv wr => ∃ (i j : Nat) (d : List Int), iv = .int .i64 (i : Int) ∧ jv = .int .i64 (j : Int) ∧ i < j ∧ j ≤ l.length ∧ d.length = l.length ∧ Hid (Own wr base (.slice (some ⟨blk, 0, none⟩) d.length cap) d ∧ Below base W wr ∧ d.take i = (l.take j).filter (fun x => !P x) ∧ d.drop j = l.drop j)) (fun _ jv _ => l.length - (intOf jv).toNat)
      case atStart => exact ⟨i0, i0 + 1, l, rfl, by go_num, by omega, HLi.out, rfl, mkHid ⟨HH.out.below HB.out, HB.out.mono hB, HS.out.symm, rfl⟩⟩
      case round =>
        obtain ⟨i, j, d, rfl, rfl, hij, hj, hd, H⟩ := hrel
        obtain ⟨q1, q2, q3, q4, q5⟩ := H.out.1.at
        by_cases hlt : j < l.length
        · obtain ⟨y, hy⟩ : ∃ y, l[j]? = some y := ⟨l[j], List.getElem?_eq_getElem hlt⟩
          have hdy : d[j]? = some y := by
            have := congrArg (fun m => m[0]?) H.out.2.2.2
            simp only [List.getElem?_drop, Nat.add_zero] at this
            rw [this]; exact hy
          have p1 := q4 j y hdy
          have hcall := HPR.out wr y H.out.2.1 (List.mem_of_getElem? hy)
          have hj1 : (j : Int) < (l.length : Int) := by omega
          have hj0 : (0 : Int) ≤ (j : Int) := by omega
          have hi1 : (i : Int) < (l.length : Int) := by omega
          have hii0 : (0 : Int) ≤ (i : Int) := by omega
          have HF := mkHid (filter_step (P := fun x => !P x) hy)
          have hdrop : Hid (d.drop (j + 1) = l.drop (j + 1)) := mkHid (by
            have := congrArg (List.drop 1) H.out.2.2.2
            rwa [List.drop_drop, List.drop_drop] at this)
          have HQ := mkHid (And.intro q4 q5)
          clear q4 q5 hdy hy
          cases hp : P y
          · have HF2 : Hid ((l.take (j + 1)).filter (fun x => !P x) = d.take i ++ [y]) := mkHid (by rw [HF.out, hp, H.out.2.2.1]; rfl)
            rw [hp] at hcall
            clear hp HF
            go_wp2_with (go_at_fn g; refine hcall.mono ?_; rintro e w' ⟨rfl, hb'⟩; have HO2 := mkHid (H.out.1.below hb'); have HB2 := mkHid (H.out.2.1.trans (hb'.mono (by have := H.out.2.1.size; omega))); have fz := HO2.out.at.2.2.2.2 i (by omega); have cz := HO2.out.at.2.2.2.1 i d[i] (List.getElem?_eq_getElem (by omega)); clear hb')
            go_roundw
            case rel => exact ⟨i + 1, j + 1, d.set i y, by go_num, by go_num, by omega, by omega, by rw [List.length_set]; exact hd, mkHid ⟨HO2.out.set i y, HB2.out.setCell (p := ⟨blk, i, none⟩) q1 _, by rw [HF2.out]; exact set_take (by omega), by rw [List.drop_set_of_lt (by omega)]; exact hdrop.out⟩⟩
            case measure => simp [intOf]; omega
          · have HF2 : Hid ((l.take (j + 1)).filter (fun x => !P x) = d.take i) := mkHid (by rw [HF.out, hp, H.out.2.2.1]; rfl)
            rw [hp] at hcall
            clear hp HF
            go_wp2_with (go_at_fn g; refine hcall.mono ?_; rintro e w' ⟨rfl, hb'⟩; have HO2 := mkHid (H.out.1.below hb'); have HB2 := mkHid (H.out.2.1.trans (hb'.mono (by have := H.out.2.1.size; omega))); clear hb')
            go_roundw
            case rel => exact ⟨i, j + 1, d, rfl, by go_num, by omega, by omega, hd, mkHid ⟨HO2.out, HB2.out, HF2.out.symm, hdrop.out⟩⟩
            case measure => simp [intOf]; omega
        · obtain rfl : j = l.length := by omega
          have hltz : ¬ (l.length : Int) < (l.length : Int) := by omega
          have hle : (i : Int) ≤ (l.length : Int) := by omega
          have hii0 : (0 : Int) ≤ (i : Int) := by omega
          have hcc : (l.length : Int) ≤ (cap : Int) := by omega
          have hic : (i : Int) ≤ (cap : Int) := by omega
          have hcl : ∀ ty, (Builtin.clear_ #[38] ty #[.slice (some ⟨blk, i, none⟩) (l.length - i) (cap - i)]).run Try.prog wr = .ok (.tuple #[]) (wr.setCells blk i (List.replicate (l.length - i) (.int .i64 0))) :=
            fun ty => Lib.run_clear_slice wr _ _ ty _ t22 (fun w => rfl) rfl rfl blk i _ _ (by omega) (fun t ht => by rw [q4 (i + t) d[i + t] (List.getElem?_eq_getElem (by omega))]; rfl) (fun t ht => q5 (i + t) (by omega))
          have HQ := mkHid q1
          clear q4 q5
          go_wp2
          go_ret
          obtain ⟨d', z1, z2, z3⟩ := Own.setCells (List.replicate (l.length - i) 0) wr d i H.out.1
          rw [List.map_replicate] at z1
          have z4 := z1.take i (by omega)
          have hfe : l.filter (fun x => !P x) = d'.take i := by rw [z3, H.out.2.2.1, List.take_length]
          rw [hfe]
          have hli : (d'.take i).length = i := by rw [List.length_take]; omega
          exact ⟨_, rfl, z4, below_setCells HQ.out _ _ _ H.out.2.1⟩
end Go.Proofs.Ytalpbpcanebbbaa
