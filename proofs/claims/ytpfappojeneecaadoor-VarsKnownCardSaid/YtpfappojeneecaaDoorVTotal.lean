/- VarsTotal: Less is a strict total order in which proper subsets come first. -/
import Derived.Test.YtpfappojeneecaaDoorVWorks
import Derived.Deep.RegionHeld3
namespace Go.Proofs.YtpfappojeneecaaDoor
open Go.RowKit VM

/-- Three sets in the blocks of the call's own, in a world that has grown. -/
structure Tri (w W : World) (n m k : Nat) (la ha lb hb lc hc : Int) : Prop where
  below : Below w.heap.size w W
  tab : Tab W
  a : AtS W n la ha
  b : AtS W m lb hb
  c : AtS W k lc hc
theorem Tri.next {w W w' : World} {n m k : Nat} {la ha lb hb lc hc : Int} (h : Tri w W n m k la ha lb hb lc hc) (hw : Below W.heap.size W w') : Tri w w' n m k la ha lb hb lc hc :=
  ⟨bnx h.below hw, h.tab.below hw, h.a.grows hw, h.b.grows hw, h.c.grows hw⟩
theorem Tri.cells {w W : World} {n m k : Nat} {la ha lb hb lc hc : Int} (h : Tri w W n m k la ha lb hb lc hc) :
    W.cell? ⟨n, 0, none⟩ = some (.int .u64 la) ∧ W.cell? ⟨n, 1, none⟩ = some (.int .u64 ha) ∧ W.cell? ⟨m, 0, none⟩ = some (.int .u64 lb) ∧ W.cell? ⟨m, 1, none⟩ = some (.int .u64 hb) ∧ W.cell? ⟨k, 0, none⟩ = some (.int .u64 lc) ∧ W.cell? ⟨k, 1, none⟩ = some (.int .u64 hc) :=
  ⟨h.a.1, h.a.2.1, h.b.1, h.b.2.1, h.c.1, h.c.2.1⟩
theorem Tri.drewN {w W : World} {n m k : Nat} {la ha lb hb lc hc : Int} (h : Tri w W n m k la ha lb hb lc hc) (d : Nat) : Tri w (W.drewN d) n m k la ha lb hb lc hc := ⟨bdr h.below d, h.tab, h.a, h.b, h.c⟩
theorem Tri.drew {w W : World} {n m k : Nat} {la ha lb hb lc hc : Int} (h : Tri w W n m k la ha lb hb lc hc) : Tri w W.drew n m k la ha lb hb lc hc := ⟨h.below.drew, h.tab, h.a, h.b, h.c⟩
theorem Tri.alloc {w W : World} {n m k : Nat} {la ha lb hb lc hc : Int} (h : Tri w W n m k la ha lb hb lc hc) (o : Obj) : Tri w (W.alloc o) n m k la ha lb hb lc hc := h.next (bal (Below.refl _ _) o)
theorem Tri.start {w : World} (ht : Tab w) (la ha lb hb lc hc : Int) (t : TypeId) :
    Tri w (((w.alloc (.cells #[.int .u64 la, .int .u64 ha] t)).alloc (.cells #[.int .u64 lb, .int .u64 hb] t)).alloc (.cells #[.int .u64 lc, .int .u64 hc] t)) w.heap.size (w.heap.size + 1) (w.heap.size + 1 + 1) la ha lb hb lc hc :=
  ⟨bal (bal (bal (Below.refl _ _) _) _) _, tab_al (tab_al (tab_al ht _) _) _, ((AtS.new w _ la ha t rfl).alloc _).alloc _, (AtS.new _ _ lb hb t (by simp)).alloc _, AtS.new _ _ lc hc t (by simp)⟩

/-- What the law's calls answer. -/
structure TotalIn (la ha lb hb lc hc ld hd : Int) (x y z x' eq eq2 t : Bool) : Prop where
  ab : ∀ W, Calls Tryd.prog 39 #[.agg #[.int .u64 la, .int .u64 ha], .agg #[.int .u64 lb, .int .u64 hb]] W fun e w' => e = .returned (.bool x) ∧ Below W.heap.size W w'
  bc : ∀ W, Calls Tryd.prog 39 #[.agg #[.int .u64 lb, .int .u64 hb], .agg #[.int .u64 lc, .int .u64 hc]] W fun e w' => e = .returned (.bool y) ∧ Below W.heap.size W w'
  ac : ∀ W, Calls Tryd.prog 39 #[.agg #[.int .u64 la, .int .u64 ha], .agg #[.int .u64 lc, .int .u64 hc]] W fun e w' => e = .returned (.bool z) ∧ Below W.heap.size W w'
  ba : ∀ W, Calls Tryd.prog 39 #[.agg #[.int .u64 lb, .int .u64 hb], .agg #[.int .u64 la, .int .u64 ha]] W fun e w' => e = .returned (.bool x') ∧ Below W.heap.size W w'
  cut : ∀ W, Calls Tryd.prog 27 #[.agg #[.int .u64 la, .int .u64 ha], .agg #[.int .u64 lb, .int .u64 hb]] W fun e w' => e = .returned (.agg #[.int .u64 ld, .int .u64 hd]) ∧ Below W.heap.size W w'
  da : ∀ W, Calls Tryd.prog 39 #[.agg #[.int .u64 ld, .int .u64 hd], .agg #[.int .u64 la, .int .u64 ha]] W fun e w' => e = .returned (.bool t) ∧ Below W.heap.size W w'
  eab : ∀ W, (Op.equalIn 10000 26 (.agg #[.int .u64 la, .int .u64 ha]) (.agg #[.int .u64 lb, .int .u64 hb])).run Tryd.prog W = .ok eq W
  eda : ∀ W, (Op.equalIn 10000 26 (.agg #[.int .u64 ld, .int .u64 hd]) (.agg #[.int .u64 la, .int .u64 ha])).run Tryd.prog W = .ok eq2 W

set_option maxRecDepth 100000 in
set_option maxHeartbeats 4000000 in
theorem total_core (la ha lb hb lc hc ld hd : Int) (x y z x' eq eq2 t : Bool) (w : World) (ht : Tab w) (I : TotalIn la ha lb hb lc hc ld hd x y z x' eq eq2 t)
    (h1 : x = true → y = true → z = true) (h2 : eq = true → x = false) (h3 : eq = false → x' = !x) (h4 : eq2 = false → t = true) :
    Calls Tryd.prog 9 #[.agg #[.int .u64 la, .int .u64 ha], .agg #[.int .u64 lb, .int .u64 hb], .agg #[.int .u64 lc, .int .u64 hc]] w fun e w' => e = .returned (.bool true) ∧ Below w.heap.size w w' := by
  have hT := Tri.start ht la ha lb hb lc hc 26
  obtain ⟨p1, p2, q1, q2, r1, r2⟩ := hT.cells
  have Cab := mkHid I.ab; have Cbc := mkHid I.bc; have Cac := mkHid I.ac; have Cba := mkHid I.ba; have Ccut := mkHid I.cut; have Cda := mkHid I.da
  have E1 := I.eab; have E2 := I.eda
  clear I ht
  cases x <;> cases eq
  · obtain rfl : x' = true := by simpa using h3 rfl
    clear h1 h2 h3
    cases eq2
    · obtain rfl : t = true := h4 rfl
      clear h4
      go_enter Tryd.func9, Tryd.ntmps9
      go_wp2_with (first
        | (go_at_call 39; ((with_reducible refine (Cab.out _).mono ?_); rintro e w2 ⟨rfl, hw⟩; have hT := Tri.next (by assumption) hw; obtain ⟨p1, p2, q1, q2, r1, r2⟩ := hT.cells; clear hw))
        | (go_at_call 39; ((with_reducible refine (Cbc.out _).mono ?_); rintro e w2 ⟨rfl, hw⟩; have hT := Tri.next (by assumption) hw; obtain ⟨p1, p2, q1, q2, r1, r2⟩ := hT.cells; clear hw))
        | (go_at_call 39; ((with_reducible refine (Cac.out _).mono ?_); rintro e w2 ⟨rfl, hw⟩; have hT := Tri.next (by assumption) hw; obtain ⟨p1, p2, q1, q2, r1, r2⟩ := hT.cells; clear hw)))
      have hs0 := hT.drew
      go_region_held3 (fun W => Tri w W w.heap.size (w.heap.size + 1) (w.heap.size + 1 + 1) la ha lb hb lc hc ∧ W.cell? ⟨w.heap.size, 0, none⟩ = some (.int .u64 la) ∧ W.cell? ⟨w.heap.size, 1, none⟩ = some (.int .u64 ha) ∧ W.cell? ⟨w.heap.size + 1, 0, none⟩ = some (.int .u64 lb) ∧ W.cell? ⟨w.heap.size + 1, 1, none⟩ = some (.int .u64 hb))
        (first
          | (with_reducible exact ⟨hS.1.next hw, cell_grows hw hS.2.1, cell_grows hw hS.2.2.1, cell_grows hw hS.2.2.2.1, cell_grows hw hS.2.2.2.2⟩)
          | exact ⟨hs0, p1, p2, q1, q2⟩)
        (first
          | (go_at_call 39; have hS : Tri w _ _ _ _ _ _ _ _ _ _ ∧ _ := (by assumption); ((with_reducible refine (Cab.out _).mono ?_); rintro e w6 ⟨rfl, hw⟩))
          | (go_at_call 39; have hS : Tri w _ _ _ _ _ _ _ _ _ _ ∧ _ := (by assumption); ((with_reducible refine (Cba.out _).mono ?_); rintro e w6 ⟨rfl, hw⟩)))
      have hT' : Tri w _ _ _ _ _ _ _ _ _ _ ∧ _ := (by assumption)
      obtain ⟨hT, p1, p2, q1, q2⟩ := hT'
      clear hs0
      go_wp2_with (first
        | (go_at_call 27; ((with_reducible refine (Ccut.out _).mono ?_); rintro e w2 ⟨rfl, hw⟩; have hT := Tri.next (by assumption) hw; obtain ⟨p1, p2, q1, q2, r1, r2⟩ := hT.cells; have z0 := hT.a.lt; have z1 := hT.b.lt; have z2 := hT.c.lt; clear hw))
        | (go_at_call 39; ((with_reducible refine (Cda.out _).mono ?_); rintro e w2 ⟨rfl, hw⟩; have hT := Tri.next (Tri.alloc (by assumption) _) hw; clear hw))
        | (go_at_call 13; have hT : Tri w _ _ _ _ _ _ _ _ _ _ := (by assumption); ((with_reducible refine (works_any _ hT.tab).mono ?_); rintro e w2 ⟨rfl, hw⟩; have hB := mkHid (bnx hT.below hw); clear hw))
        | (go_at_call 13; have hT : Tri w _ _ _ _ _ _ _ _ _ _ := Tri.alloc (by assumption) (.cells #[.int .u64 ld, .int .u64 hd] 26); ((with_reducible refine (works_any _ hT.tab).mono ?_); rintro e w2 ⟨rfl, hw⟩; have hB := mkHid (bnx hT.below hw); clear hw)))
      go_ret
      exact ⟨rfl, hB.out⟩
    · clear h4
      go_enter Tryd.func9, Tryd.ntmps9
      go_wp2_with (first
        | (go_at_call 39; ((with_reducible refine (Cab.out _).mono ?_); rintro e w2 ⟨rfl, hw⟩; have hT := Tri.next (by assumption) hw; obtain ⟨p1, p2, q1, q2, r1, r2⟩ := hT.cells; clear hw))
        | (go_at_call 39; ((with_reducible refine (Cbc.out _).mono ?_); rintro e w2 ⟨rfl, hw⟩; have hT := Tri.next (by assumption) hw; obtain ⟨p1, p2, q1, q2, r1, r2⟩ := hT.cells; clear hw))
        | (go_at_call 39; ((with_reducible refine (Cac.out _).mono ?_); rintro e w2 ⟨rfl, hw⟩; have hT := Tri.next (by assumption) hw; obtain ⟨p1, p2, q1, q2, r1, r2⟩ := hT.cells; clear hw)))
      have hs0 := hT.drew
      go_region_held3 (fun W => Tri w W w.heap.size (w.heap.size + 1) (w.heap.size + 1 + 1) la ha lb hb lc hc ∧ W.cell? ⟨w.heap.size, 0, none⟩ = some (.int .u64 la) ∧ W.cell? ⟨w.heap.size, 1, none⟩ = some (.int .u64 ha) ∧ W.cell? ⟨w.heap.size + 1, 0, none⟩ = some (.int .u64 lb) ∧ W.cell? ⟨w.heap.size + 1, 1, none⟩ = some (.int .u64 hb))
        (first
          | (with_reducible exact ⟨hS.1.next hw, cell_grows hw hS.2.1, cell_grows hw hS.2.2.1, cell_grows hw hS.2.2.2.1, cell_grows hw hS.2.2.2.2⟩)
          | exact ⟨hs0, p1, p2, q1, q2⟩)
        (first
          | (go_at_call 39; have hS : Tri w _ _ _ _ _ _ _ _ _ _ ∧ _ := (by assumption); ((with_reducible refine (Cab.out _).mono ?_); rintro e w6 ⟨rfl, hw⟩))
          | (go_at_call 39; have hS : Tri w _ _ _ _ _ _ _ _ _ _ ∧ _ := (by assumption); ((with_reducible refine (Cba.out _).mono ?_); rintro e w6 ⟨rfl, hw⟩)))
      have hT' : Tri w _ _ _ _ _ _ _ _ _ _ ∧ _ := (by assumption)
      obtain ⟨hT, p1, p2, q1, q2⟩ := hT'
      clear hs0
      go_wp2_with (first
        | (go_at_call 27; ((with_reducible refine (Ccut.out _).mono ?_); rintro e w2 ⟨rfl, hw⟩; have hT := Tri.next (by assumption) hw; obtain ⟨p1, p2, q1, q2, r1, r2⟩ := hT.cells; have z0 := hT.a.lt; have z1 := hT.b.lt; have z2 := hT.c.lt; clear hw))
        | (go_at_call 39; ((with_reducible refine (Cda.out _).mono ?_); rintro e w2 ⟨rfl, hw⟩; have hT := Tri.next (Tri.alloc (by assumption) _) hw; clear hw))
        | (go_at_call 13; have hT : Tri w _ _ _ _ _ _ _ _ _ _ := (by assumption); ((with_reducible refine (works_any _ hT.tab).mono ?_); rintro e w2 ⟨rfl, hw⟩; have hB := mkHid (bnx hT.below hw); clear hw))
        | (go_at_call 13; have hT : Tri w _ _ _ _ _ _ _ _ _ _ := Tri.alloc (by assumption) (.cells #[.int .u64 ld, .int .u64 hd] 26); ((with_reducible refine (works_any _ hT.tab).mono ?_); rintro e w2 ⟨rfl, hw⟩; have hB := mkHid (bnx hT.below hw); clear hw)))
      go_ret
      exact ⟨rfl, hB.out⟩
  · clear h1 h2 h3 h4
    go_enter Tryd.func9, Tryd.ntmps9
    go_wp2_with (first
      | (go_at_call 39; ((with_reducible refine (Cab.out _).mono ?_); rintro e w2 ⟨rfl, hw⟩; have hT := Tri.next (by assumption) hw; obtain ⟨p1, p2, q1, q2, r1, r2⟩ := hT.cells; clear hw))
      | (go_at_call 13; have hT : Tri w _ _ _ _ _ _ _ _ _ _ := (by assumption); ((with_reducible refine (works_any _ hT.tab).mono ?_); rintro e w2 ⟨rfl, hw⟩; have hB := mkHid (bnx hT.below hw); clear hw)))
    go_ret
    exact ⟨rfl, hB.out⟩
  · obtain rfl : x' = false := by simpa using h3 rfl
    clear h2 h3
    cases y
    · clear h1
      cases eq2
      · obtain rfl : t = true := h4 rfl
        clear h4
        go_enter Tryd.func9, Tryd.ntmps9
        go_wp2_with (first
          | (go_at_call 39; ((with_reducible refine (Cab.out _).mono ?_); rintro e w2 ⟨rfl, hw⟩; have hT := Tri.next (by assumption) hw; obtain ⟨p1, p2, q1, q2, r1, r2⟩ := hT.cells; clear hw))
          | (go_at_call 39; ((with_reducible refine (Cbc.out _).mono ?_); rintro e w2 ⟨rfl, hw⟩; have hT := Tri.next (by assumption) hw; obtain ⟨p1, p2, q1, q2, r1, r2⟩ := hT.cells; clear hw))
          | (go_at_call 39; ((with_reducible refine (Cac.out _).mono ?_); rintro e w2 ⟨rfl, hw⟩; have hT := Tri.next (by assumption) hw; obtain ⟨p1, p2, q1, q2, r1, r2⟩ := hT.cells; clear hw)))
        have hs0 := hT.drew
        go_region_held3 (fun W => Tri w W w.heap.size (w.heap.size + 1) (w.heap.size + 1 + 1) la ha lb hb lc hc ∧ W.cell? ⟨w.heap.size, 0, none⟩ = some (.int .u64 la) ∧ W.cell? ⟨w.heap.size, 1, none⟩ = some (.int .u64 ha) ∧ W.cell? ⟨w.heap.size + 1, 0, none⟩ = some (.int .u64 lb) ∧ W.cell? ⟨w.heap.size + 1, 1, none⟩ = some (.int .u64 hb))
          (first
            | (with_reducible exact ⟨hS.1.next hw, cell_grows hw hS.2.1, cell_grows hw hS.2.2.1, cell_grows hw hS.2.2.2.1, cell_grows hw hS.2.2.2.2⟩)
            | exact ⟨hs0, p1, p2, q1, q2⟩)
          (first
            | (go_at_call 39; have hS : Tri w _ _ _ _ _ _ _ _ _ _ ∧ _ := (by assumption); ((with_reducible refine (Cab.out _).mono ?_); rintro e w6 ⟨rfl, hw⟩))
            | (go_at_call 39; have hS : Tri w _ _ _ _ _ _ _ _ _ _ ∧ _ := (by assumption); ((with_reducible refine (Cba.out _).mono ?_); rintro e w6 ⟨rfl, hw⟩)))
        have hT' : Tri w _ _ _ _ _ _ _ _ _ _ ∧ _ := (by assumption)
        obtain ⟨hT, p1, p2, q1, q2⟩ := hT'
        clear hs0
        go_wp2_with (first
          | (go_at_call 27; ((with_reducible refine (Ccut.out _).mono ?_); rintro e w2 ⟨rfl, hw⟩; have hT := Tri.next (by assumption) hw; obtain ⟨p1, p2, q1, q2, r1, r2⟩ := hT.cells; have z0 := hT.a.lt; have z1 := hT.b.lt; have z2 := hT.c.lt; clear hw))
          | (go_at_call 39; ((with_reducible refine (Cda.out _).mono ?_); rintro e w2 ⟨rfl, hw⟩; have hT := Tri.next (Tri.alloc (by assumption) _) hw; clear hw))
          | (go_at_call 13; have hT : Tri w _ _ _ _ _ _ _ _ _ _ := (by assumption); ((with_reducible refine (works_any _ hT.tab).mono ?_); rintro e w2 ⟨rfl, hw⟩; have hB := mkHid (bnx hT.below hw); clear hw))
          | (go_at_call 13; have hT : Tri w _ _ _ _ _ _ _ _ _ _ := Tri.alloc (by assumption) (.cells #[.int .u64 ld, .int .u64 hd] 26); ((with_reducible refine (works_any _ hT.tab).mono ?_); rintro e w2 ⟨rfl, hw⟩; have hB := mkHid (bnx hT.below hw); clear hw)))
        go_ret
        exact ⟨rfl, hB.out⟩
      · clear h4
        go_enter Tryd.func9, Tryd.ntmps9
        go_wp2_with (first
          | (go_at_call 39; ((with_reducible refine (Cab.out _).mono ?_); rintro e w2 ⟨rfl, hw⟩; have hT := Tri.next (by assumption) hw; obtain ⟨p1, p2, q1, q2, r1, r2⟩ := hT.cells; clear hw))
          | (go_at_call 39; ((with_reducible refine (Cbc.out _).mono ?_); rintro e w2 ⟨rfl, hw⟩; have hT := Tri.next (by assumption) hw; obtain ⟨p1, p2, q1, q2, r1, r2⟩ := hT.cells; clear hw))
          | (go_at_call 39; ((with_reducible refine (Cac.out _).mono ?_); rintro e w2 ⟨rfl, hw⟩; have hT := Tri.next (by assumption) hw; obtain ⟨p1, p2, q1, q2, r1, r2⟩ := hT.cells; clear hw)))
        have hs0 := hT.drew
        go_region_held3 (fun W => Tri w W w.heap.size (w.heap.size + 1) (w.heap.size + 1 + 1) la ha lb hb lc hc ∧ W.cell? ⟨w.heap.size, 0, none⟩ = some (.int .u64 la) ∧ W.cell? ⟨w.heap.size, 1, none⟩ = some (.int .u64 ha) ∧ W.cell? ⟨w.heap.size + 1, 0, none⟩ = some (.int .u64 lb) ∧ W.cell? ⟨w.heap.size + 1, 1, none⟩ = some (.int .u64 hb))
          (first
            | (with_reducible exact ⟨hS.1.next hw, cell_grows hw hS.2.1, cell_grows hw hS.2.2.1, cell_grows hw hS.2.2.2.1, cell_grows hw hS.2.2.2.2⟩)
            | exact ⟨hs0, p1, p2, q1, q2⟩)
          (first
            | (go_at_call 39; have hS : Tri w _ _ _ _ _ _ _ _ _ _ ∧ _ := (by assumption); ((with_reducible refine (Cab.out _).mono ?_); rintro e w6 ⟨rfl, hw⟩))
            | (go_at_call 39; have hS : Tri w _ _ _ _ _ _ _ _ _ _ ∧ _ := (by assumption); ((with_reducible refine (Cba.out _).mono ?_); rintro e w6 ⟨rfl, hw⟩)))
        have hT' : Tri w _ _ _ _ _ _ _ _ _ _ ∧ _ := (by assumption)
        obtain ⟨hT, p1, p2, q1, q2⟩ := hT'
        clear hs0
        go_wp2_with (first
          | (go_at_call 27; ((with_reducible refine (Ccut.out _).mono ?_); rintro e w2 ⟨rfl, hw⟩; have hT := Tri.next (by assumption) hw; obtain ⟨p1, p2, q1, q2, r1, r2⟩ := hT.cells; have z0 := hT.a.lt; have z1 := hT.b.lt; have z2 := hT.c.lt; clear hw))
          | (go_at_call 39; ((with_reducible refine (Cda.out _).mono ?_); rintro e w2 ⟨rfl, hw⟩; have hT := Tri.next (Tri.alloc (by assumption) _) hw; clear hw))
          | (go_at_call 13; have hT : Tri w _ _ _ _ _ _ _ _ _ _ := (by assumption); ((with_reducible refine (works_any _ hT.tab).mono ?_); rintro e w2 ⟨rfl, hw⟩; have hB := mkHid (bnx hT.below hw); clear hw))
          | (go_at_call 13; have hT : Tri w _ _ _ _ _ _ _ _ _ _ := Tri.alloc (by assumption) (.cells #[.int .u64 ld, .int .u64 hd] 26); ((with_reducible refine (works_any _ hT.tab).mono ?_); rintro e w2 ⟨rfl, hw⟩; have hB := mkHid (bnx hT.below hw); clear hw)))
        go_ret
        exact ⟨rfl, hB.out⟩
    · obtain rfl : z = true := h1 rfl rfl
      clear h1
      cases eq2
      · obtain rfl : t = true := h4 rfl
        clear h4
        go_enter Tryd.func9, Tryd.ntmps9
        go_wp2_with (first
          | (go_at_call 39; ((with_reducible refine (Cab.out _).mono ?_); rintro e w2 ⟨rfl, hw⟩; have hT := Tri.next (by assumption) hw; obtain ⟨p1, p2, q1, q2, r1, r2⟩ := hT.cells; clear hw))
          | (go_at_call 39; ((with_reducible refine (Cbc.out _).mono ?_); rintro e w2 ⟨rfl, hw⟩; have hT := Tri.next (by assumption) hw; obtain ⟨p1, p2, q1, q2, r1, r2⟩ := hT.cells; clear hw))
          | (go_at_call 39; ((with_reducible refine (Cac.out _).mono ?_); rintro e w2 ⟨rfl, hw⟩; have hT := Tri.next (by assumption) hw; obtain ⟨p1, p2, q1, q2, r1, r2⟩ := hT.cells; clear hw)))
        have hs0 := hT.drew
        go_region_held3 (fun W => Tri w W w.heap.size (w.heap.size + 1) (w.heap.size + 1 + 1) la ha lb hb lc hc ∧ W.cell? ⟨w.heap.size, 0, none⟩ = some (.int .u64 la) ∧ W.cell? ⟨w.heap.size, 1, none⟩ = some (.int .u64 ha) ∧ W.cell? ⟨w.heap.size + 1, 0, none⟩ = some (.int .u64 lb) ∧ W.cell? ⟨w.heap.size + 1, 1, none⟩ = some (.int .u64 hb))
          (first
            | (with_reducible exact ⟨hS.1.next hw, cell_grows hw hS.2.1, cell_grows hw hS.2.2.1, cell_grows hw hS.2.2.2.1, cell_grows hw hS.2.2.2.2⟩)
            | exact ⟨hs0, p1, p2, q1, q2⟩)
          (first
            | (go_at_call 39; have hS : Tri w _ _ _ _ _ _ _ _ _ _ ∧ _ := (by assumption); ((with_reducible refine (Cab.out _).mono ?_); rintro e w6 ⟨rfl, hw⟩))
            | (go_at_call 39; have hS : Tri w _ _ _ _ _ _ _ _ _ _ ∧ _ := (by assumption); ((with_reducible refine (Cba.out _).mono ?_); rintro e w6 ⟨rfl, hw⟩)))
        have hT' : Tri w _ _ _ _ _ _ _ _ _ _ ∧ _ := (by assumption)
        obtain ⟨hT, p1, p2, q1, q2⟩ := hT'
        clear hs0
        go_wp2_with (first
          | (go_at_call 27; ((with_reducible refine (Ccut.out _).mono ?_); rintro e w2 ⟨rfl, hw⟩; have hT := Tri.next (by assumption) hw; obtain ⟨p1, p2, q1, q2, r1, r2⟩ := hT.cells; have z0 := hT.a.lt; have z1 := hT.b.lt; have z2 := hT.c.lt; clear hw))
          | (go_at_call 39; ((with_reducible refine (Cda.out _).mono ?_); rintro e w2 ⟨rfl, hw⟩; have hT := Tri.next (Tri.alloc (by assumption) _) hw; clear hw))
          | (go_at_call 13; have hT : Tri w _ _ _ _ _ _ _ _ _ _ := (by assumption); ((with_reducible refine (works_any _ hT.tab).mono ?_); rintro e w2 ⟨rfl, hw⟩; have hB := mkHid (bnx hT.below hw); clear hw))
          | (go_at_call 13; have hT : Tri w _ _ _ _ _ _ _ _ _ _ := Tri.alloc (by assumption) (.cells #[.int .u64 ld, .int .u64 hd] 26); ((with_reducible refine (works_any _ hT.tab).mono ?_); rintro e w2 ⟨rfl, hw⟩; have hB := mkHid (bnx hT.below hw); clear hw)))
        go_ret
        exact ⟨rfl, hB.out⟩
      · clear h4
        go_enter Tryd.func9, Tryd.ntmps9
        go_wp2_with (first
          | (go_at_call 39; ((with_reducible refine (Cab.out _).mono ?_); rintro e w2 ⟨rfl, hw⟩; have hT := Tri.next (by assumption) hw; obtain ⟨p1, p2, q1, q2, r1, r2⟩ := hT.cells; clear hw))
          | (go_at_call 39; ((with_reducible refine (Cbc.out _).mono ?_); rintro e w2 ⟨rfl, hw⟩; have hT := Tri.next (by assumption) hw; obtain ⟨p1, p2, q1, q2, r1, r2⟩ := hT.cells; clear hw))
          | (go_at_call 39; ((with_reducible refine (Cac.out _).mono ?_); rintro e w2 ⟨rfl, hw⟩; have hT := Tri.next (by assumption) hw; obtain ⟨p1, p2, q1, q2, r1, r2⟩ := hT.cells; clear hw)))
        have hs0 := hT.drew
        go_region_held3 (fun W => Tri w W w.heap.size (w.heap.size + 1) (w.heap.size + 1 + 1) la ha lb hb lc hc ∧ W.cell? ⟨w.heap.size, 0, none⟩ = some (.int .u64 la) ∧ W.cell? ⟨w.heap.size, 1, none⟩ = some (.int .u64 ha) ∧ W.cell? ⟨w.heap.size + 1, 0, none⟩ = some (.int .u64 lb) ∧ W.cell? ⟨w.heap.size + 1, 1, none⟩ = some (.int .u64 hb))
          (first
            | (with_reducible exact ⟨hS.1.next hw, cell_grows hw hS.2.1, cell_grows hw hS.2.2.1, cell_grows hw hS.2.2.2.1, cell_grows hw hS.2.2.2.2⟩)
            | exact ⟨hs0, p1, p2, q1, q2⟩)
          (first
            | (go_at_call 39; have hS : Tri w _ _ _ _ _ _ _ _ _ _ ∧ _ := (by assumption); ((with_reducible refine (Cab.out _).mono ?_); rintro e w6 ⟨rfl, hw⟩))
            | (go_at_call 39; have hS : Tri w _ _ _ _ _ _ _ _ _ _ ∧ _ := (by assumption); ((with_reducible refine (Cba.out _).mono ?_); rintro e w6 ⟨rfl, hw⟩)))
        have hT' : Tri w _ _ _ _ _ _ _ _ _ _ ∧ _ := (by assumption)
        obtain ⟨hT, p1, p2, q1, q2⟩ := hT'
        clear hs0
        go_wp2_with (first
          | (go_at_call 27; ((with_reducible refine (Ccut.out _).mono ?_); rintro e w2 ⟨rfl, hw⟩; have hT := Tri.next (by assumption) hw; obtain ⟨p1, p2, q1, q2, r1, r2⟩ := hT.cells; have z0 := hT.a.lt; have z1 := hT.b.lt; have z2 := hT.c.lt; clear hw))
          | (go_at_call 39; ((with_reducible refine (Cda.out _).mono ?_); rintro e w2 ⟨rfl, hw⟩; have hT := Tri.next (Tri.alloc (by assumption) _) hw; clear hw))
          | (go_at_call 13; have hT : Tri w _ _ _ _ _ _ _ _ _ _ := (by assumption); ((with_reducible refine (works_any _ hT.tab).mono ?_); rintro e w2 ⟨rfl, hw⟩; have hB := mkHid (bnx hT.below hw); clear hw))
          | (go_at_call 13; have hT : Tri w _ _ _ _ _ _ _ _ _ _ := Tri.alloc (by assumption) (.cells #[.int .u64 ld, .int .u64 hd] 26); ((with_reducible refine (works_any _ hT.tab).mono ?_); rintro e w2 ⟨rfl, hw⟩; have hB := mkHid (bnx hT.below hw); clear hw)))
        go_ret
        exact ⟨rfl, hB.out⟩
  · cases h2 rfl

/-- The law: for every three sets. -/
theorem total_any (a b c : BitVec 128) (w : World) (ht : Tab w) :
    Calls Tryd.prog 9 #[sv a, sv b, sv c] w fun e w' => e = .returned (.bool true) ∧ Below w.heap.size w w' := by
  refine total_core (wd (lo a)) (wd (hi a)) (wd (lo b)) (wd (hi b)) (wd (lo c)) (wd (hi c)) (wd (lo (a &&& b))) (wd (hi (a &&& b))) (less a b) (less b c) (less a c) (less b a) (decide (a = b)) (decide (a &&& b = a)) (less (a &&& b) a) w ht
    ⟨fun W => less_any a b W, fun W => less_any b c W, fun W => less_any a c W, fun W => less_any b a W, fun W => cut_any a b W, fun W => less_any (a &&& b) a W, fun W => eq_sets a b W, fun W => eq_sets (a &&& b) a W⟩ ?_ ?_ ?_ ?_
  · exact less_trans
  · intro h
    obtain rfl : a = b := by simpa using h
    exact less_irrefl a
  · intro h
    have hne : a ≠ b := by simpa using h
    rcases less_total hne with ⟨h1, h2⟩ | ⟨h1, h2⟩ <;> rw [h1, h2] <;> rfl
  · intro h
    exact less_cut (by simpa using h)
end Go.Proofs.YtpfappojeneecaaDoor
