/- VarsOne: With and Without change one variable alone. -/
import Derived.Test.YtpfappojeneecaaDoorVLists
import Derived.Deep.CutBlock
import Derived.Deep.DeepCutAuto
namespace Go.Proofs.YtpfappojeneecaaDoor
open Go.RowKit VM

/-- New blocks that hold no variable. -/
def Zs (W : World) (l : List Nat) : Prop := ∀ p ∈ l, AtS W p 0 0
theorem AtS.offOf {w : World} {b b' : Nat} {x y x' y' : Int} (H : AtS w b x y) (_ : AtS w b' x' y') (hne : b ≠ b') (u v : Value) : AtS ((w.setCell ⟨b', 0, none⟩ u).setCell ⟨b', 1, none⟩ v) b x y := H.setOff hne u v
theorem Zs.nil (W : World) : Zs W [] := fun _ h => by cases h
theorem Zs.next {W w' : World} {l : List Nat} (h : Zs W l) (hb : Below W.heap.size W w') : Zs w' l := fun p hp => (h p hp).grows hb
theorem Zs.box1 {W : World} {l : List Nat} {n : Nat} (hn : W.heap.size = n) (h : Zs W l) : Zs (W.alloc (.cells #[.int .u64 0, .int .u64 0] 26)) (n :: l) := by
  intro p hp
  rcases List.mem_cons.1 hp with rfl | hp
  · exact AtS.new W _ 0 0 _ hn.symm
  · exact (h p hp).alloc _
theorem Zs.h1 {W : World} {p : Nat} {l : List Nat} (h : Zs W (p :: l)) : AtS W p 0 0 := h p (.head _)
theorem Zs.h2 {W : World} {p q : Nat} {l : List Nat} (h : Zs W (q :: p :: l)) : AtS W p 0 0 := h p (.tail _ (.head _))
theorem Zs.drew {W : World} {l : List Nat} (h : Zs W l) : Zs W.drew l := fun p hp => (h p hp).drew
theorem Zs.box {W : World} {l : List Nat} (h : Zs W l) : Zs (W.alloc (.cells #[.int .u64 0, .int .u64 0] 26)) (W.heap.size :: l) := Zs.box1 rfl h
theorem cell_al {W : World} {b o : Nat} {v : Value} (h : W.cell? ⟨b, o, none⟩ = some v) (ob : Obj) : (W.alloc ob).cell? ⟨b, o, none⟩ = some v := cell_grows (bal (Below.refl _ _) ob) h
theorem cell_set2 {W : World} {b o p : Nat} {v : Value} (h : W.cell? ⟨b, o, none⟩ = some v) (hne : b ≠ p) (x y : Value) : ((W.setCell ⟨p, 0, none⟩ x).setCell ⟨p, 1, none⟩ y).cell? ⟨b, o, none⟩ = some v := by
  have e : ((W.setCell ⟨p, 0, none⟩ x).setCell ⟨p, 1, none⟩ y).heap[b]? = W.heap[b]? := (Below.heap_setCell _ _ _ _ hne).trans (Below.heap_setCell _ _ _ _ hne)
  exact (World.cell?_of_block (a := ⟨b, o, none⟩) e).trans h
theorem On.st2 {w W : World} {n : Nat} {x y : Int} (h : On w W [(n, x, y)]) (b : Nat) (hb : w.heap.size ≤ b) (hne : n ≠ b) (hg : 0 < w.heap.size) (u v : Value) : On w ((W.setCell ⟨b, 0, none⟩ u).setCell ⟨b, 1, none⟩ v) [(n, x, y)] :=
  ⟨bst2 h.below b hb u v, (h.tab.off b 0 u (by omega)).off b 1 v (by omega), fun z hz => by
    simp only [List.mem_cons, List.not_mem_nil, or_false] at hz
    subst hz
    exact h.h1.setOff hne u v⟩

theorem has_with_same (s : BitVec 128) (v : Int) : has (withV s v) v = decide (1 ≤ v ∧ v ≤ 128) := by
  rw [has_with]
  by_cases h : 1 ≤ v ∧ v ≤ 128
  · rw [decide_eq_true (p := 1 ≤ v ∧ v ≤ 128 ∧ v = v) ⟨h.1, h.2, rfl⟩, decide_eq_true h, Bool.or_true]
  · rw [has_none s v h, decide_eq_false h, decide_eq_false (fun x => h ⟨x.1, x.2.1⟩)]; rfl
theorem has_without_same (s : BitVec 128) (v : Int) : has (without s v) v = false := by
  by_cases h : 1 ≤ v ∧ v ≤ 128
  · rw [has_without, decide_eq_true (p := 1 ≤ v ∧ v ≤ 128 ∧ v = v) ⟨h.1, h.2, rfl⟩]; simp
  · exact has_none _ v h
theorem has_with_other (s : BitVec 128) (v u : Int) (h : ¬ v = u) : has (withV s v) u = has s u := by
  rw [has_with, decide_eq_false (fun x => h x.2.2.symm), Bool.or_false]
theorem has_without_other (s : BitVec 128) (v u : Int) (h : ¬ v = u) : has (without s v) u = has s u := by
  rw [has_without, decide_eq_false (fun x => h x.2.2.symm)]; simp
theorem without_with (s : BitVec 128) (v : Int) : without (withV s v) v = without s v := ext_has fun u _ _ => by
  by_cases h : v = u
  · subst h; rw [has_without_same, has_without_same]
  · rw [has_without_other _ _ _ h, has_without_other _ _ _ h, has_with_other _ _ _ h]
theorem with_without (s : BitVec 128) (v : Int) : withV (without s v) v = withV s v := ext_has fun u _ _ => by
  by_cases h : v = u
  · subst h; rw [has_with_same, has_with_same]
  · rw [has_with_other _ _ _ h, has_without_other _ _ _ h, has_with_other _ _ _ h]

set_option maxRecDepth 100000 in
set_option maxHeartbeats 8000000 in
theorem one_any (s : BitVec 128) (v u : Int) (w : World) (ht : Tab w) (_ : -9223372036854775808 ≤ v) (_ : v ≤ 9223372036854775807) (_ : -9223372036854775808 ≤ u) (_ : u ≤ 9223372036854775807) :
    Calls Tryd.prog 11 #[sv s, .int .i64 v, .int .i64 u] w fun e w' => e = .returned (.bool true) ∧ Below w.heap.size w w' := by
  have HG := mkHid ht.lt
  have hg64 := ht.lt
  have CW := mkHid (fun W => with_any s v W)
  have CO := mkHid (fun W => without_any s v W)
  have CAv := fun W => has_any (withV s v) v W
  rw [has_with_same] at CAv
  have CBv := fun W => has_any (without s v) v W
  rw [has_without_same] at CBv
  have CAu := fun W => has_any (withV s v) u W
  have CBu := fun W => has_any (without s v) u W
  have CSu := fun W => has_any s u W
  have Da := has_with_other s v u
  have Db := has_without_other s v u
  have COa := fun W => without_any (withV s v) v W
  rw [without_with] at COa
  have CWb := fun W => with_any (without s v) v W
  rw [with_without] at CWb
  have Ee := fun W => eq_words W (wd (lo (withV s v))) (wd (hi (withV s v))) (wd (lo (withV s v))) (wd (hi (withV s v)))
  have Ef := fun W => eq_words W (wd (lo (without s v))) (wd (hi (without s v))) (wd (lo (without s v))) (wd (hi (without s v)))
  simp only [beq_self_eq_true, Bool.and_self] at Ee Ef
  have hT0 := (On.nil ht).box (wd (lo s)) (wd (hi s)) 26 w.heap.size rfl
  clear ht
  unfold sv at *
  generalize has (withV s v) u = ra at *
  generalize has (without s v) u = rb at *
  generalize has s u = rs at *
  have HDa := mkHid Da
  have HDb := mkHid Db
  clear Da Db
  generalize wd (lo (withV s v)) = e0 at *
  generalize wd (hi (withV s v)) = e1 at *
  generalize wd (lo (without s v)) = f0 at *
  generalize wd (hi (without s v)) = f1 at *
  generalize wd (lo s) = s0 at *
  generalize wd (hi s) = s1 at *
  have CAv := mkHid CAv
  have CBv := mkHid CBv
  have CAu := mkHid CAu
  have CBu := mkHid CBu
  have CSu := mkHid CSu
  have COa := mkHid COa
  have CWb := mkHid CWb
  have Ee := mkHid Ee
  have Ef := mkHid Ef
  go_enter Tryd.func11, Tryd.ntmps11
  go_wp2
  generalize hk : w.heap.size = k1 at hT0 ⊢
  generalize w.alloc (.cells #[.int .u64 s0, .int .u64 s1] 26) = W0 at hT0 ⊢
  obtain ⟨p1, p2, -, -⟩ := hT0.h1
  have hk1 := hT0.h1.lt
  have hkw : w.heap.size ≤ W0.heap.size := hT0.below.size
  have HZ0 := mkHid (Zs.nil W0)
  go_cut [7, 8] (fun v7 v8 wx => ∃ pa pb : Nat, v7 = .pointer (some ⟨pa, 0, none⟩) ∧ v8 = .pointer (some ⟨pb, 0, none⟩) ∧ Hid (AtS wx pa e0 e1 ∧ AtS wx pb f0 f1 ∧ On w wx [(k1, s0, s1)]))
  case first =>
    go_region_held3 (fun W => On w W [(k1, s0, s1)] ∧ W.cell? ⟨k1, 0, none⟩ = some (.int .u64 s0) ∧ W.cell? ⟨k1, 1, none⟩ = some (.int .u64 s1))
      (first
        | (with_reducible exact ⟨hS.1.next hw, cell_grows hw hS.2.1, cell_grows hw hS.2.2⟩)
        | (have hT : On w _ _ ∧ _ := (by assumption); with_reducible exact ⟨hT.1.alloc _, cell_al hT.2.1 _, cell_al hT.2.2 _⟩)
        | (with_reducible exact ⟨(hS.1.next hw).alloc _, cell_al (cell_grows hw hS.2.1) _, cell_al (cell_grows hw hS.2.2) _⟩)
        | (with_reducible exact ⟨((hS.1.next hw).alloc _).alloc _, cell_al (cell_al (cell_grows hw hS.2.1) _) _, cell_al (cell_al (cell_grows hw hS.2.2) _) _⟩)
        | (have hT : On w _ _ ∧ _ := (by assumption); exact ⟨hT.1.st2 _ (by omega) (by omega) hg64 _ _, cell_set2 hT.2.1 (by omega) _ _, cell_set2 hT.2.2 (by omega) _ _⟩)
        | exact ⟨hT0.drew, p1, p2⟩
        | exact ⟨(hT0.alloc _).drew, cell_al p1 _, cell_al p2 _⟩
        | exact ⟨((hT0.alloc _).alloc _).drew, cell_al (cell_al p1 _) _, cell_al (cell_al p2 _) _⟩)
      (first
        | (go_at_call 21; have hS : On w _ _ ∧ _ := (by assumption); ((with_reducible refine (CW.out _).mono ?_); rintro e wA ⟨rfl, hw⟩; have hvwA := hw.size; (try simp at hvwA); (first | (have HZA : Hid (Zs wA _) := mkHid (by with_reducible exact (Zs.drew (Zs.box1 (n := W0.heap.size + 1) (by simp) (Zs.box1 (n := W0.heap.size) (by simp) HZ0.out))).next hw); obtain ⟨z1, z2, z3, z4⟩ := HZA.out _ (.head _); obtain ⟨y1, y2, y3, y4⟩ := HZA.out _ (.tail _ (.head _))) | (have HZA : Hid (Zs wA _) := mkHid (by with_reducible exact (Zs.drew (Zs.box1 (n := W0.heap.size) (by simp) HZ0.out)).next hw); obtain ⟨z1, z2, z3, z4⟩ := HZA.out _ (.head _); (try obtain ⟨y1, y2, y3, y4⟩ := HZA.out _ (.tail _ (.head _)))) | (have HZA : Hid (Zs wA _) := mkHid (by with_reducible exact (Zs.drew (HZ0.out)).next hw); (try obtain ⟨z1, z2, z3, z4⟩ := HZA.out _ (.head _)); (try obtain ⟨y1, y2, y3, y4⟩ := HZA.out _ (.tail _ (.head _)))))))
        | (go_at_call 23; have hS : On w _ _ ∧ _ := (by assumption); ((with_reducible refine (CO.out _).mono ?_); rintro e wB ⟨rfl, hw⟩; have hvwB := hw.size; (try simp at hvwB); (first | (have HZB : Hid (Zs wB _) := mkHid (by with_reducible exact (Zs.box1 (n := wA.heap.size + 1) (by simp) (Zs.box1 (n := wA.heap.size) (by simp) HZA.out)).next hw); obtain ⟨z1, z2, z3, z4⟩ := HZB.out _ (.head _); obtain ⟨y1, y2, y3, y4⟩ := HZB.out _ (.tail _ (.head _))) | (have HZB : Hid (Zs wB _) := mkHid (by with_reducible exact (Zs.box1 (n := wA.heap.size) (by simp) HZA.out).next hw); obtain ⟨z1, z2, z3, z4⟩ := HZB.out _ (.head _); (try obtain ⟨y1, y2, y3, y4⟩ := HZB.out _ (.tail _ (.head _)))) | (have HZB : Hid (Zs wB _) := mkHid (by with_reducible exact (HZA.out).next hw); (try obtain ⟨z1, z2, z3, z4⟩ := HZB.out _ (.head _)); (try obtain ⟨y1, y2, y3, y4⟩ := HZB.out _ (.tail _ (.head _))))); (try obtain ⟨m0, m1, m2, m3⟩ := (HZB.out _ (.head _)).alloc (.cells #[.int .u64 0, .int .u64 0] 26)); (try obtain ⟨m4, m5, m6, m7⟩ := (HZB.out _ (.head _)).alloc (.cells #[.int .u64 e0, .int .u64 e1] 26)); (try obtain ⟨m8, m9, m10, m11⟩ := AtS.setOff ((Zs.box (Zs.nil wB)) _ (.head _)) (Nat.ne_of_gt (HZB.out _ (.head _)).lt) (.int .u64 e0) (.int .u64 e1)); (try obtain ⟨m12, m13, m14, m15⟩ := (HZB.out _ (.tail _ (.head _))).alloc (.cells #[.int .u64 0, .int .u64 0] 26)); (try obtain ⟨m16, m17, m18, m19⟩ := (HZB.out _ (.tail _ (.head _))).alloc (.cells #[.int .u64 e0, .int .u64 e1] 26)); (try obtain ⟨m20, m21, m22, m23⟩ := AtS.setOff ((Zs.box (Zs.nil wB)) _ (.head _)) (Nat.ne_of_gt (HZB.out _ (.tail _ (.head _))).lt) (.int .u64 e0) (.int .u64 e1)); (try obtain ⟨m24, m25, m26, m27⟩ := AtS.offOf (HZB.out _ (.head _)) (HZB.out _ (.tail _ (.head _))) (by first | omega | (simp; omega)) (.int .u64 e0) (.int .u64 e1)); (try obtain ⟨m28, m29, m30, m31⟩ := AtS.offOf (HZB.out _ (.tail _ (.head _))) (HZB.out _ (.head _)) (by first | omega | (simp; omega)) (.int .u64 e0) (.int .u64 e1)))))
    all_goals
      have hT : On w _ _ ∧ _ := (by assumption)
      have HT := mkHid hT.1
      clear hT
      go_wp2_with fail
      go_meet
      refine ⟨_, _, rfl, rfl, mkHid ⟨?_, ?_, HT.out⟩⟩
      · (first | (with_reducible exact (AtS.new wB wB.heap.size e0 e1 26 rfl).alloc _) | (with_reducible exact AtS.new _ _ e0 e1 26 (by simp)) | (with_reducible exact (AtS.new wB wB.heap.size e0 e1 26 rfl).setOff (by (try have g1 := (Zs.h1 HZB.out).lt); (try have g2 := (Zs.h2 HZB.out).lt); omega) _ _) | (with_reducible exact (((Zs.h1 HZB.out).alloc _).set e0 e1).setOff (by (try have g1 := (Zs.h1 HZB.out).lt); (try have g2 := (Zs.h2 HZB.out).lt); omega) _ _) | (with_reducible exact ((Zs.h1 HZB.out).set e0 e1).setOff (by (try have g1 := (Zs.h1 HZB.out).lt); (try have g2 := (Zs.h2 HZB.out).lt); omega) _ _) | (with_reducible exact (((Zs.h2 HZB.out).alloc _).set e0 e1).setOff (by (try have g1 := (Zs.h1 HZB.out).lt); (try have g2 := (Zs.h2 HZB.out).lt); omega) _ _) | (with_reducible exact ((Zs.h2 HZB.out).set e0 e1).setOff (by (try have g1 := (Zs.h1 HZB.out).lt); (try have g2 := (Zs.h2 HZB.out).lt); omega) _ _))
      · (first | (with_reducible exact AtS.new _ _ f0 f1 26 (by simp)) | (with_reducible exact (AtS.new wB wB.heap.size f0 f1 26 rfl).alloc _) | (with_reducible exact ((Zs.h1 (Zs.box (Zs.nil wB))).setOff (by (try have g1 := (Zs.h1 HZB.out).lt); (try have g2 := (Zs.h2 HZB.out).lt); omega) _ _).set f0 f1) | (with_reducible exact ((Zs.h1 HZB.out).setOff (by (try have g1 := (Zs.h1 HZB.out).lt); (try have g2 := (Zs.h2 HZB.out).lt); omega) _ _).set f0 f1) | (with_reducible exact ((Zs.h1 HZB.out).alloc _).set f0 f1) | (with_reducible exact ((Zs.h2 HZB.out).setOff (by (try have g1 := (Zs.h1 HZB.out).lt); (try have g2 := (Zs.h2 HZB.out).lt); omega) _ _).set f0 f1) | (with_reducible exact ((Zs.h2 HZB.out).alloc _).set f0 f1))
  case rest =>
  obtain ⟨pa, pb, rfl, rfl, HU⟩ := hcut
  have hO : On w _ [(pa, e0, e1), (pb, f0, f1), (k1, s0, s1)] := ⟨HU.out.2.2.below, HU.out.2.2.tab, fun z hz => by
    simp only [List.mem_cons, List.not_mem_nil, or_false] at hz
    rcases hz with rfl | rfl | rfl
    · exact HU.out.1
    · exact HU.out.2.1
    · exact HU.out.2.2.h1⟩
  obtain ⟨a1, a2, -, -⟩ := hO.h1
  obtain ⟨b1, b2, -, -⟩ := hO.h2
  obtain ⟨c1, c2, -, -⟩ := hO.h3
  clear HU hT0 p1 p2 HZ0 CW CO hg64 hk1 hkw hk
  by_cases hvu : v = u
  · subst hvu
    clear HDa HDb
    by_cases h1 : 1 ≤ v
    · by_cases h2 : v ≤ 128
      · rw [decide_eq_true ⟨h1, h2⟩] at CAv
        go_wp2_with (first
          | (go_at_call 19; have hO : On w _ [_, _, _] := (by assumption); ((with_reducible refine (CAv.out _).mono ?_); rintro e w6 ⟨rfl, hw⟩; have hO' := On.next hO hw; obtain ⟨a1, a2, -, -⟩ := hO'.h1; obtain ⟨b1, b2, -, -⟩ := hO'.h2; obtain ⟨c1, c2, -, -⟩ := hO'.h3; clear hw))
          | (go_at_call 19; have hO : On w _ [_, _, _] := (by assumption); ((with_reducible refine (CBv.out _).mono ?_); rintro e w6 ⟨rfl, hw⟩; have hO' := On.next hO hw; obtain ⟨a1, a2, -, -⟩ := hO'.h1; obtain ⟨b1, b2, -, -⟩ := hO'.h2; obtain ⟨c1, c2, -, -⟩ := hO'.h3; clear hw)))
        have hO : On w _ [_, _, _] := (by assumption)
        have hvn : (v != v) = false := by simp
        go_quiet (fail)
        have hO5 := hO.drewN nq
        clear hO
        generalize w6.drewN nq = W5 at hO5 ⊢
        have hs0 := hO5.drew
        obtain ⟨a1, a2, -, -⟩ := hs0.h1
        obtain ⟨b1, b2, -, -⟩ := hs0.h2
        obtain ⟨c1, c2, -, -⟩ := hs0.h3
        have Ee' := Ee.out
        have Ef' := Ef.out
        go_wp2
        go_region_held3 (fun W => On w W [(pa, e0, e1), (pb, f0, f1), (k1, s0, s1)] ∧ W.cell? ⟨pa, 0, none⟩ = some (.int .u64 e0) ∧ W.cell? ⟨pa, 1, none⟩ = some (.int .u64 e1) ∧ W.cell? ⟨pb, 0, none⟩ = some (.int .u64 f0) ∧ W.cell? ⟨pb, 1, none⟩ = some (.int .u64 f1) ∧ W.cell? ⟨k1, 0, none⟩ = some (.int .u64 s0) ∧ W.cell? ⟨k1, 1, none⟩ = some (.int .u64 s1))
          (first
            | (with_reducible exact ⟨hS.1.next hw, cell_grows hw hS.2.1, cell_grows hw hS.2.2.1, cell_grows hw hS.2.2.2.1, cell_grows hw hS.2.2.2.2.1, cell_grows hw hS.2.2.2.2.2.1, cell_grows hw hS.2.2.2.2.2.2⟩)
            | exact ⟨hs0, a1, a2, b1, b2, c1, c2⟩)
          (first
            | (go_at_call 23; have hS : On w _ _ ∧ _ := (by assumption); ((with_reducible refine (COa.out _).mono ?_); rintro e w6 ⟨rfl, hw⟩))
            | (go_at_call 21; have hS : On w _ _ ∧ _ := (by assumption); ((with_reducible refine (CWb.out _).mono ?_); rintro e w6 ⟨rfl, hw⟩))
            | (go_at_call 13; have hS : On w _ _ ∧ _ := (by assumption); ((with_reducible refine (works_any _ hS.1.tab).mono ?_); rintro e w6 ⟨rfl, hw⟩)))
        have hT' : On w _ _ ∧ _ := (by assumption)
        obtain ⟨hT, a1, a2, b1, b2, c1, c2⟩ := hT'
        have HB := mkHid hT.below
        clear hT
        go_wp2
        go_ret
        exact ⟨rfl, HB.out⟩
      · rw [decide_eq_false (fun h => h2 h.2)] at CAv
        go_wp2_with (first
          | (go_at_call 19; have hO : On w _ [_, _, _] := (by assumption); ((with_reducible refine (CAv.out _).mono ?_); rintro e w6 ⟨rfl, hw⟩; have hO' := On.next hO hw; obtain ⟨a1, a2, -, -⟩ := hO'.h1; obtain ⟨b1, b2, -, -⟩ := hO'.h2; obtain ⟨c1, c2, -, -⟩ := hO'.h3; clear hw))
          | (go_at_call 19; have hO : On w _ [_, _, _] := (by assumption); ((with_reducible refine (CBv.out _).mono ?_); rintro e w6 ⟨rfl, hw⟩; have hO' := On.next hO hw; obtain ⟨a1, a2, -, -⟩ := hO'.h1; obtain ⟨b1, b2, -, -⟩ := hO'.h2; obtain ⟨c1, c2, -, -⟩ := hO'.h3; clear hw)))
        have hO : On w _ [_, _, _] := (by assumption)
        have hvn : (v != v) = false := by simp
        go_quiet (fail)
        have hO5 := hO.drewN nq
        clear hO
        generalize w6.drewN nq = W5 at hO5 ⊢
        have hs0 := hO5.drew
        obtain ⟨a1, a2, -, -⟩ := hs0.h1
        obtain ⟨b1, b2, -, -⟩ := hs0.h2
        obtain ⟨c1, c2, -, -⟩ := hs0.h3
        have Ee' := Ee.out
        have Ef' := Ef.out
        go_wp2
        go_region_held3 (fun W => On w W [(pa, e0, e1), (pb, f0, f1), (k1, s0, s1)] ∧ W.cell? ⟨pa, 0, none⟩ = some (.int .u64 e0) ∧ W.cell? ⟨pa, 1, none⟩ = some (.int .u64 e1) ∧ W.cell? ⟨pb, 0, none⟩ = some (.int .u64 f0) ∧ W.cell? ⟨pb, 1, none⟩ = some (.int .u64 f1) ∧ W.cell? ⟨k1, 0, none⟩ = some (.int .u64 s0) ∧ W.cell? ⟨k1, 1, none⟩ = some (.int .u64 s1))
          (first
            | (with_reducible exact ⟨hS.1.next hw, cell_grows hw hS.2.1, cell_grows hw hS.2.2.1, cell_grows hw hS.2.2.2.1, cell_grows hw hS.2.2.2.2.1, cell_grows hw hS.2.2.2.2.2.1, cell_grows hw hS.2.2.2.2.2.2⟩)
            | exact ⟨hs0, a1, a2, b1, b2, c1, c2⟩)
          (first
            | (go_at_call 23; have hS : On w _ _ ∧ _ := (by assumption); ((with_reducible refine (COa.out _).mono ?_); rintro e w6 ⟨rfl, hw⟩))
            | (go_at_call 21; have hS : On w _ _ ∧ _ := (by assumption); ((with_reducible refine (CWb.out _).mono ?_); rintro e w6 ⟨rfl, hw⟩))
            | (go_at_call 13; have hS : On w _ _ ∧ _ := (by assumption); ((with_reducible refine (works_any _ hS.1.tab).mono ?_); rintro e w6 ⟨rfl, hw⟩)))
        have hT' : On w _ _ ∧ _ := (by assumption)
        obtain ⟨hT, a1, a2, b1, b2, c1, c2⟩ := hT'
        have HB := mkHid hT.below
        clear hT
        go_wp2
        go_ret
        exact ⟨rfl, HB.out⟩
    · rw [decide_eq_false (fun h => h1 h.1)] at CAv
      go_wp2_with (first
        | (go_at_call 19; have hO : On w _ [_, _, _] := (by assumption); ((with_reducible refine (CAv.out _).mono ?_); rintro e w6 ⟨rfl, hw⟩; have hO' := On.next hO hw; obtain ⟨a1, a2, -, -⟩ := hO'.h1; obtain ⟨b1, b2, -, -⟩ := hO'.h2; obtain ⟨c1, c2, -, -⟩ := hO'.h3; clear hw))
        | (go_at_call 19; have hO : On w _ [_, _, _] := (by assumption); ((with_reducible refine (CBv.out _).mono ?_); rintro e w6 ⟨rfl, hw⟩; have hO' := On.next hO hw; obtain ⟨a1, a2, -, -⟩ := hO'.h1; obtain ⟨b1, b2, -, -⟩ := hO'.h2; obtain ⟨c1, c2, -, -⟩ := hO'.h3; clear hw)))
      have hO : On w _ [_, _, _] := (by assumption)
      have hvn : (v != v) = false := by simp
      go_quiet (fail)
      have hO5 := hO.drewN nq
      clear hO
      generalize w6.drewN nq = W5 at hO5 ⊢
      have hs0 := hO5.drew
      obtain ⟨a1, a2, -, -⟩ := hs0.h1
      obtain ⟨b1, b2, -, -⟩ := hs0.h2
      obtain ⟨c1, c2, -, -⟩ := hs0.h3
      have Ee' := Ee.out
      have Ef' := Ef.out
      go_wp2
      go_region_held3 (fun W => On w W [(pa, e0, e1), (pb, f0, f1), (k1, s0, s1)] ∧ W.cell? ⟨pa, 0, none⟩ = some (.int .u64 e0) ∧ W.cell? ⟨pa, 1, none⟩ = some (.int .u64 e1) ∧ W.cell? ⟨pb, 0, none⟩ = some (.int .u64 f0) ∧ W.cell? ⟨pb, 1, none⟩ = some (.int .u64 f1) ∧ W.cell? ⟨k1, 0, none⟩ = some (.int .u64 s0) ∧ W.cell? ⟨k1, 1, none⟩ = some (.int .u64 s1))
        (first
          | (with_reducible exact ⟨hS.1.next hw, cell_grows hw hS.2.1, cell_grows hw hS.2.2.1, cell_grows hw hS.2.2.2.1, cell_grows hw hS.2.2.2.2.1, cell_grows hw hS.2.2.2.2.2.1, cell_grows hw hS.2.2.2.2.2.2⟩)
          | exact ⟨hs0, a1, a2, b1, b2, c1, c2⟩)
        (first
          | (go_at_call 23; have hS : On w _ _ ∧ _ := (by assumption); ((with_reducible refine (COa.out _).mono ?_); rintro e w6 ⟨rfl, hw⟩))
          | (go_at_call 21; have hS : On w _ _ ∧ _ := (by assumption); ((with_reducible refine (CWb.out _).mono ?_); rintro e w6 ⟨rfl, hw⟩))
          | (go_at_call 13; have hS : On w _ _ ∧ _ := (by assumption); ((with_reducible refine (works_any _ hS.1.tab).mono ?_); rintro e w6 ⟨rfl, hw⟩)))
      have hT' : On w _ _ ∧ _ := (by assumption)
      obtain ⟨hT, a1, a2, b1, b2, c1, c2⟩ := hT'
      have HB := mkHid hT.below
      clear hT
      go_wp2
      go_ret
      exact ⟨rfl, HB.out⟩
  · have hra := HDa.out hvu
    have hrb := HDb.out hvu
    subst hra hrb
    have hvn : (v != u) = true := by simpa using hvu
    clear HDa HDb
    by_cases h1 : 1 ≤ v
    · by_cases h2 : v ≤ 128
      · rw [decide_eq_true ⟨h1, h2⟩] at CAv
        go_wp2_with (first
          | (go_at_call 19; have hO : On w _ [_, _, _] := (by assumption); ((with_reducible refine (CAv.out _).mono ?_); rintro e w6 ⟨rfl, hw⟩; have hO' := On.next hO hw; obtain ⟨a1, a2, -, -⟩ := hO'.h1; obtain ⟨b1, b2, -, -⟩ := hO'.h2; obtain ⟨c1, c2, -, -⟩ := hO'.h3; clear hw))
          | (go_at_call 19; have hO : On w _ [_, _, _] := (by assumption); ((with_reducible refine (CBv.out _).mono ?_); rintro e w6 ⟨rfl, hw⟩; have hO' := On.next hO hw; obtain ⟨a1, a2, -, -⟩ := hO'.h1; obtain ⟨b1, b2, -, -⟩ := hO'.h2; obtain ⟨c1, c2, -, -⟩ := hO'.h3; clear hw)))
        have hO : On w _ [_, _, _] := (by assumption)
        have hs0 := hO.drew
        go_region_held3 (fun W => On w W [(pa, e0, e1), (pb, f0, f1), (k1, s0, s1)] ∧ W.cell? ⟨pa, 0, none⟩ = some (.int .u64 e0) ∧ W.cell? ⟨pa, 1, none⟩ = some (.int .u64 e1) ∧ W.cell? ⟨pb, 0, none⟩ = some (.int .u64 f0) ∧ W.cell? ⟨pb, 1, none⟩ = some (.int .u64 f1) ∧ W.cell? ⟨k1, 0, none⟩ = some (.int .u64 s0) ∧ W.cell? ⟨k1, 1, none⟩ = some (.int .u64 s1))
          (first
            | (with_reducible exact ⟨hS.1.next hw, cell_grows hw hS.2.1, cell_grows hw hS.2.2.1, cell_grows hw hS.2.2.2.1, cell_grows hw hS.2.2.2.2.1, cell_grows hw hS.2.2.2.2.2.1, cell_grows hw hS.2.2.2.2.2.2⟩)
            | exact ⟨hs0, a1, a2, b1, b2, c1, c2⟩)
          (first
            | (go_at_call 19; have hS : On w _ _ ∧ _ := (by assumption); ((with_reducible refine (CAu.out _).mono ?_); rintro e w6 ⟨rfl, hw⟩))
            | (go_at_call 19; have hS : On w _ _ ∧ _ := (by assumption); ((with_reducible refine (CBu.out _).mono ?_); rintro e w6 ⟨rfl, hw⟩))
            | (go_at_call 19; have hS : On w _ _ ∧ _ := (by assumption); ((with_reducible refine (CSu.out _).mono ?_); rintro e w6 ⟨rfl, hw⟩)))
        have hT' : On w _ _ ∧ _ := (by assumption)
        obtain ⟨hT, a1, a2, b1, b2, c1, c2⟩ := hT'
        have hs0 := hT.drew
        have Ee' := Ee.out
        have Ef' := Ef.out
        go_wp2
        go_region_held3 (fun W => On w W [(pa, e0, e1), (pb, f0, f1), (k1, s0, s1)] ∧ W.cell? ⟨pa, 0, none⟩ = some (.int .u64 e0) ∧ W.cell? ⟨pa, 1, none⟩ = some (.int .u64 e1) ∧ W.cell? ⟨pb, 0, none⟩ = some (.int .u64 f0) ∧ W.cell? ⟨pb, 1, none⟩ = some (.int .u64 f1) ∧ W.cell? ⟨k1, 0, none⟩ = some (.int .u64 s0) ∧ W.cell? ⟨k1, 1, none⟩ = some (.int .u64 s1))
          (first
            | (with_reducible exact ⟨hS.1.next hw, cell_grows hw hS.2.1, cell_grows hw hS.2.2.1, cell_grows hw hS.2.2.2.1, cell_grows hw hS.2.2.2.2.1, cell_grows hw hS.2.2.2.2.2.1, cell_grows hw hS.2.2.2.2.2.2⟩)
            | exact ⟨hs0, a1, a2, b1, b2, c1, c2⟩)
          (first
            | (go_at_call 23; have hS : On w _ _ ∧ _ := (by assumption); ((with_reducible refine (COa.out _).mono ?_); rintro e w6 ⟨rfl, hw⟩))
            | (go_at_call 21; have hS : On w _ _ ∧ _ := (by assumption); ((with_reducible refine (CWb.out _).mono ?_); rintro e w6 ⟨rfl, hw⟩))
            | (go_at_call 13; have hS : On w _ _ ∧ _ := (by assumption); ((with_reducible refine (works_any _ hS.1.tab).mono ?_); rintro e w6 ⟨rfl, hw⟩)))
        have hT' : On w _ _ ∧ _ := (by assumption)
        obtain ⟨hT, a1, a2, b1, b2, c1, c2⟩ := hT'
        have HB := mkHid hT.below
        clear hT
        go_wp2
        go_ret
        exact ⟨rfl, HB.out⟩
      · rw [decide_eq_false (fun h => h2 h.2)] at CAv
        go_wp2_with (first
          | (go_at_call 19; have hO : On w _ [_, _, _] := (by assumption); ((with_reducible refine (CAv.out _).mono ?_); rintro e w6 ⟨rfl, hw⟩; have hO' := On.next hO hw; obtain ⟨a1, a2, -, -⟩ := hO'.h1; obtain ⟨b1, b2, -, -⟩ := hO'.h2; obtain ⟨c1, c2, -, -⟩ := hO'.h3; clear hw))
          | (go_at_call 19; have hO : On w _ [_, _, _] := (by assumption); ((with_reducible refine (CBv.out _).mono ?_); rintro e w6 ⟨rfl, hw⟩; have hO' := On.next hO hw; obtain ⟨a1, a2, -, -⟩ := hO'.h1; obtain ⟨b1, b2, -, -⟩ := hO'.h2; obtain ⟨c1, c2, -, -⟩ := hO'.h3; clear hw)))
        have hO : On w _ [_, _, _] := (by assumption)
        have hs0 := hO.drew
        go_region_held3 (fun W => On w W [(pa, e0, e1), (pb, f0, f1), (k1, s0, s1)] ∧ W.cell? ⟨pa, 0, none⟩ = some (.int .u64 e0) ∧ W.cell? ⟨pa, 1, none⟩ = some (.int .u64 e1) ∧ W.cell? ⟨pb, 0, none⟩ = some (.int .u64 f0) ∧ W.cell? ⟨pb, 1, none⟩ = some (.int .u64 f1) ∧ W.cell? ⟨k1, 0, none⟩ = some (.int .u64 s0) ∧ W.cell? ⟨k1, 1, none⟩ = some (.int .u64 s1))
          (first
            | (with_reducible exact ⟨hS.1.next hw, cell_grows hw hS.2.1, cell_grows hw hS.2.2.1, cell_grows hw hS.2.2.2.1, cell_grows hw hS.2.2.2.2.1, cell_grows hw hS.2.2.2.2.2.1, cell_grows hw hS.2.2.2.2.2.2⟩)
            | exact ⟨hs0, a1, a2, b1, b2, c1, c2⟩)
          (first
            | (go_at_call 19; have hS : On w _ _ ∧ _ := (by assumption); ((with_reducible refine (CAu.out _).mono ?_); rintro e w6 ⟨rfl, hw⟩))
            | (go_at_call 19; have hS : On w _ _ ∧ _ := (by assumption); ((with_reducible refine (CBu.out _).mono ?_); rintro e w6 ⟨rfl, hw⟩))
            | (go_at_call 19; have hS : On w _ _ ∧ _ := (by assumption); ((with_reducible refine (CSu.out _).mono ?_); rintro e w6 ⟨rfl, hw⟩)))
        have hT' : On w _ _ ∧ _ := (by assumption)
        obtain ⟨hT, a1, a2, b1, b2, c1, c2⟩ := hT'
        have hs0 := hT.drew
        have Ee' := Ee.out
        have Ef' := Ef.out
        go_wp2
        go_region_held3 (fun W => On w W [(pa, e0, e1), (pb, f0, f1), (k1, s0, s1)] ∧ W.cell? ⟨pa, 0, none⟩ = some (.int .u64 e0) ∧ W.cell? ⟨pa, 1, none⟩ = some (.int .u64 e1) ∧ W.cell? ⟨pb, 0, none⟩ = some (.int .u64 f0) ∧ W.cell? ⟨pb, 1, none⟩ = some (.int .u64 f1) ∧ W.cell? ⟨k1, 0, none⟩ = some (.int .u64 s0) ∧ W.cell? ⟨k1, 1, none⟩ = some (.int .u64 s1))
          (first
            | (with_reducible exact ⟨hS.1.next hw, cell_grows hw hS.2.1, cell_grows hw hS.2.2.1, cell_grows hw hS.2.2.2.1, cell_grows hw hS.2.2.2.2.1, cell_grows hw hS.2.2.2.2.2.1, cell_grows hw hS.2.2.2.2.2.2⟩)
            | exact ⟨hs0, a1, a2, b1, b2, c1, c2⟩)
          (first
            | (go_at_call 23; have hS : On w _ _ ∧ _ := (by assumption); ((with_reducible refine (COa.out _).mono ?_); rintro e w6 ⟨rfl, hw⟩))
            | (go_at_call 21; have hS : On w _ _ ∧ _ := (by assumption); ((with_reducible refine (CWb.out _).mono ?_); rintro e w6 ⟨rfl, hw⟩))
            | (go_at_call 13; have hS : On w _ _ ∧ _ := (by assumption); ((with_reducible refine (works_any _ hS.1.tab).mono ?_); rintro e w6 ⟨rfl, hw⟩)))
        have hT' : On w _ _ ∧ _ := (by assumption)
        obtain ⟨hT, a1, a2, b1, b2, c1, c2⟩ := hT'
        have HB := mkHid hT.below
        clear hT
        go_wp2
        go_ret
        exact ⟨rfl, HB.out⟩
    · rw [decide_eq_false (fun h => h1 h.1)] at CAv
      go_wp2_with (first
        | (go_at_call 19; have hO : On w _ [_, _, _] := (by assumption); ((with_reducible refine (CAv.out _).mono ?_); rintro e w6 ⟨rfl, hw⟩; have hO' := On.next hO hw; obtain ⟨a1, a2, -, -⟩ := hO'.h1; obtain ⟨b1, b2, -, -⟩ := hO'.h2; obtain ⟨c1, c2, -, -⟩ := hO'.h3; clear hw))
        | (go_at_call 19; have hO : On w _ [_, _, _] := (by assumption); ((with_reducible refine (CBv.out _).mono ?_); rintro e w6 ⟨rfl, hw⟩; have hO' := On.next hO hw; obtain ⟨a1, a2, -, -⟩ := hO'.h1; obtain ⟨b1, b2, -, -⟩ := hO'.h2; obtain ⟨c1, c2, -, -⟩ := hO'.h3; clear hw)))
      have hO : On w _ [_, _, _] := (by assumption)
      have hs0 := hO.drew
      go_region_held3 (fun W => On w W [(pa, e0, e1), (pb, f0, f1), (k1, s0, s1)] ∧ W.cell? ⟨pa, 0, none⟩ = some (.int .u64 e0) ∧ W.cell? ⟨pa, 1, none⟩ = some (.int .u64 e1) ∧ W.cell? ⟨pb, 0, none⟩ = some (.int .u64 f0) ∧ W.cell? ⟨pb, 1, none⟩ = some (.int .u64 f1) ∧ W.cell? ⟨k1, 0, none⟩ = some (.int .u64 s0) ∧ W.cell? ⟨k1, 1, none⟩ = some (.int .u64 s1))
        (first
          | (with_reducible exact ⟨hS.1.next hw, cell_grows hw hS.2.1, cell_grows hw hS.2.2.1, cell_grows hw hS.2.2.2.1, cell_grows hw hS.2.2.2.2.1, cell_grows hw hS.2.2.2.2.2.1, cell_grows hw hS.2.2.2.2.2.2⟩)
          | exact ⟨hs0, a1, a2, b1, b2, c1, c2⟩)
        (first
          | (go_at_call 19; have hS : On w _ _ ∧ _ := (by assumption); ((with_reducible refine (CAu.out _).mono ?_); rintro e w6 ⟨rfl, hw⟩))
          | (go_at_call 19; have hS : On w _ _ ∧ _ := (by assumption); ((with_reducible refine (CBu.out _).mono ?_); rintro e w6 ⟨rfl, hw⟩))
          | (go_at_call 19; have hS : On w _ _ ∧ _ := (by assumption); ((with_reducible refine (CSu.out _).mono ?_); rintro e w6 ⟨rfl, hw⟩)))
      have hT' : On w _ _ ∧ _ := (by assumption)
      obtain ⟨hT, a1, a2, b1, b2, c1, c2⟩ := hT'
      have hs0 := hT.drew
      have Ee' := Ee.out
      have Ef' := Ef.out
      go_wp2
      go_region_held3 (fun W => On w W [(pa, e0, e1), (pb, f0, f1), (k1, s0, s1)] ∧ W.cell? ⟨pa, 0, none⟩ = some (.int .u64 e0) ∧ W.cell? ⟨pa, 1, none⟩ = some (.int .u64 e1) ∧ W.cell? ⟨pb, 0, none⟩ = some (.int .u64 f0) ∧ W.cell? ⟨pb, 1, none⟩ = some (.int .u64 f1) ∧ W.cell? ⟨k1, 0, none⟩ = some (.int .u64 s0) ∧ W.cell? ⟨k1, 1, none⟩ = some (.int .u64 s1))
        (first
          | (with_reducible exact ⟨hS.1.next hw, cell_grows hw hS.2.1, cell_grows hw hS.2.2.1, cell_grows hw hS.2.2.2.1, cell_grows hw hS.2.2.2.2.1, cell_grows hw hS.2.2.2.2.2.1, cell_grows hw hS.2.2.2.2.2.2⟩)
          | exact ⟨hs0, a1, a2, b1, b2, c1, c2⟩)
        (first
          | (go_at_call 23; have hS : On w _ _ ∧ _ := (by assumption); ((with_reducible refine (COa.out _).mono ?_); rintro e w6 ⟨rfl, hw⟩))
          | (go_at_call 21; have hS : On w _ _ ∧ _ := (by assumption); ((with_reducible refine (CWb.out _).mono ?_); rintro e w6 ⟨rfl, hw⟩))
          | (go_at_call 13; have hS : On w _ _ ∧ _ := (by assumption); ((with_reducible refine (works_any _ hS.1.tab).mono ?_); rintro e w6 ⟨rfl, hw⟩)))
      have hT' : On w _ _ ∧ _ := (by assumption)
      obtain ⟨hT, a1, a2, b1, b2, c1, c2⟩ := hT'
      have HB := mkHid hT.below
      clear hT
      go_wp2
      go_ret
      exact ⟨rfl, HB.out⟩
end Go.Proofs.YtpfappojeneecaaDoor
