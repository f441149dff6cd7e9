/- Contracts of Normal's comparison: compareLiterals, CompareFunc, Normal$1; the order that it makes. -/
import Derived.Test.YtalpbpcanebbbaaTQ
namespace Go.Proofs.Ytalpbpcanebbbaa
open Go.RowKit VM LM TM Go.Lib Go.Sort Go.Shelf

/-- The world has grown, by draws and new memory. -/
def Gr (w w' : World) : Prop := ∃ q os, w' = grow (w.drewN q) os
theorem Gr.refl (w : World) : Gr w w := ⟨0, #[], by simp [grow, World.drewN]⟩
theorem Gr.trans {A B C : World} (h : Gr A B) (k : Gr B C) : Gr A C := by
  obtain ⟨q, os, rfl⟩ := h
  obtain ⟨r, os2, rfl⟩ := k
  exact ⟨q + r, os ++ os2, by simp [grow, World.drewN, Array.append_assoc, Nat.add_assoc]⟩
theorem Gr.alloc (w : World) (o : Obj) : Gr w (w.alloc o) := ⟨0, #[o], by rw [alloc_eq_grow]; simp [grow, World.drewN]⟩
theorem Gr.below {A B : World} (h : Gr A B) : Below A.heap.size A B := by
  obtain ⟨q, os, rfl⟩ := h
  exact ⟨rfl, rfl, rfl, by simp [grow], fun k hk => by rw [Sort.heap_grow_old _ _ (by simpa using hk)]; rfl⟩
/-- The comparison of two clauses' literals. -/
def cmpL : List Int → List Int → Int
  | x :: c, y :: d => if cf x y = 0 then cmpL c d else cf x y
  | _ :: _, [] => 1
  | [], _ :: _ => -1
  | [], [] => 0
def cmpN (c d : List Int) : Int := orV (Lib.compareInt c.length d.length) (cmpL c d)
theorem cf_zero {x y : Int} : cf x y = 0 ↔ x = y := by
  unfold cf orV Lib.compareInt
  constructor
  · intro h
    split at h
    · rename_i h1
      split at h
      · omega
      · split at h <;> omega
    · split at h
      · omega
      · split at h <;> omega
  · rintro rfl; simp
theorem cf_neg {x y : Int} : cf x y < 0 ↔ lt x y := by
  have := cf_lt x y
  unfold ltOf at this
  simpa using this
theorem cmpL_neg : ∀ {c d : List Int}, c.length = d.length → (cmpL c d < 0 ↔ lexB c d = true)
  | [], [], _ => by simp [cmpL, lexB]
  | [], _ :: _, h => by simp at h
  | _ :: _, [], h => by simp at h
  | x :: c, y :: d, h => by
    rw [cmpL, lexB]
    by_cases e : x = y
    · subst e
      rw [if_pos (cf_zero.2 rfl), if_pos rfl]
      exact cmpL_neg (by simpa using h)
    · rw [if_neg (fun k => e (cf_zero.1 k)), if_neg e, cf_neg, decide_eq_true_eq]; rfl
theorem cmpN_neg (c d : List Int) : cmpN c d < 0 ↔ bef c d = true := by
  rw [bef_iff]
  unfold cmpN orV Lib.compareInt
  rcases Nat.lt_trichotomy c.length d.length with h | h | h
  · simp [h]
  · simp [h, cmpL_neg h]
  · have h1 : ¬ (c.length : Int) < (d.length : Int) := by omega
    have h2 : (c.length : Int) > (d.length : Int) := by omega
    simp [h1, h2]; omega
theorem cmpL_at : ∀ {c d : List Int} {k : Nat} {x y : Int}, c.take k = d.take k → c[k]? = some x → d[k]? = some y → x ≠ y → cmpL c d = cf x y
  | [], _, k, x, y, _, h, _, _ => by simp at h
  | _ :: _, [], k, x, y, _, _, h, _ => by simp at h
  | a :: c, b :: d, 0, x, y, _, h1, h2, h3 => by
    simp at h1 h2
    subst h1 h2
    rw [cmpL, if_neg (fun k => h3 (cf_zero.1 k))]
  | a :: c, b :: d, k + 1, x, y, h, h1, h2, h3 => by
    simp only [List.take_succ_cons, List.cons.injEq] at h
    obtain ⟨rfl, h⟩ := h
    rw [cmpL, if_pos (cf_zero.2 rfl)]
    exact cmpL_at h (by simpa using h1) (by simpa using h2) h3
theorem cmpL_more : ∀ {c d : List Int}, c.take d.length = d → d.length < c.length → cmpL c d = 1
  | [], d, _, h => by simp at h
  | _ :: _, [], _, _ => rfl
  | a :: c, b :: d, h, k => by
    simp only [List.length_cons, List.take_succ_cons, List.cons.injEq] at h
    obtain ⟨rfl, h⟩ := h
    rw [cmpL, if_pos (cf_zero.2 rfl)]
    exact cmpL_more h (by simpa using k)
theorem cmpL_less : ∀ {c d : List Int}, d.take c.length = c → c.length < d.length → cmpL c d = -1
  | [], [], _, h => by simp at h
  | [], _ :: _, _, _ => rfl
  | a :: c, [], h, _ => by simp at h
  | a :: c, b :: d, h, k => by
    simp only [List.length_cons, List.take_succ_cons, List.cons.injEq] at h
    obtain ⟨rfl, h⟩ := h
    rw [cmpL, if_pos (cf_zero.2 rfl)]
    exact cmpL_less h (by simpa using k)
theorem cmpL_same : ∀ c : List Int, cmpL c c = 0
  | [] => rfl
  | a :: c => by rw [cmpL, if_pos (cf_zero.2 rfl)]; exact cmpL_same c
set_option maxRecDepth 100000 in
set_option maxHeartbeats 1000000 in
theorem cmpLit_any (x y : Int) (w : World) :
    Calls Try.prog 44 #[.int .i64 x, .int .i64 y] w fun e w' => e = .returned (.int .i64 (cf x y)) ∧ Gr w w' := by
  have CV := mkHid (fun l W => varW_any l W)
  have CC := mkHid (fun a b W => Try.cmp_Compare_int a b W)
  have CO := mkHid (fun c1 c2 W t => or_new c1 c2 W t)
  unfold cf
  generalize hvx : varW x = vx
  generalize hvy : varW y = vy
  have HX := mkHid hvx
  have HY := mkHid hvy
  clear hvx hvy
  go_enter Try.func44, Try.ntmps44
  go_wp2_with (first
    | (go_at_call 62; refine (CV.out _ _).mono ?_; rintro e w2 ⟨rfl, rfl⟩)
    | (go_at_call 42; refine (CC.out _ _ _).mono ?_; rintro e w2 ⟨rfl, rfl⟩)
    | (go_at_call 41; refine (CO.out _ _ _ _).mono ?_; rintro e w2 ⟨rfl, rfl⟩))
  go_ret
  exact ⟨by rw [← HX.out, ← HY.out]; rfl, Gr.alloc _ _⟩
set_option maxRecDepth 100000 in
set_option maxHeartbeats 4000000 in
theorem compareF_any (v u : Value) (c d : List Int) (w : World) (hv : Ints w v c) (hu : Ints w u d) (hc : c.length ≤ 1000000) :
    Calls Try.prog 43 #[v, u, .func (.func 44) #[] #[]] w fun e w' => e = .returned (.int .i64 (cmpL c d)) ∧ Gr w w' := by
  have CM := mkHid (fun x y W => cmpLit_any x y W)
  obtain ⟨ao, cap, rfl, hcc⟩ := hv.uni
  obtain ⟨ao2, cap2, rfl, hdd⟩ := hu.uni
  have HC := mkHid hcc
  have HD := mkHid hdd
  clear hcc hdd hv hu
  generalize hres : cmpL c d = res
  have HRES := mkHid hres
  clear hres
  go_enter Try.func43, Try.ntmps43
  go_wp2
  go_loopw [13] (fun iv wr => ∃ k : Nat, k ≤ c.length ∧ k ≤ d.length ∧ iv = .int .i64 (k : Int) ∧ Hid (c.take k = d.take k ∧ Gr w wr)) (fun iv _ => c.length - (intOf iv).toNat)
  case atStart => exact ⟨0, Nat.zero_le _, Nat.zero_le _, rfl, mkHid ⟨by simp, Gr.refl _⟩⟩
  case round =>
    obtain ⟨k, hk, hk2, rfl, H⟩ := hrel
    by_cases hlt : k < c.length
    · obtain ⟨x, hx⟩ : ∃ x, c[k]? = some x := ⟨c[k], List.getElem?_eq_getElem hlt⟩
      obtain ⟨b, off, rfl, hcx⟩ := HC.out k x hx
      have g1 := cell_grows H.out.2.below hcx
      have hk1 : (k : Int) < (c.length : Int) := by omega
      have hk0 : (0 : Int) ≤ (k : Int) := by omega
      by_cases hld : k < d.length
      · obtain ⟨y, hy⟩ : ∃ y, d[k]? = some y := ⟨d[k], List.getElem?_eq_getElem hld⟩
        obtain ⟨b2, off2, rfl, hcy⟩ := HD.out k y hy
        have g2 := cell_grows H.out.2.below hcy
        have hk3 : (k : Int) < (d.length : Int) := by omega
        have hk4 : ¬ (d.length : Int) ≤ (k : Int) := by omega
        have C := mkHid (fun W => CM.out x y W)
        by_cases hxy : x = y
        · have HT : Hid (c.take (k + 1) = d.take (k + 1)) := mkHid (by rw [List.take_add_one, List.take_add_one, hx, hy, H.out.1, hxy])
          rw [cf_zero.2 hxy] at C
          clear hx hy hcx hcy hxy CM
          go_wp2_with (go_at_call 44; refine (C.out _).mono ?_; rintro e w2 ⟨rfl, hg⟩; have HG := mkHid (H.out.2.trans hg); clear hg)
          go_roundw
          case rel => exact ⟨k + 1, by omega, by omega, by go_num, mkHid ⟨HT.out, HG.out⟩⟩
          case measure => simp [intOf]; omega
        · have HF : Hid (res = cf x y) := mkHid (by rw [← HRES.out, cmpL_at H.out.1 hx hy hxy])
          have hz : ¬ cf x y = 0 := fun k => hxy (cf_zero.1 k)
          clear hx hy hcx hcy hxy CM
          generalize cf x y = z at *
          go_wp2_with (go_at_call 44; refine (C.out _).mono ?_; rintro e w2 ⟨rfl, hg⟩; have HG := mkHid (H.out.2.trans hg); clear hg)
          go_ret
          exact ⟨by rw [HF.out]; rfl, HG.out⟩
      · have hk4 : (d.length : Int) ≤ (k : Int) := by omega
        have HF : Hid (res = 1) := mkHid (by
          rw [← HRES.out]
          have e : k = d.length := by omega
          refine cmpL_more ?_ (by omega)
          have := H.out.1
          rwa [e, List.take_length] at this)
        clear hx hcx
        go_wp2
        go_ret
        exact ⟨by rw [HF.out]; rfl, H.out.2⟩
    · have hk1 : ¬ (k : Int) < (c.length : Int) := by omega
      have e : k = c.length := by omega
      by_cases hl : c.length < d.length
      · have hl2 : (c.length : Int) < (d.length : Int) := by omega
        have HF : Hid (res = -1) := mkHid (by
          rw [← HRES.out]
          refine cmpL_less ?_ hl
          have := H.out.1
          rw [e, List.take_length] at this
          exact this.symm)
        go_wp2
        go_ret
        exact ⟨by rw [HF.out]; rfl, H.out.2⟩
      · have hl2 : ¬ (c.length : Int) < (d.length : Int) := by omega
        have HF : Hid (res = 0) := mkHid (by
          have e2 : c = d := by
            have := H.out.1
            rwa [e, List.take_length, show c.length = d.length by omega, List.take_length] at this
          rw [← HRES.out, e2, cmpL_same])
        go_wp2
        go_ret
        exact ⟨by rw [HF.out]; rfl, H.out.2⟩
set_option maxRecDepth 100000 in
set_option maxHeartbeats 2000000 in
theorem normal1_any (v u : Value) (c d : List Int) (w : World) (hv : Ints w v c) (hu : Ints w u d) (hc : c.length ≤ 1000000) :
    Calls Try.prog 40 #[v, u] w fun e w' => e = .returned (.int .i64 (cmpN c d)) ∧ Gr w w' := by
  have CF := mkHid (compareF_any v u c d w hv hu hc)
  have CC := mkHid (fun a b W => Try.cmp_Compare_int a b W)
  have CO := mkHid (fun c1 c2 W t => or_new c1 c2 W t)
  obtain ⟨ao, cap, rfl⟩ := hv.form
  obtain ⟨ao2, cap2, rfl⟩ := hu.form
  unfold cmpN
  clear hv hu
  generalize cmpL c d = z at *
  go_enter Try.func40, Try.ntmps40
  go_wp2_with (first
    | (go_at_call 42; refine (CC.out _ _ _).mono ?_; rintro e w2 ⟨rfl, rfl⟩)
    | (go_at_call 43; refine CF.out.mono ?_; rintro e w3 ⟨rfl, hg⟩; have HG := mkHid hg; clear hg)
    | (go_at_call 41; refine (CO.out _ _ _ _).mono ?_; rintro e w2 ⟨rfl, rfl⟩))
  go_ret
  exact ⟨rfl, HG.out.trans (Gr.alloc _ _)⟩
end Go.Proofs.Ytalpbpcanebbbaa
