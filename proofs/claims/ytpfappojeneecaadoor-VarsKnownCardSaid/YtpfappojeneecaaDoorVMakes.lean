/- VarsMakes: Of and All return the sets that the chapter specifies. -/
import Derived.Test.YtpfappojeneecaaDoorVWithR
namespace Go.Proofs.YtpfappojeneecaaDoor
open Go.RowKit VM

theorem same_nil (a1 a2 : Option Addr) (c1 c2 : Nat) (w : World) :
    Calls Tryd.prog 16 #[.slice a1 0 c1, .slice a2 0 c2] w fun e w' => e = .returned (.bool true) ∧ Below w.heap.size w w' := by
  go_enter Tryd.func16, Tryd.ntmps16
  go_wp2
  refine wp_loop_rounds 1 ?_
  rw [rounds_succ]
  go_wp2
  go_ret
  exact ⟨rfl, Below.refl _ _⟩

set_option maxRecDepth 100000 in
set_option maxHeartbeats 2000000 in
theorem same_some (l : List Int) (b1 o1 c1 b2 o2 c2 : Nat) (w : World) (hlen : l.length ≤ 9223372036854775807) (h1 : ∀ j (x : Int), l[j]? = some x → w.cell? ⟨b1, o1 + j, none⟩ = some (.int .i64 x)) (h2 : ∀ j (x : Int), l[j]? = some x → w.cell? ⟨b2, o2 + j, none⟩ = some (.int .i64 x)) :
    Calls Tryd.prog 16 #[.slice (some ⟨b1, o1, none⟩) l.length c1, .slice (some ⟨b2, o2, none⟩) l.length c2] w fun e w' => e = .returned (.bool true) ∧ Below w.heap.size w w' := by
  have H1 := mkHid h1
  have H2 := mkHid h2
  clear h1 h2
  go_enter Tryd.func16, Tryd.ntmps16
  go_wp2
  go_loopw [5] (fun iv wr => ∃ k : Nat, k ≤ l.length ∧ iv = .int .i64 (k : Int) ∧ Hid (Below w.heap.size w wr)) (fun iv _ => l.length - (intOf iv).toNat)
  case atStart => exact ⟨0, Nat.zero_le _, rfl, mkHid (Below.refl _ _)⟩
  case round =>
    obtain ⟨k, hk1, rfl, H⟩ := hrel
    by_cases hlt : k < l.length
    · obtain ⟨x, hx⟩ : ∃ x, l[k]? = some x := ⟨l[k], List.getElem?_eq_getElem hlt⟩
      have g1 := cell_grows H.out (H1.out k x hx)
      have g2 := cell_grows H.out (H2.out k x hx)
      have hk3 : (k : Int) < (l.length : Int) := by omega
      have hk0 : (0 : Int) ≤ (k : Int) := by omega
      clear hx
      go_wp2
      go_quiet (fail)
      go_wp2
      go_roundw
      case rel => exact ⟨k + 1, by omega, by go_num, mkHid (bdr H.out _)⟩
      case measure => simp [intOf]; omega
    · have hk3 : ¬ (k : Int) < (l.length : Int) := by omega
      go_wp2
      go_ret
      exact ⟨rfl, H.out⟩
theorem same_any {v v2 : Value} {l : List Int} {w : World} (h1 : Ints w v l) (h2 : Ints w v2 l) (hlen : l.length ≤ 9223372036854775807) :
    Calls Tryd.prog 16 #[v, v2] w fun e w' => e = .returned (.bool true) ∧ Below w.heap.size w w' := by
  rcases h1 with ⟨rfl, a1, c1, rfl⟩ | ⟨b1, o1, c1, rfl, h3⟩
  · obtain ⟨a2, c2, rfl⟩ := h2.form
    exact same_nil a1 a2 c1 c2 w
  · rcases h2 with ⟨rfl, a2, c2, rfl⟩ | ⟨b2, o2, c2, rfl, h4⟩
    · exact same_nil _ a2 c1 c2 w
    · exact same_some l b1 o1 c1 b2 o2 c2 w hlen h3 h4

set_option maxRecDepth 100000 in
set_option maxHeartbeats 4000000 in
theorem makes_any (v : Value) (l : List Int) (n : Int) (w : World) (ht : Tab w) (hv : Ints w v l) (hlen : l.length ≤ 9223372036854775807) (_ : ∀ x ∈ l, -9223372036854775808 ≤ x ∧ x ≤ 9223372036854775807) (hlo : -9223372036854775808 ≤ n) (hhi : n ≤ 9223372036854775807) :
    Calls Tryd.prog 3 #[v, .int .i64 n] w fun e w' => e = .returned (.bool true) ∧ Below w.heap.size w w' := by
  have CW := mkHid works_any
  have HT := mkHid ht
  obtain ⟨ao, cap, rfl⟩ := hv.form
  by_cases hl : l.length ≤ 1000
  · have hl3 : (l.length : Int) ≤ 1000 := by omega
    have HLEN := mkHid hl
    have HV := mkHid hv
    have HO0 := mkHid ((On.nil ht).alloc (.cells #[] 3))
    have HOWN : Hid (Own (w.alloc (.cells #[] 3)) w.heap.size (.slice (some ⟨w.heap.size, 0, none⟩) 0 0) []) := mkHid (World.ownsRow_made w #[] 0 (Nat.le_refl _) (by decide) rfl)
    have CO := mkHid (fun v W hV => of_any v l W hV hlen)
    have RO := mkHid (fun v W hT hV => rof_any v l W hT hV hlen)
    have CS := mkHid (fun v2 W (h1 : Ints W v2 l) (h2 : Ints W (.slice ao l.length cap) l) => same_any h1 h2 hlen)
    have CA := mkHid (fun W => all_any n W hlo hhi)
    have RA := mkHid (fun W hT => rall_any n W hT)
    have Eu := fun W => eq_words W (wd (lo (ofL l))) (wd (hi (ofL l))) (wd (lo (ofL l))) (wd (hi (ofL l)))
    have Ea := fun W => eq_words W (wd (lo (all n))) (wd (hi (all n))) (wd (lo (all n))) (wd (hi (all n)))
    simp only [beq_self_eq_true, Bool.and_self] at Eu Ea
    have HG := mkHid ht.lt
    clear ht hv hl hlen
    unfold sv at *
    generalize wd (lo (ofL l)) = u0 at *
    generalize wd (hi (ofL l)) = u1 at *
    generalize wd (lo (all n)) = a0 at *
    generalize wd (hi (all n)) = a1 at *
    generalize hml : l.length = m at *
    have HML := mkHid hml
    clear hml
    go_enter Tryd.func3, Tryd.ntmps3
    go_wp2_with (first
      | (at_builtin; refine wpList_app rfl (.tmp 11) (.tmp 12) rfl rfl rfl HOWN.out (HV.out.next HO0.out.below) (by have := HLEN.out; have := HML.out; simp; omega) (by simp) ?_; intro v5 w2 hown hgrow; have HN : Hid (Own w2 w.heap.size v5 l) := mkHid (by simpa using hown); have hO2 := HO0.out.grownAll (B := w.heap.size) hgrow (fun k hk => (World.ownsRow.lt HOWN.out k hk).1) (by simp) (Nat.le_refl _) (by simp) HG.out; clear hown hgrow)
      | (go_at_call 14; refine (CO.out _ _ HN.out.ints).mono ?_; rintro e w3 ⟨rfl, hw⟩; have HN3 := mkHid (HN.out.below hw); have hO3 := hO2.next hw; clear hw))
    have hs0 := (hO3.box u0 u1 26 w3.heap.size rfl).drew
    have hs1 : Own (w3.alloc (.cells #[.int .u64 u0, .int .u64 u1] 26)).drew w.heap.size v5 l := World.ownsRow.alloc HN3.out _
    obtain ⟨p1, p2, -, -⟩ := hs0.h1
    clear hO2 hO3
    generalize w3.heap.size = k3 at *
    go_region_held3 (fun W => (On w W [(k3, u0, u1)] ∧ Own W w.heap.size v5 l) ∧ W.cell? ⟨k3, 0, none⟩ = some (.int .u64 u0) ∧ W.cell? ⟨k3, 1, none⟩ = some (.int .u64 u1))
      (first
        | (with_reducible exact ⟨⟨hS.1.1.next hw, hS.1.2.below hw⟩, cell_grows hw hS.2.1, cell_grows hw hS.2.2⟩)
        | exact ⟨⟨hs0, hs1⟩, p1, p2⟩)
      (first
        | (go_at_call 15; have hS : (On w _ _ ∧ Own _ _ _ _) ∧ _ := (by assumption); ((with_reducible refine (RO.out _ _ hS.1.1.tab (HV.out.next hS.1.1.below)).mono ?_); rintro e w6 ⟨rfl, hw⟩))
        | (go_at_call 16; have hS : (On w _ _ ∧ Own _ _ _ _) ∧ _ := (by assumption); ((with_reducible refine (CS.out _ _ hS.1.2.ints (HV.out.next hS.1.1.below)).mono ?_); rintro e w6 ⟨rfl, hw⟩))
        | (go_at_call 17; have hS : (On w _ _ ∧ Own _ _ _ _) ∧ _ := (by assumption); ((with_reducible refine (CA.out _).mono ?_); rintro e w6 ⟨rfl, hw⟩))
        | (go_at_call 18; have hS : (On w _ _ ∧ Own _ _ _ _) ∧ _ := (by assumption); ((with_reducible refine (RA.out _ hS.1.1.tab).mono ?_); rintro e w6 ⟨rfl, hw⟩))
        | (go_at_call 13; have hS : (On w _ _ ∧ Own _ _ _ _) ∧ _ := (by assumption); ((with_reducible refine (works_any _ hS.1.1.tab).mono ?_); rintro e w6 ⟨rfl, hw⟩)))
    have hT' : (On w _ _ ∧ Own _ _ _ _) ∧ _ := (by assumption)
    have HB := mkHid hT'.1.1.below
    clear hT'
    go_wp2
    go_ret
    exact ⟨rfl, HB.out⟩
  · have hl3 : ¬ (l.length : Int) ≤ 1000 := by omega
    have hl4 : (1000 : Int) < (l.length : Int) := by omega
    clear hv hl hlen ht
    generalize l.length = m at *
    go_enter Tryd.func3, Tryd.ntmps3
    go_wp2_with (go_at_call 13; refine (CW.out _ HT.out).mono ?_; rintro e w1 ⟨rfl, hb⟩)
    go_ret
    exact ⟨rfl, hb⟩
end Go.Proofs.YtpfappojeneecaaDoor
