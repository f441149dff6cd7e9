/- Contracts of the specification: Before, sorted, put, Normal, Assignment, Term. -/
import Derived.Test.YtalpbpcanebbbaaTR
import Derived.Test.YtalpbpcanebbbaaTN
namespace Go.Proofs.Ytalpbpcanebbbaa
open Go.RowKit VM LM TM

/-- Lists of numbers of the call's own, in a list of the call's own. -/
def OwnC (w : World) (base : Nat) (v : Value) (L : List (List Int)) : Prop := ∃ xs, OwnV w base v xs ∧ RowsO w base xs L
theorem OwnC.cls {w : World} {base : Nat} {v : Value} {L : List (List Int)} (h : OwnC w base v L) : Cls w v L := by
  obtain ⟨xs, h1, h2⟩ := h; exact cls_of_vals h1.vals h2.rows
theorem OwnC.form {w : World} {base : Nat} {v : Value} {L : List (List Int)} (h : OwnC w base v L) : ∃ ao cap, v = .slice ao L.length cap := h.cls.form
theorem OwnC.below {w w' : World} {base : Nat} {v : Value} {L : List (List Int)} (h : OwnC w base v L) (hb : Below w.heap.size w w') : OwnC w' base v L := by
  obtain ⟨xs, h1, h2⟩ := h; exact ⟨xs, h1.below hb, h2.below hb⟩
theorem OwnC.setT {w : World} {base b o : Nat} {m : Int} {v u u' : Value} {L : List (List Int)} (h : OwnC w base v L) (k : TB w b m u) : OwnC (w.setCell ⟨b, o, none⟩ u') base v L := by
  obtain ⟨xs, h1, h2⟩ := h; exact ⟨xs, h1.set k, h2.setT k⟩
theorem OwnC.weaken {w : World} {base base' : Nat} {v : Value} {L : List (List Int)} (h : OwnC w base v L) (hb : base' ≤ base) : OwnC w base' v L := by
  obtain ⟨xs, h1, h2⟩ := h; exact ⟨xs, h1.weaken hb, h2.weaken hb⟩
theorem OwnC.nil (w : World) (base : Nat) : OwnC w base (.slice none 0 0) [] := ⟨[], OwnV.nil _ _, RowsO.nil _ _⟩
set_option maxRecDepth 100000 in
theorem rabsW_any (l : Int) (w : World) (h : -128 ≤ l ∧ l ≤ 128) :
    Calls Try.prog 71 #[.int .i64 l] w fun e w' => e = .returned (.int .i64 (varW l)) ∧ w' = w := by
  rw [varW_abs h]; exact rabs_any l w h
set_option maxRecDepth 100000 in
set_option maxHeartbeats 4000000 in
theorem rbefore_any (v u : Value) (c d : List Int) (w : World) (hv : Ints w v c) (hu : Ints w u d) (hc : c.length ≤ 1000000) (rc : ∀ x ∈ c, -128 ≤ x ∧ x ≤ 128) (rd : ∀ x ∈ d, -128 ≤ x ∧ x ≤ 128) :
    Calls Try.prog 80 #[v, u] w fun e w' => e = .returned (.bool (bef c d)) ∧ ∃ m, w' = w.drewN m := by
  obtain ⟨ao, cap, rfl, hcc⟩ := hv.uni
  obtain ⟨ao2, cap2, rfl, hdd⟩ := hu.uni
  have HC := mkHid hcc
  have HD := mkHid hdd
  have RC := mkHid rc
  have RD := mkHid rd
  clear hcc hdd hv hu rc rd
  by_cases hl : c.length = d.length
  · have HL := mkHid hl
    generalize hres : bef c d = res
    have HRES := mkHid hres
    rw [← hl]
    clear hres hl
    go_enter Try.func80, Try.ntmps80
    go_wp2
    go_loopw [5] (fun iv wr => ∃ k : Nat, k ≤ c.length ∧ iv = .int .i64 (k : Int) ∧ Hid (c.take k = d.take k ∧ ∃ m, wr = w.drewN m)) (fun iv _ => c.length - (intOf iv).toNat)
    case atStart => exact ⟨0, Nat.zero_le _, rfl, mkHid ⟨by simp, 0, rfl⟩⟩
    case round =>
      obtain ⟨k, hk, rfl, H⟩ := hrel
      by_cases hlt : k < c.length
      · obtain ⟨x, hx⟩ : ∃ x, c[k]? = some x := ⟨c[k], List.getElem?_eq_getElem hlt⟩
        obtain ⟨y, hy⟩ : ∃ y, d[k]? = some y := ⟨d[k]'(by have := HL.out; omega), List.getElem?_eq_getElem _⟩
        obtain ⟨b, off, rfl, hcx⟩ := HC.out k x hx
        obtain ⟨b2, off2, rfl, hcy⟩ := HD.out k y hy
        have hk1 : (k : Int) < (c.length : Int) := by omega
        have hk0 : (0 : Int) ≤ (k : Int) := by omega
        have g1 : wr.cell? ⟨b, off + k, none⟩ = some (.int .i64 x) := by obtain ⟨m, e⟩ := H.out.2; rw [e]; exact hcx
        have g2 : wr.cell? ⟨b2, off2 + k, none⟩ = some (.int .i64 y) := by obtain ⟨m, e⟩ := H.out.2; rw [e]; exact hcy
        clear hcx hcy
        by_cases hxy : x = y
        · have HT : Hid (c.take (k + 1) = d.take (k + 1)) := mkHid (by rw [List.take_add_one, List.take_add_one, hx, hy, H.out.1, hxy])
          clear hx hy
          go_wp2
          go_quiet (fail)
          go_wp2
          go_roundw
          case rel => exact ⟨k + 1, by omega, by go_num, mkHid ⟨HT.out, by obtain ⟨m, e⟩ := H.out.2; exact ⟨m + nq, by rw [e, World.drewN_drewN]⟩⟩⟩
          case measure => simp [intOf]; omega
        · have rx := RC.out x (List.mem_of_getElem? hx)
          have ry := RD.out y (List.mem_of_getElem? hy)
          have HF : Hid (res = decide (varW x < varW y ∨ (varW x = varW y ∧ x < 0))) := mkHid (by
            rw [← HRES.out, bef_at HL.out H.out.1 hx hy hxy]
            rw [decide_eq_decide]
            constructor
            · rintro (h | ⟨h, g⟩)
              · exact .inl h
              · exact .inr ⟨h, (varW_neg rx ry hxy h).2 g⟩
            · rintro (h | ⟨h, g⟩)
              · exact .inl h
              · exact .inr ⟨h, (varW_neg rx ry hxy h).1 g⟩)
          have CX := mkHid (fun W => rabsW_any x W rx)
          have CY := mkHid (fun W => rabsW_any y W ry)
          clear hx hy rx ry
          generalize varW x = vx at *
          generalize varW y = vy at *
          by_cases h1 : vx < vy
          · go_wp2
            go_quiet (fail)
            generalize hW2 : wr.drewN nq = W2 at *
            have f1 : W2.cell? ⟨b, off + k, none⟩ = some (.int .i64 x) := by rw [← hW2]; exact g1
            have f2 : W2.cell? ⟨b2, off2 + k, none⟩ = some (.int .i64 y) := by rw [← hW2]; exact g2
            have H2 : Hid (∃ m, W2 = w.drewN m) := mkHid (by obtain ⟨m, e⟩ := H.out.2; exact ⟨m + nq, by rw [← hW2, e, World.drewN_drewN]⟩)
            clear hW2 g1 g2
            go_wp2
            go_quiet ((first | (go_at_call 71; with_reducible exact Calls.quiet_of_same (CX.out _)) | (go_at_call 71; with_reducible exact Calls.quiet_of_same (CY.out _))))
            go_wp2
            go_ret
            exact ⟨by rw [HF.out]; simp [h1], by obtain ⟨m, e⟩ := H2.out; exact ⟨_, by rw [e, World.drewN_drewN]⟩⟩
          · by_cases h2 : vx = vy
            · by_cases h3 : x < 0
              · go_wp2
                go_quiet (fail)
                generalize hW2 : wr.drewN nq = W2 at *
                have f1 : W2.cell? ⟨b, off + k, none⟩ = some (.int .i64 x) := by rw [← hW2]; exact g1
                have f2 : W2.cell? ⟨b2, off2 + k, none⟩ = some (.int .i64 y) := by rw [← hW2]; exact g2
                have H2 : Hid (∃ m, W2 = w.drewN m) := mkHid (by obtain ⟨m, e⟩ := H.out.2; exact ⟨m + nq, by rw [← hW2, e, World.drewN_drewN]⟩)
                clear hW2 g1 g2
                go_wp2
                go_quiet ((first | (go_at_call 71; with_reducible exact Calls.quiet_of_same (CX.out _)) | (go_at_call 71; with_reducible exact Calls.quiet_of_same (CY.out _))))
                go_wp2
                go_ret
                exact ⟨by rw [HF.out]; simp [h2, h3], by obtain ⟨m, e⟩ := H2.out; exact ⟨_, by rw [e, World.drewN_drewN]⟩⟩
              · go_wp2
                go_quiet (fail)
                generalize hW2 : wr.drewN nq = W2 at *
                have f1 : W2.cell? ⟨b, off + k, none⟩ = some (.int .i64 x) := by rw [← hW2]; exact g1
                have f2 : W2.cell? ⟨b2, off2 + k, none⟩ = some (.int .i64 y) := by rw [← hW2]; exact g2
                have H2 : Hid (∃ m, W2 = w.drewN m) := mkHid (by obtain ⟨m, e⟩ := H.out.2; exact ⟨m + nq, by rw [← hW2, e, World.drewN_drewN]⟩)
                clear hW2 g1 g2
                go_wp2
                go_quiet ((first | (go_at_call 71; with_reducible exact Calls.quiet_of_same (CX.out _)) | (go_at_call 71; with_reducible exact Calls.quiet_of_same (CY.out _))))
                go_wp2
                go_ret
                exact ⟨by rw [HF.out]; simp [h2], by obtain ⟨m, e⟩ := H2.out; exact ⟨_, by rw [e, World.drewN_drewN]⟩⟩
            · go_wp2
              go_quiet (fail)
              generalize hW2 : wr.drewN nq = W2 at *
              have f1 : W2.cell? ⟨b, off + k, none⟩ = some (.int .i64 x) := by rw [← hW2]; exact g1
              have f2 : W2.cell? ⟨b2, off2 + k, none⟩ = some (.int .i64 y) := by rw [← hW2]; exact g2
              have H2 : Hid (∃ m, W2 = w.drewN m) := mkHid (by obtain ⟨m, e⟩ := H.out.2; exact ⟨m + nq, by rw [← hW2, e, World.drewN_drewN]⟩)
              clear hW2 g1 g2
              go_wp2
              go_quiet ((first | (go_at_call 71; with_reducible exact Calls.quiet_of_same (CX.out _)) | (go_at_call 71; with_reducible exact Calls.quiet_of_same (CY.out _))))
              go_wp2
              go_ret
              exact ⟨by rw [HF.out]; simp [h2], by obtain ⟨m, e⟩ := H2.out; exact ⟨_, by rw [e, World.drewN_drewN]⟩⟩
      · have hk1 : ¬ (k : Int) < (c.length : Int) := by omega
        have HF : Hid (res = false) := mkHid (by
          have e : c = d := by
            have := H.out.1
            rwa [show k = c.length by omega, List.take_length, HL.out, List.take_length] at this
          rw [← HRES.out, e, bef_irrefl])
        go_wp2
        go_ret
        exact ⟨by rw [HF.out]; rfl, H.out.2⟩
  · rw [bef_len hl]
    have hn2 : ¬ (c.length : Int) = (d.length : Int) := by omega
    by_cases h3 : c.length < d.length
    · have h4 : (c.length : Int) < (d.length : Int) := by omega
      rw [decide_eq_true h3]
      go_enter Try.func80, Try.ntmps80
      go_wp2
      go_ret
      exact ⟨rfl, 0, rfl⟩
    · have h4 : ¬ (c.length : Int) < (d.length : Int) := by omega
      rw [decide_eq_false h3]
      go_enter Try.func80, Try.ntmps80
      go_wp2
      go_ret
      exact ⟨rfl, 0, rfl⟩
end Go.Proofs.Ytalpbpcanebbbaa
