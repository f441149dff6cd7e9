/- Contract of Normal. -/
import Derived.Test.YtalpbpcanebbbaaTCc
namespace Go.Proofs.Ytalpbpcanebbbaa
open Go.RowKit VM LM TM

theorem TB.bel {w w' : World} {b B : Nat} {n : Int} {v : Value} (h : TB w b n v) (hb : Below B w w') (hlt : b < B) : TB w' b n v := (hb.block b hlt).trans h
set_option maxRecDepth 100000 in
set_option maxHeartbeats 2000000 in
theorem normal_any (n : Int) (v : Value) (L : List (List Int)) (w : World) (h : Th w v L) :
    Calls Try.prog 20 #[.agg #[.int .i64 n, v]] w fun e w' => ∃ u, e = .returned (.tuple #[.agg #[.int .i64 (if ckT n L = 0 then n else 0), u], .int .i64 (ckT n L)]) ∧
      Hid (OwnC w' w.heap.size u (if ckT n L = 0 then nmK L else []) ∧ Below w.heap.size w w') := by
  have CK := mkHid (fun W (hb : Below w.heap.size w W) => check_any n v L W (h.next hb))
  have HT := mkHid h
  have HB := mkHid (bal (bal (Below.refl _ w) (.cells #[.int .i64 n, v] 24)) (.cells #[.int .i64 0, .slice none 0 0] 24))
  have HA := mkHid ((TB.new w w.heap.size n v rfl).grows (bal (Below.refl _ _) (.cells #[.int .i64 0, .slice none 0 0] 24)))
  have HR := mkHid (TB.new (w.alloc (.cells #[.int .i64 n, v] 24)) (w.heap.size + 1) 0 (.slice none 0 0) (by simp))
  obtain ⟨ao, cap, rfl, hc⟩ := h.cls
  obtain ⟨a0, a1⟩ := HA.out.at
  clear h hc
  by_cases hk : ckT n L = 0
  · obtain ⟨hn, hL, hcs⟩ := ckT_zero.1 hk
    have HL := mkHid hL
    have CI := mkHid (fun W (hb : Below w.heap.size w W) => inOrderT_any n _ L W (HT.out.next hb) hk)
    have hinl : (inP L L.length).length ≤ 4096 := Nat.le_trans (inP_length L L.length) hL
    have hinc : ∀ c ∈ inP L L.length, c.length ≤ 256 := fun c hc => by
      obtain ⟨d, _, _, e⟩ := mem_inP.1 hc; rw [e]; exact order_length d
    have HIL := mkHid hinl
    have HIC := mkHid hinc
    rw [if_pos hk, if_pos hk, hk]
    rw [hk] at CK
    clear hk hcs hL hn hinl hinc
    go_enter Try.func20, Try.ntmps20
    go_wp2_with (first
      | (go_at_call 17; refine (CK.out _ HB.out).mono ?_; rintro e w1 ⟨rfl, hb⟩; have G1 := mkHid (HA.out.grows hb); have R1 := mkHid (HR.out.grows hb); have B1 := mkHid (bnx HB.out hb); obtain ⟨b0, b1⟩ := G1.out.at; clear hb)
      | (go_at_call 38; refine (CI.out _ B1.out).mono ?_; rintro e w2 ⟨u2, rfl, h2⟩; have G2 := mkHid (G1.out.grows h2.out.2); have R2 := mkHid (R1.out.grows h2.out.2); have B2 := mkHid (bnx B1.out h2.out.2); have C2 := mkHid h2.out.1; have Z1 := mkHid (And.intro G1.out.lt R1.out.lt); have S2 := mkHid (sort_clauses h2.out.1 h2.out.2.size (by have := HIL.out; omega) (fun c hc => by have := HIC.out c hc; omega)); have ZB := mkHid (And.intro B1.out.size h2.out.2.size); obtain ⟨a2, c2, rfl⟩ := h2.out.1.form; clear h2)
      | (go_at_call 39; refine S2.out.mono ?_; rintro e w3 ⟨rfl, S, h3⟩; have G3 := mkHid (G2.out.bel h3.out.2.2.2.2 Z1.out.1); have R3 := mkHid (R2.out.bel h3.out.2.2.2.2 Z1.out.2); have B3 := mkHid (B2.out.trans (h3.out.2.2.2.2.mono ZB.out.1)); have H3 := mkHid h3.out; clear h3))
    obtain ⟨⟨xs, hV, hR⟩, hP, hM, hSl, hB3⟩ := H3.out
    have HSL2 : Hid (S.length ≤ 4096) := mkHid (by rw [hSl]; exact HIL.out)
    have hSd : dd S S.length = nmK L := dd_nmK L S hP (fun x => by rw [hM, mem_inP])
    have CU := mkHid (unrep_any _ _ xs S w3.drew ((OwnV.vals hV).next (Below.refl _ _).drew) (hR.below (Below.refl _ _).drew) (by have := HSL2.out; omega) (fun d hd => by have := HIC.out d ((hM d).1 hd); omega))
    obtain ⟨g0, g1⟩ := G3.out.at
    obtain ⟨r0, r1⟩ := R3.out.at
    obtain ⟨rf0, rf1⟩ := R3.out.free
    have HV := mkHid hV
    have HRr := mkHid hR
    have HSD := mkHid hSd
    clear a0 a1 b0 b1 hV hR hP hM hSl hB3 hSd H3 S2 C2
    go_region_law (go_simp; go_at_call 45; refine CU.out.mono ?_; rintro e w4 ⟨u4, rfl, h4⟩; have G4 := mkHid (G3.out.drew.grows h4.out.2); have R4 := mkHid (R3.out.drew.grows h4.out.2); have B4 := mkHid (bnx B3.out.drew h4.out.2); have Q4 : Hid (OwnC w4 w.heap.size u4 (nmK L)) := mkHid (by
        obtain ⟨⟨ys, q1, q2⟩, q3⟩ := h4.out
        rw [HSD.out] at q2
        exact ⟨ys, q1.weaken B3.out.size, (q2.below q3).weaken ZB.out.1⟩); obtain ⟨a4, c4, rfl⟩ := Q4.out.form; obtain ⟨i0, i1⟩ := G4.out.at; obtain ⟨j0, j1⟩ := R4.out.at; obtain ⟨jf0, jf1⟩ := R4.out.free; clear h4)
    all_goals
      go_wp2
      refine bodyPost_ret (v := .tuple #[.agg #[.int .i64 n, .slice a4 (nmK L).length c4], .int .i64 0]) (by simp [results, Try.results20, go_sem, j0, j1]) rfl ?_
      have hr1 : TB (w4.setCell ⟨w.heap.size + 1, 0, none⟩ (.int .i64 n)) (w.heap.size + 1) n (.slice none 0 0) := by
        have := R4.out
        unfold TB at this ⊢
        simp [World.setCell, Array.getElem?_modify, this]
      exact ⟨_, rfl, mkHid ⟨(Q4.out.setT (o := 0) (u' := .int .i64 n) R4.out).setT (o := 1) (u' := .slice a4 (nmK L).length c4) hr1, bst2 B4.out _ (by omega) _ _⟩⟩
  · rw [if_neg hk, if_neg hk]
    generalize hq : ckT n L = q at *
    clear hq
    go_enter Try.func20, Try.ntmps20
    go_wp2_with (go_at_call 17; refine (CK.out _ HB.out).mono ?_; rintro e w1 ⟨rfl, hb⟩; have G1 := mkHid (HR.out.grows hb); have GB := mkHid (bnx HB.out hb); obtain ⟨r0, r1⟩ := G1.out.at; obtain ⟨rf0, rf1⟩ := G1.out.free; clear hb)
    refine bodyPost_ret (v := .tuple #[.agg #[.int .i64 0, .slice none 0 0], .int .i64 q]) (by simp [results, Try.results20, go_sem, r0, r1]) rfl ?_
    exact ⟨_, rfl, mkHid ⟨OwnC.nil _ _, bst2 GB.out _ (by omega) _ _⟩⟩
end Go.Proofs.Ytalpbpcanebbbaa
