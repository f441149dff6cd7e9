/- The law TheoryGivens. -/
import Derived.Test.YtnjfomabmfoopaaTLc
namespace Go.Proofs.Ytnjfomabmfoopaa
open Go.RowKit VM LM TM

set_option maxRecDepth 100000 in
set_option maxHeartbeats 4000000 in
theorem givens_law (n : Int) (v : Value) (L : List (List Int)) (tv : Value) (t : List Int) (w : World) (_ : In64 n) (h : Th w v L) (ht : Ints w tv t) (hlt : t.length ≤ 9223372036854775807) (h64 : ∀ x ∈ t, In64 x) :
    Calls Try.prog 6 #[.agg #[.int .i64 n, v], tv] w fun e w' => e = .returned (.bool true) ∧ Below w.heap.size w w' := by
  have CL := mkHid (fun W (hb : Below w.heap.size w W) => light_any n v L W (h.next hb))
  have CK := mkHid (fun W (hb : Below w.heap.size w W) (hs : t.length ≤ 1000000) => given_calls n v tv L t W (h.next hb) (ht.next hb) hs h64)
  have CR := mkHid (fun W (hb : Below w.heap.size w W) (hs : t.length ≤ 1000000) => rgiven_any n v tv L t W (h.next hb) (ht.next hb) hs)
  have CW := mkHid (fun W => works_any W)
  have H0 : Hid (BT w (w.alloc (.cells #[.int .i64 n, v] 24)) n v) := mkHid ⟨TB.new w _ n v rfl, bal (Below.refl _ w) _⟩
  have HT := mkHid (fun W (hb : Below w.heap.size w W) => (h.next hb).cls)
  have HN : Hid ((∀ c ∈ L, c.length ≤ 140) → (if gvE n L t = 0 then gvL t L else []).length ≤ L.length ∧ ∀ c ∈ (if gvE n L t = 0 then gvL t L else []), c.length ≤ 140) := mkHid (by
    intro hl
    split
    · refine ⟨by rw [← gvP_all]; exact gvP_length t L _, fun c hc => ?_⟩
      unfold gvL at hc
      obtain ⟨d, hd, e⟩ := List.mem_map.1 hc
      rw [← e]
      exact Nat.le_trans (gvC_length t d) (hl d (List.mem_filter.1 hd).1)
    · exact ⟨by simp, fun c hc => by simp at hc⟩)
  obtain ⟨a0, a1⟩ := H0.out.t.at
  obtain ⟨ao, cap, rfl⟩ := h.cls.form
  obtain ⟨at', ct, rfl⟩ : ∃ at' ct, tv = .slice at' t.length ct := ht.form
  generalize (if gvE n L t = 0 then gvL t L else []) = M at *
  generalize (if gvE n L t = 0 then n else 0) = m at *
  generalize gvE n L t = q at *
  cases hl : lightB L
  · simp only [hl] at CL
    clear h ht h64
    go_enter Try.func6, Try.ntmps6
    go_wp2_with (first
      | (go_at_call 15; refine (CL.out _ H0.out.b).mono ?_; rintro e w1 ⟨rfl, hb⟩; have H1 := mkHid (H0.out.next hb); clear hb)
      | (go_at_call 16; refine (CW.out _).mono ?_; rintro e w2 ⟨rfl, hb⟩; have H2 := mkHid (H1.out.next hb); clear hb))
    go_ret
    exact ⟨rfl, H2.out.b⟩
  · by_cases hlong : (140 : Int) < (t.length : Int)
    · simp only [hl] at CL
      clear h ht h64
      go_enter Try.func6, Try.ntmps6
      go_wp2_with (first
        | (go_at_call 15; refine (CL.out _ H0.out.b).mono ?_; rintro e w1 ⟨rfl, hb⟩; have H1 := mkHid (H0.out.next hb); clear hb)
        | (go_at_call 16; refine (CW.out _).mono ?_; rintro e w2 ⟨rfl, hb⟩; have H2 := mkHid (H1.out.next hb); clear hb))
      go_ret
      exact ⟨rfl, H2.out.b⟩
    · simp only [hl] at CL
      have hle : t.length ≤ 140 := by omega
      have LB := mkHid (light_spec hl)
      have CC := mkHid (fun W (hb : Below w.heap.size w W) => copy_any n _ L W (h.next hb) LB.out.1 LB.out.2)
      have LM : Hid (M.length ≤ 1000000 ∧ (∀ c ∈ M, c.length ≤ 1000000) ∧ L.length ≤ 1000000 ∧ ∀ c ∈ L, c.length ≤ 1000000) := mkHid
        ⟨by have := (HN.out LB.out.2).1; have := LB.out.1; omega, fun c hc => by have := (HN.out LB.out.2).2 c hc; omega, by have := LB.out.1; omega, fun c hc => by have := LB.out.2 c hc; omega⟩
      have TS : Hid (t.length ≤ 1000000) := mkHid (by omega)
      clear h hl HN LB ht h64 hle
      go_enter Try.func6, Try.ntmps6
      go_wp2_with (first
        | (go_at_call 15; refine (CL.out _ H0.out.b).mono ?_; rintro e w1 ⟨rfl, hb⟩; have H1 := mkHid (H0.out.next hb); obtain ⟨b0, b1⟩ := H1.out.t.at; clear hb)
        | (go_at_call 19; (with_reducible refine (CC.out _ H1.out.b).mono ?_); rintro e w2 ⟨u2, rfl, h2⟩; obtain ⟨a2, c2, rfl⟩ := h2.out.1.form;
            have b2 : Below w2.heap.size w2 (w2.alloc (.cells #[.int .i64 n, .slice a2 L.length c2] 24)) := bal (Below.refl _ _) _;
            have H2 := mkHid ((H1.out.next h2.out.2).next b2); have T2 := mkHid (TB.new w2 w2.heap.size n (.slice a2 L.length c2) rfl); have K2 := mkHid (h2.out.1.cls.next b2); obtain ⟨d0, d1⟩ := H2.out.t.at; clear h2 b2)
        | (go_at_call 26; (with_reducible refine (CK.out _ H2.out.b TS.out).mono ?_); rintro e w3 ⟨u3, rfl, h3⟩; obtain ⟨a3, c3, rfl⟩ := h3.out.1.form;
            have b3 : Below w3.heap.size w3 (w3.alloc (.cells #[.int .i64 m, .slice a3 M.length c3] 24)) := bal (Below.refl _ _) _;
            have B3 := mkHid (bnx h3.out.2 b3); have T3 := mkHid (TB.new w3 w3.heap.size m (.slice a3 M.length c3) rfl); have K3 := mkHid (h3.out.1.below b3); have H3 := mkHid (H2.out.next B3.out); obtain ⟨f0, f1⟩ := H3.out.t.at; clear h3 b3)
        | (go_at_call 27; (with_reducible refine (CR.out _ H3.out.b TS.out).mono ?_); rintro e w5 ⟨u5, rfl, h5⟩; obtain ⟨a5, c5, rfl⟩ := h5.out.1.form;
            have b5 : Below w5.heap.size w5 (w5.alloc (.cells #[.int .i64 m, .slice a5 M.length c5] 24)) := bal (Below.refl _ _) _;
            have B5 := mkHid (bnx B3.out (bnx h5.out.2 b5)); have T5 := mkHid (TB.new w5 w5.heap.size m (.slice a5 M.length c5) rfl); have T35 := mkHid ((T3.out.grows h5.out.2).grows b5); have K5 := mkHid ((K3.out.below h5.out.2).below b5); have CE := mkHid (rsame_yes m _ _ M _ K5.out.cls (h5.out.1.cls.next b5) LM.out.1 LM.out.2.1); obtain ⟨g0, g1⟩ := T35.out.at; obtain ⟨i0, i1⟩ := T5.out.at; clear h5 b5)
        | (go_at_call 22; (with_reducible refine CE.out.mono ?_); rintro e w6 ⟨rfl, h6⟩; have B6 := mkHid (bnx B5.out h6); have T6 := mkHid (T35.out.grows h6); have CP := mkHid (spoil_any m _ M _ _ (K5.out.below h6) B6.out.size LM.out.1 LM.out.2.1); obtain ⟨j0, j1⟩ := T6.out.at; clear h6)
        | (go_at_call 23; (with_reducible refine CP.out.mono ?_); rintro e w7 ⟨rfl, h7⟩; have B7 := mkHid (B6.out.trans h7); have H7 := mkHid (H2.out.next B7.out); have T7 := mkHid (T2.out.grows B7.out); have CF := mkHid (rsame_yes n _ _ L _ (HT.out _ H7.out.b) (K2.out.next B7.out) LM.out.2.2.1 LM.out.2.2.2); obtain ⟨k0, k1⟩ := H7.out.t.at; obtain ⟨l0, l1⟩ := T7.out.at; clear h7)
        | (go_at_call 22; (with_reducible refine CF.out.mono ?_); rintro e w8 ⟨rfl, h8⟩; have H8 := mkHid (H7.out.next h8); clear h8)
        | (go_at_call 16; (with_reducible refine (CW.out _).mono ?_); rintro e w9 ⟨rfl, hb⟩; have H9 := mkHid (H8.out.next hb); clear hb))
      go_ret
      exact ⟨rfl, H9.out.b⟩
end Go.Proofs.Ytnjfomabmfoopaa
