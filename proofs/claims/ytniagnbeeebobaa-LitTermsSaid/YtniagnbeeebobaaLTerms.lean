/- LitTerms: Term and Clause answer what the specification of the chapter answers, in new memory. -/
import Derived.Test.YtniagnbeeebobaaLRes
namespace Go.Proofs.Ytniagnbeeebobaa
open Go.RowKit VM LM

/-- n cells that may be written. -/
def Room (w : World) (g n : Nat) : Prop := ∃ cur e, w.heap[g]? = some (.cells cur e (0, 0)) ∧ n ≤ cur.size
theorem Room.set {w : World} {g n : Nat} (h : Room w g n) (b o : Nat) (v : Value) : Room (w.setCell ⟨b, o, none⟩ v) g n := by
  obtain ⟨cur, e, hb, hn⟩ := h
  by_cases hp : b = g
  · subst hp
    exact ⟨cur.setIfInBounds o v, e, by simp [World.setCell, Array.getElem?_modify, hb], by simpa using hn⟩
  · exact ⟨cur, e, by rw [Below.heap_setCell _ _ _ _ (fun h => hp h.symm)]; exact hb, hn⟩
theorem Room.cell {w : World} {g n k : Nat} (h : Room w g n) (hk : k < n) : (∃ x, w.cell? ⟨g, k, none⟩ = some x) ∧ w.frozen? ⟨g, k, none⟩ = false := by
  obtain ⟨cur, e, hb, hn⟩ := h
  refine ⟨⟨cur[k]'(by omega), ?_⟩, by simp [World.frozen?, hb]⟩
  simp [World.cell?, hb, show k < cur.size by omega]
theorem Room.below {w w' : World} {g n : Nat} (h : Room w g n) (hb : Below w.heap.size w w') : Room w' g n := by
  obtain ⟨cur, e, hc, hn⟩ := h
  exact ⟨cur, e, (hb.block g (Array.getElem?_eq_some_iff.1 hc).1).trans hc, hn⟩
theorem Own.room {w : World} {base : Nat} {u : Value} {l : List Int} (h : Own w base u l) : ∃ ao cap, u = .slice ao l.length cap ∧ (0 < l.length → ∃ g, ao = some ⟨g, 0, none⟩ ∧ base ≤ g ∧ Room w g l.length) := by
  rcases h.2 with ⟨rfl, h0⟩ | ⟨g, cap, cur, rfl, hg, hc, h1, h2, h3, h4⟩
  · exact ⟨none, 0, by rw [h0], fun k => by omega⟩
  · exact ⟨_, cap, rfl, fun _ => ⟨g, rfl, hg, cur, _, hc, by omega⟩⟩
theorem tmL_len (l : List Int) (n : Int) : (tmL l n).length ≤ 256 := by
  unfold tmL; split
  · exact order_length l
  · simp
theorem clL_len (l : List Int) (n : Int) : (clL l n).length ≤ 256 := by
  unfold clL; split
  · exact order_length l
  · simp

set_option maxRecDepth 100000 in
set_option maxHeartbeats 8000000 in
theorem litTerms_any (v : Value) (l : List Int) (n : Int) (w : World) (hv : Ints w v l) (hll : l.length ≤ 9223372036854775807) (h64 : ∀ x ∈ l, In64 x) (_ : In64 n) :
    Calls Try.prog 4 #[v, .int .i64 n] w fun e w' => e = .returned (.bool true) ∧ Below w.heap.size w w' := by
  have CW := mkHid works_any
  have HV := mkHid hv
  obtain ⟨ao, cap, rfl⟩ := hv.form
  by_cases h1 : l.length ≤ 500
  · have g1 : ¬ (500 : Int) < (l.length : Int) := by omega
    have CP := mkHid (copied_any _ l w hv (by omega))
    have C1 := mkHid (fun W (h : Below w.heap.size w W) => term_any _ l n W (hv.next h) (by omega) h64)
    have R1 := mkHid (fun W (h : Below w.heap.size w W) => rterm_any _ l n W (hv.next h) (by omega))
    have C2 := mkHid (fun W (h : Below w.heap.size w W) => clause_any _ l n W (hv.next h) (by omega) h64)
    have R2 := mkHid (fun W (h : Below w.heap.size w W) => rclause_any _ l n W (hv.next h) (by omega))
    have S1 := mkHid (fun W x y (h : Ints W x (tmL l n)) (k : Ints W y (tmL l n)) => same_true x y _ W h k (by have := tmL_len l n; omega))
    have S2 := mkHid (fun W x y (h : Ints W x (clL l n)) (k : Ints W y (clL l n)) => same_true x y _ W h k (by have := clL_len l n; omega))
    have S3 := mkHid (fun W x y (h : Ints W x l) (k : Ints W y l) => same_true x y _ W h k (by omega))
    have HT := mkHid (tmL_len l n)
    have HK := mkHid (clL_len l n)
    clear hv h64 h1
    generalize tmB l n = ok at *
    generalize tmL l n = tl at *
    generalize clB l n = al at *
    generalize clE l n = er at *
    generalize clL l n = cl at *
    go_enter Try.func4, Try.ntmps4
    go_wp2_with (first
      | (go_at_call 17; refine CP.out.mono ?_; rintro e w1 ⟨u0, rfl, H⟩; have HO0 := mkHid H.out.1; have HLT : Hid (∀ (g c2 : Nat) (len : Nat), u0 = .slice (some ⟨g, 0, none⟩) len c2 → g < w1.heap.size) := mkHid (fun g c2 len e => by (rcases H.out.1.2 with ⟨h, _⟩ | ⟨g', cp, cur, h, _, hc, _⟩) <;> rw [h] at e <;> (first | (cases e; done) | (cases e; exact (Array.getElem?_eq_some_iff.1 hc).1))); have HB1 := mkHid H.out.2; clear H)
      | (go_at_call 18; refine (C1.out _ HB1.out).mono ?_; rintro e w2 ⟨u1, rfl, ho, hb⟩; have HO1 : Hid (Own w2 w1.heap.size u1 tl) := mkHid ho; have HB2 := mkHid (bnx HB1.out hb); have HZ2 := mkHid hb; clear ho hb)
      | (go_at_call 19; refine (R1.out _ HB2.out).mono ?_; rintro e w3 ⟨u2, rfl, H⟩; have HO2 := mkHid H.out.1; have HO1 := mkHid (HO1.out.below H.out.2); have HB3 := mkHid (bnx HB2.out H.out.2); have HZ3 := mkHid (bnx HZ2.out H.out.2); have HZ3k := mkHid (bnx HZ2.out H.out.2).size; clear H)
      | (go_at_call 20; refine (C2.out _ HB3.out).mono ?_; rintro e w4 ⟨u3, rfl, ho, hb⟩; have HO3 : Hid (Own w4 w3.heap.size u3 cl) := mkHid ho; have HO1 := mkHid (HO1.out.below hb); have HO2 := mkHid (HO2.out.below hb); have HB4 := mkHid (bnx HB3.out hb); have HZ4 := mkHid (bnx HZ3.out hb); clear ho hb)
      | (go_at_call 21; refine (R2.out _ HB4.out).mono ?_; rintro e w5 ⟨u4, rfl, H⟩; have HO4 := mkHid H.out.1; have HO1 := mkHid (HO1.out.below H.out.2); have HO2 := mkHid (HO2.out.below H.out.2); have HO3 := mkHid (HO3.out.below H.out.2); have HB5 := mkHid (bnx HB4.out H.out.2); have HZ5 := mkHid (bnx HZ4.out H.out.2); clear H)
      | (go_at_call 22; with_reducible refine (S1.out _ _ _ HO1.out.ints HO2.out.ints).mono ?_; rintro e w6 ⟨rfl, hb⟩; have HO1 := mkHid (HO1.out.below hb); have HO3 := mkHid (HO3.out.below hb); have HO4 := mkHid (HO4.out.below hb); have HB6 := mkHid (bnx HB5.out hb); have HZ6 := mkHid (bnx HZ5.out hb); clear hb)
      | (go_at_call 22; with_reducible refine (S2.out _ _ _ HO3.out.ints HO4.out.ints).mono ?_; rintro e w7 ⟨rfl, hb⟩; have HO1 := mkHid (HO1.out.below hb); have HO3 := mkHid (HO3.out.below hb); have HB7 := mkHid (bnx HB6.out hb); have HZ7 := mkHid (bnx HZ6.out hb); clear hb))
    have HW7 := mkHid (HO0.out.below HZ7.out)
    have HR1 := mkHid HO1.out.room
    have HR3 := mkHid HO3.out.room
    clear HO0 HO1 HO2 HO3 HO4 HZ2 HZ3 HZ4 HZ5 HZ6 HB2 HB3 HB4 HB5 HB6 CP C1 R1 C2 R2 S1 S2
    obtain ⟨at1, ct1, rfl, hr1⟩ := HR1.out
    obtain ⟨at3, ct3, rfl, hr3⟩ := HR3.out
    have HQ1 := mkHid hr1
    have HQ3 : Hid (0 < cl.length → ∃ g, at3 = some ⟨g, 0, none⟩ ∧ w1.heap.size ≤ g ∧ Room w7 g cl.length) := mkHid (fun h => by
      obtain ⟨g, h1, h2, h3⟩ := hr3 h
      exact ⟨g, h1, Nat.le_trans HZ3k.out h2, h3⟩)
    clear hr1 hr3 HR1 HR3
    go_loopw [16] (fun iv wr => ∃ k : Nat, k ≤ tl.length ∧ iv = .int .i64 (k : Int) ∧ Hid ((∀ g m, Room w7 g m → Room wr g m) ∧ Below w1.heap.size w7 wr)) (fun iv _ => tl.length - (intOf iv).toNat)
    case atStart => exact ⟨0, Nat.zero_le _, rfl, mkHid ⟨fun _ _ h => h, Below.refl _ _⟩⟩
    case round =>
      obtain ⟨k, hk, rfl, H⟩ := hrel
      have ht0 := HT.out
      by_cases hlt : k < tl.length
      · obtain ⟨g, rfl, hg, hroom⟩ := HQ1.out (by omega)
        have hk1 : (k : Int) < (tl.length : Int) := by omega
        obtain ⟨⟨x, hcx⟩, hfz⟩ := (H.out.1 g _ hroom).cell hlt
        have HG := mkHid hg
        clear hroom hg
        go_wp2
        go_roundw
        case rel => exact ⟨k + 1, by omega, by go_num, mkHid ⟨fun g' m h => (H.out.1 g' m h).set _ _ _, H.out.2.setCell (p := ⟨g, k, none⟩) HG.out _⟩⟩
        case measure => simp [intOf]; omega
      · have hk1 : ¬ (k : Int) < (tl.length : Int) := by omega
        have HH := mkHid H.out
        clear H
        go_wp2
        obtain ⟨wo, rfl⟩ : ∃ wo : World, wo = wr := ⟨_, rfl⟩
        go_loopw [17] (fun iv wr => ∃ k : Nat, k ≤ cl.length ∧ iv = .int .i64 (k : Int) ∧ Hid ((∀ g m, Room w7 g m → Room wr g m) ∧ Below w1.heap.size w7 wr)) (fun iv _ => cl.length - (intOf iv).toNat)
        case atStart => exact ⟨0, Nat.zero_le _, rfl, mkHid HH.out⟩
        case round =>
          obtain ⟨k2, hk2, rfl, H⟩ := hrel
          have hc0 := HK.out
          by_cases hlt2 : k2 < cl.length
          · obtain ⟨g, rfl, hg, hroom⟩ := HQ3.out (by omega)
            have hk1 : (k2 : Int) < (cl.length : Int) := by omega
            obtain ⟨⟨x, hcx⟩, hfz⟩ := (H.out.1 g _ hroom).cell hlt2
            have HG := mkHid hg
            clear hroom hg
            go_wp2
            go_roundw
            case rel => exact ⟨k2 + 1, by omega, by go_num, mkHid ⟨fun g' m h => (H.out.1 g' m h).set _ _ _, H.out.2.setCell (p := ⟨g, k2, none⟩) HG.out _⟩⟩
            case measure => simp [intOf]; omega
          · have hk1 : ¬ (k2 : Int) < (cl.length : Int) := by omega
            have HZ := mkHid H.out.2
            have HBF := mkHid (HB7.out.trans (HZ.out.mono HB1.out.size))
            have HWF : Hid (Own wr w.heap.size u0 l) := mkHid (by
              have h0 := HW7.out
              have hz := HZ.out
              refine ⟨h0.1, h0.2.imp id ?_⟩
              rintro ⟨g, cp, cur, hv, hg, hcur, r⟩
              exact ⟨g, cp, cur, hv, hg, (hz.block g (by have := HLT.out g _ _ hv; omega)).trans hcur, r⟩)
            clear H
            go_wp2_with (first
              | (go_at_call 22; with_reducible refine (S3.out _ _ _ (HV.out.next HBF.out) HWF.out.ints).mono ?_; rintro e w8 ⟨rfl, hb⟩; have HB8 := mkHid (bnx HBF.out hb); clear hb)
              | (go_at_call 16; refine (CW.out _).mono ?_; rintro e w9 ⟨rfl, hb⟩))
            go_ret
            exact ⟨rfl, bnx HB8.out hb⟩
  · have g1 : (500 : Int) < (l.length : Int) := by omega
    clear hv h64
    go_enter Try.func4, Try.ntmps4
    go_wp2_with (go_at_call 16; refine (CW.out _).mono ?_; rintro e w4 ⟨rfl, hb⟩)
    go_ret
    exact ⟨rfl, hb⟩
end Go.Proofs.Ytniagnbeeebobaa
