/- Contract of the specification's Vars. -/
import Derived.Test.YtalpbpcanebbbaaUH
namespace Go.Proofs.Ytalpbpcanebbbaa
open Go.RowKit VM LM TM

theorem with_low {S : BitVec 128} {p : Nat} (hp : p < 64) (h : has S ((p : Int) + 1) = false) : IntKind.u64.wrap (wd (lo S) + 2 ^ p) = wd (lo (withV S ((p : Int) + 1))) ∧ wd (hi S) = wd (hi (withV S ((p : Int) + 1))) := by
  rw [has_low S _ (by omega)] at h
  have h2 : lo S &&& lo (bit ((p : Int) + 1)) = 0#64 := by simpa using h
  have e1 := lo_low ((p : Int) + 1) (by omega) (by omega)
  rw [show ((p : Int) + 1 - 1).toNat = p by omega] at e1
  refine ⟨?_, ?_⟩
  · rw [lo_with, ← BitVec.add_eq_or_of_and_eq_zero _ _ h2, ← add_wd, e1]
  · rw [hi_with, hi_low _ (by omega)]; simp
theorem with_high {S : BitVec 128} {p : Nat} (hp : p < 64) (h : has S ((p : Int) + 65) = false) : IntKind.u64.wrap (wd (hi S) + 2 ^ p) = wd (hi (withV S ((p : Int) + 65))) ∧ wd (lo S) = wd (lo (withV S ((p : Int) + 65))) := by
  rw [has_high S _ (by omega)] at h
  have h2 : hi S &&& hi (bit ((p : Int) + 65)) = 0#64 := by simpa using h
  have e1 := hi_high ((p : Int) + 65) (by omega) (by omega)
  rw [show ((p : Int) + 65 - 65).toNat = p by omega] at e1
  refine ⟨?_, ?_⟩
  · rw [hi_with, ← BitVec.add_eq_or_of_and_eq_zero _ _ h2, ← add_wd, e1]
  · rw [lo_with, lo_high _ (by omega)]; simp
theorem with_has {S : BitVec 128} {v : Int} (hv : 1 ≤ v ∧ v ≤ 128) (h : has S v = true) : withV S v = S := by
  refine BitVec.eq_of_getLsbD_eq fun i hi' => ?_
  have e := has_with S v ((i : Int) + 1)
  rw [has_bit _ _ (by omega), has_bit _ _ (by omega), show ((i : Int) + 1 - 1).toNat = i by omega] at e
  rw [e]
  by_cases hvi : (i : Int) + 1 = v
  · rw [has_bit _ _ hv, ← hvi, show ((i : Int) + 1 - 1).toNat = i by omega] at h
    rw [h]; simp
  · simp [hvi]
theorem vr_step {S : BitVec 128} {c : List Int} {j : Nat} {x : Int} (hx : c[j]? = some x) : S ||| vrC (c.take (j + 1)) = withV (S ||| vrC (c.take j)) (varL x) := by
  rw [vrC_step hx]
  unfold withV
  rw [BitVec.or_assoc]
theorem pow_wrap {p : Nat} (hp : p < 64) : IntKind.u64.wrap (2 ^ p) = 2 ^ p := by
  have h : (2 : Nat) ^ p < 2 ^ 64 := Nat.pow_lt_pow_right (by omega) hp
  rw [show (2 : Nat) ^ 64 = 18446744073709551616 from rfl] at h
  have e0 : ((2 : Int) ^ p) = ((2 ^ p : Nat) : Int) := by simp
  rw [e0, IntKind.wrap_u64]
  generalize (2 : Nat) ^ p = y at *
  omega
theorem vr_zero (S : BitVec 128) (c : List Int) : S ||| vrC (c.take 0) = S := by
  have : vrC (c.take 0) = 0#128 := by rw [List.take_zero]; rfl
  rw [this]; simp
theorem cells_of {w : World} {b : Nat} {v : Value} (h : w.cell? ⟨b, 0, none⟩ = some v) : ∃ c e fr, w.heap[b]? = some (.cells c e fr) := by
  unfold World.cell? at h
  split at h
  · rename_i c e fr hb; exact ⟨c, e, fr, hb⟩
  · simp at h
theorem AtS.set0 {w : World} {b : Nat} {x y : Int} (H : AtS w b x y) (x' : Int) : AtS (w.setCell ⟨b, 0, none⟩ (.int .u64 x')) b x' y := by
  obtain ⟨h0, h1, f0, f1⟩ := H
  obtain ⟨c, e, fr, hb⟩ := cells_of h0
  have hb' : (w.setCell ⟨b, 0, none⟩ (.int .u64 x')).heap[b]? = some (.cells (c.setIfInBounds 0 (.int .u64 x')) e fr) := by
    simp [World.setCell, Array.getElem?_modify, hb]
  simp only [World.cell?, hb] at h0 h1
  simp only [World.frozen?, hb] at f0 f1
  have g0 : c[0]? = some (.int .u64 x) := by simpa using h0
  have g1 : c[1]? = some (.int .u64 y) := by simpa using h1
  have l0 := (Array.getElem?_eq_some_iff.1 g0).1
  refine ⟨?_, ?_, ?_, ?_⟩
  · simp only [World.cell?, hb', Array.getElem?_setIfInBounds]; simp [l0]
  · simp only [World.cell?, hb', Array.getElem?_setIfInBounds]; simpa using g1
  · simp only [World.frozen?, hb']; exact f0
  · simp only [World.frozen?, hb']; exact f1
theorem AtS.set1 {w : World} {b : Nat} {x y : Int} (H : AtS w b x y) (y' : Int) : AtS (w.setCell ⟨b, 1, none⟩ (.int .u64 y')) b x y' := by
  obtain ⟨h0, h1, f0, f1⟩ := H
  obtain ⟨c, e, fr, hb⟩ := cells_of h0
  have hb' : (w.setCell ⟨b, 1, none⟩ (.int .u64 y')).heap[b]? = some (.cells (c.setIfInBounds 1 (.int .u64 y')) e fr) := by
    simp [World.setCell, Array.getElem?_modify, hb]
  simp only [World.cell?, hb] at h0 h1
  simp only [World.frozen?, hb] at f0 f1
  have g0 : c[0]? = some (.int .u64 x) := by simpa using h0
  have g1 : c[1]? = some (.int .u64 y) := by simpa using h1
  have l1 := (Array.getElem?_eq_some_iff.1 g1).1
  refine ⟨?_, ?_, ?_, ?_⟩
  · simp only [World.cell?, hb', Array.getElem?_setIfInBounds]; simpa using g0
  · simp only [World.cell?, hb', Array.getElem?_setIfInBounds]; simp [l1]
  · simp only [World.frozen?, hb']; exact f0
  · simp only [World.frozen?, hb']; exact f1
theorem AtS.off1 {w : World} {b b' o : Nat} {x y : Int} (H : AtS w b x y) (hne : b ≠ b') (u : Value) : AtS (w.setCell ⟨b', o, none⟩ u) b x y := H.same (Below.heap_setCell _ _ _ _ hne)
/-- The variables found so far. -/
structure VS (w W : World) (n : Int) (v : Value) (S : BitVec 128) : Prop where
  t : TB W w.heap.size n v
  r : AtS W (w.heap.size + 1) 0 0
  o : AtS W (w.heap.size + 1 + 1) (wd (lo S)) (wd (hi S))
  b : Below w.heap.size w W
theorem VS.next {w W W' : World} {n : Int} {v : Value} {S : BitVec 128} (H : VS w W n v S) (hb : Below W.heap.size W W') : VS w W' n v S := ⟨H.t.grows hb, H.r.grows hb, H.o.grows hb, bnx H.b hb⟩
set_option maxRecDepth 100000 in
set_option maxHeartbeats 4000000 in
theorem rvars_any (n : Int) (v : Value) (L : List (List Int)) (w : World) (h : Th w v L) :
    Calls Try.prog 31 #[.agg #[.int .i64 n, v]] w fun e w' => e = .returned (sv (vrT n L)) ∧ Below w.heap.size w w' := by
  have CK := mkHid (fun W (hb : Below w.heap.size w W) => rcheck_any n v L W (h.next hb))
  have H0 : Hid (VS w (((w.alloc (.cells #[.int .i64 n, v] 24)).alloc (.cells #[.int .u64 0, .int .u64 0] 36)).alloc (.cells #[.int .u64 0, .int .u64 0] 36)) n v 0#128) := mkHid
    ⟨((TB.new w w.heap.size n v rfl).grows (bal (Below.refl _ _) _)).grows (bal (Below.refl _ _) _), (AtS.new _ _ _ _ _ (by simp)).alloc _, AtS.new _ _ _ _ _ (by simp), bal (bal (bal (Below.refl _ w) _) _) _⟩
  obtain ⟨ao, cap, rfl, hc⟩ := h.cls
  have HC := mkHid hc
  obtain ⟨a0, a1⟩ := H0.out.t.at
  have hlen := h.len
  clear h hc
  unfold vrT
  by_cases hk : ckT n L = 0
  · rw [if_pos hk]
    rw [hk] at CK
    have HK := mkHid (ckT_zero.1 hk)
    clear hk
    go_enter Try.func31, Try.ntmps31
    go_wp2_with (go_at_call 18; refine (CK.out _ H0.out.b).mono ?_; rintro e w1 ⟨rfl, hb⟩; have H1 := mkHid (H0.out.next hb); clear hb)
    clear a0 a1 H0 CK
    go_loopw [4] (fun iv wr => ∃ i : Nat, i ≤ L.length ∧ iv = .int .i64 (i : Int) ∧ Hid (VS w wr n (.slice ao L.length cap) (vrL (L.take i)))) (fun iv _ => L.length - (intOf iv).toNat)
    case atStart => exact ⟨0, Nat.zero_le _, rfl, H1⟩
    case round =>
      obtain ⟨i, hi, rfl, H⟩ := hrel
      clear H1
      by_cases hlt : i < L.length
      · obtain ⟨c, hc⟩ : ∃ c, L[i]? = some c := ⟨L[i], List.getElem?_eq_getElem hlt⟩
        obtain ⟨b, off, x, rfl, hx, hin⟩ := HC.out i c hc
        have hk1 : (i : Int) < (L.length : Int) := by omega
        have hk0 : (0 : Int) ≤ (i : Int) := by omega
        have HCK := mkHid (HK.out.2.2 c (List.mem_of_getElem? hc))
        have hcl := HCK.out.1
        have hn := HK.out.1
        have HE := mkHid (vrL_step hc)
        have HX := mkHid (fun (W : World) (hb : Below w.heap.size w W) => cell_grows hb hx)
        obtain ⟨ac, cc, rfl, hcc⟩ := hin.uni
        have HCC := mkHid hcc
        obtain ⟨a0, a1⟩ := H.out.t.at
        generalize hS : vrL (L.take i) = S at *
        clear hc hx hin hcc hS
        go_wp2
        go_loopw [5] (fun jv wr => ∃ j : Nat, j ≤ c.length ∧ jv = .int .i64 (j : Int) ∧ Hid (VS w wr n (.slice (some ⟨b, off, none⟩) L.length cap) (S ||| vrC (c.take j)))) (fun jv _ => c.length - (intOf jv).toNat)
        case atStart => exact ⟨0, Nat.zero_le _, rfl, mkHid (by rw [vr_zero]; exact H.out)⟩
        case round =>
          obtain ⟨j, hj, rfl, H2⟩ := hrel
          clear H a0 a1
          obtain ⟨a0, a1⟩ := H2.out.t.at
          have p1 := HX.out _ H2.out.b
          by_cases hjt : j < c.length
          · obtain ⟨y, hy⟩ : ∃ y, c[j]? = some y := ⟨c[j], List.getElem?_eq_getElem hjt⟩
            obtain ⟨b2, off2, rfl, hcy⟩ := HCC.out j y hy
            have p2 := cell_grows H2.out.b hcy
            have hj1 : (j : Int) < (c.length : Int) := by omega
            have hj0 : (0 : Int) ≤ (j : Int) := by omega
            have hyv := (validL_iff (by omega)).1 (of_valid HCK.out.2 y (List.mem_of_getElem? hy))
            have HS := mkHid (vr_step (S := S) hy)
            have hvy : varL y = varW y := by rw [varW_eq (by unfold In64; omega)]
            rw [hvy] at HS
            have hv1 : 1 ≤ varW y ∧ varW y ≤ 128 := by rw [← hvy]; have := valid_all HCK.out.2 y (List.mem_of_getElem? hy); have h2 := of_valid HCK.out.2 y (List.mem_of_getElem? hy); unfold validL at h2; simp at h2; omega
            have CA := mkHid (fun W => rabsW_any y W (by omega))
            generalize varW y = vy at *
            have CH := mkHid (fun W => rhasv_any (S ||| vrC (c.take j)) vy W)
            generalize hT : S ||| vrC (c.take j) = T at *
            clear hT hy hcy hvy hyv
            obtain ⟨o0, o1, of0, of1⟩ := H2.out.o
            have HV := mkHid hv1
            cases hh : has T vy
            · have HO := mkHid H2.out.o
              clear o0 o1 of0 of1
              by_cases hlow : vy ≤ 64
              · obtain ⟨p, hp, rfl⟩ : ∃ p : Nat, p < 64 ∧ vy = (p : Int) + 1 := ⟨(vy - 1).toNat, by have := HV.out; omega, by have := HV.out; omega⟩
                have W := with_low hp hh
                have e2 := pow_wrap hp
                have hq1 : ((p : Int)).tdiv 64 = 0 := by rw [Int.tdiv_eq_ediv_of_nonneg (by omega)]; omega
                have hq2 : ((p : Int)).tmod 64 = (p : Int) := by rw [Int.tmod_eq_emod_of_nonneg (by omega)]; omega
                simp only [hh] at CH
                unfold sv at CH
                generalize hl2 : wd (lo (withV T ((p : Int) + 1))) = tl2 at *
                generalize hh2 : wd (VM.hi (withV T ((p : Int) + 1))) = th2 at *
                generalize wd (lo T) = tl at *
                generalize wd (VM.hi T) = th at *
                have HL2 := mkHid (And.intro hl2 hh2)
                obtain ⟨o0, o1, -, -⟩ := HO.out
                obtain ⟨e3, e4⟩ := W
                have E4 := mkHid e4
                clear hh hl2 hh2 e4
                go_wp2_with (first
                  | (go_at_call 71; refine (CA.out _).mono ?_; rintro e w2 ⟨rfl, rfl⟩)
                  | (go_at_call 72; refine (CH.out _).mono ?_; rintro e w3 ⟨rfl, h3⟩; have B3 := mkHid (bnx H2.out.b h3); have T3 := mkHid (H2.out.t.grows h3); have R3 := mkHid (H2.out.r.grows h3); have O3 := mkHid (HO.out.grows h3); obtain ⟨g0, g1, gf0, gf1⟩ := O3.out; clear h3))
                go_roundw
                case rel => exact ⟨j + 1, by omega, by go_num, mkHid (by rw [HS.out]; exact ⟨T3.out.off (by omega) _, R3.out.off1 (by omega) _, by rw [HL2.out.1, HL2.out.2, ← E4.out]; exact O3.out.set0 _, bst B3.out (by show w.heap.size ≤ w.heap.size + 1 + 1; omega) _⟩)⟩
                case measure => simp [intOf]; omega
              · obtain ⟨p, hp, rfl⟩ : ∃ p : Nat, p < 64 ∧ vy = (p : Int) + 65 := ⟨(vy - 65).toNat, by have := HV.out; omega, by have := HV.out; omega⟩
                have W := with_high hp hh
                have e2 := pow_wrap hp
                have hq3 : ((p : Int) + 65 - 1) / 64 = 1 := by omega
                have hq4 : ((p : Int) + 65 - 1) % 64 = (p : Int) := by omega
                have hq1 : ((p : Int) + 64).tdiv 64 = 1 := by rw [Int.tdiv_eq_ediv_of_nonneg (by omega)]; omega
                have hq2 : ((p : Int) + 64).tmod 64 = (p : Int) := by rw [Int.tmod_eq_emod_of_nonneg (by omega)]; omega
                simp only [hh] at CH
                unfold sv at CH
                generalize hl2 : wd (lo (withV T ((p : Int) + 65))) = tl2 at *
                generalize hh2 : wd (VM.hi (withV T ((p : Int) + 65))) = th2 at *
                generalize wd (lo T) = tl at *
                generalize wd (VM.hi T) = th at *
                have HL2 := mkHid (And.intro hl2 hh2)
                obtain ⟨o0, o1, -, -⟩ := HO.out
                obtain ⟨e3, e4⟩ := W
                have E4 := mkHid e4
                clear hh hl2 hh2 e4
                go_wp2_with (first
                  | (go_at_call 71; refine (CA.out _).mono ?_; rintro e w2 ⟨rfl, rfl⟩)
                  | (go_at_call 72; refine (CH.out _).mono ?_; rintro e w3 ⟨rfl, h3⟩; have B3 := mkHid (bnx H2.out.b h3); have T3 := mkHid (H2.out.t.grows h3); have R3 := mkHid (H2.out.r.grows h3); have O3 := mkHid (HO.out.grows h3); obtain ⟨g0, g1, gf0, gf1⟩ := O3.out; clear h3))
                go_roundw
                case rel => exact ⟨j + 1, by omega, by go_num, mkHid (by rw [HS.out]; exact ⟨T3.out.off (by omega) _, R3.out.off1 (by omega) _, by rw [HL2.out.1, HL2.out.2, ← E4.out]; exact O3.out.set1 _, bst B3.out (by show w.heap.size ≤ w.heap.size + 1 + 1; omega) _⟩)⟩
                case measure => simp [intOf]; omega
            · have HT := mkHid (with_has HV.out hh)
              simp only [hh] at CH
              unfold sv at CH
              generalize wd (lo T) = tl at *
              generalize wd (VM.hi T) = th at *
              clear hh
              go_wp2_with (first
                | (go_at_call 71; refine (CA.out _).mono ?_; rintro e w2 ⟨rfl, rfl⟩)
                | (go_at_call 72; refine (CH.out _).mono ?_; rintro e w3 ⟨rfl, h3⟩))
              go_roundw
              case rel => exact ⟨j + 1, by omega, by go_num, mkHid (by rw [HS.out, HT.out]; exact H2.out.next h3)⟩
              case measure => simp [intOf]; omega
          · have hj1 : ¬ (j : Int) < (c.length : Int) := by omega
            have HEQ : Hid (S ||| vrC (c.take j) = S ||| vrC c) := mkHid (by rw [List.take_of_length_le (by omega)])
            go_wp2
            go_roundw
            case rel => exact ⟨i + 1, by omega, by go_num, mkHid (by rw [HE.out, ← HEQ.out]; exact H2.out)⟩
            case measure => simp [intOf]; omega
      · have hk1 : ¬ (i : Int) < (L.length : Int) := by omega
        have HEQ : Hid (vrL (L.take i) = vrL L) := mkHid (by rw [List.take_of_length_le (by omega)])
        obtain ⟨a0, a1⟩ := H.out.t.at
        have H3 := H.out
        rw [HEQ.out] at H3
        have HF := mkHid H3
        obtain ⟨o0, o1, -, -⟩ := H3.o
        obtain ⟨r0, r1, rf0, rf1⟩ := H3.r
        have HBF := mkHid H3.b
        clear H H3 HF HEQ
        generalize hl1 : wd (lo (vrL L)) = l1 at *
        generalize hh1 : wd (VM.hi (vrL L)) = h1 at *
        have ES : Hid (Value.agg #[.int .u64 l1, .int .u64 h1] = sv (vrL L)) := mkHid (by rw [← hl1, ← hh1]; rfl)
        clear hl1 hh1
        go_wp2
        refine bodyPost_ret (v := .agg #[.int .u64 l1, .int .u64 h1]) (by simp [results, Try.results31, go_sem, r0, r1]) rfl ⟨by rw [ES.out], ?_⟩
        exact bst2 HBF.out _ (by omega) _ _
  · rw [if_neg hk, sv_empty]
    generalize ckT n L = q at *
    go_enter Try.func31, Try.ntmps31
    go_wp2_with (go_at_call 18; refine (CK.out _ H0.out.b).mono ?_; rintro e w1 ⟨rfl, hb⟩; have H1 := mkHid (H0.out.next hb); obtain ⟨o0, o1, -, -⟩ := (show AtS w1 (w.heap.size + 1 + 1) 0 0 from H1.out.o); obtain ⟨r0, r1, rf0, rf1⟩ := H1.out.r; clear hb)
    refine bodyPost_ret (v := .agg #[.int .u64 0, .int .u64 0]) (by simp [results, Try.results31, go_sem, r0, r1]) rfl ⟨rfl, ?_⟩
    exact bst2 H1.out.b _ (by omega) _ _
end Go.Proofs.Ytalpbpcanebbbaa
