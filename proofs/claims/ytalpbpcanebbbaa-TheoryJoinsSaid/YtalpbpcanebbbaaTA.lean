/- Contracts of variables and Vars. -/
import Derived.Test.YtalpbpcanebbbaaTO
namespace Go.Proofs.Ytalpbpcanebbbaa
open Go.RowKit VM LM TM

theorem vrC_step {l : List Int} {k : Nat} {x : Int} (hx : l[k]? = some x) : vrC (l.take (k + 1)) = withV (vrC (l.take k)) (varL x) := by
  unfold vrC
  rw [List.take_add_one, hx, List.map_append]
  exact ofL_snoc _ _
set_option maxRecDepth 100000 in
set_option maxHeartbeats 2000000 in
theorem variables_any (v : Value) (l : List Int) (w : World) (hv : Ints w v l) (hlen : l.length ≤ 9223372036854775807) (h64 : ∀ x ∈ l, In64 x) :
    Calls Try.prog 58 #[v] w fun e w' => e = .returned (sv (vrC l)) ∧ Below w.heap.size w w' := by
  obtain ⟨ao, cap, rfl, hcells⟩ := hv.uni
  have HC := mkHid hcells
  have H64 := mkHid h64
  have HB := mkHid (bal (bal (Below.refl _ w) (.cells #[.int .u64 0, .int .u64 0] 36)) (.cells #[.int .u64 0, .int .u64 0] 36))
  have HA1 := mkHid (AtS.new (w.alloc (.cells #[.int .u64 0, .int .u64 0] 36)) (w.heap.size + 1) 0 0 36 (by simp))
  have HA0 := mkHid ((AtS.new w w.heap.size 0 0 36 rfl).alloc (.cells #[.int .u64 0, .int .u64 0] 36))
  clear hcells h64 hv
  go_enter Try.func58, Try.ntmps58
  go_wp2
  go_loopw [8] (fun iv wr => ∃ k : Nat, k ≤ l.length ∧ iv = .int .i64 (k : Int) ∧ Hid (AtS wr (w.heap.size + 1) (wd (lo (vrC (l.take k)))) (wd (hi (vrC (l.take k)))) ∧ AtS wr w.heap.size 0 0 ∧ Below w.heap.size w wr)) (fun iv _ => l.length - (intOf iv).toNat)
  case atStart => exact ⟨0, Nat.zero_le _, rfl, mkHid ⟨by rw [List.take_zero]; exact HA1.out, HA0.out, HB.out⟩⟩
  case round =>
    obtain ⟨k, hk, rfl, H⟩ := hrel
    obtain ⟨a1, a2, af1, af2⟩ := H.out.1
    by_cases hlt : k < l.length
    · obtain ⟨x, hx⟩ : ∃ x, l[k]? = some x := ⟨l[k], List.getElem?_eq_getElem hlt⟩
      obtain ⟨b, off, rfl, hcx0⟩ := HC.out k x hx
      have hcx := cell_grows H.out.2.2 hcx0
      have et := mkHid (vrC_step hx)
      have CV := mkHid (fun W => var_any x W (H64.out x (List.mem_of_getElem? hx)))
      have C := mkHid (fun W => with_any (vrC (l.take k)) (varL x) W)
      have HW := mkHid H.out.2
      have HAT := mkHid H.out.1
      unfold sv at C
      clear H HA1 HA0 HB hx hcx0
      generalize varL x = vx at *
      generalize wd (lo (vrC (l.take k))) = l1 at *
      generalize wd (hi (vrC (l.take k))) = h1 at *
      generalize hl2 : wd (lo (withV (vrC (l.take k)) vx)) = l2 at *
      generalize hh2 : wd (hi (withV (vrC (l.take k)) vx)) = h2 at *
      have E2 := mkHid hl2; have E3 := mkHid hh2
      clear hl2 hh2
      have hk1 : (k : Int) < (l.length : Int) := by omega
      go_wp2
      go_region_law (first
        | (go_simp; go_at_call 62; refine (CV.out _).mono ?_; rintro e w2 ⟨rfl, rfl⟩)
        | (go_simp; go_at_call 83; refine (C.out _).mono ?_; rintro e w2 ⟨rfl, hb⟩; have HA4 := mkHid (HAT.out.drew.grows hb); have HR4 := mkHid (HW.out.1.drew.grows hb); have HB4 := mkHid (bnx HW.out.2.drew hb); obtain ⟨c1, c2, cf1, cf2⟩ := HA4.out; clear hb))
      all_goals
        go_wp2
        go_roundw
        case rel => exact ⟨k + 1, by omega, by go_num, mkHid ⟨by rw [et.out, E2.out, E3.out]; exact HA4.out.set l2 h2, HR4.out.setOff (by omega) _ _, bst2 HB4.out _ (by omega) _ _⟩⟩
        case measure => simp [intOf]; omega
    · have hkl : k = l.length := by omega
      obtain ⟨r1, r2, rf1, rf2⟩ := H.out.2.1
      have HBW := mkHid H.out.2.2
      have et : Hid (vrC (l.take k) = vrC l) := mkHid (by rw [hkl, List.take_length])
      have hk1 : ¬ (k : Int) < (l.length : Int) := by omega
      clear H HA1 HA0 HB hkl
      generalize hl1 : wd (lo (vrC (l.take k))) = l1 at *
      generalize hh1 : wd (hi (vrC (l.take k))) = h1 at *
      have ES : Hid (Value.agg #[.int .u64 l1, .int .u64 h1] = sv (vrC l)) := mkHid (by rw [← et.out, ← hl1, ← hh1]; rfl)
      clear hl1 hh1 et
      go_wp2
      refine bodyPost_ret (v := .agg #[.int .u64 l1, .int .u64 h1]) (by simp [results, Try.results58, go_sem, r1, r2]) rfl ⟨by rw [ES.out], ?_⟩
      exact bst2 HBW.out _ (Nat.le_refl _) _ _
theorem vrL_step {L : List (List Int)} {k : Nat} {c : List Int} (hx : L[k]? = some c) : vrL (L.take (k + 1)) = vrL (L.take k) ||| vrC c := by
  unfold vrL
  rw [List.take_add_one, hx, List.foldl_append]
  rfl
set_option maxRecDepth 100000 in
set_option maxHeartbeats 4000000 in
theorem Vars_any (n : Int) (v : Value) (L : List (List Int)) (w : World) (h : Th w v L) :
    Calls Try.prog 30 #[.agg #[.int .i64 n, v]] w fun e w' => e = .returned (sv (vrT n L)) ∧ Below w.heap.size w w' := by
  have CK := mkHid (fun W (hb : Below w.heap.size w W) => check_any n v L W (h.next hb))
  have HT := mkHid h
  have HBx := mkHid (bal (bal (bal (Below.refl _ w) (.cells #[.int .i64 n, v] 24)) (.cells #[.int .u64 0, .int .u64 0] 36)) (.cells #[.int .u64 0, .int .u64 0] 36))
  have HA := mkHid (((AtT.new w w.heap.size n v rfl).grows (bal (Below.refl _ _) (.cells #[.int .u64 0, .int .u64 0] 36))).grows (bal (Below.refl _ _) (.cells #[.int .u64 0, .int .u64 0] 36)))
  have HA1 := mkHid ((AtS.new (w.alloc (.cells #[.int .i64 n, v] 24)) (w.heap.size + 1) 0 0 36 (by simp)).alloc (.cells #[.int .u64 0, .int .u64 0] 36))
  have HA2 := mkHid (AtS.new ((w.alloc (.cells #[.int .i64 n, v] 24)).alloc (.cells #[.int .u64 0, .int .u64 0] 36)) (w.heap.size + 1 + 1) 0 0 36 (by simp))
  obtain ⟨ao, cap, rfl, hc⟩ := h.cls
  have HC := mkHid hc
  obtain ⟨a0, a1⟩ := HA.out
  have hlen := h.len
  clear h hc
  unfold vrT
  by_cases hk : ckT n L = 0
  · rw [if_pos hk]
    rw [hk] at CK
    clear hk
    go_enter Try.func30, Try.ntmps30
    go_wp2_with (go_at_call 17; refine (CK.out _ HBx.out).mono ?_; rintro e w1 ⟨rfl, hb⟩; have G := mkHid (HA.out.grows hb); have G1 := mkHid (HA1.out.grows hb); have G2 := mkHid (HA2.out.grows hb); have GB := mkHid (bnx HBx.out hb); obtain ⟨b0, b1⟩ := G.out; clear hb)
    go_loopw [13] (fun iv wr => ∃ k : Nat, k ≤ L.length ∧ iv = .int .i64 (k : Int) ∧ Hid (AtS wr (w.heap.size + 1 + 1) (wd (lo (vrL (L.take k)))) (wd (hi (vrL (L.take k)))) ∧ AtS wr (w.heap.size + 1) 0 0 ∧ Below w.heap.size w wr)) (fun iv _ => L.length - (intOf iv).toNat)
    case atStart => exact ⟨0, Nat.zero_le _, rfl, mkHid ⟨by rw [List.take_zero]; exact G2.out, G1.out, GB.out⟩⟩
    case round =>
      obtain ⟨k, hk, rfl, H⟩ := hrel
      obtain ⟨q1, q2, qf1, qf2⟩ := H.out.1
      clear a0 a1 b0 b1
      by_cases hlt : k < L.length
      · obtain ⟨c, hc⟩ : ∃ c, L[k]? = some c := ⟨L[k], List.getElem?_eq_getElem hlt⟩
        obtain ⟨b, off, x, rfl, hx, hi⟩ := HC.out k c hc
        have p1 := cell_grows H.out.2.2 hx
        have hk1 : (k : Int) < (L.length : Int) := by omega
        have hk0 : (0 : Int) ≤ (k : Int) := by omega
        have hm := List.mem_of_getElem? hc
        have C := mkHid (fun W (hb : Below w.heap.size w W) => variables_any x c W (hi.next hb) (HT.out.lens c hm) (HT.out.in64 c hm))
        have CU := mkHid (fun W => union_any (vrL (L.take k)) (vrC c) W)
        have et := mkHid (vrL_step hc)
        have HW := mkHid H.out.2
        have HAT := mkHid H.out.1
        unfold sv at C CU
        clear H HA1 HA2 HA G G1 G2 GB HBx CK hc hx hi hm
        generalize vrC c = vc at *
        generalize wd (lo vc) = lc at *
        generalize wd (hi vc) = hc at *
        generalize wd (lo (vrL (L.take k))) = l1 at *
        generalize wd (hi (vrL (L.take k))) = h1 at *
        generalize hl2 : wd (lo (vrL (L.take k) ||| vc)) = l2 at *
        generalize hh2 : wd (hi (vrL (L.take k) ||| vc)) = h2 at *
        have E2 := mkHid hl2; have E3 := mkHid hh2
        clear hl2 hh2
        go_wp2
        go_region_law (first
          | (go_simp; go_at_call 58; refine (C.out _ HW.out.2.drew).mono ?_; rintro e w2 ⟨rfl, hb⟩; have HA4 := mkHid (HAT.out.drew.grows hb); have HR4 := mkHid (HW.out.1.drew.grows hb); have HB4 := mkHid (bnx HW.out.2.drew hb); obtain ⟨c1, c2, cf1, cf2⟩ := HA4.out; clear hb)
          | (go_simp; go_at_call 70; refine (CU.out _).mono ?_; rintro e w3 ⟨rfl, hb⟩; have HA5 := mkHid (HA4.out.grows hb); have HR5 := mkHid (HR4.out.grows hb); have HB5 := mkHid (bnx HB4.out hb); obtain ⟨d1, d2, df1, df2⟩ := HA5.out; clear hb))
        all_goals
          go_wp2
          go_roundw
          case rel => exact ⟨k + 1, by omega, by go_num, mkHid ⟨by rw [et.out, E2.out, E3.out]; exact HA5.out.set l2 h2, HR5.out.setOff (by omega) _ _, bst2 HB5.out _ (by omega) _ _⟩⟩
          case measure => simp [intOf]; omega
      · have hkl : k = L.length := by omega
        obtain ⟨r1, r2, rf1, rf2⟩ := H.out.2.1
        have HBW := mkHid H.out.2.2
        have et : Hid (vrL (L.take k) = vrL L) := mkHid (by rw [hkl, List.take_length])
        have hk1 : ¬ (k : Int) < (L.length : Int) := by omega
        clear H HA1 HA2 HA G G1 G2 GB HBx CK hkl
        generalize hl1 : wd (lo (vrL (L.take k))) = l1 at *
        generalize hh1 : wd (hi (vrL (L.take k))) = h1 at *
        have ES : Hid (Value.agg #[.int .u64 l1, .int .u64 h1] = sv (vrL L)) := mkHid (by rw [← et.out, ← hl1, ← hh1]; rfl)
        clear hl1 hh1 et
        go_wp2
        refine bodyPost_ret (v := .agg #[.int .u64 l1, .int .u64 h1]) (by simp [results, Try.results30, go_sem, r1, r2]) rfl ⟨by rw [ES.out], ?_⟩
        exact bst2 HBW.out _ (by omega) _ _
  · rw [if_neg hk, sv_empty]
    obtain ⟨r1, r2, rf1, rf2⟩ := HA2.out
    generalize ckT n L = q at *
    go_enter Try.func30, Try.ntmps30
    go_wp2_with (go_at_call 17; refine (CK.out _ HBx.out).mono ?_; rintro e w1 ⟨rfl, hb⟩; have G1 := mkHid (HA1.out.grows hb); have G2 := mkHid (HA2.out.grows hb); have GB := mkHid (bnx HBx.out hb); obtain ⟨g1, g2, gf1, gf2⟩ := G1.out; obtain ⟨i1, i2, if1, if2⟩ := G2.out; clear hb)
    refine bodyPost_ret (v := .agg #[.int .u64 0, .int .u64 0]) (by simp [results, Try.results30, go_sem, g1, g2]) rfl ⟨rfl, ?_⟩
    exact bst2 GB.out _ (by omega) _ _
end Go.Proofs.Ytalpbpcanebbbaa
