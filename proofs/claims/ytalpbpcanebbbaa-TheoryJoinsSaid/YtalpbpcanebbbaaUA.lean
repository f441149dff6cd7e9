/- Contract of few: a theory over n variables, at most 20. -/
import Derived.Test.YtalpbpcanebbbaaTZb
namespace Go.Proofs.Ytalpbpcanebbbaa
open Go.RowKit VM LM TM

/-- The theory that is being made. -/
structure FI (w W : World) (m n : Int) (v v3 : Value) (xs : List Value) (M : List (List Int)) : Prop where
  t : TB W w.heap.size m v
  r : TB W (w.heap.size + 1) 0 (.slice none 0 0)
  o : TB W (w.heap.size + 1 + 1) n v3
  l : OwnV W w.heap.size v3 xs
  k : RowsO W w.heap.size xs M
  b : Below w.heap.size w W
theorem FI.next {w W W' : World} {m n : Int} {v v3 : Value} {xs : List Value} {M : List (List Int)} (H : FI w W m n v v3 xs M) (hb : Below W.heap.size W W') : FI w W' m n v v3 xs M :=
  ⟨H.t.grows hb, H.r.grows hb, H.o.grows hb, H.l.below hb, H.k.below hb, bnx H.b hb⟩
/-- What each clause is. -/
def Few (n : Int) (K : List (List Int)) : Prop := ∀ c ∈ K, c.length ≤ 100 ∧ validAll c n = true
theorem Few.snoc {n : Int} {K : List (List Int)} {c : List Int} (h : Few n K) (hc : c.length ≤ 100 ∧ validAll c n = true) : Few n (K ++ [c]) := by
  intro d hd
  rcases List.mem_append.1 hd with hd | hd
  · exact h d hd
  · simp at hd; rw [hd]; exact hc
theorem Few.ck {n : Int} {K : List (List Int)} (h : Few n K) (hn : 0 ≤ n ∧ n ≤ 128) (hl : K.length ≤ 4096) : ckT n K = 0 :=
  ckT_zero.2 ⟨hn, hl, fun c hc => ⟨by have := (h c hc).1; omega, (h c hc).2⟩⟩
/-- A literal brought into the range. -/
theorem few_val (y : Int) {n : Nat} (hn : 0 < (n : Int)) (h20 : n ≤ 20) : ∃ z : Int, (1 ≤ z ∧ z ≤ n) ∧ wrap64 (1 + wrap64 ((IntKind.u64.wrap (max y (wrap64 (-wrap64 (y + 1))))).tmod (n : Int))) = z ∧ wrap64 (-z) = -z := by
  obtain ⟨M, hM⟩ : ∃ M, IntKind.u64.wrap (max y (wrap64 (-wrap64 (y + 1)))) = M := ⟨_, rfl⟩
  have hM0 : 0 ≤ M := by rw [← hM]; exact Int.emod_nonneg _ (by decide)
  have h1 : M.tmod (n : Int) = M % (n : Int) := Int.tmod_eq_emod_of_nonneg hM0
  have h2 := Int.emod_nonneg M (show (n : Int) ≠ 0 by omega)
  have h3 := Int.emod_lt_of_pos M hn
  rw [hM, h1]
  generalize M % (n : Int) = r at h2 h3
  have e1 : wrap64 r = r := IntWalk.wrap64_in _ (by omega)
  rw [e1]
  exact ⟨1 + r, by omega, IntWalk.wrap64_in _ (by omega), IntWalk.wrap64_in _ (by omega)⟩
theorem valid_few {n x : Int} (hn : n ≤ 128) (h : x ≠ 0 ∧ -n ≤ x ∧ x ≤ n) : validL x n = true := (validL_iff hn).2 h
theorem validAll_snoc {n x : Int} {c : List Int} (h : validAll c n = true) (hx : validL x n = true) : validAll (c ++ [x]) n = true := by
  unfold validAll at h ⊢
  rw [List.all_append, h]; simp [hx]
set_option maxRecDepth 100000 in
set_option maxHeartbeats 3000000 in
theorem few_any (m : Int) (n : Nat) (hn : n ≤ 20) (v : Value) (L : List (List Int)) (w : World) (h : Th w v L) (hL : L.length ≤ 60) (hl : ∀ c ∈ L, c.length ≤ 140) :
    Calls Try.prog 32 #[.agg #[.int .i64 m, v], .int .i64 (n : Int)] w fun e w' => ∃ u, e = .returned (.agg #[.int .i64 (n : Int), u]) ∧ Hid (∃ K, OwnC w' w.heap.size u K ∧ K.length = L.length ∧ Few n K ∧ Below w.heap.size w w') := by
  have H0 : Hid (FI w (((w.alloc (.cells #[.int .i64 m, v] 24)).alloc (.cells #[.int .i64 0, .slice none 0 0] 24)).alloc (.cells #[.int .i64 (n : Int), .slice none 0 0] 24)) m n v (.slice none 0 0) [] []) := mkHid
    ⟨((TB.new w w.heap.size m v rfl).grows (bal (Below.refl _ _) _)).grows (bal (Below.refl _ _) _), (TB.new _ _ _ _ (by simp)).grows (bal (Below.refl _ _) _), TB.new _ _ _ _ (by simp), OwnV.nil _ _, RowsO.nil _ _, bal (bal (bal (Below.refl _ w) _) _) _⟩
  obtain ⟨ao, cap, rfl, hc⟩ := h.cls
  have HC := mkHid hc
  have HL := mkHid hL
  have HLL := mkHid hl
  have a1 := H0.out.t.at.2
  have z1 := ((TB.new w w.heap.size m (.slice ao L.length cap) rfl).grows (bal (Below.refl _ _) (.cells #[.int .i64 0, .slice none 0 0] 24))).at.1
  have hlen := h.len
  clear h hc hl
  go_enter Try.func32, Try.ntmps32
  go_wp2
  go_loopw [17] (fun iv wr => ∃ k : Nat, k ≤ L.length ∧ iv = .int .i64 (k : Int) ∧ Hid (∃ v3 xs K, FI w wr m n (.slice ao L.length cap) v3 xs K ∧ K.length = k ∧ Few n K)) (fun iv _ => L.length - (intOf iv).toNat)
  case atStart => exact ⟨0, Nat.zero_le _, rfl, mkHid ⟨_, _, _, H0.out, rfl, fun c hc => by simp at hc⟩⟩
  case round =>
    obtain ⟨k, hk, rfl, H⟩ := hrel
    obtain ⟨w0, hw0⟩ : ∃ w0, w0 = wr := ⟨_, rfl⟩
    subst hw0
    obtain ⟨v3, xs, K, hci, hKl, hKf⟩ := H.out
    have HH := mkHid hci
    have HKl := mkHid hKl
    have HKf := mkHid hKf
    clear H H0 hci a1 z1 hKl hKf
    by_cases hlt : k < L.length
    · obtain ⟨c, hc⟩ : ∃ c, L[k]? = some c := ⟨L[k], List.getElem?_eq_getElem hlt⟩
      obtain ⟨b, off, x, rfl, hx, hi⟩ := HC.out k c hc
      have p1 := cell_grows HH.out.b hx
      have hk1 : (k : Int) < (L.length : Int) := by omega
      have hk0 : (0 : Int) ≤ (k : Int) := by omega
      have hcl := HLL.out c (List.mem_of_getElem? hc)
      have HXL : Hid (xs.length ≤ 60) := mkHid (by rw [HH.out.k.1, HKl.out]; have := HL.out; omega)
      obtain ⟨ac, cc, rfl, hcc⟩ := hi.uni
      have HCC : Hid (∀ W, Below w.heap.size w W → ∀ (j : Nat) (y : Int), c[j]? = some y → ∃ b2 off2, ac = some ⟨b2, off2, none⟩ ∧ W.cell? ⟨b2, off2 + j, none⟩ = some (.int .i64 y)) := mkHid (fun W hb j y hy => by obtain ⟨b2, off2, g1, g2⟩ := hcc j y hy; exact ⟨b2, off2, g1, cell_grows hb g2⟩)
      have HI := mkHid (hi.next HH.out.b)
      have e0 := (own_empty w0 w0.heap.size w0.heap.size rfl (Nat.le_refl _))
      have HE0 := mkHid e0
      have b0 : Below w0.heap.size w0 (w0.alloc (.cells #[] 3)) := bal (Below.refl _ _) _
      have HB0 := mkHid b0
      have HWS := mkHid HH.out.b.size
      clear hc hx hi e0 b0 hcc
      go_wp2
      go_loopw [8, 24] (fun dv jv wr => ∃ (j : Nat) (d : List Int), j ≤ c.length ∧ jv = .int .i64 (j : Int) ∧ Hid (Own wr w0.heap.size dv d ∧ d.length ≤ 100 ∧ validAll d n = true ∧ Below w0.heap.size w0 wr)) (fun _ jv _ => c.length - (intOf jv).toNat)
      case atStart => exact ⟨0, [], Nat.zero_le _, rfl, mkHid ⟨HE0.out, by simp, rfl, HB0.out⟩⟩
      case round =>
        obtain ⟨j, d, hj, rfl, HI2⟩ := hrel
        clear HE0 HB0 p1
        obtain ⟨a8, c8, rfl⟩ := HI2.out.1.ints.form
        by_cases hjt : j < c.length
        · obtain ⟨y, hy⟩ : ∃ y, c[j]? = some y := ⟨c[j], List.getElem?_eq_getElem hjt⟩
          obtain ⟨b2, off2, rfl, q1⟩ := HCC.out wr (bnx HH.out.b HI2.out.2.2.2) j y hy
          have hj1 : (j : Int) < (c.length : Int) := by omega
          have hj0 : (0 : Int) ≤ (j : Int) := by omega
          by_cases hgo : 0 < (n : Int) ∧ ¬ y = 0 ∧ d.length < 100
          · obtain ⟨g1, g2, g3⟩ := hgo
            have g4 : (d.length : Int) < 100 := by omega
            have g5 : (y != 0) = true := by simpa using g2
            obtain ⟨z, hz, ez, ez2⟩ := few_val y g1 hn
            have HZ := mkHid hz
            have HD := mkHid g3
            clear hz g3
            by_cases hneg : y < 0
            · go_wp2_with (at_builtin; refine wpList_app1 rfl (.tmp 54) (.tmp 56) rfl rfl rfl HI2.out.1 (by have := HD.out; omega) HI2.out.2.2.2.size HI2.out.2.2.2 ?_; intro v7 w7 H7)
              go_roundw
              case rel => exact ⟨j + 1, d ++ [-z], by omega, by go_num, mkHid ⟨H7.out.1, by have := HD.out; simp; omega, validAll_snoc HI2.out.2.2.1 (valid_few (by omega) (by have := HZ.out; omega)), H7.out.2⟩⟩
              case measure => simp [intOf]; omega
            · go_wp2_with (at_builtin; refine wpList_app1 rfl (.tmp 54) (.tmp 56) rfl rfl rfl HI2.out.1 (by have := HD.out; omega) HI2.out.2.2.2.size HI2.out.2.2.2 ?_; intro v7 w7 H7)
              go_roundw
              case rel => exact ⟨j + 1, d ++ [z], by omega, by go_num, mkHid ⟨H7.out.1, by have := HD.out; simp; omega, validAll_snoc HI2.out.2.2.1 (valid_few (by omega) (by have := HZ.out; omega)), H7.out.2⟩⟩
              case measure => simp [intOf]; omega
          · by_cases g1 : 0 < (n : Int)
            · by_cases g2 : y = 0
              · have g5 : (y != 0) = false := by simpa using g2
                clear g2
                go_wp2
                go_roundw
                case rel => exact ⟨j + 1, d, by omega, by go_num, HI2⟩
                case measure => simp [intOf]; omega
              · have g5 : (y != 0) = true := by simpa using g2
                have g4 : ¬ (d.length : Int) < 100 := by omega
                go_wp2
                go_roundw
                case rel => exact ⟨j + 1, d, by omega, by go_num, HI2⟩
                case measure => simp [intOf]; omega
            · go_wp2
              go_roundw
              case rel => exact ⟨j + 1, d, by omega, by go_num, HI2⟩
              case measure => simp [intOf]; omega
        · have hj1 : ¬ (j : Int) < (c.length : Int) := by omega
          have HN := mkHid (HH.out.next HI2.out.2.2.2)
          have HO := mkHid (HI2.out.1.wk HH.out.b.size)
          obtain ⟨a3, c3, e3⟩ : ∃ a3 c3, v3 = .slice a3 xs.length c3 := HH.out.l.vals.form
          obtain ⟨o0, o1⟩ := HN.out.o.at
          obtain ⟨m0, m1⟩ := (HN.out.o.grows (bal (Below.refl _ wr) (.cells #[.slice a8 d.length c8] 38))).at
          subst e3
          have hxl := HN.out.l.vals
          go_wp2_with (at_builtin; refine wpList_appV rfl (.tmp 60) (.tmp 62) rfl rfl rfl (x := .slice a8 d.length c8) HN.out.l (oneCell_slice _ _ _) (by have := HXL.out; omega) HN.out.b.size HN.out.b ?_; intro v8 w8 H8; have T8 := mkHid (HN.out.o.app HN.out.l H8.out.2.1); obtain ⟨a9, c9, rfl⟩ := H8.out.1.vals.form; obtain ⟨y0, y1⟩ := T8.out.at; obtain ⟨yf0, yf1⟩ := T8.out.free)
          go_roundw
          case rel =>
            refine ⟨k + 1, by omega, by go_num, mkHid ⟨_, xs ++ [Value.slice a8 d.length c8], K ++ [d], ⟨(HN.out.t.app HN.out.l H8.out.2.1).off (by omega) _, (HN.out.r.app HN.out.l H8.out.2.1).off (by omega) _, T8.out.set1 _, ?_, ?_, bst H8.out.2.2 (by show w.heap.size ≤ w.heap.size + 1 + 1; omega) _⟩, by simp [HKl.out], HKf.out.snoc ⟨HI2.out.2.1, HI2.out.2.2.1⟩⟩⟩
            · have := H8.out.1.set (o := 1) (u' := .slice a9 (xs ++ [Value.slice a8 d.length c8]).length c9) T8.out
              rw [List.length_append] at this
              exact this
            · exact (HN.out.k.app HN.out.l HO.out H8.out.2.1).setT T8.out
          case measure => simp [intOf]; omega
    · have hk1 : ¬ (k : Int) < (L.length : Int) := by omega
      have HKL : Hid (K.length = L.length) := mkHid (by rw [HKl.out]; omega)
      obtain ⟨a3, c3, e3⟩ : ∃ a3 c3, v3 = .slice a3 xs.length c3 := HH.out.l.vals.form
      subst e3
      obtain ⟨o0, o1⟩ := HH.out.o.at
      obtain ⟨r0, r1⟩ := HH.out.r.at
      obtain ⟨rf0, rf1⟩ := HH.out.r.free
      go_wp2
      refine bodyPost_ret (v := .agg #[.int .i64 n, .slice a3 xs.length c3]) (by simp [results, Try.results32, go_sem, r0, r1]) rfl ?_
      have hr1 : TB (w0.setCell ⟨w.heap.size + 1, 0, none⟩ (.int .i64 n)) (w.heap.size + 1) n (.slice none 0 0) := by
        have := HH.out.r
        unfold TB at this ⊢
        simp [World.setCell, Array.getElem?_modify, this]
      have hoc : OwnC w0 w.heap.size (.slice a3 xs.length c3) K := ⟨xs, HH.out.l, HH.out.k⟩
      exact ⟨_, rfl, mkHid ⟨K, (hoc.setT (o := 0) (u' := .int .i64 n) HH.out.r).setT (o := 1) (u' := .slice a3 xs.length c3) hr1, HKL.out, HKf.out, bst2 HH.out.b _ (by omega) _ _⟩⟩
end Go.Proofs.Ytalpbpcanebbbaa
