/- Contracts of the specification: sorted, put, Normal. -/
import Derived.Test.YtalpbpcanebbbaaTQ
import Derived.Test.YtalpbpcanebbbaaLKa
namespace Go.Proofs.Ytalpbpcanebbbaa
open Go.RowKit VM LM TM

set_option maxRecDepth 100000 in
set_option maxHeartbeats 8000000 in
theorem rsorted_any (v : Value) (c : List Int) (n : Nat) (w : World) (hv : Ints w v c) (hlen : c.length ≤ 1000000) (hn : n ≤ 128) (hval : validAll c n = true) :
    Calls Try.prog 47 #[v, .int .i64 (n : Int)] w fun e w' => ∃ u, e = .returned (.tuple #[u, .bool (opp c)]) ∧ Hid (Own w' w.heap.size u (order c) ∧ Below w.heap.size w w') := by
  have CH := mkHid (fun x W (h : Below w.heap.size w W) => rcont_any v c x W (hv.next h) (by omega))
  obtain ⟨ao, cap, rfl⟩ := hv.form
  rw [← oppK_opp hn hval, ← ordK_order hn hval]
  clear hv hval
  go_enter Try.func47, Try.ntmps47
  go_wp2
  go_loopw [6, 7, 8] (fun ov fv iv wr => ∃ k : Nat, k ≤ n ∧ fv = .bool (oppK c k) ∧ iv = .int .i64 ((k : Int) + 1) ∧ Hid (Own wr w.heap.size ov (ordK c k) ∧ Below w.heap.size w wr)) (fun _ _ iv _ => n + 1 - (intOf iv).toNat)
  case atStart => exact ⟨0, by omega, rfl, rfl, mkHid ⟨Own.nil _ _, Below.refl _ _⟩⟩
  case round =>
    obtain ⟨k, hk1, rfl, rfl, H⟩ := hrel
    by_cases hlt : k < n
    · have hk3 : (k : Int) + 1 ≤ (n : Int) := by omega
      have hn3 : (n : Int) ≤ 128 := by omega
      have e1 : IntKind.i64.wrap (-((k : Int) + 1)) = -((k : Int) + 1) := IntWalk.i64_in _ (by omega)
      have C1 := mkHid (fun W h => CH.out (-((k : Int) + 1)) W h)
      have C2 := mkHid (fun W h => CH.out ((k : Int) + 1) W h)
      have HL := mkHid (ordK_length c k)
      have HK := mkHid hn
      have HO : Hid (oppK c (k + 1) = (oppK c k || (c.contains ((k : Int) + 1) && c.contains (-((k : Int) + 1))))) := mkHid rfl
      clear CH
      cases h1 : c.contains (-((k : Int) + 1))
      · cases h2 : c.contains ((k : Int) + 1)
        · have HE := mkHid (ordK_ff h1 h2)
          have HO2 : Hid (oppK c (k + 1) = oppK c k) := mkHid (by rw [HO.out, h1, h2]; simp)
          rw [h1] at C1
          rw [h2] at C2
          clear h1 h2 HO
          generalize oppK c k = f0 at *
          go_wp2_with (first
            | (go_at_call 67; with_reducible refine (C1.out _ H.out.2).mono ?_; rintro e w6 ⟨rfl, rfl⟩)
            | (go_at_call 67; with_reducible refine (C2.out _ H.out.2).mono ?_; rintro e w6 ⟨rfl, rfl⟩))
          go_roundw
          case rel => exact ⟨k + 1, by omega, by rw [HO2.out], by go_num, mkHid ⟨by rw [HE.out]; exact H.out.1, H.out.2⟩⟩
          case measure => simp [intOf]; omega
        · have HE := mkHid (ordK_ft h1 h2)
          have HO2 : Hid (oppK c (k + 1) = oppK c k) := mkHid (by rw [HO.out, h1, h2]; simp)
          rw [h1] at C1
          rw [h2] at C2
          clear h1 h2 HO
          cases h0 : oppK c k
          all_goals
            have HF := mkHid h0
            clear h0
            go_wp2_with (first
              | (go_at_call 67; with_reducible refine (C1.out _ H.out.2).mono ?_; rintro e w6 ⟨rfl, rfl⟩)
              | (go_at_call 67; with_reducible refine (C2.out _ H.out.2).mono ?_; rintro e w6 ⟨rfl, rfl⟩)
              | (at_builtin; refine wpList_app1 rfl (.tmp 26) (.tmp 28) rfl rfl rfl H.out.1 (by have := HL.out; have := HK.out; omega) H.out.2.size H.out.2 ?_; intro v7 w7 H7)
              | (go_at_call 67; with_reducible refine (C1.out _ H7.out.2).mono ?_; rintro e w6 ⟨rfl, rfl⟩))
            go_roundw
            case rel => exact ⟨k + 1, by omega, by rw [HO2.out, HF.out], by go_num, mkHid ⟨by rw [HE.out]; exact H7.out.1, H7.out.2⟩⟩
            case measure => simp [intOf]; omega
      · cases h2 : c.contains ((k : Int) + 1)
        · have HE := mkHid (ordK_tf h1 h2)
          have HO2 : Hid (oppK c (k + 1) = oppK c k) := mkHid (by rw [HO.out, h1, h2]; simp)
          rw [h1] at C1
          rw [h2] at C2
          clear h1 h2 HO
          generalize oppK c k = f0 at *
          go_wp2_with (first
            | (go_at_call 67; with_reducible refine (C1.out _ H.out.2).mono ?_; rintro e w6 ⟨rfl, rfl⟩)
            | (at_builtin; refine wpList_app1 rfl (.tmp 18) (.tmp 21) rfl rfl rfl H.out.1 (by have := HL.out; have := HK.out; omega) H.out.2.size H.out.2 ?_; intro v7 w7 H7)
            | (go_at_call 67; with_reducible refine (C2.out _ H7.out.2).mono ?_; rintro e w8 ⟨rfl, rfl⟩))
          go_roundw
          case rel => exact ⟨k + 1, by omega, by rw [HO2.out], by go_num, mkHid ⟨by rw [HE.out]; exact H7.out.1, H7.out.2⟩⟩
          case measure => simp [intOf]; omega
        · have HE := mkHid (ordK_tt h1 h2)
          have HO2 : Hid (oppK c (k + 1) = true) := mkHid (by rw [HO.out, h1, h2]; simp)
          rw [h1] at C1
          rw [h2] at C2
          clear h1 h2 HO
          cases h0 : oppK c k
          all_goals
            clear h0
            go_wp2_with (first
              | (go_at_call 67; with_reducible refine (C1.out _ H.out.2).mono ?_; rintro e w6 ⟨rfl, rfl⟩)
              | (at_builtin; refine wpList_app1 rfl (.tmp 18) (.tmp 21) rfl rfl rfl H.out.1 (by have := HL.out; have := HK.out; omega) H.out.2.size H.out.2 ?_; intro v7 w7 H7)
              | (go_at_call 67; with_reducible refine (C2.out _ H7.out.2).mono ?_; rintro e w8 ⟨rfl, rfl⟩)
              | (at_builtin; refine wpList_app1 rfl (.tmp 26) (.tmp 28) rfl rfl rfl H7.out.1 (by have := HL.out; have := HK.out; simp; omega) H7.out.2.size H7.out.2 ?_; intro v9 w9 H9)
              | (go_at_call 67; with_reducible refine (C1.out _ H9.out.2).mono ?_; rintro e w6 ⟨rfl, rfl⟩))
            go_roundw
            case rel => exact ⟨k + 1, by omega, by rw [HO2.out], by go_num, mkHid ⟨by rw [HE.out]; exact H9.out.1, H9.out.2⟩⟩
            case measure => simp [intOf]; omega
    · have e : k = n := by omega
      subst e
      have hk3 : ¬ (k : Int) + 1 ≤ (k : Int) := by omega
      go_wp2
      refine bodyPost_ret (v := .tuple #[_, .bool (oppK c k)]) (by simp [results, Try.results47, go_sem]; rfl) rfl ?_
      exact ⟨_, rfl, mkHid ⟨H.out.1, H.out.2⟩⟩
/-- What put has put so far. -/
def putM (c : List Int) (L : List (List Int)) (k : Nat) : Bool → List (List Int)
  | false => L.take k
  | true => putK c (L.take k)
theorem putM_length (c : List Int) (L : List (List Int)) (k : Nat) (f : Bool) (h : k ≤ L.length) : (putM c L k f).length ≤ k + 1 := by
  cases f
  · show (L.take k).length ≤ k + 1
    rw [List.length_take]; omega
  · show (putK c (L.take k)).length ≤ k + 1
    have := putK_length c (L.take k)
    rw [List.length_take] at this; omega
/-- How far put is. -/
def PutI (c : List Int) (L : List (List Int)) (k : Nat) : Bool → Prop
  | false => ∀ d ∈ L.take k, bef d c = true
  | true => ∃ d ∈ L.take k, bef d c = false
theorem putI_keep {c d : List Int} {L : List (List Int)} {k : Nat} (h : PutI c L k false) (hd : L[k]? = some d) (hb : bef d c = true) : PutI c L (k + 1) false ∧ putM c L (k + 1) false = putM c L k false ++ [d] :=
  ⟨take_step h hd hb, by unfold putM; rw [List.take_add_one, hd]; rfl⟩
theorem putI_here {c d : List Int} {L : List (List Int)} {k : Nat} (h : PutI c L k false) (hd : L[k]? = some d) (hb : bef d c = false) : PutI c L (k + 1) true ∧ putM c L (k + 1) true = if bef c d then putM c L k false ++ [c] ++ [d] else putM c L k false ++ [d] := by
  have e : L.take (k + 1) = L.take k ++ [d] := by rw [List.take_add_one, hd]; rfl
  refine ⟨⟨d, by rw [e]; simp, hb⟩, ?_⟩
  unfold putM
  rw [e, putK_here h hb]
theorem putI_after {c d : List Int} {L : List (List Int)} {k : Nat} (h : PutI c L k true) (hd : L[k]? = some d) : PutI c L (k + 1) true ∧ putM c L (k + 1) true = putM c L k true ++ [d] := by
  have e : L.take (k + 1) = L.take k ++ [d] := by rw [List.take_add_one, hd]; rfl
  refine ⟨?_, ?_⟩
  · obtain ⟨x, hx, hb⟩ := h
    exact ⟨x, by rw [e]; exact List.mem_append.2 (.inl hx), hb⟩
  · unfold putM; rw [e, putK_after h]
theorem putM_all {c : List Int} {L : List (List Int)} {f : Bool} (h : PutI c L L.length f) : putK c L = if f then putM c L L.length f else putM c L L.length f ++ [c] := by
  cases f
  · unfold PutI at h; unfold putM
    rw [List.take_length] at h ⊢
    rw [putK_all h]; rfl
  · unfold putM; rw [List.take_length]; rfl
set_option maxRecDepth 100000 in
set_option maxHeartbeats 8000000 in
theorem rput_any (b0 : Nat) (v x : Value) (xs : List Value) (L : List (List Int)) (c : List Int) (w : World) (hV : Vals w v xs) (hR : RowsO w b0 xs L) (hx : Own w b0 x c) (hL : L.length ≤ 100000) (hc : c.length ≤ 1000000) (sL : ∀ d ∈ L, (∀ x ∈ d, -128 ≤ x ∧ x ≤ 128) ∧ d.length ≤ 256) (rc : ∀ x ∈ c, -128 ≤ x ∧ x ≤ 128) :
    Calls Try.prog 48 #[v, x] w fun e w' => ∃ u, e = .returned u ∧ Hid ((∃ ys, OwnV w' w.heap.size u ys ∧ RowsO w b0 ys (putK c L)) ∧ Below w.heap.size w w') := by
  obtain ⟨ao, cap, rfl, hcell⟩ := hV
  have HC := mkHid hcell
  have HR := mkHid hR
  have HX := mkHid hx
  have HSL := mkHid sL
  have hlen := hR.1
  rw [hlen]
  obtain ⟨ax, cx, rfl⟩ := hx.ints.form
  have HX1 := mkHid (oneCell_slice ax c.length cx)
  have CB1 := mkHid (fun W (h : Below w.heap.size w W) (u : Value) (d : List Int) (hu : Ints W u d) (hd : d ∈ L) => rbefore_any u _ d c W hu (hx.ints.next h) (by have := (sL d hd).2; omega) (sL d hd).1 rc)
  have CB2 := mkHid (fun W (h : Below w.heap.size w W) (u : Value) (d : List Int) (hu : Ints W u d) (hd : d ∈ L) => rbefore_any _ u c d W (hx.ints.next h) hu hc rc (sL d hd).1)
  clear hcell hR hx sL
  go_enter Try.func48, Try.ntmps48
  go_wp2
  go_loopw [5, 6, 7] (fun ov fv iv wr => ∃ (k : Nat) (f : Bool), k ≤ L.length ∧ fv = .bool f ∧ iv = .int .i64 (k : Int) ∧ Hid (PutI c L k f ∧ (∃ ys, OwnV wr w.heap.size ov ys ∧ RowsO w b0 ys (putM c L k f)) ∧ Below w.heap.size w wr)) (fun _ _ iv _ => L.length - (intOf iv).toNat)
  case atStart => exact ⟨0, false, Nat.zero_le _, rfl, rfl, mkHid ⟨take_start, ⟨[], OwnV.nil _ _, RowsO.nil _ _⟩, Below.refl _ _⟩⟩
  case round =>
    obtain ⟨k, f, hk, rfl, rfl, H⟩ := hrel
    obtain ⟨ys, h1, h2⟩ := H.out.2.1
    have HY := mkHid h1
    have HZ := mkHid h2
    have HB := mkHid H.out.2.2
    have HI := mkHid H.out.1
    have HN : Hid (ys.length ≤ 100001) := mkHid (by rw [h2.1]; have := putM_length c L k f hk; omega)
    clear h1 h2 H
    by_cases hlt : k < L.length
    · obtain ⟨d, hd⟩ : ∃ d, L[k]? = some d := ⟨L[k], List.getElem?_eq_getElem hlt⟩
      obtain ⟨u, hu⟩ : ∃ u, xs[k]? = some u := ⟨xs[k]'(by omega), List.getElem?_eq_getElem _⟩
      obtain ⟨b, off, rfl, hcu⟩ := HC.out k u hu
      have p1 := cell_grows HB.out hcu
      have hk1 : (k : Int) < (L.length : Int) := by omega
      have hk0 : (0 : Int) ≤ (k : Int) := by omega
      have hm := List.mem_of_getElem? hd
      have hru := HR.out.2 k u d hu hd
      have HRU := mkHid hru
      have HI2 := mkHid hru.ints
      obtain ⟨au, cu, rfl⟩ := HI2.out.form
      have HU1 := mkHid (oneCell_slice au d.length cu)
      have C1 := mkHid (fun W (h : Below w.heap.size w W) => CB1.out W h _ d (hru.ints.next h) hm)
      have C2 := mkHid (fun W (h : Below w.heap.size w W) => CB2.out W h _ d (hru.ints.next h) hm)
      have HD := mkHid hd
      have HCU := mkHid hcu
      clear hd hu hcu hm hru CB1 CB2
      cases f
      · cases hb : bef d c
        · obtain ⟨q1, q2⟩ := putI_here HI.out HD.out hb
          have HQ := mkHid q1
          rw [hb] at C1
          cases hb2 : bef c d
          · rw [hb2, if_neg (by simp)] at q2
            have HQ2 := mkHid q2
            rw [hb2] at C2
            clear hb hb2 q1 q2
            go_wp2_with (first
              | (go_at_call 80; with_reducible refine (C1.out _ HB.out).mono ?_; rintro e w6 ⟨rfl, m6, rfl⟩; have HB6 := mkHid (bdr HB.out m6))
              | (go_at_call 80; with_reducible refine (C2.out _ HB6.out).mono ?_; rintro e w7 ⟨rfl, m7, rfl⟩; have HB7 := mkHid (bdr HB6.out m7))
              | (at_builtin; refine wpList_appV rfl (.tmp 35) (.tmp 40) rfl rfl rfl (x := .slice au d.length cu) HY.out HU1.out (by have := HN.out; omega) (bdr HB.out _).size (bdr HB.out _) ?_; intro v8 w8 H8))
            go_roundw
            case rel => exact ⟨k + 1, true, by omega, rfl, by go_num, mkHid ⟨HQ.out, ⟨_, H8.out.1, by rw [HQ2.out]; exact HZ.out.snoc HRU.out⟩, H8.out.2.2⟩⟩
            case measure => simp [intOf]; omega
          · rw [hb2, if_pos rfl] at q2
            have HQ2 := mkHid q2
            rw [hb2] at C2
            clear hb hb2 q1 q2
            go_wp2_with (first
              | (go_at_call 80; with_reducible refine (C1.out _ HB.out).mono ?_; rintro e w6 ⟨rfl, m6, rfl⟩; have HB6 := mkHid (bdr HB.out m6))
              | (go_at_call 80; with_reducible refine (C2.out _ HB6.out).mono ?_; rintro e w7 ⟨rfl, m7, rfl⟩; have HB7 := mkHid (bdr HB6.out m7))
              | (at_builtin; refine wpList_appV rfl (.tmp 31) (.tmp 33) rfl rfl rfl (x := .slice ax c.length cx) HY.out HX1.out (by have := HN.out; omega) (bdr HB.out _).size (bdr HB.out _) ?_; intro v9 w9 H9; have p9 := cell_grows H9.out.2.2 HCU.out)
              | (at_builtin; refine wpList_appV rfl (.tmp 35) (.tmp 40) rfl rfl rfl (x := .slice au d.length cu) H9.out.1 HU1.out (by have := HN.out; simp; omega) H9.out.2.2.size H9.out.2.2 ?_; intro v8 w8 H8))
            go_roundw
            case rel => exact ⟨k + 1, true, by omega, rfl, by go_num, mkHid ⟨HQ.out, ⟨_, H8.out.1, by rw [HQ2.out]; exact (HZ.out.snoc HX.out).snoc HRU.out⟩, H8.out.2.2⟩⟩
            case measure => simp [intOf]; omega
        · obtain ⟨q1, q2⟩ := putI_keep HI.out HD.out hb
          have HQ := mkHid q1
          have HQ2 := mkHid q2
          rw [hb] at C1
          clear hb q1 q2
          go_wp2_with (first
            | (go_at_call 80; with_reducible refine (C1.out _ HB.out).mono ?_; rintro e w6 ⟨rfl, m6, rfl⟩; have HB6 := mkHid (bdr HB.out m6))
            | (at_builtin; refine wpList_appV rfl (.tmp 35) (.tmp 40) rfl rfl rfl (x := .slice au d.length cu) HY.out HU1.out (by have := HN.out; omega) (bdr HB.out _).size (bdr HB.out _) ?_; intro v8 w8 H8))
          go_roundw
          case rel => exact ⟨k + 1, false, by omega, rfl, by go_num, mkHid ⟨HQ.out, ⟨_, H8.out.1, by rw [HQ2.out]; exact HZ.out.snoc HRU.out⟩, H8.out.2.2⟩⟩
          case measure => simp [intOf]; omega
      · obtain ⟨q1, q2⟩ := putI_after HI.out HD.out
        have HQ := mkHid q1
        have HQ2 := mkHid q2
        clear q1 q2
        go_wp2_with (first
          | (at_builtin; refine wpList_appV rfl (.tmp 35) (.tmp 40) rfl rfl rfl (x := .slice au d.length cu) HY.out HU1.out (by have := HN.out; omega) HB.out.size HB.out ?_; intro v8 w8 H8))
        go_roundw
        case rel => exact ⟨k + 1, true, by omega, rfl, by go_num, mkHid ⟨HQ.out, ⟨_, H8.out.1, by rw [HQ2.out]; exact HZ.out.snoc HRU.out⟩, H8.out.2.2⟩⟩
        case measure => simp [intOf]; omega
    · have hk1 : ¬ (k : Int) < (L.length : Int) := by omega
      obtain rfl : k = L.length := by omega
      have HP := mkHid (putM_all HI.out)
      cases f
      · go_wp2_with (at_builtin; refine wpList_appV rfl (.tmp 44) (.tmp 46) rfl rfl rfl (x := .slice ax c.length cx) HY.out HX1.out (by have := HN.out; omega) HB.out.size HB.out ?_; intro v8 w8 H8)
        go_ret
        exact ⟨_, rfl, mkHid ⟨⟨_, H8.out.1, by rw [HP.out]; exact HZ.out.snoc HX.out⟩, H8.out.2.2⟩⟩
      · go_wp2
        go_ret
        exact ⟨_, rfl, mkHid ⟨⟨_, HY.out, by rw [HP.out]; exact HZ.out⟩, HB.out⟩⟩
end Go.Proofs.Ytalpbpcanebbbaa
