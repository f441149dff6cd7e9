/- LitFalse: a clause without opposite literals is false in some set. -/
import Derived.Test.YtniagnbeeebobaaLX
namespace Go.Proofs.Ytniagnbeeebobaa
open Go.RowKit VM LM

theorem order_in (l : List Int) : ∀ x ∈ order l, -128 ≤ x ∧ x ≤ 128 ∧ varL x ≠ 0 := by
  intro x hx
  have := ((mem_order l x).1 hx).2
  rcases varL_pos this with k | k <;> omega

set_option maxRecDepth 100000 in
set_option maxHeartbeats 4000000 in
theorem litFalse_any (v : Value) (l : List Int) (n : Int) (w : World) (hv : Ints w v l) (hll : l.length ≤ 9223372036854775807) (h64 : ∀ x ∈ l, In64 x) (_ : In64 n) :
    Calls Try.prog 9 #[v, .int .i64 n] w fun e w' => e = .returned (.bool true) ∧ Below w.heap.size w w' := by
  have CW := mkHid works_any
  obtain ⟨ao, cap, rfl⟩ := hv.form
  by_cases h1 : l.length ≤ 500
  · have g1 : ¬ (500 : Int) < (l.length : Int) := by omega
    have C1 := mkHid (clause_any _ l n w hv (by omega) h64)
    clear hv h64 h1
    cases hg : validAll l n
    · have E1 : clE l n = 1 := by unfold clE; rw [hg]; rfl
      rw [E1] at C1
      clear E1 hg
      generalize clB l n = b at *
      generalize clL l n = r at *
      go_enter Try.func9, Try.ntmps9
      go_wp2_with (first
        | (go_at_call 20; refine C1.out.mono ?_; rintro e w2 ⟨u, rfl, ho, hb⟩; have HB := mkHid hb; clear ho hb)
        | (go_at_call 16; refine (CW.out _).mono ?_; rintro e w4 ⟨rfl, hb⟩))
      go_ret
      exact ⟨rfl, bnx HB.out hb⟩
    · have E1 : clE l n = 0 := by unfold clE; rw [hg]; rfl
      have E2 : clB l n = opp l := by unfold clB; rw [hg]; rfl
      have E3 : clL l n = order l := by unfold clL; rw [hg]; rfl
      rw [E1, E2, E3] at C1
      clear E1 E2 E3 hg
      cases hp : opp l
      · rw [hp] at C1
        have HIN := mkHid (order_in l)
        have HLEN := mkHid (order_length l)
        have hf := any_falseS (order l) (by rw [opp_order]; exact hp)
        have C2 := mkHid (fun x W => rvar_any x W)
        have C3 := mkHid (fun W u (h : Ints W u (order l)) => false1_any u _ W h (by have := order_length l; omega) (fun x hx => ⟨(order_in l x hx).1, (order_in l x hx).2.1⟩))
        have C4 := mkHid (fun W u (h : Ints W u (order l)) => anyL_any (falseS (order l)) u _ W h (by have := order_length l; omega) (fun x hx => by have := order_in l x hx; unfold In64; omega))
        rw [hf] at C4
        clear hf hp
        generalize falseS (order l) = fs at *
        generalize order l = r at *
        go_enter Try.func9, Try.ntmps9
        go_wp2_with (first
          | (go_at_call 20; refine C1.out.mono ?_; rintro e w2 ⟨u, rfl, ho, hb⟩; have HO : Hid (Own w2 w.heap.size u r) := mkHid ho; have HB := mkHid hb; clear ho hb))
        have HU := mkHid HO.out.ints
        clear HO
        obtain ⟨ao3, cap3, rfl, hc⟩ := HU.out.uni
        have HC := mkHid hc
        clear hc
        go_loopw [8] (fun iv wr => ∃ k : Nat, k ≤ r.length ∧ iv = .int .i64 (k : Int) ∧ wr = w2) (fun iv _ => r.length - (intOf iv).toNat)
        case atStart => exact ⟨0, Nat.zero_le _, rfl, rfl⟩
        case round =>
          obtain ⟨k, hk, rfl, rfl⟩ := hrel
          have hlen0 := HLEN.out
          by_cases hlt : k < r.length
          · obtain ⟨y, hy⟩ : ∃ y, r[k]? = some y := ⟨r[k], List.getElem?_eq_getElem hlt⟩
            obtain ⟨b, off, rfl, hcx⟩ := HC.out k y hy
            have hk1 : (k : Int) < (r.length : Int) := by omega
            have hy0 := (HIN.out y (List.mem_of_getElem? hy)).2.2
            have C := mkHid (C2.out y)
            clear hy C2
            generalize varL y = vy at *
            go_wp2_with (go_at_call 13; refine (C.out _).mono ?_; rintro e w3 ⟨rfl, rfl⟩)
            go_roundw
            case rel => exact ⟨k + 1, by omega, by go_num, trivial⟩
            case measure => simp [intOf]; omega
          · have hk1 : ¬ (k : Int) < (r.length : Int) := by omega
            go_wp2_with (first
              | (go_at_call 33; refine (C3.out _ _ HU.out).mono ?_; rintro e w3 ⟨rfl, hb⟩; have HU3 := mkHid (HU.out.next hb); have HB3 := mkHid (bnx HB.out hb); clear hb)
              | (go_at_call 25; refine (C4.out _ _ HU3.out).mono ?_; rintro e w4 ⟨rfl, hb⟩; have HB4 := mkHid (bnx HB3.out hb); clear hb)
              | (go_at_call 16; refine (CW.out _).mono ?_; rintro e w5 ⟨rfl, hb⟩))
            go_ret
            exact ⟨rfl, bnx HB4.out hb⟩
      · rw [hp] at C1
        clear hp
        generalize order l = r at *
        go_enter Try.func9, Try.ntmps9
        go_wp2_with (first
          | (go_at_call 20; refine C1.out.mono ?_; rintro e w2 ⟨u, rfl, ho, hb⟩; have HB := mkHid hb; clear ho hb)
          | (go_at_call 16; refine (CW.out _).mono ?_; rintro e w4 ⟨rfl, hb⟩))
        go_ret
        exact ⟨rfl, bnx HB.out hb⟩
  · have g1 : (500 : Int) < (l.length : Int) := by omega
    clear hv h64
    go_enter Try.func9, Try.ntmps9
    go_wp2_with (go_at_call 16; refine (CW.out _).mono ?_; rintro e w4 ⟨rfl, hb⟩)
    go_ret
    exact ⟨rfl, hb⟩
end Go.Proofs.Ytniagnbeeebobaa
