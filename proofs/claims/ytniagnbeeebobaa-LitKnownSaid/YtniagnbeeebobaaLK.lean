/- Contracts of the specification: Order, Clause, Term; of the laws: copied. -/
import Derived.Test.YtniagnbeeebobaaLH
namespace Go.Proofs.Ytniagnbeeebobaa
open Go.RowKit VM LM

/-- append of one number to a slice of the call's own. -/
theorem wpList_app1 {w W : World} {ops : Array Oper} {rest : List Oper} {o : Oper} {a : Act} {Q : Exit → Act → World → Prop} (hgd : o.guard = none) (s y : Operand)
    (ho : o.op = .call { callee := .builtin .append, args := #[s, y], argTypes := #[25, 25] })
    {base : Nat} {v : Value} {l : List Int} {x : Int} (hs : a.eval s = v) (hx : a.eval y = .slice (some ⟨W.heap.size, 0, none⟩) 1 1) (hown : Own W base v l) (hlen : l.length ≤ 1000000) (hbase : base ≤ W.heap.size) (hb : Below base w W)
    (h : ∀ v' w', Hid (Own w' base v' (l ++ [x]) ∧ Below base w w') → wpList Try.prog ops Q rest (a.put o.dst v') w') :
    wpList Try.prog ops Q (o :: rest) a (W.alloc (.cells #[.int .i64 x] 3)) := by
  have h0 : Own (W.alloc (.cells #[.int .i64 x] 3)) base v l := hown.below (bal (Below.refl _ _) _)
  have hb0 : Below base w (W.alloc (.cells #[.int .i64 x] 3)) := hb.alloc hbase _
  refine wpList_app hgd s y ho hs hx h0 (Ints.new W [x] 3 _ rfl) (by simp; omega) (by simp; omega) fun v' w' ho' hg => h v' w' (mkHid ⟨ho', ?_⟩)
  exact Own.bel hb0 (by simp; omega) h0 hg

theorem ordK_length (l : List Int) : ∀ k, (ordK l k).length ≤ 2 * k := by
  intro k
  induction k with
  | zero => simp [ordK]
  | succ k ih =>
    rw [ordK, List.length_append, List.length_append]
    have e1 : (if l.contains (-((k : Int) + 1)) then [-((k : Int) + 1)] else []).length ≤ 1 := by split <;> simp
    have e2 : (if l.contains ((k : Int) + 1) then [(k : Int) + 1] else []).length ≤ 1 := by split <;> simp
    omega
theorem ordK_ff {l : List Int} {k : Nat} (h1 : l.contains (-((k : Int) + 1)) = false) (h2 : l.contains ((k : Int) + 1) = false) : ordK l (k + 1) = ordK l k := by
  rw [ordK, h1, h2]; simp
theorem ordK_tf {l : List Int} {k : Nat} (h1 : l.contains (-((k : Int) + 1)) = true) (h2 : l.contains ((k : Int) + 1) = false) : ordK l (k + 1) = ordK l k ++ [-((k : Int) + 1)] := by
  rw [ordK, h1, h2]; simp
theorem ordK_ft {l : List Int} {k : Nat} (h1 : l.contains (-((k : Int) + 1)) = false) (h2 : l.contains ((k : Int) + 1) = true) : ordK l (k + 1) = ordK l k ++ [(k : Int) + 1] := by
  rw [ordK, h1, h2]; simp
theorem ordK_tt {l : List Int} {k : Nat} (h1 : l.contains (-((k : Int) + 1)) = true) (h2 : l.contains ((k : Int) + 1) = true) : ordK l (k + 1) = ordK l k ++ [-((k : Int) + 1)] ++ [(k : Int) + 1] := by
  rw [ordK, h1, h2]; simp

set_option maxRecDepth 100000 in
set_option maxHeartbeats 4000000 in
theorem rorder_any (v : Value) (l : List Int) (w : World) (hv : Ints w v l) (hlen : l.length ≤ 1000000) :
    Calls Try.prog 36 #[v] w fun e w' => ∃ u, e = .returned u ∧ Hid (Own w' w.heap.size u (order l) ∧ Below w.heap.size w w') := by
  have CH := mkHid (fun x W (h : Below w.heap.size w W) => rhas_any v l x W (hv.next h) (by omega))
  obtain ⟨ao, cap, rfl⟩ := hv.form
  clear hv
  unfold order
  go_enter Try.func36, Try.ntmps36
  go_wp2
  go_loopw [3, 4] (fun ov iv wr => ∃ k : Nat, k ≤ 128 ∧ iv = .int .i64 ((k : Int) + 1) ∧ Hid (Own wr w.heap.size ov (ordK l k) ∧ Below w.heap.size w wr)) (fun _ iv _ => 129 - (intOf iv).toNat)
  case atStart => exact ⟨0, by omega, rfl, mkHid ⟨Own.nil _ _, Below.refl _ _⟩⟩
  case round =>
    obtain ⟨k, hk1, rfl, H⟩ := hrel
    by_cases hlt : k < 128
    · have hk3 : (k : Int) + 1 ≤ 128 := by omega
      have e1 : IntKind.i64.wrap (-((k : Int) + 1)) = -((k : Int) + 1) := IntWalk.i64_in _ (by omega)
      have C1 := mkHid (fun W h => CH.out (-((k : Int) + 1)) W h)
      have C2 := mkHid (fun W h => CH.out ((k : Int) + 1) W h)
      have HL := mkHid (ordK_length l k)
      clear CH
      cases h1 : l.contains (-((k : Int) + 1))
      · cases h2 : l.contains ((k : Int) + 1)
        · have HE := mkHid (ordK_ff h1 h2)
          rw [h1] at C1
          rw [h2] at C2
          clear h1 h2
          go_wp2_with (first
            | (go_at_call 46; with_reducible refine (C1.out _ H.out.2).mono ?_; rintro e w6 ⟨rfl, rfl⟩)
            | (go_at_call 46; with_reducible refine (C2.out _ H.out.2).mono ?_; rintro e w6 ⟨rfl, rfl⟩))
          go_roundw
          case rel => exact ⟨k + 1, by omega, by go_num, mkHid ⟨by rw [HE.out]; exact H.out.1, H.out.2⟩⟩
          case measure => simp [intOf]; omega
        · have HE := mkHid (ordK_ft h1 h2)
          rw [h1] at C1
          rw [h2] at C2
          clear h1 h2
          go_wp2_with (first
            | (go_at_call 46; with_reducible refine (C1.out _ H.out.2).mono ?_; rintro e w6 ⟨rfl, rfl⟩)
            | (go_at_call 46; with_reducible refine (C2.out _ H.out.2).mono ?_; rintro e w6 ⟨rfl, rfl⟩)
            | (at_builtin; refine wpList_app1 rfl (.tmp 21) (.tmp 23) rfl rfl rfl H.out.1 (by have := HL.out; omega) H.out.2.size H.out.2 ?_; intro v7 w7 H7))
          go_roundw
          case rel => exact ⟨k + 1, by omega, by go_num, mkHid ⟨by rw [HE.out]; exact H7.out.1, H7.out.2⟩⟩
          case measure => simp [intOf]; omega
      · cases h2 : l.contains ((k : Int) + 1)
        · have HE := mkHid (ordK_tf h1 h2)
          rw [h1] at C1
          rw [h2] at C2
          clear h1 h2
          go_wp2_with (first
            | (go_at_call 46; with_reducible refine (C1.out _ H.out.2).mono ?_; rintro e w6 ⟨rfl, rfl⟩)
            | (at_builtin; refine wpList_app1 rfl (.tmp 13) (.tmp 16) rfl rfl rfl H.out.1 (by have := HL.out; omega) H.out.2.size H.out.2 ?_; intro v7 w7 H7)
            | (go_at_call 46; with_reducible refine (C2.out _ H7.out.2).mono ?_; rintro e w8 ⟨rfl, rfl⟩))
          go_roundw
          case rel => exact ⟨k + 1, by omega, by go_num, mkHid ⟨by rw [HE.out]; exact H7.out.1, H7.out.2⟩⟩
          case measure => simp [intOf]; omega
        · have HE := mkHid (ordK_tt h1 h2)
          rw [h1] at C1
          rw [h2] at C2
          clear h1 h2
          go_wp2_with (first
            | (go_at_call 46; with_reducible refine (C1.out _ H.out.2).mono ?_; rintro e w6 ⟨rfl, rfl⟩)
            | (at_builtin; refine wpList_app1 rfl (.tmp 13) (.tmp 16) rfl rfl rfl H.out.1 (by have := HL.out; omega) H.out.2.size H.out.2 ?_; intro v7 w7 H7)
            | (go_at_call 46; with_reducible refine (C2.out _ H7.out.2).mono ?_; rintro e w8 ⟨rfl, rfl⟩)
            | (at_builtin; refine wpList_app1 rfl (.tmp 21) (.tmp 23) rfl rfl rfl H7.out.1 (by have := HL.out; simp; omega) H7.out.2.size H7.out.2 ?_; intro v9 w9 H9))
          go_roundw
          case rel => exact ⟨k + 1, by omega, by go_num, mkHid ⟨by rw [HE.out]; exact H9.out.1, H9.out.2⟩⟩
          case measure => simp [intOf]; omega
    · have e : k = 128 := by omega
      subst e
      go_wp2
      go_ret
      exact ⟨_, rfl, mkHid ⟨H.out.1, H.out.2⟩⟩
end Go.Proofs.Ytniagnbeeebobaa
