/- LitTruths: Holds, Any and All answer what the specification of the chapter answers. -/
import Derived.Test.YtniagnbeeebobaaLX
import Derived.Test.YtniagnbeeebobaaLQ
namespace Go.Proofs.Ytniagnbeeebobaa
open Go.RowKit VM LM

set_option maxRecDepth 100000 in
set_option maxHeartbeats 8000000 in
theorem litTruths_any (a : BitVec 128) (v : Value) (l : List Int) (x : Int) (w : World) (hv : Ints w v l) (hll : l.length ≤ 9223372036854775807) (h64 : ∀ x ∈ l, In64 x) (hx : In64 x) :
    Calls Try.prog 5 #[sv a, v, .int .i64 x] w fun e w' => e = .returned (.bool true) ∧ Below w.heap.size w w' := by
  have CW := mkHid works_any
  obtain ⟨ao, cap, rfl⟩ := hv.form
  by_cases h1 : l.length ≤ 500
  · have g1 : ¬ (500 : Int) < (l.length : Int) := by omega
    have C1 := mkHid (fun W => holds_any a x W hx)
    have C2 := mkHid (fun W => rholds_any a x W)
    have C3 := mkHid (fun W (h : Below w.heap.size w W) => anyL_any a _ l W (hv.next h) (by omega) h64)
    have C4 := mkHid (fun W (h : Below w.heap.size w W) => rany_any a _ l W (hv.next h) (by omega))
    have C5 := mkHid (fun W (h : Below w.heap.size w W) => allL_any a _ l W (hv.next h) (by omega) h64)
    have C6 := mkHid (fun W (h : Below w.heap.size w W) => rall_any a _ l W (hv.next h) (by omega))
    have hX : Bx w (w.alloc (.cells #[.int .u64 (wd (lo a)), .int .u64 (wd (hi a))] 36)) w.heap.size (wd (lo a)) (wd (hi a)) := ⟨bal (Below.refl _ _) _, AtS.new w w.heap.size _ _ _ rfl⟩
    clear hv h64 hx h1
    unfold sv at *
    generalize holdsL a x = b1 at *
    generalize anyL a l = b2 at *
    generalize allL a l = b3 at *
    generalize wd (lo a) = al at *
    generalize wd (hi a) = ah at *
    obtain ⟨p1, p2, -, -⟩ := hX.2
    go_enter Try.func5, Try.ntmps5
    go_wp2
    have hs0 : Bx w (w.alloc (.cells #[.int .u64 al, .int .u64 ah] 36)).drew w.heap.size al ah := ⟨hX.1.drew, hX.2⟩
    go_region_held3 (fun W => Bx w W w.heap.size al ah ∧ W.cell? ⟨w.heap.size, 0, none⟩ = some (.int .u64 al) ∧ W.cell? ⟨w.heap.size, 1, none⟩ = some (.int .u64 ah))
      (first
        | (with_reducible exact ⟨hS.1.next hw, cell_grows hw hS.2.1, cell_grows hw hS.2.2⟩)
        | exact ⟨hs0, p1, p2⟩)
      (first
        | (go_at_call 23; have hS : Bx w _ _ _ _ ∧ _ := (by assumption); ((with_reducible refine (C1.out _).mono ?_); rintro e w6 ⟨rfl, hw⟩))
        | (go_at_call 24; have hS : Bx w _ _ _ _ ∧ _ := (by assumption); ((with_reducible refine (C2.out _).mono ?_); rintro e w6 ⟨rfl, hw⟩))
        | (go_at_call 25; have hS : Bx w _ _ _ _ ∧ _ := (by assumption); have hS1 := hS.1.1; ((with_reducible refine (C3.out _ hS1).mono ?_); rintro e w6 ⟨rfl, hw⟩))
        | (go_at_call 26; have hS : Bx w _ _ _ _ ∧ _ := (by assumption); have hS1 := hS.1.1; ((with_reducible refine (C4.out _ hS1).mono ?_); rintro e w6 ⟨rfl, hw⟩))
        | (go_at_call 27; have hS : Bx w _ _ _ _ ∧ _ := (by assumption); have hS1 := hS.1.1; ((with_reducible refine (C5.out _ hS1).mono ?_); rintro e w6 ⟨rfl, hw⟩))
        | (go_at_call 28; have hS : Bx w _ _ _ _ ∧ _ := (by assumption); have hS1 := hS.1.1; ((with_reducible refine (C6.out _ hS1).mono ?_); rintro e w6 ⟨rfl, hw⟩))
        | (go_at_call 16; have hS : Bx w _ _ _ _ ∧ _ := (by assumption); ((with_reducible refine (CW.out _).mono ?_); rintro e w6 ⟨rfl, hw⟩)))
    have hT' : Bx w _ _ _ _ ∧ _ := (by assumption)
    have HB := mkHid hT'.1.1
    clear hT'
    go_wp2
    go_ret
    exact ⟨rfl, HB.out⟩
  · have g1 : (500 : Int) < (l.length : Int) := by omega
    clear hv h64 hx
    unfold sv
    go_enter Try.func5, Try.ntmps5
    go_wp2_with (go_at_call 16; refine (CW.out _).mono ?_; rintro e w4 ⟨rfl, hb⟩)
    go_ret
    exact ⟨rfl, bnx (bal (Below.refl _ _) _) hb⟩
end Go.Proofs.Ytniagnbeeebobaa
