/- Package rat: RatNews. -/
import Derived.Test.YtflcdpolfimggaaDoorG10
namespace Go.Proofs.YtflcdpolfimggaaDoor
open Go.RowKit Q SD

set_option maxRecDepth 100000 in
set_option maxHeartbeats 16000000 in
theorem news_raw (a b : ByteArray) (n d : Nat) (h : Taken a b n d) (x y : Nat) (p q p' q' : Nat) (ok ok' : Bool)
    (CN : Gives 9 #[nv n, nv d] (.tuple #[rv p q, .bool ok])) (RN : ∀ W, Calls Tryd.prog 11 #[.string (ds n), .string (ds d)] W fun e w' => e = .returned (.tuple #[sv p q, .bool ok]) ∧ Below W.heap.size W w')
    (CO : Gives 13 #[.int .u64 (x : Int), .int .u64 (y : Int)] (.tuple #[rv p' q', .bool ok'])) (RO : ∀ W, Calls Tryd.prog 14 #[.int .u64 (x : Int), .int .u64 (y : Int)] W fun e w' => e = .returned (.tuple #[sv p' q', .bool ok']) ∧ Below W.heap.size W w')
    (S1 : Gives 15 #[rv p q, sv p q] (.bool true)) (S2 : Gives 15 #[rv p' q', sv p' q'] (.bool true)) :
    Gives 3 #[.string a, .string b, .int .u64 (x : Int), .int .u64 (y : Int)] (.bool true) := by
  intro W ht h6
  have CW := mkHid rworks_g
  have CA := mkHid (number_of a n h.nn h.da)
  have CB := mkHid (number_of b d h.nd h.db)
  have DA := mkHid h.da
  have DB := mkHid h.db
  replace CN := mkHid CN
  replace RN := mkHid RN
  replace CO := mkHid CO
  replace RO := mkHid RO
  replace S1 := mkHid S1
  replace S2 := mkHid S2
  unfold rv sv at *
  unfold nv at *
  clear h
  generalize lo (dz q) = lz at *
  generalize hi (dz q) = kz at *
  generalize lo (p) = lp at *
  generalize hi (p) = kp at *
  generalize lo (dz q') = lz' at *
  generalize hi (dz q') = kz' at *
  generalize lo (p') = lp' at *
  generalize hi (p') = kp' at *
  generalize lo (n) = ln at *
  generalize hi (n) = kn at *
  generalize lo (d) = ld at *
  generalize hi (d) = kd at *
  generalize ds p = sp at *
  generalize ds q = sq at *
  generalize ds p' = sp' at *
  generalize ds q' = sq' at *
  generalize ds n = sn at *
  generalize ds d = sd at *
  have HS := mkHid (St.refl ht h6)
  clear ht h6
  cases ok <;> cases ok'
  all_goals
    go_enter Tryd.func3, Tryd.ntmps3
    go_wp2_with (first
      | (go_at_call 10; (with_reducible refine (CA.out _ HS.out.tabs HS.out.six').mono ?_); rintro e w6 ⟨rfl, hb⟩; have HS := mkHid (HS.out.next hb); clear hb)
      | (go_at_call 10; (with_reducible refine (CB.out _ HS.out.tabs HS.out.six').mono ?_); rintro e w6 ⟨rfl, hb⟩; have HS := mkHid (HS.out.next hb); clear hb)
      | (go_at_call 9; (with_reducible refine (CN.out _ HS.out.tabs HS.out.six').mono ?_); rintro e wHX ⟨rfl, hb⟩; have HS := mkHid (HS.out.next hb); have HS := mkHid (HS.out.alloc (.cells #[.int .u64 (lp : Int), .string kp, .int .u64 (lz : Int), .string kz] 26)); have HX := mkHid (At4.new wHX wHX.heap.size lp kp lz kz rfl); clear hb; obtain ⟨⟨HX0, HX1, HX2, HX3⟩, -⟩ := HX.out)
      | (go_at_call 12; (with_reducible refine (DA.out _).mono ?_); rintro e w6 ⟨rfl, h2⟩; obtain rfl := h2.symm; clear h2)
      | (go_at_call 12; (with_reducible refine (DB.out _).mono ?_); rintro e w6 ⟨rfl, h2⟩; obtain rfl := h2.symm; clear h2)
      | (go_at_call 11; (with_reducible refine (RN.out _).mono ?_); rintro e wHY ⟨rfl, hb⟩; have HS := mkHid (HS.out.next hb); have HX := mkHid (HX.out.grows hb); have HS := mkHid (HS.out.alloc (.cells #[.string sp, .string sq] 31)); have HX := mkHid (HX.out.alloc (.cells #[.string sp, .string sq] 31)); have HY := mkHid (AtS.new wHY wHY.heap.size sp sq rfl); clear hb; obtain ⟨⟨HX0, HX1, HX2, HX3⟩, -⟩ := HX.out; obtain ⟨HY0, HY1, -, -⟩ := HY.out)
      | (go_at_call 13; (with_reducible refine (CO.out _ HS.out.tabs HS.out.six').mono ?_); rintro e wHV ⟨rfl, hb⟩; have HS := mkHid (HS.out.next hb); have HX := mkHid (HX.out.grows hb); have HY := mkHid (HY.out.grows hb); have HS := mkHid (HS.out.alloc (.cells #[.int .u64 (lp' : Int), .string kp', .int .u64 (lz' : Int), .string kz'] 26)); have HX := mkHid (HX.out.alloc (.cells #[.int .u64 (lp' : Int), .string kp', .int .u64 (lz' : Int), .string kz'] 26)); have HY := mkHid (HY.out.alloc (.cells #[.int .u64 (lp' : Int), .string kp', .int .u64 (lz' : Int), .string kz'] 26)); have HV := mkHid (At4.new wHV wHV.heap.size lp' kp' lz' kz' rfl); clear hb; obtain ⟨⟨HX0, HX1, HX2, HX3⟩, -⟩ := HX.out; obtain ⟨HY0, HY1, -, -⟩ := HY.out; obtain ⟨⟨HV0, HV1, HV2, HV3⟩, -⟩ := HV.out)
      | (go_at_call 14; (with_reducible refine (RO.out _).mono ?_); rintro e wHU ⟨rfl, hb⟩; have HS := mkHid (HS.out.next hb); have HX := mkHid (HX.out.grows hb); have HY := mkHid (HY.out.grows hb); have HV := mkHid (HV.out.grows hb); have HS := mkHid (HS.out.alloc (.cells #[.string sp', .string sq'] 31)); have HX := mkHid (HX.out.alloc (.cells #[.string sp', .string sq'] 31)); have HY := mkHid (HY.out.alloc (.cells #[.string sp', .string sq'] 31)); have HV := mkHid (HV.out.alloc (.cells #[.string sp', .string sq'] 31)); have HU := mkHid (AtS.new wHU wHU.heap.size sp' sq' rfl); clear hb; obtain ⟨⟨HX0, HX1, HX2, HX3⟩, -⟩ := HX.out; obtain ⟨HY0, HY1, -, -⟩ := HY.out; obtain ⟨⟨HV0, HV1, HV2, HV3⟩, -⟩ := HV.out; obtain ⟨HU0, HU1, -, -⟩ := HU.out)
      | (go_at_call 15; (with_reducible refine (S1.out _ HS.out.tabs HS.out.six').mono ?_); rintro e w6 ⟨rfl, hb⟩; have HS := mkHid (HS.out.next hb); have HX := mkHid (HX.out.grows hb); have HY := mkHid (HY.out.grows hb); have HV := mkHid (HV.out.grows hb); have HU := mkHid (HU.out.grows hb); clear hb; obtain ⟨⟨HX0, HX1, HX2, HX3⟩, -⟩ := HX.out; obtain ⟨HY0, HY1, -, -⟩ := HY.out; obtain ⟨⟨HV0, HV1, HV2, HV3⟩, -⟩ := HV.out; obtain ⟨HU0, HU1, -, -⟩ := HU.out)
      | (go_at_call 15; (with_reducible refine (S2.out _ HS.out.tabs HS.out.six').mono ?_); rintro e w6 ⟨rfl, hb⟩; have HS := mkHid (HS.out.next hb); have HX := mkHid (HX.out.grows hb); have HY := mkHid (HY.out.grows hb); have HV := mkHid (HV.out.grows hb); have HU := mkHid (HU.out.grows hb); clear hb; obtain ⟨⟨HX0, HX1, HX2, HX3⟩, -⟩ := HX.out; obtain ⟨HY0, HY1, -, -⟩ := HY.out; obtain ⟨⟨HV0, HV1, HV2, HV3⟩, -⟩ := HV.out; obtain ⟨HU0, HU1, -, -⟩ := HU.out)
      | (go_at_call 16; (with_reducible refine (CW.out _ HS.out.tabs HS.out.six').mono ?_); rintro e w6 ⟨rfl, hb⟩; have HS := mkHid (HS.out.next hb); have HX := mkHid (HX.out.grows hb); have HY := mkHid (HY.out.grows hb); have HV := mkHid (HV.out.grows hb); have HU := mkHid (HU.out.grows hb); clear hb; obtain ⟨⟨HX0, HX1, HX2, HX3⟩, -⟩ := HX.out; obtain ⟨HY0, HY1, -, -⟩ := HY.out; obtain ⟨⟨HV0, HV1, HV2, HV3⟩, -⟩ := HV.out; obtain ⟨HU0, HU1, -, -⟩ := HU.out))
    go_ret
    exact ⟨rfl, HS.out.below⟩
theorem ratNews_any (a b : ByteArray) (x y : Nat) (w : World) (hx : x < M.B) (hy : y < M.B) (ht : Tabs w) (h6 : 6 ≤ w.heap.size) :
    Calls Tryd.prog 3 #[.string a, .string b, .int .u64 (x : Int), .int .u64 (y : Int)] w fun e w' => e = .returned (.bool true) ∧ Below w.heap.size w w' := by
  obtain ⟨n, d, h⟩ := taken a b
  have sn : Sm n := sm_pow (nd_small h.nn) (by omega)
  have sd : Sm d := sm_pow (nd_small h.nd) (by omega)
  have Z : Gives 15 #[rv 0 1, sv 0 1] (.bool true) := same_g 0 1 (sm_word (by decide)) (sm_word (by decide)) (by omega)
  have hB : M.B = 18446744073709551616 := rfl
  have P2 : ∀ n d : Nat, 0 < d → Sm n → Sm d → Gives 15 #[rv (rn n d) (rd n d), sv (rn n d) (rd n d)] (.bool true) := fun n d h0 hn hd =>
    same_g _ _ (sm_le (Nat.div_le_self _ _) hn) (sm_le (Nat.div_le_self _ _) hd) (low n d h0).1
  by_cases h1 : d = 0
  · subst h1
    by_cases h2 : y = 0
    · subst h2
      exact news_raw a b n 0 h x 0 0 1 0 1 false false (new_zero n) (fun W => snew_zero n W) (of2_zero x hx) (fun W => sof2_zero x W (by omega)) Z Z w ht h6
    · exact news_raw a b n 0 h x y 0 1 (rn x y) (rd x y) false true (new_zero n) (fun W => snew_zero n W) (of2_pos x y hx hy h2) (fun W => sof2_pos x y W (by omega) (by omega) (by omega)) Z (P2 x y (by omega) (sm_word hx) (sm_word hy)) w ht h6
  · by_cases h2 : y = 0
    · subst h2
      exact news_raw a b n d h x 0 (rn n d) (rd n d) 0 1 true false (new_pos n d sn sd h1) (fun W => snew_pos n d W (by omega) (Nat.le_trans h.nn (by omega)) (Nat.le_trans h.nd (by omega))) (of2_zero x hx) (fun W => sof2_zero x W (by omega)) (P2 n d (by omega) sn sd) Z w ht h6
    · exact news_raw a b n d h x y (rn n d) (rd n d) (rn x y) (rd x y) true true (new_pos n d sn sd h1) (fun W => snew_pos n d W (by omega) (Nat.le_trans h.nn (by omega)) (Nat.le_trans h.nd (by omega))) (of2_pos x y hx hy h2) (fun W => sof2_pos x y W (by omega) (by omega) (by omega)) (P2 n d (by omega) sn sd) (P2 x y (by omega) (sm_word hx) (sm_word hy)) w ht h6
end Go.Proofs.YtflcdpolfimggaaDoor
