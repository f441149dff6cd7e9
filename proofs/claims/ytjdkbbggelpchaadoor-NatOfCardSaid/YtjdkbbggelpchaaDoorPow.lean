/- The contract of Pow2. -/
import Derived.Test.YtjdkbbggelpchaaDoorLen
import Derived.Test.YtjdkbbggelpchaaDoorShift
namespace Go.Proofs.YtjdkbbggelpchaaDoor
open Go.RowKit

set_option maxRecDepth 100000 in
set_option maxHeartbeats 1000000 in
theorem pow2_in (n : Nat) (hn : n ≤ 4096) (w : World) :
    Calls Tryd.prog 30 #[.int .i64 n] w fun e w' => e = .returned (natV (2 ^ n)) ∧ Below w.heap.size w w' := by
  have CS : Hid (∀ W b cap, Words W b 0 [1] → Calls Tryd.prog 59 #[.slice (some ⟨b, 0, none⟩) 1 cap, .int .i64 n] W fun e w' => ∃ b', e = .returned (.slice (some ⟨b', 0, none⟩) (n / 64 + 1 + 1) (n / 64 + 1 + 1)) ∧
      ∃ zs, Hid (zs.length = n / 64 + 1 + 1 ∧ M.Ok zs ∧ M.val zs = M.val [1] * 2 ^ n ∧ W.heap.size ≤ b' ∧ Row w' b' (n / 64 + 1 + 1) zs ∧ Below W.heap.size W w')) := mkHid fun W b cap hW => shiftLeft_any b 0 cap n [1] W hW (by simp) (M.Ok.cons M.one_lt_B M.Ok.nil) (by omega)
  have HV : Hid (M.val [1] * 2 ^ n = 2 ^ n) := mkHid (by simp [M.val])
  rw [HV.out] at CS
  have CP : Hid (∀ (b : Nat) (zs : List Nat) (W : World), Row W b (n / 64 + 1 + 1) zs → zs.length = n / 64 + 1 + 1 → M.Ok zs → M.val zs = 2 ^ n → Calls Tryd.prog 38 #[.slice (some ⟨b, 0, none⟩) (n / 64 + 1 + 1) (n / 64 + 1 + 1)] W fun e w' => e = .returned (natV (2 ^ n)) ∧ Below W.heap.size W w') := mkHid fun b zs W hw hl ok hv => by
    have := pack_any b _ zs W hw (by omega) ok
    rwa [hv, hl] at this
  unfold natV at CP ⊢
  generalize hs (2 ^ n) = h3 at *
  generalize 2 ^ n % M.B = l3 at *
  generalize 2 ^ n = p at *
  have hn1 : (n : Int) ≤ 4096 := by omega
  have HA := mkHid (At2.new w _ 0 ⟨#[]⟩ rfl)
  have HW1 : Hid (Words ((w.alloc (.cells #[.int .u64 ((0 : Nat) : Int), .string ⟨#[]⟩] 26)).alloc (.cells #[.int .u64 1] 24)) (w.heap.size + 1) 0 [1]) := mkHid fun j hj => by
    have hb : ((w.alloc (.cells #[.int .u64 ((0 : Nat) : Int), .string ⟨#[]⟩] 26)).alloc (.cells #[.int .u64 1] 24)).heap[w.heap.size + 1]? = some (.cells #[.int .u64 1] 24 (0, 0)) := by
      have := heap_alloc_new (w.alloc (.cells #[.int .u64 ((0 : Nat) : Int), .string ⟨#[]⟩] 26)) (.cells #[.int .u64 1] 24)
      simpa using this
    match j, hj with
    | 0, _ =>
      constructor
      · simp only [World.cell?, hb]; rfl
      · simp only [World.frozen?, hb]; rfl
  clear hn
  go_enter Tryd.func30, Tryd.ntmps30
  go_wp2_with fail
  refine (CS.out _ _ _ HW1.out).mono ?_
  rintro e w2 ⟨b', rfl, zs, R⟩
  have HA2 := mkHid (((HA.out.alloc (.cells #[.int .u64 1] 24))).past R.out.2.2.2.2.2 ⟨rfl, rfl, rfl, rfl⟩)
  have HB2 := mkHid (below_past ((((Below.refl w.heap.size w).alloc (Nat.le_refl _) (.cells #[.int .u64 ((0 : Nat) : Int), .string ⟨#[]⟩] 26))).alloc (by simp) (.cells #[.int .u64 1] 24)) R.out.2.2.2.2.2 ⟨rfl, rfl, rfl, rfl⟩ (by simp; omega))
  go_wp2_with fail
  refine (CP.out b' zs _ R.out.2.2.2.2.1 R.out.1 R.out.2.1 R.out.2.2.1).mono ?_
  rintro e w3 ⟨rfl, hb⟩
  obtain ⟨h10, h11, hf10, hf11⟩ := HA2.out.past hb ⟨rfl, rfl, rfl, rfl⟩
  have HB3 := mkHid (below_past HB2.out hb ⟨rfl, rfl, rfl, rfl⟩ HB2.out.size)
  clear hb
  go_wp2
  refine bodyPost_ret (v := .agg #[.int .u64 (l3 : Int), .string h3]) (by simp [results, Tryd.results30, go_sem, h10, h11]) rfl ⟨rfl, ?_⟩
  exact setCells_below HB3.out _ (Nat.le_refl _) _ _

set_option maxHeartbeats 1000000 in
theorem pow2_out (n : Int) (hn : n < 0 ∨ 4096 < n) (w : World) :
    Calls Tryd.prog 30 #[.int .i64 n] w fun e w' => e = .returned (natV 0) ∧ Below w.heap.size w w' := by
  unfold natV
  rw [hs_small M.B_pos, Nat.zero_mod]
  have HB := mkHid ((Below.refl w.heap.size w).alloc (Nat.le_refl _) (.cells #[.int .u64 ((0 : Nat) : Int), .string ⟨#[]⟩] 26))
  rcases hn with hn | hn
  · go_enter Tryd.func30, Tryd.ntmps30
    go_wp2
    refine bodyPost_ret (v := .agg #[.int .u64 ((0 : Nat) : Int), .string ⟨#[]⟩]) (by simp [results, Tryd.results30, go_sem]) rfl ⟨rfl, ?_⟩
    exact HB.out
  · have h0 : ¬ n < 0 := by omega
    go_enter Tryd.func30, Tryd.ntmps30
    go_wp2
    refine bodyPost_ret (v := .agg #[.int .u64 ((0 : Nat) : Int), .string ⟨#[]⟩]) (by simp [results, Tryd.results30, go_sem]) rfl ⟨rfl, ?_⟩
    exact HB.out

end Go.Proofs.YtjdkbbggelpchaaDoor
