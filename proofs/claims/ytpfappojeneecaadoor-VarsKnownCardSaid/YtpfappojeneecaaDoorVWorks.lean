/- works: the chapter's examples. -/
import Derived.Test.YtpfappojeneecaaDoorVOf
namespace Go.Proofs.YtpfappojeneecaaDoor
open Go.RowKit VM

theorem Ints.new (w : World) (l : List Int) (t : TypeId) (n : Nat) (hn : n = w.heap.size) : Ints (w.alloc (.cells (l.map (Value.int .i64)).toArray t)) (.slice (some ⟨n, 0, none⟩) l.length l.length) l := by
  subst hn
  refine .inr ⟨w.heap.size, 0, l.length, rfl, fun j x hj => ?_⟩
  have hb : (w.alloc (.cells (l.map (Value.int .i64)).toArray t)).heap[w.heap.size]? = some (.cells (l.map (Value.int .i64)).toArray t (0, 0)) := heap_alloc_new w _
  simp only [World.cell?, hb, Nat.zero_add]
  simp [hj]
theorem sv1 : sv (ofL [1, 3, 0, -1, 129, 3]) = .agg #[.int .u64 5, .int .u64 0] := by kernel_rfl
theorem sv2 : sv (all 65) = .agg #[.int .u64 18446744073709551615, .int .u64 1] := by kernel_rfl
theorem sv3 : less (ofL [2]) (ofL [1]) = true := by decide +kernel
theorem sv4 : firstV (ofL [128, 3]) = 3 := by kernel_rfl
def ofWorks (l : List Int) (n : Nat) : Prop := ∀ (w : World) (b : Nat), b = w.heap.size → n = l.length →
  Calls Tryd.prog 14 #[.slice (some ⟨b, 0, none⟩) n n] (w.alloc (.cells (l.map (Value.int .i64)).toArray 3)) fun e w' => e = .returned (sv (ofL l)) ∧ Below w.heap.size w w'
theorem of_works (l : List Int) (n : Nat) (h : l.length ≤ 1000) : ofWorks l n := by
  intro w b hb hn
  subst hn
  have hI := Ints.new w l 3 b hb
  exact (of_any _ l _ hI (by omega)).mono fun e w' ⟨he, hw⟩ => ⟨he, bnx (bal (Below.refl _ _) _) hw⟩

theorem tab_al {w : World} (h : Tab w) (o : Obj) : Tab (w.alloc o) := h.below (bal (Below.refl _ _) o)

set_option maxRecDepth 100000 in
set_option maxHeartbeats 2000000 in
theorem works_any (w : World) (ht : Tab w) :
    Calls Tryd.prog 13 #[] w fun e w' => e = .returned (.bool true) ∧ Below w.heap.size w w' := by
  have C1 := of_works [1, 3, 0, -1, 129, 3] 6 (by decide)
  have C2 := of_works [2] 1 (by decide)
  have C3 := of_works [1] 1 (by decide)
  have C4 := of_works [128, 3] 2 (by decide)
  unfold ofWorks at C1 C2 C3 C4
  have CA := fun W => all_any 65 W (by omega) (by omega)
  have CL := fun W => less_any (ofL [2]) (ofL [1]) W
  have CF := fun W hT => first_any (ofL [128, 3]) W hT
  rw [sv1] at C1
  rw [sv2] at CA
  rw [sv3] at CL
  rw [sv4] at CF
  generalize sv (ofL [2]) = s2 at *
  generalize sv (ofL [1]) = s1 at *
  generalize sv (ofL [128, 3]) = s3 at *
  have HC1 := mkHid C1
  have HC2 := mkHid C2
  have HC3 := mkHid C3
  have HC4 := mkHid C4
  have HCA := mkHid CA
  have HCL := mkHid CL
  have HCF := mkHid CF
  clear C1 C2 C3 C4 CA CL CF
  have HT := mkHid ht
  clear ht
  have E := fun w => eq_words w 5 0 5 0
  have E2 := fun w => eq_words w 18446744073709551615 1 18446744073709551615 1
  go_enter Tryd.func13, Tryd.ntmps13
  go_wp2_with fail
  refine (HC1.out w _ rfl rfl).mono ?_
  rintro e w1 ⟨rfl, hb⟩
  have HB1 := mkHid hb
  clear hb
  go_wp2_with fail
  refine (HCA.out w1).mono ?_
  rintro e w2 ⟨rfl, hb⟩
  have HB2 := mkHid (bnx HB1.out hb)
  clear hb
  go_wp2_with fail
  refine (HC2.out w2 _ rfl rfl).mono ?_
  rintro e w3 ⟨rfl, hb⟩
  have HB3 := mkHid (bnx HB2.out hb)
  clear hb
  go_wp2_with fail
  refine (HC3.out w3 _ rfl rfl).mono ?_
  rintro e w4 ⟨rfl, hb⟩
  have HB4 := mkHid (bnx HB3.out hb)
  clear hb
  go_wp2_with fail
  refine (HCL.out w4).mono ?_
  rintro e w5 ⟨rfl, hb⟩
  have HB5 := mkHid (bnx HB4.out hb)
  clear hb
  go_wp2_with fail
  refine (HC4.out w5 _ rfl rfl).mono ?_
  rintro e w6 ⟨rfl, hb⟩
  have HB6 := mkHid (bnx HB5.out hb)
  clear hb
  go_wp2_with fail
  refine (HCF.out w6 (HT.out.below HB6.out)).mono ?_
  rintro e w7 ⟨rfl, hb⟩
  have HB7 := mkHid (bnx HB6.out hb)
  clear hb
  go_wp2_with fail
  go_ret
  exact ⟨rfl, HB7.out⟩
end Go.Proofs.YtpfappojeneecaaDoor
