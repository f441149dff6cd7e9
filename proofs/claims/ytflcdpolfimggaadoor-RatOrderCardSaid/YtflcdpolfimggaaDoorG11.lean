/- Package rat: pieces for the laws over rat. -/
import Derived.Test.YtflcdpolfimggaaDoorG10
namespace Go.Proofs.YtflcdpolfimggaaDoor
open Go.RowKit Q SD

theorem set4_heap {w : World} {b r : Nat} (hne : b ≠ r) (x y z u : Value) : ((((w.setCell ⟨r, 0, none⟩ x).setCell ⟨r, 1, none⟩ y).setCell ⟨r, 2, none⟩ z).setCell ⟨r, 3, none⟩ u).heap[b]? = w.heap[b]? :=
  (Below.heap_setCell _ _ _ _ hne).trans ((Below.heap_setCell _ _ _ _ hne).trans ((Below.heap_setCell _ _ _ _ hne).trans (Below.heap_setCell _ _ _ _ hne)))
theorem At4.same {w w' : World} {b l l2 : Nat} {h h2 : ByteArray} (H : At4 w b l h l2 h2) (e : w'.heap[b]? = w.heap[b]?) : At4 w' b l h l2 h2 :=
  ⟨⟨(World.cell?_of_block (a := ⟨b, 0, none⟩) e).trans H.1.1, (World.cell?_of_block (a := ⟨b, 1, none⟩) e).trans H.1.2.1, (World.cell?_of_block (a := ⟨b, 2, none⟩) e).trans H.1.2.2.1, (World.cell?_of_block (a := ⟨b, 3, none⟩) e).trans H.1.2.2.2⟩,
   ⟨(World.frozen?_of_block (a := ⟨b, 0, none⟩) e).trans H.2.1, (World.frozen?_of_block (a := ⟨b, 1, none⟩) e).trans H.2.2.1, (World.frozen?_of_block (a := ⟨b, 2, none⟩) e).trans H.2.2.2.1, (World.frozen?_of_block (a := ⟨b, 3, none⟩) e).trans H.2.2.2.2⟩⟩
theorem At4.set4 {w : World} {b l l2 : Nat} {h h2 : ByteArray} (H : At4 w b l h l2 h2) {r : Nat} (hne : b ≠ r) (x y z u : Value) : At4 ((((w.setCell ⟨r, 0, none⟩ x).setCell ⟨r, 1, none⟩ y).setCell ⟨r, 2, none⟩ z).setCell ⟨r, 3, none⟩ u) b l h l2 h2 := H.same (set4_heap hne x y z u)
theorem At4.setOff {w : World} {b l l2 : Nat} {h h2 : ByteArray} (H : At4 w b l h l2 h2) {r : Nat} (hne : b ≠ r) (x y z u : Value) : At4 ((((w.setCell ⟨r, 0, none⟩ x).setCell ⟨r, 1, none⟩ y).setCell ⟨r, 2, none⟩ z).setCell ⟨r, 3, none⟩ u) b l h l2 h2 := H.set4 hne x y z u
theorem At4.offOf {w : World} {b b' l l2 l' l2' : Nat} {h h2 h' h2' : ByteArray} (H : At4 w b l h l2 h2) (_ : At4 w b' l' h' l2' h2') (hne : b ≠ b') (x y z u : Value) : At4 ((((w.setCell ⟨b', 0, none⟩ x).setCell ⟨b', 1, none⟩ y).setCell ⟨b', 2, none⟩ z).setCell ⟨b', 3, none⟩ u) b l h l2 h2 := H.set4 hne x y z u
theorem AtV.set4 {w : World} {b r : Nat} {x y : ByteArray} (H : AtV w b x y) (hne : b ≠ r) (p q s t : Value) : AtV ((((w.setCell ⟨r, 0, none⟩ p).setCell ⟨r, 1, none⟩ q).setCell ⟨r, 2, none⟩ s).setCell ⟨r, 3, none⟩ t) b x y := ⟨set4_other H.1 hne p q s t, set4_other H.2 hne p q s t⟩
theorem AtV.lt {w : World} {b : Nat} {x y : ByteArray} (H : AtV w b x y) : b < w.heap.size := World.block_lt_of_cell? w _ H.1
theorem At2.set4 {w : World} {b l : Nat} {h : ByteArray} (H : At2 w b l h) {r : Nat} (hne : b ≠ r) (x y z u : Value) : At2 ((((w.setCell ⟨r, 0, none⟩ x).setCell ⟨r, 1, none⟩ y).setCell ⟨r, 2, none⟩ z).setCell ⟨r, 3, none⟩ u) b l h :=
  ⟨set4_other H.1 hne x y z u, set4_other H.2.1 hne x y z u, (World.frozen?_of_block (a := ⟨b, 0, none⟩) (set4_heap hne x y z u)).trans H.2.2.1, (World.frozen?_of_block (a := ⟨b, 1, none⟩) (set4_heap hne x y z u)).trans H.2.2.2⟩
theorem At4.set2 {w : World} {b l l2 : Nat} {h h2 : ByteArray} (H : At4 w b l h l2 h2) {r : Nat} (hne : b ≠ r) (x y : Value) : At4 ((w.setCell ⟨r, 0, none⟩ x).setCell ⟨r, 1, none⟩ y) b l h l2 h2 := H.same ((Below.heap_setCell _ _ _ _ hne).trans (Below.heap_setCell _ _ _ _ hne))
/-- New blocks that hold the quotient 0. -/
def Zq (W : World) (l : List Nat) : Prop := ∀ p ∈ l, At4 W p 0 ⟨#[]⟩ 0 ⟨#[]⟩
theorem Zq.nil (W : World) : Zq W [] := fun _ h => by cases h
theorem Zq.next {W w' : World} {l : List Nat} (h : Zq W l) (hb : Below W.heap.size W w') : Zq w' l := fun p hp => (h p hp).grows hb
theorem Zq.h1 {W : World} {p : Nat} {l : List Nat} (h : Zq W (p :: l)) : At4 W p 0 ⟨#[]⟩ 0 ⟨#[]⟩ := h p (.head _)
theorem Zq.h2 {W : World} {p q : Nat} {l : List Nat} (h : Zq W (q :: p :: l)) : At4 W p 0 ⟨#[]⟩ 0 ⟨#[]⟩ := h p (.tail _ (.head _))
theorem Zq.drew {W : World} {l : List Nat} (h : Zq W l) : Zq W.drew l := fun p hp => (h p hp).drew
theorem Zq.box {W : World} {l : List Nat} (h : Zq W l) : Zq (W.alloc (.cells #[.int .u64 0, .string ⟨#[]⟩, .int .u64 0, .string ⟨#[]⟩] 26)) (W.heap.size :: l) := by
  intro p hp
  rcases List.mem_cons.1 hp with rfl | hp
  · exact At4.new W _ 0 _ 0 _ rfl
  · exact (h p hp).alloc _
end Go.Proofs.YtflcdpolfimggaaDoor
