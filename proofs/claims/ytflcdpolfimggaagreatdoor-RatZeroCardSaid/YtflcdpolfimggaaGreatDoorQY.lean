/- Package rat: pieces for the laws that ask the specification. -/
import Derived.Test.YtflcdpolfimggaaGreatDoorQU
import Derived.Test.YtflcdpolfimggaaGreatDoorQV
namespace Go.Proofs.YtflcdpolfimggaaGreatDoor
open Go.RowKit Q SD

theorem At2.set2 {w : World} {b l : Nat} {h : ByteArray} (H : At2 w b l h) {r : Nat} (hne : b ≠ r) (x y : Value) : At2 ((w.setCell ⟨r, 0, none⟩ x).setCell ⟨r, 1, none⟩ y) b l h := H.setOff hne x y
theorem AtS.set4 {w : World} {b : Nat} {x y : ByteArray} (H : AtS w b x y) {r : Nat} (hne : b ≠ r) (p q s t : Value) : AtS ((((w.setCell ⟨r, 0, none⟩ p).setCell ⟨r, 1, none⟩ q).setCell ⟨r, 2, none⟩ s).setCell ⟨r, 3, none⟩ t) b x y := H.same (set4_heap hne p q s t)
/-- New pairs of the specification that hold nothing. -/
def Zt (W : World) (l : List Nat) : Prop := ∀ p ∈ l, AtS W p ⟨#[]⟩ ⟨#[]⟩
theorem Zt.nil (W : World) : Zt W [] := fun _ h => by cases h
theorem Zt.next {W w' : World} {l : List Nat} (h : Zt W l) (hb : Below W.heap.size W w') : Zt w' l := fun p hp => (h p hp).grows hb
theorem Zt.h1 {W : World} {p : Nat} {l : List Nat} (h : Zt W (p :: l)) : AtS W p ⟨#[]⟩ ⟨#[]⟩ := h p (.head _)
theorem Zt.h2 {W : World} {p q : Nat} {l : List Nat} (h : Zt W (q :: p :: l)) : AtS W p ⟨#[]⟩ ⟨#[]⟩ := h p (.tail _ (.head _))
theorem Zt.drew {W : World} {l : List Nat} (h : Zt W l) : Zt W.drew l := fun p hp => (h p hp).drew
theorem Zt.box {W : World} {l : List Nat} (h : Zt W l) : Zt (W.alloc (.cells #[.string ⟨#[]⟩, .string ⟨#[]⟩] 32)) (W.heap.size :: l) := by
  intro p hp
  rcases List.mem_cons.1 hp with rfl | hp
  · exact AtS.new W _ _ _ rfl
  · exact (h p hp).alloc _
/-- A contract that asks nothing of the world. -/
abbrev Says (F : FuncId) (args : Array Value) (v : Value) : Prop := ∀ W, Calls Tryz.prog F args W fun e w' => e = .returned v ∧ Below W.heap.size W w'
theorem same_low (n d : Nat) (hd : 0 < d) (hn : Sm n) (hs : Sm d) : Gives 11 #[rv (rn n d) (rd n d), sv (rn n d) (rd n d)] (.bool true) :=
  same_g _ _ (sm_le (Nat.div_le_self _ _) hn) (sm_le (Nat.div_le_self _ _) hs) (low n d hd).1
end Go.Proofs.YtflcdpolfimggaaGreatDoor
