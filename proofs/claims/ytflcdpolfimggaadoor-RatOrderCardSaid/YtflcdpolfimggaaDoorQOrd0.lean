/- Package rat: RatOrder: pieces. -/
import Derived.Test.YtflcdpolfimggaaDoorQField
namespace Go.Proofs.YtflcdpolfimggaaDoor
open Go.RowKit Q SD

theorem ite_no {c : Bool} {p q : Prop} (h : c = false) (hq : q) : if c = true then p else q := by rw [h]; exact hq
theorem text_zero {tc : ByteArray} (h : (tc.toList == [48]) = true) : tc = ⟨#[48]⟩ := by
  have h1 : tc.toList = [48] := by simpa using h
  rw [str_toList] at h1
  exact ByteArray.ext (Array.ext' h1)

end Go.Proofs.YtflcdpolfimggaaDoor
