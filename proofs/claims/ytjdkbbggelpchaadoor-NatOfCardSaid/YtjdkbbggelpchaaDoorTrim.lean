/- The contract of trim. -/
import Derived.Test.YtjdkbbggelpchaaDoorW
namespace Go.Proofs.YtjdkbbggelpchaaDoor
open Go.RowKit

set_option maxHeartbeats 400000 in
theorem trim_any (b off cap : Nat) (l : List Nat) (w : World) (hm : cap ≤ maxLen) (hc : l.length ≤ cap) (hok : M.Ok l) (hw : Words w b off l) :
    Calls Tryd.prog 54 #[.slice (some ⟨b, off, none⟩) l.length cap] w fun e w' => e = .returned (.slice (some ⟨b, off, none⟩) (M.dig (M.val l)).length cap) ∧ w = w' := by
  unfold maxLen at hm
  have HW := Lib.hid hw; clear hw
  have HOK := Lib.hid hok; clear hok
  go_enter Tryd.func54, Tryd.ntmps54
  go_wp2
  go_loop [0] (fun v => ∃ k : Nat, k ≤ l.length ∧ v = .slice (some ⟨b, off, none⟩) k cap ∧ Hid (M.val (l.take k) = M.val l)) (fun v => match v with | .slice _ k _ => k | _ => 0)
  case atStart => exact ⟨l.length, Nat.le_refl _, rfl, by simp [Hid]⟩
  case round =>
    obtain ⟨k, hk, rfl, hv⟩ := hrel
    by_cases hk0 : k = 0
    · subst hk0
      go_wp2
      go_ret
      refine ⟨?_, rfl⟩
      have h := M.dig_take HOK.out 0 hk hv.out (fun h0 => absurd h0 (by omega))
      rw [h]; rfl
    · obtain ⟨m, rfl⟩ : ∃ m, k = m + 1 := ⟨k - 1, by omega⟩
      clear hk0
      have hm0 : 0 < m + 1 := by omega
      have hcell : w.cell? ⟨b, off + m, none⟩ = some (.int .u64 ((l[m] : Nat) : Int)) := (HW.out m (by omega)).1
      obtain ⟨x, hx⟩ : ∃ x, l[m] = x := ⟨_, rfl⟩
      rw [hx] at hcell
      have HX := Lib.hid hx; clear hx
      by_cases hz : x = 0
      · subst hz
        go_wp2
        refine ⟨⟨m, by omega, rfl, ?_⟩, by simp⟩
        have h1 := M.val_take_succ (l := l) (i := m) (by omega)
        rw [HX.out, hv.out] at h1
        show M.val (l.take m) = M.val l
        omega
      · go_wp2
        go_ret
        refine ⟨?_, rfl⟩
        have h := M.dig_take HOK.out (m + 1) hk hv.out (fun _ => by simp only [Nat.add_sub_cancel]; rw [HX.out]; exact hz)
        rw [h, List.length_take, Nat.min_eq_left hk]; rfl
end Go.Proofs.YtjdkbbggelpchaaDoor
