/- Contracts of the specification's loops: has, All1, Opposite, In, Holds, Any, All, Subsumes. -/
import Derived.Test.YtniagnbeeebobaaLF
namespace Go.Proofs.Ytniagnbeeebobaa
open Go.RowKit VM LM

theorem Ints.uni {w : World} {v : Value} {l : List Int} (h : Ints w v l) : ∃ ao cap, v = .slice ao l.length cap ∧ ∀ j (x : Int), l[j]? = some x → ∃ b off, ao = some ⟨b, off, none⟩ ∧ w.cell? ⟨b, off + j, none⟩ = some (.int .i64 x) := by
  rcases h with ⟨rfl, ao, cap, rfl⟩ | ⟨b, off, cap, rfl, h3⟩
  · exact ⟨ao, cap, rfl, fun j x hj => by simp at hj⟩
  · exact ⟨_, cap, rfl, fun j x hj => ⟨b, off, rfl, h3 j x hj⟩⟩
section
variable {α : Type} {l : List α} {P : α → Bool} {k : Nat} {x : α}
theorem any_found (hx : l[k]? = some x) (hp : P x = true) : l.any P = true := List.any_eq_true.2 ⟨x, List.mem_of_getElem? hx, hp⟩
theorem any_none (h : ∀ y ∈ l.take k, P y = false) (hk : k = l.length) : l.any P = false := by
  subst hk
  rw [List.take_length] at h
  rw [List.any_eq_false]
  intro y hy
  rw [h y hy]; simp
theorem any_start : ∀ y ∈ l.take 0, P y = false := by simp
theorem any_step (h : ∀ y ∈ l.take k, P y = false) (hx : l[k]? = some x) (hp : P x = false) : ∀ y ∈ l.take (k + 1), P y = false := by
  intro y hy
  rw [List.take_add_one, hx] at hy
  rcases List.mem_append.1 hy with hy | hy
  · exact h y hy
  · simp at hy; rw [hy]; exact hp
end

set_option maxRecDepth 100000 in
set_option maxHeartbeats 2000000 in
theorem rhas_any (v : Value) (l : List Int) (x : Int) (w : World) (hv : Ints w v l) (hlen : l.length ≤ 9223372036854775807) :
    Calls Try.prog 46 #[v, .int .i64 x] w fun e w' => e = .returned (.bool (l.contains x)) ∧ w' = w := by
  obtain ⟨ao, cap, rfl, hc⟩ := hv.uni
  have HC := mkHid hc
  have HR : Hid (l.contains x = l.any (fun y => decide (y = x))) := mkHid (by
    rw [Bool.eq_iff_iff]; simp)
  rw [HR.out]
  clear hc hv
  go_enter Try.func46, Try.ntmps46
  go_wp2
  go_loopw [5] (fun iv wr => ∃ k : Nat, k ≤ l.length ∧ iv = .int .i64 (k : Int) ∧ Hid (∀ y ∈ l.take k, (fun y => decide (y = x)) y = false) ∧ wr = w) (fun iv _ => l.length - (intOf iv).toNat)
  case atStart => exact ⟨0, Nat.zero_le _, rfl, mkHid any_start, rfl⟩
  case round =>
    obtain ⟨k, hk, rfl, H, rfl⟩ := hrel
    by_cases hlt : k < l.length
    · obtain ⟨y, hy⟩ : ∃ y, l[k]? = some y := ⟨l[k], List.getElem?_eq_getElem hlt⟩
      obtain ⟨b, off, rfl, hcx⟩ := HC.out k y hy
      have hk1 : (k : Int) < (l.length : Int) := by omega
      have HY := mkHid hy
      clear hy
      by_cases hxy : y = x
      · have HF := mkHid (any_found (P := fun y => decide (y = x)) HY.out (by simp [hxy]))
        go_wp2
        go_ret
        exact ⟨by rw [HF.out]; rfl, rfl⟩
      · go_wp2
        go_roundw
        case rel => exact ⟨k + 1, by omega, by go_num, mkHid (any_step H.out HY.out (by simp [hxy])), trivial⟩
        case measure => simp [intOf]; omega
    · have hk1 : ¬ (k : Int) < (l.length : Int) := by omega
      have HF := mkHid (any_none H.out (by omega))
      go_wp2
      go_ret
      exact ⟨by rw [HF.out]; rfl, rfl⟩

set_option maxRecDepth 100000 in
set_option maxHeartbeats 2000000 in
theorem rall1_any (v : Value) (l : List Int) (n : Int) (w : World) (hv : Ints w v l) (hlen : l.length ≤ 9223372036854775807) :
    Calls Try.prog 34 #[v, .int .i64 n] w fun e w' => e = .returned (.bool (validAll l n)) ∧ w' = w := by
  obtain ⟨ao, cap, rfl, hc⟩ := hv.uni
  have HC := mkHid hc
  have HR : Hid (validAll l n = !l.any (fun y => !validL y n)) := mkHid (by
    unfold validAll; rw [List.all_eq_not_any_not])
  have CV := mkHid (fun y W => rvalid_any y n W)
  rw [HR.out]
  clear hc hv
  go_enter Try.func34, Try.ntmps34
  go_wp2
  go_loopw [5] (fun iv wr => ∃ k : Nat, k ≤ l.length ∧ iv = .int .i64 (k : Int) ∧ Hid (∀ y ∈ l.take k, (fun y => !validL y n) y = false) ∧ wr = w) (fun iv _ => l.length - (intOf iv).toNat)
  case atStart => exact ⟨0, Nat.zero_le _, rfl, mkHid any_start, rfl⟩
  case round =>
    obtain ⟨k, hk, rfl, H, rfl⟩ := hrel
    by_cases hlt : k < l.length
    · obtain ⟨y, hy⟩ : ∃ y, l[k]? = some y := ⟨l[k], List.getElem?_eq_getElem hlt⟩
      obtain ⟨b, off, rfl, hcx⟩ := HC.out k y hy
      have hk1 : (k : Int) < (l.length : Int) := by omega
      have HY := mkHid hy
      have C := mkHid (CV.out y)
      clear hy CV
      cases hp : validL y n
      · have HF := mkHid (any_found (P := fun y => !validL y n) HY.out (by simp [hp]))
        rw [hp] at C
        clear hp
        go_wp2_with (go_at_call 15; refine (C.out _).mono ?_; rintro e w2 ⟨rfl, rfl⟩)
        go_ret
        exact ⟨by rw [HF.out]; rfl, rfl⟩
      · have HP := mkHid hp
        rw [hp] at C
        clear hp
        go_wp2_with (go_at_call 15; refine (C.out _).mono ?_; rintro e w2 ⟨rfl, rfl⟩)
        go_roundw
        case rel => exact ⟨k + 1, by omega, by go_num, mkHid (any_step H.out HY.out (by simp [HP.out])), trivial⟩
        case measure => simp [intOf]; omega
    · have hk1 : ¬ (k : Int) < (l.length : Int) := by omega
      have HF := mkHid (any_none H.out (by omega))
      go_wp2
      go_ret
      exact ⟨by rw [HF.out]; rfl, rfl⟩

set_option maxRecDepth 100000 in
set_option maxHeartbeats 2000000 in
theorem rsubs_any (v u : Value) (l d : List Int) (w : World) (hv : Ints w v l) (hu : Ints w u d) (hlen : l.length ≤ 9223372036854775807) (hd : d.length ≤ 9223372036854775807) :
    Calls Try.prog 32 #[v, u] w fun e w' => e = .returned (.bool (subsL l d)) ∧ w' = w := by
  obtain ⟨ao, cap, rfl, hc⟩ := hv.uni
  have HC := mkHid hc
  have HR : Hid (subsL l d = !l.any (fun y => !d.contains y)) := mkHid (by
    unfold subsL; rw [List.all_eq_not_any_not])
  have CV := mkHid (fun y => rhas_any u d y w hu hd)
  obtain ⟨ao2, cap2, rfl⟩ := hu.form
  rw [HR.out]
  generalize hres : l.any (fun y => !d.contains y) = res
  have HRES := mkHid hres
  clear hres
  clear hc hv hu
  go_enter Try.func32, Try.ntmps32
  go_wp2
  go_loopw [5] (fun iv wr => ∃ k : Nat, k ≤ l.length ∧ iv = .int .i64 (k : Int) ∧ Hid (∀ y ∈ l.take k, (fun y => !d.contains y) y = false) ∧ wr = w) (fun iv _ => l.length - (intOf iv).toNat)
  case atStart => exact ⟨0, Nat.zero_le _, rfl, mkHid any_start, rfl⟩
  case round =>
    obtain ⟨k, hk, rfl, H, rfl⟩ := hrel
    by_cases hlt : k < l.length
    · obtain ⟨y, hy⟩ : ∃ y, l[k]? = some y := ⟨l[k], List.getElem?_eq_getElem hlt⟩
      obtain ⟨b, off, rfl, hcx⟩ := HC.out k y hy
      have hk1 : (k : Int) < (l.length : Int) := by omega
      have HY := mkHid hy
      have C := mkHid (CV.out y)
      clear hy CV
      cases hp : d.contains y
      · have HF := mkHid (any_found (P := fun y => !d.contains y) HY.out (by simp only [hp]; rfl))
        rw [hp] at C
        clear hp
        go_wp2_with (go_at_call 46; refine C.out.mono ?_; rintro e w2 ⟨rfl, rfl⟩)
        go_ret
        exact ⟨by rw [← HRES.out, HF.out]; rfl, rfl⟩
      · have HP := mkHid hp
        rw [hp] at C
        clear hp
        go_wp2_with (go_at_call 46; refine C.out.mono ?_; rintro e w2 ⟨rfl, rfl⟩)
        go_roundw
        case rel => exact ⟨k + 1, by omega, by go_num, mkHid (any_step H.out HY.out (by simp only [HP.out]; rfl)), trivial⟩
        case measure => simp [intOf]; omega
    · have hk1 : ¬ (k : Int) < (l.length : Int) := by omega
      have HF := mkHid (any_none H.out (by omega))
      go_wp2
      go_ret
      exact ⟨by rw [← HRES.out, HF.out]; rfl, rfl⟩

set_option maxRecDepth 100000 in
set_option maxHeartbeats 2000000 in
theorem ropp_any (v : Value) (l : List Int) (w : World) (hv : Ints w v l) (hlen : l.length ≤ 9223372036854775807) :
    Calls Try.prog 35 #[v] w fun e w' => e = .returned (.bool (opp l)) ∧ w' = w := by
  have hu := hv
  obtain ⟨ao, cap, rfl, hc⟩ := hv.uni
  have HC := mkHid hc
  have CV := mkHid (fun y W => rvar_any y W)
  have CH := mkHid (fun y => rhas_any _ l y w hu hlen)
  unfold opp
  generalize hres : (l.any fun x => decide (0 < varL x) && l.contains (-x)) = res
  have HRES := mkHid hres
  clear hres
  clear hc hv hu
  go_enter Try.func35, Try.ntmps35
  go_wp2
  go_loopw [3] (fun iv wr => ∃ k : Nat, k ≤ l.length ∧ iv = .int .i64 (k : Int) ∧ Hid (∀ y ∈ l.take k, (fun x => decide (0 < varL x) && l.contains (-x)) y = false) ∧ wr = w) (fun iv _ => l.length - (intOf iv).toNat)
  case atStart => exact ⟨0, Nat.zero_le _, rfl, mkHid any_start, rfl⟩
  case round =>
    obtain ⟨k, hk, rfl, H, rfl⟩ := hrel
    by_cases hlt : k < l.length
    · obtain ⟨y, hy⟩ : ∃ y, l[k]? = some y := ⟨l[k], List.getElem?_eq_getElem hlt⟩
      obtain ⟨b, off, rfl, hcx⟩ := HC.out k y hy
      have hk1 : (k : Int) < (l.length : Int) := by omega
      have HY := mkHid hy
      have C := mkHid (CV.out y)
      have D := mkHid (CH.out (-y))
      clear hy CV CH
      by_cases hv : 0 < varL y
      · have e : IntKind.i64.wrap (-y) = -y := IntWalk.i64_in _ (by rcases varL_pos hv with h | h <;> omega)
        cases hp : l.contains (-y)
        · have HP : Hid ((fun x => decide (0 < varL x) && l.contains (-x)) y = false) := mkHid (by simp only [hp, Bool.and_false])
          rw [hp] at D
          clear hp
          generalize varL y = vy at C hv
          go_wp2_with (first | (go_at_call 13; refine (C.out _).mono ?_; rintro e w2 ⟨rfl, rfl⟩) | (go_at_call 46; refine D.out.mono ?_; rintro e w3 ⟨rfl, rfl⟩))
          go_roundw
          case rel => exact ⟨k + 1, by omega, by go_num, mkHid (any_step H.out HY.out HP.out), trivial⟩
          case measure => simp [intOf]; omega
        · have HF := mkHid (any_found (P := fun x => decide (0 < varL x) && l.contains (-x)) HY.out (by simp only [hp, hv, decide_true, Bool.and_true]))
          rw [hp] at D
          clear hp
          generalize varL y = vy at C hv
          go_wp2_with (first | (go_at_call 13; refine (C.out _).mono ?_; rintro e w2 ⟨rfl, rfl⟩) | (go_at_call 46; refine D.out.mono ?_; rintro e w3 ⟨rfl, rfl⟩))
          go_ret
          exact ⟨by rw [← HRES.out, HF.out]; rfl, rfl⟩
      · have HP : Hid ((fun x => decide (0 < varL x) && l.contains (-x)) y = false) := mkHid (by simp only [hv, decide_false, Bool.false_and])
        generalize varL y = vy at C hv
        go_wp2_with (first | (go_at_call 13; refine (C.out _).mono ?_; rintro e w2 ⟨rfl, rfl⟩))
        go_roundw
        case rel => exact ⟨k + 1, by omega, by go_num, mkHid (any_step H.out HY.out HP.out), trivial⟩
        case measure => simp [intOf]; omega
    · have hk1 : ¬ (k : Int) < (l.length : Int) := by omega
      have HF := mkHid (any_none H.out (by omega))
      go_wp2
      go_ret
      exact ⟨by rw [← HRES.out, HF.out]; rfl, rfl⟩
end Go.Proofs.Ytniagnbeeebobaa
