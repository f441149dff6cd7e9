/- Contracts of the specification of layer 1: digit, Cmp, form. -/
import Derived.Test.YtjdkbbggelpchaaDoorSD
import Derived.Test.YtjdkbbggelpchaaDoorRead
namespace Go.Proofs.YtjdkbbggelpchaaDoor
open Go.RowKit SD

theorem infoI : (Tryd.prog.info? 3).map (fun i => (i.zero, i.size, i.bytes)) = some (some (.int .i64 0), 1, 8) := by kernel_rfl
/-- A number as a value. -/
def iv (x : Nat) : Value := .int .i64 (x : Int)
/-- A slice of digits: empty, or cells. -/
def Dg (w : World) (v : Value) (l : List Nat) : Prop :=
  (l = [] ∧ ∃ ao cap, v = .slice ao 0 cap) ∨ ∃ b off cap, v = .slice (some ⟨b, off, none⟩) l.length cap ∧ ∀ (j x : Nat), l[j]? = some x → w.cell? ⟨b, off + j, none⟩ = some (.int .i64 (x : Int))
theorem Dg.uni {w : World} {v : Value} {l : List Nat} (h : Dg w v l) : ∃ ao cap, v = .slice ao l.length cap ∧ ∀ (j x : Nat), l[j]? = some x → ∃ b off, ao = some ⟨b, off, none⟩ ∧ w.cell? ⟨b, off + j, none⟩ = some (.int .i64 (x : Int)) := by
  rcases h with ⟨rfl, ao, cap, rfl⟩ | ⟨b, off, cap, rfl, h3⟩
  · exact ⟨ao, cap, rfl, fun j x hj => by simp at hj⟩
  · exact ⟨_, cap, rfl, fun j x hj => ⟨b, off, rfl, h3 j x hj⟩⟩
def OwnD (w : World) (base : Nat) (v : Value) (l : List Nat) : Prop := w.ownsRow base 3 1 v l.length (l.map iv)
theorem OwnD.nil (w : World) (base : Nat) : OwnD w base (.slice none 0 0) [] := World.ownsRow_nil w base _ 1
theorem OwnD.dg {w : World} {base : Nat} {v : Value} {l : List Nat} (h : OwnD w base v l) : Dg w v l := by
  obtain ⟨_, h⟩ := h
  rcases h with ⟨rfl, h0⟩ | ⟨g, cap, cur, rfl, hg, hc, h1, h2, h3, h4⟩
  · exact .inl ⟨List.eq_nil_of_length_eq_zero h0, none, 0, rfl⟩
  · refine .inr ⟨g, 0, cap, rfl, fun j x hj => ?_⟩
    have hj' : (l.map iv)[j]? = some (iv x) := by rw [List.getElem?_map, hj]; rfl
    rw [← h4, List.getElem?_take] at hj'
    split at hj'
    · simp only [World.cell?, hc, Nat.zero_add]
      rw [Array.getElem?_toList] at hj'
      simpa [iv] using hj'
    · cases hj'
theorem cell_grow2 {W w' : World} (hb : Below W.heap.size W w') {b o : Nat} {v : Value} (h : W.cell? ⟨b, o, none⟩ = some v) : w'.cell? ⟨b, o, none⟩ = some v :=
  (hb.cell (p := ⟨b, o, none⟩) (World.block_lt_of_cell? W _ h)).trans h
theorem Dg.next {w w' : World} {v : Value} {l : List Nat} (h : Dg w v l) (hb : Below w.heap.size w w') : Dg w' v l :=
  h.imp id fun ⟨b, off, cap, e, h3⟩ => ⟨b, off, cap, e, fun j x hj => cell_grow2 hb (h3 j x hj)⟩
theorem below_drew {B : Nat} {w W : World} (h : Below B w W) (n : Nat) : Below B w (W.drewN n) := ⟨h.os, h.tape, h.output, h.size, h.block⟩

theorem byte_dg (d : Nat) (h : d < 10) : IntKind.u8.wrap (((UInt8.ofNat (48 + d)).toNat : Int) - 48) = (d : Int) := by
  rw [D.dig_toNat d h, IntKind.wrap_u8]; omega

set_option maxRecDepth 100000 in
set_option maxHeartbeats 1000000 in
theorem digit_s (s : ByteArray) (L i d : Nat) (w : World) (hL : s.size = L) (hl : L ≤ 1000000) (hi : i < L) (c : UInt8) (hc : s[L - 1 - i]'(by omega) = c) (hd : IntKind.u8.wrap ((c.toNat : Int) - 48) = (d : Int)) (hd10 : d < 10) :
    Calls Tryd.prog 39 #[.string s, .int .i64 (i : Int)] w fun e w' => e = .returned (.int .i64 (d : Int)) ∧ w' = w := by
  have h1 : ¬ ((L : Int) ≤ (i : Int)) := by omega
  obtain ⟨k, hk⟩ : ∃ k, k = L - 1 - i := ⟨_, rfl⟩
  have hks : k < s.size := by omega
  have e2 : (L : Int) - 1 - (i : Int) = (k : Int) := by omega
  have hsk : s[k]'hks = c := by subst hk; exact hc
  have e5 : IntKind.i64.wrap (d : Int) = (d : Int) := IntWalk.i64_in _ (by omega)
  have e0 : (0 : Int) ≤ (k : Int) := by omega
  clear hc hk
  subst hL
  have e3 : IntKind.i64.wrap ((s.size : Int) - 1) = (s.size : Int) - 1 := IntWalk.i64_in _ (by omega)
  have e4 : IntKind.i64.wrap ((s.size : Int) - 1 - (i : Int)) = (k : Int) := by rw [e2]; exact IntWalk.i64_in _ (by omega)
  go_enter Tryd.func39, Tryd.ntmps39
  go_wp2
  go_ret
  exact ⟨rfl, rfl⟩
set_option maxRecDepth 100000 in
set_option maxHeartbeats 1000000 in
theorem digit_z (s : ByteArray) (i : Nat) (w : World) (hi : s.size ≤ i) :
    Calls Tryd.prog 39 #[.string s, .int .i64 (i : Int)] w fun e w' => e = .returned (.int .i64 0) ∧ w' = w := by
  have h1 : (s.size : Int) ≤ (i : Int) := by omega
  go_enter Tryd.func39, Tryd.ntmps39
  go_wp2
  go_ret
  exact ⟨rfl, rfl⟩
theorem digit_any (n i : Nat) (w : World) (hn : Lib.nDigits n ≤ 1000000) :
    Calls Tryd.prog 39 #[.string (ds n), .int .i64 (i : Int)] w fun e w' => e = .returned (.int .i64 ((dg n i : Nat) : Int)) ∧ w' = w := by
  by_cases h : i < Lib.nDigits n
  · exact digit_s (ds n) _ i (dg n i) w (ds_size n) hn h _ (ds_get n i h) (byte_dg _ (dg_lt n i)) (dg_lt n i)
  · rw [dg_zero n i (by omega)]
    exact digit_z (ds n) i w (by rw [ds_size]; omega)

set_option maxRecDepth 100000 in
set_option maxHeartbeats 1000000 in
theorem rcmp_any (a b : Nat) (w : World) :
    Calls Tryd.prog 15 #[.string (ds a), .string (ds b)] w fun e w' => e = .returned (.int .i64 (Lib.compareInt (a : Int) (b : Int))) ∧ w' = w := by
  have la := ds_size a
  have lb := ds_size b
  have ea := ds_list a
  have eb := ds_list b
  rcases Nat.lt_trichotomy a b with h | h | h
  · have hc : Lib.compareInt (a : Int) (b : Int) = -1 := by unfold Lib.compareInt; rw [if_pos (by omega)]
    rw [hc]
    by_cases hn : Lib.nDigits a < Lib.nDigits b
    · have hn1 : (Lib.nDigits a : Int) < (Lib.nDigits b : Int) := by omega
      clear ea eb hc
      generalize ds a = s at *
      generalize ds b = t at *
      go_enter Tryd.func15, Tryd.ntmps15
      go_wp2
      go_ret
      exact ⟨rfl, rfl⟩
    · have hm : Lib.nDigits a = Lib.nDigits b := by
        have := nDigits_mono a b (by omega); omega
      have hl : Op.bytesLess (ds a).toList (ds b).toList = true := by rw [ea, eb, dec_less a b hm]; simp [h]
      have hn1 : ¬ ((Lib.nDigits b : Int) < (Lib.nDigits b : Int)) := by omega
      rw [hm] at la
      clear ea eb hc
      generalize ds a = s at *
      generalize ds b = t at *
      go_enter Tryd.func15, Tryd.ntmps15
      go_wp2
      go_ret
      exact ⟨rfl, rfl⟩
  · subst h
    have hc : Lib.compareInt (a : Int) (a : Int) = 0 := by unfold Lib.compareInt; simp
    rw [hc]
    have hl : Op.bytesLess (ds a).toList (ds a).toList = false := by rw [ea, dec_less a a rfl]; simp
    clear ea eb hc lb
    generalize ds a = s at *
    go_enter Tryd.func15, Tryd.ntmps15
    go_wp2
    go_ret
    exact ⟨rfl, rfl⟩
  · have hc : Lib.compareInt (a : Int) (b : Int) = 1 := by unfold Lib.compareInt; rw [if_neg (by omega), if_pos (by omega)]
    rw [hc]
    have hne : ((ds a).toList == (ds b).toList) = false := by rw [ea, eb, beq_eq_false_iff_ne]; intro e; have := D.dec_inj e; omega
    have hle := nDigits_mono b a (by omega)
    by_cases hn : Lib.nDigits b < Lib.nDigits a
    · have hn1 : ¬ (Lib.nDigits a : Int) < (Lib.nDigits b : Int) := by omega
      have hn2 : ¬ (Lib.nDigits a : Int) = (Lib.nDigits b : Int) := by omega
      clear ea eb hc hle
      generalize ds a = s at *
      generalize ds b = t at *
      go_enter Tryd.func15, Tryd.ntmps15
      go_wp2
      go_ret
      exact ⟨rfl, rfl⟩
    · have hm : Lib.nDigits a = Lib.nDigits b := by omega
      have hl : Op.bytesLess (ds a).toList (ds b).toList = false := by rw [ea, eb, dec_less a b hm]; simp; omega
      rw [hm] at la
      clear ea eb hc hle
      generalize ds a = s at *
      generalize ds b = t at *
      go_enter Tryd.func15, Tryd.ntmps15
      go_wp2
      go_ret
      exact ⟨rfl, rfl⟩
end Go.Proofs.YtjdkbbggelpchaaDoor
