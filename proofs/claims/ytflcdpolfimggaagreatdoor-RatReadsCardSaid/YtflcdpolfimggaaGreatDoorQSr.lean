/- Package rat: the specification's Read. -/
import Derived.Test.YtflcdpolfimggaaGreatDoorQRa
import Derived.Test.YtflcdpolfimggaaGreatDoorG11
namespace Go.Proofs.YtflcdpolfimggaaGreatDoor
open Go.RowKit Q SD

theorem blx_d {W X w' : World} (h : Below W.heap.size W X) (hb : Below X.drew.heap.size X.drew w') : Below W.heap.size W w' := blx (X := X.drew) ⟨h.os, h.tape, h.output, h.size, h.block⟩ hb
theorem AtS.growsd {X w' : World} {b : Nat} {x y : ByteArray} (H : AtS X b x y) (hb : Below X.drew.heap.size X.drew w') : AtS w' b x y := (AtS.drew H).grows hb

set_option maxRecDepth 100000 in
set_option maxHeartbeats 8000000 in
theorem sread_p_na (s : ByteArray) (hn : ∀ (j : Nat) (h : j < s.size), s[j]'h ≠ 47) (hsz : s.size ≤ 4294967280) (ra rb : ByteArray) (ib : Bool) (R1 : ∀ w, Calls Tryz.prog 33 #[.string s] w fun e w' => e = .returned (.tuple #[.string ra, .bool false]) ∧ w' = w) (R2 : ∀ w, Calls Tryz.prog 33 #[.string ⟨#[49]⟩] w fun e w' => e = .returned (.tuple #[.string rb, .bool ib]) ∧ w' = w) (z1 z2 : ByteArray) (RZ : ∀ W, Calls Tryz.prog 24 #[] W fun e w' => e = .returned (.agg #[.string z1, .string z2]) ∧ Below W.heap.size W w') (W : World) :
    Calls Tryz.prog 10 #[.string s] W fun e w' => e = .returned (.tuple #[.agg #[.string z1, .string z2], .bool false]) ∧ Below W.heap.size W w' := by
  replace R1 := mkHid R1
  replace R2 := mkHid R2
  replace RZ := mkHid RZ
  have HB := mkHid ((Below.refl W.heap.size W).alloc (Nat.le_refl _) (.cells #[.string ⟨#[]⟩, .string ⟨#[]⟩] 32))
  have HR := mkHid (AtS.new W W.heap.size ⟨#[]⟩ ⟨#[]⟩ rfl)
  replace hn := mkHid hn
  go_enter Tryz.func10, Tryz.ntmps10
  go_wp2_with fail
  go_loop [4, 5, 6] (fun av bv iv => ∃ i : Nat, i ≤ s.size ∧ av = .string s ∧ bv = .string ⟨#[49]⟩ ∧ iv = .int .i64 i) (fun _ _ iv => s.size - (intOf iv).toNat)
  case atStart => exact ⟨0, by omega, rfl, rfl, rfl⟩
  case round =>
    obtain ⟨i, hil, rfl, rfl, rfl⟩ := hrel
    by_cases hlt : i < s.size
    · have hls : i < s.size := by omega
      have hne1 : ¬ s[i]'hls = 47 := hn.out i hls
      obtain ⟨c, hcc⟩ : ∃ c, s[i]'hls = c := ⟨_, rfl⟩
      rw [hcc] at hne1
      have hne2 : ¬ (c.toNat : Int) = 47 := fun e => hne1 (UInt8.toNat_inj.1 (by rw [show (47 : UInt8).toNat = 47 from rfl]; omega))
      have hne3 : ((c.toNat : Int) == 47) = false := by simpa using hne2
      have hlt2 := mkHid hlt
      clear hlt
      go_wp2_with fail
      go_round
      case rel => exact ⟨i + 1, by have := hlt2.out; omega, rfl, rfl, by go_num⟩
      case measure => simp [intOf]; omega
    · have hie : i = s.size := by omega
      subst hie
      clear hil hlt
      go_wp2_with (first
        | (go_at_call 33; (with_reducible refine (R1.out _).mono ?_); rintro e w1 ⟨rfl, h2⟩; obtain rfl := h2.symm; clear h2)
        | (go_at_call 33; (with_reducible refine (R2.out _).mono ?_); rintro e w1 ⟨rfl, h2⟩; obtain rfl := h2.symm; clear h2)
        | (go_at_call 24; (with_reducible refine (RZ.out _).mono ?_); rintro e w2 ⟨rfl, hb⟩; have HB := mkHid (show Below W.heap.size W w2 by first | exact blx HB.out hb | exact blx_d HB.out hb); have HR := mkHid (show AtS w2 W.heap.size ⟨#[]⟩ ⟨#[]⟩ by first | exact HR.out.grows hb | exact HR.out.growsd hb); clear hb; obtain ⟨r0, r1, f0, f1⟩ := HR.out))
      refine bodyPost_ret (v := .tuple #[.agg #[.string z1, .string z2], .bool false]) (by simp [results, Tryz.results10, go_sem, r0, r1]) rfl ⟨rfl, ?_⟩
      exact setCells_belowB HB.out W.heap.size (Nat.le_refl _) _ _

set_option maxRecDepth 100000 in
set_option maxHeartbeats 8000000 in
theorem sread_p_ok (s : ByteArray) (hn : ∀ (j : Nat) (h : j < s.size), s[j]'h ≠ 47) (hsz : s.size ≤ 4294967280) (ra rb : ByteArray) (R1 : ∀ w, Calls Tryz.prog 33 #[.string s] w fun e w' => e = .returned (.tuple #[.string ra, .bool true]) ∧ w' = w) (R2 : ∀ w, Calls Tryz.prog 33 #[.string ⟨#[49]⟩] w fun e w' => e = .returned (.tuple #[.string rb, .bool true]) ∧ w' = w) (x1 x2 : ByteArray) (RN : ∀ W, Calls Tryz.prog 34 #[.string ra, .string rb] W fun e w' => e = .returned (.tuple #[.agg #[.string x1, .string x2], .bool true]) ∧ Below W.heap.size W w') (RT : ∀ W, Calls Tryz.prog 35 #[.agg #[.string x1, .string x2]] W fun e w' => e = .returned (.string s) ∧ Below W.heap.size W w') (W : World) :
    Calls Tryz.prog 10 #[.string s] W fun e w' => e = .returned (.tuple #[.agg #[.string x1, .string x2], .bool true]) ∧ Below W.heap.size W w' := by
  replace R1 := mkHid R1
  replace R2 := mkHid R2
  replace RN := mkHid RN
  replace RT := mkHid RT
  have HB := mkHid ((Below.refl W.heap.size W).alloc (Nat.le_refl _) (.cells #[.string ⟨#[]⟩, .string ⟨#[]⟩] 32))
  have HR := mkHid (AtS.new W W.heap.size ⟨#[]⟩ ⟨#[]⟩ rfl)
  replace hn := mkHid hn
  go_enter Tryz.func10, Tryz.ntmps10
  go_wp2_with fail
  go_loop [4, 5, 6] (fun av bv iv => ∃ i : Nat, i ≤ s.size ∧ av = .string s ∧ bv = .string ⟨#[49]⟩ ∧ iv = .int .i64 i) (fun _ _ iv => s.size - (intOf iv).toNat)
  case atStart => exact ⟨0, by omega, rfl, rfl, rfl⟩
  case round =>
    obtain ⟨i, hil, rfl, rfl, rfl⟩ := hrel
    by_cases hlt : i < s.size
    · have hls : i < s.size := by omega
      have hne1 : ¬ s[i]'hls = 47 := hn.out i hls
      obtain ⟨c, hcc⟩ : ∃ c, s[i]'hls = c := ⟨_, rfl⟩
      rw [hcc] at hne1
      have hne2 : ¬ (c.toNat : Int) = 47 := fun e => hne1 (UInt8.toNat_inj.1 (by rw [show (47 : UInt8).toNat = 47 from rfl]; omega))
      have hne3 : ((c.toNat : Int) == 47) = false := by simpa using hne2
      have hlt2 := mkHid hlt
      clear hlt
      go_wp2_with fail
      go_round
      case rel => exact ⟨i + 1, by have := hlt2.out; omega, rfl, rfl, by go_num⟩
      case measure => simp [intOf]; omega
    · have hie : i = s.size := by omega
      subst hie
      clear hil hlt
      go_wp2_with (first
        | (go_at_call 33; (with_reducible refine (R1.out _).mono ?_); rintro e w1 ⟨rfl, h2⟩; obtain rfl := h2.symm; clear h2)
        | (go_at_call 33; (with_reducible refine (R2.out _).mono ?_); rintro e w1 ⟨rfl, h2⟩; obtain rfl := h2.symm; clear h2)
        | (go_at_call 34; (with_reducible refine (RN.out _).mono ?_); rintro e w3 ⟨rfl, hb⟩; have HB := mkHid (show Below W.heap.size W w3 by first | exact blx HB.out hb | exact blx_d HB.out hb); have HB := mkHid (HB.out.alloc HB.out.size (.cells #[.string x1, .string x2] 32)); have HR := mkHid (show AtS w3 W.heap.size ⟨#[]⟩ ⟨#[]⟩ by first | exact HR.out.grows hb | exact HR.out.growsd hb); have HR := mkHid (HR.out.grows ((Below.refl _ _).alloc (Nat.le_refl _) (.cells #[.string x1, .string x2] 32))); have HX := mkHid (AtS.new w3 w3.heap.size x1 x2 rfl); clear hb; obtain ⟨x10, x11, -, -⟩ := HX.out; obtain ⟨r0, r1, f0, f1⟩ := HR.out)
        | (go_at_call 35; (with_reducible refine (RT.out _).mono ?_); rintro e w4 ⟨rfl, hb⟩; have HX := mkHid (HX.out.grows hb); have HB := mkHid (show Below W.heap.size W w4 by first | exact blx HB.out hb | exact blx_d HB.out hb); have HR := mkHid (show AtS w4 W.heap.size ⟨#[]⟩ ⟨#[]⟩ by first | exact HR.out.grows hb | exact HR.out.growsd hb); clear hb; obtain ⟨x10, x11, -, -⟩ := HX.out; obtain ⟨r0, r1, f0, f1⟩ := HR.out))
      refine bodyPost_ret (v := .tuple #[.agg #[.string x1, .string x2], .bool true]) (by simp [results, Tryz.results10, go_sem, r0, r1]) rfl ⟨rfl, ?_⟩
      exact setCells_belowB HB.out W.heap.size (Nat.le_refl _) _ _

set_option maxRecDepth 100000 in
set_option maxHeartbeats 8000000 in
theorem sread_s_na (s : ByteArray) (i0 : Nat) (hi : i0 < s.size) (hc : s[i0]'hi = 47) (hn : ∀ (j : Nat) (_ : j < i0) (h : j < s.size), s[j]'h ≠ 47) (hsz : s.size ≤ 4294967280) (ra rb : ByteArray) (ib : Bool) (R1 : ∀ w, Calls Tryz.prog 33 #[.string (s.extract 0 i0)] w fun e w' => e = .returned (.tuple #[.string ra, .bool false]) ∧ w' = w) (R2 : ∀ w, Calls Tryz.prog 33 #[.string (s.extract (i0 + 1) s.size)] w fun e w' => e = .returned (.tuple #[.string rb, .bool ib]) ∧ w' = w) (z1 z2 : ByteArray) (RZ : ∀ W, Calls Tryz.prog 24 #[] W fun e w' => e = .returned (.agg #[.string z1, .string z2]) ∧ Below W.heap.size W w') (W : World) :
    Calls Tryz.prog 10 #[.string s] W fun e w' => e = .returned (.tuple #[.agg #[.string z1, .string z2], .bool false]) ∧ Below W.heap.size W w' := by
  replace R1 := mkHid R1
  replace R2 := mkHid R2
  replace RZ := mkHid RZ
  have HB := mkHid ((Below.refl W.heap.size W).alloc (Nat.le_refl _) (.cells #[.string ⟨#[]⟩, .string ⟨#[]⟩] 32))
  have HR := mkHid (AtS.new W W.heap.size ⟨#[]⟩ ⟨#[]⟩ rfl)
  replace hn := mkHid hn
  have HC := mkHid hc
  clear hc
  go_enter Tryz.func10, Tryz.ntmps10
  go_wp2_with fail
  go_loop [4, 5, 6] (fun av bv iv => ∃ i : Nat, i ≤ i0 ∧ av = .string s ∧ bv = .string ⟨#[49]⟩ ∧ iv = .int .i64 i) (fun _ _ iv => s.size - (intOf iv).toNat)
  case atStart => exact ⟨0, by omega, rfl, rfl, rfl⟩
  case round =>
    obtain ⟨i, hil, rfl, rfl, rfl⟩ := hrel
    by_cases hlt : i < i0
    · have hls : i < s.size := by omega
      have hne1 : ¬ s[i]'hls = 47 := hn.out i hlt hls
      obtain ⟨c, hcc⟩ : ∃ c, s[i]'hls = c := ⟨_, rfl⟩
      rw [hcc] at hne1
      have hne2 : ¬ (c.toNat : Int) = 47 := fun e => hne1 (UInt8.toNat_inj.1 (by rw [show (47 : UInt8).toNat = 47 from rfl]; omega))
      have hne3 : ((c.toNat : Int) == 47) = false := by simpa using hne2
      have hlt2 := mkHid hlt
      clear hlt
      go_wp2_with fail
      go_round
      case rel => exact ⟨i + 1, by have := hlt2.out; omega, rfl, rfl, by go_num⟩
      case measure => simp [intOf]; omega
    · have hie : i = i0 := by omega
      subst hie
      clear hil hlt
      have hcc : s[i]'hi = 47 := HC.out
      go_upto_region 6 with fail
      go_region
      go_wp2_with (first
        | (go_at_call 33; (with_reducible refine (R1.out _).mono ?_); rintro e w1 ⟨rfl, h2⟩; obtain rfl := h2.symm; clear h2)
        | (go_at_call 33; (with_reducible refine (R2.out _).mono ?_); rintro e w1 ⟨rfl, h2⟩; obtain rfl := h2.symm; clear h2)
        | (go_at_call 24; (with_reducible refine (RZ.out _).mono ?_); rintro e w2 ⟨rfl, hb⟩; have HB := mkHid (show Below W.heap.size W w2 by first | exact blx HB.out hb | exact blx_d HB.out hb); have HR := mkHid (show AtS w2 W.heap.size ⟨#[]⟩ ⟨#[]⟩ by first | exact HR.out.grows hb | exact HR.out.growsd hb); clear hb; obtain ⟨r0, r1, f0, f1⟩ := HR.out))
      refine bodyPost_ret (v := .tuple #[.agg #[.string z1, .string z2], .bool false]) (by simp [results, Tryz.results10, go_sem, r0, r1]) rfl ⟨rfl, ?_⟩
      exact setCells_belowB HB.out W.heap.size (Nat.le_refl _) _ _

set_option maxRecDepth 100000 in
set_option maxHeartbeats 8000000 in
theorem sread_s_nb (s : ByteArray) (i0 : Nat) (hi : i0 < s.size) (hc : s[i0]'hi = 47) (hn : ∀ (j : Nat) (_ : j < i0) (h : j < s.size), s[j]'h ≠ 47) (hsz : s.size ≤ 4294967280) (ra rb : ByteArray) (R1 : ∀ w, Calls Tryz.prog 33 #[.string (s.extract 0 i0)] w fun e w' => e = .returned (.tuple #[.string ra, .bool true]) ∧ w' = w) (R2 : ∀ w, Calls Tryz.prog 33 #[.string (s.extract (i0 + 1) s.size)] w fun e w' => e = .returned (.tuple #[.string rb, .bool false]) ∧ w' = w) (z1 z2 : ByteArray) (RZ : ∀ W, Calls Tryz.prog 24 #[] W fun e w' => e = .returned (.agg #[.string z1, .string z2]) ∧ Below W.heap.size W w') (W : World) :
    Calls Tryz.prog 10 #[.string s] W fun e w' => e = .returned (.tuple #[.agg #[.string z1, .string z2], .bool false]) ∧ Below W.heap.size W w' := by
  replace R1 := mkHid R1
  replace R2 := mkHid R2
  replace RZ := mkHid RZ
  have HB := mkHid ((Below.refl W.heap.size W).alloc (Nat.le_refl _) (.cells #[.string ⟨#[]⟩, .string ⟨#[]⟩] 32))
  have HR := mkHid (AtS.new W W.heap.size ⟨#[]⟩ ⟨#[]⟩ rfl)
  replace hn := mkHid hn
  have HC := mkHid hc
  clear hc
  go_enter Tryz.func10, Tryz.ntmps10
  go_wp2_with fail
  go_loop [4, 5, 6] (fun av bv iv => ∃ i : Nat, i ≤ i0 ∧ av = .string s ∧ bv = .string ⟨#[49]⟩ ∧ iv = .int .i64 i) (fun _ _ iv => s.size - (intOf iv).toNat)
  case atStart => exact ⟨0, by omega, rfl, rfl, rfl⟩
  case round =>
    obtain ⟨i, hil, rfl, rfl, rfl⟩ := hrel
    by_cases hlt : i < i0
    · have hls : i < s.size := by omega
      have hne1 : ¬ s[i]'hls = 47 := hn.out i hlt hls
      obtain ⟨c, hcc⟩ : ∃ c, s[i]'hls = c := ⟨_, rfl⟩
      rw [hcc] at hne1
      have hne2 : ¬ (c.toNat : Int) = 47 := fun e => hne1 (UInt8.toNat_inj.1 (by rw [show (47 : UInt8).toNat = 47 from rfl]; omega))
      have hne3 : ((c.toNat : Int) == 47) = false := by simpa using hne2
      have hlt2 := mkHid hlt
      clear hlt
      go_wp2_with fail
      go_round
      case rel => exact ⟨i + 1, by have := hlt2.out; omega, rfl, rfl, by go_num⟩
      case measure => simp [intOf]; omega
    · have hie : i = i0 := by omega
      subst hie
      clear hil hlt
      have hcc : s[i]'hi = 47 := HC.out
      go_upto_region 6 with fail
      go_region
      go_wp2_with (first
        | (go_at_call 33; (with_reducible refine (R1.out _).mono ?_); rintro e w1 ⟨rfl, h2⟩; obtain rfl := h2.symm; clear h2)
        | (go_at_call 33; (with_reducible refine (R2.out _).mono ?_); rintro e w1 ⟨rfl, h2⟩; obtain rfl := h2.symm; clear h2)
        | (go_at_call 24; (with_reducible refine (RZ.out _).mono ?_); rintro e w2 ⟨rfl, hb⟩; have HB := mkHid (show Below W.heap.size W w2 by first | exact blx HB.out hb | exact blx_d HB.out hb); have HR := mkHid (show AtS w2 W.heap.size ⟨#[]⟩ ⟨#[]⟩ by first | exact HR.out.grows hb | exact HR.out.growsd hb); clear hb; obtain ⟨r0, r1, f0, f1⟩ := HR.out))
      refine bodyPost_ret (v := .tuple #[.agg #[.string z1, .string z2], .bool false]) (by simp [results, Tryz.results10, go_sem, r0, r1]) rfl ⟨rfl, ?_⟩
      exact setCells_belowB HB.out W.heap.size (Nat.le_refl _) _ _

set_option maxRecDepth 100000 in
set_option maxHeartbeats 8000000 in
theorem sread_s_ng (s : ByteArray) (i0 : Nat) (hi : i0 < s.size) (hc : s[i0]'hi = 47) (hn : ∀ (j : Nat) (_ : j < i0) (h : j < s.size), s[j]'h ≠ 47) (hsz : s.size ≤ 4294967280) (ra rb : ByteArray) (R1 : ∀ w, Calls Tryz.prog 33 #[.string (s.extract 0 i0)] w fun e w' => e = .returned (.tuple #[.string ra, .bool true]) ∧ w' = w) (R2 : ∀ w, Calls Tryz.prog 33 #[.string (s.extract (i0 + 1) s.size)] w fun e w' => e = .returned (.tuple #[.string rb, .bool true]) ∧ w' = w) (z1 z2 : ByteArray) (RZ : ∀ W, Calls Tryz.prog 24 #[] W fun e w' => e = .returned (.agg #[.string z1, .string z2]) ∧ Below W.heap.size W w') (x1 x2 : ByteArray) (RN : ∀ W, Calls Tryz.prog 34 #[.string ra, .string rb] W fun e w' => e = .returned (.tuple #[.agg #[.string x1, .string x2], .bool false]) ∧ Below W.heap.size W w') (W : World) :
    Calls Tryz.prog 10 #[.string s] W fun e w' => e = .returned (.tuple #[.agg #[.string z1, .string z2], .bool false]) ∧ Below W.heap.size W w' := by
  replace R1 := mkHid R1
  replace R2 := mkHid R2
  replace RZ := mkHid RZ
  replace RN := mkHid RN
  have HB := mkHid ((Below.refl W.heap.size W).alloc (Nat.le_refl _) (.cells #[.string ⟨#[]⟩, .string ⟨#[]⟩] 32))
  have HR := mkHid (AtS.new W W.heap.size ⟨#[]⟩ ⟨#[]⟩ rfl)
  replace hn := mkHid hn
  have HC := mkHid hc
  clear hc
  go_enter Tryz.func10, Tryz.ntmps10
  go_wp2_with fail
  go_loop [4, 5, 6] (fun av bv iv => ∃ i : Nat, i ≤ i0 ∧ av = .string s ∧ bv = .string ⟨#[49]⟩ ∧ iv = .int .i64 i) (fun _ _ iv => s.size - (intOf iv).toNat)
  case atStart => exact ⟨0, by omega, rfl, rfl, rfl⟩
  case round =>
    obtain ⟨i, hil, rfl, rfl, rfl⟩ := hrel
    by_cases hlt : i < i0
    · have hls : i < s.size := by omega
      have hne1 : ¬ s[i]'hls = 47 := hn.out i hlt hls
      obtain ⟨c, hcc⟩ : ∃ c, s[i]'hls = c := ⟨_, rfl⟩
      rw [hcc] at hne1
      have hne2 : ¬ (c.toNat : Int) = 47 := fun e => hne1 (UInt8.toNat_inj.1 (by rw [show (47 : UInt8).toNat = 47 from rfl]; omega))
      have hne3 : ((c.toNat : Int) == 47) = false := by simpa using hne2
      have hlt2 := mkHid hlt
      clear hlt
      go_wp2_with fail
      go_round
      case rel => exact ⟨i + 1, by have := hlt2.out; omega, rfl, rfl, by go_num⟩
      case measure => simp [intOf]; omega
    · have hie : i = i0 := by omega
      subst hie
      clear hil hlt
      have hcc : s[i]'hi = 47 := HC.out
      go_upto_region 6 with fail
      go_region
      go_wp2_with (first
        | (go_at_call 33; (with_reducible refine (R1.out _).mono ?_); rintro e w1 ⟨rfl, h2⟩; obtain rfl := h2.symm; clear h2)
        | (go_at_call 33; (with_reducible refine (R2.out _).mono ?_); rintro e w1 ⟨rfl, h2⟩; obtain rfl := h2.symm; clear h2)
        | (go_at_call 24; (with_reducible refine (RZ.out _).mono ?_); rintro e w2 ⟨rfl, hb⟩; have HB := mkHid (show Below W.heap.size W w2 by first | exact blx HB.out hb | exact blx_d HB.out hb); have HR := mkHid (show AtS w2 W.heap.size ⟨#[]⟩ ⟨#[]⟩ by first | exact HR.out.grows hb | exact HR.out.growsd hb); clear hb; obtain ⟨r0, r1, f0, f1⟩ := HR.out)
        | (go_at_call 34; (with_reducible refine (RN.out _).mono ?_); rintro e w3 ⟨rfl, hb⟩; have HB := mkHid (show Below W.heap.size W w3 by first | exact blx HB.out hb | exact blx_d HB.out hb); have HB := mkHid (HB.out.alloc HB.out.size (.cells #[.string x1, .string x2] 32)); have HR := mkHid (show AtS w3 W.heap.size ⟨#[]⟩ ⟨#[]⟩ by first | exact HR.out.grows hb | exact HR.out.growsd hb); have HR := mkHid (HR.out.grows ((Below.refl _ _).alloc (Nat.le_refl _) (.cells #[.string x1, .string x2] 32))); have HX := mkHid (AtS.new w3 w3.heap.size x1 x2 rfl); clear hb; obtain ⟨x10, x11, -, -⟩ := HX.out; obtain ⟨r0, r1, f0, f1⟩ := HR.out))
      refine bodyPost_ret (v := .tuple #[.agg #[.string z1, .string z2], .bool false]) (by simp [results, Tryz.results10, go_sem, r0, r1]) rfl ⟨rfl, ?_⟩
      exact setCells_belowB HB.out W.heap.size (Nat.le_refl _) _ _

set_option maxRecDepth 100000 in
set_option maxHeartbeats 8000000 in
theorem sread_s_nt (s : ByteArray) (i0 : Nat) (hi : i0 < s.size) (hc : s[i0]'hi = 47) (hn : ∀ (j : Nat) (_ : j < i0) (h : j < s.size), s[j]'h ≠ 47) (hsz : s.size ≤ 4294967280) (ra rb : ByteArray) (R1 : ∀ w, Calls Tryz.prog 33 #[.string (s.extract 0 i0)] w fun e w' => e = .returned (.tuple #[.string ra, .bool true]) ∧ w' = w) (R2 : ∀ w, Calls Tryz.prog 33 #[.string (s.extract (i0 + 1) s.size)] w fun e w' => e = .returned (.tuple #[.string rb, .bool true]) ∧ w' = w) (z1 z2 : ByteArray) (RZ : ∀ W, Calls Tryz.prog 24 #[] W fun e w' => e = .returned (.agg #[.string z1, .string z2]) ∧ Below W.heap.size W w') (x1 x2 : ByteArray) (RN : ∀ W, Calls Tryz.prog 34 #[.string ra, .string rb] W fun e w' => e = .returned (.tuple #[.agg #[.string x1, .string x2], .bool true]) ∧ Below W.heap.size W w') (tt : ByteArray) (hne : (tt.toList == s.toList) = false) (RT : ∀ W, Calls Tryz.prog 35 #[.agg #[.string x1, .string x2]] W fun e w' => e = .returned (.string tt) ∧ Below W.heap.size W w') (W : World) :
    Calls Tryz.prog 10 #[.string s] W fun e w' => e = .returned (.tuple #[.agg #[.string z1, .string z2], .bool false]) ∧ Below W.heap.size W w' := by
  replace R1 := mkHid R1
  replace R2 := mkHid R2
  replace RZ := mkHid RZ
  replace RN := mkHid RN
  replace RT := mkHid RT
  have HB := mkHid ((Below.refl W.heap.size W).alloc (Nat.le_refl _) (.cells #[.string ⟨#[]⟩, .string ⟨#[]⟩] 32))
  have HR := mkHid (AtS.new W W.heap.size ⟨#[]⟩ ⟨#[]⟩ rfl)
  replace hn := mkHid hn
  have HC := mkHid hc
  clear hc
  go_enter Tryz.func10, Tryz.ntmps10
  go_wp2_with fail
  go_loop [4, 5, 6] (fun av bv iv => ∃ i : Nat, i ≤ i0 ∧ av = .string s ∧ bv = .string ⟨#[49]⟩ ∧ iv = .int .i64 i) (fun _ _ iv => s.size - (intOf iv).toNat)
  case atStart => exact ⟨0, by omega, rfl, rfl, rfl⟩
  case round =>
    obtain ⟨i, hil, rfl, rfl, rfl⟩ := hrel
    by_cases hlt : i < i0
    · have hls : i < s.size := by omega
      have hne1 : ¬ s[i]'hls = 47 := hn.out i hlt hls
      obtain ⟨c, hcc⟩ : ∃ c, s[i]'hls = c := ⟨_, rfl⟩
      rw [hcc] at hne1
      have hne2 : ¬ (c.toNat : Int) = 47 := fun e => hne1 (UInt8.toNat_inj.1 (by rw [show (47 : UInt8).toNat = 47 from rfl]; omega))
      have hne3 : ((c.toNat : Int) == 47) = false := by simpa using hne2
      have hlt2 := mkHid hlt
      clear hlt
      go_wp2_with fail
      go_round
      case rel => exact ⟨i + 1, by have := hlt2.out; omega, rfl, rfl, by go_num⟩
      case measure => simp [intOf]; omega
    · have hie : i = i0 := by omega
      subst hie
      clear hil hlt
      have hcc : s[i]'hi = 47 := HC.out
      go_upto_region 6 with fail
      go_region
      go_wp2_with (first
        | (go_at_call 33; (with_reducible refine (R1.out _).mono ?_); rintro e w1 ⟨rfl, h2⟩; obtain rfl := h2.symm; clear h2)
        | (go_at_call 33; (with_reducible refine (R2.out _).mono ?_); rintro e w1 ⟨rfl, h2⟩; obtain rfl := h2.symm; clear h2)
        | (go_at_call 24; (with_reducible refine (RZ.out _).mono ?_); rintro e w2 ⟨rfl, hb⟩; have HB := mkHid (show Below W.heap.size W w2 by first | exact blx HB.out hb | exact blx_d HB.out hb); have HR := mkHid (show AtS w2 W.heap.size ⟨#[]⟩ ⟨#[]⟩ by first | exact HR.out.grows hb | exact HR.out.growsd hb); clear hb; obtain ⟨r0, r1, f0, f1⟩ := HR.out)
        | (go_at_call 34; (with_reducible refine (RN.out _).mono ?_); rintro e w3 ⟨rfl, hb⟩; have HB := mkHid (show Below W.heap.size W w3 by first | exact blx HB.out hb | exact blx_d HB.out hb); have HB := mkHid (HB.out.alloc HB.out.size (.cells #[.string x1, .string x2] 32)); have HR := mkHid (show AtS w3 W.heap.size ⟨#[]⟩ ⟨#[]⟩ by first | exact HR.out.grows hb | exact HR.out.growsd hb); have HR := mkHid (HR.out.grows ((Below.refl _ _).alloc (Nat.le_refl _) (.cells #[.string x1, .string x2] 32))); have HX := mkHid (AtS.new w3 w3.heap.size x1 x2 rfl); clear hb; obtain ⟨x10, x11, -, -⟩ := HX.out; obtain ⟨r0, r1, f0, f1⟩ := HR.out)
        | (go_at_call 35; (with_reducible refine (RT.out _).mono ?_); rintro e w4 ⟨rfl, hb⟩; have HX := mkHid (HX.out.grows hb); have HB := mkHid (show Below W.heap.size W w4 by first | exact blx HB.out hb | exact blx_d HB.out hb); have HR := mkHid (show AtS w4 W.heap.size ⟨#[]⟩ ⟨#[]⟩ by first | exact HR.out.grows hb | exact HR.out.growsd hb); clear hb; obtain ⟨x10, x11, -, -⟩ := HX.out; obtain ⟨r0, r1, f0, f1⟩ := HR.out))
      refine bodyPost_ret (v := .tuple #[.agg #[.string z1, .string z2], .bool false]) (by simp [results, Tryz.results10, go_sem, r0, r1]) rfl ⟨rfl, ?_⟩
      exact setCells_belowB HB.out W.heap.size (Nat.le_refl _) _ _

set_option maxRecDepth 100000 in
set_option maxHeartbeats 8000000 in
theorem sread_s_ok (s : ByteArray) (i0 : Nat) (hi : i0 < s.size) (hc : s[i0]'hi = 47) (hn : ∀ (j : Nat) (_ : j < i0) (h : j < s.size), s[j]'h ≠ 47) (hsz : s.size ≤ 4294967280) (ra rb : ByteArray) (R1 : ∀ w, Calls Tryz.prog 33 #[.string (s.extract 0 i0)] w fun e w' => e = .returned (.tuple #[.string ra, .bool true]) ∧ w' = w) (R2 : ∀ w, Calls Tryz.prog 33 #[.string (s.extract (i0 + 1) s.size)] w fun e w' => e = .returned (.tuple #[.string rb, .bool true]) ∧ w' = w) (x1 x2 : ByteArray) (RN : ∀ W, Calls Tryz.prog 34 #[.string ra, .string rb] W fun e w' => e = .returned (.tuple #[.agg #[.string x1, .string x2], .bool true]) ∧ Below W.heap.size W w') (RT : ∀ W, Calls Tryz.prog 35 #[.agg #[.string x1, .string x2]] W fun e w' => e = .returned (.string s) ∧ Below W.heap.size W w') (W : World) :
    Calls Tryz.prog 10 #[.string s] W fun e w' => e = .returned (.tuple #[.agg #[.string x1, .string x2], .bool true]) ∧ Below W.heap.size W w' := by
  replace R1 := mkHid R1
  replace R2 := mkHid R2
  replace RN := mkHid RN
  replace RT := mkHid RT
  have HB := mkHid ((Below.refl W.heap.size W).alloc (Nat.le_refl _) (.cells #[.string ⟨#[]⟩, .string ⟨#[]⟩] 32))
  have HR := mkHid (AtS.new W W.heap.size ⟨#[]⟩ ⟨#[]⟩ rfl)
  replace hn := mkHid hn
  have HC := mkHid hc
  clear hc
  go_enter Tryz.func10, Tryz.ntmps10
  go_wp2_with fail
  go_loop [4, 5, 6] (fun av bv iv => ∃ i : Nat, i ≤ i0 ∧ av = .string s ∧ bv = .string ⟨#[49]⟩ ∧ iv = .int .i64 i) (fun _ _ iv => s.size - (intOf iv).toNat)
  case atStart => exact ⟨0, by omega, rfl, rfl, rfl⟩
  case round =>
    obtain ⟨i, hil, rfl, rfl, rfl⟩ := hrel
    by_cases hlt : i < i0
    · have hls : i < s.size := by omega
      have hne1 : ¬ s[i]'hls = 47 := hn.out i hlt hls
      obtain ⟨c, hcc⟩ : ∃ c, s[i]'hls = c := ⟨_, rfl⟩
      rw [hcc] at hne1
      have hne2 : ¬ (c.toNat : Int) = 47 := fun e => hne1 (UInt8.toNat_inj.1 (by rw [show (47 : UInt8).toNat = 47 from rfl]; omega))
      have hne3 : ((c.toNat : Int) == 47) = false := by simpa using hne2
      have hlt2 := mkHid hlt
      clear hlt
      go_wp2_with fail
      go_round
      case rel => exact ⟨i + 1, by have := hlt2.out; omega, rfl, rfl, by go_num⟩
      case measure => simp [intOf]; omega
    · have hie : i = i0 := by omega
      subst hie
      clear hil hlt
      have hcc : s[i]'hi = 47 := HC.out
      go_upto_region 6 with fail
      go_region
      go_wp2_with (first
        | (go_at_call 33; (with_reducible refine (R1.out _).mono ?_); rintro e w1 ⟨rfl, h2⟩; obtain rfl := h2.symm; clear h2)
        | (go_at_call 33; (with_reducible refine (R2.out _).mono ?_); rintro e w1 ⟨rfl, h2⟩; obtain rfl := h2.symm; clear h2)
        | (go_at_call 34; (with_reducible refine (RN.out _).mono ?_); rintro e w3 ⟨rfl, hb⟩; have HB := mkHid (show Below W.heap.size W w3 by first | exact blx HB.out hb | exact blx_d HB.out hb); have HB := mkHid (HB.out.alloc HB.out.size (.cells #[.string x1, .string x2] 32)); have HR := mkHid (show AtS w3 W.heap.size ⟨#[]⟩ ⟨#[]⟩ by first | exact HR.out.grows hb | exact HR.out.growsd hb); have HR := mkHid (HR.out.grows ((Below.refl _ _).alloc (Nat.le_refl _) (.cells #[.string x1, .string x2] 32))); have HX := mkHid (AtS.new w3 w3.heap.size x1 x2 rfl); clear hb; obtain ⟨x10, x11, -, -⟩ := HX.out; obtain ⟨r0, r1, f0, f1⟩ := HR.out)
        | (go_at_call 35; (with_reducible refine (RT.out _).mono ?_); rintro e w4 ⟨rfl, hb⟩; have HX := mkHid (HX.out.grows hb); have HB := mkHid (show Below W.heap.size W w4 by first | exact blx HB.out hb | exact blx_d HB.out hb); have HR := mkHid (show AtS w4 W.heap.size ⟨#[]⟩ ⟨#[]⟩ by first | exact HR.out.grows hb | exact HR.out.growsd hb); clear hb; obtain ⟨x10, x11, -, -⟩ := HX.out; obtain ⟨r0, r1, f0, f1⟩ := HR.out))
      refine bodyPost_ret (v := .tuple #[.agg #[.string x1, .string x2], .bool true]) (by simp [results, Tryz.results10, go_sem, r0, r1]) rfl ⟨rfl, ?_⟩
      exact setCells_belowB HB.out W.heap.size (Nat.le_refl _) _ _
end Go.Proofs.YtflcdpolfimggaaGreatDoor
