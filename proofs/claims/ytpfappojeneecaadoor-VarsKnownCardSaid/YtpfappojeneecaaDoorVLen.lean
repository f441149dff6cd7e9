/- The contracts of OnesCount64 and Len. -/
import Derived.Test.YtpfappojeneecaaDoorVWorks
import Derived.Test.YtpfappojeneecaaDoorVPop
import Derived.Laws.Bits128
namespace Go.Proofs.YtpfappojeneecaaDoor
open Go.RowKit VM

set_option maxRecDepth 100000 in
set_option maxHeartbeats 2000000 in
theorem ones_core (X A1 A2 Y1 B1 B2 Y2 C Y3 Y4 Y5 Y6 R : Int) (w : World)
    (a1 : bits .and .u64 (X / 2) 6148914691236517205 = A1) (a2 : bits .and .u64 X 6148914691236517205 = A2) (a3 : IntKind.u64.wrap (A1 + A2) = Y1)
    (b1 : bits .and .u64 (Y1 / 4) 3689348814741910323 = B1) (b2 : bits .and .u64 Y1 3689348814741910323 = B2) (b3 : IntKind.u64.wrap (B1 + B2) = Y2)
    (c1 : IntKind.u64.wrap (Y2 / 16 + Y2) = C) (c2 : bits .and .u64 C 1085102592571150095 = Y3)
    (d4 : IntKind.u64.wrap (Y3 + Y3 / 256) = Y4) (d5 : IntKind.u64.wrap (Y4 + Y4 / 65536) = Y5) (d6 : IntKind.u64.wrap (Y5 + Y5 / 4294967296) = Y6)
    (e : IntKind.i64.wrap Y6 = Y6) (r : bits .and .i64 Y6 127 = R) :
    Calls Tryd.prog 44 #[.int .u64 X] w fun e w' => e = .returned (.int .i64 R) ∧ w = w' := by
  go_enter Tryd.func44, Tryd.ntmps44
  go_wp2
  go_ret
  exact ⟨rfl, rfl⟩

theorem andN (n m k : Nat) (hn : n < 18446744073709551616) (hm : m < 18446744073709551616) (h : n &&& m = k) : bits .and .u64 (n : Int) (m : Int) = (k : Int) := by rw [bits_and_u64_nat n m hn hm, h]
theorem divN (n m k : Nat) (h : n / m = k) : ((n : Int) / (m : Int)) = (k : Int) := by rw [← h, Int.natCast_ediv]
theorem addN (p q k : Nat) (h : p + q = k) (hk : k < 18446744073709551616) : IntKind.u64.wrap ((p : Int) + (q : Int)) = (k : Int) := by
  rw [IntKind.wrap_u64]; omega
theorem ones_any (x : BitVec 64) (w : World) :
    Calls Tryd.prog 44 #[.int .u64 (wd x)] w fun e w' => e = .returned (.int .i64 (pop 64 x.toNat : Nat)) ∧ w = w' := by
  obtain ⟨a, b, c, d, e, f, g, h, hx, ha, hb, hc, hd, he, hf, hg, hh⟩ := by8_of x.toNat x.isLt
  have k1 := all1 ha hb hc hd he hf hg (h := h)
  have k2 := all2 ha hb hc hd he hf hg (h := h)
  have k3 := all3 ha hb hc hd he hf hg hh
  have k7 := all_pop ha hb hc hd he hf hg (h := h)
  have l1 : by8 (y1 a) (y1 b) (y1 c) (y1 d) (y1 e) (y1 f) (y1 g) (y1 h) < 18446744073709551616 := by
    have t1 := y1_lt ha; have t2 := y1_lt hb; have t3 := y1_lt hc; have t4 := y1_lt hd; have t5 := y1_lt he; have t6 := y1_lt hf; have t7 := y1_lt hg; have t8 := y1_lt hh
    unfold by8; omega
  have l2 : by8 (y2 a) (y2 b) (y2 c) (y2 d) (y2 e) (y2 f) (y2 g) (y2 h) < 10000000000000000000 :=
    by8_lt (Nat.le_trans (y2_le ha) (by omega)) (Nat.le_trans (y2_le hb) (by omega)) (Nat.le_trans (y2_le hc) (by omega)) (Nat.le_trans (y2_le hd) (by omega)) (Nat.le_trans (y2_le he) (by omega)) (Nat.le_trans (y2_le hf) (by omega)) (Nat.le_trans (y2_le hg) (by omega)) (Nat.le_trans (y2_le hh) (by omega))
  obtain ⟨x4, x5, x6, e4, e5, e6, hlt, hmod⟩ := all4 (pop_le 8 a) (pop_le 8 b) (pop_le 8 c) (pop_le 8 d) (pop_le 8 e) (pop_le 8 f) (pop_le 8 g) (pop_le 8 h)
  have hx64 := x.isLt
  rw [show wd x = ((x.toNat : Nat) : Int) from rfl]
  rw [hx] at hx64 ⊢
  rw [k7, ← hmod]
  generalize by8 a b c d e f g h = n at *
  generalize by8 (y1 a) (y1 b) (y1 c) (y1 d) (y1 e) (y1 f) (y1 g) (y1 h) = n1 at *
  generalize by8 (y2 a) (y2 b) (y2 c) (y2 d) (y2 e) (y2 f) (y2 g) (y2 h) = n2 at *
  generalize by8 (pop 8 a) (pop 8 b) (pop 8 c) (pop 8 d) (pop 8 e) (pop 8 f) (pop 8 g) (pop 8 h) = n3 at *
  have q1 := divN n 2 _ rfl
  have q2 := divN n1 4 _ rfl
  have q3 := divN n2 16 _ rfl
  have q4 := divN n3 256 _ rfl
  have q5 := divN x4 65536 _ rfl
  have q6 := divN x5 4294967296 _ rfl
  refine ones_core (n : Int) ((n / 2 &&& 6148914691236517205 : Nat) : Int) ((n &&& 6148914691236517205 : Nat) : Int) (n1 : Int) ((n1 / 4 &&& 3689348814741910323 : Nat) : Int) ((n1 &&& 3689348814741910323 : Nat) : Int) (n2 : Int) ((n2 / 16 + n2 : Nat) : Int) (n3 : Int) (x4 : Int) (x5 : Int) (x6 : Int) _ w ?_ ?_ ?_ ?_ ?_ ?_ ?_ ?_ ?_ ?_ ?_ ?_ ?_
  · rw [show (2 : Int) = ((2 : Nat) : Int) from rfl, q1]; exact andN _ 6148914691236517205 _ (by omega) (by decide) rfl
  · exact andN _ 6148914691236517205 _ (by omega) (by decide) rfl
  · exact addN _ _ _ k1 (by omega)
  · rw [show (4 : Int) = ((4 : Nat) : Int) from rfl, q2]; exact andN _ 3689348814741910323 _ (by omega) (by decide) rfl
  · exact andN _ 3689348814741910323 _ (by omega) (by decide) rfl
  · exact addN _ _ _ k2 (by omega)
  · rw [show (16 : Int) = ((16 : Nat) : Int) from rfl, q3]; exact addN _ _ _ rfl (by omega)
  · exact andN _ 1085102592571150095 _ (by omega) (by decide) k3
  · rw [show (256 : Int) = ((256 : Nat) : Int) from rfl, q4]; exact addN _ _ _ e4.symm (by omega)
  · rw [show (65536 : Int) = ((65536 : Nat) : Int) from rfl, q5]; exact addN _ _ _ e5.symm (by omega)
  · rw [show (4294967296 : Int) = ((4294967296 : Nat) : Int) from rfl, q6]; exact addN _ _ _ e6.symm (by omega)
  · exact IntWalk.i64_in _ (by omega)
  · rw [i64_and127]; omega

theorem ones_eq (x : BitVec 64) (w : World) :
    Calls Tryd.prog 44 #[.int .u64 (wd x)] w fun e w' => e = .returned (.int .i64 (pop 64 x.toNat : Nat)) ∧ w' = w := (ones_any x w).mono fun _ _ ⟨h, k⟩ => ⟨h, k.symm⟩

set_option maxRecDepth 100000 in
set_option maxHeartbeats 2000000 in
theorem len_any (s : BitVec 128) (w : World) :
    Calls Tryd.prog 33 #[sv s] w fun e w' => e = .returned (.int .i64 (card s : Nat)) ∧ Below w.heap.size w w' := by
  have C1 := mkHid (fun W => ones_eq (lo s) W)
  have C2 := mkHid (fun W => ones_eq (hi s) W)
  have l1 := pop_le 64 (lo s).toNat
  have l2 := pop_le 64 (hi s).toNat
  rw [card_pop]
  unfold sv
  generalize wd (lo s) = al at *
  generalize wd (hi s) = ah at *
  generalize pop 64 (lo s).toNat = p1 at *
  generalize pop 64 (hi s).toNat = p2 at *
  have e1 : IntKind.i64.wrap ((p1 : Int) + (p2 : Int)) = ((p1 + p2 : Nat) : Int) := by rw [IntWalk.i64_in _ (by omega)]; omega
  go_enter Tryd.func33, Tryd.ntmps33
  go_wp2
  go_quiet ((first | (go_at_call 44; with_reducible exact Calls.quiet_of_same (C1.out _)) | (go_at_call 44; with_reducible exact Calls.quiet_of_same (C2.out _))))
  go_wp2
  go_ret
  exact ⟨rfl, bdr (bal (Below.refl _ _) _) _⟩
end Go.Proofs.YtpfappojeneecaaDoor
