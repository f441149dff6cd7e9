/- The contracts in one form: numbers by their two parts, worlds that grow and keep the tables. -/
import Derived.Test.YtjdkbbggelpchaaDoorGcd3
import Derived.Test.YtjdkbbggelpchaaDoorRead2
import Derived.Test.YtjdkbbggelpchaaDoorPow
namespace Go.Proofs.YtjdkbbggelpchaaDoor
open Go.RowKit

/-- A number's lowest word, and the bytes of its other ones. -/
def lo (n : Nat) : Nat := n % M.B
def hi (n : Nat) : ByteArray := hs n
theorem natV_lohi (n : Nat) : natV n = .agg #[.int .u64 ((lo n : Nat) : Int), .string (hi n)] := rfl
theorem lo_zero : lo 0 = 0 := Nat.zero_mod _
theorem hi_zero : hi 0 = ⟨#[]⟩ := hs_small M.B_pos
theorem lohi_inj {a b : Nat} (h : lo a = lo b) (h2 : hi a = hi b) : a = b := hs_inj h2 h
/-- At most 900 words. -/
def Sm (n : Nat) : Prop := (M.dig n).length ≤ 900
/-- W has grown from w, and holds the tables. -/
structure St (w W : World) : Prop where
  below : Below w.heap.size w W
  tabs : Tabs W
  six : 6 ≤ w.heap.size
theorem St.refl {w : World} (h : Tabs w) (h6 : 6 ≤ w.heap.size) : St w w := ⟨Below.refl _ _, h, h6⟩
theorem St.size {w W : World} (h : St w W) : w.heap.size ≤ W.heap.size := h.below.size
theorem St.next {w W w' : World} (h : St w W) (hb : Below W.heap.size W w') : St w w' :=
  ⟨h.below.trans (hb.mono h.size), h.tabs.below hb (Nat.le_trans h.six h.size), h.six⟩
theorem St.alloc {w W : World} (h : St w W) (o : Obj) : St w (W.alloc o) := h.next ((Below.refl _ _).alloc (Nat.le_refl _) o)
theorem St.drew {w W : World} (h : St w W) : St w W.drew := ⟨⟨h.below.os, h.below.tape, h.below.output, h.below.size, h.below.block⟩, h.tabs, h.six⟩
theorem St.drewN {w W : World} (h : St w W) (n : Nat) : St w (W.drewN n) := ⟨⟨h.below.os, h.below.tape, h.below.output, h.below.size, h.below.block⟩, h.tabs, h.six⟩
theorem St.six' {w W : World} (h : St w W) : 6 ≤ W.heap.size := Nat.le_trans h.six h.size
/-- What stands in an old block still stands. -/
theorem St.cell {W w' : World} (hb : Below W.heap.size W w') {b o : Nat} {v : Value} (h : W.cell? ⟨b, o, none⟩ = some v) : w'.cell? ⟨b, o, none⟩ = some v :=
  (hb.cell (p := ⟨b, o, none⟩) (World.block_lt_of_cell? W _ h)).trans h

/-- What a call that makes memory says. -/
abbrev Gives (F : FuncId) (args : Array Value) (v : Value) : Prop :=
  ∀ W : World, Tabs W → 6 ≤ W.heap.size → Calls Tryd.prog F args W fun e w' => e = .returned v ∧ Below W.heap.size W w'
abbrev nv (n : Nat) : Value := .agg #[.int .u64 ((lo n : Nat) : Int), .string (hi n)]

theorem of_g (n : Nat) (h : n < M.B) : Gives 24 #[.int .u64 (n : Int)] (nv n) := fun W _ _ => of_any n W h
theorem add_g (a b : Nat) (ha : Sm a) (hb : Sm b) : Gives 12 #[nv a, nv b] (nv (a + b)) := fun W _ _ => add_any a b W (Nat.le_trans ha (by omega)) (Nat.le_trans hb (by omega))
theorem mul_g (a b : Nat) (ha : Sm a) (hb : Sm b) : Gives 18 #[nv a, nv b] (nv (a * b)) := fun W _ _ => mul_any a b W (Nat.le_trans ha (by omega)) (Nat.le_trans hb (by omega))
theorem gcd_g (a b : Nat) (ha : Sm a) (hb : Sm b) : Gives 20 #[nv a, nv b] (nv (Nat.gcd a b)) := fun W t s => gcd_any a b W (Nat.le_trans ha (by omega)) (Nat.le_trans hb (by omega)) t s
theorem div_g (a b : Nat) (ha : Sm a) (h0 : b ≠ 0) : Gives 16 #[nv a, nv b] (.tuple #[nv (a / b), nv (a % b), .bool true]) := fun W _ _ => div_any a b W h0 (Nat.le_trans ha (by omega))
theorem div_z (a : Nat) : Gives 16 #[nv a, nv 0] (.tuple #[nv 0, nv 0, .bool false]) := fun W _ _ => div_zero a W
theorem text_g (a : Nat) (ha : Sm a) : Gives 33 #[nv a] (.string ⟨(Lib.decDigits a).toArray⟩) := fun W t s => text_any a W (Nat.le_trans ha (by omega)) t s
theorem cmp_g (a b : Nat) : Gives 14 #[nv a, nv b] (.int .i64 (Lib.compareInt (a : Int) (b : Int))) := fun W _ _ => cmp_any a b W
theorem readn_g (n : Nat) (h : Lib.nDigits n ≤ 2000) : Gives 22 #[.string ⟨(Lib.decDigits n).toArray⟩] (.tuple #[nv n, .bool true]) := fun W _ _ => read_dec n W h

theorem sm_le {a b : Nat} (h : a ≤ b) (hb : Sm b) : Sm a := Nat.le_trans (dig_mono h) hb
theorem sm_pow {n k : Nat} (h : n < M.B ^ k) (hk : k ≤ 900) : Sm n := Nat.le_trans (M.dig_length_le.2 h) hk
theorem sm_word {n : Nat} (h : n < M.B) : Sm n := sm_pow (k := 1) (by rw [Nat.pow_one]; exact h) (by omega)

set_option maxRecDepth 100000 in
set_option maxHeartbeats 1000000 in
/-- read of a decimal form. -/
theorem lread_g (n : Nat) (h : Lib.nDigits n ≤ 2000) : Gives 32 #[.string ⟨(Lib.decDigits n).toArray⟩] (nv n) := by
  intro W ht h6
  have CR := mkHid (readn_g n h)
  have HS := mkHid ((St.refl ht h6).alloc (.cells #[.int .u64 0, .string ⟨#[]⟩] 26))
  clear h ht h6
  have hlt : W.heap.size < (W.alloc (.cells #[.int .u64 0, .string ⟨#[]⟩] 26)).heap.size := by simp
  have HA := mkHid (At2.new W W.heap.size 0 ⟨#[]⟩ rfl)
  unfold nv at CR ⊢
  generalize lo n = l at *
  generalize hi n = g at *
  go_enter Tryd.func32, Tryd.ntmps32
  go_wp2_with (go_at_call 22; refine (CR.out _ HS.out.tabs HS.out.six').mono ?_; rintro e w2 ⟨rfl, hb⟩; have HB2 := mkHid hb; clear hb; obtain ⟨ha1, ha2, haf1, haf2⟩ := (HA.out.grows HB2.out).alloc (.cells #[.int .u64 (l : Int), .string g] 26))
  refine bodyPost_ret (v := .agg #[.int .u64 (l : Int), .string g]) (by simp [results, Tryd.results32, go_sem, ha1, ha2]) rfl ⟨rfl, ?_⟩
  exact setCells_below ((HS.out.next HB2.out).alloc _).below _ (Nat.le_refl _) _ _

end Go.Proofs.YtjdkbbggelpchaaDoor
