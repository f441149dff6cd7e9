/- Rows: made, copied into, built. -/
import Derived.Test.YtjdkbbggelpchaaDoorW
import Derived.Laws.CopyOwn
namespace Go.Proofs.YtjdkbbggelpchaaDoor
open Go.RowKit

theorem made_ws (n : Nat) : (madeCells #[Value.int .u64 0] n).toList = ws (List.replicate n 0) := by
  apply List.ext_getElem
  · simp [madeCells, ws]
  · intro j h1 h2
    simp [madeCells, ws, Nat.mod_one]

/-- A new row of zeros. -/
theorem Row.made {w w' : World} {n : Nat} (h : w'.ownsRow w.heap.size 24 1 (.slice (some ⟨w.heap.size, 0, none⟩) n n) n (madeCells #[Value.int .u64 0] n).toList) (hg : 0 < n) : Row w' w.heap.size n (List.replicate n 0) := by
  rw [made_ws] at h
  obtain ⟨b, cap, hv, _, hr, hn⟩ := Row.ofOwn h hg
  injection hv with h1 h2 h3
  injection h1 with h1
  injection h1 with h1
  subst h1; subst h3
  exact hr

/-- What copy leaves. -/
theorem Row.spliced {w : World} {g cap off : Nat} {L cs : List Nat} (h : Row w g cap L) (hL : L.length = cap) (cur : Array Value) (hc : w.heap[g]? = some (.cells cur 24 (0, 0))) (hfit : off + cs.length ≤ cap) :
    Row (w.setRow g (cur.toList.take off ++ (ws cs ++ cur.toList.drop (off + (ws cs).length))).toArray) g cap (L.take off ++ (cs ++ L.drop (off + cs.length))) := by
  obtain ⟨cur', hb, hs, hm, hl, hj⟩ := h
  rw [hb] at hc
  injection hc with hc
  injection hc with hc
  subst hc
  have hcur : cur'.toList = ws L := by
    apply List.ext_getElem
    · simp [ws]; omega
    · intro j h1 h2
      have hjl : j < L.length := by simpa [ws] using h2
      have := hj j hjl
      simp only [ws, List.getElem_map, Array.getElem_toList]
      exact (Array.getElem?_eq_some_iff.1 this).2
  have hrow : cur'.toList.take off ++ (ws cs ++ cur'.toList.drop (off + (ws cs).length)) = ws (L.take off ++ (cs ++ L.drop (off + cs.length))) := by
    rw [hcur, ws_length]; simp [ws]
  rw [hrow]
  have hlen : (L.take off ++ (cs ++ L.drop (off + cs.length))).length = cap := by simp; omega
  refine ⟨_, setRow_heap w g _ _ _ _ hb, by simp [ws_length, hlen], hm, by omega, fun j hj => ?_⟩
  rw [List.getElem?_toArray, ws, List.getElem?_map, List.getElem?_eq_getElem hj]; rfl

theorem Row.cur {w : World} {b cap : Nat} {l : List Nat} (h : Row w b cap l) : ∃ cur, w.heap[b]? = some (.cells cur 24 (0, 0)) ∧ cur.size = cap := by
  obtain ⟨cur, h1, h2, _⟩ := h; exact ⟨cur, h1, h2⟩

theorem words_cells {w : World} {b off : Nat} {l : List Nat} (h : Words w b off l) : ∀ j v, (ws l)[j]? = some v → w.cell? ((⟨b, off, none⟩ : Addr).add j) = some v := by
  intro j v hv
  have hj : j < l.length := by
    apply Nat.lt_of_not_le; intro hle
    rw [List.getElem?_eq_none (by rw [ws_length]; exact hle)] at hv; cases hv
  have h1 := (h j hj).1
  have e : (⟨b, off, none⟩ : Addr).add j = ⟨b, off + j, none⟩ := by unfold Addr.add; split <;> simp_all
  rw [e, h1]
  simpa [ws, List.getElem?_eq_getElem hj] using hv
theorem ws_one (l : List Nat) : ∀ u ∈ ws l, u.oneCell' = true := by
  intro u hu
  simp only [ws, List.mem_map] at hu
  obtain ⟨x, _, rfl⟩ := hu
  rfl
theorem below_grown {w w' : World} {B : Nat} (h : w.grownBy w' none) (hB : B ≤ w.heap.size) : Below B w w' :=
  (Below.refl B w).grown h hB (fun k hk => by cases hk)
theorem Words.atMid {w : World} {b off n x : Nat} {p r : List Nat} (h : Words w b off (p ++ x :: r)) (hn : p.length = n) :
    w.cell? ⟨b, off + n, none⟩ = some (.int .u64 (x : Int)) ∧ w.frozen? ⟨b, off + n, none⟩ = false := by
  have := h n (by simp; omega)
  rwa [show (p ++ x :: r)[n]'(by simp; omega) = x by rw [List.getElem_append_right (by omega)]; simp [hn]] at this
theorem Words.setMid {w : World} {b off n x : Nat} {p r : List Nat} (h : Words w b off (p ++ x :: r)) (hn : p.length = n) (y : Nat) :
    Words (w.setCell ⟨b, off + n, none⟩ (.int .u64 (y : Int))) b off (p ++ y :: r) := by
  have := h.set n y
  rwa [List.set_append_right _ _ (by omega), show n - p.length = 0 by omega, List.set_cons_zero] at this
theorem Words.zero {w : World} {b : Nat} {l : List Nat} {off : Nat} (h : Words w b (0 + off) l) : Words w b off l := by rwa [Nat.zero_add] at h
theorem splice_get (cur : Array Value) (off : Nat) (cs : List Value) (k : Nat) (hfit : off + cs.length ≤ cur.size) :
    (cur.toList.take off ++ (cs ++ cur.toList.drop (off + cs.length))).toArray[k]? = if off ≤ k ∧ k < off + cs.length then cs[k - off]? else cur[k]? := by
  rw [List.getElem?_toArray]
  by_cases h1 : k < off
  · rw [if_neg (by omega), List.getElem?_append_left (by simp; omega), List.getElem?_take_of_lt h1, Array.getElem?_toList]
  · rw [List.getElem?_append_right (by simp; omega)]
    have e : k - (cur.toList.take off).length = k - off := by simp; omega
    rw [e]
    by_cases h2 : k < off + cs.length
    · rw [if_pos ⟨by omega, h2⟩, List.getElem?_append_left (by omega)]
    · rw [if_neg (by omega), List.getElem?_append_right (by omega), List.getElem?_drop, Array.getElem?_toList]
      congr 1; omega
theorem Wr.spliced {w : World} {g off : Nat} {cs : List Value} (cur : Array Value) {e : TypeId} {fr : Nat × Nat} (hc : w.heap[g]? = some (.cells cur e fr)) (hfit : off + cs.length ≤ cur.size) :
    Wr w (w.setRow g (cur.toList.take off ++ (cs ++ cur.toList.drop (off + cs.length))).toArray) g off (off + cs.length) :=
  ⟨rfl, rfl, rfl, by simp [World.setRow], fun k _ hk => setRow_other w g k _ hk, fun cur' e' fr' hc' => by
    rw [hc] at hc'
    injection hc' with hc'
    injection hc' with h1 h2 h3
    subst h1; subst h2; subst h3
    refine ⟨_, setRow_heap w g _ _ _ _ hc, by simp; omega, fun k hk => ?_⟩
    rw [splice_get cur off cs k hfit, if_neg (by omega)]⟩
theorem Words.spliced {w : World} {g off : Nat} {cs : List Nat} (cur : Array Value) {e : TypeId} (hc : w.heap[g]? = some (.cells cur e (0, 0))) (hfit : off + cs.length ≤ cur.size) :
    Words (w.setRow g (cur.toList.take off ++ (ws cs ++ cur.toList.drop (off + (ws cs).length))).toArray) g off cs := by
  intro j hj
  have hg := setRow_heap w g _ (cur.toList.take off ++ (ws cs ++ cur.toList.drop (off + (ws cs).length))).toArray _ _ hc
  constructor
  · simp only [World.cell?, hg, Option.isSome_none, Bool.false_eq_true, if_false]
    rw [splice_get cur off (ws cs) _ (by rw [ws_length]; exact hfit), ws_length, if_pos ⟨by omega, by omega⟩]
    simp [ws, List.getElem?_eq_getElem hj]
  · simp [World.frozen?, hg]
theorem ok_of_drop_zero {l : List Nat} (h : M.Ok l) (k : Nat) (hk : k ≤ l.length) : M.val (l.drop k) = M.val l / M.B ^ k := by
  have e := M.val_take_drop l k hk
  have lt := M.val_lt (h.take k)
  rw [List.length_take, Nat.min_eq_left hk] at lt
  rw [e, Nat.add_mul_div_left _ _ (M.B_pow_pos k), Nat.div_eq_of_lt lt, Nat.zero_add]
/-- s[l:] -/
theorem slice_l (b off n cap l : Nat) (h : l ≤ n) (hlt : l < cap) (W : World) :
    (Instr.slice 60 (.slice (some ⟨b, off, none⟩) n cap) (some (.int .i64 (l : Int))) none none).run Tryd.prog W = .ok (.slice (some ⟨b, off + l, none⟩) (n - l) (cap - l)) W := by
  have hu : Tryd.prog.underlying 60 = some (.slice (Tryd.prog.elem 60)) := by kernel_rfl
  have he : Tryd.prog.elem 60 = 24 := by kernel_rfl
  rw [run_slice_l W 60 (some ⟨b, off, none⟩) n cap hu .i64 (l : Int) (by omega) (by omega), he, Tryd.sizeOf24 W]
  simp only [Result.andThen, sliced]
  have h1 : ¬ cap = l := by omega
  rcases Nat.eq_zero_or_pos l with hl | hl
  · subst hl; simp [h1, Addr.add]
  · have h2 : ¬ l = 0 := by omega
    simp [h1, h2, Addr.add]
theorem addr_if (b off k : Nat) : (if k = 0 then (⟨b, off, none⟩ : Addr) else ⟨b, off + k, none⟩) = ⟨b, off + k, none⟩ := by
  split
  · rename_i h; rw [h]; rfl
  · rfl
end Go.Proofs.YtjdkbbggelpchaaDoor
