/- The contract of Read. -/
import Derived.Test.YtjdkbbggelpchaaDoorRead
import Derived.Test.YtjdkbbggelpchaaDoorTrim
namespace Go.Proofs.YtjdkbbggelpchaaDoor
open Go.RowKit

/-- What Read has read so far: no words, or the words of a number in memory of the call's own. -/
def Acc (wv : Value) (w : World) (base m : Nat) : Prop :=
  (wv = .slice none 0 0 ∧ m = 0) ∨ ∃ b cap, wv = .slice (some ⟨b, 0, none⟩) (M.dig m).length cap ∧ Row w b cap (M.dig m) ∧ base ≤ b

set_option maxRecDepth 100000 in
set_option maxHeartbeats 1000000 in
theorem scaleWords_nil (d c base : Nat) (w : World) (hb : base ≤ w.heap.size) :
    Calls Tryd.prog 55 #[.slice none 0 0, .int .u64 d, .int .u64 c] w fun e w' => ∃ b' cap', e = .returned (.slice (some ⟨b', 0, none⟩) 1 cap') ∧ Hid (base ≤ b' ∧ Row w' b' cap' [c] ∧ Below base w w') := by
  obtain ⟨i0, hi, hz0, hz1, hz2⟩ := info_parts info64
  have I1 := mkHid hi; have I2 := mkHid hz0; have I3 := mkHid hz1; have I4 := mkHid hz2
  clear hi hz0 hz1 hz2
  have HBB := mkHid hb
  have HO : Hid (w.ownsRow base 24 1 (.slice none 0 0) 0 (ws [])) := mkHid ⟨by simp [ws], .inl ⟨rfl, rfl⟩⟩
  clear hb
  go_enter Tryd.func55, Tryd.ntmps55
  go_wp2
  refine wp_loop_rounds 1 ?_
  rw [rounds_succ]
  go_wp2_with (at_builtin; refine wpList_append_own _ rfl _ _ 60 rfl base 24 i0 (.int .u64 0) 1 8 Tryd.underlying60 I1.out I2.out I3.out I4.out rfl (by decide) _ _ _ rfl (HO.out.alloc _) ⟨w.heap.size, 0, none⟩ 1 1 [.int .u64 (c : Int)] rfl rfl ?c1 ?c2 ?c3 ?c4 ?c5 ?_)
  case c1 => exact new_one w _ _
  case c2 => intro u hu; simp at hu; subst hu; rfl
  case c3 => unfold maxLen; omega
  case c4 => omega
  case c5 => have := HBB.out; simp; omega
  intro v' w' hown' hgrow _
  have HOW := mkHid hown'; have HG := mkHid hgrow; clear hown' hgrow
  go_wp2
  go_ret
  obtain ⟨b', cap', rfl, hb', hrow, hn⟩ := Row.ofOwn (l := [c]) HOW.out (by omega)
  refine ⟨b', cap', rfl, mkHid ⟨hb', hrow, ?_⟩⟩
  have e2 : Below base w (w.alloc (.cells #[.int .u64 (c : Int)] 24)) := (Below.refl _ _).alloc HBB.out _
  exact e2.grown HG.out (by have := HBB.out; simp; omega) (fun k hk => by simp [Value.ownBlock] at hk)

theorem scaleWords_acc (wv : Value) (base m d c : Nat) (w : World) (h : Acc wv w base m) (hb : base ≤ w.heap.size) (hl : (M.dig m).length ≤ 1000000) (hd : d < M.B) (hc : c < M.B) :
    Calls Tryd.prog 55 #[wv, .int .u64 d, .int .u64 c] w fun e w' => ∃ b' cap' len, e = .returned (.slice (some ⟨b', 0, none⟩) len cap') ∧
      ∃ zs, Hid (zs.length = len ∧ M.Ok zs ∧ M.val zs = m * d + c ∧ base ≤ b' ∧ Row w' b' cap' zs ∧ Below base w w') := by
  rcases h with ⟨rfl, rfl⟩ | ⟨b, cap, rfl, hr, hbb⟩
  · refine (scaleWords_nil d c base w hb).mono ?_
    rintro e w' ⟨b', cap', rfl, H⟩
    exact ⟨b', cap', 1, rfl, [c], mkHid ⟨rfl, M.Ok.cons hc M.Ok.nil, by simp [M.val_cons], H.out.1, H.out.2.1, H.out.2.2⟩⟩
  · refine (scaleWords_any b cap d c base (M.dig m) w hr hbb hl (M.ok_dig m) hd hc).mono ?_
    rintro e w' ⟨b', cap', rfl, zs, H⟩
    exact ⟨b', cap', _, rfl, zs, mkHid ⟨H.out.1, H.out.2.1, by rw [H.out.2.2.1, M.val_dig], H.out.2.2.2.1, H.out.2.2.2.2.1, H.out.2.2.2.2.2⟩⟩

theorem str_drop (t : ByteArray) (n : Nat) : (t.extract n t.size).data.toList = t.data.toList.drop n := by
  rw [ByteArray.data_extract]
  simp only [Array.toList_extract]
  rw [List.extract_eq_take_drop]
  apply List.take_of_length_le
  rw [List.length_drop, str_len]
  omega

set_option maxRecDepth 100000 in
set_option maxHeartbeats 1000000 in
theorem read_bad (s : ByteArray) (w : World) (hs : s.size ≤ maxLen) (h : D.isDec s.data.toList = false) :
    Calls Tryd.prog 22 #[.string s] w fun e w' => e = .returned (.tuple #[natV 0, .bool false]) ∧ Below w.heap.size w w' := by
  have CI := mkHid (fun W => isDecimal_any s W hs)
  rw [h] at CI
  clear h hs
  have HA := mkHid (At2.new w w.heap.size 0 ⟨#[]⟩ rfl)
  have HB := mkHid ((Below.refl w.heap.size w).alloc (Nat.le_refl _) (.cells #[.int .u64 0, .string ⟨#[]⟩] 26))
  unfold natV
  rw [hs_small M.B_pos, Nat.zero_mod]
  go_enter Tryd.func22, Tryd.ntmps22
  go_wp2_with (go_at_call 53; refine (CI.out _).mono ?_; rintro e w2 ⟨rfl, rfl⟩)
  refine bodyPost_ret (v := .tuple #[.agg #[.int .u64 ((0 : Nat) : Int), .string ⟨#[]⟩], .bool false]) (by simp [results, Tryd.results22, go_sem]) rfl ⟨rfl, ?_⟩
  exact HB.out

/-- What the rounds of Read keep. -/
structure RI (w wr : World) (L : List UInt8) (t : ByteArray) (k m : Nat) (wv : Value) : Prop where
  len : k ≤ L.length
  rest : t.data.toList = L.drop k
  val : m = D.dv (L.take k)
  acc : Acc wv wr (w.heap.size + 1) m
  some : 0 < k → ∃ b cap, wv = .slice (some ⟨b, 0, none⟩) (M.dig m).length cap ∧ Row wr b cap (M.dig m)
  size : w.heap.size + 1 ≤ wr.heap.size
  below : Below (w.heap.size + 1) (w.alloc (.cells #[.int .u64 0, .string ⟨#[]⟩] 26)) wr

theorem dig_dv (l : List UInt8) (h : l.all D.isDig = true) : (M.dig (D.dv l)).length ≤ l.length :=
  M.dig_length_le.2 (Nat.lt_of_lt_of_le (D.dv_lt l h) (Nat.pow_le_pow_left (by rw [M.B_eq]; omega) _))

theorem take_get (t : ByteArray) (i : Nat) (h : i < t.size) : t.data.toList.take (i + 1) = t.data.toList.take i ++ [t[i]] := by
  rw [List.take_succ_eq_append_getElem (by rw [str_len]; exact h)]; rfl

set_option maxRecDepth 100000 in
set_option maxHeartbeats 2000000 in
theorem read_ok (s : ByteArray) (w : World) (hs : s.size ≤ maxLen) (h : D.isDec s.data.toList = true) :
    Calls Tryd.prog 22 #[.string s] w fun e w' => e = .returned (.tuple #[natV (D.dv s.data.toList), .bool true]) ∧ Below w.heap.size w w' := by
  have CI := mkHid (fun W => isDecimal_any s W hs)
  rw [h] at CI
  obtain ⟨f1, f2, f3⟩ := D.isDec_facts h
  have HD : Hid (∀ (l r p : List UInt8), s.data.toList = l ++ r ++ p → r.all D.isDig = true ∧ (l ++ r).all D.isDig = true) := mkHid fun l r p e => by
    rw [e, List.all_append, List.all_append] at f3
    simp only [Bool.and_eq_true] at f3
    exact ⟨f3.1.2, by rw [List.all_append, f3.1.1, f3.1.2]; rfl⟩
  have HL2 : Hid (s.data.toList.length ≤ 2000) := mkHid f2
  have HNE : Hid (0 < s.data.toList.length) := mkHid (List.length_pos_iff.2 f1)
  have HS0 : Hid (s.data.toList = s.data.toList) := mkHid rfl
  clear h hs f1 f2 f3
  have HA := mkHid (At2.new w w.heap.size 0 ⟨#[]⟩ rfl)
  have HB := mkHid ((Below.refl w.heap.size w).alloc (Nat.le_refl _) (.cells #[.int .u64 0, .string ⟨#[]⟩] 26))
  have HRI : Hid (RI w (w.alloc (.cells #[.int .u64 0, .string ⟨#[]⟩] 26)) s.data.toList s 0 0 (.slice none 0 0)) := mkHid ⟨by omega, by simp, rfl, .inl ⟨rfl, rfl⟩, fun h => absurd h (by omega), by simp, Below.refl _ _⟩
  generalize hL : s.data.toList = L at *
  have HL := mkHid hL
  clear hL
  obtain ⟨gl, hgl⟩ : ∃ gl, D.dv L % M.B = gl := ⟨_, rfl⟩
  obtain ⟨gh, hgh⟩ : ∃ gh, hs (D.dv L) = gh := ⟨_, rfl⟩
  unfold natV
  rw [hgl, hgh]
  have HGL := mkHid hgl; have HGH := mkHid hgh
  clear hgl hgh
  go_enter Tryd.func22, Tryd.ntmps22
  go_wp2_with (go_at_call 53; refine (CI.out _).mono ?_; rintro e w2 ⟨rfl, rfl⟩)
  clear CI
  go_loopw [0, 4] (fun sv wv wr => ∃ (k m : Nat) (t : ByteArray) (q : Value), sv = .string t ∧ q = wv ∧ Hid (RI w wr L t k m q)) (fun sv _ _ => match sv with | .string t => t.size | _ => 0)
  case atStart => exact ⟨0, 0, s, _, rfl, rfl, HRI.out⟩
  case round =>
    obtain ⟨k, m, t, wv, rfl, rfl, H⟩ := hrel
    clear HRI
    by_cases hlt : 0 < t.size
    · obtain ⟨n, hn, hn1, hn2, hn3⟩ : ∃ n : Nat, min (t.size : Int) 19 = (n : Int) ∧ n ≤ t.size ∧ n ≤ 19 ∧ 0 < n := ⟨min t.size 19, by omega, by omega, by omega, by omega⟩
      have HPARTS := mkHid (HD.out (L.take k) ((L.drop k).take n) ((L.drop k).drop n) (by rw [List.append_assoc, List.take_append_drop, List.take_append_drop]))
      have HDT : Hid (∀ i (_ : i < n) (h : i < t.size), 48 ≤ t[i].toNat ∧ t[i].toNat ≤ 57) := mkHid fun i h1 h2 => by
        refine D.isDig_le ?_
        have h3 := HPARTS.out.1
        rw [← H.out.rest, List.all_eq_true] at h3
        refine h3 _ ?_
        rw [← str_get t i h2]
        exact List.mem_take_iff_getElem.2 ⟨i, by rw [str_len]; omega, rfl⟩
      have HPT : Hid (∀ i, i ≤ n → D.dv (t.data.toList.take i) < 10 ^ i) := mkHid fun i hi => by
        have h3 := HPARTS.out.1
        rw [← H.out.rest] at h3
        have h4 : (t.data.toList.take i).all D.isDig = true := by
          rw [List.all_eq_true] at h3 ⊢
          intro x hx
          exact h3 x (List.take_subset_take_left _ hi hx)
        have h5 := D.dv_lt _ h4
        refine Nat.lt_of_lt_of_le h5 (Nat.pow_le_pow_right (by omega) ?_)
        rw [List.length_take]; omega
      have HML := mkHid (show (M.dig m).length ≤ 1000000 by
        have h1 := dig_dv (L.take k) (by have h2 := HPARTS.out.2; rw [List.all_append, Bool.and_eq_true] at h2; exact h2.1)
        rw [← H.out.val] at h1
        have h3 := HL2.out
        rw [List.length_take] at h1
        omega)
      obtain ⟨wo, hwo⟩ : ∃ wo : World, wo = wr := ⟨_, rfl⟩
      subst hwo
      go_wp2_with fail
      go_loop [5, 6, 20] (fun pv sv iv => ∃ i pt sc : Nat, i ≤ n ∧ iv = .int .i64 i ∧ pv = .int .u64 pt ∧ sv = .int .u64 sc ∧ Hid (pt = D.dv (t.data.toList.take i) ∧ sc = 10 ^ i)) (fun _ _ iv => n - (intOf iv).toNat)
      case atStart => exact ⟨0, 0, 1, by omega, rfl, rfl, rfl, mkHid ⟨rfl, rfl⟩⟩
      case round =>
        obtain ⟨i, pt, sc, hi, rfl, rfl, rfl, G⟩ := hrel
        by_cases hil : i < n
        · have hit : i < t.size := by omega
          obtain ⟨d, hd⟩ : ∃ d, t[i] = d := ⟨_, rfl⟩
          have hd1 := HDT.out i hil hit
          rw [hd] at hd1
          have hd2 : (48 : Int) ≤ d.toNat := by omega
          have hd3 : (d.toNat : Int) ≤ 57 := by omega
          have hp18 : 10 ^ i ≤ 1000000000000000000 := Nat.le_trans (Nat.pow_le_pow_right (by omega) (show i ≤ 18 by omega)) (by decide)
          have hpt : (pt : Int) ≤ 999999999999999999 := by have := HPT.out i (by omega); rw [← G.out.1] at this; omega
          have hsc : (sc : Int) ≤ 1000000000000000000 := by have := G.out.2; omega
          have HNEW : Hid (pt * 10 + (d.toNat - 48) = D.dv (t.data.toList.take (i + 1)) ∧ sc * 10 = 10 ^ (i + 1)) := mkHid ⟨by rw [take_get t i hit, D.dv_snoc, ← G.out.1, hd], by rw [Nat.pow_succ, G.out.2]⟩
          have HD1 := mkHid hd1
          clear hp18 hd1
          go_wp2
          go_round
          case rel => exact ⟨i + 1, pt * 10 + (d.toNat - 48), sc * 10, by omega, by go_num, by have := HD1.out; congr 1; omega, by congr 1, HNEW⟩
          case measure => simp [intOf]; omega
        · have hie : i = n := by omega
          subst hie
          have hp19 : 10 ^ i ≤ 10000000000000000000 := Nat.le_trans (Nat.pow_le_pow_right (by omega) hn2) (by decide)
          have hptB : pt < M.B := by have := HPT.out i (by omega); rw [← G.out.1] at this; rw [M.B_eq]; omega
          have hscB : sc < M.B := by rw [G.out.2, M.B_eq]; omega
          have CS := mkHid (scaleWords_acc wv (w.heap.size + 1) m sc pt wo H.out.acc H.out.size HML.out hscB hptB)
          clear hp19 hptB hscB
          go_wp2_with fail
          refine CS.out.mono ?_
          rintro e w3 ⟨b', cap', ln, rfl, zs, HZ⟩
          have CT := mkHid (trim_any b' 0 cap' zs w3 HZ.out.2.2.2.2.1.cap.1 HZ.out.2.2.2.2.1.cap.2 HZ.out.2.1 HZ.out.2.2.2.2.1.words)
          rw [HZ.out.1] at CT
          clear CS
          go_wp2_with fail
          refine CT.out.mono ?_
          rintro e w4 ⟨rfl, rfl⟩
          have HNX : Hid (RI w w3 L (t.extract i t.size) (k + i) (M.val zs) (.slice (some ⟨b', 0, none⟩) (M.dig (M.val zs)).length cap')) := mkHid (by
            have hkn : k + i ≤ L.length := by
              have h1 := H.out.rest
              have h2 := congrArg List.length h1
              rw [str_len, List.length_drop] at h2
              have := H.out.len
              omega
            have hr : Row w3 b' cap' (M.dig (M.val zs)) := by
              rw [M.dig_prefix HZ.out.2.1]; exact HZ.out.2.2.2.2.1.take _
            refine ⟨hkn, ?_, ?_, .inr ⟨b', cap', rfl, hr, HZ.out.2.2.2.1⟩, fun _ => ⟨b', cap', rfl, hr⟩, Nat.le_trans H.out.size HZ.out.2.2.2.2.2.size, H.out.below.trans HZ.out.2.2.2.2.2⟩
            · rw [str_drop, H.out.rest, List.drop_drop]
            · rw [HZ.out.2.2.1, List.take_add, D.dv_cat, ← H.out.val, G.out.1, G.out.2, H.out.rest]
              rw [List.length_take, List.length_drop, Nat.min_eq_left (by omega)])
          clear CT
          go_wp2_with fail
          go_roundw
          case rel => exact ⟨k + i, M.val zs, t.extract i t.size, _, rfl, rfl, HNX⟩
          case measure => simp; omega
    · have hz : t.size = 0 := by omega
      have hk : k = L.length := by
        have h2 := congrArg List.length H.out.rest
        rw [str_len, hz, List.length_drop] at h2
        have := H.out.len
        omega
      obtain ⟨b, cap, rfl, hr⟩ := H.out.some (by rw [hk]; exact HNE.out)
      have HM : Hid (m = D.dv L) := mkHid (by rw [H.out.val, hk, List.take_length])
      have HML := mkHid (show (M.dig m).length ≤ 100000 by
        have h1 := dig_dv L (HD.out [] L [] (by simp)).1
        rw [← HM.out] at h1
        have := HL2.out; omega)
      have CP := mkHid (pack_any b cap (M.dig m) wr hr HML.out (M.ok_dig m))
      rw [show natV (M.val (M.dig m)) = natV (D.dv L) by rw [M.val_dig, HM.out]] at CP
      have HBW := mkHid (HB.out.trans (H.out.below.mono (by omega)))
      have HAW := mkHid (HA.out.below H.out.below (by omega))
      clear hk hr
      unfold natV at CP
      rw [HGL.out, HGH.out] at CP
      go_wp2_with (go_at_call 38; refine CP.out.mono ?_; rintro e w5 ⟨rfl, hb⟩; have HB5 := mkHid hb; clear hb; obtain ⟨ha1, ha2, haf1, haf2⟩ := HAW.out.grows HB5.out)
      refine bodyPost_ret (v := .tuple #[.agg #[.int .u64 (gl : Int), .string gh], .bool true]) (by simp [results, Tryd.results22, go_sem, ha1, ha2]) rfl ⟨rfl, ?_⟩
      exact setCells_below (HBW.out.trans (HB5.out.mono HBW.out.size)) _ (Nat.le_refl _) _ _

/-- The decimal form of a number is read as the number. -/
theorem read_dec (n : Nat) (w : World) (h : Lib.nDigits n ≤ 2000) :
    Calls Tryd.prog 22 #[.string ⟨(Lib.decDigits n).toArray⟩] w fun e w' => e = .returned (.tuple #[natV n, .bool true]) ∧ Below w.heap.size w w' := by
  have e : (⟨(Lib.decDigits n).toArray⟩ : ByteArray).data.toList = Lib.decDigits n := by simp
  have := read_ok ⟨(Lib.decDigits n).toArray⟩ w (by rw [← str_len, e, Lib.decDigits_length]; unfold maxLen; omega) (by rw [e]; exact D.isDec_dec n h)
  rwa [e, D.dv_dec] at this
end Go.Proofs.YtjdkbbggelpchaaDoor
