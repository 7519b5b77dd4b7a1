/- Contracts of Var and ReadVar on both sides. -/
import Derived.Test.YthicdhjipebghaaTMath
import Derived.Test.YthicdhjipebghaaTLeaf
import Derived.Deep.RegionWith
import Derived.OwnWalk
namespace Go.Proofs.Ythicdhjipebghaa
open Go.RowKit
set_option linter.unusedVariables false
/-- A row of bytes that the call owns, made a text. -/
theorem Try.infoU8' : (Try.prog.info? 5).map (fun i => (i.zero, i.size, i.bytes)) = some (some (.int .u8 0), 1, 1) := by kernel_rfl

theorem conv_own {w : World} {base : Nat} {v : Value} {n : Nat} {l : List UInt8} (h : w.ownsRow base 5 1 v n (cellsOf l)) :
    (convert 73 9 v).run Try.prog w = .ok (.string ⟨l.toArray⟩) w := by
  obtain ⟨hl, h2⟩ := h
  rcases h2 with ⟨rfl, rfl⟩ | ⟨g, cap, cur, rfl, hb, hg, hn, hc, hs, ht⟩
  · have : l = [] := by simpa [cellsOf] using hl
    subst this
    exact run_convert_bytes_nil (P := Try.prog) w 73 5 Try.underlying73 Try.underlying5 0 0 9 Try.underlying9
  · have hlen : l.length = n := by simpa [cellsOf] using hl
    have h := run_convert_bytes_arg (P := Try.prog) w 73 5 Try.underlying73 Try.underlying5 g 0 n cap (l.map (fun c => (c.toNat : Int))) (by simpa using hlen) (fun i hi => by
      rw [cell_of_row w g (0 + i) cur 5 (0, 0) hg, Nat.zero_add]
      have e : (cur.toList.take (n * 1))[i]? = (cellsOf l)[i]? := by rw [ht]
      rw [List.getElem?_take, if_pos (by omega)] at e
      have hi' : i < l.length := by omega
      simp [cellsOf, hi'] at e
      simp [hi', e]) 9 Try.underlying9
    rw [h, strOfNums_bytes]

theorem varStart (w : World) : (w.alloc (.cells #[] 5)).ownsRow w.heap.size 5 1 (.slice (some ⟨w.heap.size, 0, none⟩) 0 0) 0 (cellsOf []) :=
  World.ownsRow_made w #[] 0 (Nat.le_refl _) (by decide) rfl

set_option maxHeartbeats 400000 in
theorem specVar_no (n : Int) (w : World) (h : n < 0 ∨ 562949953421311 < n) :
    Calls Try.prog 28 #[.int .i64 n] w fun e w' => e = .returned (.string ByteArray.empty) ∧ w = w' := by
  have hb : inB n 0 562949953421311 = false := inB_false (by omega)
  clear h
  go_enter Try.func28, Try.ntmps28
  go_wp2_with (go_at_call 42; refine (l1In_any _ _ _ _).mono ?_; rintro e w' ⟨rfl, rfl⟩)
  go_ret
  exact ⟨rfl, rfl⟩

set_option maxHeartbeats 400000 in
set_option maxRecDepth 100000 in
theorem specVar_yes (n : Nat) (w : World) (hn : n ≤ 562949953421311) :
    Calls Try.prog 28 #[.int .i64 n] w fun e w' => e = .returned (.string (varS n)) ∧ Below w.heap.size w w' := by
  have hb : inB n 0 562949953421311 = true := inB_true (by omega)
  obtain ⟨i0, hi, hz0, hz1, hz2⟩ := info_parts Try.infoU8'
  go_enter Try.func28, Try.ntmps28
  go_wp2_with (go_at_call 42; refine (l1In_any _ _ _ _).mono ?_; rintro e w' ⟨rfl, rfl⟩)
  go_loopw [0, 3] (fun t v wr => ∃ (f m : Nat) (pre : List UInt8), t = .int .i64 m ∧ Hid (m < 128 ^ (f + 1)) ∧ m ≤ 562949953421311 ∧ pre.length + f ≤ 6 ∧ Hid (pre ++ vby f m = varL n) ∧ wr.ownsRow w.heap.size 5 1 v pre.length (cellsOf pre) ∧ Below w.heap.size w wr) (fun t _ _ => (intOf t).toNat)
  case atStart => exact ⟨6, n, [], rfl, by unfold Hid; omega, hn, by simp, rfl, varStart w, (Below.refl _ _).alloc (Nat.le_refl _) _⟩
  case round =>
    obtain ⟨f, m, pre, rfl, HF, hm, hl, HP, hown, hbel⟩ := hrel
    have hbs := hbel.size
    by_cases hlt : 128 ≤ m
    · obtain ⟨g, rfl, hg⟩ := var_fuel HF.out hlt
      have HG : Hid (m / 128 < 128 ^ (g + 1)) := hg
      clear hg HF
      go_wp2_with (at_builtin; refine wpList_append_own _ rfl _ _ 73 rfl w.heap.size 5 i0 (.int .u8 0) 1 1 Try.underlying73 hi hz0 hz1 hz2 rfl (by decide) _ _ _ rfl (hown.alloc _) ⟨wr.heap.size, 0, none⟩ 1 1 [.int .u8 (128 + (m : Int) % 128)] rfl rfl ?c1 ?c2 ?c3 ?c4 ?c5 ?_)
      case c1 => exact cell_one_new _ _ _
      case c2 => intro u hu; simp at hu; subst hu; rfl
      case c3 => unfold maxLen; omega
      case c4 => omega
      case c5 => simp; omega
      intro v' w1 hown' hgrow _
      rw [← byte_hi, ← cellsOf_snoc] at hown'
      have hb' := hbel.trans (((Below.refl _ _).alloc hbs _).grown hgrow (by simp; omega) (fun k hk => (hown.lt k hk).1))
      clear hgrow
      go_wp2
      go_roundw
      case rel => exact ⟨g, m / 128, pre ++ [UInt8.ofNat (128 + m % 128)], by go_num, HG, by omega, by simp; omega, var_step HP.out hlt, by simpa using hown', hb'⟩
      case measure => simp [intOf]; omega
    · have hlt' : m < 128 := by omega
      go_wp2_with (at_builtin; refine wpList_append_own _ rfl _ _ 73 rfl w.heap.size 5 i0 (.int .u8 0) 1 1 Try.underlying73 hi hz0 hz1 hz2 rfl (by decide) _ _ _ rfl (hown.alloc _) ⟨wr.heap.size, 0, none⟩ 1 1 [.int .u8 (m : Int)] rfl rfl ?d1 ?d2 ?d3 ?d4 ?d5 ?_)
      case d1 => exact cell_one_new _ _ _
      case d2 => intro u hu; simp at hu; subst hu; rfl
      case d3 => unfold maxLen; omega
      case d4 => omega
      case d5 => simp; omega
      intro v' w1 hown' hgrow _
      rw [← byte_lo m hlt', ← cellsOf_snoc, var_end HP.out hlt'] at hown'
      have hb' := hbel.trans (((Below.refl _ _).alloc hbs _).grown hgrow (by simp; omega) (fun k hk => (hown.lt k hk).1))
      have hcv := conv_own hown'
      clear hgrow hown' hown
      go_wp2
      go_ret
      exact ⟨rfl, hb'⟩

theorem i64_or128 (y : Int) (h₀ : 0 ≤ y) (h₁ : y < 128) : bits .or .i64 y 128 = 128 + y := by
  have hc : bits .or .i64 y 128 = bits .or .i64 128 y := by simp only [bits, BitVec.or_comm]
  rw [hc, bits_join .i64 63 (by decide) wraps_i64 7 128 y (by decide) (by decide) (by decide) h₀ (by omega) (by omega)]

theorem ret2_ints {a b c d : Int} (h : a = b) (h' : c = d) : Ending.returned (.tuple #[.int .i64 a, .int .i64 c]) = .returned (.tuple #[.int .i64 b, .int .i64 d]) := by rw [h, h']

set_option maxHeartbeats 400000 in
set_option maxRecDepth 100000 in
theorem implReadVar_long (s : ByteArray) (w : World) (hs : s.size ≤ 1048576) (h7 : (7 : Int) < (s.size : Int)) :
    Calls Try.prog 43 #[.string s] w fun e w' => ∃ x k : Nat, e = .returned (.tuple #[.int .i64 x, .int .i64 k]) ∧ RV s.data.toList x k ∧ w = w' := by
  have h7' : 7 < s.size := by omega
  go_enter Try.func43, Try.ntmps43
  go_wp2
  go_loop [4, 10] (fun t c => ∃ k : Nat, k ≤ 7 ∧ c = .int .i64 k ∧ t = .int .i64 (vnum (s.data.toList.take k) : Nat) ∧ Hid (∀ j, j < k → 128 ≤ (s.data.toList.getD j 0).toNat)) (fun _ c => 7 - (intOf c).toNat)
  case atStart => exact ⟨0, Nat.zero_le _, rfl, rfl, fun j hj => absurd hj (by omega)⟩
  case round =>
    obtain ⟨k, hk, rfl, rfl, HA⟩ := hrel
    by_cases hlt : k < 7
    · have hks : k < s.size := by omega
      have hk7 : k < 7 := by omega
      have hb := (s[k]).toNat_lt
      by_cases hd : 128 ≤ (s[k].toNat : Int)
      · go_wp2
        go_round
        case rel => exact ⟨k + 1, by omega, by go_num, by rw [or_take hks hk7 _ (by omega)], rv_high hks HA.out (by omega)⟩
        case measure => simp [intOf]; omega
      · by_cases hz : (s[k].toNat : Int) = 0
        · have hz' : ((s[k].toNat : Int) == 0) = true := by simpa using hz
          have HZ : Hid ((s[k].toNat : Int) = 0) := hz
          clear hz
          by_cases hk0 : 0 < k
          · have hk0' : (0 : Int) < (k : Int) := by omega
            go_wp2
            go_ret2
            exact ⟨0, 0, rfl, rv_zero hks HA.out (by have := HZ.out; omega) hk0, rfl⟩
          · have hk0' : ¬ (0 : Int) < (k : Int) := by omega
            go_wp2
            go_ret2
            exact ⟨vnum (s.data.toList.take (k + 1)), k + 1, ret2_ints (or_take hks hk7 _ (by have := HZ.out; omega)) (by omega), rv_good hks hk7 HA.out (by have := HZ.out; omega) (.inl (by omega)), rfl⟩
        · have hz' : ((s[k].toNat : Int) == 0) = false := by simpa using hz
          go_wp2
          go_ret2
          exact ⟨vnum (s.data.toList.take (k + 1)), k + 1, ret2_ints (or_take hks hk7 _ (by omega)) (by omega), rv_good hks hk7 HA.out (by omega) (.inr (by omega)), rfl⟩
    · go_wp2
      go_ret2
      exact ⟨0, 0, rfl, rv_none HA.out (by omega), rfl⟩

set_option maxHeartbeats 400000 in
set_option maxRecDepth 100000 in
theorem implReadVar_short (s : ByteArray) (w : World) (hs : s.size ≤ 1048576) (h7 : ¬ (7 : Int) < (s.size : Int)) :
    Calls Try.prog 43 #[.string s] w fun e w' => ∃ x k : Nat, e = .returned (.tuple #[.int .i64 x, .int .i64 k]) ∧ RV s.data.toList x k ∧ w = w' := by
  have h7' : s.size ≤ 7 := by omega
  go_enter Try.func43, Try.ntmps43
  go_wp2
  go_loop [4, 10] (fun t c => ∃ k : Nat, k ≤ s.size ∧ c = .int .i64 k ∧ t = .int .i64 (vnum (s.data.toList.take k) : Nat) ∧ Hid (∀ j, j < k → 128 ≤ (s.data.toList.getD j 0).toNat)) (fun _ c => s.size - (intOf c).toNat)
  case atStart => exact ⟨0, Nat.zero_le _, rfl, rfl, fun j hj => absurd hj (by omega)⟩
  case round =>
    obtain ⟨k, hk, rfl, rfl, HA⟩ := hrel
    by_cases hlt : k < s.size
    · have hks : k < s.size := by omega
      have hk7 : k < 7 := by omega
      have hb := (s[k]).toNat_lt
      by_cases hd : 128 ≤ (s[k].toNat : Int)
      · go_wp2
        go_round
        case rel => exact ⟨k + 1, by omega, by go_num, by rw [or_take hks hk7 _ (by omega)], rv_high hks HA.out (by omega)⟩
        case measure => simp [intOf]; omega
      · by_cases hz : (s[k].toNat : Int) = 0
        · have hz' : ((s[k].toNat : Int) == 0) = true := by simpa using hz
          have HZ : Hid ((s[k].toNat : Int) = 0) := hz
          clear hz
          by_cases hk0 : 0 < k
          · have hk0' : (0 : Int) < (k : Int) := by omega
            go_wp2
            go_ret2
            exact ⟨0, 0, rfl, rv_zero hks HA.out (by have := HZ.out; omega) hk0, rfl⟩
          · have hk0' : ¬ (0 : Int) < (k : Int) := by omega
            go_wp2
            go_ret2
            exact ⟨vnum (s.data.toList.take (k + 1)), k + 1, ret2_ints (or_take hks hk7 _ (by have := HZ.out; omega)) (by omega), rv_good hks hk7 HA.out (by have := HZ.out; omega) (.inl (by omega)), rfl⟩
        · have hz' : ((s[k].toNat : Int) == 0) = false := by simpa using hz
          go_wp2
          go_ret2
          exact ⟨vnum (s.data.toList.take (k + 1)), k + 1, ret2_ints (or_take hks hk7 _ (by omega)) (by omega), rv_good hks hk7 HA.out (by omega) (.inr (by omega)), rfl⟩
    · go_wp2
      go_ret2
      exact ⟨0, 0, rfl, rv_none HA.out (by simp; omega), rfl⟩

theorem implReadVar_any (s : ByteArray) (w : World) (hs : s.size ≤ 1048576) :
    Calls Try.prog 43 #[.string s] w fun e w' => ∃ x k : Nat, e = .returned (.tuple #[.int .i64 x, .int .i64 k]) ∧ RV s.data.toList x k ∧ w = w' := by
  by_cases h7 : (7 : Int) < (s.size : Int)
  · exact implReadVar_long s w hs h7
  · exact implReadVar_short s w hs h7

theorem drop_step (s : ByteArray) (k p : Nat) (hp : p < k) (hk : k ≤ s.size) : vnum ((s.data.toList.take k).drop p) = (s[p]'(by omega)).toNat % 128 + 128 * vnum ((s.data.toList.take k).drop (p + 1)) := by
  have hl : p < (s.data.toList.take k).length := by
    have : s.data.toList.length = s.size := by simp
    rw [List.length_take]; omega
  rw [List.drop_eq_getElem_cons hl]
  have : (s.data.toList.take k)[p] = s[p]'(by omega) := by rw [List.getElem_take]; rfl
  rw [this]; rfl

theorem drop_le (l : List UInt8) (k p : Nat) (h : k ≤ p + 6) : vnum ((l.take k).drop p) ≤ 4398046511103 := by
  have h1 := vnum_lt ((l.take k).drop p)
  have h2 : 128 ^ ((l.take k).drop p).length ≤ 128 ^ 6 := Nat.pow_le_pow_right (by omega) (by simp; omega)
  have h3 : 128 ^ 6 = 4398046511104 := by decide
  omega

theorem extract_take (s : ByteArray) (k : Nat) : (s.extract 0 k).toList = s.data.toList.take k := by
  rw [ByteArray.toList_eq]
  obtain ⟨⟨l⟩⟩ := s
  simp

theorem varS_toList (n : Nat) : (varS n).toList = varL n := by
  rw [ByteArray.toList_eq]; rfl

theorem beq_take (s : ByteArray) (k : Nat) (h7 : k ≤ 7) : ((varS (vnum (s.data.toList.take k))).toList == (s.extract 0 k).toList) = true ↔ VarT (s.data.toList.take k) := by
  rw [extract_take, varS_toList, beq_iff_eq]
  exact varL_iff (Nat.le_trans (List.length_take_le _ _) h7)

set_option maxHeartbeats 800000 in
set_option maxRecDepth 100000 in
theorem specReadVar_any (s : ByteArray) (w : World) (hs : s.size ≤ 1048576) :
    Calls Try.prog 26 #[.string s] w fun e w' => ∃ x k : Nat, e = .returned (.tuple #[.int .i64 x, .int .i64 k]) ∧ RV s.data.toList x k ∧ Below w.heap.size w w' := by
  go_enter Try.func26, Try.ntmps26
  go_wp2
  go_loopw [4] (fun c wr => ∃ k : Nat, 1 ≤ k ∧ k ≤ 8 ∧ k ≤ s.size + 1 ∧ c = .int .i64 k ∧ Hid (∀ j, 1 ≤ j → j < k → ¬ VarT (s.data.toList.take j)) ∧ Below w.heap.size w wr) (fun c _ => 8 - (intOf c).toNat)
  case atStart => exact ⟨1, by omega, by omega, by omega, rfl, fun j h1 h2 => absurd h2 (by omega), Below.refl _ _⟩
  case round =>
    obtain ⟨k, hk1, hk8, hks, rfl, HA, hbel⟩ := hrel
    by_cases hlt : k ≤ 7
    · by_cases hle : k ≤ s.size
      · have g1 : (k : Int) ≤ 7 := by omega
        have g2 : (k : Int) ≤ (s.size : Int) := by omega
        go_wp2
        go_loop [5, 6] (fun t c => ∃ i : Nat, i ≤ k ∧ c = .int .i64 ((i : Int) - 1) ∧ t = .int .i64 (vnum ((s.data.toList.take k).drop i) : Nat)) (fun _ c => (intOf c + 1).toNat)
        case atStart => exact ⟨k, Nat.le_refl _, rfl, by simp [vnum]⟩
        case round =>
          obtain ⟨i, hik, rfl, rfl⟩ := hrel
          rcases i with _ | p
          · have hv := vnum_le (s.data.toList.take k) (Nat.le_trans (List.length_take_le _ _) hlt)
            have hbs := hbel.size
            go_wp2
            go_region_with (go_at_call 28; refine (specVar_yes _ _ hv).mono ?_; rintro e w1 ⟨rfl, hb1⟩)
            all_goals go_wp2
            · have ht : ((varS (vnum (s.data.toList.take k))).toList == (s.extract 0 k).toList) = true := by assumption
              go_ret2
              exact ⟨vnum (s.data.toList.take k), k, rfl, .inl ⟨hk1, hlt, by simpa using hle, (beq_take s k hlt).1 ht, rfl⟩, hbel.drew.trans (Below.mono hb1 hbs)⟩
            · have ht : ((varS (vnum (s.data.toList.take k))).toList == (s.extract 0 k).toList) = false := by assumption
              go_roundw
              case rel =>
                refine ⟨k + 1, by omega, by omega, by omega, by go_num, ?_, hbel.drew.trans (Below.mono hb1 hbs)⟩
                intro j h1 h2 hg
                by_cases hj : j < k
                · exact HA.out j h1 hj hg
                · obtain rfl : j = k := by omega
                  rw [(beq_take s j hlt).2 hg] at ht
                  cases ht
              case measure => simp [intOf]; omega
          · have hps : p < s.size := by omega
            have hb := (s[p]).toNat_lt
            have hd := drop_le s.data.toList k (p + 1) (by omega)
            have HS : Hid (vnum ((s.data.toList.take k).drop p) = (s[p]).toNat % 128 + 128 * vnum ((s.data.toList.take k).drop (p + 1))) := drop_step s k p (by omega) hle
            go_wp2
            go_round
            case rel => exact ⟨p, by omega, by go_num, by rw [HS.out]; go_num⟩
            case measure => simp [intOf]
      · have g1 : (k : Int) ≤ 7 := by omega
        have g2 : ¬ (k : Int) ≤ (s.size : Int) := by omega
        go_wp2
        go_ret2
        exact ⟨0, 0, rfl, .inr ⟨rfl, rfl, fun j h1 _ hl => HA.out j h1 (by simp at hl; omega)⟩, hbel⟩
    · have g1 : ¬ (k : Int) ≤ 7 := by omega
      go_wp2
      go_ret2
      exact ⟨0, 0, rfl, .inr ⟨rfl, rfl, fun j h1 h7 _ => HA.out j h1 (by omega)⟩, hbel⟩

end Go.Proofs.Ythicdhjipebghaa
