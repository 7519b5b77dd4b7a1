/- Contracts of Var, the program's and the specification's. -/
import Derived.Test.YtegeifdnclhknaaFixed
import Derived.Test.YtegeifdnclhknaaMathB
namespace Go.Proofs.Ytegeifdnclhknaa
open Go.RowKit
set_option linter.unusedVariables false

/-- A row of bytes that the call owns, made a text. -/
theorem conv_own {w : World} {base : Nat} {v : Value} {n : Nat} {l : List UInt8} (h : w.ownsRow base 5 1 v n (cellsOf l)) :
    (convert 36 9 v).run Try.prog w = .ok (.string ⟨l.toArray⟩) w := by
  obtain ⟨hl, h2⟩ := h
  rcases h2 with ⟨rfl, rfl⟩ | ⟨g, cap, cur, rfl, hb, hg, hn, hc, hs, ht⟩
  · have : l = [] := by simpa [cellsOf] using hl
    subst this
    exact run_convert_bytes_nil (P := Try.prog) w 36 5 Try.underlying36 Try.underlying5 0 0 9 Try.underlying9
  · have hlen : l.length = n := by simpa [cellsOf] using hl
    have h := run_convert_bytes_arg (P := Try.prog) w 36 5 Try.underlying36 Try.underlying5 g 0 n cap (l.map (fun c => (c.toNat : Int))) (by simpa using hlen) (fun i hi => by
      rw [cell_of_row w g (0 + i) cur 5 (0, 0) hg, Nat.zero_add]
      have e : (cur.toList.take (n * 1))[i]? = (cellsOf l)[i]? := by rw [ht]
      rw [List.getElem?_take, if_pos (by omega)] at e
      have hi' : i < l.length := by omega
      simp [cellsOf, hi'] at e
      simp [hi', e]) 9 Try.underlying9
    rw [h, strOfNums_bytes]

theorem varStart (w : World) : (w.alloc (.cells #[] 5)).ownsRow w.heap.size 5 1 (.slice (some ⟨w.heap.size, 0, none⟩) 0 0) 0 (cellsOf []) :=
  World.ownsRow_made w #[] 0 (Nat.le_refl _) (by decide) rfl

set_option maxHeartbeats 400000 in
theorem specVar_no (n : Int) (w : World) (h : n < 0 ∨ 562949953421311 < n) :
    Calls Try.prog 13 #[.int .i64 n] w fun e w' => e = .returned (.string ByteArray.empty) ∧ w = w' := by
  have hb : inB n 0 562949953421311 = false := inB_false (by omega)
  clear h
  go_enter Try.func13, Try.ntmps13
  go_wp2_with (go_at_call 21; refine (l1In_any _ _ _ _).mono ?_; rintro e w' ⟨rfl, rfl⟩)
  go_ret
  exact ⟨rfl, rfl⟩

set_option maxHeartbeats 400000 in
set_option maxRecDepth 100000 in
theorem specVar_yes (n : Nat) (w : World) (hn : n ≤ 562949953421311) :
    Calls Try.prog 13 #[.int .i64 n] w fun e w' => e = .returned (.string (varS n)) ∧ Below w.heap.size w w' := by
  have hb : inB n 0 562949953421311 = true := inB_true (by omega)
  obtain ⟨i0, hi, hz0, hz1, hz2⟩ := info_parts Try.info5
  go_enter Try.func13, Try.ntmps13
  go_wp2_with (go_at_call 21; refine (l1In_any _ _ _ _).mono ?_; rintro e w' ⟨rfl, rfl⟩)
  go_loopw [0, 3] (fun t v wr => ∃ (f m : Nat) (pre : List UInt8), t = .int .i64 m ∧ Hid (m < 128 ^ (f + 1)) ∧ m ≤ 562949953421311 ∧ pre.length + f ≤ 6 ∧ Hid (pre ++ vby f m = varL n) ∧ wr.ownsRow w.heap.size 5 1 v pre.length (cellsOf pre) ∧ Below w.heap.size w wr) (fun t _ _ => (intOf t).toNat)
  case atStart => exact ⟨6, n, [], rfl, by unfold Hid; omega, hn, by simp, rfl, varStart w, (Below.refl _ _).alloc (Nat.le_refl _) _⟩
  case round =>
    obtain ⟨f, m, pre, rfl, HF, hm, hl, HP, hown, hbel⟩ := hrel
    have hbs := hbel.size
    by_cases hlt : 128 ≤ m
    · obtain ⟨g, rfl, hg⟩ := var_fuel HF.out hlt
      have HG : Hid (m / 128 < 128 ^ (g + 1)) := hg
      clear hg HF
      go_wp2_with (at_builtin; refine wpList_append_own _ rfl _ _ 36 rfl w.heap.size 5 i0 (.int .u8 0) 1 1 Try.underlying36 hi hz0 hz1 hz2 rfl (by decide) _ _ _ rfl (hown.alloc _) ⟨wr.heap.size, 0, none⟩ 1 1 [.int .u8 (128 + (m : Int) % 128)] rfl rfl ?c1 ?c2 ?c3 ?c4 ?c5 ?_)
      case c1 => exact cell_one_new _ _ _
      case c2 => intro u hu; simp at hu; subst hu; rfl
      case c3 => unfold maxLen; omega
      case c4 => omega
      case c5 => simp; omega
      intro v' w1 hown' hgrow _
      rw [← byte_hi, ← cellsOf_snoc] at hown'
      have hb' := hbel.trans (((Below.refl _ _).alloc hbs _).grown hgrow (by simp; omega) (fun k hk => (hown.lt k hk).1))
      clear hgrow
      go_wp2
      go_roundw
      case rel => exact ⟨g, m / 128, pre ++ [UInt8.ofNat (128 + m % 128)], by go_num, HG, by omega, by simp; omega, var_step HP.out hlt, by simpa using hown', hb'⟩
      case measure => simp [intOf]; omega
    · have hlt' : m < 128 := by omega
      go_wp2_with (at_builtin; refine wpList_append_own _ rfl _ _ 36 rfl w.heap.size 5 i0 (.int .u8 0) 1 1 Try.underlying36 hi hz0 hz1 hz2 rfl (by decide) _ _ _ rfl (hown.alloc _) ⟨wr.heap.size, 0, none⟩ 1 1 [.int .u8 (m : Int)] rfl rfl ?d1 ?d2 ?d3 ?d4 ?d5 ?_)
      case d1 => exact cell_one_new _ _ _
      case d2 => intro u hu; simp at hu; subst hu; rfl
      case d3 => unfold maxLen; omega
      case d4 => omega
      case d5 => simp; omega
      intro v' w1 hown' hgrow _
      rw [← byte_lo m hlt', ← cellsOf_snoc, var_end HP.out hlt'] at hown'
      have hb' := hbel.trans (((Below.refl _ _).alloc hbs _).grown hgrow (by simp; omega) (fun k hk => (hown.lt k hk).1))
      have hcv := conv_own hown'
      clear hgrow hown' hown
      go_wp2
      go_ret
      exact ⟨rfl, hb'⟩

theorem i64_or128 (y : Int) (h₀ : 0 ≤ y) (h₁ : y < 128) : bits .or .i64 y 128 = 128 + y := by
  have hc : bits .or .i64 y 128 = bits .or .i64 128 y := by simp only [bits, BitVec.or_comm]
  rw [hc, bits_join .i64 63 (by decide) wraps_i64 7 128 y (by decide) (by decide) (by decide) h₀ (by omega) (by omega)]

set_option maxHeartbeats 400000 in
theorem implVar_no (n : Int) (w : World) (h : n < 0 ∨ 562949953421311 < n) :
    Calls Try.prog 14 #[.int .i64 n] w fun e w' => e = .returned (.string ByteArray.empty) ∧ w = w' := by
  by_cases h0 : n < 0
  · go_enter Try.func14, Try.ntmps14
    go_wp2
    go_ret
    exact ⟨rfl, rfl⟩
  · have h1 : 562949953421311 < n := by omega
    clear h
    go_enter Try.func14, Try.ntmps14
    go_wp2
    go_ret
    exact ⟨rfl, rfl⟩

set_option maxHeartbeats 400000 in
set_option maxRecDepth 100000 in
theorem implVar_yes (n : Nat) (w : World) (hn : n ≤ 562949953421311) :
    Calls Try.prog 14 #[.int .i64 n] w fun e w' => e = .returned (.string (varS n)) ∧ Below w.heap.size w w' := by
  have g0 : ¬ (n : Int) < 0 := by omega
  have g1 : ¬ 562949953421311 < (n : Int) := by omega
  obtain ⟨i0, hi, hz0, hz1, hz2⟩ := info_parts Try.info5
  go_enter Try.func14, Try.ntmps14
  go_wp2
  go_loopw [0, 3] (fun t v wr => ∃ (f m : Nat) (pre : List UInt8), t = .int .i64 m ∧ Hid (m < 128 ^ (f + 1)) ∧ m ≤ 562949953421311 ∧ pre.length + f ≤ 6 ∧ Hid (pre ++ vby f m = varL n) ∧ wr.ownsRow w.heap.size 5 1 v pre.length (cellsOf pre) ∧ Below w.heap.size w wr) (fun t _ _ => (intOf t).toNat)
  case atStart => exact ⟨6, n, [], rfl, by unfold Hid; omega, hn, by simp, rfl, World.ownsRow_nil _ _ _ _, Below.refl _ _⟩
  case round =>
    obtain ⟨f, m, pre, rfl, HF, hm, hl, HP, hown, hbel⟩ := hrel
    have hbs := hbel.size
    by_cases hlt : 128 ≤ m
    · obtain ⟨g, rfl, hg⟩ := var_fuel HF.out hlt
      have HG : Hid (m / 128 < 128 ^ (g + 1)) := hg
      clear hg HF
      have ha := i64_and127 (m : Int)
      have ho := i64_or128 ((m : Int) % 128) (by omega) (by omega)
      go_wp2_with (at_builtin; refine wpList_append_own _ rfl _ _ 36 rfl w.heap.size 5 i0 (.int .u8 0) 1 1 Try.underlying36 hi hz0 hz1 hz2 rfl (by decide) _ _ _ rfl (hown.alloc _) ⟨wr.heap.size, 0, none⟩ 1 1 [.int .u8 (128 + (m : Int) % 128)] rfl rfl ?c1 ?c2 ?c3 ?c4 ?c5 ?_)
      case c1 => exact cell_one_new _ _ _
      case c2 => intro u hu; simp at hu; subst hu; rfl
      case c3 => unfold maxLen; omega
      case c4 => omega
      case c5 => simp; omega
      intro v' w1 hown' hgrow _
      rw [← byte_hi, ← cellsOf_snoc] at hown'
      have hb' := hbel.trans (((Below.refl _ _).alloc hbs _).grown hgrow (by simp; omega) (fun k hk => (hown.lt k hk).1))
      clear hgrow
      go_wp2
      go_roundw
      case rel => exact ⟨g, m / 128, pre ++ [UInt8.ofNat (128 + m % 128)], by go_num, HG, by omega, by simp; omega, var_step HP.out hlt, by simpa using hown', hb'⟩
      case measure => simp [intOf]; omega
    · have hlt' : m < 128 := by omega
      go_wp2_with (at_builtin; refine wpList_append_own _ rfl _ _ 36 rfl w.heap.size 5 i0 (.int .u8 0) 1 1 Try.underlying36 hi hz0 hz1 hz2 rfl (by decide) _ _ _ rfl (hown.alloc _) ⟨wr.heap.size, 0, none⟩ 1 1 [.int .u8 (m : Int)] rfl rfl ?d1 ?d2 ?d3 ?d4 ?d5 ?_)
      case d1 => exact cell_one_new _ _ _
      case d2 => intro u hu; simp at hu; subst hu; rfl
      case d3 => unfold maxLen; omega
      case d4 => omega
      case d5 => simp; omega
      intro v' w1 hown' hgrow _
      rw [← byte_lo m hlt', ← cellsOf_snoc, var_end HP.out hlt'] at hown'
      have hb' := hbel.trans (((Below.refl _ _).alloc hbs _).grown hgrow (by simp; omega) (fun k hk => (hown.lt k hk).1))
      have hcv := conv_own hown'
      clear hgrow hown' hown
      go_wp2
      go_ret
      exact ⟨rfl, hb'⟩

set_option maxHeartbeats 400000 in
theorem var_law (n : Int) (w : World) :
    Calls Try.prog 5 #[.int .i64 n] w fun e w' => e = .returned (.bool true) ∧ Below w.heap.size w w' := by
  by_cases h : 0 ≤ n ∧ n ≤ 562949953421311
  · obtain ⟨m, rfl⟩ := Int.eq_ofNat_of_zero_le h.1
    have h1 := h.2
    clear h
    go_enter Try.func5, Try.ntmps5
    go_wp2_with fail
    refine (specVar_yes m _ (by omega)).mono ?_
    rintro e w1 ⟨rfl, b1⟩
    go_wp2_with fail
    refine (implVar_yes m _ (by omega)).mono ?_
    rintro e w2 ⟨rfl, b2⟩
    go_wp2
    go_ret
    exact ⟨rfl, b1.trans (b2.mono b1.size)⟩
  · go_enter Try.func5, Try.ntmps5
    go_wp2_with fail
    refine (specVar_no n _ (by omega)).mono ?_
    rintro e w1 ⟨rfl, rfl⟩
    go_wp2_with fail
    refine (implVar_no n _ (by omega)).mono ?_
    rintro e w2 ⟨rfl, rfl⟩
    go_wp2
    go_ret
    exact ⟨rfl, Below.refl _ _⟩

end Go.Proofs.Ytegeifdnclhknaa
