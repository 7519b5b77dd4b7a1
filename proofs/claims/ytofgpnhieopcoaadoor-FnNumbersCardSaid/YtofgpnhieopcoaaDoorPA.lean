/- Contracts of Fixed, ReadFixed, Var and ReadVar, and of the specification's Var. -/
import Derived.Test.YtofgpnhieopcoaaDoorRows
import Derived.Test.YtofgpnhieopcoaaDoorMathC
import Derived.Test.YtofgpnhieopcoaaDoorMathE
import Derived.WalkKit
import Derived.WalkSpells
import Derived.WalkLawsBesides
import Derived.Deep.QuietTactic
import Derived.BigQuiet
import Derived.OpenShut
import Derived.Deep.RegionWith
import Derived.Deep.RegionLaw
namespace Go.Proofs.YtofgpnhieopcoaaDoor
open Go.RowKit
set_option linter.unusedVariables false

/-- Is x from a to b? -/
def inB (x a b : Int) : Bool := decide (a ≤ x) && decide (x ≤ b)

theorem inB_true {x a b : Int} (h : a ≤ x ∧ x ≤ b) : inB x a b = true := by simp [inB, h]

theorem inB_false {x a b : Int} (h : x < a ∨ b < x) : inB x a b = false := by
  simp only [inB, Bool.and_eq_false_iff, decide_eq_false_iff_not]; omega

set_option maxHeartbeats 400000 in
theorem l1In_any (x a b : Int) (w : World) :
    Calls Tryd.prog 32 #[.int .i64 x, .int .i64 a, .int .i64 b] w fun e w' => e = .returned (.bool (inB x a b)) ∧ w = w' := by
  by_cases h1 : a ≤ x
  · by_cases h2 : x ≤ b
    · rw [inB_true ⟨h1, h2⟩]
      go_enter Tryd.func32, Tryd.ntmps32
      go_wp2
      go_ret
      exact ⟨rfl, rfl⟩
    · rw [inB_false (by omega)]
      go_enter Tryd.func32, Tryd.ntmps32
      go_wp2
      go_ret
      exact ⟨rfl, rfl⟩
  · rw [inB_false (by omega)]
    go_enter Tryd.func32, Tryd.ntmps32
    go_wp2
    go_ret
    exact ⟨rfl, rfl⟩

set_option maxHeartbeats 400000 in
theorem implFixed_no (n b : Int) (w : World) (h : b < 1 ∨ 7 < b ∨ n < 0) :
    Calls Tryd.prog 9 #[.int .i64 n, .int .i64 b] w fun e w' => e = .returned (.string ByteArray.empty) ∧ w = w' := by
  by_cases h1 : b < 1
  · go_enter Tryd.func9, Tryd.ntmps9
    go_wp2
    go_ret
    exact ⟨rfl, rfl⟩
  · by_cases h7 : 7 < b
    · go_enter Tryd.func9, Tryd.ntmps9
      go_wp2
      go_ret
      exact ⟨rfl, rfl⟩
    · have h0 : n < 0 := by omega
      clear h
      go_enter Tryd.func9, Tryd.ntmps9
      go_wp2
      go_ret
      exact ⟨rfl, rfl⟩

theorem Tryd.info5 : (Tryd.prog.info? 5).map (fun i => (i.zero, i.size, i.bytes)) = some (some (.int .u8 0), 1, 1) := by kernel_rfl

theorem make_fix (n b : Nat) (w : World) (h7 : b ≤ 7) : (Instr.makeSlice 22 (.int .i64 b) (.int .i64 b)).run Tryd.prog w = .ok (.slice (some ⟨w.heap.size, 0, none⟩) b b) (w.alloc (.cells (fixArr n b 0) 5)) := by
  obtain ⟨i0, hi, hz0, hz1, hz2⟩ := info_parts Tryd.info5
  have h := run_make (P := Tryd.prog) w 22 5 i0 (.int .u8 0) Tryd.underlying22 hi hz0 .i64 .i64 b b (by omega) (by omega) (by rw [hz2]; omega) (by omega)
  rw [h, hz1]
  simp only [Int.toNat_natCast, Nat.mul_one]
  rw [show (Value.int .u8 0).cells = #[Value.int .u8 0] from rfl, fixArr_zero n b]

theorem conv_fix (n b : Nat) (w : World) : (convert 22 9 (.slice (some ⟨w.heap.size, 0, none⟩) b b)).run Tryd.prog (w.alloc (.cells (fixArr n b b) 5)) = .ok (.string (beS n b)) (w.alloc (.cells (fixArr n b b) 5)) := by
  have h := run_convert_bytes_arg (P := Tryd.prog) (w.alloc (.cells (fixArr n b b) 5)) 22 5 Tryd.underlying22 Tryd.underlying5 w.heap.size 0 b b ((be n b).map (fun c => (c.toNat : Int))) (by simp [be_length]) (fun i hi => by
    rw [World.cell?_alloc_at _ _ _ _ rfl, Nat.zero_add]; exact fixArr_done n b i hi) 9 Tryd.underlying9
  rw [h, strOfNums_be]

set_option maxHeartbeats 400000 in
theorem implFixed_yes (n b : Nat) (w : World) (hn : n ≤ 9223372036854775807) (h1 : 1 ≤ b) (h7 : b ≤ 7) :
    Calls Tryd.prog 9 #[.int .i64 n, .int .i64 b] w fun e w' => e = .returned (.string (fixedS n b)) ∧ Below w.heap.size w w' := by
  have g1 : ¬ (b : Int) < 1 := by omega
  have g7 : ¬ 7 < (b : Int) := by omega
  have g0 : ¬ (n : Int) < 0 := by omega
  by_cases hz : n / 256 ^ b = 0
  · have HF : Hid (fixedS n b = beS n b) := fixedS_yes hz
    have hq : ((n : Int) / 2 ^ (8 * b) != 0) = false := by
      rw [pow2_8i, ← Int.natCast_ediv, hz]; rfl
    clear hz
    have hmk := make_fix n b w h7
    have hcv := conv_fix n b w
    go_enter Tryd.func9, Tryd.ntmps9
    go_wp2
    go_loopw [6, 27] (fun _ i wr => ∃ k : Nat, k ≤ b ∧ i = .int .i64 k ∧ wr = w.alloc (.cells (fixArr n b k) 5)) (fun _ i _ => b - (intOf i).toNat)
    case atStart => exact ⟨0, Nat.zero_le _, rfl, rfl⟩
    case round =>
      obtain ⟨k, hk, rfl, rfl⟩ := hrel
      by_cases hlt : k < b
      · clear hcv hmk
        obtain ⟨v0, hv0⟩ := fixArr_get n b k (b - 1 - k) hk (by omega)
        go_wp2
        go_roundw
        case rel => exact ⟨k + 1, by omega, by go_num, by rw [fixArr_set n b k _ hlt (byte_shift n k)]⟩
        case measure => simp [intOf]; omega
      · have e : k = b := by omega
        subst e
        go_wp2
        go_ret
        exact ⟨ret_str HF.out.symm, (Below.refl _ _).alloc (Nat.le_refl _) _⟩
  · have HF : Hid (fixedS n b = ByteArray.empty) := fixedS_no hz
    have hq : ((n : Int) / 2 ^ (8 * b) != 0) = true := by
      rw [pow2_8i, ← Int.natCast_ediv, bne_iff_ne]; omega
    clear hz
    go_enter Tryd.func9, Tryd.ntmps9
    go_wp2
    go_ret
    exact ⟨ret_str HF.out.symm, Below.refl _ _⟩

set_option maxHeartbeats 400000 in
theorem implReadFixed_no (s : ByteArray) (n : Int) (w : World) (hs : s.size ≤ 1048576) (h : n < 1 ∨ 7 < n ∨ (s.size : Int) < n) :
    Calls Tryd.prog 10 #[.string s, .int .i64 n] w fun e w' => e = .returned (.tuple #[.int .i64 0, .bool false]) ∧ w' = w := by
  by_cases h1 : n < 1
  · go_enter Tryd.func10, Tryd.ntmps10
    go_wp2
    go_ret2
    exact ⟨rfl, rfl⟩
  · by_cases h7 : 7 < n
    · go_enter Tryd.func10, Tryd.ntmps10
      go_wp2
      go_ret2
      exact ⟨rfl, rfl⟩
    · have h2 : (s.size : Int) < n := by omega
      clear h
      go_enter Tryd.func10, Tryd.ntmps10
      go_wp2
      go_ret2
      exact ⟨rfl, rfl⟩

set_option maxHeartbeats 400000 in
theorem implReadFixed_yes (s : ByteArray) (n : Nat) (w : World) (hs : s.size ≤ 1048576) (h1 : 1 ≤ n) (h7 : n ≤ 7) (hn : n ≤ s.size) :
    Calls Tryd.prog 10 #[.string s, .int .i64 n] w fun e w' => e = .returned (.tuple #[.int .i64 (rd (s.data.toList.take n)), .bool true]) ∧ w' = w := by
  have h2 : ¬ (s.size : Int) < (n : Int) := by omega
  have h3 : ¬ (n : Int) < 1 := by omega
  have h4 : ¬ 7 < (n : Int) := by omega
  go_enter Tryd.func10, Tryd.ntmps10
  go_wp2
  go_loop [6, 7, 21] (fun t i j => ∃ k : Nat, k ≤ n ∧ j = .int .i64 k ∧ t = .int .i64 (rd (s.data.toList.take k))) (fun _ _ i => n - (intOf i).toNat)
  case atStart => exact ⟨0, Nat.zero_le _, rfl, rfl⟩
  case round =>
    obtain ⟨k, hk, rfl, rfl⟩ := hrel
    have r0 := rd_nonneg (s.data.toList.take k)
    by_cases hlt : k < n
    · have r1 := rd_take_le s k (by omega)
      have hks : k < s.size := by omega
      have hb := (s[k]).toNat_lt
      have HS : Hid (rd (s.data.toList.take (k + 1)) = rd (s.data.toList.take k) * 256 + (s[k].toNat : Int)) := rd_take_succ s k hks
      go_wp2
      go_round
      case rel => exact ⟨k + 1, by omega, by go_num, by rw [HS.out, i64_or8 _ _ r0 r1 (by omega) (by omega)]⟩
      case measure => simp [intOf]; omega
    · have e : k = n := by omega
      subst e
      go_wp2
      go_ret2
      exact ⟨rfl, rfl⟩

/-- A row of bytes that the call owns, made a text. -/
theorem conv_own {w : World} {base : Nat} {v : Value} {n : Nat} {l : List UInt8} (h : w.ownsRow base 5 1 v n (cellsOf l)) :
    (convert 22 9 v).run Tryd.prog w = .ok (.string ⟨l.toArray⟩) w := by
  obtain ⟨hl, h2⟩ := h
  rcases h2 with ⟨rfl, rfl⟩ | ⟨g, cap, cur, rfl, hb, hg, hn, hc, hs, ht⟩
  · have : l = [] := by simpa [cellsOf] using hl
    subst this
    exact run_convert_bytes_nil (P := Tryd.prog) w 22 5 Tryd.underlying22 Tryd.underlying5 0 0 9 Tryd.underlying9
  · have hlen : l.length = n := by simpa [cellsOf] using hl
    have h := run_convert_bytes_arg (P := Tryd.prog) w 22 5 Tryd.underlying22 Tryd.underlying5 g 0 n cap (l.map (fun c => (c.toNat : Int))) (by simpa using hlen) (fun i hi => by
      rw [cell_of_row w g (0 + i) cur 5 (0, 0) hg, Nat.zero_add]
      have e : (cur.toList.take (n * 1))[i]? = (cellsOf l)[i]? := by rw [ht]
      rw [List.getElem?_take, if_pos (by omega)] at e
      have hi' : i < l.length := by omega
      simp [cellsOf, hi'] at e
      simp [hi', e]) 9 Tryd.underlying9
    rw [h, strOfNums_bytes]

theorem varStart (w : World) : (w.alloc (.cells #[] 5)).ownsRow w.heap.size 5 1 (.slice (some ⟨w.heap.size, 0, none⟩) 0 0) 0 (cellsOf []) :=
  World.ownsRow_made w #[] 0 (Nat.le_refl _) (by decide) rfl

set_option maxHeartbeats 400000 in
theorem specVar_no (n : Int) (w : World) (h : n < 0 ∨ 562949953421311 < n) :
    Calls Tryd.prog 23 #[.int .i64 n] w fun e w' => e = .returned (.string ByteArray.empty) ∧ w = w' := by
  have hb : inB n 0 562949953421311 = false := inB_false (by omega)
  clear h
  go_enter Tryd.func23, Tryd.ntmps23
  go_wp2_with (go_at_call 32; refine (l1In_any _ _ _ _).mono ?_; rintro e w' ⟨rfl, rfl⟩)
  go_ret
  exact ⟨rfl, rfl⟩

set_option maxHeartbeats 400000 in
set_option maxRecDepth 100000 in
theorem specVar_yes (n : Nat) (w : World) (hn : n ≤ 562949953421311) :
    Calls Tryd.prog 23 #[.int .i64 n] w fun e w' => e = .returned (.string (varS n)) ∧ Below w.heap.size w w' := by
  have hb : inB n 0 562949953421311 = true := inB_true (by omega)
  obtain ⟨i0, hi, hz0, hz1, hz2⟩ := info_parts Tryd.info5
  go_enter Tryd.func23, Tryd.ntmps23
  go_wp2_with (go_at_call 32; refine (l1In_any _ _ _ _).mono ?_; rintro e w' ⟨rfl, rfl⟩)
  go_loopw [0, 3] (fun t v wr => ∃ (f m : Nat) (pre : List UInt8), t = .int .i64 m ∧ Hid (m < 128 ^ (f + 1)) ∧ m ≤ 562949953421311 ∧ pre.length + f ≤ 6 ∧ Hid (pre ++ vby f m = varL n) ∧ wr.ownsRow w.heap.size 5 1 v pre.length (cellsOf pre) ∧ Below w.heap.size w wr) (fun t _ _ => (intOf t).toNat)
  case atStart => exact ⟨6, n, [], rfl, by unfold Hid; omega, hn, by simp, rfl, varStart w, (Below.refl _ _).alloc (Nat.le_refl _) _⟩
  case round =>
    obtain ⟨f, m, pre, rfl, HF, hm, hl, HP, hown, hbel⟩ := hrel
    have hbs := hbel.size
    by_cases hlt : 128 ≤ m
    · obtain ⟨g, rfl, hg⟩ := var_fuel HF.out hlt
      have HG : Hid (m / 128 < 128 ^ (g + 1)) := hg
      clear hg HF
      go_wp2_with (at_builtin; refine wpList_append_own _ rfl _ _ 22 rfl w.heap.size 5 i0 (.int .u8 0) 1 1 Tryd.underlying22 hi hz0 hz1 hz2 rfl (by decide) _ _ _ rfl (hown.alloc _) ⟨wr.heap.size, 0, none⟩ 1 1 [.int .u8 (128 + (m : Int) % 128)] rfl rfl ?c1 ?c2 ?c3 ?c4 ?c5 ?_)
      case c1 => exact cell_one_new _ _ _
      case c2 => intro u hu; simp at hu; subst hu; rfl
      case c3 => unfold maxLen; omega
      case c4 => omega
      case c5 => simp; omega
      intro v' w1 hown' hgrow _
      rw [← byte_hi, ← cellsOf_snoc] at hown'
      have hb' := hbel.trans (((Below.refl _ _).alloc hbs _).grown hgrow (by simp; omega) (fun k hk => (hown.lt k hk).1))
      clear hgrow
      go_wp2
      go_roundw
      case rel => exact ⟨g, m / 128, pre ++ [UInt8.ofNat (128 + m % 128)], by go_num, HG, by omega, by simp; omega, var_step HP.out hlt, by simpa using hown', hb'⟩
      case measure => simp [intOf]; omega
    · have hlt' : m < 128 := by omega
      go_wp2_with (at_builtin; refine wpList_append_own _ rfl _ _ 22 rfl w.heap.size 5 i0 (.int .u8 0) 1 1 Tryd.underlying22 hi hz0 hz1 hz2 rfl (by decide) _ _ _ rfl (hown.alloc _) ⟨wr.heap.size, 0, none⟩ 1 1 [.int .u8 (m : Int)] rfl rfl ?d1 ?d2 ?d3 ?d4 ?d5 ?_)
      case d1 => exact cell_one_new _ _ _
      case d2 => intro u hu; simp at hu; subst hu; rfl
      case d3 => unfold maxLen; omega
      case d4 => omega
      case d5 => simp; omega
      intro v' w1 hown' hgrow _
      rw [← byte_lo m hlt', ← cellsOf_snoc, var_end HP.out hlt'] at hown'
      have hb' := hbel.trans (((Below.refl _ _).alloc hbs _).grown hgrow (by simp; omega) (fun k hk => (hown.lt k hk).1))
      have hcv := conv_own hown'
      clear hgrow hown' hown
      go_wp2
      go_ret
      exact ⟨rfl, hb'⟩

theorem i64_or128 (y : Int) (h₀ : 0 ≤ y) (h₁ : y < 128) : bits .or .i64 y 128 = 128 + y := by
  have hc : bits .or .i64 y 128 = bits .or .i64 128 y := by simp only [bits, BitVec.or_comm]
  rw [hc, bits_join .i64 63 (by decide) wraps_i64 7 128 y (by decide) (by decide) (by decide) h₀ (by omega) (by omega)]

set_option maxHeartbeats 400000 in
theorem implVar_no (n : Int) (w : World) (h : n < 0 ∨ 562949953421311 < n) :
    Calls Tryd.prog 7 #[.int .i64 n] w fun e w' => e = .returned (.string ByteArray.empty) ∧ w = w' := by
  by_cases h0 : n < 0
  · go_enter Tryd.func7, Tryd.ntmps7
    go_wp2
    go_ret
    exact ⟨rfl, rfl⟩
  · have h1 : 562949953421311 < n := by omega
    clear h
    go_enter Tryd.func7, Tryd.ntmps7
    go_wp2
    go_ret
    exact ⟨rfl, rfl⟩

set_option maxHeartbeats 400000 in
set_option maxRecDepth 100000 in
theorem implVar_yes (n : Nat) (w : World) (hn : n ≤ 562949953421311) :
    Calls Tryd.prog 7 #[.int .i64 n] w fun e w' => e = .returned (.string (varS n)) ∧ Below w.heap.size w w' := by
  have g0 : ¬ (n : Int) < 0 := by omega
  have g1 : ¬ 562949953421311 < (n : Int) := by omega
  obtain ⟨i0, hi, hz0, hz1, hz2⟩ := info_parts Tryd.info5
  go_enter Tryd.func7, Tryd.ntmps7
  go_wp2
  go_loopw [0, 3] (fun t v wr => ∃ (f m : Nat) (pre : List UInt8), t = .int .i64 m ∧ Hid (m < 128 ^ (f + 1)) ∧ m ≤ 562949953421311 ∧ pre.length + f ≤ 6 ∧ Hid (pre ++ vby f m = varL n) ∧ wr.ownsRow w.heap.size 5 1 v pre.length (cellsOf pre) ∧ Below w.heap.size w wr) (fun t _ _ => (intOf t).toNat)
  case atStart => exact ⟨6, n, [], rfl, by unfold Hid; omega, hn, by simp, rfl, World.ownsRow_nil _ _ _ _, Below.refl _ _⟩
  case round =>
    obtain ⟨f, m, pre, rfl, HF, hm, hl, HP, hown, hbel⟩ := hrel
    have hbs := hbel.size
    by_cases hlt : 128 ≤ m
    · obtain ⟨g, rfl, hg⟩ := var_fuel HF.out hlt
      have HG : Hid (m / 128 < 128 ^ (g + 1)) := hg
      clear hg HF
      have ha := i64_and127 (m : Int)
      have ho := i64_or128 ((m : Int) % 128) (by omega) (by omega)
      go_wp2_with (at_builtin; refine wpList_append_own _ rfl _ _ 22 rfl w.heap.size 5 i0 (.int .u8 0) 1 1 Tryd.underlying22 hi hz0 hz1 hz2 rfl (by decide) _ _ _ rfl (hown.alloc _) ⟨wr.heap.size, 0, none⟩ 1 1 [.int .u8 (128 + (m : Int) % 128)] rfl rfl ?c1 ?c2 ?c3 ?c4 ?c5 ?_)
      case c1 => exact cell_one_new _ _ _
      case c2 => intro u hu; simp at hu; subst hu; rfl
      case c3 => unfold maxLen; omega
      case c4 => omega
      case c5 => simp; omega
      intro v' w1 hown' hgrow _
      rw [← byte_hi, ← cellsOf_snoc] at hown'
      have hb' := hbel.trans (((Below.refl _ _).alloc hbs _).grown hgrow (by simp; omega) (fun k hk => (hown.lt k hk).1))
      clear hgrow
      go_wp2
      go_roundw
      case rel => exact ⟨g, m / 128, pre ++ [UInt8.ofNat (128 + m % 128)], by go_num, HG, by omega, by simp; omega, var_step HP.out hlt, by simpa using hown', hb'⟩
      case measure => simp [intOf]; omega
    · have hlt' : m < 128 := by omega
      go_wp2_with (at_builtin; refine wpList_append_own _ rfl _ _ 22 rfl w.heap.size 5 i0 (.int .u8 0) 1 1 Tryd.underlying22 hi hz0 hz1 hz2 rfl (by decide) _ _ _ rfl (hown.alloc _) ⟨wr.heap.size, 0, none⟩ 1 1 [.int .u8 (m : Int)] rfl rfl ?d1 ?d2 ?d3 ?d4 ?d5 ?_)
      case d1 => exact cell_one_new _ _ _
      case d2 => intro u hu; simp at hu; subst hu; rfl
      case d3 => unfold maxLen; omega
      case d4 => omega
      case d5 => simp; omega
      intro v' w1 hown' hgrow _
      rw [← byte_lo m hlt', ← cellsOf_snoc, var_end HP.out hlt'] at hown'
      have hb' := hbel.trans (((Below.refl _ _).alloc hbs _).grown hgrow (by simp; omega) (fun k hk => (hown.lt k hk).1))
      have hcv := conv_own hown'
      clear hgrow hown' hown
      go_wp2
      go_ret
      exact ⟨rfl, hb'⟩

theorem ret2_ints {a b c d : Int} (h : a = b) (h' : c = d) : Ending.returned (.tuple #[.int .i64 a, .int .i64 c]) = .returned (.tuple #[.int .i64 b, .int .i64 d]) := by rw [h, h']

set_option maxHeartbeats 400000 in
set_option maxRecDepth 100000 in
theorem implReadVar_long (s : ByteArray) (w : World) (hs : s.size ≤ 1048576) (h7 : (7 : Int) < (s.size : Int)) :
    Calls Tryd.prog 8 #[.string s] w fun e w' => ∃ x k : Nat, e = .returned (.tuple #[.int .i64 x, .int .i64 k]) ∧ RV s.data.toList x k ∧ w = w' := by
  have h7' : 7 < s.size := by omega
  go_enter Tryd.func8, Tryd.ntmps8
  go_wp2
  go_loop [4, 10] (fun t c => ∃ k : Nat, k ≤ 7 ∧ c = .int .i64 k ∧ t = .int .i64 (vnum (s.data.toList.take k) : Nat) ∧ Hid (∀ j, j < k → 128 ≤ (s.data.toList.getD j 0).toNat)) (fun _ c => 7 - (intOf c).toNat)
  case atStart => exact ⟨0, Nat.zero_le _, rfl, rfl, fun j hj => absurd hj (by omega)⟩
  case round =>
    obtain ⟨k, hk, rfl, rfl, HA⟩ := hrel
    by_cases hlt : k < 7
    · have hks : k < s.size := by omega
      have hk7 : k < 7 := by omega
      have hb := (s[k]).toNat_lt
      by_cases hd : 128 ≤ (s[k].toNat : Int)
      · go_wp2
        go_round
        case rel => exact ⟨k + 1, by omega, by go_num, by rw [or_take hks hk7 _ (by omega)], rv_high hks HA.out (by omega)⟩
        case measure => simp [intOf]; omega
      · by_cases hz : (s[k].toNat : Int) = 0
        · have hz' : ((s[k].toNat : Int) == 0) = true := by simpa using hz
          have HZ : Hid ((s[k].toNat : Int) = 0) := hz
          clear hz
          by_cases hk0 : 0 < k
          · have hk0' : (0 : Int) < (k : Int) := by omega
            go_wp2
            go_ret2
            exact ⟨0, 0, rfl, rv_zero hks HA.out (by have := HZ.out; omega) hk0, rfl⟩
          · have hk0' : ¬ (0 : Int) < (k : Int) := by omega
            go_wp2
            go_ret2
            exact ⟨vnum (s.data.toList.take (k + 1)), k + 1, ret2_ints (or_take hks hk7 _ (by have := HZ.out; omega)) (by omega), rv_good hks hk7 HA.out (by have := HZ.out; omega) (.inl (by omega)), rfl⟩
        · have hz' : ((s[k].toNat : Int) == 0) = false := by simpa using hz
          go_wp2
          go_ret2
          exact ⟨vnum (s.data.toList.take (k + 1)), k + 1, ret2_ints (or_take hks hk7 _ (by omega)) (by omega), rv_good hks hk7 HA.out (by omega) (.inr (by omega)), rfl⟩
    · go_wp2
      go_ret2
      exact ⟨0, 0, rfl, rv_none HA.out (by omega), rfl⟩

set_option maxHeartbeats 400000 in
set_option maxRecDepth 100000 in
theorem implReadVar_short (s : ByteArray) (w : World) (hs : s.size ≤ 1048576) (h7 : ¬ (7 : Int) < (s.size : Int)) :
    Calls Tryd.prog 8 #[.string s] w fun e w' => ∃ x k : Nat, e = .returned (.tuple #[.int .i64 x, .int .i64 k]) ∧ RV s.data.toList x k ∧ w = w' := by
  have h7' : s.size ≤ 7 := by omega
  go_enter Tryd.func8, Tryd.ntmps8
  go_wp2
  go_loop [4, 10] (fun t c => ∃ k : Nat, k ≤ s.size ∧ c = .int .i64 k ∧ t = .int .i64 (vnum (s.data.toList.take k) : Nat) ∧ Hid (∀ j, j < k → 128 ≤ (s.data.toList.getD j 0).toNat)) (fun _ c => s.size - (intOf c).toNat)
  case atStart => exact ⟨0, Nat.zero_le _, rfl, rfl, fun j hj => absurd hj (by omega)⟩
  case round =>
    obtain ⟨k, hk, rfl, rfl, HA⟩ := hrel
    by_cases hlt : k < s.size
    · have hks : k < s.size := by omega
      have hk7 : k < 7 := by omega
      have hb := (s[k]).toNat_lt
      by_cases hd : 128 ≤ (s[k].toNat : Int)
      · go_wp2
        go_round
        case rel => exact ⟨k + 1, by omega, by go_num, by rw [or_take hks hk7 _ (by omega)], rv_high hks HA.out (by omega)⟩
        case measure => simp [intOf]; omega
      · by_cases hz : (s[k].toNat : Int) = 0
        · have hz' : ((s[k].toNat : Int) == 0) = true := by simpa using hz
          have HZ : Hid ((s[k].toNat : Int) = 0) := hz
          clear hz
          by_cases hk0 : 0 < k
          · have hk0' : (0 : Int) < (k : Int) := by omega
            go_wp2
            go_ret2
            exact ⟨0, 0, rfl, rv_zero hks HA.out (by have := HZ.out; omega) hk0, rfl⟩
          · have hk0' : ¬ (0 : Int) < (k : Int) := by omega
            go_wp2
            go_ret2
            exact ⟨vnum (s.data.toList.take (k + 1)), k + 1, ret2_ints (or_take hks hk7 _ (by have := HZ.out; omega)) (by omega), rv_good hks hk7 HA.out (by have := HZ.out; omega) (.inl (by omega)), rfl⟩
        · have hz' : ((s[k].toNat : Int) == 0) = false := by simpa using hz
          go_wp2
          go_ret2
          exact ⟨vnum (s.data.toList.take (k + 1)), k + 1, ret2_ints (or_take hks hk7 _ (by omega)) (by omega), rv_good hks hk7 HA.out (by omega) (.inr (by omega)), rfl⟩
    · go_wp2
      go_ret2
      exact ⟨0, 0, rfl, rv_none HA.out (by simp; omega), rfl⟩

theorem implReadVar_any (s : ByteArray) (w : World) (hs : s.size ≤ 1048576) :
    Calls Tryd.prog 8 #[.string s] w fun e w' => ∃ x k : Nat, e = .returned (.tuple #[.int .i64 x, .int .i64 k]) ∧ RV s.data.toList x k ∧ w = w' := by
  by_cases h7 : (7 : Int) < (s.size : Int)
  · exact implReadVar_long s w hs h7
  · exact implReadVar_short s w hs h7

end Go.Proofs.YtofgpnhieopcoaaDoor
