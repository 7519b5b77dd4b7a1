/- Contracts of Fixed, the program's and the specification's. -/
import Derived.Test.YtegeifdnclhknaaLeaf
import Derived.OpenShut
namespace Go.Proofs.Ytegeifdnclhknaa
open Go.RowKit
set_option linter.unusedVariables false

theorem conv_one (w : World) (x : Int) : (convert 36 9 (.slice (some ⟨w.heap.size, 0, none⟩) 1 1)).run Try.prog (w.alloc (.cells #[.int .u8 x] 5)) = .ok (.string ⟨#[UInt8.ofNat x.toNat]⟩) (w.alloc (.cells #[.int .u8 x] 5)) :=
  run_convert_bytes_arg (P := Try.prog) _ 36 5 Try.underlying36 Try.underlying5 w.heap.size 0 1 1 [x] rfl (fun i hi => by
    obtain rfl : i = 0 := by omega
    rw [World.cell?_alloc_at _ _ _ _ rfl]; rfl) 9 Try.underlying9

set_option maxHeartbeats 400000 in
theorem specFixed_no (n b : Int) (w : World) (h : b < 1 ∨ 7 < b ∨ n < 0) :
    Calls Try.prog 9 #[.int .i64 n, .int .i64 b] w fun e w' => e = .returned (.string ByteArray.empty) ∧ w' = w := by
  by_cases h1 : b < 1 ∨ 7 < b
  · have hb : inB b 1 7 = false := inB_false (by omega)
    clear h h1
    go_enter Try.func9, Try.ntmps9
    go_wp2_with (go_at_call 21; refine (l1In_any _ _ _ _).mono ?_; rintro e w' ⟨rfl, rfl⟩)
    go_ret
    exact ⟨rfl, rfl⟩
  · have hb : inB b 1 7 = true := inB_true (by omega)
    have h2 : n < 0 := by omega
    clear h h1
    go_enter Try.func9, Try.ntmps9
    go_wp2_with (go_at_call 21; refine (l1In_any _ _ _ _).mono ?_; rintro e w' ⟨rfl, rfl⟩)
    go_ret
    exact ⟨rfl, rfl⟩

set_option maxHeartbeats 400000 in
theorem specFixed_yes (n b : Nat) (w : World) (hn : n ≤ 9223372036854775807) (h1 : 1 ≤ b) (h7 : b ≤ 7) :
    Calls Try.prog 9 #[.int .i64 n, .int .i64 b] w fun e w' => e = .returned (.string (fixedS n b)) ∧ Below w.heap.size w w' := by
  have hb : inB b 1 7 = true := inB_true (by omega)
  go_enter Try.func9, Try.ntmps9
  go_wp2_with (go_at_call 21; refine (l1In_any _ _ _ _).mono ?_; rintro e w' ⟨rfl, rfl⟩)
  go_loopw [0, 5, 6] (fun t o i wr => ∃ k m : Nat, k ≤ b ∧ i = .int .i64 k ∧ t = .int .i64 m ∧ Hid (m = n / 256 ^ k) ∧ m ≤ n ∧ o = .string (beS n k) ∧ Below w.heap.size w wr) (fun _ _ i _ => b - (intOf i).toNat)
  case atStart => exact ⟨0, n, Nat.zero_le _, rfl, rfl, by unfold Hid; simp, Nat.le_refl _, rfl, Below.refl _ _⟩
  case round =>
    obtain ⟨k, m, hk, rfl, rfl, HM, hm, rfl, hbel⟩ := hrel
    by_cases hlt : k < b
    · have hcv := conv_one wr ((m : Int) % 256)
      have hsz := beS_size n k
      go_wp2
      go_roundw
      case rel => exact ⟨k + 1, m / 256, by omega, by go_num, by go_num, div_pow_succ n k m HM.out, by omega, val_str (beS_succ n k m HM.out), hbel.alloc hbel.size _⟩
      case measure => simp [intOf]; omega
    · have e : k = b := by omega
      subst e
      by_cases hz : 0 < m
      · go_wp2
        go_ret
        exact ⟨ret_str (fixedS_no (by rw [← HM.out]; omega)).symm, hbel⟩
      · have hz' : m = 0 := by omega
        subst hz'
        go_wp2
        go_ret
        exact ⟨ret_str (fixedS_yes HM.out.symm).symm, hbel⟩

set_option maxHeartbeats 400000 in
theorem implFixed_no (n b : Int) (w : World) (h : b < 1 ∨ 7 < b ∨ n < 0) :
    Calls Try.prog 10 #[.int .i64 n, .int .i64 b] w fun e w' => e = .returned (.string ByteArray.empty) ∧ w = w' := by
  by_cases h1 : b < 1
  · go_enter Try.func10, Try.ntmps10
    go_wp2
    go_ret
    exact ⟨rfl, rfl⟩
  · by_cases h7 : 7 < b
    · go_enter Try.func10, Try.ntmps10
      go_wp2
      go_ret
      exact ⟨rfl, rfl⟩
    · have h0 : n < 0 := by omega
      clear h
      go_enter Try.func10, Try.ntmps10
      go_wp2
      go_ret
      exact ⟨rfl, rfl⟩

theorem Try.info5 : (Try.prog.info? 5).map (fun i => (i.zero, i.size, i.bytes)) = some (some (.int .u8 0), 1, 1) := by kernel_rfl

theorem make_fix (n b : Nat) (w : World) (h7 : b ≤ 7) : (Instr.makeSlice 36 (.int .i64 b) (.int .i64 b)).run Try.prog w = .ok (.slice (some ⟨w.heap.size, 0, none⟩) b b) (w.alloc (.cells (fixArr n b 0) 5)) := by
  obtain ⟨i0, hi, hz0, hz1, hz2⟩ := info_parts Try.info5
  have h := run_make (P := Try.prog) w 36 5 i0 (.int .u8 0) Try.underlying36 hi hz0 .i64 .i64 b b (by omega) (by omega) (by rw [hz2]; omega) (by omega)
  rw [h, hz1]
  simp only [Int.toNat_natCast, Nat.mul_one]
  rw [show (Value.int .u8 0).cells = #[Value.int .u8 0] from rfl, fixArr_zero n b]

theorem conv_fix (n b : Nat) (w : World) : (convert 36 9 (.slice (some ⟨w.heap.size, 0, none⟩) b b)).run Try.prog (w.alloc (.cells (fixArr n b b) 5)) = .ok (.string (beS n b)) (w.alloc (.cells (fixArr n b b) 5)) := by
  have h := run_convert_bytes_arg (P := Try.prog) (w.alloc (.cells (fixArr n b b) 5)) 36 5 Try.underlying36 Try.underlying5 w.heap.size 0 b b ((be n b).map (fun c => (c.toNat : Int))) (by simp [be_length]) (fun i hi => by
    rw [World.cell?_alloc_at _ _ _ _ rfl, Nat.zero_add]; exact fixArr_done n b i hi) 9 Try.underlying9
  rw [h, strOfNums_be]

set_option maxHeartbeats 400000 in
theorem implFixed_yes (n b : Nat) (w : World) (hn : n ≤ 9223372036854775807) (h1 : 1 ≤ b) (h7 : b ≤ 7) :
    Calls Try.prog 10 #[.int .i64 n, .int .i64 b] w fun e w' => e = .returned (.string (fixedS n b)) ∧ Below w.heap.size w w' := by
  have g1 : ¬ (b : Int) < 1 := by omega
  have g7 : ¬ 7 < (b : Int) := by omega
  have g0 : ¬ (n : Int) < 0 := by omega
  by_cases hz : n / 256 ^ b = 0
  · have HF : Hid (fixedS n b = beS n b) := fixedS_yes hz
    have hq : ((n : Int) / 2 ^ (8 * b) != 0) = false := by
      rw [pow2_8i, ← Int.natCast_ediv, hz]; rfl
    clear hz
    have hmk := make_fix n b w h7
    have hcv := conv_fix n b w
    go_enter Try.func10, Try.ntmps10
    go_wp2
    go_loopw [6, 27] (fun _ i wr => ∃ k : Nat, k ≤ b ∧ i = .int .i64 k ∧ wr = w.alloc (.cells (fixArr n b k) 5)) (fun _ i _ => b - (intOf i).toNat)
    case atStart => exact ⟨0, Nat.zero_le _, rfl, rfl⟩
    case round =>
      obtain ⟨k, hk, rfl, rfl⟩ := hrel
      by_cases hlt : k < b
      · clear hcv hmk
        obtain ⟨v0, hv0⟩ := fixArr_get n b k (b - 1 - k) hk (by omega)
        go_wp2
        go_roundw
        case rel => exact ⟨k + 1, by omega, by go_num, by rw [fixArr_set n b k _ hlt (byte_shift n k)]⟩
        case measure => simp [intOf]; omega
      · have e : k = b := by omega
        subst e
        go_wp2
        go_ret
        exact ⟨ret_str HF.out.symm, (Below.refl _ _).alloc (Nat.le_refl _) _⟩
  · have HF : Hid (fixedS n b = ByteArray.empty) := fixedS_no hz
    have hq : ((n : Int) / 2 ^ (8 * b) != 0) = true := by
      rw [pow2_8i, ← Int.natCast_ediv, bne_iff_ne]; omega
    clear hz
    go_enter Try.func10, Try.ntmps10
    go_wp2
    go_ret
    exact ⟨ret_str HF.out.symm, Below.refl _ _⟩

set_option maxHeartbeats 400000 in
theorem fixed_law_wf (n b : Int) (w : World) (w0 : (Lit.int .i64 n).wf = true) (w1 : (Lit.int .i64 b).wf = true) :
    Calls Try.prog 3 #[.int .i64 n, .int .i64 b] w fun e w' => e = .returned (.bool true) ∧ Below w.heap.size w w' := by
  have hn := bounds_i64 w0
  clear w0 w1
  by_cases h : 1 ≤ b ∧ b ≤ 7 ∧ 0 ≤ n
  · obtain ⟨m, rfl⟩ := Int.eq_ofNat_of_zero_le (show 0 ≤ n by omega)
    obtain ⟨k, rfl⟩ := Int.eq_ofNat_of_zero_le (show 0 ≤ b by omega)
    obtain ⟨h1, h7, h0⟩ := h
    go_enter Try.func3, Try.ntmps3
    go_wp2_with fail
    refine (specFixed_yes m k _ (by omega) (by omega) (by omega)).mono ?_
    rintro e w1 ⟨rfl, b1⟩
    go_wp2_with fail
    refine (implFixed_yes m k _ (by omega) (by omega) (by omega)).mono ?_
    rintro e w2 ⟨rfl, b2⟩
    go_wp2
    go_ret
    exact ⟨rfl, b1.trans (b2.mono b1.size)⟩
  · go_enter Try.func3, Try.ntmps3
    go_wp2_with fail
    refine (specFixed_no n b _ (by omega)).mono ?_
    rintro e w1 ⟨rfl, rfl⟩
    go_wp2_with fail
    refine (implFixed_no n b _ (by omega)).mono ?_
    rintro e w2 ⟨rfl, rfl⟩
    go_wp2
    go_ret
    exact ⟨rfl, Below.refl _ _⟩

end Go.Proofs.Ytegeifdnclhknaa
