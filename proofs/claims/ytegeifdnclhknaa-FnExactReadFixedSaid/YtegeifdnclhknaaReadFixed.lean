/- Contracts of ReadFixed, the program's and the specification's. -/
import Derived.Test.YtegeifdnclhknaaLeaf
namespace Go.Proofs.Ytegeifdnclhknaa
open Go.RowKit
set_option linter.unusedVariables false

theorem ret2_int {k : IntKind} {a b : Int} {v : Value} (h : a = b) : Ending.returned (.tuple #[.int k a, v]) = .returned (.tuple #[.int k b, v]) := by rw [h]

set_option maxHeartbeats 400000 in
theorem specReadFixed_no (s : ByteArray) (n : Int) (w : World) (hs : s.size ≤ 1048576) (h : n < 1 ∨ 7 < n ∨ (s.size : Int) < n) :
    Calls Try.prog 11 #[.string s, .int .i64 n] w fun e w' => e = .returned (.tuple #[.int .i64 0, .bool false]) ∧ w' = w := by
  by_cases h1 : n < 1 ∨ 7 < n
  · have hb : inB n 1 7 = false := inB_false (by omega)
    clear h h1
    go_enter Try.func11, Try.ntmps11
    go_wp2_with (go_at_call 21; refine (l1In_any _ _ _ _).mono ?_; rintro e w' ⟨rfl, rfl⟩)
    go_ret2
    exact ⟨rfl, rfl⟩
  · have hb : inB n 1 7 = true := inB_true (by omega)
    have h2 : (s.size : Int) < n := by omega
    clear h h1
    go_enter Try.func11, Try.ntmps11
    go_wp2_with (go_at_call 21; refine (l1In_any _ _ _ _).mono ?_; rintro e w' ⟨rfl, rfl⟩)
    go_ret2
    exact ⟨rfl, rfl⟩

set_option maxHeartbeats 400000 in
theorem specReadFixed_yes (s : ByteArray) (n : Nat) (w : World) (hs : s.size ≤ 1048576) (h1 : 1 ≤ n) (h7 : n ≤ 7) (hn : n ≤ s.size) :
    Calls Try.prog 11 #[.string s, .int .i64 n] w fun e w' => e = .returned (.tuple #[.int .i64 (rd (s.data.toList.take n)), .bool true]) ∧ w' = w := by
  have hb : inB n 1 7 = true := inB_true (by omega)
  have h2 : ¬ (s.size : Int) < (n : Int) := by omega
  go_enter Try.func11, Try.ntmps11
  go_wp2_with (go_at_call 21; refine (l1In_any _ _ _ _).mono ?_; rintro e w' ⟨rfl, rfl⟩)
  go_loop [6, 7] (fun t i => ∃ k : Nat, k ≤ n ∧ i = .int .i64 k ∧ t = .int .i64 (rd (s.data.toList.take k))) (fun _ i => n - (intOf i).toNat)
  case atStart => exact ⟨0, Nat.zero_le _, rfl, rfl⟩
  case round =>
    obtain ⟨k, hk, rfl, rfl⟩ := hrel
    have r0 := rd_nonneg (s.data.toList.take k)
    by_cases hlt : k < n
    · have r1 := rd_take_le s k (by omega)
      have hks : k < s.size := by omega
      have hb := (s[k]).toNat_lt
      have HS : Hid (rd (s.data.toList.take (k + 1)) = rd (s.data.toList.take k) * 256 + (s[k].toNat : Int)) := rd_take_succ s k hks
      go_wp2
      go_round
      case rel => exact ⟨k + 1, by omega, by go_num, by rw [HS.out]⟩
      case measure => simp [intOf]; omega
    · have e : k = n := by omega
      subst e
      go_wp2
      go_ret2
      exact ⟨rfl, rfl⟩


set_option maxHeartbeats 400000 in
theorem implReadFixed_no (s : ByteArray) (n : Int) (w : World) (hs : s.size ≤ 1048576) (h : n < 1 ∨ 7 < n ∨ (s.size : Int) < n) :
    Calls Try.prog 12 #[.string s, .int .i64 n] w fun e w' => e = .returned (.tuple #[.int .i64 0, .bool false]) ∧ w' = w := by
  by_cases h1 : n < 1
  · go_enter Try.func12, Try.ntmps12
    go_wp2
    go_ret2
    exact ⟨rfl, rfl⟩
  · by_cases h7 : 7 < n
    · go_enter Try.func12, Try.ntmps12
      go_wp2
      go_ret2
      exact ⟨rfl, rfl⟩
    · have h2 : (s.size : Int) < n := by omega
      clear h
      go_enter Try.func12, Try.ntmps12
      go_wp2
      go_ret2
      exact ⟨rfl, rfl⟩

set_option maxHeartbeats 400000 in
theorem implReadFixed_yes (s : ByteArray) (n : Nat) (w : World) (hs : s.size ≤ 1048576) (h1 : 1 ≤ n) (h7 : n ≤ 7) (hn : n ≤ s.size) :
    Calls Try.prog 12 #[.string s, .int .i64 n] w fun e w' => e = .returned (.tuple #[.int .i64 (rd (s.data.toList.take n)), .bool true]) ∧ w' = w := by
  have h2 : ¬ (s.size : Int) < (n : Int) := by omega
  have h3 : ¬ (n : Int) < 1 := by omega
  have h4 : ¬ 7 < (n : Int) := by omega
  go_enter Try.func12, Try.ntmps12
  go_wp2
  go_loop [6, 7, 21] (fun t i j => ∃ k : Nat, k ≤ n ∧ j = .int .i64 k ∧ t = .int .i64 (rd (s.data.toList.take k))) (fun _ _ i => n - (intOf i).toNat)
  case atStart => exact ⟨0, Nat.zero_le _, rfl, rfl⟩
  case round =>
    obtain ⟨k, hk, rfl, rfl⟩ := hrel
    have r0 := rd_nonneg (s.data.toList.take k)
    by_cases hlt : k < n
    · have r1 := rd_take_le s k (by omega)
      have hks : k < s.size := by omega
      have hb := (s[k]).toNat_lt
      have HS : Hid (rd (s.data.toList.take (k + 1)) = rd (s.data.toList.take k) * 256 + (s[k].toNat : Int)) := rd_take_succ s k hks
      go_wp2
      go_round
      case rel => exact ⟨k + 1, by omega, by go_num, by rw [HS.out, i64_or8 _ _ r0 r1 (by omega) (by omega)]⟩
      case measure => simp [intOf]; omega
    · have e : k = n := by omega
      subst e
      go_wp2
      go_ret2
      exact ⟨rfl, rfl⟩

set_option maxHeartbeats 400000 in
theorem readFixed_law (s : ByteArray) (n : Int) (w : World) (hs : s.size ≤ maxLen) :
    Calls Try.prog 4 #[.string s, .int .i64 n] w fun e w' => e = .returned (.bool true) ∧ Below w.heap.size w w' := by
  unfold maxLen at hs
  by_cases hb : (1048576 : Int) < (s.size : Int)
  · go_enter Try.func4, Try.ntmps4
    go_wp2
    go_ret
    exact ⟨rfl, Below.refl _ _⟩
  · by_cases h : 1 ≤ n ∧ n ≤ 7 ∧ n ≤ (s.size : Int)
    · obtain ⟨k, rfl⟩ := Int.eq_ofNat_of_zero_le (show 0 ≤ n by omega)
      obtain ⟨h1, h7, hn⟩ := h
      go_enter Try.func4, Try.ntmps4
      go_wp2_with fail
      refine (specReadFixed_yes s k _ (by omega) (by omega) (by omega) (by omega)).mono ?_
      rintro e w' ⟨rfl, rfl⟩
      go_wp2_with fail
      refine (implReadFixed_yes s k _ (by omega) (by omega) (by omega) (by omega)).mono ?_
      rintro e w' ⟨rfl, rfl⟩
      go_wp2
      go_ret
      exact ⟨rfl, Below.refl _ _⟩
    · go_enter Try.func4, Try.ntmps4
      go_wp2_with fail
      refine (specReadFixed_no s n _ (by omega) (by omega)).mono ?_
      rintro e w' ⟨rfl, rfl⟩
      go_wp2_with fail
      refine (implReadFixed_no s n _ (by omega) (by omega)).mono ?_
      rintro e w' ⟨rfl, rfl⟩
      go_wp2
      go_ret
      exact ⟨rfl, Below.refl _ _⟩

end Go.Proofs.Ytegeifdnclhknaa
