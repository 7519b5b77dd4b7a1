/- Contracts of ReadVar, the program's and the specification's. -/
import Derived.Test.YtegeifdnclhknaaVar
import Derived.Test.YtegeifdnclhknaaMathC
import Derived.Deep.RegionWith
namespace Go.Proofs.Ytegeifdnclhknaa
open Go.RowKit
set_option linter.unusedVariables false

theorem ret2_ints {a b c d : Int} (h : a = b) (h' : c = d) : Ending.returned (.tuple #[.int .i64 a, .int .i64 c]) = .returned (.tuple #[.int .i64 b, .int .i64 d]) := by rw [h, h']

set_option maxHeartbeats 400000 in
set_option maxRecDepth 100000 in
theorem implReadVar_long (s : ByteArray) (w : World) (hs : s.size ≤ 1048576) (h7 : (7 : Int) < (s.size : Int)) :
    Calls Try.prog 16 #[.string s] w fun e w' => ∃ x k : Nat, e = .returned (.tuple #[.int .i64 x, .int .i64 k]) ∧ RV s.data.toList x k ∧ w = w' := by
  have h7' : 7 < s.size := by omega
  go_enter Try.func16, Try.ntmps16
  go_wp2
  go_loop [4, 10] (fun t c => ∃ k : Nat, k ≤ 7 ∧ c = .int .i64 k ∧ t = .int .i64 (vnum (s.data.toList.take k) : Nat) ∧ Hid (∀ j, j < k → 128 ≤ (s.data.toList.getD j 0).toNat)) (fun _ c => 7 - (intOf c).toNat)
  case atStart => exact ⟨0, Nat.zero_le _, rfl, rfl, fun j hj => absurd hj (by omega)⟩
  case round =>
    obtain ⟨k, hk, rfl, rfl, HA⟩ := hrel
    by_cases hlt : k < 7
    · have hks : k < s.size := by omega
      have hk7 : k < 7 := by omega
      have hb := (s[k]).toNat_lt
      by_cases hd : 128 ≤ (s[k].toNat : Int)
      · go_wp2
        go_round
        case rel => exact ⟨k + 1, by omega, by go_num, by rw [or_take hks hk7 _ (by omega)], rv_high hks HA.out (by omega)⟩
        case measure => simp [intOf]; omega
      · by_cases hz : (s[k].toNat : Int) = 0
        · have hz' : ((s[k].toNat : Int) == 0) = true := by simpa using hz
          have HZ : Hid ((s[k].toNat : Int) = 0) := hz
          clear hz
          by_cases hk0 : 0 < k
          · have hk0' : (0 : Int) < (k : Int) := by omega
            go_wp2
            go_ret2
            exact ⟨0, 0, rfl, rv_zero hks HA.out (by have := HZ.out; omega) hk0, rfl⟩
          · have hk0' : ¬ (0 : Int) < (k : Int) := by omega
            go_wp2
            go_ret2
            exact ⟨vnum (s.data.toList.take (k + 1)), k + 1, ret2_ints (or_take hks hk7 _ (by have := HZ.out; omega)) (by omega), rv_good hks hk7 HA.out (by have := HZ.out; omega) (.inl (by omega)), rfl⟩
        · have hz' : ((s[k].toNat : Int) == 0) = false := by simpa using hz
          go_wp2
          go_ret2
          exact ⟨vnum (s.data.toList.take (k + 1)), k + 1, ret2_ints (or_take hks hk7 _ (by omega)) (by omega), rv_good hks hk7 HA.out (by omega) (.inr (by omega)), rfl⟩
    · go_wp2
      go_ret2
      exact ⟨0, 0, rfl, rv_none HA.out (by omega), rfl⟩

set_option maxHeartbeats 400000 in
set_option maxRecDepth 100000 in
theorem implReadVar_short (s : ByteArray) (w : World) (hs : s.size ≤ 1048576) (h7 : ¬ (7 : Int) < (s.size : Int)) :
    Calls Try.prog 16 #[.string s] w fun e w' => ∃ x k : Nat, e = .returned (.tuple #[.int .i64 x, .int .i64 k]) ∧ RV s.data.toList x k ∧ w = w' := by
  have h7' : s.size ≤ 7 := by omega
  go_enter Try.func16, Try.ntmps16
  go_wp2
  go_loop [4, 10] (fun t c => ∃ k : Nat, k ≤ s.size ∧ c = .int .i64 k ∧ t = .int .i64 (vnum (s.data.toList.take k) : Nat) ∧ Hid (∀ j, j < k → 128 ≤ (s.data.toList.getD j 0).toNat)) (fun _ c => s.size - (intOf c).toNat)
  case atStart => exact ⟨0, Nat.zero_le _, rfl, rfl, fun j hj => absurd hj (by omega)⟩
  case round =>
    obtain ⟨k, hk, rfl, rfl, HA⟩ := hrel
    by_cases hlt : k < s.size
    · have hks : k < s.size := by omega
      have hk7 : k < 7 := by omega
      have hb := (s[k]).toNat_lt
      by_cases hd : 128 ≤ (s[k].toNat : Int)
      · go_wp2
        go_round
        case rel => exact ⟨k + 1, by omega, by go_num, by rw [or_take hks hk7 _ (by omega)], rv_high hks HA.out (by omega)⟩
        case measure => simp [intOf]; omega
      · by_cases hz : (s[k].toNat : Int) = 0
        · have hz' : ((s[k].toNat : Int) == 0) = true := by simpa using hz
          have HZ : Hid ((s[k].toNat : Int) = 0) := hz
          clear hz
          by_cases hk0 : 0 < k
          · have hk0' : (0 : Int) < (k : Int) := by omega
            go_wp2
            go_ret2
            exact ⟨0, 0, rfl, rv_zero hks HA.out (by have := HZ.out; omega) hk0, rfl⟩
          · have hk0' : ¬ (0 : Int) < (k : Int) := by omega
            go_wp2
            go_ret2
            exact ⟨vnum (s.data.toList.take (k + 1)), k + 1, ret2_ints (or_take hks hk7 _ (by have := HZ.out; omega)) (by omega), rv_good hks hk7 HA.out (by have := HZ.out; omega) (.inl (by omega)), rfl⟩
        · have hz' : ((s[k].toNat : Int) == 0) = false := by simpa using hz
          go_wp2
          go_ret2
          exact ⟨vnum (s.data.toList.take (k + 1)), k + 1, ret2_ints (or_take hks hk7 _ (by omega)) (by omega), rv_good hks hk7 HA.out (by omega) (.inr (by omega)), rfl⟩
    · go_wp2
      go_ret2
      exact ⟨0, 0, rfl, rv_none HA.out (by simp; omega), rfl⟩

theorem implReadVar_any (s : ByteArray) (w : World) (hs : s.size ≤ 1048576) :
    Calls Try.prog 16 #[.string s] w fun e w' => ∃ x k : Nat, e = .returned (.tuple #[.int .i64 x, .int .i64 k]) ∧ RV s.data.toList x k ∧ w = w' := by
  by_cases h7 : (7 : Int) < (s.size : Int)
  · exact implReadVar_long s w hs h7
  · exact implReadVar_short s w hs h7

end Go.Proofs.Ytegeifdnclhknaa
