/- Contracts of Unhex, the program's and the specification's. -/
import Derived.Test.YtegeifdnclhknaaHexB
import Derived.Test.YtegeifdnclhknaaMathE
import Derived.Test.YtegeifdnclhknaaMathC
namespace Go.Proofs.Ytegeifdnclhknaa
open Go.RowKit
set_option linter.unusedVariables false

/-- The library's search for a byte. -/
theorem idx_entry (s : ByteArray) (c : Int) (w : World) : (callFunc 26 #[.string s, .int .u8 c]).run Try.prog w = .ok (.value (.int .i64 (Lib.indexByte s.data.toList c.toNat.toUInt8))) w := by
  rw [run_callFunc_extern Try.func26 (by kernel_rfl) (by kernel_rfl) (by kernel_rfl) (e := Extern.BytealgIndexByte.indexByte) (by kernel_rfl), Lib.run_indexByteString]
  rfl

set_option maxHeartbeats 400000 in
theorem index_any (s : ByteArray) (c : UInt8) (w : World) :
    Calls Try.prog 24 #[.string s, .int .u8 (c.toNat : Int)] w fun e w' => e = .returned (.int .i64 (Lib.indexByte s.data.toList c)) ∧ w = w' := by
  have hd := fun w => idx_entry s (c.toNat : Int) w
  have e : (c.toNat : Int).toNat.toUInt8 = c := by simp
  rw [e] at hd
  clear e
  go_enter Try.func24, Try.ntmps24
  go_wp2
  go_ret
  exact ⟨rfl, rfl⟩

theorem beq_u8 (a b : UInt8) : ((a.toNat : Int) == (b.toNat : Int)) = (a == b) := by
  rw [Bool.eq_iff_iff, beq_iff_eq, beq_iff_eq]
  constructor
  · intro h
    exact UInt8.toNat_inj.1 (by omega)
  · intro h
    rw [h]

set_option maxHeartbeats 400000 in
theorem fromHex_any (c : UInt8) (w : World) :
    Calls Try.prog 23 #[.int .u8 (c.toNat : Int)] w fun e w' => e = .returned (.int .i64 (fromHex c)) ∧ w = w' := by
  go_enter Try.func23, Try.ntmps23
  go_wp2
  go_loop [3] (fun i => ∃ k : Nat, k ≤ 16 ∧ i = .int .i64 k ∧ Hid (∀ j, j < k → hexC j ≠ c)) (fun i => 16 - (intOf i).toNat)
  case atStart => exact ⟨0, by omega, rfl, fun j hj => absurd hj (by omega)⟩
  case round =>
    obtain ⟨k, hk, rfl, HN⟩ := hrel
    by_cases hlt : k < 16
    · by_cases hc : hexC k = c
      · have hc' : (((hexC k).toNat : Int) == (c.toNat : Int)) = true := by rw [beq_u8]; simpa using hc
        have HC : Hid (hexC k = c) := hc
        clear hc
        go_wp2_with (go_at_call 22; refine (digit_any _ k _ rfl hlt).mono ?_; rintro e w' ⟨rfl, rfl⟩)
        go_ret
        exact ⟨by rw [fromHex_found c k hlt HC.out HN.out]; rfl, rfl⟩
      · have hc' : (((hexC k).toNat : Int) == (c.toNat : Int)) = false := by rw [beq_u8]; simpa using hc
        go_wp2_with (go_at_call 22; refine (digit_any _ k _ rfl hlt).mono ?_; rintro e w' ⟨rfl, rfl⟩)
        go_round
        case rel =>
          refine ⟨k + 1, by omega, by go_num, fun j hj => ?_⟩
          by_cases a : j < k
          · exact HN.out j a
          · obtain rfl : j = k := by omega
            exact hc
        case measure => simp [intOf]; omega
    · go_wp2
      go_ret
      exact ⟨by rw [fromHex_none c (fun j hj => HN.out j (by omega))]; rfl, rfl⟩

end Go.Proofs.Ytegeifdnclhknaa
