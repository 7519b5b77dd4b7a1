/- Paths that are right, on both sides. -/
import Derived.Test.YtmkegmndcbpblaaGreatDoorVName
namespace Go.Proofs.YtmkegmndcbpblaaGreatDoor
open Go.RowKit
set_option linter.unusedVariables false
set_option maxHeartbeats 1000000 in
theorem implPathOk_any (s : ByteArray) (w : World) (hs : s.size ≤ 9223372036854775807) :
  Calls Tryz.prog 56 #[.string s] w fun e w' => e = .returned (.bool (pathB s.data.toList)) ∧ w = w' := by
 by_cases hp : 0 < s.size
 ·rw [← pbB_path s hp]
  have hpi : (0 : Int) < s.size := by omega
  cases hb : pbB s.data.toList with
  | false =>
   go_enter Tryz.func56, Tryz.ntmps56
   go_wp2_with (go_at_call 71; refine (pathBytes_any s _ hs).mono ?_; rintro e w' ⟨rfl, rfl⟩)
   go_ret
   exact ⟨rfl, rfl⟩
  | true =>
   go_enter Tryz.func56, Tryz.ntmps56
   go_wp2_with (go_at_call 71; refine (pathBytes_any s _ hs).mono ?_; rintro e w' ⟨rfl, rfl⟩)
   go_ret
   exact ⟨by simp, rfl⟩
 ·have hz : pbB s.data.toList = false := pbB_short (by omega)
  rw [pathB_short (by omega)]
  go_enter Tryz.func56, Tryz.ntmps56
  go_wp2_with (go_at_call 71; refine (pathBytes_any s _ hs).mono ?_; rintro e w' ⟨rfl, rfl⟩)
  go_ret
  exact ⟨rfl, rfl⟩

set_option maxHeartbeats 1000000 in
theorem specPathOk_any (s : ByteArray) (w : World) (hs : s.size ≤ 9223372036854775807) :
  Calls Tryz.prog 17 #[.string s] w fun e w' => e = .returned (.bool (pathB s.data.toList)) ∧ w = w' := by
 by_cases h1 : (s.size : Int) < 1
 ·have hb : inB s.size 1 60 = false := inB_false (by omega)
  go_enter Tryz.func17, Tryz.ntmps17
  go_wp2_with (go_at_call 26; refine (l1In_any _ _ _ _).mono ?_; rintro e w1 ⟨rfl, rfl⟩)
  go_ret
  exact ⟨ret_bool (pathB_short (by omega)).symm, rfl⟩
 by_cases h2 : 60 < (s.size : Int)
 ·have hb : inB s.size 1 60 = false := inB_false (by omega)
  go_enter Tryz.func17, Tryz.ntmps17
  go_wp2_with (go_at_call 26; refine (l1In_any _ _ _ _).mono ?_; rintro e w1 ⟨rfl, rfl⟩)
  go_ret
  exact ⟨ret_bool (pathB_long (by omega)).symm, rfl⟩
 have hp : 0 < s.size := by omega
 have hb : inB s.size 1 60 = true := inB_true (by omega)
 cases h0 : ((s[0].toNat : Int) != 47) with
 | true =>
  go_enter Tryz.func17, Tryz.ntmps17
  go_wp2_with (go_at_call 26; refine (l1In_any _ _ _ _).mono ?_; rintro e w1 ⟨rfl, rfl⟩)
  go_ret
  exact ⟨ret_bool (pathB_first (by omega) h0).symm, rfl⟩
 | false =>
  have H0 := Hid.intro h0
  go_enter Tryz.func17, Tryz.ntmps17
  go_wp2_with (go_at_call 26; refine (l1In_any _ _ _ _).mono ?_; rintro e w1 ⟨rfl, rfl⟩)
  go_loop [3] (fun c => ∃ k : Nat, k ≤ s.size ∧ c = .int .i64 k ∧ Hid (firstOk okB s k)) (fun c => s.size - (intOf c).toNat)
  case atStart => exact ⟨0, Nat.zero_le _, rfl, firstOk_zero _ _⟩
  case round =>
   obtain ⟨k, hk, rfl, HF⟩ := hrel
   clear h0
   by_cases hlt : k < s.size
   ·cases hd : ((s[k].toNat : Int) != 47) with
    | false =>
     have HD := Hid.intro hd
     go_wp2
     go_round
     case rel => exact ⟨k + 1, by omega, by go_num, firstOk_succ HF.out hlt (okB_slash HD.out)⟩
     case measure => simp [intOf]; omega
    | true =>
     have HD := Hid.intro hd
     cases hn : nbI (s[k].toNat : Int) with
     | true =>
      have HN := Hid.intro hn
      go_wp2_with (go_at_call 32; refine (l2Byte_any _ _).mono ?_; rintro e w' ⟨rfl, rfl⟩)
      go_round
      case rel => exact ⟨k + 1, by omega, by go_num, firstOk_succ HF.out hlt (okB_name HN.out)⟩
      case measure => simp [intOf]; omega
     | false =>
      have HN := Hid.intro hn
      go_wp2_with (go_at_call 32; refine (l2Byte_any _ _).mono ?_; rintro e w' ⟨rfl, rfl⟩)
      go_ret
      exact ⟨ret_bool (pathB_bad hlt (okB_no HD.out HN.out)).symm, rfl⟩
   ·obtain rfl : k = s.size := by omega
    go_wp2
    go_ret
    exact ⟨ret_bool (pathB_yes (by omega) (by omega) H0.out HF.out).symm, rfl⟩

end Go.Proofs.YtmkegmndcbpblaaGreatDoor
