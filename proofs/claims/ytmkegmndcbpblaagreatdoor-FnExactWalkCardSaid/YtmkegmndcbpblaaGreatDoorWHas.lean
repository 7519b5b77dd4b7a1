/- Whether a text begins with '/'. -/
import Derived.Test.YtmkegmndcbpblaaGreatDoorVName
namespace Go.Proofs.YtmkegmndcbpblaaGreatDoor
open Go.RowKit
set_option linter.unusedVariables false
theorem head_cut {s : ByteArray} (h : 1 ≤ s.size) : ((s.extract 0 1).toList == [(47 : UInt8)]) = decide (s.data.toList.head? = some 47) := by
 rw [toList_data, ByteArray.data_extract, Array.toList_extract]
 have hl : s.data.toList.length = s.size := by simp
 cases hs : s.data.toList with
 | nil => rw [hs] at hl; simp at hl; omega
 | cons a l => simp [List.extract]; rfl
set_option maxRecDepth 100000 in
set_option maxHeartbeats 1000000 in
theorem slashLite_any (s : ByteArray) (w : World) (h1 : 1 ≤ s.size) (h2 : s.size ≤ 9223372036854775807) : Calls Tryz.prog 88 #[.string s, .string ⟨#[47]⟩] w fun e w' => e = .returned (.bool (decide (s.data.toList.head? = some 47))) ∧ w' = w := by
 rw [← head_cut h1]
 have g1 : (1 : Int) ≤ (s.size : Int) := by omega
 have y1 : ((s.size : Int) ≥ (1 : Int)) = True := by simp; omega
 go_enter Tryz.func88, Tryz.ntmps88
 go_wp2_with fail
 go_ret
 exact ⟨rfl, rfl⟩
set_option maxRecDepth 100000 in
set_option maxHeartbeats 1000000 in
theorem slash_any (s : ByteArray) (w : World) (h1 : 1 ≤ s.size) (h2 : s.size ≤ 9223372036854775807) : Calls Tryz.prog 86 #[.string s, .string ⟨#[47]⟩] w fun e w' => e = .returned (.bool (decide (s.data.toList.head? = some 47))) ∧ w' = w := by
 go_enter Tryz.func86, Tryz.ntmps86
 go_wp2_with fail
 refine (slashLite_any s w h1 h2).mono ?_
 rintro e w1 ⟨rfl, rfl⟩
 go_wp2_with fail
 go_ret
 exact ⟨rfl, rfl⟩
end Go.Proofs.YtmkegmndcbpblaaGreatDoor
