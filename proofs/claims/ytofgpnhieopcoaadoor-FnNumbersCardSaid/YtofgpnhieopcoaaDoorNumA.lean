/- The law FnNumbers: contracts in the form in which it asks them. -/
import Derived.Test.YtofgpnhieopcoaaDoorPC
import Derived.Test.YtofgpnhieopcoaaDoorDrawG
import Derived.Test.YtofgpnhieopcoaaDoorMathG
namespace Go.Proofs.YtofgpnhieopcoaaDoor
open Go.RowKit
set_option linter.unusedVariables false

set_option maxHeartbeats 400000 in
theorem big_any (a : Option Addr) (len cap : Nat) (w : World) (hl : len ≤ 9223372036854775807) :
    Calls Tryd.prog 4 #[.slice a len cap] w fun e w' => e = .returned (.bool (decide ((1048576 : Int) < (len : Int)))) ∧ w = w' := by
  go_enter Tryd.func4, Tryd.ntmps4
  go_wp2
  go_ret
  exact ⟨rfl, rfl⟩

/-- ReadVar at a short text. -/
theorem readVar_all (s : ByteArray) (hs : s.size ≤ 1048576) : ∃ x k : Nat, RV s.data.toList x k ∧ ∀ w, Calls Tryd.prog 8 #[.string s] w fun e w' => e = .returned (.tuple #[.int .i64 x, .int .i64 k]) ∧ w = w' := by
  have gen : ∃ x k : Nat, RV s.data.toList x k := by
    by_cases h : ∃ j, 1 ≤ j ∧ j ≤ 7 ∧ j ≤ s.data.toList.length ∧ Good (s.data.toList.take j)
    · obtain ⟨j, a, b, c, d⟩ := h
      exact ⟨_, j, .inl ⟨a, b, c, d, rfl⟩⟩
    · exact ⟨0, 0, .inr ⟨rfl, rfl, fun j a b c d => h ⟨j, a, b, c, d⟩⟩⟩
  obtain ⟨x, k, h⟩ := gen
  refine ⟨x, k, h, fun w => (implReadVar_any s w hs).mono ?_⟩
  rintro e w' ⟨y, j, rfl, h2, rfl⟩
  obtain ⟨rfl, rfl⟩ := RV_unique h h2
  exact ⟨rfl, rfl⟩

/-- ReadFixed of seven bytes at a short text. -/
theorem readFixed_all (s : ByteArray) (hs : s.size ≤ 1048576) : ∃ (y : Int) (b : Bool), (7 ≤ s.size → y = rd (s.data.toList.take 7) ∧ b = true) ∧ ∀ w, Calls Tryd.prog 10 #[.string s, .int .i64 7] w fun e w' => e = .returned (.tuple #[.int .i64 y, .bool b]) ∧ w = w' := by
  by_cases h : 7 ≤ s.size
  · refine ⟨_, _, fun _ => ⟨rfl, rfl⟩, fun w => (implReadFixed_yes s 7 w hs (by omega) (by omega) h).mono ?_⟩
    rintro e w' ⟨rfl, rfl⟩
    exact ⟨rfl, rfl⟩
  · refine ⟨0, false, fun h' => absurd h' h, fun w => (implReadFixed_no s 7 w hs (by omega)).mono ?_⟩
    rintro e w' ⟨rfl, rfl⟩
    exact ⟨rfl, rfl⟩

/-- ReadDec at a text of which it is known what it says. -/
theorem readDec_at (s : ByteArray) (hs : s.size ≤ 1048576) {x : Int} {b : Bool} (h : RD s.data.toList x b) (w : World) :
    Calls Tryd.prog 11 #[.string s] w fun e w' => e = .returned (.tuple #[.int .i64 x, .bool b]) ∧ w = w' := by
  refine (implReadDec_any s w hs).mono ?_
  rintro e w' ⟨⟨y, b', rfl, h2⟩, rfl⟩
  obtain ⟨rfl, rfl⟩ := RD_unique h h2
  exact ⟨rfl, rfl⟩

/-- Unhex of what Hex makes. -/
theorem unhex_at (s : ByteArray) (hs : s.size ≤ 1000) (w : World) :
    Calls Tryd.prog 13 #[.string (hexS s)] w fun e w' => e = .returned (.tuple #[.string s, .bool true]) ∧ Below w.heap.size w w' := by
  have hsz : (hexS s).size ≤ 1048576 := by
    show (hexL s.data.toList).toArray.size ≤ _
    simp [hexL_length]; omega
  refine (implUnhex_any (hexS s) w hsz).mono ?_
  rintro e w' ⟨r, ok, rfl, h, hb⟩
  obtain ⟨rfl, rfl⟩ := UH_unique (UH_hex s) h
  exact ⟨rfl, hb⟩

theorem decS_small (x : Int) : (decS x).size ≤ 1048576 := by
  show (decL x).toArray.size ≤ _
  have h := decP_length 20 x.natAbs
  unfold decL
  split
  · simp
  · split <;> simp <;> omega

end Go.Proofs.YtofgpnhieopcoaaDoor
