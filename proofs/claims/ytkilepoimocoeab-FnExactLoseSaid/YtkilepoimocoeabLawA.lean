/- The laws' helpers over records and snaps: how great, copies, equal. -/
import Derived.Test.YtkilepoimocoeabCopyS
namespace Go.Proofs.Ytkilepoimocoeab
open Go.RowKit
set_option linter.unusedVariables false
/-- What is left of a measure: never more than there was; it is below 0 or the things counted fit. -/
def SzP (left n : Int) (m : Nat) : Prop := n ≤ left ∧ -1 ≤ n ∧ (0 ≤ n → (m : Int) ≤ left)
set_option maxHeartbeats 1000000 in
theorem szRec_any (r : Rc) (left : Int) (w : World) (h0 : 0 ≤ left) (h1 : left ≤ 1048576) (hd : r.d.size ≤ 9223372036854775807) :
    Calls Try.prog 43 #[rcV r, .int .i64 left] w fun e w' => (∃ n, e = .returned (.int .i64 n) ∧ SzP left n 0) ∧ Below w.heap.size w w' := by
  by_cases h : left - r.d.size < 0
  · go_enter Try.func43, Try.ntmps43
    go_wp2
    go_ret
    exact ⟨⟨_, rfl, by unfold SzP; omega⟩, (Below.refl _ _).alloc (Nat.le_refl _) _⟩
  · go_enter Try.func43, Try.ntmps43
    go_wp2
    go_ret
    exact ⟨⟨_, rfl, by unfold SzP; omega⟩, (Below.refl _ _).alloc (Nat.le_refl _) _⟩
set_option maxHeartbeats 1000000 in
theorem szSnap_any (i t : Int) (d : ByteArray) (left : Int) (w : World) (h0 : 0 ≤ left) (h1 : left ≤ 1048576) (hd : d.size ≤ 9223372036854775807) :
    Calls Try.prog 53 #[.agg #[.int .i64 i, .int .i64 t, .string d], .int .i64 left] w fun e w' => (∃ n, e = .returned (.int .i64 n) ∧ SzP left n 0) ∧ Below w.heap.size w w' := by
  by_cases h : left - d.size < 0
  · go_enter Try.func53, Try.ntmps53
    go_wp2
    go_ret
    exact ⟨⟨_, rfl, by unfold SzP; omega⟩, (Below.refl _ _).alloc (Nat.le_refl _) _⟩
  · go_enter Try.func53, Try.ntmps53
    go_wp2
    go_ret
    exact ⟨⟨_, rfl, by unfold SzP; omega⟩, (Below.refl _ _).alloc (Nat.le_refl _) _⟩
set_option maxHeartbeats 1000000 in
theorem szEntry_any (t : Int) (d : ByteArray) (left : Int) (w : World) (h0 : 0 ≤ left) (h1 : left ≤ 1048576) (hd : d.size ≤ 9223372036854775807) :
    Calls Try.prog 70 #[.agg #[.int .i64 t, .string d], .int .i64 left] w fun e w' => (∃ n, e = .returned (.int .i64 n) ∧ SzP left n 0) ∧ Below w.heap.size w w' := by
  by_cases h : left - d.size < 0
  · go_enter Try.func70, Try.ntmps70
    go_wp2
    go_ret
    exact ⟨⟨_, rfl, by unfold SzP; omega⟩, (Below.refl _ _).alloc (Nat.le_refl _) _⟩
  · go_enter Try.func70, Try.ntmps70
    go_wp2
    go_ret
    exact ⟨⟨_, rfl, by unfold SzP; omega⟩, (Below.refl _ _).alloc (Nat.le_refl _) _⟩
set_option maxHeartbeats 1000000 in
theorem toRec_any (r : Rc) (w : World) :
    Calls Try.prog 46 #[rcV r] w fun e w' => e = .returned (rcV r) ∧ Below w.heap.size w w' := by
  go_enter Try.func46, Try.ntmps46
  go_wp2
  exact bodyPost_ret (v := rcV r) (by simp [results, Try.results46, go_sem]) rfl ⟨rfl, three_below _ _ _ _⟩
set_option maxHeartbeats 1000000 in
theorem toSnap_any (i t : Int) (d : ByteArray) (w : World) :
    Calls Try.prog 59 #[.agg #[.int .i64 i, .int .i64 t, .string d]] w fun e w' => e = .returned (.agg #[.int .i64 i, .int .i64 t, .string d]) ∧ Below w.heap.size w w' := by
  go_enter Try.func59, Try.ntmps59
  go_wp2
  exact bodyPost_ret (v := .agg #[.int .i64 i, .int .i64 t, .string d]) (by simp [results, Try.results59, go_sem]) rfl ⟨rfl, three_below _ _ _ _⟩
set_option maxHeartbeats 1000000 in
theorem toEntry_any (t : Int) (d : ByteArray) (w : World) :
    Calls Try.prog 74 #[.agg #[.int .i64 t, .string d]] w fun e w' => e = .returned (.agg #[.int .i64 t, .string d]) ∧ Below w.heap.size w w' := by
  go_enter Try.func74, Try.ntmps74
  go_wp2
  exact bodyPost_ret (v := .agg #[.int .i64 t, .string d]) (by simp [results, Try.results74, go_sem]) rfl ⟨rfl, three_below _ _ _ _⟩
set_option maxHeartbeats 1000000 in
theorem eqSnap_any (i t : Int) (d : ByteArray) (w : World) :
    Calls Try.prog 39 #[.agg #[.int .i64 i, .int .i64 t, .string d], .agg #[.int .i64 i, .int .i64 t, .string d]] w fun e w' => e = .returned (.bool true) ∧ Below w.heap.size w w' := by
  go_enter Try.func39, Try.ntmps39
  go_wp2
  go_ret
  exact ⟨rfl, two_below _ _ _⟩
set_option maxHeartbeats 1000000 in
theorem eqEntry_any (t : Int) (d : ByteArray) (w : World) :
    Calls Try.prog 62 #[.agg #[.int .i64 t, .string d], .agg #[.int .i64 t, .string d]] w fun e w' => e = .returned (.bool true) ∧ Below w.heap.size w w' := by
  go_enter Try.func62, Try.ntmps62
  go_wp2
  go_ret
  exact ⟨rfl, two_below _ _ _⟩
end Go.Proofs.Ytkilepoimocoeab
