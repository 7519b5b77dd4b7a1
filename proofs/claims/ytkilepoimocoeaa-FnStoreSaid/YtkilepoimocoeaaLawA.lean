/- The laws' helpers over records and snaps: how great, copies, equal. -/
import Derived.Test.YtkilepoimocoeaaCopyS
namespace Go.Proofs.Ytkilepoimocoeaa
open Go.RowKit
set_option linter.unusedVariables false
/-- What is left of a measure: never more than there was; it is below 0 or the things counted fit. -/
def SzP (left n : Int) (m : Nat) : Prop := n ≤ left ∧ -1 ≤ n ∧ (0 ≤ n → (m : Int) ≤ left)
set_option maxHeartbeats 1000000 in
theorem szRec_any (r : Rc) (left : Int) (w : World) (h0 : 0 ≤ left) (h1 : left ≤ 1048576) (hd : r.d.size ≤ 9223372036854775807) :
    Calls Try.prog 30 #[rcV r, .int .i64 left] w fun e w' => (∃ n, e = .returned (.int .i64 n) ∧ SzP left n 0) ∧ Below w.heap.size w w' := by
  by_cases h : left - r.d.size < 0
  · go_enter Try.func30, Try.ntmps30
    go_wp2
    go_ret
    exact ⟨⟨_, rfl, by unfold SzP; omega⟩, (Below.refl _ _).alloc (Nat.le_refl _) _⟩
  · go_enter Try.func30, Try.ntmps30
    go_wp2
    go_ret
    exact ⟨⟨_, rfl, by unfold SzP; omega⟩, (Below.refl _ _).alloc (Nat.le_refl _) _⟩
set_option maxHeartbeats 1000000 in
theorem szSnap_any (i t : Int) (d : ByteArray) (left : Int) (w : World) (h0 : 0 ≤ left) (h1 : left ≤ 1048576) (hd : d.size ≤ 9223372036854775807) :
    Calls Try.prog 61 #[.agg #[.int .i64 i, .int .i64 t, .string d], .int .i64 left] w fun e w' => (∃ n, e = .returned (.int .i64 n) ∧ SzP left n 0) ∧ Below w.heap.size w w' := by
  by_cases h : left - d.size < 0
  · go_enter Try.func61, Try.ntmps61
    go_wp2
    go_ret
    exact ⟨⟨_, rfl, by unfold SzP; omega⟩, (Below.refl _ _).alloc (Nat.le_refl _) _⟩
  · go_enter Try.func61, Try.ntmps61
    go_wp2
    go_ret
    exact ⟨⟨_, rfl, by unfold SzP; omega⟩, (Below.refl _ _).alloc (Nat.le_refl _) _⟩
set_option maxHeartbeats 1000000 in
theorem szEntry_any (t : Int) (d : ByteArray) (left : Int) (w : World) (h0 : 0 ≤ left) (h1 : left ≤ 1048576) (hd : d.size ≤ 9223372036854775807) :
    Calls Try.prog 86 #[.agg #[.int .i64 t, .string d], .int .i64 left] w fun e w' => (∃ n, e = .returned (.int .i64 n) ∧ SzP left n 0) ∧ Below w.heap.size w w' := by
  by_cases h : left - d.size < 0
  · go_enter Try.func86, Try.ntmps86
    go_wp2
    go_ret
    exact ⟨⟨_, rfl, by unfold SzP; omega⟩, (Below.refl _ _).alloc (Nat.le_refl _) _⟩
  · go_enter Try.func86, Try.ntmps86
    go_wp2
    go_ret
    exact ⟨⟨_, rfl, by unfold SzP; omega⟩, (Below.refl _ _).alloc (Nat.le_refl _) _⟩
set_option maxHeartbeats 1000000 in
theorem toRec_any (r : Rc) (w : World) :
    Calls Try.prog 32 #[rcV r] w fun e w' => e = .returned (rcV r) ∧ Below w.heap.size w w' := by
  go_enter Try.func32, Try.ntmps32
  go_wp2
  exact bodyPost_ret (v := rcV r) (by simp [results, Try.results32, go_sem]) rfl ⟨rfl, three_below _ _ _ _⟩
set_option maxHeartbeats 1000000 in
theorem toSnap_any (i t : Int) (d : ByteArray) (w : World) :
    Calls Try.prog 65 #[.agg #[.int .i64 i, .int .i64 t, .string d]] w fun e w' => e = .returned (.agg #[.int .i64 i, .int .i64 t, .string d]) ∧ Below w.heap.size w w' := by
  go_enter Try.func65, Try.ntmps65
  go_wp2
  exact bodyPost_ret (v := .agg #[.int .i64 i, .int .i64 t, .string d]) (by simp [results, Try.results65, go_sem]) rfl ⟨rfl, three_below _ _ _ _⟩
set_option maxHeartbeats 1000000 in
theorem toEntry_any (t : Int) (d : ByteArray) (w : World) :
    Calls Try.prog 87 #[.agg #[.int .i64 t, .string d]] w fun e w' => e = .returned (.agg #[.int .i64 t, .string d]) ∧ Below w.heap.size w w' := by
  go_enter Try.func87, Try.ntmps87
  go_wp2
  exact bodyPost_ret (v := .agg #[.int .i64 t, .string d]) (by simp [results, Try.results87, go_sem]) rfl ⟨rfl, three_below _ _ _ _⟩
set_option maxHeartbeats 1000000 in
theorem eqSnap_any (i t : Int) (d : ByteArray) (w : World) :
    Calls Try.prog 70 #[.agg #[.int .i64 i, .int .i64 t, .string d], .agg #[.int .i64 i, .int .i64 t, .string d]] w fun e w' => e = .returned (.bool true) ∧ Below w.heap.size w w' := by
  go_enter Try.func70, Try.ntmps70
  go_wp2
  go_ret
  exact ⟨rfl, two_below _ _ _⟩
set_option maxHeartbeats 1000000 in
theorem eqEntry_any (t : Int) (d : ByteArray) (w : World) :
    Calls Try.prog 90 #[.agg #[.int .i64 t, .string d], .agg #[.int .i64 t, .string d]] w fun e w' => e = .returned (.bool true) ∧ Below w.heap.size w w' := by
  go_enter Try.func90, Try.ntmps90
  go_wp2
  go_ret
  exact ⟨rfl, two_below _ _ _⟩
end Go.Proofs.Ytkilepoimocoeaa
