/- RecOk, both. -/
import Derived.Test.YtkilepoimocoeaaLeafC
namespace Go.Proofs.Ytkilepoimocoeaa
open Go.RowKit
set_option linter.unusedVariables false

abbrev rcV (r : Rc) : Value := .agg #[.int .i64 r.k, .int .i64 r.t, .int .i64 r.i, .int .i64 r.v, .string r.d]
/-- The interface value of a record. -/
def recI (r : Rc) : Value :=
  if r.k = 1 then .iface 89 (.agg #[.int .i64 r.t, .int .i64 r.v])
  else if r.k = 2 then .iface 98 (.agg #[.int .i64 r.i, .int .i64 r.t, .string r.d])
  else if r.k = 3 then .iface 94 (.agg #[.int .i64 r.i])
  else if r.k = 4 then .iface 91 (.agg #[.int .i64 r.i, .int .i64 r.t, .string r.d])
  else .nilIface
theorem kinds (x : Int) : x = 1 ∨ x = 2 ∨ x = 3 ∨ x = 4 ∨ ((x == 1) = false ∧ (x == 2) = false ∧ (x == 3) = false ∧ (x == 4) = false) := by
  simp; omega

set_option maxHeartbeats 1000000 in
theorem recordOf_any (r : Rc) (w : World) :
    Calls Try.prog 59 #[rcV r] w fun e w' => e = .returned (recI r) ∧ Below w.heap.size w w' := by
  obtain ⟨k, t, i, v, d⟩ := r
  rcases kinds k with rfl | rfl | rfl | rfl | ⟨h1, h2, h3, h4⟩
  all_goals
    go_enter Try.func59, Try.ntmps59
    go_wp2
    go_ret
  · exact ⟨rfl, (Below.refl _ _).alloc (Nat.le_refl _) _⟩
  · exact ⟨rfl, (Below.refl _ _).alloc (Nat.le_refl _) _⟩
  · exact ⟨rfl, (Below.refl _ _).alloc (Nat.le_refl _) _⟩
  · exact ⟨rfl, (Below.refl _ _).alloc (Nat.le_refl _) _⟩
  · simp at h1 h2 h3 h4
    exact ⟨by simp [recI, h1, h2, h3, h4], (Below.refl _ _).alloc (Nat.le_refl _) _⟩

def inbB (r : Rc) : Bool :=
  if r.k = 1 then hardB r.t r.v
  else if r.k = 2 then (inB r.t 1 100000 && decide ((r.d.size : Int) ≤ 1600)) && inB r.i 1 100000
  else if r.k = 3 then inB r.i 1 100000
  else if r.k = 4 then (inB r.t 1 100000 && decide ((r.d.size : Int) ≤ 20000)) && inB r.i 1 100000
  else false
set_option maxHeartbeats 2000000 in
theorem inBounds_any (r : Rc) (w : World) :
    Calls Try.prog 60 #[rcV r] w fun e w' => e = .returned (.bool (inbB r)) ∧ Below w.heap.size w w' := by
  obtain ⟨k, t, i, v, d⟩ := r
  rcases kinds k with rfl | rfl | rfl | rfl | ⟨h1, h2, h3, h4⟩
  · go_enter Try.func60, Try.ntmps60
    go_wp2_with (go_at_call 67; refine (hardOk_any _ _ _).mono ?_; rintro e w' ⟨rfl, rfl⟩)
    go_ret
    exact ⟨rfl, (Below.refl _ _).alloc (Nat.le_refl _) _⟩
  · cases hb : inB t 1 100000 with
    | false =>
      go_enter Try.func60, Try.ntmps60
      go_wp2_with (go_at_call 85; refine (within_any _ _ _ _).mono ?_; rintro e w' ⟨rfl, rfl⟩)
      go_ret
      exact ⟨ret_bool (by simp [inbB, hb]), (Below.refl _ _).alloc (Nat.le_refl _) _⟩
    | true =>
      by_cases hd : (d.size : Int) ≤ 1600
      · go_enter Try.func60, Try.ntmps60
        go_wp2_with (go_at_call 85; refine (within_any _ _ _ _).mono ?_; rintro e w' ⟨rfl, rfl⟩)
        go_ret
        exact ⟨ret_bool (by simp [inbB, hb]; omega), (Below.refl _ _).alloc (Nat.le_refl _) _⟩
      · go_enter Try.func60, Try.ntmps60
        go_wp2_with (go_at_call 85; refine (within_any _ _ _ _).mono ?_; rintro e w' ⟨rfl, rfl⟩)
        go_ret
        exact ⟨ret_bool (by simp [inbB, hb]; omega), (Below.refl _ _).alloc (Nat.le_refl _) _⟩
  · go_enter Try.func60, Try.ntmps60
    go_wp2_with (go_at_call 85; refine (within_any _ _ _ _).mono ?_; rintro e w' ⟨rfl, rfl⟩)
    go_ret
    exact ⟨rfl, (Below.refl _ _).alloc (Nat.le_refl _) _⟩
  · cases hb : inB t 1 100000 with
    | false =>
      go_enter Try.func60, Try.ntmps60
      go_wp2_with (go_at_call 85; refine (within_any _ _ _ _).mono ?_; rintro e w' ⟨rfl, rfl⟩)
      go_ret
      exact ⟨ret_bool (by simp [inbB, hb]), (Below.refl _ _).alloc (Nat.le_refl _) _⟩
    | true =>
      by_cases hd : (d.size : Int) ≤ 20000
      · go_enter Try.func60, Try.ntmps60
        go_wp2_with (go_at_call 85; refine (within_any _ _ _ _).mono ?_; rintro e w' ⟨rfl, rfl⟩)
        go_ret
        exact ⟨ret_bool (by simp [inbB, hb]; omega), (Below.refl _ _).alloc (Nat.le_refl _) _⟩
      · go_enter Try.func60, Try.ntmps60
        go_wp2_with (go_at_call 85; refine (within_any _ _ _ _).mono ?_; rintro e w' ⟨rfl, rfl⟩)
        go_ret
        exact ⟨ret_bool (by simp [inbB, hb]; omega), (Below.refl _ _).alloc (Nat.le_refl _) _⟩
  · go_enter Try.func60, Try.ntmps60
    go_wp2
    go_ret
    simp at h1 h2 h3 h4
    exact ⟨by simp [inbB, h1, h2, h3, h4], (Below.refl _ _).alloc (Nat.le_refl _) _⟩

/-- What is left of a record on the way there and back. -/
def backR (r : Rc) : Rc :=
  if r.k = 1 then ⟨1, r.t, 0, r.v, ⟨#[]⟩⟩ else if r.k = 2 then ⟨2, r.t, r.i, 0, r.d⟩ else if r.k = 3 then ⟨3, 0, r.i, 0, ⟨#[]⟩⟩ else ⟨4, r.t, r.i, 0, r.d⟩
theorem recHard_any (t v : Int) (w : World) :
    Calls Try.prog 110 #[.agg #[.int .i64 t, .int .i64 v]] w fun e w' => e = .returned (rcV ⟨1, t, 0, v, ⟨#[]⟩⟩) ∧ Below w.heap.size w w' := by
  go_enter Try.func110, Try.ntmps110
  go_wp2
  exact bodyPost_ret (v := rcV ⟨1, t, 0, v, ⟨#[]⟩⟩) (by simp [results, Try.results110, go_sem]) rfl ⟨rfl, (((Below.refl _ _).alloc (Nat.le_refl _) _).alloc (by simp) _)⟩
theorem recEntry_any (i t : Int) (d : ByteArray) (w : World) :
    Calls Try.prog 113 #[.agg #[.int .i64 i, .int .i64 t, .string d]] w fun e w' => e = .returned (rcV ⟨2, t, i, 0, d⟩) ∧ Below w.heap.size w w' := by
  go_enter Try.func113, Try.ntmps113
  go_wp2
  exact bodyPost_ret (v := rcV ⟨2, t, i, 0, d⟩) (by simp [results, Try.results113, go_sem]) rfl ⟨rfl, (((Below.refl _ _).alloc (Nat.le_refl _) _).alloc (by simp) _)⟩
theorem recCut_any (i : Int) (w : World) :
    Calls Try.prog 112 #[.agg #[.int .i64 i]] w fun e w' => e = .returned (rcV ⟨3, 0, i, 0, ⟨#[]⟩⟩) ∧ Below w.heap.size w w' := by
  go_enter Try.func112, Try.ntmps112
  go_wp2
  exact bodyPost_ret (v := rcV ⟨3, 0, i, 0, ⟨#[]⟩⟩) (by simp [results, Try.results112, go_sem]) rfl ⟨rfl, (((Below.refl _ _).alloc (Nat.le_refl _) _).alloc (by simp) _)⟩
theorem recSnap_any (i t : Int) (d : ByteArray) (w : World) :
    Calls Try.prog 111 #[.agg #[.int .i64 i, .int .i64 t, .string d]] w fun e w' => e = .returned (rcV ⟨4, t, i, 0, d⟩) ∧ Below w.heap.size w w' := by
  go_enter Try.func111, Try.ntmps111
  go_wp2
  exact bodyPost_ret (v := rcV ⟨4, t, i, 0, d⟩) (by simp [results, Try.results111, go_sem]) rfl ⟨rfl, (((Below.refl _ _).alloc (Nat.le_refl _) _).alloc (by simp) _)⟩
end Go.Proofs.Ytkilepoimocoeaa
