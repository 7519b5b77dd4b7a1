/- spec.RecOk. -/
import Derived.Test.YtkilepoimocoeaaRecA
namespace Go.Proofs.Ytkilepoimocoeaa
open Go.RowKit
set_option linter.unusedVariables false
theorem recB_split (r : Rc) : recB r = decide (recP r) := rfl
set_option maxHeartbeats 4000000 in
theorem specRecOk_any (r : Rc) (w : World) :
    Calls Try.prog 31 #[rcV r] w fun e w' => e = .returned (.bool (recB r)) ∧ Below w.heap.size w w' := by
  obtain ⟨k, t, i, v, d⟩ := r
  have hd : d.toList = [] ↔ d.size = 0 := ⟨size_of_nil, fun h => by rw [empty_of h, toList_go]⟩
  have HD := Hid.intro hd
  clear hd
  rcases kinds k with rfl | rfl | rfl | rfl | ⟨h1, h2, h3, h4⟩
  all_goals
    go_enter Try.func31, Try.ntmps31
    go_wp2_with (go_at_call 63; refine (l1In_any _ _ _ _).mono ?_; rintro e w' ⟨rfl, rfl⟩)
  all_goals go_ret
  all_goals refine ⟨ret_bool ?_, (Below.refl _ _).alloc (Nat.le_refl _) _⟩
  all_goals
    have hd := HD.out
    clear HD
    rw [Bool.eq_iff_iff]
    simp only [List.isEmpty_iff, hd, recB, recP, decide_eq_true_eq, Bool.false_eq_true, false_iff, true_and]
    clear hd
    try simp only [inB, Bool.and_eq_true, decide_eq_true_eq, beq_eq_false_iff_ne, ne_eq] at *
    omega
end Go.Proofs.Ytkilepoimocoeaa
