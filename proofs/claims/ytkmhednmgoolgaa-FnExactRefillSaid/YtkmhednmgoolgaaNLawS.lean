/- The laws Tells, Cost, Refill, Spend. -/
import Derived.Test.YtkmhednmgoolgaaNSmall
namespace Go.Proofs.Ytkmhednmgoolgaa
open Go.RowKit
set_option linter.unusedVariables false
set_option maxRecDepth 100000 in
set_option maxHeartbeats 1000000 in
theorem tells_law (k : Int) (w : World) :
    Calls Try.prog 4 #[.int .i64 k] w fun e w' => e = .returned (.bool true) ∧ Below w.heap.size w w' := by
  go_enter Try.func4, Try.ntmps4
  go_wp2_with fail
  refine (specTells_any k _).mono ?_
  rintro e w1 ⟨rfl, rfl⟩
  go_wp2_with fail
  refine (implTells_any k _).mono ?_
  rintro e w1 ⟨rfl, rfl⟩
  generalize tellsB k = r
  go_wp2
  all_goals first | contradiction | (go_ret; exact ⟨rfl, Below.refl _ _⟩) | (exfalso; simp_all; done)
set_option maxRecDepth 100000 in
set_option maxHeartbeats 1000000 in
theorem cost_law (k : Int) (w : World) :
    Calls Try.prog 5 #[.int .i64 k] w fun e w' => e = .returned (.bool true) ∧ Below w.heap.size w w' := by
  go_enter Try.func5, Try.ntmps5
  go_wp2_with fail
  refine (specCost_any k _).mono ?_
  rintro e w1 ⟨rfl, rfl⟩
  go_wp2_with fail
  refine (implCost_any k _).mono ?_
  rintro e w1 ⟨rfl, rfl⟩
  generalize costI k = r
  go_wp2
  all_goals first | contradiction | (go_ret; exact ⟨rfl, Below.refl _ _⟩) | (exfalso; simp_all; done)
set_option maxRecDepth 100000 in
set_option maxHeartbeats 1000000 in
theorem refill_law (t : Int) (w : World) (hlo : -9223372036854775808 ≤ t) (hhi : t ≤ 9223372036854775807) :
    Calls Try.prog 6 #[.int .i64 t] w fun e w' => e = .returned (.bool true) ∧ Below w.heap.size w w' := by
  go_enter Try.func6, Try.ntmps6
  go_wp2_with fail
  refine (specRefill_any t _ hlo hhi).mono ?_
  rintro e w1 ⟨rfl, rfl⟩
  go_wp2_with fail
  refine (implRefill_any t _).mono ?_
  rintro e w1 ⟨rfl, b1⟩
  generalize refI t = r
  go_wp2
  all_goals first | contradiction | (go_ret; exact ⟨rfl, b1⟩) | (exfalso; simp_all; done)
set_option maxRecDepth 100000 in
set_option maxHeartbeats 1000000 in
theorem spend_law (t k : Int) (w : World) (hlo : -9223372036854775808 ≤ t) (hhi : t ≤ 9223372036854775807) :
    Calls Try.prog 7 #[.int .i64 t, .int .i64 k] w fun e w' => e = .returned (.bool true) ∧ Below w.heap.size w w' := by
  go_enter Try.func7, Try.ntmps7
  go_wp2_with fail
  refine (specSpend_any t k _ hlo hhi).mono ?_
  rintro e w1 ⟨rfl, rfl⟩
  go_wp2_with fail
  refine (implSpend_any t k _ hlo hhi).mono ?_
  rintro e w1 ⟨rfl, rfl⟩
  generalize spendI t k = r
  generalize spendB t k = b
  have hb : (b != b) = false := by simp
  go_wp2
  all_goals first | contradiction | (go_ret; exact ⟨rfl, Below.refl _ _⟩) | (exfalso; simp_all; done)
theorem refill_wf (t : Int) (w : World) (h : (Lit.int .i64 t).wf = true) :
    Calls Try.prog 6 #[.int .i64 t] w fun e w' => e = .returned (.bool true) ∧ Below w.heap.size w w' := by
  have hb := bounds_i64 h
  exact refill_law t w hb.1 hb.2
theorem spend_wf (t k : Int) (w : World) (h : (Lit.int .i64 t).wf = true) (h2 : (Lit.int .i64 k).wf = true) :
    Calls Try.prog 7 #[.int .i64 t, .int .i64 k] w fun e w' => e = .returned (.bool true) ∧ Below w.heap.size w w' := by
  have hb := bounds_i64 h
  exact spend_law t k w hb.1 hb.2
end Go.Proofs.Ytkmhednmgoolgaa
