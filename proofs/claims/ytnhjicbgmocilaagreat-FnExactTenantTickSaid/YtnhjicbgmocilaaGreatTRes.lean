/- Results: what it is to be right, and what is shown of one, on both sides. -/
import Derived.Test.YtnhjicbgmocilaaGreatTVar
namespace Go.Proofs.YtnhjicbgmocilaaGreat
open Go.RowKit
set_option linter.unusedVariables false
/-- A result. -/
structure Re where
  c : Int
  d : ByteArray
@[reducible] def reV (r : Re) : Value := .agg #[.int .i64 r.c, .string r.d]
def resP (r : Re) : Prop := (0 ≤ r.c ∧ r.c ≤ 200) ∧ r.d.size ≤ 400
instance (r : Re) : Decidable (resP r) := by unfold resP; infer_instance
def resB (r : Re) : Bool := decide (resP r)
theorem resB_yes {r : Re} (h : resP r) : resB r = true := decide_eq_true h
theorem resB_no {r : Re} (h : ¬ resP r) : resB r = false := decide_eq_false h
/-- What is shown of a result. -/
def shR (r : Re) : ByteArray := if resP r then varS r.c.toNat ++ r.d else ByteArray.empty
theorem shR_yes {r : Re} (h : resP r) : shR r = varS r.c.toNat ++ r.d := if_pos h
theorem shR_no {r : Re} (h : ¬ resP r) : shR r = ByteArray.empty := if_neg h
set_option maxRecDepth 100000 in
set_option maxHeartbeats 800000 in
theorem specResultOk_any (r : Re) (w : World) :
    Calls Tryz.prog 38 #[reV r] w fun e w' => e = .returned (.bool (resB r)) ∧ Below w.heap.size w w' := by
  by_cases h1 : 0 ≤ r.c ∧ r.c ≤ 200
  · have b1 := inB_true h1
    by_cases h2 : (r.d.size : Int) ≤ 400
    · rw [resB_yes ⟨h1, by omega⟩]
      go_enter Tryz.func38, Tryz.ntmps38
      go_wp2_with (go_at_call 36; refine (l1In_any _ _ _ _).mono ?_; rintro e w9 ⟨rfl, rfl⟩)
      go_ret
      exact ⟨rfl, one_below _ _⟩
    · rw [resB_no (by unfold resP; omega)]
      go_enter Tryz.func38, Tryz.ntmps38
      go_wp2_with (go_at_call 36; refine (l1In_any _ _ _ _).mono ?_; rintro e w9 ⟨rfl, rfl⟩)
      go_ret
      exact ⟨ret_bool (decide_eq_false (by omega)), one_below _ _⟩
  · have b1 := inB_false h1
    rw [resB_no (by unfold resP; omega)]
    go_enter Tryz.func38, Tryz.ntmps38
    go_wp2_with (go_at_call 36; refine (l1In_any _ _ _ _).mono ?_; rintro e w9 ⟨rfl, rfl⟩)
    go_ret
    exact ⟨rfl, one_below _ _⟩
set_option maxRecDepth 100000 in
set_option maxHeartbeats 800000 in
theorem implResultOk_any (r : Re) (w : World) :
    Calls Tryz.prog 68 #[reV r] w fun e w' => e = .returned (.bool (resB r)) ∧ Below w.heap.size w w' := by
  by_cases h1 : 0 ≤ r.c ∧ r.c ≤ 200
  · have b1 := inB_true h1
    by_cases h2 : (r.d.size : Int) ≤ 400
    · rw [resB_yes ⟨h1, by omega⟩]
      go_enter Tryz.func68, Tryz.ntmps68
      go_wp2_with (go_at_call 44; refine (within_any _ _ _ _).mono ?_; rintro e w9 ⟨rfl, rfl⟩)
      go_ret
      exact ⟨rfl, one_below _ _⟩
    · rw [resB_no (by unfold resP; omega)]
      go_enter Tryz.func68, Tryz.ntmps68
      go_wp2_with (go_at_call 44; refine (within_any _ _ _ _).mono ?_; rintro e w9 ⟨rfl, rfl⟩)
      go_ret
      exact ⟨ret_bool (decide_eq_false (by omega)), one_below _ _⟩
  · have b1 := inB_false h1
    rw [resB_no (by unfold resP; omega)]
    go_enter Tryz.func68, Tryz.ntmps68
    go_wp2_with (go_at_call 44; refine (within_any _ _ _ _).mono ?_; rintro e w9 ⟨rfl, rfl⟩)
    go_ret
    exact ⟨rfl, one_below _ _⟩
end Go.Proofs.YtnhjicbgmocilaaGreat
