/- Results: what it is to be right, and what is shown of one, on both sides. -/
import Derived.Test.YtediilplhjbnpaaTVar
namespace Go.Proofs.Ytediilplhjbnpaa
open Go.RowKit
set_option linter.unusedVariables false
/-- A result. -/
structure Re where
  c : Int
  d : ByteArray
@[reducible] def reV (r : Re) : Value := .agg #[.int .i64 r.c, .string r.d]
def resP (r : Re) : Prop := (0 ≤ r.c ∧ r.c ≤ 200) ∧ r.d.size ≤ 400
instance (r : Re) : Decidable (resP r) := by unfold resP; infer_instance
def resB (r : Re) : Bool := decide (resP r)
theorem resB_yes {r : Re} (h : resP r) : resB r = true := decide_eq_true h
theorem resB_no {r : Re} (h : ¬ resP r) : resB r = false := decide_eq_false h
/-- What is shown of a result. -/
def shR (r : Re) : ByteArray := if resP r then varS r.c.toNat ++ r.d else ByteArray.empty
theorem shR_yes {r : Re} (h : resP r) : shR r = varS r.c.toNat ++ r.d := if_pos h
theorem shR_no {r : Re} (h : ¬ resP r) : shR r = ByteArray.empty := if_neg h
end Go.Proofs.Ytediilplhjbnpaa
