/- Rows of names that lie one behind the other. -/
import Derived.Test.YtegdogdlohoheaaGreatVLawD
namespace Go.Proofs.YtegdogdlohoheaaGreat
open Go.RowKit
set_option linter.unusedVariables false
/-- The rows of names lie one behind the other. -/
def Inc (M : List Np) : Prop := ∀ i j (hij : i < j) (hj : j < M.length) k k', M[i].v.ownBlock = some k → M[j].v.ownBlock = some k' → k < k'
theorem Inc.snoc {M : List Np} {p : Np} (h : Inc M) (B : Nat) (h1 : ∀ x ∈ M, ∀ k, x.v.ownBlock = some k → k < B) (h2 : ∀ k, p.v.ownBlock = some k → B ≤ k) : Inc (M ++ [p]) := by
  intro i j hij hj k k' e1 e2
  rw [List.length_append, List.length_singleton] at hj
  have hi : i < M.length := by omega
  rw [List.getElem_append_left hi] at e1
  by_cases hjl : j < M.length
  · rw [List.getElem_append_left hjl] at e2
    exact h i j hij hjl k k' e1 e2
  · obtain rfl : j = M.length := by omega
    rw [List.getElem_append_right (Nat.le_refl _)] at e2
    simp only [Nat.sub_self, List.getElem_cons_zero] at e2
    have := h1 M[i] (List.getElem_mem hi) k e1
    have := h2 k' e2
    omega
end Go.Proofs.YtegdogdlohoheaaGreat
