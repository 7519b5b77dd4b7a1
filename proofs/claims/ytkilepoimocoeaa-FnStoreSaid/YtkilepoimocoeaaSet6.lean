/- Six cells that are written. -/
import Derived.Test.YtkilepoimocoeaaTakeH
namespace Go.Proofs.Ytkilepoimocoeaa
open Go.RowKit
set_option linter.unusedVariables false
theorem put_apart {w : World} {b o p : Nat} {y : Value} (hp : ¬ o = p) : (w.setCell ⟨b, p, none⟩ y).cell? ⟨b, o, none⟩ = w.cell? ⟨b, o, none⟩ := World.cell?_setCell_other _ _ _ _ (by intro e; cases e; exact hp rfl)
theorem put6 {w : World} {b : Nat} {x0 x1 x2 x3 x4 x5 y0 y1 y2 y3 y4 y5 : Value} (h : ∀ o, w.cell? ⟨b, o, none⟩ = #[y0, y1, y2, y3, y4, y5][o]?) :
    ∃ X, (((((w.setCell ⟨b, 0, none⟩ x0).setCell ⟨b, 1, none⟩ x1).setCell ⟨b, 2, none⟩ x2).setCell ⟨b, 3, none⟩ x3).setCell ⟨b, 4, none⟩ x4).setCell ⟨b, 5, none⟩ x5 = X ∧ (∀ o, X.cell? ⟨b, o, none⟩ = #[x0, x1, x2, x3, x4, x5][o]?) ∧ Only (fun k => k = b) w X ∧ X.heap.size = w.heap.size ∧ ((∀ o, w.frozen? ⟨b, o, none⟩ = false) → ∀ o, X.frozen? ⟨b, o, none⟩ = false) := by
  have h0 : w.cell? ⟨b, 0, none⟩ = some y0 := by rw [h]; rfl
  have h1 : w.cell? ⟨b, 1, none⟩ = some y1 := by rw [h]; rfl
  have h2 : w.cell? ⟨b, 2, none⟩ = some y2 := by rw [h]; rfl
  have h3 : w.cell? ⟨b, 3, none⟩ = some y3 := by rw [h]; rfl
  have h4 : w.cell? ⟨b, 4, none⟩ = some y4 := by rw [h]; rfl
  have h5 : w.cell? ⟨b, 5, none⟩ = some y5 := by rw [h]; rfl
  refine ⟨_, rfl, fun o => ?_, ?_, by simp, fun hf o => by simp [hf]⟩
  · match o with
    | 0 => exact set_other (set_other (set_other (set_other (set_other (set_same h0) (by omega)) (by omega)) (by omega)) (by omega)) (by omega)
    | 1 => exact set_other (set_other (set_other (set_other (set_same (set_other h1 (by omega))) (by omega)) (by omega)) (by omega)) (by omega)
    | 2 => exact set_other (set_other (set_other (set_same (set_other (set_other h2 (by omega)) (by omega))) (by omega)) (by omega)) (by omega)
    | 3 => exact set_other (set_other (set_same (set_other (set_other (set_other h3 (by omega)) (by omega)) (by omega))) (by omega)) (by omega)
    | 4 => exact set_other (set_same (set_other (set_other (set_other (set_other h4 (by omega)) (by omega)) (by omega)) (by omega))) (by omega)
    | 5 => exact set_same (set_other (set_other (set_other (set_other (set_other h5 (by omega)) (by omega)) (by omega)) (by omega)) (by omega))
    | n + 6 =>
      have e : w.cell? ⟨b, n + 6, none⟩ = none := by rw [h]; rfl
      rw [put_apart (by omega), put_apart (by omega), put_apart (by omega), put_apart (by omega), put_apart (by omega), put_apart (by omega), e]
      rfl
  · repeat (refine Only.setCell ?_ (by simp) _)
    exact Only.refl _ _
end Go.Proofs.Ytkilepoimocoeaa
