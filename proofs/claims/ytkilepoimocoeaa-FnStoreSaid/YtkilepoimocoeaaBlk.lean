/- A block of cells that may be written. -/
import Derived.Test.YtkilepoimocoeaaOwn
namespace Go.Proofs.Ytkilepoimocoeaa
open Go.RowKit
set_option linter.unusedVariables false
/-- The block g holds A, and may be written. -/
structure Blk (w : World) (g : Nat) (A : Array Value) : Prop where
  hi : g < w.heap.size
  cell : ∀ o, w.cell? ⟨g, o, none⟩ = A[o]?
  fro : ∀ o, w.frozen? ⟨g, o, none⟩ = false
theorem Blk.keptB {w w' : World} {g B : Nat} {A : Array Value} (h : Blk w g A) (hb : Below B w w') (hB : g < B) : Blk w' g A := ⟨Nat.lt_of_lt_of_le h.hi hb.size, keepC hb hB h.cell, keepF hb hB h.fro⟩
theorem Blk.kept {w w' : World} {g : Nat} {A : Array Value} (h : Blk w g A) (hb : Below w.heap.size w w') : Blk w' g A := h.keptB hb h.hi
theorem Blk.only {w w' : World} {g : Nat} {A : Array Value} {S : Nat → Prop} (h : Blk w g A) (hb : Only S w w') (hs : ¬ S g) : Blk w' g A := ⟨Nat.lt_of_lt_of_le h.hi hb.size, fun o => (hb.cell h.hi hs).trans (h.cell o), fun o => (hb.frozen h.hi hs).trans (h.fro o)⟩
theorem Blk.set {w : World} {g : Nat} {A : Array Value} (h : Blk w g A) (i : Nat) (hi : i < A.size) (x : Value) : Blk (w.setCell ⟨g, i, none⟩ x) g (A.setIfInBounds i x) := by
  refine ⟨by simpa using h.hi, fun o => ?_, fun o => by rw [World.frozen?_setCell]; exact h.fro o⟩
  by_cases ho : o = i
  · subst ho
    rw [World.cell?_setCell_same _ _ _ ((h.cell o).trans (Array.getElem?_eq_getElem hi)), Array.getElem?_setIfInBounds_self_of_lt hi]
  · rw [World.cell?_setCell_other _ _ _ _ (by intro e; cases e; exact ho rfl), h.cell, Array.getElem?_setIfInBounds_ne (by omega)]
/-- Six cells of seven are written. -/
theorem Blk.six {w : World} {g : Nat} {y0 y1 y2 y3 y4 y5 y6 : Value} (h : Blk w g #[y0, y1, y2, y3, y4, y5, y6]) (x0 x1 x2 x3 x4 x5 : Value) :
    ∃ X, (((((w.setCell ⟨g, 0, none⟩ x0).setCell ⟨g, 1, none⟩ x1).setCell ⟨g, 2, none⟩ x2).setCell ⟨g, 3, none⟩ x3).setCell ⟨g, 4, none⟩ x4).setCell ⟨g, 5, none⟩ x5 = X ∧ Blk X g #[x0, x1, x2, x3, x4, x5, y6] ∧ Only (fun k => k = g) w X ∧ X.heap.size = w.heap.size := by
  refine ⟨_, rfl, ?_, ?_, by simp⟩
  · have := (((((h.set 0 (by simp) x0).set 1 (by simp) x1).set 2 (by simp) x2).set 3 (by simp) x3).set 4 (by simp) x4).set 5 (by simp) x5
    simpa using this
  · repeat (refine Only.setCell ?_ (by simp) _)
    exact Only.refl _ _
end Go.Proofs.Ytkilepoimocoeaa
