/- A block that is stored over, cell by cell. -/
import Derived.Test.YtmkegmndcbpblaaGreatDoorGRow
namespace Go.Proofs.YtmkegmndcbpblaaGreatDoor
open Go.RowKit
set_option linter.unusedVariables false
theorem setC_out (g : Nat) (us : List Value) : ∀ (u : World) (o q : Nat), (q < o ∨ o + us.length ≤ q) → (setC u g o us).cell? ⟨g, q, none⟩ = u.cell? ⟨g, q, none⟩ := by
 induction us with
 | nil => intro u o q _; rfl
 | cons x us ih =>
  intro u o q h
  simp only [List.length_cons] at h
  rw [setC, ih _ _ _ (by omega)]
  exact World.cell?_setCell_other _ _ _ _ (by intro e; simp at e <;> omega)
theorem setC_in (g : Nat) (us : List Value) : ∀ (u : World) (o q : Nat), o ≤ q → q < o + us.length → (u.cell? ⟨g, q, none⟩).isSome = true → (setC u g o us).cell? ⟨g, q, none⟩ = us[q - o]? := by
 induction us with
 | nil => intro u o q h1 h2; simp at h2; omega
 | cons x us ih =>
  intro u o q h1 h2 h3
  simp only [List.length_cons] at h2
  rw [setC]
  by_cases hq : q = o
  ·subst hq
   rw [setC_out g us _ _ _ (by omega)]
   obtain ⟨y, hy⟩ := Option.isSome_iff_exists.1 h3
   simp [go_sem, hy]
  ·have e : (u.setCell ⟨g, o, none⟩ x).cell? ⟨g, q, none⟩ = u.cell? ⟨g, q, none⟩ := World.cell?_setCell_other _ _ _ _ (by intro e; simp at e <;> omega)
   rw [ih _ _ _ (by omega) (by omega) (by rw [e]; exact h3)]
   obtain ⟨d, hd⟩ : ∃ d, q - o = d + 1 := ⟨q - o - 1, by omega⟩
   rw [hd, List.getElem?_cons_succ]
   congr 1; omega
theorem setC_frozen (g : Nat) (us : List Value) : ∀ (u : World) (o q : Nat), (setC u g o us).frozen? ⟨g, q, none⟩ = u.frozen? ⟨g, q, none⟩ := by
 induction us with
 | nil => intro u o q; rfl
 | cons x us ih => intro u o q; rw [setC, ih]; simp
theorem setC_size (g : Nat) (us : List Value) : ∀ (u : World) (o : Nat), (setC u g o us).heap.size = u.heap.size := by
 induction us with
 | nil => intro u o; rfl
 | cons x us ih => intro u o; rw [setC, ih]; simp
theorem Blk.all {u : World} {g : Nat} {A : Array Value} (h : Blk u g A) (xs : List Value) (hx : xs.length = A.size) : Blk (setC u g 0 xs) g xs.toArray := by
 refine ⟨by rw [setC_size]; exact h.hi, fun q => ?_, fun q => by rw [setC_frozen]; exact h.fro q⟩
 by_cases hq : q < A.size
 ·rw [setC_in _ _ _ _ _ (by omega) (by omega) (by rw [h.cell]; simp [hq])]; simp
 ·rw [setC_out _ _ _ _ _ (by omega), h.cell, Array.getElem?_eq_none (by omega), Array.getElem?_eq_none (by simp; omega)]
theorem only_setC (u : World) (g o : Nat) (us : List Value) : Only (fun k => k = g) u (setC u g o us) := by
 refine Only.setC ?_ us o ?_
 ·rfl
 ·exact Only.refl _ _
end Go.Proofs.YtmkegmndcbpblaaGreatDoor
