/- What the laws' arguments look like: slots. -/
import Derived.Test.YtediilplhjbnpaaGOpen
import Derived.Test.YtediilplhjbnpaaFLawS
namespace Go.Proofs.Ytediilplhjbnpaa
open Go.ChangeShapes Go.WideShapes Go.ChangeAt Go.RowKit Go.Joins Go.Deep
set_option linter.unusedVariables false
theorem cells_Slot : Try.prog.cellsOf 25 = 9 := by kernel_rfl
theorem cells_fi : Try.prog.cellsOf 3 = 1 := by kernel_rfl
theorem listF4 {α : Type} {cs : List α} (h : cs.length = 4) : ∃ c0 c1 c2 c3, cs = [c0, c1, c2, c3] := by
  match cs, h with
  | [c0, c1, c2, c3], _ => exact ⟨c0, c1, c2, c3, rfl⟩
theorem listF9 {α : Type} {cs : List α} (h : cs.length = 9) : ∃ c0 c1 c2 c3 c4 c5 c6 c7 c8, cs = [c0, c1, c2, c3, c4, c5, c6, c7, c8] := by
  match cs, h with
  | [c0, c1, c2, c3, c4, c5, c6, c7, c8], _ => exact ⟨c0, c1, c2, c3, c4, c5, c6, c7, c8, rfl⟩
section
variable {H : Type} {enc : TypeId × Value → H} {W : World} {sp : Nat → Bool} {held : Bool}
theorem slot_cells {fuel : Nat} {cs : List Value} {x : DataW H × List MemPlace} (h : DataW.trod enc Try.prog W 0 sp held fuel 25 cs = some x) : ∃ a : Sl, cs = slE.c a ∧ CaW a.x := by
  obtain ⟨xs, n, _, rfl, hl, hlen, hf⟩ := DataW.trod_struct Try.underlying25 h
  rw [cells_Slot] at hl
  obtain ⟨c0, c1, c2, c3, c4, c5, c6, c7, c8, rfl⟩ := listF9 hl
  have hlen' : xs.length = 4 := by simpa using hlen
  obtain ⟨y0, y1, y2, y3, rfl⟩ := listF4 hlen'
  have h0 := hf 0 _ rfl
  have h1 := hf 1 _ rfl
  have h2 := hf 2 _ rfl
  have h3 := hf 3 _ rfl
  simp [cells_fi, tcells_Call] at h0 h1 h2 h3
  obtain ⟨x0, e0, _⟩ := DataW.trod_int Try.underlying3 h0
  obtain ⟨x1, e1, _⟩ := DataW.trod_int Try.underlying3 h1
  obtain ⟨x2, e2, _⟩ := DataW.trod_int Try.underlying3 h2
  obtain ⟨c, e3, hc⟩ := call_cells h3
  simp only [List.cons.injEq, and_true] at e0 e1 e2
  subst e0 e1 e2
  refine ⟨⟨x0, x1, x2, c⟩, ?_, hc⟩
  simp only [caC, List.cons.injEq, and_true] at e3
  obtain ⟨e3, e4, e5, e6, e7, e8⟩ := e3
  subst e3 e4 e5 e6 e7 e8
  rfl
theorem open_slotRow {fuel : Nat} {c : Value} {x : DataW H × List MemPlace} (h : DataW.trod enc Try.prog W 0 sp held fuel 33 [c] = some x) : ∃ L : List Sl, Row slE W W.heap.size c L ∧ ∀ a ∈ L, CaW a.x :=
  open_row slE _ Try.underlying33 cells_Slot (fun _ _ _ h => slot_cells h) h
set_option maxRecDepth 100000 in
theorem open_SlotS {r0 : Go.Reach} {b0 : Nat} {v : Value} {d : DataW H} {p : List MemPlace} (hval : Value.okWide Try.prog W r0 b0 33 v) (h : DataW.Trod enc Try.prog W 0 sp held 33 v d p) : ∃ L : List Sl, Row slE W W.heap.size v L ∧ ∀ a ∈ L, CaW a.x := by
  obtain ⟨fuel, hf⟩ := h
  obtain ⟨a, n, cap, rfl⟩ := okWide_slice Try.underlying33 hval
  exact open_slotRow (c := .slice a n cap) (by simpa [Value.cells] using hf)
set_option maxRecDepth 100000 in
theorem open_Slot {r0 : Go.Reach} {b0 : Nat} {v : Value} {d : DataW H} {p : List MemPlace} (hval : Value.okWide Try.prog W r0 b0 25 v) (h : DataW.Trod enc Try.prog W 0 sp held 25 v d p) : ∃ a : Sl, v = slV a ∧ CaW a.x := by
  obtain ⟨cs, rfl, hsz⟩ := okWide_struct Try.underlying25 hval
  obtain ⟨fuel, hf⟩ := h
  obtain ⟨a, hr, hd⟩ := slot_cells hf
  refine ⟨a, ?_, hd⟩
  have e : cs.toList = slE.c a := by simpa [Value.cells] using hr
  rw [slV, ← Array.toArray_toList (xs := cs), e]
  rfl
end
end Go.Proofs.Ytediilplhjbnpaa
