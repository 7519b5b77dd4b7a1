/- What the laws' arguments look like: tenants. -/
import Derived.Test.YtegdogdlohoheaaVOpen
import Derived.Test.YtegdogdlohoheaaXOpenN
import Derived.Test.YtegdogdlohoheaaXTen
namespace Go.Proofs.Ytegdogdlohoheaa
open Go.ChangeShapes Go.WideShapes Go.ChangeAt Go.RowKit Go.Joins Go.Deep
set_option linter.unusedVariables false
theorem cells_Session : Try.prog.cellsOf 145 = 5 := by kernel_rfl
theorem cells_NoteS : Try.prog.cellsOf 76 = 1 := by kernel_rfl
theorem cells_SessionS : Try.prog.cellsOf 77 = 1 := by kernel_rfl
theorem cells_Tenant : Try.prog.cellsOf 79 = 5 := by kernel_rfl
theorem list4 {α : Type} {cs : List α} (h : cs.length = 4) : ∃ c0 c1 c2 c3, cs = [c0, c1, c2, c3] := by
  match cs, h with
  | [c0, c1, c2, c3], _ => exact ⟨c0, c1, c2, c3, rfl⟩
section
variable {H : Type} {enc : TypeId × Value → H} {W : World} {sp : Nat → Bool} {held : Bool}
theorem ses_cells {fuel : Nat} {cs : List Value} {x : DataW H × List MemPlace} (h : DataW.trod enc Try.prog W 0 sp held fuel 145 cs = some x) : ∃ a : Se, cs = seE.c a ∧ a.r.d.size ≤ 9223372036854775807 := by
  obtain ⟨xs, n, _, rfl, hl, hlen, hf⟩ := DataW.trod_struct Try.underlying145 h
  rw [cells_Session] at hl
  obtain ⟨c0, c1, c2, c3, c4, rfl⟩ := list5 hl
  have hlen' : xs.length = 4 := by simpa using hlen
  obtain ⟨y0, y1, y2, y3, rfl⟩ := list4 hlen'
  have h0 := hf 0 _ rfl
  have h1 := hf 1 _ rfl
  have h2 := hf 2 _ rfl
  have h3 := hf 3 _ rfl
  simp [cells_ni, cells_Result] at h0 h1 h2 h3
  obtain ⟨x0, e0, _⟩ := DataW.trod_int Try.underlying3 h0
  obtain ⟨x1, e1, _⟩ := DataW.trod_int Try.underlying3 h1
  obtain ⟨x2, e2, _⟩ := DataW.trod_int Try.underlying3 h2
  obtain ⟨r, e3, hr⟩ := res_cells h3
  simp only [List.cons.injEq, and_true] at e0 e1 e2 e3
  obtain ⟨e3, e4⟩ := e3
  subst e0 e1 e2 e3 e4
  exact ⟨⟨x0, x1, x2, r⟩, rfl, hr⟩
theorem open_noteRow {fuel : Nat} {c : Value} {x : DataW H × List MemPlace} (h : DataW.trod enc Try.prog W 0 sp held fuel 76 [c] = some x) : ∃ L : List Nt, Row ntE W W.heap.size c L ∧ ∀ a ∈ L, True :=
  open_row ntE _ Try.underlying76 cells_Note (fun _ _ _ h => note_cells h) h
theorem open_sesRow {fuel : Nat} {c : Value} {x : DataW H × List MemPlace} (h : DataW.trod enc Try.prog W 0 sp held fuel 77 [c] = some x) : ∃ L : List Se, Row seE W W.heap.size c L ∧ ∀ a ∈ L, a.r.d.size ≤ 9223372036854775807 :=
  open_row seE _ Try.underlying77 cells_Session (fun _ _ _ h => ses_cells h) h
theorem tenant_cells {fuel : Nat} {cs : List Value} {x : DataW H × List MemPlace} (h : DataW.trod enc Try.prog W 0 sp held fuel 79 cs = some x) :
    ∃ t : Ten, cs = t.arr.toList ∧ TenR W W.heap.size t ∧ TenW t := by
  obtain ⟨xs, n, _, rfl, hl, hlen, hf⟩ := DataW.trod_struct Try.underlying79 h
  rw [cells_Tenant] at hl
  obtain ⟨c0, c1, c2, c3, c4, rfl⟩ := list5 hl
  have hlen' : xs.length = 4 := by simpa using hlen
  obtain ⟨y0, y1, y2, y3, rfl⟩ := list4 hlen'
  have h0 := hf 0 _ rfl
  have h1 := hf 1 _ rfl
  have h2 := hf 2 _ rfl
  have h3 := hf 3 _ rfl
  simp [cells_ni, cells_Vol, cells_NoteS, cells_SessionS] at h0 h1 h2 h3
  obtain ⟨nx, u, L, e0, hL, hw⟩ := vol_cells h0
  obtain ⟨tk, e1, _⟩ := DataW.trod_int Try.underlying3 h1
  obtain ⟨A, hA, _⟩ := open_noteRow h2
  obtain ⟨S, hS, hd⟩ := open_sesRow h3
  simp only [List.cons.injEq, and_true] at e0 e1
  obtain ⟨e0, e00⟩ := e0
  subst e0 e00 e1
  obtain ⟨ua, uc, rfl, _⟩ := hL.row.slice
  obtain ⟨aa, ac, rfl, _⟩ := hA.slice
  obtain ⟨sa, sc, rfl, _⟩ := hS.slice
  exact ⟨⟨nx, L, ua, uc, tk, A, aa, ac, S, sa, sc⟩, rfl, ⟨hL, hA, hS⟩, ⟨hw, hd⟩⟩
set_option maxRecDepth 100000 in
theorem open_Tenant {r0 : Go.Reach} {b0 : Nat} {v : Value} {d : DataW H} {p : List MemPlace} (hval : Value.okWide Try.prog W r0 b0 79 v) (h : DataW.Trod enc Try.prog W 0 sp held 79 v d p) :
    ∃ t : Ten, v = t.v ∧ TenR W W.heap.size t ∧ TenW t := by
  obtain ⟨cs, rfl, hsz⟩ := okWide_struct Try.underlying79 hval
  obtain ⟨fuel, hf⟩ := h
  obtain ⟨t, hr, h1⟩ := tenant_cells hf
  refine ⟨t, ?_, h1⟩
  have e : cs.toList = t.arr.toList := by simpa [Value.cells] using hr
  rw [Ten.v, ← Array.toArray_toList (xs := cs), e]
end
end Go.Proofs.Ytegdogdlohoheaa
