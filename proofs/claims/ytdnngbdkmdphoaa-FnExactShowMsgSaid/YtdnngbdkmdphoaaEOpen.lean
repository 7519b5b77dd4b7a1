/- What the laws' arguments look like: messages. -/
import Derived.Test.YtdnngbdkmdphoaaGOpen
import Derived.Test.YtdnngbdkmdphoaaELaw
namespace Go.Proofs.Ytdnngbdkmdphoaa
open Go.ChangeShapes Go.WideShapes Go.ChangeAt Go.RowKit Go.Joins Go.Deep
set_option linter.unusedVariables false
theorem cells_EntryL : Try.prog.cellsOf 69 = 2 := by kernel_rfl
theorem cells_MsgL : Try.prog.cellsOf 24 = 10 := by kernel_rfl
theorem cells_ei : Try.prog.cellsOf 3 = 1 := by kernel_rfl
theorem cells_es : Try.prog.cellsOf 9 = 1 := by kernel_rfl
theorem cells_eb : Try.prog.cellsOf 4 = 1 := by kernel_rfl
theorem cells_er : Try.prog.cellsOf 22 = 1 := by kernel_rfl
theorem listE2 {α : Type} {cs : List α} (h : cs.length = 2) : ∃ c0 c1, cs = [c0, c1] := by
  match cs, h with
  | [c0, c1], _ => exact ⟨c0, c1, rfl⟩
theorem listE10 {α : Type} {cs : List α} (h : cs.length = 10) : ∃ c0 c1 c2 c3 c4 c5 c6 c7 c8 c9, cs = [c0, c1, c2, c3, c4, c5, c6, c7, c8, c9] := by
  match cs, h with
  | [c0, c1, c2, c3, c4, c5, c6, c7, c8, c9], _ => exact ⟨c0, c1, c2, c3, c4, c5, c6, c7, c8, c9, rfl⟩
section
variable {H : Type} {enc : TypeId × Value → H} {W : World} {sp : Nat → Bool} {held : Bool}
theorem entry_cells {fuel : Nat} {cs : List Value} {x : DataW H × List MemPlace} (h : DataW.trod enc Try.prog W 0 sp held fuel 69 cs = some x) : ∃ a : En, cs = enE.c a ∧ EnW a := by
  obtain ⟨xs, n, _, rfl, hl, hlen, hf⟩ := DataW.trod_struct Try.underlying69 h
  rw [cells_EntryL] at hl
  obtain ⟨c0, c1, rfl⟩ := listE2 hl
  have hlen' : xs.length = 2 := by simpa using hlen
  obtain ⟨y0, y1, rfl⟩ := listE2 hlen'
  have h0 := hf 0 _ rfl
  have h1 := hf 1 _ rfl
  simp [cells_ei, cells_es] at h0 h1
  obtain ⟨x0, e0, _⟩ := DataW.trod_int Try.underlying3 h0
  obtain ⟨d, e1, _, hd⟩ := DataW.trod_string Try.underlying9 h1
  simp only [List.cons.injEq, and_true] at e0 e1
  subst e0 e1
  exact ⟨⟨x0, d⟩, rfl, hd⟩
theorem open_entryRow {fuel : Nat} {c : Value} {x : DataW H × List MemPlace} (h : DataW.trod enc Try.prog W 0 sp held fuel 22 [c] = some x) : ∃ L : List En, Row enE W W.heap.size c L ∧ ∀ a ∈ L, EnW a :=
  open_row enE _ Try.underlying22 cells_EntryL (fun _ _ _ h => entry_cells h) h
theorem msg_cells {fuel : Nat} {cs : List Value} {x : DataW H × List MemPlace} (h : DataW.trod enc Try.prog W 0 sp held fuel 24 cs = some x) : ∃ (a : Ms) (v : Value), cs = (msA a v).toList ∧ Row enE W W.heap.size v a.es ∧ MsW a := by
  obtain ⟨xs, n, _, rfl, hl, hlen, hf⟩ := DataW.trod_struct Try.underlying24 h
  rw [cells_MsgL] at hl
  obtain ⟨c0, c1, c2, c3, c4, c5, c6, c7, c8, c9, rfl⟩ := listE10 hl
  have hlen' : xs.length = 10 := by simpa using hlen
  obtain ⟨y0, y1, y2, y3, y4, y5, y6, y7, y8, y9, rfl⟩ := listE10 hlen'
  have h0 := hf 0 _ rfl
  have h1 := hf 1 _ rfl
  have h2 := hf 2 _ rfl
  have h3 := hf 3 _ rfl
  have h4 := hf 4 _ rfl
  have h5 := hf 5 _ rfl
  have h6 := hf 6 _ rfl
  have h7 := hf 7 _ rfl
  have h8 := hf 8 _ rfl
  have h9 := hf 9 _ rfl
  simp [cells_ei, cells_es, cells_eb, cells_er] at h0 h1 h2 h3 h4 h5 h6 h7 h8 h9
  obtain ⟨x0, e0, _⟩ := DataW.trod_int Try.underlying3 h0
  obtain ⟨x1, e1, _⟩ := DataW.trod_int Try.underlying3 h1
  obtain ⟨x2, e2, _⟩ := DataW.trod_int Try.underlying3 h2
  obtain ⟨x3, e3, _⟩ := DataW.trod_int Try.underlying3 h3
  obtain ⟨x4, e4, _⟩ := DataW.trod_int Try.underlying3 h4
  obtain ⟨x5, e5, _⟩ := DataW.trod_int Try.underlying3 h5
  obtain ⟨x6, e6, _⟩ := DataW.trod_int Try.underlying3 h6
  obtain ⟨x7, e7, _⟩ := DataW.trod_bool Try.underlying4 h7
  obtain ⟨L, hr, hw⟩ := open_entryRow h8
  obtain ⟨d, e9, _, hd⟩ := DataW.trod_string Try.underlying9 h9
  simp only [List.cons.injEq, and_true] at e0 e1 e2 e3 e4 e5 e6 e7 e9
  subst e0 e1 e2 e3 e4 e5 e6 e7 e9
  exact ⟨⟨x0, x1, x2, x3, x4, x5, x6, x7, L, d⟩, c8, rfl, hr, ⟨hw, hd⟩⟩
set_option maxRecDepth 100000 in
theorem open_Msg {r0 : Go.Reach} {b0 : Nat} {v : Value} {d : DataW H} {p : List MemPlace} (hval : Value.okWide Try.prog W r0 b0 24 v) (h : DataW.Trod enc Try.prog W 0 sp held 24 v d p) : ∃ (a : Ms) (u : Value), v = msV a u ∧ Row enE W W.heap.size u a.es ∧ MsW a := by
  obtain ⟨cs, rfl, hsz⟩ := okWide_struct Try.underlying24 hval
  obtain ⟨fuel, hf⟩ := h
  obtain ⟨a, u, hr, hd⟩ := msg_cells hf
  refine ⟨a, u, ?_, hd⟩
  have e : cs.toList = (msA a u).toList := by simpa [Value.cells] using hr
  rw [msV, ← Array.toArray_toList (xs := cs), e]
end
end Go.Proofs.Ytdnngbdkmdphoaa
