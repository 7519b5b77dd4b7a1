/- What the laws' arguments look like: creds, inodes. -/
import Derived.Test.YtbbckkdinlladaaGOpen
import Derived.Test.YtbbckkdinlladaaPMath
namespace Go.Proofs.Ytbbckkdinlladaa
open Go.ChangeShapes Go.WideShapes Go.ChangeAt Go.RowKit Go.Joins Go.Deep
set_option linter.unusedVariables false
theorem cells_i : Try.prog.cellsOf 3 = 1 := by kernel_rfl
theorem cells_s : Try.prog.cellsOf 9 = 1 := by kernel_rfl
theorem cells_IntS : Try.prog.cellsOf 24 = 1 := by kernel_rfl
theorem cells_Cred : Try.prog.cellsOf 36 = 3 := by kernel_rfl
theorem cells_Dirent : Try.prog.cellsOf 76 = 2 := by kernel_rfl
theorem cells_DirentS : Try.prog.cellsOf 43 = 1 := by kernel_rfl
theorem cells_Inode : Try.prog.cellsOf 45 = 9 := by kernel_rfl
section
variable {H : Type} {enc : TypeId × Value → H} {W : World} {sp : Nat → Bool} {held : Bool}
theorem int_cells {fuel : Nat} {cs : List Value} {x : DataW H × List MemPlace} (h : DataW.trod enc Try.prog W 0 sp held fuel 3 cs = some x) : ∃ a : Int, cs = intE.c a ∧ True := by
  obtain ⟨k, e0, _⟩ := DataW.trod_int Try.underlying3 h
  exact ⟨k, e0, trivial⟩
theorem open_IntS {fuel : Nat} {c : Value} {x : DataW H × List MemPlace} (h : DataW.trod enc Try.prog W 0 sp held fuel 24 [c] = some x) : ∃ L : List Int, Row intE W W.heap.size c L := by
  obtain ⟨L, hL, _⟩ := open_row intE (fun _ => True) Try.underlying24 cells_i (fun _ _ _ h => int_cells h) h
  exact ⟨L, hL⟩
theorem dirent_cells {fuel : Nat} {cs : List Value} {x : DataW H × List MemPlace} (h : DataW.trod enc Try.prog W 0 sp held fuel 76 cs = some x) : ∃ a : Di, cs = diE.c a ∧ a.nm.size ≤ 9223372036854775807 := by
  obtain ⟨xs, n, _, rfl, hl, hlen, hf⟩ := DataW.trod_struct Try.underlying76 h
  rw [cells_Dirent] at hl
  obtain ⟨c0, c1, rfl⟩ := list2 hl
  have hlen' : xs.length = 2 := by simpa using hlen
  obtain ⟨y0, y1, rfl⟩ := list2 hlen'
  have h0 := hf 0 _ rfl
  have h1 := hf 1 _ rfl
  simp [cells_i, cells_s] at h0 h1
  obtain ⟨d, e0, _, hd⟩ := DataW.trod_string Try.underlying9 h0
  obtain ⟨t, e1, _⟩ := DataW.trod_int Try.underlying3 h1
  simp only [List.cons.injEq, and_true] at e0 e1
  subst e0 e1
  exact ⟨⟨d, t⟩, rfl, hd⟩
theorem open_DirentS {fuel : Nat} {c : Value} {x : DataW H × List MemPlace} (h : DataW.trod enc Try.prog W 0 sp held fuel 43 [c] = some x) : ∃ L : List Di, Row diE W W.heap.size c L ∧ ∀ a ∈ L, a.nm.size ≤ 9223372036854775807 :=
  open_row diE _ Try.underlying43 cells_Dirent (fun _ _ _ h => dirent_cells h) h
theorem cred_cells {fuel : Nat} {cs : List Value} {x : DataW H × List MemPlace} (h : DataW.trod enc Try.prog W 0 sp held fuel 36 cs = some x) :
    ∃ (c : Cr) (v : Value), cs = [.int .i64 c.u, .int .i64 c.g, v] ∧ Row intE W W.heap.size v c.l := by
  obtain ⟨xs, n, _, rfl, hl, hlen, hf⟩ := DataW.trod_struct Try.underlying36 h
  rw [cells_Cred] at hl
  obtain ⟨c0, c1, c2, rfl⟩ := list3 hl
  have hlen' : xs.length = 3 := by simpa using hlen
  obtain ⟨y0, y1, y2, rfl⟩ := list3 hlen'
  have h0 := hf 0 _ rfl
  have h1 := hf 1 _ rfl
  have h2 := hf 2 _ rfl
  simp [cells_i, cells_IntS] at h0 h1 h2
  obtain ⟨t, e0, _⟩ := DataW.trod_int Try.underlying3 h0
  obtain ⟨g, e1, _⟩ := DataW.trod_int Try.underlying3 h1
  simp only [List.cons.injEq, and_true] at e0 e1
  subst e0 e1
  obtain ⟨L, hL⟩ := open_IntS h2
  exact ⟨⟨t, g, L⟩, c2, rfl, hL⟩
set_option maxRecDepth 100000 in
theorem open_Cred {r0 : Reach} {b0 : Nat} {v : Value} {d : DataW H} {p : List MemPlace} (hval : Value.okWide Try.prog W r0 b0 36 v) (h : DataW.Trod enc Try.prog W 0 sp held 36 v d p) :
    ∃ (c : Cr) (u : Value), v = crV c u ∧ Row intE W W.heap.size u c.l := by
  obtain ⟨cs, rfl, hsz⟩ := okWide_struct Try.underlying36 hval
  obtain ⟨fuel, hf⟩ := h
  obtain ⟨c, u, hr, h1⟩ := cred_cells hf
  refine ⟨c, u, ?_, h1⟩
  have e : cs.toList = [.int .i64 c.u, .int .i64 c.g, u] := by simpa [Value.cells] using hr
  rw [crV, ← Array.toArray_toList (xs := cs), e]
theorem inode_cells {fuel : Nat} {cs : List Value} {x : DataW H × List MemPlace} (h : DataW.trod enc Try.prog W 0 sp held fuel 45 cs = some x) :
    ∃ (n : Nd) (v : Value), cs = (ndA n v).toList ∧ n.data.size ≤ 9223372036854775807 ∧ Row diE W W.heap.size v n.names ∧ ∀ a ∈ n.names, a.nm.size ≤ 9223372036854775807 := by
  obtain ⟨xs, n, _, rfl, hl, hlen, hf⟩ := DataW.trod_struct Try.underlying45 h
  rw [cells_Inode] at hl
  obtain ⟨c0, c1, c2, c3, c4, c5, c6, c7, c8, rfl⟩ := list9 hl
  have hlen' : xs.length = 9 := by simpa using hlen
  obtain ⟨y0, y1, y2, y3, y4, y5, y6, y7, y8, rfl⟩ := list9 hlen'
  have h0 := hf 0 _ rfl
  have h1 := hf 1 _ rfl
  have h2 := hf 2 _ rfl
  have h3 := hf 3 _ rfl
  have h4 := hf 4 _ rfl
  have h5 := hf 5 _ rfl
  have h6 := hf 6 _ rfl
  have h7 := hf 7 _ rfl
  have h8 := hf 8 _ rfl
  simp [cells_i, cells_s, cells_DirentS] at h0 h1 h2 h3 h4 h5 h6 h7 h8
  obtain ⟨x0, e0, _⟩ := DataW.trod_int Try.underlying3 h0
  obtain ⟨x1, e1, _⟩ := DataW.trod_int Try.underlying3 h1
  obtain ⟨x2, e2, _⟩ := DataW.trod_int Try.underlying3 h2
  obtain ⟨x3, e3, _⟩ := DataW.trod_int Try.underlying3 h3
  obtain ⟨x4, e4, _⟩ := DataW.trod_int Try.underlying3 h4
  obtain ⟨x5, e5, _, hd⟩ := DataW.trod_string Try.underlying9 h5
  obtain ⟨x7, e7, _⟩ := DataW.trod_int Try.underlying3 h7
  obtain ⟨x8, e8, _⟩ := DataW.trod_int Try.underlying3 h8
  simp only [List.cons.injEq, and_true] at e0 e1 e2 e3 e4 e5 e7 e8
  subst e0 e1 e2 e3 e4 e5 e7 e8
  obtain ⟨L, hL, hz⟩ := open_DirentS h6
  exact ⟨⟨x0, x1, x2, x3, x4, x5, L, x7, x8⟩, c6, rfl, hd, hL, hz⟩
set_option maxRecDepth 100000 in
theorem open_Inode {r0 : Reach} {b0 : Nat} {v : Value} {d : DataW H} {p : List MemPlace} (hval : Value.okWide Try.prog W r0 b0 45 v) (h : DataW.Trod enc Try.prog W 0 sp held 45 v d p) :
    ∃ (n : Nd) (u : Value), v = ndV n u ∧ n.data.size ≤ 9223372036854775807 ∧ Row diE W W.heap.size u n.names ∧ ∀ a ∈ n.names, a.nm.size ≤ 9223372036854775807 := by
  obtain ⟨cs, rfl, hsz⟩ := okWide_struct Try.underlying45 hval
  obtain ⟨fuel, hf⟩ := h
  obtain ⟨c, u, hr, h1⟩ := inode_cells hf
  refine ⟨c, u, ?_, h1⟩
  have e : cs.toList = (ndA c u).toList := by simpa [Value.cells] using hr
  rw [ndV, ← Array.toArray_toList (xs := cs), e]
end
end Go.Proofs.Ytbbckkdinlladaa
