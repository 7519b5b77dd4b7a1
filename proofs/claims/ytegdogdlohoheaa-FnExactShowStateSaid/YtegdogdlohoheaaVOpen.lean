/- What the laws' arguments look like: volumes. -/
import Derived.Test.YtegdogdlohoheaaGOpen
import Derived.Test.YtegdogdlohoheaaVImpF
namespace Go.Proofs.Ytegdogdlohoheaa
open Go.ChangeShapes Go.WideShapes Go.ChangeAt Go.RowKit Go.Joins Go.Deep
set_option linter.unusedVariables false
theorem cells_i : Try.prog.cellsOf 3 = 1 := by kernel_rfl
theorem cells_s : Try.prog.cellsOf 9 = 1 := by kernel_rfl
theorem cells_Dirent : Try.prog.cellsOf 181 = 2 := by kernel_rfl
theorem cells_DirentS : Try.prog.cellsOf 161 = 1 := by kernel_rfl
theorem cells_Inode : Try.prog.cellsOf 163 = 9 := by kernel_rfl
theorem cells_InodeS : Try.prog.cellsOf 73 = 1 := by kernel_rfl
theorem cells_Vol : Try.prog.cellsOf 75 = 2 := by kernel_rfl
section
variable {H : Type} {enc : TypeId × Value → H} {W : World} {sp : Nat → Bool} {held : Bool}
theorem dirent_cells {fuel : Nat} {cs : List Value} {x : DataW H × List MemPlace} (h : DataW.trod enc Try.prog W 0 sp held fuel 181 cs = some x) : ∃ a : Di, cs = diE.c a ∧ (a.nm.size ≤ 9223372036854775807 ∧ (Lit.int .i64 a.id).wf = true) := by
  obtain ⟨xs, n, _, rfl, hl, hlen, hf⟩ := DataW.trod_struct Try.underlying181 h
  rw [cells_Dirent] at hl
  obtain ⟨c0, c1, rfl⟩ := list2 hl
  have hlen' : xs.length = 2 := by simpa using hlen
  obtain ⟨y0, y1, rfl⟩ := list2 hlen'
  have h0 := hf 0 _ rfl
  have h1 := hf 1 _ rfl
  simp [cells_i, cells_s] at h0 h1
  obtain ⟨d, e0, _, hd⟩ := DataW.trod_string Try.underlying9 h0
  obtain ⟨t, e1, _, hwf⟩ := DataW.trod_int Try.underlying3 h1
  simp only [List.cons.injEq, and_true] at e0 e1
  subst e0 e1
  exact ⟨⟨d, t⟩, rfl, hd, hwf⟩
theorem open_DirentS {fuel : Nat} {c : Value} {x : DataW H × List MemPlace} (h : DataW.trod enc Try.prog W 0 sp held fuel 161 [c] = some x) : ∃ L : List Di, Row diE W W.heap.size c L ∧ ∀ a ∈ L, (a.nm.size ≤ 9223372036854775807 ∧ (Lit.int .i64 a.id).wf = true) :=
  open_row diE _ Try.underlying161 cells_Dirent (fun _ _ _ h => dirent_cells h) h
theorem inode_cells {fuel : Nat} {cs : List Value} {x : DataW H × List MemPlace} (h : DataW.trod enc Try.prog W 0 sp held fuel 163 cs = some x) :
    ∃ p : Np, cs = ndE.c p ∧ (NdW p.n ∧ Row diE W W.heap.size p.v p.n.names) := by
  obtain ⟨xs, n, _, rfl, hl, hlen, hf⟩ := DataW.trod_struct Try.underlying163 h
  rw [cells_Inode] at hl
  obtain ⟨c0, c1, c2, c3, c4, c5, c6, c7, c8, rfl⟩ := list9 hl
  have hlen' : xs.length = 9 := by simpa using hlen
  obtain ⟨y0, y1, y2, y3, y4, y5, y6, y7, y8, rfl⟩ := list9 hlen'
  have h0 := hf 0 _ rfl
  have h1 := hf 1 _ rfl
  have h2 := hf 2 _ rfl
  have h3 := hf 3 _ rfl
  have h4 := hf 4 _ rfl
  have h5 := hf 5 _ rfl
  have h6 := hf 6 _ rfl
  have h7 := hf 7 _ rfl
  have h8 := hf 8 _ rfl
  simp [cells_i, cells_s, cells_DirentS] at h0 h1 h2 h3 h4 h5 h6 h7 h8
  obtain ⟨x0, e0, _⟩ := DataW.trod_int Try.underlying3 h0
  obtain ⟨x1, e1, _⟩ := DataW.trod_int Try.underlying3 h1
  obtain ⟨x2, e2, _⟩ := DataW.trod_int Try.underlying3 h2
  obtain ⟨x3, e3, _⟩ := DataW.trod_int Try.underlying3 h3
  obtain ⟨x4, e4, _⟩ := DataW.trod_int Try.underlying3 h4
  obtain ⟨x5, e5, _, hd⟩ := DataW.trod_string Try.underlying9 h5
  obtain ⟨x7, e7, _⟩ := DataW.trod_int Try.underlying3 h7
  obtain ⟨x8, e8, _⟩ := DataW.trod_int Try.underlying3 h8
  simp only [List.cons.injEq, and_true] at e0 e1 e2 e3 e4 e5 e7 e8
  subst e0 e1 e2 e3 e4 e5 e7 e8
  obtain ⟨L, hL, hz⟩ := open_DirentS h6
  obtain ⟨a, cap, rfl, _⟩ := hL.slice
  exact ⟨⟨⟨x0, x1, x2, x3, x4, x5, L, x7, x8⟩, a, cap⟩, rfl, ⟨⟨hd, fun e he => (hz e he).1⟩, fun e he => (hz e he).2⟩, hL⟩
theorem open_InodeS {fuel : Nat} {c : Value} {x : DataW H × List MemPlace} (h : DataW.trod enc Try.prog W 0 sp held fuel 73 [c] = some x) : ∃ L : List Np, VolR W W.heap.size c L ∧ ∀ p ∈ L, NdW p.n := by
  obtain ⟨L, hL, hp⟩ := open_row ndE _ Try.underlying73 cells_Inode (fun _ _ _ h => inode_cells h) h
  exact ⟨L, ⟨hL, fun p h => (hp p h).2⟩, fun p h => (hp p h).1⟩
theorem vol_cells {fuel : Nat} {cs : List Value} {x : DataW H × List MemPlace} (h : DataW.trod enc Try.prog W 0 sp held fuel 75 cs = some x) :
    ∃ (next : Int) (u : Value) (L : List Np), cs = [.int .i64 next, u] ∧ VolR W W.heap.size u L ∧ ∀ p ∈ L, NdW p.n := by
  obtain ⟨xs, n, _, rfl, hl, hlen, hf⟩ := DataW.trod_struct Try.underlying75 h
  rw [cells_Vol] at hl
  obtain ⟨c0, c1, rfl⟩ := list2 hl
  have hlen' : xs.length = 2 := by simpa using hlen
  obtain ⟨y0, y1, rfl⟩ := list2 hlen'
  have h0 := hf 0 _ rfl
  have h1 := hf 1 _ rfl
  simp [cells_i, cells_InodeS] at h0 h1
  obtain ⟨t, e0, _⟩ := DataW.trod_int Try.underlying3 h0
  simp only [List.cons.injEq, and_true] at e0
  subst e0
  obtain ⟨L, hL, hz⟩ := open_InodeS h1
  exact ⟨t, c1, L, rfl, hL, hz⟩
set_option maxRecDepth 100000 in
theorem open_Vol {r0 : Go.Reach} {b0 : Nat} {v : Value} {d : DataW H} {p : List MemPlace} (hval : Value.okWide Try.prog W r0 b0 75 v) (h : DataW.Trod enc Try.prog W 0 sp held 75 v d p) :
    ∃ (next : Int) (u : Value) (L : List Np), v = volV next u ∧ VolR W W.heap.size u L ∧ ∀ p ∈ L, NdW p.n := by
  obtain ⟨cs, rfl, hsz⟩ := okWide_struct Try.underlying75 hval
  obtain ⟨fuel, hf⟩ := h
  obtain ⟨next, u, L, hr, h1⟩ := vol_cells hf
  refine ⟨next, u, L, ?_, h1⟩
  have e : cs.toList = [.int .i64 next, u] := by simpa [Value.cells] using hr
  rw [volV, ← Array.toArray_toList (xs := cs), e]
end
end Go.Proofs.Ytegdogdlohoheaa
