/- What the laws' arguments look like: creds, beside volumes. -/
import Derived.Test.YtmkegmndcbpblaaGreatDoorGRow
import Derived.ProofKit
import Derived.OpenShut
import Derived.ShutString
import Derived.ChangeOld
import Derived.Deep.Slices
import Derived.Test.YtmkegmndcbpblaaGreatDoorVImpF
import Derived.Test.YtmkegmndcbpblaaGreatDoorPMath
namespace Go.Proofs.YtmkegmndcbpblaaGreatDoor
open Go.ChangeShapes Go.WideShapes Go.ChangeAt Go.RowKit Go.Joins Go.Deep
set_option linter.unusedVariables false
theorem open_row {H : Type} {enc : TypeId × Value → H} {W : World} {sp : Nat → Bool} {held : Bool} {α : Type} (E : Enc α) (P : α → Prop) {TS Te : TypeId} (hu : Tryz.prog.underlying TS = some (.slice Te)) (hcl : Tryz.prog.cellsOf Te = E.n)
  (hel : ∀ fuel cs x, DataW.trod enc Tryz.prog W 0 sp held fuel Te cs = some x → ∃ a, cs = E.c a ∧ P a) {fuel : Nat} {c : Value} {x : DataW H × List MemPlace} (h : DataW.trod enc Tryz.prog W 0 sp held fuel TS [c] = some x) :
  ∃ L : List α, Row E W W.heap.size c L ∧ ∀ a ∈ L, P a := by
 rcases open_slice hu h with ⟨hc, _⟩ | ⟨a, len, cap, m, n, D, Pl, hc, _, hl, hm, hmm, _, hx⟩
 ·simp only [List.cons.injEq, and_true] at hc
  subst hc
  exact ⟨[], Row.nil, by simp⟩
 ·simp only [List.cons.injEq, and_true] at hc
  subst hc
  have hlm : len ≤ m := by rw [hmm]; split <;> omega
  have each : ∀ i, i < len → ∃ e : α, (∀ k, k < E.n → W.cell? (a.add (i * E.n + k)) = (E.c e)[k]?) ∧ P e := by
   intro i hi
   obtain ⟨cs, h1, h2⟩ := hx i (by omega)
   rw [hcl] at h1
   obtain ⟨e, rfl, hp⟩ := hel _ _ _ h2
   obtain ⟨_, hlen, hcell⟩ := World.cells?_some h1
   refine ⟨e, fun k hk => ?_, hp⟩
   have := hcell k hk
   rwa [Go.Deep.add_add] at this
  haveI : Inhabited α := ⟨E.z⟩
  obtain ⟨q, hq⟩ := choose_lt each
  have hll : ((List.range len).map q).length = len := by simp
  refine ⟨(List.range len).map q, ⟨some a, cap, by rw [hll], by rw [hll]; exact hl, hm, fun hL => ?_⟩, ?_⟩
  ·have hpos : 0 < len := by
    rcases Nat.eq_zero_or_pos len with h0 | h0
    ·subst h0; simp at hL
    ·exact h0
   obtain ⟨b, off, spot⟩ := a
   have h00 := (hq 0 hpos).1 0 E.pos
   have hsome : ∃ u, (E.c (q 0))[0]? = some u := ⟨_, List.getElem?_eq_getElem (by rw [E.len]; exact E.pos)⟩
   obtain ⟨u0, hu0⟩ := hsome
   rw [hu0] at h00
   have hspot : spot = none := by simpa [Addr.add] using World.cell?_spot h00
   subst hspot
   refine ⟨b, off, rfl, by simpa [Addr.add] using World.block_lt_of_cell? W _ h00, fun j hj k hk => ?_⟩
   rw [hll] at hj
   have hjq := (hq j hj).1 k hk
   rw [add_none, ← Nat.add_assoc] at hjq
   simp only [List.getElem_map, List.getElem_range]
   exact hjq
  ·intro e he
   simp only [List.mem_map, List.mem_range] at he
   obtain ⟨j, hj, rfl⟩ := he
   exact (hq j hj).2
theorem list1 {α : Type} {cs : List α} (h : cs.length = 1) : ∃ c0, cs = [c0] := by
 match cs, h with
 | [c0], _ => exact ⟨c0, rfl⟩
theorem list2 {α : Type} {cs : List α} (h : cs.length = 2) : ∃ c0 c1, cs = [c0, c1] := by
 match cs, h with
 | [c0, c1], _ => exact ⟨c0, c1, rfl⟩
theorem list3 {α : Type} {cs : List α} (h : cs.length = 3) : ∃ c0 c1 c2, cs = [c0, c1, c2] := by
 match cs, h with
 | [c0, c1, c2], _ => exact ⟨c0, c1, c2, rfl⟩
theorem list9 {α : Type} {cs : List α} (h : cs.length = 9) : ∃ c0 c1 c2 c3 c4 c5 c6 c7 c8, cs = [c0, c1, c2, c3, c4, c5, c6, c7, c8] := by
 match cs, h with
 | [c0, c1, c2, c3, c4, c5, c6, c7, c8], _ => exact ⟨c0, c1, c2, c3, c4, c5, c6, c7, c8, rfl⟩
end Go.Proofs.YtmkegmndcbpblaaGreatDoor
namespace Go.Proofs.YtmkegmndcbpblaaGreatDoor
open Go.ChangeShapes Go.WideShapes Go.ChangeAt Go.RowKit Go.Joins Go.Deep
set_option linter.unusedVariables false
theorem cells_i : Tryz.prog.cellsOf 3 = 1 := by kernel_rfl
theorem cells_s : Tryz.prog.cellsOf 9 = 1 := by kernel_rfl
theorem cells_Dirent : Tryz.prog.cellsOf 102 = 2 := by kernel_rfl
theorem cells_DirentS : Tryz.prog.cellsOf 58 = 1 := by kernel_rfl
theorem cells_Inode : Tryz.prog.cellsOf 60 = 9 := by kernel_rfl
theorem cells_InodeS : Tryz.prog.cellsOf 22 = 1 := by kernel_rfl
theorem cells_Vol : Tryz.prog.cellsOf 24 = 2 := by kernel_rfl
section
variable {H : Type} {enc : TypeId × Value → H} {W : World} {sp : Nat → Bool} {held : Bool}
theorem dirent_cells {fuel : Nat} {cs : List Value} {x : DataW H × List MemPlace} (h : DataW.trod enc Tryz.prog W 0 sp held fuel 102 cs = some x) : ∃ a : Di, cs = diE.c a ∧ (a.nm.size ≤ 9223372036854775807 ∧ (Lit.int .i64 a.id).wf = true) := by
 obtain ⟨xs, n, _, rfl, hl, hlen, hf⟩ := DataW.trod_struct Tryz.underlying102 h
 rw [cells_Dirent] at hl
 obtain ⟨c0, c1, rfl⟩ := list2 hl
 have hlen' : xs.length = 2 := by simpa using hlen
 obtain ⟨y0, y1, rfl⟩ := list2 hlen'
 have h0 := hf 0 _ rfl
 have h1 := hf 1 _ rfl
 simp [cells_i, cells_s] at h0 h1
 obtain ⟨d, e0, _, hd⟩ := DataW.trod_string Tryz.underlying9 h0
 obtain ⟨t, e1, _, hwf⟩ := DataW.trod_int Tryz.underlying3 h1
 simp only [List.cons.injEq, and_true] at e0 e1
 subst e0 e1
 exact ⟨⟨d, t⟩, rfl, hd, hwf⟩
theorem open_DirentS {fuel : Nat} {c : Value} {x : DataW H × List MemPlace} (h : DataW.trod enc Tryz.prog W 0 sp held fuel 58 [c] = some x) : ∃ L : List Di, Row diE W W.heap.size c L ∧ ∀ a ∈ L, (a.nm.size ≤ 9223372036854775807 ∧ (Lit.int .i64 a.id).wf = true) :=
 open_row diE _ Tryz.underlying58 cells_Dirent (fun _ _ _ h => dirent_cells h) h
theorem inode_cells {fuel : Nat} {cs : List Value} {x : DataW H × List MemPlace} (h : DataW.trod enc Tryz.prog W 0 sp held fuel 60 cs = some x) :
  ∃ p : Np, cs = ndE.c p ∧ (NdW p.n ∧ Row diE W W.heap.size p.v p.n.names) := by
 obtain ⟨xs, n, _, rfl, hl, hlen, hf⟩ := DataW.trod_struct Tryz.underlying60 h
 rw [cells_Inode] at hl
 obtain ⟨c0, c1, c2, c3, c4, c5, c6, c7, c8, rfl⟩ := list9 hl
 have hlen' : xs.length = 9 := by simpa using hlen
 obtain ⟨y0, y1, y2, y3, y4, y5, y6, y7, y8, rfl⟩ := list9 hlen'
 have h0 := hf 0 _ rfl
 have h1 := hf 1 _ rfl
 have h2 := hf 2 _ rfl
 have h3 := hf 3 _ rfl
 have h4 := hf 4 _ rfl
 have h5 := hf 5 _ rfl
 have h6 := hf 6 _ rfl
 have h7 := hf 7 _ rfl
 have h8 := hf 8 _ rfl
 simp [cells_i, cells_s, cells_DirentS] at h0 h1 h2 h3 h4 h5 h6 h7 h8
 obtain ⟨x0, e0, _⟩ := DataW.trod_int Tryz.underlying3 h0
 obtain ⟨x1, e1, _⟩ := DataW.trod_int Tryz.underlying3 h1
 obtain ⟨x2, e2, _⟩ := DataW.trod_int Tryz.underlying3 h2
 obtain ⟨x3, e3, _⟩ := DataW.trod_int Tryz.underlying3 h3
 obtain ⟨x4, e4, _⟩ := DataW.trod_int Tryz.underlying3 h4
 obtain ⟨x5, e5, _, hd⟩ := DataW.trod_string Tryz.underlying9 h5
 obtain ⟨x7, e7, _⟩ := DataW.trod_int Tryz.underlying3 h7
 obtain ⟨x8, e8, _⟩ := DataW.trod_int Tryz.underlying3 h8
 simp only [List.cons.injEq, and_true] at e0 e1 e2 e3 e4 e5 e7 e8
 subst e0 e1 e2 e3 e4 e5 e7 e8
 obtain ⟨L, hL, hz⟩ := open_DirentS h6
 obtain ⟨a, cap, rfl, _⟩ := hL.slice
 exact ⟨⟨⟨x0, x1, x2, x3, x4, x5, L, x7, x8⟩, a, cap⟩, rfl, ⟨⟨hd, fun e he => (hz e he).1⟩, fun e he => (hz e he).2⟩, hL⟩
theorem open_InodeS {fuel : Nat} {c : Value} {x : DataW H × List MemPlace} (h : DataW.trod enc Tryz.prog W 0 sp held fuel 22 [c] = some x) : ∃ L : List Np, VolR W W.heap.size c L ∧ ∀ p ∈ L, NdW p.n := by
 obtain ⟨L, hL, hp⟩ := open_row ndE _ Tryz.underlying22 cells_Inode (fun _ _ _ h => inode_cells h) h
 exact ⟨L, ⟨hL, fun p h => (hp p h).2⟩, fun p h => (hp p h).1⟩
theorem vol_cells {fuel : Nat} {cs : List Value} {x : DataW H × List MemPlace} (h : DataW.trod enc Tryz.prog W 0 sp held fuel 24 cs = some x) :
  ∃ (next : Int) (u : Value) (L : List Np), cs = [.int .i64 next, u] ∧ VolR W W.heap.size u L ∧ ∀ p ∈ L, NdW p.n := by
 obtain ⟨xs, n, _, rfl, hl, hlen, hf⟩ := DataW.trod_struct Tryz.underlying24 h
 rw [cells_Vol] at hl
 obtain ⟨c0, c1, rfl⟩ := list2 hl
 have hlen' : xs.length = 2 := by simpa using hlen
 obtain ⟨y0, y1, rfl⟩ := list2 hlen'
 have h0 := hf 0 _ rfl
 have h1 := hf 1 _ rfl
 simp [cells_i, cells_InodeS] at h0 h1
 obtain ⟨t, e0, _⟩ := DataW.trod_int Tryz.underlying3 h0
 simp only [List.cons.injEq, and_true] at e0
 subst e0
 obtain ⟨L, hL, hz⟩ := open_InodeS h1
 exact ⟨t, c1, L, rfl, hL, hz⟩
set_option maxRecDepth 100000 in
theorem open_Vol {r0 : Go.Reach} {b0 : Nat} {v : Value} {d : DataW H} {p : List MemPlace} (hval : Value.okWide Tryz.prog W r0 b0 24 v) (h : DataW.Trod enc Tryz.prog W 0 sp held 24 v d p) :
  ∃ (next : Int) (u : Value) (L : List Np), v = volV next u ∧ VolR W W.heap.size u L ∧ ∀ p ∈ L, NdW p.n := by
 obtain ⟨cs, rfl, hsz⟩ := okWide_struct Tryz.underlying24 hval
 obtain ⟨fuel, hf⟩ := h
 obtain ⟨next, u, L, hr, h1⟩ := vol_cells hf
 refine ⟨next, u, L, ?_, h1⟩
 have e : cs.toList = [.int .i64 next, u] := by simpa [Value.cells] using hr
 rw [volV, ← Array.toArray_toList (xs := cs), e]
end
end Go.Proofs.YtmkegmndcbpblaaGreatDoor
namespace Go.Proofs.YtmkegmndcbpblaaGreatDoor
open Go.ChangeShapes Go.WideShapes Go.ChangeAt Go.RowKit Go.Joins Go.Deep
set_option linter.unusedVariables false
theorem cells_IntS : Tryz.prog.cellsOf 25 = 1 := by kernel_rfl
theorem cells_Cred : Tryz.prog.cellsOf 27 = 3 := by kernel_rfl
section
variable {H : Type} {enc : TypeId × Value → H} {W : World} {sp : Nat → Bool} {held : Bool}
theorem int_cells {fuel : Nat} {cs : List Value} {x : DataW H × List MemPlace} (h : DataW.trod enc Tryz.prog W 0 sp held fuel 3 cs = some x) : ∃ a : Int, cs = intE.c a ∧ True := by
 obtain ⟨k, e0, _⟩ := DataW.trod_int Tryz.underlying3 h
 exact ⟨k, e0, trivial⟩
theorem open_IntS {fuel : Nat} {c : Value} {x : DataW H × List MemPlace} (h : DataW.trod enc Tryz.prog W 0 sp held fuel 25 [c] = some x) : ∃ L : List Int, Row intE W W.heap.size c L := by
 obtain ⟨L, hL, _⟩ := open_row intE (fun _ => True) Tryz.underlying25 cells_i (fun _ _ _ h => int_cells h) h
 exact ⟨L, hL⟩
theorem cred_cells {fuel : Nat} {cs : List Value} {x : DataW H × List MemPlace} (h : DataW.trod enc Tryz.prog W 0 sp held fuel 27 cs = some x) :
  ∃ (c : Cr) (v : Value), cs = [.int .i64 c.u, .int .i64 c.g, v] ∧ Row intE W W.heap.size v c.l := by
 obtain ⟨xs, n, _, rfl, hl, hlen, hf⟩ := DataW.trod_struct Tryz.underlying27 h
 rw [cells_Cred] at hl
 obtain ⟨c0, c1, c2, rfl⟩ := list3 hl
 have hlen' : xs.length = 3 := by simpa using hlen
 obtain ⟨y0, y1, y2, rfl⟩ := list3 hlen'
 have h0 := hf 0 _ rfl
 have h1 := hf 1 _ rfl
 have h2 := hf 2 _ rfl
 simp [cells_i, cells_IntS] at h0 h1 h2
 obtain ⟨t, e0, _⟩ := DataW.trod_int Tryz.underlying3 h0
 obtain ⟨g, e1, _⟩ := DataW.trod_int Tryz.underlying3 h1
 simp only [List.cons.injEq, and_true] at e0 e1
 subst e0 e1
 obtain ⟨L, hL⟩ := open_IntS h2
 exact ⟨⟨t, g, L⟩, c2, rfl, hL⟩
set_option maxRecDepth 100000 in
theorem open_Cred {r0 : Go.Reach} {b0 : Nat} {v : Value} {d : DataW H} {p : List MemPlace} (hval : Value.okWide Tryz.prog W r0 b0 27 v) (h : DataW.Trod enc Tryz.prog W 0 sp held 27 v d p) :
  ∃ (c : Cr) (u : Value), v = crV c u ∧ Row intE W W.heap.size u c.l := by
 obtain ⟨cs, rfl, hsz⟩ := okWide_struct Tryz.underlying27 hval
 obtain ⟨fuel, hf⟩ := h
 obtain ⟨c, u, hr, h1⟩ := cred_cells hf
 refine ⟨c, u, ?_, h1⟩
 have e : cs.toList = [.int .i64 c.u, .int .i64 c.g, u] := by simpa [Value.cells] using hr
 rw [crV, ← Array.toArray_toList (xs := cs), e]
end
end Go.Proofs.YtmkegmndcbpblaaGreatDoor
