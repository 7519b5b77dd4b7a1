/- What the laws' arguments look like: records, entries in a row, Kepts. -/
import Derived.Test.YtkilepoimocoeaaOwn
import Derived.Lib.SmallJoins
import Derived.ProofKit
import Derived.OpenShut
import Derived.ShutString
import Derived.ChangeOld
import Derived.Deep.Slices
namespace Go.Proofs.Ytkilepoimocoeaa
open Go.ChangeShapes Go.WideShapes Go.ChangeAt Go.RowKit Go.Joins Go.Deep
set_option linter.unusedVariables false

theorem array5 {α : Type} {cs : Array α} (h : cs.size = 5) : ∃ c0 c1 c2 c3 c4, cs = #[c0, c1, c2, c3, c4] := by
  obtain ⟨l⟩ := cs
  match l, h with
  | [c0, c1, c2, c3, c4], _ => exact ⟨c0, c1, c2, c3, c4, rfl⟩
theorem array6 {α : Type} {cs : Array α} (h : cs.size = 6) : ∃ c0 c1 c2 c3 c4 c5, cs = #[c0, c1, c2, c3, c4, c5] := by
  obtain ⟨l⟩ := cs
  match l, h with
  | [c0, c1, c2, c3, c4, c5], _ => exact ⟨c0, c1, c2, c3, c4, c5, rfl⟩
theorem list5 {α : Type} {cs : List α} (h : cs.length = 5) : ∃ c0 c1 c2 c3 c4, cs = [c0, c1, c2, c3, c4] := by
  match cs, h with
  | [c0, c1, c2, c3, c4], _ => exact ⟨c0, c1, c2, c3, c4, rfl⟩
theorem list3 {α : Type} {cs : List α} (h : cs.length = 3) : ∃ c0 c1 c2, cs = [c0, c1, c2] := by
  match cs, h with
  | [c0, c1, c2], _ => exact ⟨c0, c1, c2, rfl⟩
theorem list4 {α : Type} {cs : List α} (h : cs.length = 4) : ∃ c0 c1 c2 c3, cs = [c0, c1, c2, c3] := by
  match cs, h with
  | [c0, c1, c2, c3], _ => exact ⟨c0, c1, c2, c3, rfl⟩
theorem list2 {α : Type} {cs : List α} (h : cs.length = 2) : ∃ c0 c1, cs = [c0, c1] := by
  match cs, h with
  | [c0, c1], _ => exact ⟨c0, c1, rfl⟩

theorem cells_i : Try.prog.cellsOf 3 = 1 := by kernel_rfl
theorem cells_s : Try.prog.cellsOf 9 = 1 := by kernel_rfl
theorem cells_Rec : Try.prog.cellsOf 59 = 5 := by kernel_rfl
theorem cells_Snap : Try.prog.cellsOf 51 = 3 := by kernel_rfl
theorem cells_Entry : Try.prog.cellsOf 128 = 2 := by kernel_rfl
theorem cells_EntryS : Try.prog.cellsOf 52 = 1 := by kernel_rfl
theorem cells_Kept : Try.prog.cellsOf 54 = 6 := by kernel_rfl

section
variable {H : Type} {enc : TypeId × Value → H} {W : World} {sp : Nat → Bool} {held : Bool}

/-- Five cells that read as a record. -/
theorem rec_cells {fuel : Nat} {cs : List Value} {x : DataW H × List MemPlace} (h : DataW.trod enc Try.prog W 0 sp held fuel 59 cs = some x) :
    ∃ r : Rc, cs = rcC r ∧ r.d.size ≤ maxLen := by
  obtain ⟨xs, n, _, rfl, hl, hlen, hf⟩ := DataW.trod_struct Try.underlying59 h
  rw [cells_Rec] at hl
  obtain ⟨c0, c1, c2, c3, c4, rfl⟩ := list5 hl
  have hlen' : xs.length = 5 := by simpa using hlen
  obtain ⟨y0, y1, y2, y3, y4, rfl⟩ := list5 hlen'
  have h0 := hf 0 _ rfl
  have h1 := hf 1 _ rfl
  have h2 := hf 2 _ rfl
  have h3 := hf 3 _ rfl
  have h4 := hf 4 _ rfl
  simp [cells_i, cells_s] at h0 h1 h2 h3 h4
  obtain ⟨k, e0, _⟩ := DataW.trod_int Try.underlying3 h0
  obtain ⟨t, e1, _⟩ := DataW.trod_int Try.underlying3 h1
  obtain ⟨i, e2, _⟩ := DataW.trod_int Try.underlying3 h2
  obtain ⟨v, e3, _⟩ := DataW.trod_int Try.underlying3 h3
  obtain ⟨d, e4, _, hd⟩ := DataW.trod_string Try.underlying9 h4
  simp only [List.cons.injEq, and_true] at e0 e1 e2 e3 e4
  subst e0 e1 e2 e3 e4
  exact ⟨⟨k, t, i, v, d⟩, rfl, hd⟩
set_option maxRecDepth 100000 in
theorem open_Rec {r0 : Reach} {b0 : Nat} {v : Value} {d : DataW H} {p : List MemPlace} (hval : Value.okWide Try.prog W r0 b0 59 v) (h : DataW.Trod enc Try.prog W 0 sp held 59 v d p) : ∃ r : Rc, v = rcV r ∧ r.d.size ≤ maxLen := by
  obtain ⟨cs, rfl, hsz⟩ := okWide_struct Try.underlying59 hval
  obtain ⟨fuel, hf⟩ := h
  obtain ⟨r, hr, hd⟩ := rec_cells hf
  refine ⟨r, ?_, hd⟩
  have e : cs.toList = rcC r := by simpa [Value.cells] using hr
  rw [rcV, ← Array.toArray_toList (xs := cs), e]
  rfl

/-- Two cells that read as an entry. -/
theorem ent_cells {fuel : Nat} {cs : List Value} {x : DataW H × List MemPlace} (h : DataW.trod enc Try.prog W 0 sp held fuel 128 cs = some x) :
    ∃ e : En, cs = enC e ∧ e.d.size ≤ maxLen := by
  obtain ⟨xs, n, _, rfl, hl, hlen, hf⟩ := DataW.trod_struct Try.underlying128 h
  rw [cells_Entry] at hl
  obtain ⟨c0, c1, rfl⟩ := list2 hl
  have hlen' : xs.length = 2 := by simpa using hlen
  obtain ⟨y0, y1, rfl⟩ := list2 hlen'
  have h0 := hf 0 _ rfl
  have h1 := hf 1 _ rfl
  simp [cells_i, cells_s] at h0 h1
  obtain ⟨t, e0, _⟩ := DataW.trod_int Try.underlying3 h0
  obtain ⟨d, e1, _, hd⟩ := DataW.trod_string Try.underlying9 h1
  simp only [List.cons.injEq, and_true] at e0 e1
  subst e0 e1
  exact ⟨⟨t, d⟩, rfl, hd⟩
/-- A row of entries that came in. -/
theorem open_EntryS {fuel : Nat} {c : Value} {x : DataW H × List MemPlace} (h : DataW.trod enc Try.prog W 0 sp held fuel 52 [c] = some x) :
    ∃ L : List En, RowE W W.heap.size c L ∧ ∀ e ∈ L, e.d.size ≤ 9223372036854775807 := by
  rcases open_slice Try.underlying52 h with ⟨hc, _⟩ | ⟨a, len, cap, m, n, D, Pl, hc, _, hl, hm, hmm, _, hx⟩
  · simp only [List.cons.injEq, and_true] at hc
    subst hc
    exact ⟨[], ⟨none, 0, rfl, Nat.le_refl _, by omega, fun h => absurd rfl h⟩, by simp⟩
  · simp only [List.cons.injEq, and_true] at hc
    subst hc
    have hlm : len ≤ m := by rw [hmm]; split <;> omega
    have each : ∀ i, i < len → ∃ e : En, W.cell? (a.add (i * 2)) = some (.int .i64 e.t) ∧ W.cell? (a.add (i * 2 + 1)) = some (.string e.d) ∧ e.d.size ≤ maxLen := by
      intro i hi
      obtain ⟨cs, h1, h2⟩ := hx i (by omega)
      rw [cells_Entry] at h1
      obtain ⟨e, rfl, hd⟩ := ent_cells h2
      obtain ⟨_, hlen, hcell⟩ := World.cells?_some h1
      have e0 := hcell 0 (by omega)
      have e1 := hcell 1 (by omega)
      rw [Go.Deep.add_add] at e0 e1
      exact ⟨e, by simpa [enC] using e0, by simpa [enC] using e1, hd⟩
    haveI : Inhabited En := ⟨⟨0, ⟨#[]⟩⟩⟩
    obtain ⟨q, hq⟩ := choose_lt each
    have hll : ((List.range len).map q).length = len := by simp
    refine ⟨(List.range len).map q, ⟨some a, cap, by rw [hll], by rw [hll]; exact hl, hm, fun hL => ?_⟩, ?_⟩
    · have hpos : 0 < len := by
        rcases Nat.eq_zero_or_pos len with h0 | h0
        · subst h0; simp at hL
        · exact h0
      obtain ⟨b, off, spot⟩ := a
      have hspot : spot = none := by simpa [Addr.add] using World.cell?_spot (hq 0 hpos).1
      subst hspot
      have hadd : ∀ j, (⟨b, off, none⟩ : Addr).add j = ⟨b, off + j, none⟩ := by
        intro j; unfold Addr.add; split <;> simp_all
      simp only [hadd] at hq
      refine ⟨b, off, rfl, World.block_lt_of_cell? W _ (hq 0 hpos).1, fun j hj => ?_⟩
      rw [hll] at hj
      have hjq := hq j hj
      simp only [List.getElem_map, List.getElem_range]
      exact ⟨hjq.1, by rw [Nat.add_assoc]; exact hjq.2.1⟩
    · intro e he
      simp only [List.mem_map, List.mem_range] at he
      obtain ⟨j, hj, rfl⟩ := he
      exact (hq j hj).2.2
/-- Six cells that read as a Kept. -/
theorem kept_cells {fuel : Nat} {cs : List Value} {x : DataW H × List MemPlace} (h : DataW.trod enc Try.prog W 0 sp held fuel 54 cs = some x) :
    ∃ (K : Kp) (v : Value), cs = [.int .i64 K.t, .int .i64 K.v, .int .i64 K.si, .int .i64 K.st, .string K.sd, v] ∧ K.sd.size ≤ 9223372036854775807 ∧ RowE W W.heap.size v K.e ∧ ∀ e ∈ K.e, e.d.size ≤ 9223372036854775807 := by
  obtain ⟨xs, n, _, rfl, hl, hlen, hf⟩ := DataW.trod_struct Try.underlying54 h
  rw [cells_Kept] at hl
  obtain ⟨l⟩ : ∃ l : Array Value, l.toList = cs := ⟨cs.toArray, by simp⟩
  obtain ⟨c0, c1, c2, c3, c4, c5, hcs⟩ := array6 (cs := cs.toArray) (by simpa using hl)
  obtain rfl : cs = [c0, c1, c2, c3, c4, c5] := by simpa using congrArg Array.toList hcs
  have hlen' : xs.length = 4 := by simpa using hlen
  obtain ⟨y0, y1, y2, y3, rfl⟩ := list4 hlen'
  have h0 := hf 0 _ rfl
  have h1 := hf 1 _ rfl
  have h2 := hf 2 _ rfl
  have h3 := hf 3 _ rfl
  simp [cells_i, cells_Snap, cells_EntryS] at h0 h1 h2 h3
  obtain ⟨t, e0, _⟩ := DataW.trod_int Try.underlying3 h0
  obtain ⟨v, e1, _⟩ := DataW.trod_int Try.underlying3 h1
  obtain ⟨zs, n2, _, _, _, hlen2, hf2⟩ := DataW.trod_struct Try.underlying51 h2
  have g0 := hf2 0 _ rfl
  have g1 := hf2 1 _ rfl
  have g2 := hf2 2 _ rfl
  have hlen2' : zs.length = 3 := by simpa using hlen2
  obtain ⟨z0, z1, z2, rfl⟩ := list3 hlen2'
  simp [cells_i, cells_s] at g0 g1 g2
  obtain ⟨si, e2, _⟩ := DataW.trod_int Try.underlying3 g0
  obtain ⟨st, e3, _⟩ := DataW.trod_int Try.underlying3 g1
  obtain ⟨sd, e4, _, hsd⟩ := DataW.trod_string Try.underlying9 g2
  simp only [List.cons.injEq, and_true] at e0 e1 e2 e3 e4
  subst e0 e1 e2 e3 e4
  obtain ⟨L, hL, hLs⟩ := open_EntryS h3
  exact ⟨⟨t, v, si, st, sd, L⟩, c5, rfl, hsd, hL, hLs⟩
set_option maxRecDepth 100000 in
theorem open_Kept {r0 : Reach} {b0 : Nat} {v : Value} {d : DataW H} {p : List MemPlace} (hval : Value.okWide Try.prog W r0 b0 54 v) (h : DataW.Trod enc Try.prog W 0 sp held 54 v d p) :
    ∃ (K : Kp) (u : Value), v = kpV K u ∧ K.sd.size ≤ 9223372036854775807 ∧ RowE W W.heap.size u K.e ∧ ∀ e ∈ K.e, e.d.size ≤ 9223372036854775807 := by
  obtain ⟨cs, rfl, hsz⟩ := okWide_struct Try.underlying54 hval
  obtain ⟨fuel, hf⟩ := h
  obtain ⟨K, u, hr, h1, h2, h3⟩ := kept_cells hf
  refine ⟨K, u, ?_, h1, h2, h3⟩
  have e : cs.toList = [.int .i64 K.t, .int .i64 K.v, .int .i64 K.si, .int .i64 K.st, .string K.sd, u] := by simpa [Value.cells] using hr
  rw [kpV, ← Array.toArray_toList (xs := cs), e]
end
end Go.Proofs.Ytkilepoimocoeaa
