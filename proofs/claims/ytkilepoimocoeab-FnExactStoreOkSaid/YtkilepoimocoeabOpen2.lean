/- What the laws' arguments look like: rows of records, stores. -/
import Derived.Test.YtkilepoimocoeabOpen
import Derived.Test.YtkilepoimocoeabHeldI
namespace Go.Proofs.Ytkilepoimocoeab
open Go.ChangeShapes Go.WideShapes Go.ChangeAt Go.RowKit Go.Joins Go.Deep
set_option linter.unusedVariables false
theorem array7 {α : Type} {cs : Array α} (h : cs.size = 7) : ∃ c0 c1 c2 c3 c4 c5 c6, cs = #[c0, c1, c2, c3, c4, c5, c6] := by
  obtain ⟨l⟩ := cs
  match l, h with
  | [c0, c1, c2, c3, c4, c5, c6], _ => exact ⟨c0, c1, c2, c3, c4, c5, c6, rfl⟩
theorem cells_RecS : Try.prog.cellsOf 27 = 1 := by kernel_rfl
theorem cells_Store : Try.prog.cellsOf 29 = 7 := by kernel_rfl
section
variable {H : Type} {enc : TypeId × Value → H} {W : World} {sp : Nat → Bool} {held : Bool}
/-- A row of records that came in. -/
theorem recS_cells {fuel : Nat} {c : Value} {x : DataW H × List MemPlace} (h : DataW.trod enc Try.prog W 0 sp held fuel 27 [c] = some x) :
    ∃ L : List Rc, RowR W W.heap.size c L ∧ ∀ e ∈ L, e.d.size ≤ 9223372036854775807 := by
  rcases open_slice Try.underlying27 h with ⟨hc, _⟩ | ⟨a, len, cap, m, n, D, Pl, hc, _, hl, hm, hmm, _, hx⟩
  · simp only [List.cons.injEq, and_true] at hc
    subst hc
    exact ⟨[], ⟨none, 0, rfl, Nat.le_refl _, by omega, fun h => absurd rfl h⟩, by simp⟩
  · simp only [List.cons.injEq, and_true] at hc
    subst hc
    have hlm : len ≤ m := by rw [hmm]; split <;> omega
    have each : ∀ i, i < len → ∃ e : Rc, W.cell? (a.add (i * 5)) = some (.int .i64 e.k) ∧ W.cell? (a.add (i * 5 + 1)) = some (.int .i64 e.t) ∧ W.cell? (a.add (i * 5 + 2)) = some (.int .i64 e.i) ∧ W.cell? (a.add (i * 5 + 3)) = some (.int .i64 e.v) ∧ W.cell? (a.add (i * 5 + 4)) = some (.string e.d) ∧ e.d.size ≤ maxLen := by
      intro i hi
      obtain ⟨cs, h1, h2⟩ := hx i (by omega)
      rw [cells_Rec] at h1
      obtain ⟨e, rfl, hd⟩ := rec_cells h2
      obtain ⟨_, hlen, hcell⟩ := World.cells?_some h1
      have e0 := hcell 0 (by omega)
      have e1 := hcell 1 (by omega)
      have e2 := hcell 2 (by omega)
      have e3 := hcell 3 (by omega)
      have e4 := hcell 4 (by omega)
      rw [Go.Deep.add_add] at e0 e1 e2 e3 e4
      exact ⟨e, by simpa [rcC] using e0, by simpa [rcC] using e1, by simpa [rcC] using e2, by simpa [rcC] using e3, by simpa [rcC] using e4, hd⟩
    haveI : Inhabited Rc := ⟨⟨0, 0, 0, 0, ⟨#[]⟩⟩⟩
    obtain ⟨q, hq⟩ := choose_lt each
    have hll : ((List.range len).map q).length = len := by simp
    refine ⟨(List.range len).map q, ⟨some a, cap, by rw [hll], by rw [hll]; exact hl, hm, fun hL => ?_⟩, ?_⟩
    · have hpos : 0 < len := by
        rcases Nat.eq_zero_or_pos len with h0 | h0
        · subst h0; simp at hL
        · exact h0
      obtain ⟨b, off, spot⟩ := a
      have hspot : spot = none := by simpa [Addr.add] using World.cell?_spot (hq 0 hpos).1
      subst hspot
      have hadd : ∀ j, (⟨b, off, none⟩ : Addr).add j = ⟨b, off + j, none⟩ := by
        intro j; unfold Addr.add; split <;> simp_all
      simp only [hadd] at hq
      refine ⟨b, off, rfl, World.block_lt_of_cell? W _ (hq 0 hpos).1, fun j hj => ?_⟩
      rw [hll] at hj
      have hjq := hq j hj
      simp only [List.getElem_map, List.getElem_range]
      exact ⟨hjq.1, by rw [Nat.add_assoc]; exact hjq.2.1, by rw [Nat.add_assoc]; exact hjq.2.2.1, by rw [Nat.add_assoc]; exact hjq.2.2.2.1, by rw [Nat.add_assoc]; exact hjq.2.2.2.2.1⟩
    · intro e he
      simp only [List.mem_map, List.mem_range] at he
      obtain ⟨j, hj, rfl⟩ := he
      exact (hq j hj).2.2.2.2.2
set_option maxRecDepth 100000 in
theorem open_RecS {r0 : Reach} {b0 : Nat} {v : Value} {d : DataW H} {p : List MemPlace} (hval : Value.okWide Try.prog W r0 b0 27 v) (h : DataW.Trod enc Try.prog W 0 sp held 27 v d p) :
    ∃ L : List Rc, RowR W W.heap.size v L ∧ ∀ e ∈ L, e.d.size ≤ 9223372036854775807 := by
  obtain ⟨fuel, hf⟩ := h
  obtain ⟨a, n, cap, rfl⟩ := okWide_slice Try.underlying27 hval
  exact recS_cells (c := .slice a n cap) (by simpa [Value.cells] using hf)
set_option maxRecDepth 100000 in
theorem open_Store {r0 : Reach} {b0 : Nat} {v : Value} {d : DataW H} {p : List MemPlace} (hval : Value.okWide Try.prog W r0 b0 29 v) (h : DataW.Trod enc Try.prog W 0 sp held 29 v d p) :
    ∃ (S : Sto) (u l : Value), v = stV S u l ∧ S.k.sd.size ≤ 9223372036854775807 ∧ RowE W W.heap.size u S.k.e ∧ (∀ e ∈ S.k.e, e.d.size ≤ 9223372036854775807) ∧ RowR W W.heap.size l S.l ∧ ∀ e ∈ S.l, e.d.size ≤ 9223372036854775807 := by
  obtain ⟨cs, rfl, hsz⟩ := okWide_struct Try.underlying29 hval
  obtain ⟨fuel, hf⟩ := h
  have hf' : DataW.trod enc Try.prog W 0 sp held fuel 29 cs.toList = some (d, p) := by simpa [Value.cells] using hf
  obtain ⟨xs, n, _, _, hl, hlen, hff⟩ := DataW.trod_struct Try.underlying29 hf'
  rw [cells_Store] at hl
  obtain ⟨c0, c1, c2, c3, c4, c5, c6, rfl⟩ := array7 (cs := cs) (by simpa using hl)
  have hlen' : xs.length = 2 := by simpa using hlen
  obtain ⟨y0, y1, rfl⟩ := list2 hlen'
  have h0 := hff 0 _ rfl
  have h1 := hff 1 _ rfl
  simp [cells_Kept, cells_RecS] at h0 h1
  obtain ⟨K, u, hk, q1, q2, q3⟩ := kept_cells h0
  simp only [List.cons.injEq, and_true] at hk
  obtain ⟨rfl, rfl, rfl, rfl, rfl, rfl⟩ := hk
  obtain ⟨L, hL, hLs⟩ := recS_cells h1
  exact ⟨⟨K, L⟩, _, c6, rfl, q1, q2, q3, hL, hLs⟩
end
end Go.Proofs.Ytkilepoimocoeab
