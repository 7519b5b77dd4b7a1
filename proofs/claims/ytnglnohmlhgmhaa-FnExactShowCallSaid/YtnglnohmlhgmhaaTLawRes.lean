/- The laws ResultOk and ShowResult. -/
import Derived.Test.YtnglnohmlhgmhaaTRes
import Derived.Test.YtnglnohmlhgmhaaGOpen
namespace Go.Proofs.Ytnglnohmlhgmhaa
open Go.ChangeShapes Go.WideShapes Go.ChangeAt Go.RowKit
set_option linter.unusedVariables false
set_option maxRecDepth 100000 in
set_option maxHeartbeats 2000000 in
theorem szResult_any (r : Re) (left : Int) (w : World) (h0 : 0 ≤ left) (h1 : left ≤ 1048576) (hd : r.d.size ≤ 9223372036854775807) :
    Calls Try.prog 25 #[reV r, .int .i64 left] w fun e w' => (∃ n, e = .returned (.int .i64 n) ∧ n ≤ left ∧ Hid (0 ≤ n → r.d.size ≤ 1048576)) ∧ Below w.heap.size w w' := by
  by_cases h : left - r.d.size < 0
  · go_enter Try.func25, Try.ntmps25
    go_wp2
    go_ret
    exact ⟨⟨_, rfl, by omega, Hid.intro (by omega)⟩, one_below _ _⟩
  · go_enter Try.func25, Try.ntmps25
    go_wp2
    go_ret
    exact ⟨⟨_, rfl, by omega, Hid.intro (by omega)⟩, one_below _ _⟩
set_option maxRecDepth 100000 in
set_option maxHeartbeats 2000000 in
theorem toResult_any (r : Re) (w : World) :
    Calls Try.prog 27 #[reV r] w fun e w' => e = .returned (reV r) ∧ Below w.heap.size w w' := by
  go_enter Try.func27, Try.ntmps27
  go_wp2
  exact bodyPost_ret (v := reV r) (by simp [results, Try.results27, go_sem]) rfl ⟨rfl, three_below _ _ _ _⟩
set_option maxRecDepth 100000 in
set_option maxHeartbeats 1000000 in
theorem resultOk_law (r : Re) (w : World) (hd : r.d.size ≤ maxLen) :
    Calls Try.prog 7 #[reV r] w fun e w' => e = .returned (.bool true) ∧ Below w.heap.size w w' := by
  go_enter Try.func7, Try.ntmps7
  go_wp2_with fail
  obtain ⟨W, hW, bW, zW, cW, fW⟩ := boxed w #[.int .i64 r.c, .string r.d] 48
  simp only [hW]
  refine (szResult_any r _ _ (by omega) (by omega) hd).mono ?_
  rintro e w1 ⟨⟨n, rfl, hn, hS⟩, b1⟩
  have c1 := keepC b1 (by omega) cW
  have z1 := b1.size
  have B1 := bW.trans (b1.mono (by omega))
  have hz1 : w.heap.size < w1.heap.size := by omega
  clear hW cW fW bW zW b1
  by_cases hneg : n < 0
  · go_wp2
    go_ret
    exact ⟨rfl, B1⟩
  · have hS : Hid (0 ≤ n → r.d.size ≤ 1048576) := hS
    have hS : Hid (r.d.size ≤ 1048576) := hS.out (by omega)
    clear hn
    go_wp2_with fail
    refine (toResult_any r _).mono ?_
    rintro e w2 ⟨rfl, b2⟩
    have c2 := keepC b2 (by omega) c1
    have z2 := b2.size
    have B2 := B1.trans (b2.mono (by omega))
    have hz2 : w.heap.size < w2.heap.size := by omega
    clear c1 B1 b2
    go_wp2_with fail
    refine (specResultOk_any r _).mono ?_
    rintro e w3 ⟨rfl, b3⟩
    have c3 := keepC b3 (by omega) c2
    have z3 := b3.size
    have B3 := B2.trans (b3.mono (by omega))
    have hz3 : w.heap.size < w3.heap.size := by omega
    clear c2 B2 b3
    go_wp2_with fail
    refine (toResult_any r _).mono ?_
    rintro e w4 ⟨rfl, b4⟩
    have z4 := b4.size
    have B4 := B3.trans (b4.mono (by omega))
    clear c3 B3 b4
    go_wp2_with fail
    refine (implResultOk_any r _).mono ?_
    rintro e w5 ⟨rfl, b5⟩
    have B5 := B4.trans (b5.mono (by omega))
    clear B4 b5
    go_wp2
    go_ret
    exact ⟨rfl, B5⟩
set_option maxRecDepth 100000 in
set_option maxHeartbeats 1000000 in
theorem showResult_law (r : Re) (w : World) (hd : r.d.size ≤ maxLen) :
    Calls Try.prog 8 #[reV r] w fun e w' => e = .returned (.bool true) ∧ Below w.heap.size w w' := by
  go_enter Try.func8, Try.ntmps8
  go_wp2_with fail
  obtain ⟨W, hW, bW, zW, cW, fW⟩ := boxed w #[.int .i64 r.c, .string r.d] 48
  simp only [hW]
  refine (szResult_any r _ _ (by omega) (by omega) hd).mono ?_
  rintro e w1 ⟨⟨n, rfl, hn, hS⟩, b1⟩
  have c1 := keepC b1 (by omega) cW
  have z1 := b1.size
  have B1 := bW.trans (b1.mono (by omega))
  have hz1 : w.heap.size < w1.heap.size := by omega
  clear hW cW fW bW zW b1
  by_cases hneg : n < 0
  · go_wp2
    go_ret
    exact ⟨rfl, B1⟩
  · have hS : Hid (0 ≤ n → r.d.size ≤ 1048576) := hS
    have hS : Hid (r.d.size ≤ 1048576) := hS.out (by omega)
    clear hn
    go_wp2_with fail
    refine (toResult_any r _).mono ?_
    rintro e w2 ⟨rfl, b2⟩
    have c2 := keepC b2 (by omega) c1
    have z2 := b2.size
    have B2 := B1.trans (b2.mono (by omega))
    have hz2 : w.heap.size < w2.heap.size := by omega
    clear c1 B1 b2
    go_wp2_with fail
    refine (specShowResult_any r _ hS.out).mono ?_
    rintro e w3 ⟨rfl, b3⟩
    have c3 := keepC b3 (by omega) c2
    have z3 := b3.size
    have B3 := B2.trans (b3.mono (by omega))
    have hz3 : w.heap.size < w3.heap.size := by omega
    clear c2 B2 b3
    go_wp2_with fail
    refine (toResult_any r _).mono ?_
    rintro e w4 ⟨rfl, b4⟩
    have z4 := b4.size
    have B4 := B3.trans (b4.mono (by omega))
    clear c3 B3 b4
    go_wp2_with fail
    refine (implShowResult_any r _ hS.out).mono ?_
    rintro e w5 ⟨rfl, b5⟩
    have B5 := B4.trans (b5.mono (by omega))
    clear B4 b5
    go_wp2
    go_ret
    exact ⟨rfl, B5⟩
theorem tlist2 {α : Type} {cs : List α} (h : cs.length = 2) : ∃ c0 c1, cs = [c0, c1] := by
  match cs, h with
  | [c0, c1], _ => exact ⟨c0, c1, rfl⟩
theorem tcells_i : Try.prog.cellsOf 3 = 1 := by kernel_rfl
theorem tcells_s : Try.prog.cellsOf 9 = 1 := by kernel_rfl
theorem cells_Result : Try.prog.cellsOf 48 = 2 := by kernel_rfl
section
variable {H : Type} {enc : TypeId × Value → H} {W : World} {sp : Nat → Bool} {held : Bool}
/-- Two cells that read as a result. -/
theorem res_cells {fuel : Nat} {cs : List Value} {x : DataW H × List MemPlace} (h : DataW.trod enc Try.prog W 0 sp held fuel 48 cs = some x) :
    ∃ r : Re, cs = [.int .i64 r.c, .string r.d] ∧ r.d.size ≤ maxLen := by
  obtain ⟨xs, n, _, rfl, hl, hlen, hf⟩ := DataW.trod_struct Try.underlying48 h
  rw [cells_Result] at hl
  obtain ⟨c0, c1, rfl⟩ := tlist2 hl
  have hlen' : xs.length = 2 := by simpa using hlen
  obtain ⟨y0, y1, rfl⟩ := tlist2 hlen'
  have h0 := hf 0 _ rfl
  have h1 := hf 1 _ rfl
  simp [tcells_i, tcells_s] at h0 h1
  obtain ⟨k, e0, _⟩ := DataW.trod_int Try.underlying3 h0
  obtain ⟨p, e1, _, hp⟩ := DataW.trod_string Try.underlying9 h1
  simp only [List.cons.injEq, and_true] at e0 e1
  subst e0 e1
  exact ⟨⟨k, p⟩, rfl, hp⟩
set_option maxRecDepth 100000 in
theorem open_Result {r0 : Reach} {b0 : Nat} {v : Value} {d : DataW H} {p : List MemPlace} (hval : Value.okWide Try.prog W r0 b0 48 v) (h : DataW.Trod enc Try.prog W 0 sp held 48 v d p) : ∃ r : Re, v = reV r ∧ r.d.size ≤ maxLen := by
  obtain ⟨cs, rfl, hsz⟩ := okWide_struct Try.underlying48 hval
  obtain ⟨fuel, hf⟩ := h
  obtain ⟨r, hr, hd⟩ := res_cells hf
  refine ⟨r, ?_, hd⟩
  have e : cs.toList = [.int .i64 r.c, .string r.d] := by simpa [Value.cells] using hr
  rw [← Array.toArray_toList (xs := cs), e]
end
end Go.Proofs.Ytnglnohmlhgmhaa
