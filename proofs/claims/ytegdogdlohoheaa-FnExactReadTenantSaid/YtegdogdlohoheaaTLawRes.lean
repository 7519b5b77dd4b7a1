/- The laws ResultOk and ShowResult. -/
import Derived.Test.YtegdogdlohoheaaTRes
import Derived.Test.YtegdogdlohoheaaGOpen
namespace Go.Proofs.Ytegdogdlohoheaa
open Go.ChangeShapes Go.WideShapes Go.ChangeAt Go.RowKit
set_option linter.unusedVariables false
set_option maxRecDepth 100000 in
set_option maxHeartbeats 2000000 in
theorem szResult_any (r : Re) (left : Int) (w : World) (h0 : 0 ≤ left) (h1 : left ≤ 1048576) (hd : r.d.size ≤ 9223372036854775807) :
  Calls Try.prog 121 #[reV r, .int .i64 left] w fun e w' => (∃ n, e = .returned (.int .i64 n) ∧ n ≤ left ∧ Hid (0 ≤ n → r.d.size ≤ 1048576)) ∧ Below w.heap.size w w' := by
 by_cases h : left - r.d.size < 0
 ·go_enter Try.func121, Try.ntmps121
  go_wp2
  go_ret
  exact ⟨⟨_, rfl, by omega, Hid.intro (by omega)⟩, one_below _ _⟩
 ·go_enter Try.func121, Try.ntmps121
  go_wp2
  go_ret
  exact ⟨⟨_, rfl, by omega, Hid.intro (by omega)⟩, one_below _ _⟩
set_option maxRecDepth 100000 in
set_option maxHeartbeats 2000000 in
theorem toResult_any (r : Re) (w : World) :
  Calls Try.prog 127 #[reV r] w fun e w' => e = .returned (reV r) ∧ Below w.heap.size w w' := by
 go_enter Try.func127, Try.ntmps127
 go_wp2
 exact bodyPost_ret (v := reV r) (by simp [results, Try.results127, go_sem]) rfl ⟨rfl, three_below _ _ _ _⟩
theorem tlist2 {α : Type} {cs : List α} (h : cs.length = 2) : ∃ c0 c1, cs = [c0, c1] := by
 match cs, h with
 | [c0, c1], _ => exact ⟨c0, c1, rfl⟩
theorem tcells_i : Try.prog.cellsOf 3 = 1 := by kernel_rfl
theorem tcells_s : Try.prog.cellsOf 9 = 1 := by kernel_rfl
theorem cells_Result : Try.prog.cellsOf 143 = 2 := by kernel_rfl
section
variable {H : Type} {enc : TypeId × Value → H} {W : World} {sp : Nat → Bool} {held : Bool}
/-- Two cells that read as a result. -/
theorem res_cells {fuel : Nat} {cs : List Value} {x : DataW H × List MemPlace} (h : DataW.trod enc Try.prog W 0 sp held fuel 143 cs = some x) :
  ∃ r : Re, cs = [.int .i64 r.c, .string r.d] ∧ r.d.size ≤ maxLen := by
 obtain ⟨xs, n, _, rfl, hl, hlen, hf⟩ := DataW.trod_struct Try.underlying143 h
 rw [cells_Result] at hl
 obtain ⟨c0, c1, rfl⟩ := tlist2 hl
 have hlen' : xs.length = 2 := by simpa using hlen
 obtain ⟨y0, y1, rfl⟩ := tlist2 hlen'
 have h0 := hf 0 _ rfl
 have h1 := hf 1 _ rfl
 simp [tcells_i, tcells_s] at h0 h1
 obtain ⟨k, e0, _⟩ := DataW.trod_int Try.underlying3 h0
 obtain ⟨p, e1, _, hp⟩ := DataW.trod_string Try.underlying9 h1
 simp only [List.cons.injEq, and_true] at e0 e1
 subst e0 e1
 exact ⟨⟨k, p⟩, rfl, hp⟩
set_option maxRecDepth 100000 in
theorem open_Result {r0 : Reach} {b0 : Nat} {v : Value} {d : DataW H} {p : List MemPlace} (hval : Value.okWide Try.prog W r0 b0 143 v) (h : DataW.Trod enc Try.prog W 0 sp held 143 v d p) : ∃ r : Re, v = reV r ∧ r.d.size ≤ maxLen := by
 obtain ⟨cs, rfl, hsz⟩ := okWide_struct Try.underlying143 hval
 obtain ⟨fuel, hf⟩ := h
 obtain ⟨r, hr, hd⟩ := res_cells hf
 refine ⟨r, ?_, hd⟩
 have e : cs.toList = [.int .i64 r.c, .string r.d] := by simpa [Value.cells] using hr
 rw [← Array.toArray_toList (xs := cs), e]
end
end Go.Proofs.Ytegdogdlohoheaa
