/- The law ShowCall. -/
import Derived.Test.YtediilplhjbnpaaTCallShow
import Derived.Test.YtediilplhjbnpaaTLawRes
namespace Go.Proofs.Ytediilplhjbnpaa
open Go.ChangeShapes Go.WideShapes Go.ChangeAt Go.RowKit
set_option linter.unusedVariables false
set_option maxRecDepth 100000 in
set_option maxHeartbeats 2000000 in
theorem szCall_any (c : Ca) (left : Int) (w : World) (h0 : 0 ≤ left) (h1 : left ≤ 1048576) (hp : c.p.size ≤ 9223372036854775807) (ht : c.to.size ≤ 9223372036854775807) (hd : c.d.size ≤ 9223372036854775807) :
    Calls Try.prog 22 #[caV c, .int .i64 left] w fun e w' => (∃ n, e = .returned (.int .i64 n) ∧ n ≤ left ∧ Hid (0 ≤ n → c.p.size ≤ 1048576 ∧ c.to.size ≤ 1048576 ∧ c.d.size ≤ 1048576)) ∧ Below w.heap.size w w' := by
  by_cases h : left - c.p.size < 0
  · go_enter Try.func22, Try.ntmps22
    go_wp2
    go_ret
    exact ⟨⟨_, rfl, by omega, Hid.intro (by omega)⟩, (Below.refl _ _).alloc (Nat.le_refl _) _⟩
  · by_cases h2 : left - c.p.size - c.to.size < 0
    · go_enter Try.func22, Try.ntmps22
      go_wp2
      go_ret
      exact ⟨⟨_, rfl, by omega, Hid.intro (by omega)⟩, (Below.refl _ _).alloc (Nat.le_refl _) _⟩
    · by_cases h3 : left - c.p.size - c.to.size - c.d.size < 0
      · go_enter Try.func22, Try.ntmps22
        go_wp2
        go_ret
        exact ⟨⟨_, rfl, by omega, Hid.intro (by omega)⟩, (Below.refl _ _).alloc (Nat.le_refl _) _⟩
      · go_enter Try.func22, Try.ntmps22
        go_wp2
        go_ret
        exact ⟨⟨_, rfl, by omega, Hid.intro (by omega)⟩, (Below.refl _ _).alloc (Nat.le_refl _) _⟩
set_option maxRecDepth 100000 in
set_option maxHeartbeats 2000000 in
theorem toCall_any (c : Ca) (w : World) :
    Calls Try.prog 25 #[caV c] w fun e w' => e = .returned (caV c) ∧ Below w.heap.size w w' := by
  go_enter Try.func25, Try.ntmps25
  go_wp2
  exact bodyPost_ret (v := caV c) (by simp [results, Try.results25, go_sem]) rfl ⟨rfl, three_below _ _ _ _⟩
theorem tlist6 {α : Type} {cs : List α} (h : cs.length = 6) : ∃ c0 c1 c2 c3 c4 c5, cs = [c0, c1, c2, c3, c4, c5] := by
  match cs, h with
  | [c0, c1, c2, c3, c4, c5], _ => exact ⟨c0, c1, c2, c3, c4, c5, rfl⟩
theorem tcells_Call : Try.prog.cellsOf 23 = 6 := by kernel_rfl
section
variable {H : Type} {enc : TypeId × Value → H} {W : World} {sp : Nat → Bool} {held : Bool}
/-- Six cells that read as a call. -/
theorem call_cells {fuel : Nat} {cs : List Value} {x : DataW H × List MemPlace} (h : DataW.trod enc Try.prog W 0 sp held fuel 23 cs = some x) :
    ∃ c : Ca, cs = caC c ∧ c.p.size ≤ maxLen ∧ c.to.size ≤ maxLen ∧ c.d.size ≤ maxLen := by
  obtain ⟨xs, n, _, rfl, hl, hlen, hf⟩ := DataW.trod_struct Try.underlying23 h
  rw [tcells_Call] at hl
  obtain ⟨c0, c1, c2, c3, c4, c5, rfl⟩ := tlist6 hl
  have hlen' : xs.length = 6 := by simpa using hlen
  obtain ⟨y0, y1, y2, y3, y4, y5, rfl⟩ := tlist6 hlen'
  have h0 := hf 0 _ rfl
  have h1 := hf 1 _ rfl
  have h2 := hf 2 _ rfl
  have h3 := hf 3 _ rfl
  have h4 := hf 4 _ rfl
  have h5 := hf 5 _ rfl
  simp [tcells_i, tcells_s] at h0 h1 h2 h3 h4 h5
  obtain ⟨k, e0, _⟩ := DataW.trod_int Try.underlying3 h0
  obtain ⟨p, e1, _, hp⟩ := DataW.trod_string Try.underlying9 h1
  obtain ⟨t, e2, _, ht⟩ := DataW.trod_string Try.underlying9 h2
  obtain ⟨n', e3, _⟩ := DataW.trod_int Try.underlying3 h3
  obtain ⟨m, e4, _⟩ := DataW.trod_int Try.underlying3 h4
  obtain ⟨d, e5, _, hd⟩ := DataW.trod_string Try.underlying9 h5
  simp only [List.cons.injEq, and_true] at e0 e1 e2 e3 e4 e5
  subst e0 e1 e2 e3 e4 e5
  exact ⟨⟨k, p, t, n', m, d⟩, rfl, hp, ht, hd⟩
set_option maxRecDepth 100000 in
theorem open_Call {r0 : Reach} {b0 : Nat} {v : Value} {d : DataW H} {p : List MemPlace} (hval : Value.okWide Try.prog W r0 b0 23 v) (h : DataW.Trod enc Try.prog W 0 sp held 23 v d p) : ∃ c : Ca, v = caV c ∧ c.p.size ≤ maxLen ∧ c.to.size ≤ maxLen ∧ c.d.size ≤ maxLen := by
  obtain ⟨cs, rfl, hsz⟩ := okWide_struct Try.underlying23 hval
  obtain ⟨fuel, hf⟩ := h
  obtain ⟨c, hr, hd⟩ := call_cells hf
  refine ⟨c, ?_, hd⟩
  have e : cs.toList = caC c := by simpa [Value.cells] using hr
  rw [caV, ← Array.toArray_toList (xs := cs), e]
  rfl
end
end Go.Proofs.Ytediilplhjbnpaa
