/- The law ReadCall. -/
import Derived.Test.YtnglnohmlhgmhaaTSpecCall
import Derived.Test.YtnglnohmlhgmhaaGOpen
namespace Go.Proofs.Ytnglnohmlhgmhaa
open Go.ChangeShapes Go.WideShapes Go.ChangeAt Go.RowKit
set_option linter.unusedVariables false
set_option maxRecDepth 100000 in
set_option maxHeartbeats 2000000 in
theorem eqCall_any (x : Ca) (w : World) :
    Calls Try.prog 24 #[caV x, caV x] w fun e w' => e = .returned (.bool true) ∧ Below w.heap.size w w' := by
  go_enter Try.func24, Try.ntmps24
  go_wp2
  go_ret
  exact ⟨rfl, two_below _ _ _⟩
set_option maxRecDepth 100000 in
set_option maxHeartbeats 2000000 in
theorem readCall_law (s : ByteArray) (w : World) (hs : s.size ≤ maxLen) :
    Calls Try.prog 6 #[.string s] w fun e w' => e = .returned (.bool true) ∧ Below w.heap.size w w' := by
  unfold maxLen at hs
  by_cases hb : (1048576 : Int) < (s.size : Int)
  · go_enter Try.func6, Try.ntmps6
    go_wp2
    go_ret
    exact ⟨rfl, Below.refl _ _⟩
  · go_enter Try.func6, Try.ntmps6
    go_wp2_with fail
    refine (specReadCall_any s _ (by omega)).mono ?_
    rintro e w1 ⟨rfl, b1⟩
    generalize ho : outC s.data.toList = o
    generalize hx : o.getD caZ = x
    generalize hy : o.isSome = y
    go_wp2_with fail
    obtain ⟨W2, hW2, bW2, zW2, cW2, fW2⟩ := boxed w1 #[.int .i64 x.k, .string x.p, .string x.to, .int .i64 x.n, .int .i64 x.m, .string x.d] 41
    simp only [hW2]
    refine (implReadCall_any s _ (by omega)).mono ?_
    rintro e w3 ⟨rfl, b3⟩
    simp only [ho]
    have X := keepC b3 (by omega) cW2
    have B3 := (b1.trans (bW2.mono b1.size)).trans (b3.mono (by have := b1.size; omega))
    have z3 := b3.size
    have z1 := b1.size
    clear hW2 bW2 cW2 fW2 b3 b1
    go_upto_region 5 with fail
    obtain ⟨W4, hW4, bW4, zW4, cW4, fW4⟩ := boxed w3 #[.int .i64 x.k, .string x.p, .string x.to, .int .i64 x.n, .int .i64 x.m, .string x.d] 41
    simp only [hW4]
    have X2 := keepC bW4 (by omega) X
    have B4 := B3.trans (bW4.mono (by omega))
    have k0 : W4.cell? ⟨w1.heap.size, 0, none⟩ = some (.int .i64 x.k) := X2 0
    have k1 : W4.cell? ⟨w1.heap.size, 1, none⟩ = some (.string x.p) := X2 1
    have k2 : W4.cell? ⟨w1.heap.size, 2, none⟩ = some (.string x.to) := X2 2
    have k3 : W4.cell? ⟨w1.heap.size, 3, none⟩ = some (.int .i64 x.n) := X2 3
    have k4 : W4.cell? ⟨w1.heap.size, 4, none⟩ = some (.int .i64 x.m) := X2 4
    have k5 : W4.cell? ⟨w1.heap.size, 5, none⟩ = some (.string x.d) := X2 5
    have e0 : W4.cell? ⟨w3.heap.size, 0, none⟩ = some (.int .i64 x.k) := cW4 0
    have e1 : W4.cell? ⟨w3.heap.size, 1, none⟩ = some (.string x.p) := cW4 1
    have e2 : W4.cell? ⟨w3.heap.size, 2, none⟩ = some (.string x.to) := cW4 2
    have e3 : W4.cell? ⟨w3.heap.size, 3, none⟩ = some (.int .i64 x.n) := cW4 3
    have e4 : W4.cell? ⟨w3.heap.size, 4, none⟩ = some (.int .i64 x.m) := cW4 4
    have e5 : W4.cell? ⟨w3.heap.size, 5, none⟩ = some (.string x.d) := cW4 5
    clear hW4 bW4 X X2 cW4 fW4 B3
    go_wp2_with fail
    refine (eqCall_any x _).mono ?_
    rintro e w5 ⟨rfl, b5⟩
    have B5 := B4.trans (b5.mono (by omega))
    clear B4 b5 k0 k1 k2 k3 k4 k5 e0 e1 e2 e3 e4 e5
    go_wp2
    go_ret
    exact ⟨rfl, B5⟩
end Go.Proofs.Ytnglnohmlhgmhaa
