/- The law ReadResult. -/
import Derived.Test.YthicdhjipebghaaTSpecRR
import Derived.Test.YthicdhjipebghaaGOpen
namespace Go.Proofs.Ythicdhjipebghaa
open Go.ChangeShapes Go.WideShapes Go.ChangeAt Go.RowKit
set_option linter.unusedVariables false
set_option maxRecDepth 100000 in
set_option maxHeartbeats 2000000 in
theorem eqResult_any (x : Re) (w : World) :
    Calls Try.prog 7 #[reV x, reV x] w fun e w' => e = .returned (.bool true) ∧ Below w.heap.size w w' := by
  go_enter Try.func7, Try.ntmps7
  go_wp2
  go_ret
  exact ⟨rfl, two_below _ _ _⟩
set_option maxRecDepth 100000 in
set_option maxHeartbeats 2000000 in
theorem readResult_law (s : ByteArray) (w : World) (hs : s.size ≤ maxLen) :
    Calls Try.prog 3 #[.string s] w fun e w' => e = .returned (.bool true) ∧ Below w.heap.size w w' := by
  unfold maxLen at hs
  by_cases hb : (1048576 : Int) < (s.size : Int)
  · go_enter Try.func3, Try.ntmps3
    go_wp2
    go_ret
    exact ⟨rfl, Below.refl _ _⟩
  · go_enter Try.func3, Try.ntmps3
    go_wp2_with fail
    refine (specReadResult_any s _ (by omega)).mono ?_
    rintro e w1 ⟨rfl, b1⟩
    generalize ho : outR s.data.toList = o
    generalize hx : o.getD reZ = x
    generalize hy : o.isSome = y
    go_wp2_with fail
    obtain ⟨W2, hW2, bW2, zW2, cW2, fW2⟩ := boxed w1 #[.int .i64 x.c, .string x.d] 23
    simp only [hW2]
    refine (implReadResult_any s _ (by omega)).mono ?_
    rintro e w3 ⟨rfl, b3⟩
    simp only [ho]
    have X := keepC b3 (by omega) cW2
    have B3 := (b1.trans (bW2.mono b1.size)).trans (b3.mono (by have := b1.size; omega))
    have z3 := b3.size
    have z1 := b1.size
    clear hW2 bW2 cW2 fW2 b3 b1
    go_upto_region 5 with fail
    obtain ⟨W4, hW4, bW4, zW4, cW4, fW4⟩ := boxed w3 #[.int .i64 x.c, .string x.d] 23
    simp only [hW4]
    have X2 := keepC bW4 (by omega) X
    have B4 := B3.trans (bW4.mono (by omega))
    have k0 : W4.cell? ⟨w1.heap.size, 0, none⟩ = some (.int .i64 x.c) := X2 0
    have k1 : W4.cell? ⟨w1.heap.size, 1, none⟩ = some (.string x.d) := X2 1
    have e0 : W4.cell? ⟨w3.heap.size, 0, none⟩ = some (.int .i64 x.c) := cW4 0
    have e1 : W4.cell? ⟨w3.heap.size, 1, none⟩ = some (.string x.d) := cW4 1
    clear hW4 bW4 X X2 cW4 fW4 B3
    go_wp2_with fail
    refine (eqResult_any x _).mono ?_
    rintro e w5 ⟨rfl, b5⟩
    have B5 := B4.trans (b5.mono (by omega))
    clear B4 b5 k0 k1 e0 e1
    go_wp2
    go_ret
    exact ⟨rfl, B5⟩
end Go.Proofs.Ythicdhjipebghaa
