/- FnExactRecOk. -/
import Derived.Test.YtkilepoimocoeaaLawA
import Derived.Test.YtkilepoimocoeaaRecS
import Derived.Test.YtkilepoimocoeaaRecI
namespace Go.Proofs.Ytkilepoimocoeaa
open Go.RowKit
set_option linter.unusedVariables false
set_option maxHeartbeats 1000000 in
theorem recOk_law (r : Rc) (w : World) (hd : r.d.size ≤ maxLen) :
    Calls Try.prog 6 #[rcV r] w fun e w' => e = .returned (.bool true) ∧ Below w.heap.size w w' := by
  go_enter Try.func6, Try.ntmps6
  go_wp2_with fail
  obtain ⟨W, hW, bW, zW, cW, fW⟩ := boxed w #[.int .i64 r.k, .int .i64 r.t, .int .i64 r.i, .int .i64 r.v, .string r.d] 59
  simp only [hW]
  refine (szRec_any r _ _ (by omega) (by omega) hd).mono ?_
  rintro e w1 ⟨⟨n, rfl, hn⟩, b1⟩
  have c1 := keepC b1 (by omega) cW
  have z1 := b1.size
  have B1 := bW.trans (b1.mono (by omega))
  have hz1 : w.heap.size < w1.heap.size := by omega
  clear hW cW fW bW zW b1
  by_cases hneg : n < 0
  · go_wp2
    go_ret
    exact ⟨rfl, B1⟩
  · have HN := Hid.intro hn
    clear hn
    go_wp2_with fail
    refine (toRec_any r _).mono ?_
    rintro e w2 ⟨rfl, b2⟩
    have c2 := keepC b2 (by omega) c1
    have z2 := b2.size
    have B2 := B1.trans (b2.mono (by omega))
    have hz2 : w.heap.size < w2.heap.size := by omega
    clear c1 B1 b2
    go_wp2_with fail
    refine (specRecOk_any r _).mono ?_
    rintro e w3 ⟨rfl, b3⟩
    have c3 := keepC b3 (by omega) c2
    have z3 := b3.size
    have B3 := B2.trans (b3.mono (by omega))
    have hz3 : w.heap.size < w3.heap.size := by omega
    clear c2 B2 b3
    go_wp2_with fail
    refine (toRec_any r _).mono ?_
    rintro e w4 ⟨rfl, b4⟩
    have z4 := b4.size
    have B4 := B3.trans (b4.mono (by omega))
    clear c3 B3 b4
    go_wp2_with fail
    refine (recOk_any r _).mono ?_
    rintro e w5 ⟨rfl, b5⟩
    have B5 := B4.trans (b5.mono (by omega))
    clear B4 b5
    cases hb : recB r with
    | true =>
      go_wp2
      go_ret
      exact ⟨rfl, B5⟩
    | false =>
      go_wp2
      go_ret
      exact ⟨rfl, B5⟩
end Go.Proofs.Ytkilepoimocoeaa
