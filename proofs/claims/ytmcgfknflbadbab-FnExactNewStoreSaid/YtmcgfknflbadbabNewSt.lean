/- FnExactNewStore. -/
import Derived.Test.YtmcgfknflbadbabMark
namespace Go.Proofs.Ytmcgfknflbadbab
open Go.RowKit
set_option linter.unusedVariables false
def k0 : Kp := ⟨0, -1, 0, 0, ⟨#[]⟩, []⟩
abbrev s0 : Value := .agg #[.int .i64 0, .int .i64 (-1), .int .i64 0, .int .i64 0, .string ⟨#[]⟩, .slice none 0 0, .slice none 0 0]
theorem row0 (w : World) (N : Nat) : RowE w N (.slice none 0 0) k0.e := ⟨none, 0, rfl, Nat.le_refl _, by omega, fun h => absurd rfl h⟩
set_option maxHeartbeats 1000000 in
theorem specNewStore_any (w : World) : Calls Try.prog 14 #[] w fun e w' => e = .returned s0 ∧ Below w.heap.size w w' := by
  go_enter Try.func14, Try.ntmps14
  go_wp2
  exact bodyPost_ret (v := s0) (by simp [results, Try.results14, go_sem]) rfl ⟨rfl, (Below.refl _ _).alloc (Nat.le_refl _) _⟩
set_option maxHeartbeats 1000000 in
theorem implNewStore_any (w : World) : Calls Try.prog 15 #[] w fun e w' => e = .returned s0 ∧ Below w.heap.size w w' := by
  go_enter Try.func15, Try.ntmps15
  go_wp2
  exact bodyPost_ret (v := s0) (by simp [results, Try.results15, go_sem]) rfl ⟨rfl, (Below.refl _ _).alloc (Nat.le_refl _) _⟩
theorem eqRecS_nil (w : World) : Calls Try.prog 27 #[.slice none 0 0, .slice none 0 0] w fun e w' => e = .returned (.bool true) ∧ w = w' := by
  go_enter Try.func27, Try.ntmps27
  go_wp2
  refine wp_loop_rounds 1 ?_
  rw [rounds_succ]
  go_wp2
  go_ret
  exact ⟨rfl, rfl⟩
theorem markRecS_nil (q : Int) (w : World) : Calls Try.prog 28 #[.slice none 0 0, .int .i64 q] w fun e w' => e = .returned (.int .i64 q) ∧ w = w' := by
  go_enter Try.func28, Try.ntmps28
  go_wp2
  refine wp_loop_rounds 1 ?_
  rw [rounds_succ]
  go_wp2
  go_ret
  exact ⟨rfl, rfl⟩
theorem heldRecS_nil (q : Int) (w : World) : Calls Try.prog 38 #[.slice none 0 0, .int .i64 q] w fun e w' => e = .returned (.int .i64 q) ∧ w = w' := by
  go_enter Try.func38, Try.ntmps38
  go_wp2
  refine wp_loop_rounds 1 ?_
  rw [rounds_succ]
  go_wp2
  go_ret
  exact ⟨rfl, rfl⟩
set_option maxHeartbeats 1000000 in
theorem eqStore0 (w : World) : Calls Try.prog 13 #[s0, s0] w fun e w' => e = .returned (.bool true) ∧ Below w.heap.size w w' := by
  go_enter Try.func13, Try.ntmps13
  go_wp2_with fail
  obtain ⟨W, hW, bW, zW, c1, f1, c2, f2⟩ := boxed2 w #[.int .i64 0, .int .i64 (-1), .int .i64 0, .int .i64 0, .string ⟨#[]⟩, .slice none 0 0, .slice none 0 0] #[.int .i64 0, .int .i64 (-1), .int .i64 0, .int .i64 0, .string ⟨#[]⟩, .slice none 0 0, .slice none 0 0] 38 38
  simp only [hW]
  refine (eqKept_any k0 _ _ 0 W (Nat.zero_le _) (row0 _ _) (row0 _ _)).mono ?_
  rintro e w1 ⟨rfl, b1⟩
  replace c1 := keepC b1 (by omega) c1
  replace c2 := keepC b1 (by omega) c2
  have z1 := b1.size
  have HB := Hid.intro (bW.trans (b1.mono (by omega)))
  have hz1 : w.heap.size + 1 < w1.heap.size := by omega
  clear hW bW zW b1 f1 f2 z1
  go_wp2_with (go_at_call 27; refine (eqRecS_nil _).mono ?_; rintro e w2 ⟨rfl, rfl⟩)
  go_ret
  exact ⟨rfl, HB.out⟩
set_option maxHeartbeats 1000000 in
theorem markStore0 (w : World) : Calls Try.prog 16 #[s0, .int .i64 1] w fun e w' => e = .returned (.int .i64 1) ∧ Below w.heap.size w w' := by
  go_enter Try.func16, Try.ntmps16
  go_wp2_with fail
  obtain ⟨W, hW, bW, zW, c1, f1⟩ := boxed w #[.int .i64 0, .int .i64 (-1), .int .i64 0, .int .i64 0, .string ⟨#[]⟩, .slice none 0 0, .slice none 0 0] 38
  simp only [hW]
  refine (markKept_any k0 _ W.heap.size 1 W (Nat.le_refl _) (OwnE.nil _ _) (by simp [k0]) (by omega) (by omega)).mono ?_
  rintro e w1 ⟨rfl, _, q1⟩
  have b1 : Below W.heap.size W w1 := q1.below (Nat.le_refl _) (fun k hk h => by cases h)
  replace c1 := keepC b1 (by omega) c1
  have z1 := b1.size
  have HB := Hid.intro (bW.trans (b1.mono (by omega)))
  have hz1 : w.heap.size < w1.heap.size := by omega
  rw [show (1 : Int) + 2 * ((k0.e.length : Nat) : Int) = 1 from rfl]
  clear hW bW zW b1 f1 z1 q1
  go_wp2_with (go_at_call 28; refine (markRecS_nil _ _).mono ?_; rintro e w2 ⟨rfl, rfl⟩)
  go_ret
  exact ⟨rfl, HB.out⟩
set_option maxHeartbeats 1000000 in
theorem heldStore0 (w : World) : Calls Try.prog 17 #[s0, .int .i64 1] w fun e w' => e = .returned (.int .i64 1) ∧ Below w.heap.size w w' := by
  go_enter Try.func17, Try.ntmps17
  go_wp2_with fail
  obtain ⟨W, hW, bW, zW, c1, f1⟩ := boxed w #[.int .i64 0, .int .i64 (-1), .int .i64 0, .int .i64 0, .string ⟨#[]⟩, .slice none 0 0, .slice none 0 0] 38
  simp only [hW]
  refine (heldKept_any k0 [] _ 0 1 W (Nat.zero_le _) (row0 _ _) (fun i h => absurd h (by simp)) (by simp) (by omega) (by omega)).mono ?_
  rintro e w1 ⟨rfl, b1⟩
  replace c1 := keepC b1 (by omega) c1
  have z1 := b1.size
  have HB := Hid.intro (bW.trans (b1.mono (by omega)))
  have hz1 : w.heap.size < w1.heap.size := by omega
  rw [show (1 : Int) + 2 * ((([] : List En).length : Nat) : Int) = 1 from rfl]
  clear hW bW zW b1 f1 z1
  go_wp2_with (go_at_call 38; refine (heldRecS_nil _ _).mono ?_; rintro e w2 ⟨rfl, rfl⟩)
  go_ret
  exact ⟨rfl, HB.out⟩
set_option maxRecDepth 100000 in
set_option maxHeartbeats 4000000 in
theorem newStore_law (w : World) : Calls Try.prog 4 #[] w fun e w' => e = .returned (.bool true) ∧ Below w.heap.size w w' := by
  go_enter Try.func4, Try.ntmps4
  go_wp2_with fail
  refine (specNewStore_any w).mono ?_
  rintro e w1 ⟨rfl, b1⟩
  go_wp2_with fail
  obtain ⟨X1, hX1, bX1, zX1, d1, _⟩ := boxed w1 #[.int .i64 0, .int .i64 (-1), .int .i64 0, .int .i64 0, .string ⟨#[]⟩, .slice none 0 0, .slice none 0 0] 38
  simp only [hX1]
  have B1 := b1.trans (bX1.mono b1.size)
  clear hX1 bX1 b1
  refine (implNewStore_any X1).mono ?_
  rintro e w2 ⟨rfl, b2⟩
  replace d1 := keepC b2 (by omega) d1
  have zz2 : w1.heap.size < w2.heap.size := by have := b2.size; omega
  have B2 := B1.trans (b2.mono B1.size)
  clear b2 B1
  go_wp2_with fail
  obtain ⟨X2, hX2, bX2, zX2, d2, _⟩ := boxed w2 #[.int .i64 0, .int .i64 (-1), .int .i64 0, .int .i64 0, .string ⟨#[]⟩, .slice none 0 0, .slice none 0 0] 38
  simp only [hX2]
  replace d1 := keepC bX2 zz2 d1
  have B3 := B2.trans (bX2.mono B2.size)
  have zz3 : w1.heap.size < X2.heap.size := by omega
  have zz4 : w2.heap.size < X2.heap.size := by omega
  clear hX2 bX2 B2
  refine (eqStore0 X2).mono ?_
  rintro e w3 ⟨rfl, b3⟩
  replace d1 := keepC b3 zz3 d1
  replace d2 := keepC b3 zz4 d2
  have y3 : w1.heap.size < w3.heap.size ∧ w2.heap.size < w3.heap.size := by have := b3.size; omega
  have B4 := B3.trans (b3.mono B3.size)
  obtain ⟨y31, y32⟩ := y3
  clear b3 B3 zz3 zz4 zX1 zX2 zz2
  go_wp2_with fail
  refine (markStore0 w3).mono ?_
  rintro e w4 ⟨rfl, b4⟩
  replace d1 := keepC b4 y31 d1
  replace d2 := keepC b4 y32 d2
  have y41 : w1.heap.size < w4.heap.size := by have := b4.size; omega
  have y42 : w2.heap.size < w4.heap.size := by have := b4.size; omega
  have B5 := B4.trans (b4.mono B4.size)
  clear b4 B4 y31 y32
  go_wp2_with fail
  refine (heldStore0 w4).mono ?_
  rintro e w5 ⟨rfl, b5⟩
  replace d1 := keepC b5 y41 d1
  replace d2 := keepC b5 y42 d2
  have y51 : w1.heap.size < w5.heap.size := by have := b5.size; omega
  have y52 : w2.heap.size < w5.heap.size := by have := b5.size; omega
  have B6 := B5.trans (b5.mono B5.size)
  clear b5 B5 y41 y42
  go_wp2_with fail
  refine (implNewStore_any w5).mono ?_
  rintro e w6 ⟨rfl, b6⟩
  replace d1 := keepC b6 y51 d1
  replace d2 := keepC b6 y52 d2
  have y61 : w1.heap.size < w6.heap.size := by have := b6.size; omega
  have y62 : w2.heap.size < w6.heap.size := by have := b6.size; omega
  have B7 := B6.trans (b6.mono B6.size)
  clear b6 B6 y51 y52
  go_wp2_with fail
  obtain ⟨X3, hX3, bX3, zX3, d3, _⟩ := boxed w6 #[.int .i64 0, .int .i64 (-1), .int .i64 0, .int .i64 0, .string ⟨#[]⟩, .slice none 0 0, .slice none 0 0] 38
  simp only [hX3]
  replace d2 := keepC bX3 y62 d2
  have y72 : w2.heap.size < X3.heap.size := by omega
  have B8 := B7.trans (bX3.mono B7.size)
  clear hX3 bX3 B7 zX3 d1 d3
  refine (eqStore0 X3).mono ?_
  rintro e w7 ⟨rfl, b7⟩
  replace d2 := keepC b7 y72 d2
  have y82 : w2.heap.size < w7.heap.size := by have := b7.size; omega
  have B9 := B8.trans (b7.mono B8.size)
  clear b7 B8 y72 y61 y62
  go_wp2_with fail
  refine (heldStore0 w7).mono ?_
  rintro e w8 ⟨rfl, b8⟩
  have B10 := Hid.intro (B9.trans (b8.mono B9.size))
  clear b8 B9 d2 y82
  go_wp2
  go_ret
  exact ⟨rfl, B10.out⟩
end Go.Proofs.Ytmcgfknflbadbab
