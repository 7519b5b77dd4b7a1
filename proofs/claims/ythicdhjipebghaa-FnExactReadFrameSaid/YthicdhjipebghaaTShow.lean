/- Pieces, numbers below 0, rows of numbers as texts, on both sides. -/
import Derived.Test.YthicdhjipebghaaTVar
import Derived.Test.YthicdhjipebghaaTBld
import Derived.Test.YthicdhjipebghaaPMath
namespace Go.Proofs.Ythicdhjipebghaa
open Go.RowKit
set_option linter.unusedVariables false
/-- A text behind its length. -/
def piece (s : ByteArray) : ByteArray := varS s.size ++ s
theorem piece_le (s : ByteArray) : (piece s).size ≤ s.size + 7 := by
  have := varS_le s.size
  simp only [piece, ByteArray.size_append]; omega
/-- A number that may be below 0, laid between the others. -/
def foldN (n : Int) : Nat := if n < 0 then (-2 * n - 1).toNat else (2 * n).toNat
theorem foldN_neg {n : Int} (h : n < 0) : (foldN n : Int) = -2 * n - 1 := by rw [foldN, if_pos h]; omega
theorem foldN_pos {n : Int} (h : ¬ n < 0) : (foldN n : Int) = 2 * n := by rw [foldN, if_neg h]; omega
theorem foldN_le {n : Int} (h : -1000000 ≤ n ∧ n ≤ 1000000) : foldN n ≤ 562949953421311 := by
  rw [foldN]; split <;> omega
set_option maxRecDepth 100000 in
set_option maxHeartbeats 800000 in
theorem specPiece_any (s : ByteArray) (w : World) (hs : s.size ≤ 1048576) :
    Calls Try.prog 46 #[.string s] w fun e w' => e = .returned (.string (piece s)) ∧ Below w.heap.size w w' := by
  have hv := varS_le s.size
  go_enter Try.func46, Try.ntmps46
  go_wp2_with (go_at_call 28; refine (specVar_yes s.size _ (by omega)).mono ?_; rintro e w2 ⟨rfl, b2⟩)
  go_ret
  exact ⟨rfl, b2⟩
set_option maxRecDepth 100000 in
set_option maxHeartbeats 800000 in
theorem specSigned_any (n : Int) (w : World) (h : -1000000 ≤ n ∧ n ≤ 1000000) :
    Calls Try.prog 47 #[.int .i64 n] w fun e w' => e = .returned (.string (varS (foldN n))) ∧ Below w.heap.size w w' := by
  have hf := foldN_le h
  by_cases h0 : n < 0
  · have e0 := foldN_neg h0
    generalize foldN n = f at e0 hf ⊢
    go_enter Try.func47, Try.ntmps47
    go_wp2_with fail
    rw [← e0]
    refine (specVar_yes f _ hf).mono ?_
    rintro e w2 ⟨rfl, b2⟩
    go_wp2
    go_ret
    exact ⟨rfl, b2⟩
  · have e0 := foldN_pos h0
    generalize foldN n = f at e0 hf ⊢
    go_enter Try.func47, Try.ntmps47
    go_wp2_with fail
    rw [← e0]
    refine (specVar_yes f _ hf).mono ?_
    rintro e w2 ⟨rfl, b2⟩
    go_wp2
    go_ret
    exact ⟨rfl, b2⟩
/-- A row of numbers as a text. -/
def varsL (L : List Nat) : List UInt8 := L.flatMap varL
theorem varsL_snoc (L : List Nat) (j : Nat) (h : j < L.length) : varsL (L.take j) ++ varL L[j] = varsL (L.take (j + 1)) := by
  rw [List.take_succ_eq_append_getElem h]
  unfold varsL
  rw [List.flatMap_append]
  congr 1
  simp only [List.flatMap_cons, List.flatMap_nil, List.append_nil]
theorem varL_le (n : Nat) : (varL n).length ≤ 7 := (vby_length 6 n).2
theorem varsL_le (L : List Nat) : (varsL L).length ≤ 7 * L.length := by
  induction L with
  | nil => simp [varsL]
  | cons a L ih =>
    have := varL_le a
    simp only [varsL, List.flatMap_cons, List.length_append, List.length_cons] at ih ⊢
    omega
end Go.Proofs.Ythicdhjipebghaa
