/- The law FnNumbers, way by way. -/
import Derived.Test.YtofgpnhieopcoaaDoorNumA
namespace Go.Proofs.YtofgpnhieopcoaaDoor
open Go.RowKit
set_option linter.unusedVariables false

theorem readVar_var (m : Nat) (hm : m ≤ 562949953421311) (T : ByteArray) (hT : T.size ≤ 40) (w : World) :
    Calls Tryd.prog 8 #[.string (varS m ++ T)] w fun e w' => e = .returned (.tuple #[.int .i64 m, .int .i64 (varS m).size]) ∧ w = w' := by
  have hz := varS_size m
  obtain ⟨x, k, h, c⟩ := readVar_all (varS m ++ T) (by rw [ByteArray.size_append]; omega)
  have e : (varS m ++ T).data.toList = varL m ++ T.data.toList := by
    rw [ByteArray.data_append]
    simp [varS]
  rw [e] at h
  obtain ⟨rfl, hk⟩ := RV_unique h (RV_var m hm T.data.toList)
  have hs : (varS x).size = (varL x).length := by
    show (varL x).toArray.size = _
    simp
  rw [hk, ← hs] at c
  exact c w

theorem readFixed_fixed (m : Nat) (hm : m < 72057594037927936) (T : ByteArray) (hT : T.size ≤ 40) (w : World) :
    Calls Tryd.prog 10 #[.string (beS m 7 ++ T), .int .i64 7] w fun e w' => e = .returned (.tuple #[.int .i64 m, .bool true]) ∧ w = w' := by
  have hz := beS_size m 7
  obtain ⟨y, b, h, c⟩ := readFixed_all (beS m 7 ++ T) (by rw [ByteArray.size_append]; omega)
  obtain ⟨rfl, rfl⟩ := h (by rw [ByteArray.size_append]; omega)
  have e : (beS m 7 ++ T).data.toList = be m 7 ++ T.data.toList := by
    rw [ByteArray.data_append]
    simp [beS]
  rw [e, rd_fixed m hm] at c
  exact c w

theorem toList_ne {s : ByteArray} (h : 1 ≤ s.size) : s.toList.isEmpty = false := by
  rw [ByteArray.toList_eq]
  cases hh : s.data.toList with
  | nil =>
    have : s.data.toList.length = s.size := by simp
    rw [hh] at this
    simp at this
    omega
  | cons c l => rfl

theorem fixed_at (m : Nat) (hm : m < 72057594037927936) (w : World) :
    Calls Tryd.prog 9 #[.int .i64 m, .int .i64 7] w fun e w' => e = .returned (.string (beS m 7)) ∧ Below w.heap.size w w' := by
  have h := implFixed_yes m 7 w (by omega) (by omega) (by omega)
  rw [fixedS_yes (fixed_small m hm)] at h
  exact h

/-- What the law is told of its draws. -/
structure Told (zs : List Int) (len : Nat) (n : Int) (T R : ByteArray) : Prop where
  d1 : Drawn zs len 5 (.int .i64 n)
  d2 : Drawn zs len 6 (.string T)
  d3 : Drawn zs len 15 (.string R)
  t : T.size ≤ 40
  r : R.size ≤ 3000

/-- The same, of an int. -/
theorem var_at (n : Int) (w : World) (h0 : 0 ≤ n) (h1 : n ≤ 562949953421311) :
    Calls Tryd.prog 7 #[.int .i64 n] w fun e w' => e = .returned (.string (varS n.toNat)) ∧ Below w.heap.size w w' := by
  obtain ⟨m, rfl⟩ := Int.eq_ofNat_of_zero_le h0
  exact implVar_yes m w (by omega)
theorem readVar_varI (n : Int) (h0 : 0 ≤ n) (h1 : n ≤ 562949953421311) (T : ByteArray) (hT : T.size ≤ 40) (w : World) :
    Calls Tryd.prog 8 #[.string (varS n.toNat ++ T)] w fun e w' => e = .returned (.tuple #[.int .i64 n, .int .i64 (varS n.toNat).size]) ∧ w = w' := by
  obtain ⟨m, rfl⟩ := Int.eq_ofNat_of_zero_le h0
  exact readVar_var m (by omega) T hT w
theorem fixed_atI (n : Int) (h0 : 0 ≤ n) (h1 : n < 72057594037927936) (w : World) :
    Calls Tryd.prog 9 #[.int .i64 n, .int .i64 7] w fun e w' => e = .returned (.string (beS n.toNat 7)) ∧ Below w.heap.size w w' := by
  obtain ⟨m, rfl⟩ := Int.eq_ofNat_of_zero_le h0
  exact fixed_at m (by omega) w
theorem readFixed_fixedI (n : Int) (h0 : 0 ≤ n) (h1 : n < 72057594037927936) (T : ByteArray) (hT : T.size ≤ 40) (w : World) :
    Calls Tryd.prog 10 #[.string (beS n.toNat 7 ++ T), .int .i64 7] w fun e w' => e = .returned (.tuple #[.int .i64 n, .bool true]) ∧ w = w' := by
  obtain ⟨m, rfl⟩ := Int.eq_ofNat_of_zero_le h0
  exact readFixed_fixed m (by omega) T hT w

/-- Var of a number that it does not take. -/
theorem var_out (n : Int) (w : World) (h : n < 0 ∨ 562949953421311 < n) :
    Calls Tryd.prog 7 #[.int .i64 n] w fun e w' => e = .returned (.string ByteArray.empty) ∧ Below w.heap.size w w' := by
  refine (implVar_no n w h).mono ?_
  rintro e w' ⟨rfl, rfl⟩
  exact ⟨rfl, Below.refl _ _⟩

/-- Fixed of seven bytes of a number that has no room there. -/
theorem fixed_out (n : Int) (h : n < 0 ∨ 72057594037927936 ≤ n) (h1 : n ≤ 9223372036854775807) (w : World) :
    Calls Tryd.prog 9 #[.int .i64 n, .int .i64 7] w fun e w' => e = .returned (.string ByteArray.empty) ∧ Below w.heap.size w w' := by
  by_cases h0 : n < 0
  · refine (implFixed_no n 7 w (by omega)).mono ?_
    rintro e w' ⟨rfl, rfl⟩
    exact ⟨rfl, Below.refl _ _⟩
  · obtain ⟨m, rfl⟩ := Int.eq_ofNat_of_zero_le (show 0 ≤ n by omega)
    have h := implFixed_yes m 7 w (by omega) (by omega) (by omega)
    rw [fixedS_no (fixed_great m (by omega))] at h
    exact h

theorem empty_isEmpty : ByteArray.empty.toList.isEmpty = true := by
  rw [ByteArray.toList_eq]
  rfl

/-- What is read at the front of a text is what is made of the number. -/
theorem front_eq {R : ByteArray} {x k : Nat} (h : varL x = R.data.toList.take k) : ((varS x).toList == (R.extract 0 k).toList) = true := by
  have e : (varS x).toList = (R.extract 0 k).toList := by
    rw [ByteArray.toList_eq, ByteArray.toList_eq]
    show (varL x).toArray.toList = _
    rw [ByteArray.data_extract, Array.toList_extract]
    simp [h]
  rw [e]
  simp

theorem or_of {a b : Bool} (h : b = true) : (a || b) = true := by
  rw [h, Bool.or_true]

end Go.Proofs.YtofgpnhieopcoaaDoor
