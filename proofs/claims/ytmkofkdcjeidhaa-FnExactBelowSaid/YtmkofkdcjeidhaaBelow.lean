/- The contracts of the two Belows; the law. -/
import Derived.Test.YtmkofkdcjeidhaaClean
namespace Go.Proofs.Ytmkofkdcjeidhaa
open Go.RowKit
set_option linter.unusedVariables false

theorem clean_len {l : List UInt8} : (clean l).length ≤ 61 := by
  cases hp : pathB l with
  | false => rw [clean_no hp]; simp
  | true =>
    rw [clean_yes hp]
    unfold joinL
    split
    · simp
    · exact clean_bound (pathB_len hp).2
theorem clean_ne {l : List UInt8} (hp : pathB l = true) : clean l ≠ [] := by
  rw [clean_yes hp]
  unfold joinL
  split
  · simp
  · rename_i h
    cases hc : cleanL (partsL l) with
    | nil => exact absurd hc h
    | cons p r => simp [cat]

theorem path_of_clean (l : List UInt8) : pathB l = decide (clean l ≠ []) := by
  cases hp : pathB l with
  | false => simp [clean_no hp]
  | true => simp [clean_ne hp]
/-- Below, of the cleaned paths. -/
def bel (X Y : List UInt8) : Bool := decide (X ≠ []) && decide (Y ≠ []) && belowC X Y
theorem belowL_bel (a b : List UInt8) : belowL a b = bel (clean a) (clean b) := by
  rw [belowL, path_of_clean a, path_of_clean b]
  rfl
theorem prefix_take (X Z : List UInt8) (h : Z.length ≤ X.length) : (X.take Z.length == Z) = Z.isPrefixOf X := by
  rw [Bool.eq_iff_iff, beq_iff_eq, List.isPrefixOf_iff_prefix, List.prefix_iff_eq_take]
  exact ⟨fun h => h.symm, fun h => h.symm⟩
theorem prefix_short (X Z : List UInt8) (h : X.length < Z.length) : Z.isPrefixOf X = false := by
  rw [Bool.eq_false_iff]
  intro e
  have := (List.isPrefixOf_iff_prefix.1 e).length_le
  omega

theorem bel1 {X Y : List UInt8} (h : X = []) : false = bel X Y := by simp [bel, h]
theorem bel2 {X Y : List UInt8} (h : X.isEmpty = true ∨ Y.isEmpty = true) : false = bel X Y := by
  rcases h with h | h
  · simp [bel, List.isEmpty_iff.1 h]
  · simp [bel, List.isEmpty_iff.1 h]
theorem bel_ne {X Y : List UInt8} (h : X.isEmpty = false ∧ Y.isEmpty = false) : bel X Y = belowC X Y := by
  have h1 : X ≠ [] := fun e => by simp [e] at h
  have h2 : Y ≠ [] := fun e => by simp [e] at h
  simp [bel, h1, h2]
theorem bel3 {X Y : List UInt8} (h : X.isEmpty = false ∧ Y.isEmpty = false) (h' : Y = [47]) : true = bel X Y := by
  rw [bel_ne h]; simp [belowC, h']
theorem bel4 {X Y : List UInt8} (h : X.isEmpty = false ∧ Y.isEmpty = false) (h' : (Y == [47]) = true ∨ (X == Y) = true) : true = bel X Y := by
  rw [bel_ne h]
  rcases h' with h' | h'
  · simp [belowC, beq_iff_eq.1 h']
  · simp [belowC, beq_iff_eq.1 h']
theorem bel5 {X Y : List UInt8} (h : X.isEmpty = false ∧ Y.isEmpty = false) (h' : (Y == [47]) = false ∧ (X == Y) = false) (hl : Y.length < X.length) :
    ((ByteArray.mk X.toArray |>.extract 0 (Y.length + 1)).toList == (ByteArray.mk Y.toArray ++ ⟨#[47]⟩).toList) = bel X Y := by
  have e1 : Y ≠ [47] := by simpa using h'.1
  have e2 : X ≠ Y := by simpa using h'.2
  rw [bel_ne h, show (ByteArray.mk #[47]) = ByteArray.mk [47].toArray from rfl, append_mk, toList_mk, extract_seg, toList_mk]
  have e3 : seg (ByteArray.mk X.toArray).data.toList 0 (Y.length + 1) = X.take (Y ++ [47]).length := by simp [seg]
  rw [e3, prefix_take X (Y ++ [47]) (by simp; omega)]
  simp [belowC, e1, e2]
theorem bel6 {X Y : List UInt8} (h : X.isEmpty = false ∧ Y.isEmpty = false) (h' : (Y == [47]) = false ∧ (X == Y) = false) (hl : ¬ Y.length < X.length) : false = bel X Y := by
  have e1 : Y ≠ [47] := by simpa using h'.1
  have e2 : X ≠ Y := by simpa using h'.2
  rw [bel_ne h]
  have e3 := prefix_short X (Y ++ [47]) (by simp; omega)
  simp [belowC, e1, e2, e3]

set_option maxHeartbeats 400000 in
theorem specBelow_any (s t : ByteArray) (w : World) (hs : s.size ≤ 1048576) (ht : t.size ≤ 1048576) :
    Calls Try.prog 24 #[.string s, .string t] w fun e w' => e = .returned (.bool (belowL s.data.toList t.data.toList)) ∧ Below w.heap.size w w' := by
  have S1 := Hid.intro (fun w => specClean_any s w hs)
  have T1 := Hid.intro (fun w => specClean_any t w ht)
  have x61 := clean_len (l := s.data.toList)
  have y61 := clean_len (l := t.data.toList)
  have HB := Hid.intro (belowL_bel s.data.toList t.data.toList)
  generalize hX : clean s.data.toList = X at *
  generalize hY : clean t.data.toList = Y at *
  clear hX hY
  go_enter Try.func24, Try.ntmps24
  go_wp2_with fail
  refine (S1.out _).mono ?_
  rintro e w1 ⟨rfl, b1⟩
  go_wp2_with fail
  refine (T1.out _).mono ?_
  rintro e w2 ⟨rfl, b2⟩
  go_wp2
  all_goals have bb := b1.trans (b2.mono b1.size)
  all_goals go_ret
  all_goals refine ⟨ret_bool ?_, bb⟩
  all_goals rw [HB.out]
  all_goals clear HB S1 T1 b1 b2 bb
  · exact bel1 (by assumption)
  · exact bel2 (by assumption)
  · exact bel3 (by assumption) (by assumption)
  · exact bel4 (by assumption) (by assumption)
  · exact bel5 (by assumption) (by assumption) (by assumption)
  · exact bel6 (by assumption) (by assumption) (by assumption)

set_option maxHeartbeats 400000 in
theorem implBelow_any (s t : ByteArray) (w : World) (hs : s.size ≤ 1048576) (ht : t.size ≤ 1048576) :
    Calls Try.prog 13 #[.string s, .string t] w fun e w' => e = .returned (.bool (belowL s.data.toList t.data.toList)) ∧ Below w.heap.size w w' := by
  cases hp : pathB s.data.toList with
  | false =>
    have HB : Hid (belowL s.data.toList t.data.toList = false) := by unfold Hid belowL; rw [hp]; rfl
    go_enter Try.func13, Try.ntmps13
    go_wp2_with fail
    refine (implPathOk_any s _ hs).mono ?_
    rintro e w1 ⟨rfl, rfl⟩
    go_wp2
    go_ret
    exact ⟨ret_bool HB.out.symm, Below.refl _ _⟩
  | true =>
    cases hq : pathB t.data.toList with
    | false =>
      have HB : Hid (belowL s.data.toList t.data.toList = false) := by unfold Hid belowL; rw [hq]; simp
      go_enter Try.func13, Try.ntmps13
      go_wp2_with fail
      refine (implPathOk_any s _ hs).mono ?_
      rintro e w1 ⟨rfl, rfl⟩
      go_wp2_with fail
      refine (implPathOk_any t _ ht).mono ?_
      rintro e w1 ⟨rfl, rfl⟩
      go_wp2
      go_ret
      exact ⟨ret_bool HB.out.symm, Below.refl _ _⟩
    | true =>
      have S1 := Hid.intro (fun w => implClean_any s w hs)
      have T1 := Hid.intro (fun w => implClean_any t w ht)
      have x61 := clean_len (l := s.data.toList)
      have y61 := clean_len (l := t.data.toList)
      have HB : Hid (belowL s.data.toList t.data.toList = belowC (clean s.data.toList) (clean t.data.toList)) := by unfold Hid belowL; rw [hp, hq]; simp
      generalize hX : clean s.data.toList = X at *
      generalize hY : clean t.data.toList = Y at *
      clear hX hY
      go_enter Try.func13, Try.ntmps13
      go_wp2_with fail
      refine (implPathOk_any s _ hs).mono ?_
      rintro e w1 ⟨rfl, rfl⟩
      go_wp2_with fail
      refine (implPathOk_any t _ ht).mono ?_
      rintro e w1 ⟨rfl, rfl⟩
      go_wp2_with fail
      refine (S1.out _).mono ?_
      rintro e w1 ⟨rfl, b1⟩
      go_wp2_with fail
      refine (T1.out _).mono ?_
      rintro e w2 ⟨rfl, b2⟩
      have bb := b1.trans (b2.mono b1.size)
      cases h1 : (Y == [47]) with
      | true =>
        go_wp2
        go_ret
        exact ⟨ret_bool (by rw [HB.out, belowC, beq_iff_eq.1 h1]; simp), bb⟩
      | false =>
        cases h2 : (X == Y) with
        | true =>
          go_wp2
          go_ret
          exact ⟨ret_bool (by rw [HB.out, belowC, beq_iff_eq.1 h2]; simp), bb⟩
        | false =>
          go_wp2_with fail
          refine (sh_strings_HasPrefix _ _ _).mono ?_
          rintro e w3 ⟨rfl, rfl⟩
          go_wp2
          go_ret
          refine ⟨ret_bool ?_, bb⟩
          rw [HB.out]
          have e1 : Y ≠ [47] := by simpa using h1
          have e2 : X ≠ Y := by simpa using h2
          simp [belowC, e1, e2, Lib.hasPrefix]

set_option maxHeartbeats 400000 in
theorem below_law (s t : ByteArray) (w : World) (hs : s.size ≤ maxLen) (ht : t.size ≤ maxLen) :
    Calls Try.prog 8 #[.string s, .string t] w fun e w' => e = .returned (.bool true) ∧ Below w.heap.size w w' := by
  have hs' : s.size ≤ 9223372036854775807 := hs
  have ht' : t.size ≤ 9223372036854775807 := ht
  by_cases h : 1048576 < (s.size : Int)
  · go_enter Try.func8, Try.ntmps8
    go_wp2
    go_ret
    exact ⟨rfl, Below.refl _ _⟩
  by_cases h2 : 1048576 < (t.size : Int)
  · go_enter Try.func8, Try.ntmps8
    go_wp2
    go_ret
    exact ⟨rfl, Below.refl _ _⟩
  clear hs ht
  go_enter Try.func8, Try.ntmps8
  go_wp2_with fail
  refine (specBelow_any s t _ (by omega) (by omega)).mono ?_
  rintro e w1 ⟨rfl, b1⟩
  go_wp2_with fail
  refine (implBelow_any s t _ (by omega) (by omega)).mono ?_
  rintro e w2 ⟨rfl, b2⟩
  go_wp2
  go_ret
  exact ⟨rfl, b1.trans (b2.mono b1.size)⟩

end Go.Proofs.Ytmkofkdcjeidhaa
