/- Calls: how one lies in memory; what it is to be right; CallOk on both sides. -/
import Derived.Test.YthicdhjipebghaaTLeaf
import Derived.Deep.Cut
namespace Go.Proofs.Ythicdhjipebghaa
open Go.RowKit
set_option linter.unusedVariables false
/-- A call. -/
structure Ca where
  k : Int
  p : ByteArray
  to : ByteArray
  n : Int
  m : Int
  d : ByteArray
def caC (c : Ca) : List Value := [.int .i64 c.k, .string c.p, .string c.to, .int .i64 c.n, .int .i64 c.m, .string c.d]
@[reducible] def caV (c : Ca) : Value := .agg #[.int .i64 c.k, .string c.p, .string c.to, .int .i64 c.n, .int .i64 c.m, .string c.d]
def callP (c : Ca) : Prop := ((1 ≤ c.k ∧ c.k ≤ 22) ∧ c.p.size ≤ 60 ∧ c.to.size ≤ 60 ∧ c.d.size ≤ 64 ∧ (-1000000 ≤ c.n ∧ c.n ≤ 1000000) ∧ (-1000000 ≤ c.m ∧ c.m ≤ 1000000)) ∧ (c.to.size = 0 ∨ c.k = 9 ∨ c.k = 10 ∨ c.k = 12) ∧ (c.d.size = 0 ∨ c.k = 5 ∨ c.k = 6)
instance (c : Ca) : Decidable (callP c) := by unfold callP; infer_instance
def callB (c : Ca) : Bool := decide (callP c)
theorem toList_go (s : ByteArray) : s.toList = s.data.toList := by rw [ByteArray.toList_eq]
theorem empty_of {d : ByteArray} (h : d.size = 0) : d = ⟨#[]⟩ := by
  obtain ⟨a⟩ := d
  congr
  exact Array.eq_empty_of_size_eq_zero h
set_option maxHeartbeats 1000000 in
theorem namesTo_any (c : Ca) (w : World) :
    Calls Try.prog 56 #[caV c] w fun e w' => e = .returned (.bool (decide (c.k = 9 ∨ c.k = 10 ∨ c.k = 12))) ∧ Below w.heap.size w w' := by
  by_cases e9 : c.k = 9
  · have f9 : (c.k == 9) = true := by simpa using e9
    go_enter Try.func56, Try.ntmps56
    go_wp2
    go_ret
    exact ⟨ret_bool (by simp [*]), (Below.refl _ _).alloc (Nat.le_refl _) _⟩
  · have f9 : (c.k == 9) = false := by simpa using e9
    by_cases e10 : c.k = 10
    · have f10 : (c.k == 10) = true := by simpa using e10
      go_enter Try.func56, Try.ntmps56
      go_wp2
      go_ret
      exact ⟨ret_bool (by simp [*]), (Below.refl _ _).alloc (Nat.le_refl _) _⟩
    · have f10 : (c.k == 10) = false := by simpa using e10
      by_cases e12 : c.k = 12
      · have f12 : (c.k == 12) = true := by simpa using e12
        go_enter Try.func56, Try.ntmps56
        go_wp2
        go_ret
        exact ⟨ret_bool (by simp [*]), (Below.refl _ _).alloc (Nat.le_refl _) _⟩
      · have f12 : (c.k == 12) = false := by simpa using e12
        go_enter Try.func56, Try.ntmps56
        go_wp2
        go_ret
        exact ⟨ret_bool (by simp [*]), (Below.refl _ _).alloc (Nat.le_refl _) _⟩
set_option maxHeartbeats 1000000 in
theorem bearsData_any (c : Ca) (w : World) :
    Calls Try.prog 57 #[caV c] w fun e w' => e = .returned (.bool (decide (c.k = 5 ∨ c.k = 6))) ∧ Below w.heap.size w w' := by
  by_cases e5 : c.k = 5
  · have f5 : (c.k == 5) = true := by simpa using e5
    go_enter Try.func57, Try.ntmps57
    go_wp2
    go_ret
    exact ⟨ret_bool (by simp [*]), (Below.refl _ _).alloc (Nat.le_refl _) _⟩
  · have f5 : (c.k == 5) = false := by simpa using e5
    by_cases e6 : c.k = 6
    · have f6 : (c.k == 6) = true := by simpa using e6
      go_enter Try.func57, Try.ntmps57
      go_wp2
      go_ret
      exact ⟨ret_bool (by simp [*]), (Below.refl _ _).alloc (Nat.le_refl _) _⟩
    · have f6 : (c.k == 6) = false := by simpa using e6
      go_enter Try.func57, Try.ntmps57
      go_wp2
      go_ret
      exact ⟨ret_bool (by simp [*]), (Below.refl _ _).alloc (Nat.le_refl _) _⟩
theorem bs_mt {d : ByteArray} (h : d.size = 0) : d.toList.isEmpty = true := by rw [empty_of h, toList_go]; rfl
theorem size_of_nil {d : ByteArray} (h : d.toList = []) : d.size = 0 := by
  rw [toList_go] at h
  have := congrArg List.length h
  simpa using this
theorem bs_ne {d : ByteArray} (h : ¬ d.size = 0) : d.toList.isEmpty = false := by
  cases h2 : d.toList.isEmpty with
  | true => exact absurd (size_of_nil (List.isEmpty_iff.1 h2)) h
  | false => rfl
theorem callB_iff (c : Ca) : callB c = true ↔ callP c := decide_eq_true_iff
theorem callB_yes {c : Ca} (h : callP c) : true = callB c := ((callB_iff c).2 h).symm
theorem callB_no {c : Ca} (h : ¬ callP c) : false = callB c := by
  cases hb : callB c with
  | false => rfl
  | true => exact absurd ((callB_iff c).1 hb) h
set_option maxRecDepth 100000 in
set_option maxHeartbeats 8000000 in
theorem specCallOk_any (c : Ca) (w : World) :
    Calls Try.prog 45 #[caV c] w fun e w' => e = .returned (.bool (callB c)) ∧ Below w.heap.size w w' := by
  by_cases h1 : 1 ≤ c.k ∧ c.k ≤ 22
  · have b1 := inB_true h1
    by_cases h2 : (c.p.size : Int) > 60
    · skip
      go_enter Try.func45, Try.ntmps45
      go_wp2_with (go_at_call 42; refine (l1In_any _ _ _ _).mono ?_; rintro e w9 ⟨rfl, rfl⟩)
      go_ret
      exact ⟨ret_bool (by first | exact callB_yes (by unfold callP; omega) | exact callB_no (by unfold callP; omega)), (Below.refl _ _).alloc (Nat.le_refl _) _⟩
    · skip
      by_cases h3 : (c.to.size : Int) > 60
      · skip
        go_enter Try.func45, Try.ntmps45
        go_wp2_with (go_at_call 42; refine (l1In_any _ _ _ _).mono ?_; rintro e w9 ⟨rfl, rfl⟩)
        go_ret
        exact ⟨ret_bool (by first | exact callB_yes (by unfold callP; omega) | exact callB_no (by unfold callP; omega)), (Below.refl _ _).alloc (Nat.le_refl _) _⟩
      · skip
        by_cases h4 : (c.d.size : Int) > 64
        · skip
          go_enter Try.func45, Try.ntmps45
          go_wp2_with (go_at_call 42; refine (l1In_any _ _ _ _).mono ?_; rintro e w9 ⟨rfl, rfl⟩)
          go_ret
          exact ⟨ret_bool (by first | exact callB_yes (by unfold callP; omega) | exact callB_no (by unfold callP; omega)), (Below.refl _ _).alloc (Nat.le_refl _) _⟩
        · skip
          by_cases h5 : -1000000 ≤ c.n ∧ c.n ≤ 1000000
          · have b5 := inB_true h5
            by_cases h6 : -1000000 ≤ c.m ∧ c.m ≤ 1000000
            · have b6 := inB_true h6
              by_cases z2 : c.to.size = 0
              · have y2 := bs_mt z2
                by_cases z5 : c.d.size = 0
                · have y5 := bs_mt z5
                  go_enter Try.func45, Try.ntmps45
                  go_wp2_with (go_at_call 42; refine (l1In_any _ _ _ _).mono ?_; rintro e w9 ⟨rfl, rfl⟩)
                  go_ret
                  exact ⟨ret_bool (by first | exact callB_yes (by unfold callP; omega) | exact callB_no (by unfold callP; omega)), (Below.refl _ _).alloc (Nat.le_refl _) _⟩
                · have y5 := bs_ne z5
                  by_cases e5 : c.k = 5
                  · have f5 : (c.k == 5) = true := by simpa using e5
                    have g5 : (c.k != 5) = false := by simpa using e5
                    go_enter Try.func45, Try.ntmps45
                    go_wp2_with (go_at_call 42; refine (l1In_any _ _ _ _).mono ?_; rintro e w9 ⟨rfl, rfl⟩)
                    go_ret
                    exact ⟨ret_bool (by first | exact callB_yes (by unfold callP; omega) | exact callB_no (by unfold callP; omega)), (Below.refl _ _).alloc (Nat.le_refl _) _⟩
                  · have f5 : (c.k == 5) = false := by simpa using e5
                    have g5 : (c.k != 5) = true := by simpa using e5
                    by_cases e6 : c.k = 6
                    · have f6 : (c.k == 6) = true := by simpa using e6
                      have g6 : (c.k != 6) = false := by simpa using e6
                      go_enter Try.func45, Try.ntmps45
                      go_wp2_with (go_at_call 42; refine (l1In_any _ _ _ _).mono ?_; rintro e w9 ⟨rfl, rfl⟩)
                      go_ret
                      exact ⟨ret_bool (by first | exact callB_yes (by unfold callP; omega) | exact callB_no (by unfold callP; omega)), (Below.refl _ _).alloc (Nat.le_refl _) _⟩
                    · have f6 : (c.k == 6) = false := by simpa using e6
                      have g6 : (c.k != 6) = true := by simpa using e6
                      go_enter Try.func45, Try.ntmps45
                      go_wp2_with (go_at_call 42; refine (l1In_any _ _ _ _).mono ?_; rintro e w9 ⟨rfl, rfl⟩)
                      go_ret
                      exact ⟨ret_bool (by first | exact callB_yes (by unfold callP; omega) | exact callB_no (by unfold callP; omega)), (Below.refl _ _).alloc (Nat.le_refl _) _⟩
              · have y2 := bs_ne z2
                by_cases e9 : c.k = 9
                · have f9 : (c.k == 9) = true := by simpa using e9
                  have g9 : (c.k != 9) = false := by simpa using e9
                  have f5 : (c.k == 5) = false := by simp [*]
                  have f6 : (c.k == 6) = false := by simp [*]
                  by_cases z5 : c.d.size = 0
                  · have y5 := bs_mt z5
                    go_enter Try.func45, Try.ntmps45
                    go_wp2_with (go_at_call 42; refine (l1In_any _ _ _ _).mono ?_; rintro e w9 ⟨rfl, rfl⟩)
                    go_ret
                    exact ⟨ret_bool (by first | exact callB_yes (by unfold callP; omega) | exact callB_no (by unfold callP; omega)), (Below.refl _ _).alloc (Nat.le_refl _) _⟩
                  · have y5 := bs_ne z5
                    go_enter Try.func45, Try.ntmps45
                    go_wp2_with (go_at_call 42; refine (l1In_any _ _ _ _).mono ?_; rintro e w9 ⟨rfl, rfl⟩)
                    go_ret
                    exact ⟨ret_bool (by first | exact callB_yes (by unfold callP; omega) | exact callB_no (by unfold callP; omega)), (Below.refl _ _).alloc (Nat.le_refl _) _⟩
                · have f9 : (c.k == 9) = false := by simpa using e9
                  have g9 : (c.k != 9) = true := by simpa using e9
                  by_cases e10 : c.k = 10
                  · have f10 : (c.k == 10) = true := by simpa using e10
                    have g10 : (c.k != 10) = false := by simpa using e10
                    have f5 : (c.k == 5) = false := by simp [*]
                    have f6 : (c.k == 6) = false := by simp [*]
                    by_cases z5 : c.d.size = 0
                    · have y5 := bs_mt z5
                      go_enter Try.func45, Try.ntmps45
                      go_wp2_with (go_at_call 42; refine (l1In_any _ _ _ _).mono ?_; rintro e w9 ⟨rfl, rfl⟩)
                      go_ret
                      exact ⟨ret_bool (by first | exact callB_yes (by unfold callP; omega) | exact callB_no (by unfold callP; omega)), (Below.refl _ _).alloc (Nat.le_refl _) _⟩
                    · have y5 := bs_ne z5
                      go_enter Try.func45, Try.ntmps45
                      go_wp2_with (go_at_call 42; refine (l1In_any _ _ _ _).mono ?_; rintro e w9 ⟨rfl, rfl⟩)
                      go_ret
                      exact ⟨ret_bool (by first | exact callB_yes (by unfold callP; omega) | exact callB_no (by unfold callP; omega)), (Below.refl _ _).alloc (Nat.le_refl _) _⟩
                  · have f10 : (c.k == 10) = false := by simpa using e10
                    have g10 : (c.k != 10) = true := by simpa using e10
                    by_cases e12 : c.k = 12
                    · have f12 : (c.k == 12) = true := by simpa using e12
                      have g12 : (c.k != 12) = false := by simpa using e12
                      have f5 : (c.k == 5) = false := by simp [*]
                      have f6 : (c.k == 6) = false := by simp [*]
                      by_cases z5 : c.d.size = 0
                      · have y5 := bs_mt z5
                        go_enter Try.func45, Try.ntmps45
                        go_wp2_with (go_at_call 42; refine (l1In_any _ _ _ _).mono ?_; rintro e w9 ⟨rfl, rfl⟩)
                        go_ret
                        exact ⟨ret_bool (by first | exact callB_yes (by unfold callP; omega) | exact callB_no (by unfold callP; omega)), (Below.refl _ _).alloc (Nat.le_refl _) _⟩
                      · have y5 := bs_ne z5
                        go_enter Try.func45, Try.ntmps45
                        go_wp2_with (go_at_call 42; refine (l1In_any _ _ _ _).mono ?_; rintro e w9 ⟨rfl, rfl⟩)
                        go_ret
                        exact ⟨ret_bool (by first | exact callB_yes (by unfold callP; omega) | exact callB_no (by unfold callP; omega)), (Below.refl _ _).alloc (Nat.le_refl _) _⟩
                    · have f12 : (c.k == 12) = false := by simpa using e12
                      have g12 : (c.k != 12) = true := by simpa using e12
                      go_enter Try.func45, Try.ntmps45
                      go_wp2_with (go_at_call 42; refine (l1In_any _ _ _ _).mono ?_; rintro e w9 ⟨rfl, rfl⟩)
                      go_ret
                      exact ⟨ret_bool (by first | exact callB_yes (by unfold callP; omega) | exact callB_no (by unfold callP; omega)), (Below.refl _ _).alloc (Nat.le_refl _) _⟩
            · have b6 := inB_false h6
              go_enter Try.func45, Try.ntmps45
              go_wp2_with (go_at_call 42; refine (l1In_any _ _ _ _).mono ?_; rintro e w9 ⟨rfl, rfl⟩)
              go_ret
              exact ⟨ret_bool (by first | exact callB_yes (by unfold callP; omega) | exact callB_no (by unfold callP; omega)), (Below.refl _ _).alloc (Nat.le_refl _) _⟩
          · have b5 := inB_false h5
            go_enter Try.func45, Try.ntmps45
            go_wp2_with (go_at_call 42; refine (l1In_any _ _ _ _).mono ?_; rintro e w9 ⟨rfl, rfl⟩)
            go_ret
            exact ⟨ret_bool (by first | exact callB_yes (by unfold callP; omega) | exact callB_no (by unfold callP; omega)), (Below.refl _ _).alloc (Nat.le_refl _) _⟩
  · have b1 := inB_false h1
    go_enter Try.func45, Try.ntmps45
    go_wp2_with (go_at_call 42; refine (l1In_any _ _ _ _).mono ?_; rintro e w9 ⟨rfl, rfl⟩)
    go_ret
    exact ⟨ret_bool (by first | exact callB_yes (by unfold callP; omega) | exact callB_no (by unfold callP; omega)), (Below.refl _ _).alloc (Nat.le_refl _) _⟩
set_option maxRecDepth 100000 in
set_option maxHeartbeats 8000000 in
theorem implCallOk_any (c : Ca) (w : World) :
    Calls Try.prog 51 #[caV c] w fun e w' => e = .returned (.bool (callB c)) ∧ Below w.heap.size w w' := by
  by_cases h1 : 1 ≤ c.k ∧ c.k ≤ 22
  · have b1 := inB_true h1
    by_cases h2 : (c.p.size : Int) > 60
    · skip
      go_enter Try.func51, Try.ntmps51
      go_upto_region 1 with fail
      obtain ⟨W, hW, bW, zW, cW, fW⟩ := boxed w #[.int .i64 c.k, .string c.p, .string c.to, .int .i64 c.n, .int .i64 c.m, .string c.d] 45
      try simp only [hW]
      have BL := bW
      clear hW bW fW
      go_wp2_with (first | (go_at_call 32; refine (within_any _ _ _ _).mono ?_; rintro e w9 ⟨rfl, rfl⟩) | (go_at_call 56; refine (namesTo_any c _).mono ?_; rintro e w5 ⟨rfl, b5⟩; replace cW := keepC b5 (by omega) cW; replace BL := BL.trans (b5.mono (by omega)); have z5' := b5.size; clear b5; simp only [NT]) | (go_at_call 57; refine (bearsData_any c _).mono ?_; rintro e w6 ⟨rfl, b6'⟩; replace cW := keepC b6' (by omega) cW; replace BL := BL.trans (b6'.mono (by omega)); clear b6'; simp only [BD]))
      go_ret
      exact ⟨ret_bool (by first | exact callB_yes (by unfold callP; omega) | exact callB_no (by unfold callP; omega)), BL⟩
    · skip
      by_cases h3 : (c.to.size : Int) > 60
      · skip
        go_enter Try.func51, Try.ntmps51
        go_upto_region 1 with fail
        obtain ⟨W, hW, bW, zW, cW, fW⟩ := boxed w #[.int .i64 c.k, .string c.p, .string c.to, .int .i64 c.n, .int .i64 c.m, .string c.d] 45
        try simp only [hW]
        have BL := bW
        clear hW bW fW
        go_wp2_with (first | (go_at_call 32; refine (within_any _ _ _ _).mono ?_; rintro e w9 ⟨rfl, rfl⟩) | (go_at_call 56; refine (namesTo_any c _).mono ?_; rintro e w5 ⟨rfl, b5⟩; replace cW := keepC b5 (by omega) cW; replace BL := BL.trans (b5.mono (by omega)); have z5' := b5.size; clear b5; simp only [NT]) | (go_at_call 57; refine (bearsData_any c _).mono ?_; rintro e w6 ⟨rfl, b6'⟩; replace cW := keepC b6' (by omega) cW; replace BL := BL.trans (b6'.mono (by omega)); clear b6'; simp only [BD]))
        go_ret
        exact ⟨ret_bool (by first | exact callB_yes (by unfold callP; omega) | exact callB_no (by unfold callP; omega)), BL⟩
      · skip
        by_cases h4 : (c.d.size : Int) > 64
        · skip
          go_enter Try.func51, Try.ntmps51
          go_upto_region 1 with fail
          obtain ⟨W, hW, bW, zW, cW, fW⟩ := boxed w #[.int .i64 c.k, .string c.p, .string c.to, .int .i64 c.n, .int .i64 c.m, .string c.d] 45
          try simp only [hW]
          have BL := bW
          clear hW bW fW
          go_wp2_with (first | (go_at_call 32; refine (within_any _ _ _ _).mono ?_; rintro e w9 ⟨rfl, rfl⟩) | (go_at_call 56; refine (namesTo_any c _).mono ?_; rintro e w5 ⟨rfl, b5⟩; replace cW := keepC b5 (by omega) cW; replace BL := BL.trans (b5.mono (by omega)); have z5' := b5.size; clear b5; simp only [NT]) | (go_at_call 57; refine (bearsData_any c _).mono ?_; rintro e w6 ⟨rfl, b6'⟩; replace cW := keepC b6' (by omega) cW; replace BL := BL.trans (b6'.mono (by omega)); clear b6'; simp only [BD]))
          go_ret
          exact ⟨ret_bool (by first | exact callB_yes (by unfold callP; omega) | exact callB_no (by unfold callP; omega)), BL⟩
        · skip
          by_cases z2 : c.to.size = 0
          · have y2 := bs_mt z2
            by_cases z5 : c.d.size = 0
            · have y5 := bs_mt z5
              by_cases h5 : -1000000 ≤ c.n ∧ c.n ≤ 1000000
              · have b5 := inB_true h5
                by_cases h6 : -1000000 ≤ c.m ∧ c.m ≤ 1000000
                · have b6 := inB_true h6
                  go_enter Try.func51, Try.ntmps51
                  go_upto_region 1 with fail
                  obtain ⟨W, hW, bW, zW, cW, fW⟩ := boxed w #[.int .i64 c.k, .string c.p, .string c.to, .int .i64 c.n, .int .i64 c.m, .string c.d] 45
                  try simp only [hW]
                  have BL := bW
                  clear hW bW fW
                  go_wp2_with (first | (go_at_call 32; refine (within_any _ _ _ _).mono ?_; rintro e w9 ⟨rfl, rfl⟩) | (go_at_call 56; refine (namesTo_any c _).mono ?_; rintro e w5 ⟨rfl, b5⟩; replace cW := keepC b5 (by omega) cW; replace BL := BL.trans (b5.mono (by omega)); have z5' := b5.size; clear b5; simp only [NT]) | (go_at_call 57; refine (bearsData_any c _).mono ?_; rintro e w6 ⟨rfl, b6'⟩; replace cW := keepC b6' (by omega) cW; replace BL := BL.trans (b6'.mono (by omega)); clear b6'; simp only [BD]))
                  go_ret
                  exact ⟨ret_bool (by first | exact callB_yes (by unfold callP; omega) | exact callB_no (by unfold callP; omega)), BL⟩
                · have b6 := inB_false h6
                  go_enter Try.func51, Try.ntmps51
                  go_upto_region 1 with fail
                  obtain ⟨W, hW, bW, zW, cW, fW⟩ := boxed w #[.int .i64 c.k, .string c.p, .string c.to, .int .i64 c.n, .int .i64 c.m, .string c.d] 45
                  try simp only [hW]
                  have BL := bW
                  clear hW bW fW
                  go_wp2_with (first | (go_at_call 32; refine (within_any _ _ _ _).mono ?_; rintro e w9 ⟨rfl, rfl⟩) | (go_at_call 56; refine (namesTo_any c _).mono ?_; rintro e w5 ⟨rfl, b5⟩; replace cW := keepC b5 (by omega) cW; replace BL := BL.trans (b5.mono (by omega)); have z5' := b5.size; clear b5; simp only [NT]) | (go_at_call 57; refine (bearsData_any c _).mono ?_; rintro e w6 ⟨rfl, b6'⟩; replace cW := keepC b6' (by omega) cW; replace BL := BL.trans (b6'.mono (by omega)); clear b6'; simp only [BD]))
                  go_ret
                  exact ⟨ret_bool (by first | exact callB_yes (by unfold callP; omega) | exact callB_no (by unfold callP; omega)), BL⟩
              · have b5 := inB_false h5
                go_enter Try.func51, Try.ntmps51
                go_upto_region 1 with fail
                obtain ⟨W, hW, bW, zW, cW, fW⟩ := boxed w #[.int .i64 c.k, .string c.p, .string c.to, .int .i64 c.n, .int .i64 c.m, .string c.d] 45
                try simp only [hW]
                have BL := bW
                clear hW bW fW
                go_wp2_with (first | (go_at_call 32; refine (within_any _ _ _ _).mono ?_; rintro e w9 ⟨rfl, rfl⟩) | (go_at_call 56; refine (namesTo_any c _).mono ?_; rintro e w5 ⟨rfl, b5⟩; replace cW := keepC b5 (by omega) cW; replace BL := BL.trans (b5.mono (by omega)); have z5' := b5.size; clear b5; simp only [NT]) | (go_at_call 57; refine (bearsData_any c _).mono ?_; rintro e w6 ⟨rfl, b6'⟩; replace cW := keepC b6' (by omega) cW; replace BL := BL.trans (b6'.mono (by omega)); clear b6'; simp only [BD]))
                go_ret
                exact ⟨ret_bool (by first | exact callB_yes (by unfold callP; omega) | exact callB_no (by unfold callP; omega)), BL⟩
            · have y5 := bs_ne z5
              by_cases BD0 : c.k = 5 ∨ c.k = 6
              · have BD : decide (c.k = 5 ∨ c.k = 6) = true := decide_eq_true BD0
                by_cases h5 : -1000000 ≤ c.n ∧ c.n ≤ 1000000
                · have b5 := inB_true h5
                  by_cases h6 : -1000000 ≤ c.m ∧ c.m ≤ 1000000
                  · have b6 := inB_true h6
                    go_enter Try.func51, Try.ntmps51
                    go_upto_region 1 with fail
                    obtain ⟨W, hW, bW, zW, cW, fW⟩ := boxed w #[.int .i64 c.k, .string c.p, .string c.to, .int .i64 c.n, .int .i64 c.m, .string c.d] 45
                    try simp only [hW]
                    have BL := bW
                    clear hW bW fW
                    go_wp2_with (first | (go_at_call 32; refine (within_any _ _ _ _).mono ?_; rintro e w9 ⟨rfl, rfl⟩) | (go_at_call 56; refine (namesTo_any c _).mono ?_; rintro e w5 ⟨rfl, b5⟩; replace cW := keepC b5 (by omega) cW; replace BL := BL.trans (b5.mono (by omega)); have z5' := b5.size; clear b5; simp only [NT]) | (go_at_call 57; refine (bearsData_any c _).mono ?_; rintro e w6 ⟨rfl, b6'⟩; replace cW := keepC b6' (by omega) cW; replace BL := BL.trans (b6'.mono (by omega)); clear b6'; simp only [BD]))
                    go_ret
                    exact ⟨ret_bool (by first | exact callB_yes (by unfold callP; omega) | exact callB_no (by unfold callP; omega)), BL⟩
                  · have b6 := inB_false h6
                    go_enter Try.func51, Try.ntmps51
                    go_upto_region 1 with fail
                    obtain ⟨W, hW, bW, zW, cW, fW⟩ := boxed w #[.int .i64 c.k, .string c.p, .string c.to, .int .i64 c.n, .int .i64 c.m, .string c.d] 45
                    try simp only [hW]
                    have BL := bW
                    clear hW bW fW
                    go_wp2_with (first | (go_at_call 32; refine (within_any _ _ _ _).mono ?_; rintro e w9 ⟨rfl, rfl⟩) | (go_at_call 56; refine (namesTo_any c _).mono ?_; rintro e w5 ⟨rfl, b5⟩; replace cW := keepC b5 (by omega) cW; replace BL := BL.trans (b5.mono (by omega)); have z5' := b5.size; clear b5; simp only [NT]) | (go_at_call 57; refine (bearsData_any c _).mono ?_; rintro e w6 ⟨rfl, b6'⟩; replace cW := keepC b6' (by omega) cW; replace BL := BL.trans (b6'.mono (by omega)); clear b6'; simp only [BD]))
                    go_ret
                    exact ⟨ret_bool (by first | exact callB_yes (by unfold callP; omega) | exact callB_no (by unfold callP; omega)), BL⟩
                · have b5 := inB_false h5
                  go_enter Try.func51, Try.ntmps51
                  go_upto_region 1 with fail
                  obtain ⟨W, hW, bW, zW, cW, fW⟩ := boxed w #[.int .i64 c.k, .string c.p, .string c.to, .int .i64 c.n, .int .i64 c.m, .string c.d] 45
                  try simp only [hW]
                  have BL := bW
                  clear hW bW fW
                  go_wp2_with (first | (go_at_call 32; refine (within_any _ _ _ _).mono ?_; rintro e w9 ⟨rfl, rfl⟩) | (go_at_call 56; refine (namesTo_any c _).mono ?_; rintro e w5 ⟨rfl, b5⟩; replace cW := keepC b5 (by omega) cW; replace BL := BL.trans (b5.mono (by omega)); have z5' := b5.size; clear b5; simp only [NT]) | (go_at_call 57; refine (bearsData_any c _).mono ?_; rintro e w6 ⟨rfl, b6'⟩; replace cW := keepC b6' (by omega) cW; replace BL := BL.trans (b6'.mono (by omega)); clear b6'; simp only [BD]))
                  go_ret
                  exact ⟨ret_bool (by first | exact callB_yes (by unfold callP; omega) | exact callB_no (by unfold callP; omega)), BL⟩
              · have BD : decide (c.k = 5 ∨ c.k = 6) = false := decide_eq_false BD0
                go_enter Try.func51, Try.ntmps51
                go_upto_region 1 with fail
                obtain ⟨W, hW, bW, zW, cW, fW⟩ := boxed w #[.int .i64 c.k, .string c.p, .string c.to, .int .i64 c.n, .int .i64 c.m, .string c.d] 45
                try simp only [hW]
                have BL := bW
                clear hW bW fW
                go_wp2_with (first | (go_at_call 32; refine (within_any _ _ _ _).mono ?_; rintro e w9 ⟨rfl, rfl⟩) | (go_at_call 56; refine (namesTo_any c _).mono ?_; rintro e w5 ⟨rfl, b5⟩; replace cW := keepC b5 (by omega) cW; replace BL := BL.trans (b5.mono (by omega)); have z5' := b5.size; clear b5; simp only [NT]) | (go_at_call 57; refine (bearsData_any c _).mono ?_; rintro e w6 ⟨rfl, b6'⟩; replace cW := keepC b6' (by omega) cW; replace BL := BL.trans (b6'.mono (by omega)); clear b6'; simp only [BD]))
                go_ret
                exact ⟨ret_bool (by first | exact callB_yes (by unfold callP; omega) | exact callB_no (by unfold callP; omega)), BL⟩
          · have y2 := bs_ne z2
            by_cases NT0 : c.k = 9 ∨ c.k = 10 ∨ c.k = 12
            · have NT : decide (c.k = 9 ∨ c.k = 10 ∨ c.k = 12) = true := decide_eq_true NT0
              by_cases z5 : c.d.size = 0
              · have y5 := bs_mt z5
                by_cases h5 : -1000000 ≤ c.n ∧ c.n ≤ 1000000
                · have b5 := inB_true h5
                  by_cases h6 : -1000000 ≤ c.m ∧ c.m ≤ 1000000
                  · have b6 := inB_true h6
                    go_enter Try.func51, Try.ntmps51
                    go_upto_region 1 with fail
                    obtain ⟨W, hW, bW, zW, cW, fW⟩ := boxed w #[.int .i64 c.k, .string c.p, .string c.to, .int .i64 c.n, .int .i64 c.m, .string c.d] 45
                    try simp only [hW]
                    have BL := bW
                    clear hW bW fW
                    go_wp2_with (first | (go_at_call 32; refine (within_any _ _ _ _).mono ?_; rintro e w9 ⟨rfl, rfl⟩) | (go_at_call 56; refine (namesTo_any c _).mono ?_; rintro e w5 ⟨rfl, b5⟩; replace cW := keepC b5 (by omega) cW; replace BL := BL.trans (b5.mono (by omega)); have z5' := b5.size; clear b5; simp only [NT]) | (go_at_call 57; refine (bearsData_any c _).mono ?_; rintro e w6 ⟨rfl, b6'⟩; replace cW := keepC b6' (by omega) cW; replace BL := BL.trans (b6'.mono (by omega)); clear b6'; simp only [BD]))
                    go_ret
                    exact ⟨ret_bool (by first | exact callB_yes (by unfold callP; omega) | exact callB_no (by unfold callP; omega)), BL⟩
                  · have b6 := inB_false h6
                    go_enter Try.func51, Try.ntmps51
                    go_upto_region 1 with fail
                    obtain ⟨W, hW, bW, zW, cW, fW⟩ := boxed w #[.int .i64 c.k, .string c.p, .string c.to, .int .i64 c.n, .int .i64 c.m, .string c.d] 45
                    try simp only [hW]
                    have BL := bW
                    clear hW bW fW
                    go_wp2_with (first | (go_at_call 32; refine (within_any _ _ _ _).mono ?_; rintro e w9 ⟨rfl, rfl⟩) | (go_at_call 56; refine (namesTo_any c _).mono ?_; rintro e w5 ⟨rfl, b5⟩; replace cW := keepC b5 (by omega) cW; replace BL := BL.trans (b5.mono (by omega)); have z5' := b5.size; clear b5; simp only [NT]) | (go_at_call 57; refine (bearsData_any c _).mono ?_; rintro e w6 ⟨rfl, b6'⟩; replace cW := keepC b6' (by omega) cW; replace BL := BL.trans (b6'.mono (by omega)); clear b6'; simp only [BD]))
                    go_ret
                    exact ⟨ret_bool (by first | exact callB_yes (by unfold callP; omega) | exact callB_no (by unfold callP; omega)), BL⟩
                · have b5 := inB_false h5
                  go_enter Try.func51, Try.ntmps51
                  go_upto_region 1 with fail
                  obtain ⟨W, hW, bW, zW, cW, fW⟩ := boxed w #[.int .i64 c.k, .string c.p, .string c.to, .int .i64 c.n, .int .i64 c.m, .string c.d] 45
                  try simp only [hW]
                  have BL := bW
                  clear hW bW fW
                  go_wp2_with (first | (go_at_call 32; refine (within_any _ _ _ _).mono ?_; rintro e w9 ⟨rfl, rfl⟩) | (go_at_call 56; refine (namesTo_any c _).mono ?_; rintro e w5 ⟨rfl, b5⟩; replace cW := keepC b5 (by omega) cW; replace BL := BL.trans (b5.mono (by omega)); have z5' := b5.size; clear b5; simp only [NT]) | (go_at_call 57; refine (bearsData_any c _).mono ?_; rintro e w6 ⟨rfl, b6'⟩; replace cW := keepC b6' (by omega) cW; replace BL := BL.trans (b6'.mono (by omega)); clear b6'; simp only [BD]))
                  go_ret
                  exact ⟨ret_bool (by first | exact callB_yes (by unfold callP; omega) | exact callB_no (by unfold callP; omega)), BL⟩
              · have y5 := bs_ne z5
                by_cases BD0 : c.k = 5 ∨ c.k = 6
                · exfalso; omega
                · have BD : decide (c.k = 5 ∨ c.k = 6) = false := decide_eq_false BD0
                  go_enter Try.func51, Try.ntmps51
                  go_upto_region 1 with fail
                  obtain ⟨W, hW, bW, zW, cW, fW⟩ := boxed w #[.int .i64 c.k, .string c.p, .string c.to, .int .i64 c.n, .int .i64 c.m, .string c.d] 45
                  try simp only [hW]
                  have BL := bW
                  clear hW bW fW
                  go_wp2_with (first | (go_at_call 32; refine (within_any _ _ _ _).mono ?_; rintro e w9 ⟨rfl, rfl⟩) | (go_at_call 56; refine (namesTo_any c _).mono ?_; rintro e w5 ⟨rfl, b5⟩; replace cW := keepC b5 (by omega) cW; replace BL := BL.trans (b5.mono (by omega)); have z5' := b5.size; clear b5; simp only [NT]) | (go_at_call 57; refine (bearsData_any c _).mono ?_; rintro e w6 ⟨rfl, b6'⟩; replace cW := keepC b6' (by omega) cW; replace BL := BL.trans (b6'.mono (by omega)); clear b6'; simp only [BD]))
                  go_ret
                  exact ⟨ret_bool (by first | exact callB_yes (by unfold callP; omega) | exact callB_no (by unfold callP; omega)), BL⟩
            · have NT : decide (c.k = 9 ∨ c.k = 10 ∨ c.k = 12) = false := decide_eq_false NT0
              go_enter Try.func51, Try.ntmps51
              go_upto_region 1 with fail
              obtain ⟨W, hW, bW, zW, cW, fW⟩ := boxed w #[.int .i64 c.k, .string c.p, .string c.to, .int .i64 c.n, .int .i64 c.m, .string c.d] 45
              try simp only [hW]
              have BL := bW
              clear hW bW fW
              go_wp2_with (first | (go_at_call 32; refine (within_any _ _ _ _).mono ?_; rintro e w9 ⟨rfl, rfl⟩) | (go_at_call 56; refine (namesTo_any c _).mono ?_; rintro e w5 ⟨rfl, b5⟩; replace cW := keepC b5 (by omega) cW; replace BL := BL.trans (b5.mono (by omega)); have z5' := b5.size; clear b5; simp only [NT]) | (go_at_call 57; refine (bearsData_any c _).mono ?_; rintro e w6 ⟨rfl, b6'⟩; replace cW := keepC b6' (by omega) cW; replace BL := BL.trans (b6'.mono (by omega)); clear b6'; simp only [BD]))
              go_ret
              exact ⟨ret_bool (by first | exact callB_yes (by unfold callP; omega) | exact callB_no (by unfold callP; omega)), BL⟩
  · have b1 := inB_false h1
    go_enter Try.func51, Try.ntmps51
    go_upto_region 1 with fail
    obtain ⟨W, hW, bW, zW, cW, fW⟩ := boxed w #[.int .i64 c.k, .string c.p, .string c.to, .int .i64 c.n, .int .i64 c.m, .string c.d] 45
    try simp only [hW]
    have BL := bW
    clear hW bW fW
    go_wp2_with (first | (go_at_call 32; refine (within_any _ _ _ _).mono ?_; rintro e w9 ⟨rfl, rfl⟩) | (go_at_call 56; refine (namesTo_any c _).mono ?_; rintro e w5 ⟨rfl, b5⟩; replace cW := keepC b5 (by omega) cW; replace BL := BL.trans (b5.mono (by omega)); have z5' := b5.size; clear b5; simp only [NT]) | (go_at_call 57; refine (bearsData_any c _).mono ?_; rintro e w6 ⟨rfl, b6'⟩; replace cW := keepC b6' (by omega) cW; replace BL := BL.trans (b6'.mono (by omega)); clear b6'; simp only [BD]))
    go_ret
    exact ⟨ret_bool (by first | exact callB_yes (by unfold callP; omega) | exact callB_no (by unfold callP; omega)), BL⟩
end Go.Proofs.Ythicdhjipebghaa
