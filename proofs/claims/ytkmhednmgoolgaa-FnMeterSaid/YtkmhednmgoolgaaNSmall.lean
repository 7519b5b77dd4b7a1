/- Meters: who tells, what it costs, tokens, on both sides. -/
import Derived.Test.YtkmhednmgoolgaaNNote
import Derived.Deep.RegionWith
import Derived.OwnWalk
namespace Go.Proofs.Ytkmhednmgoolgaa
open Go.RowKit
set_option linter.unusedVariables false
def tellsB (k : Int) : Bool := decide (k = 4 ∨ k = 11 ∨ k = 13 ∨ k = 14 ∨ k = 17 ∨ k = 18 ∨ k = 20 ∨ k = 21)
theorem tells_yes {k : Int} (h : k = 4 ∨ k = 11 ∨ k = 13 ∨ k = 14 ∨ k = 17 ∨ k = 18 ∨ k = 20 ∨ k = 21) : tellsB k = true := decide_eq_true h
theorem tells_no {k : Int} (h : ¬ (k = 4 ∨ k = 11 ∨ k = 13 ∨ k = 14 ∨ k = 17 ∨ k = 18 ∨ k = 20 ∨ k = 21)) : tellsB k = false := decide_eq_false h
def costI (k : Int) : Int := if tellsB k = true then 1 else if inB k 1 22 = true then 3 else 0
theorem cost_1 {k : Int} (h : tellsB k = true) : costI k = 1 := if_pos h
theorem cost_3 {k : Int} (h : tellsB k = false) (h2 : inB k 1 22 = true) : costI k = 3 := by unfold costI; rw [h, h2]; rfl
theorem cost_0 {k : Int} (h : tellsB k = false) (h2 : inB k 1 22 = false) : costI k = 0 := by unfold costI; rw [h, h2]; rfl
theorem cost_three (k : Int) : costI k = 0 ∨ costI k = 1 ∨ costI k = 3 := by unfold costI; split <;> (try split) <;> simp
def refI (t : Int) : Int := if t < 0 then 4 else if 26 ≤ t then 30 else t + 4
theorem ref_0 {t : Int} (h : t < 0) : refI t = 4 := if_pos h
theorem ref_1 {t : Int} (h : 0 ≤ t) (h2 : 26 ≤ t) : refI t = 30 := by unfold refI; rw [if_neg (by omega), if_pos h2]
theorem ref_2 {t : Int} (h : 0 ≤ t) (h2 : ¬ 26 ≤ t) : refI t = t + 4 := by unfold refI; rw [if_neg (by omega), if_neg h2]
def spendB (t k : Int) : Bool := decide (costI k ≠ 0 ∧ costI k ≤ t)
def spendI (t k : Int) : Int := if costI k ≠ 0 ∧ costI k ≤ t then t - costI k else t
theorem spend_yes {t k : Int} (h : costI k ≠ 0 ∧ costI k ≤ t) : spendB t k = true ∧ spendI t k = t - costI k := ⟨decide_eq_true h, if_pos h⟩
theorem spend_no {t k : Int} (h : ¬ (costI k ≠ 0 ∧ costI k ≤ t)) : spendB t k = false ∧ spendI t k = t := ⟨decide_eq_false h, if_neg h⟩
set_option maxRecDepth 100000 in
set_option maxHeartbeats 2000000 in
theorem implTells_any (k : Int) (w : World) :
    Calls Try.prog 15 #[.int .i64 k] w fun e w' => e = .returned (.bool (tellsB k)) ∧ w = w' := by
  go_enter Try.func15, Try.ntmps15
  go_wp2
  all_goals go_ret
  all_goals refine ⟨ret_bool ?_, rfl⟩
  all_goals first | (symm; apply tells_yes; simp_all; done) | (symm; apply tells_no; simp_all; done) | (rw [Bool.eq_iff_iff]; simp [tellsB]; simp_all; done)
set_option maxRecDepth 100000 in
set_option maxHeartbeats 2000000 in
theorem specTells_any (k : Int) (w : World) :
    Calls Try.prog 16 #[.int .i64 k] w fun e w' => e = .returned (.bool (tellsB k)) ∧ w = w' := by
  go_enter Try.func16, Try.ntmps16
  go_wp2
  all_goals go_ret
  all_goals refine ⟨ret_bool ?_, rfl⟩
  all_goals first | (symm; apply tells_yes; simp_all; done) | (symm; apply tells_no; simp_all; done) | (rw [Bool.eq_iff_iff]; simp [tellsB]; simp_all; done)
set_option maxRecDepth 100000 in
set_option maxHeartbeats 2000000 in
theorem implCost_any (k : Int) (w : World) :
    Calls Try.prog 14 #[.int .i64 k] w fun e w' => e = .returned (.int .i64 (costI k)) ∧ w = w' := by
  go_enter Try.func14, Try.ntmps14
  go_wp2_with fail
  refine (implTells_any k _).mono ?_
  rintro e w1 ⟨rfl, rfl⟩
  cases ht : tellsB k with
  | true =>
    have hc := cost_1 ht
    go_wp2
    go_ret
    first | exact ⟨rfl, rfl⟩ | exact ⟨ret_int hc.symm, rfl⟩
  | false =>
    go_wp2_with fail
    refine (within_any k 1 22 _).mono ?_
    rintro e w1 ⟨rfl, rfl⟩
    cases hi : inB k 1 22 with
    | true =>
      have hc := cost_3 ht hi
      go_wp2
      go_ret
      first | exact ⟨rfl, rfl⟩ | exact ⟨ret_int hc.symm, rfl⟩
    | false =>
      have hc := cost_0 ht hi
      go_wp2
      go_ret
      first | exact ⟨rfl, rfl⟩ | exact ⟨ret_int hc.symm, rfl⟩
set_option maxRecDepth 100000 in
set_option maxHeartbeats 2000000 in
theorem specCost_any (k : Int) (w : World) :
    Calls Try.prog 13 #[.int .i64 k] w fun e w' => e = .returned (.int .i64 (costI k)) ∧ w = w' := by
  go_enter Try.func13, Try.ntmps13
  go_wp2_with fail
  refine (specTells_any k _).mono ?_
  rintro e w1 ⟨rfl, rfl⟩
  cases ht : tellsB k with
  | true =>
    have hc := cost_1 ht
    go_wp2
    go_ret
    first | exact ⟨rfl, rfl⟩ | exact ⟨ret_int hc.symm, rfl⟩
  | false =>
    go_wp2_with fail
    refine (l1In_any k 1 22 _).mono ?_
    rintro e w1 ⟨rfl, rfl⟩
    cases hi : inB k 1 22 with
    | true =>
      have hc := cost_3 ht hi
      go_wp2
      go_ret
      first | exact ⟨rfl, rfl⟩ | exact ⟨ret_int hc.symm, rfl⟩
    | false =>
      have hc := cost_0 ht hi
      go_wp2
      go_ret
      first | exact ⟨rfl, rfl⟩ | exact ⟨ret_int hc.symm, rfl⟩
/-- The least of x and L. -/
def lessI (x : Int) : List Int → Int
  | [] => x
  | a :: l => lessI (if a < x then a else x) l
theorem lessI_drop (x : Int) (l : List Int) (j : Nat) (h : j < l.length) : lessI x (l.drop j) = lessI (if l[j] < x then l[j] else x) (l.drop (j + 1)) := by
  rw [List.drop_eq_getElem_cons h, lessI]
theorem lessI_end (x : Int) (l : List Int) : lessI x (l.drop l.length) = x := by
  rw [List.drop_length]; rfl
set_option maxRecDepth 100000 in
set_option maxHeartbeats 2000000 in
theorem lesser_any (x : Int) (L : List Int) (v : Value) (N : Nat) (w : World) (hN : N ≤ w.heap.size) (hr : Row intE w N v L) :
    Calls Try.prog 24 #[.int .i64 x, v] w fun e w' => e = .returned (.int .i64 (lessI x L)) ∧ w = w' := by
  obtain ⟨a, cap, rfl, hl, hm, hcells⟩ := intE_cell hr
  have HC := Hid.intro hcells
  clear hcells hr
  go_enter Try.func24, Try.ntmps24
  go_wp2
  go_loopw [0, 9] (fun m i wr => ∃ (j : Nat) (y : Int), i = .int .i64 j ∧ m = .int .i64 y ∧ j ≤ L.length ∧ Hid (lessI y (L.drop j) = lessI x L) ∧ wr = w) (fun _ i _ => L.length - (intOf i).toNat)
  case atStart => exact ⟨0, x, rfl, rfl, Nat.zero_le _, rfl, rfl⟩
  case round =>
    obtain ⟨j, y, rfl, rfl, hj, HE, rfl⟩ := hrel
    by_cases hlt : j < L.length
    · obtain ⟨b, off, rfl, hbN, hcc⟩ := HC.out (by intro h; rw [h] at hlt; simp at hlt)
      have c0 := hcc j hlt
      have hst := (lessI_drop y L j hlt).symm.trans HE.out
      generalize L[j] = ej at c0 hst
      have HST := Hid.intro hst
      clear hcc hst HE
      by_cases hc : ej < y
      · have HS : Hid (lessI ej (L.drop (j + 1)) = lessI x L) := by have := HST.out; rwa [if_pos hc] at this
        clear HST
        go_wp2
        go_roundw
        case rel => exact ⟨j + 1, ej, by go_num, rfl, by omega, HS, by trivial⟩
        case measure => simp [intOf]; omega
      · have HS : Hid (lessI y (L.drop (j + 1)) = lessI x L) := by have := HST.out; rwa [if_neg hc] at this
        clear HST
        go_wp2
        go_roundw
        case rel => exact ⟨j + 1, y, by go_num, rfl, by omega, HS, by trivial⟩
        case measure => simp [intOf]; omega
    · obtain rfl : j = L.length := by omega
      have he : y = lessI x L := by have := HE.out; rwa [lessI_end] at this
      clear HE
      go_wp2
      go_ret
      exact ⟨ret_int he, rfl⟩
set_option maxRecDepth 100000 in
set_option maxHeartbeats 2000000 in
theorem specRefill_any (t : Int) (w : World) (hlo : -9223372036854775808 ≤ t) (hhi : t ≤ 9223372036854775807) :
    Calls Try.prog 17 #[.int .i64 t] w fun e w' => e = .returned (.int .i64 (refI t)) ∧ w = w' := by
  by_cases h0 : t < 0
  · have hr := ref_0 h0
    go_enter Try.func17, Try.ntmps17
    go_wp2
    go_ret
    first | exact ⟨rfl, rfl⟩ | exact ⟨ret_int hr.symm, rfl⟩
  · by_cases h1 : 26 ≤ t
    · have hr := ref_1 (by omega) h1
      go_enter Try.func17, Try.ntmps17
      go_wp2
      go_ret
      first | exact ⟨rfl, rfl⟩ | exact ⟨ret_int hr.symm, rfl⟩
    · have hr := ref_2 (by omega) h1
      go_enter Try.func17, Try.ntmps17
      go_wp2
      go_ret
      first | exact ⟨rfl, rfl⟩ | exact ⟨ret_int hr.symm, rfl⟩
theorem row1 {w : World} {b : Nat} {x : Int} (h : w.cell? ⟨b, 0, none⟩ = some (.int .i64 x)) (hb : b < w.heap.size) : Row intE w w.heap.size (.slice (some ⟨b, 0, none⟩) 1 1) [x] := by
  refine ⟨_, _, rfl, by simp, by omega, fun _ => ⟨b, 0, rfl, hb, fun j hj i hi => ?_⟩⟩
  have hj0 : j = 0 := by simpa using hj
  have hi0 : i = 0 := by have h1 : intE.n = 1 := rfl; omega
  subst hj0 hi0
  simpa [intE] using h
theorem ref_less (t : Int) (m : Int) (hm : m = if t < 0 then 0 else t) : lessI m [26] + 4 = refI t := by
  subst hm
  by_cases h0 : t < 0
  · rw [ref_0 h0, if_pos h0]; rfl
  · rw [if_neg h0]
    by_cases h1 : 26 ≤ t
    · rw [ref_1 (by omega) h1]
      show (if (26 : Int) < t then (26 : Int) else t) + 4 = 30
      split <;> omega
    · rw [ref_2 (by omega) h1]
      show (if (26 : Int) < t then (26 : Int) else t) + 4 = t + 4
      split <;> omega
theorem less_bounds (m : Int) (h : 0 ≤ m) : 0 ≤ lessI m [26] ∧ lessI m [26] ≤ 26 := by
  show 0 ≤ (if (26 : Int) < m then (26 : Int) else m) ∧ (if (26 : Int) < m then (26 : Int) else m) ≤ 26
  split <;> omega
set_option maxRecDepth 100000 in
set_option maxHeartbeats 2000000 in
theorem implRefill_any (t : Int) (w : World) :
    Calls Try.prog 11 #[.int .i64 t] w fun e w' => e = .returned (.int .i64 (refI t)) ∧ Below w.heap.size w w' := by
  by_cases h : t < 0
  · have hm : (0 : Int) = if t < 0 then 0 else t := by rw [if_pos h]
    have hv := Hid.intro (ref_less t 0 hm)
    have hb := less_bounds 0 (by omega)
    clear hm
    go_enter Try.func11, Try.ntmps11
    go_wp2_with fail
    all_goals try omega
    obtain ⟨W, hW, bW, zW, cW, fW⟩ := boxed w #[.int .i64 26] 3
    simp only [hW]
    refine (lesser_any 0 [26] _ W.heap.size W (Nat.le_refl _) (row1 (cW 0) (by omega))).mono ?_
    rintro e w1 ⟨rfl, rfl⟩
    clear hW cW fW zW
    generalize lessI 0 [26] = y at hb hv ⊢
    go_wp2
    go_ret
    exact ⟨ret_int hv.out, bW⟩
  · have hm : (t : Int) = if t < 0 then 0 else t := by rw [if_neg h]
    have hv := Hid.intro (ref_less t t hm)
    have hb := less_bounds t (by omega)
    clear hm
    go_enter Try.func11, Try.ntmps11
    go_wp2_with fail
    all_goals try omega
    obtain ⟨W, hW, bW, zW, cW, fW⟩ := boxed w #[.int .i64 26] 3
    simp only [hW]
    refine (lesser_any t [26] _ W.heap.size W (Nat.le_refl _) (row1 (cW 0) (by omega))).mono ?_
    rintro e w1 ⟨rfl, rfl⟩
    clear hW cW fW zW
    generalize lessI t [26] = y at hb hv ⊢
    go_wp2
    go_ret
    exact ⟨ret_int hv.out, bW⟩
set_option maxRecDepth 100000 in
set_option maxHeartbeats 2000000 in
theorem specSpend_any (t k : Int) (w : World) (hlo : -9223372036854775808 ≤ t) (hhi : t ≤ 9223372036854775807) :
    Calls Try.prog 18 #[.int .i64 t, .int .i64 k] w fun e w' => e = .returned (.tuple #[.int .i64 (spendI t k), .bool (spendB t k)]) ∧ w = w' := by
  have h3 := cost_three k
  by_cases h : costI k ≠ 0 ∧ costI k ≤ t
  · obtain ⟨e1, e2⟩ := spend_yes h
    rw [e1, e2]
    clear e1 e2
    obtain ⟨ha, hb⟩ := h
    go_enter Try.func18, Try.ntmps18
    go_wp2_with fail
    refine (specCost_any k _).mono ?_
    rintro e w1 ⟨rfl, rfl⟩
    generalize hcc : costI k = c at h3 ha hb ⊢
    have HC := Hid.intro hcc
    clear hcc
    have h0 : (c == 0) = false := by simpa using ha
    have h1 : ¬ t < c := by omega
    go_wp2
    exact bodyPost_ret (v := .tuple #[.int .i64 (t - c), .bool true]) (by simp [results, Try.results18, go_sem]) rfl ⟨by rw [HC.out], rfl⟩
  · obtain ⟨e1, e2⟩ := spend_no h
    rw [e1, e2]
    clear e1 e2
    go_enter Try.func18, Try.ntmps18
    go_wp2_with fail
    refine (specCost_any k _).mono ?_
    rintro e w1 ⟨rfl, rfl⟩
    generalize costI k = c at h3 h ⊢
    by_cases hc : c = 0
    · subst hc
      go_wp2
      exact bodyPost_ret (v := .tuple #[.int .i64 t, .bool false]) (by simp [results, Try.results18, go_sem]) rfl ⟨rfl, rfl⟩
    · have h0 : (c == 0) = false := by simpa using hc
      have h1 : t < c := by omega
      go_wp2
      exact bodyPost_ret (v := .tuple #[.int .i64 t, .bool false]) (by simp [results, Try.results18, go_sem]) rfl ⟨rfl, rfl⟩
set_option maxRecDepth 100000 in
set_option maxHeartbeats 2000000 in
theorem implSpend_any (t k : Int) (w : World) (hlo : -9223372036854775808 ≤ t) (hhi : t ≤ 9223372036854775807) :
    Calls Try.prog 12 #[.int .i64 t, .int .i64 k] w fun e w' => e = .returned (.tuple #[.int .i64 (spendI t k), .bool (spendB t k)]) ∧ w = w' := by
  have h3 := cost_three k
  by_cases h : costI k ≠ 0 ∧ costI k ≤ t
  · obtain ⟨e1, e2⟩ := spend_yes h
    rw [e1, e2]
    clear e1 e2
    obtain ⟨ha, hb⟩ := h
    go_enter Try.func12, Try.ntmps12
    go_wp2_with fail
    refine (implCost_any k _).mono ?_
    rintro e w1 ⟨rfl, rfl⟩
    generalize hcc : costI k = c at h3 ha hb ⊢
    have HC := Hid.intro hcc
    clear hcc
    have h0 : (c == 0) = false := by simpa using ha
    have h1 : ¬ t < c := by omega
    go_wp2
    exact bodyPost_ret (v := .tuple #[.int .i64 (t - c), .bool true]) (by simp [results, Try.results12, go_sem]) rfl ⟨by rw [HC.out], rfl⟩
  · obtain ⟨e1, e2⟩ := spend_no h
    rw [e1, e2]
    clear e1 e2
    go_enter Try.func12, Try.ntmps12
    go_wp2_with fail
    refine (implCost_any k _).mono ?_
    rintro e w1 ⟨rfl, rfl⟩
    generalize costI k = c at h3 h ⊢
    by_cases hc : c = 0
    · subst hc
      go_wp2
      exact bodyPost_ret (v := .tuple #[.int .i64 t, .bool false]) (by simp [results, Try.results12, go_sem]) rfl ⟨rfl, rfl⟩
    · have h0 : (c == 0) = false := by simpa using hc
      have h1 : t < c := by omega
      go_wp2
      exact bodyPost_ret (v := .tuple #[.int .i64 t, .bool false]) (by simp [results, Try.results12, go_sem]) rfl ⟨rfl, rfl⟩
end Go.Proofs.Ytkmhednmgoolgaa
