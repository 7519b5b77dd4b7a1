/- Meters: who tells, what it costs, tokens, on both sides. -/
import Derived.Test.YtnhjicbgmocilaaGreatXNote
import Derived.Deep.RegionWith
import Derived.OwnWalk
namespace Go.Proofs.YtnhjicbgmocilaaGreat
open Go.RowKit
set_option linter.unusedVariables false
def tellsB (k : Int) : Bool := decide (k = 4 ∨ k = 11 ∨ k = 13 ∨ k = 14 ∨ k = 17 ∨ k = 18 ∨ k = 20 ∨ k = 21)
theorem tells_yes {k : Int} (h : k = 4 ∨ k = 11 ∨ k = 13 ∨ k = 14 ∨ k = 17 ∨ k = 18 ∨ k = 20 ∨ k = 21) : tellsB k = true := decide_eq_true h
theorem tells_no {k : Int} (h : ¬ (k = 4 ∨ k = 11 ∨ k = 13 ∨ k = 14 ∨ k = 17 ∨ k = 18 ∨ k = 20 ∨ k = 21)) : tellsB k = false := decide_eq_false h
def costI (k : Int) : Int := if tellsB k = true then 1 else if inB k 1 22 = true then 3 else 0
theorem cost_1 {k : Int} (h : tellsB k = true) : costI k = 1 := if_pos h
theorem cost_3 {k : Int} (h : tellsB k = false) (h2 : inB k 1 22 = true) : costI k = 3 := by unfold costI; rw [h, h2]; rfl
theorem cost_0 {k : Int} (h : tellsB k = false) (h2 : inB k 1 22 = false) : costI k = 0 := by unfold costI; rw [h, h2]; rfl
theorem cost_three (k : Int) : costI k = 0 ∨ costI k = 1 ∨ costI k = 3 := by unfold costI; split <;> (try split) <;> simp
def refI (t : Int) : Int := if t < 0 then 4 else if 26 ≤ t then 30 else t + 4
theorem ref_0 {t : Int} (h : t < 0) : refI t = 4 := if_pos h
theorem ref_1 {t : Int} (h : 0 ≤ t) (h2 : 26 ≤ t) : refI t = 30 := by unfold refI; rw [if_neg (by omega), if_pos h2]
theorem ref_2 {t : Int} (h : 0 ≤ t) (h2 : ¬ 26 ≤ t) : refI t = t + 4 := by unfold refI; rw [if_neg (by omega), if_neg h2]
def spendB (t k : Int) : Bool := decide (costI k ≠ 0 ∧ costI k ≤ t)
def spendI (t k : Int) : Int := if costI k ≠ 0 ∧ costI k ≤ t then t - costI k else t
theorem spend_yes {t k : Int} (h : costI k ≠ 0 ∧ costI k ≤ t) : spendB t k = true ∧ spendI t k = t - costI k := ⟨decide_eq_true h, if_pos h⟩
theorem spend_no {t k : Int} (h : ¬ (costI k ≠ 0 ∧ costI k ≤ t)) : spendB t k = false ∧ spendI t k = t := ⟨decide_eq_false h, if_neg h⟩
/-- The least of x and L. -/
def lessI (x : Int) : List Int → Int
  | [] => x
  | a :: l => lessI (if a < x then a else x) l
theorem lessI_drop (x : Int) (l : List Int) (j : Nat) (h : j < l.length) : lessI x (l.drop j) = lessI (if l[j] < x then l[j] else x) (l.drop (j + 1)) := by
  rw [List.drop_eq_getElem_cons h, lessI]
theorem lessI_end (x : Int) (l : List Int) : lessI x (l.drop l.length) = x := by
  rw [List.drop_length]; rfl
set_option maxRecDepth 100000 in
set_option maxHeartbeats 2000000 in
theorem lesser_any (x : Int) (L : List Int) (v : Value) (N : Nat) (w : World) (hN : N ≤ w.heap.size) (hr : Row intE w N v L) :
    Calls Tryz.prog 71 #[.int .i64 x, v] w fun e w' => e = .returned (.int .i64 (lessI x L)) ∧ w = w' := by
  obtain ⟨a, cap, rfl, hl, hm, hcells⟩ := intE_cell hr
  have HC := Hid.intro hcells
  clear hcells hr
  go_enter Tryz.func71, Tryz.ntmps71
  go_wp2
  go_loopw [0, 9] (fun m i wr => ∃ (j : Nat) (y : Int), i = .int .i64 j ∧ m = .int .i64 y ∧ j ≤ L.length ∧ Hid (lessI y (L.drop j) = lessI x L) ∧ wr = w) (fun _ i _ => L.length - (intOf i).toNat)
  case atStart => exact ⟨0, x, rfl, rfl, Nat.zero_le _, rfl, rfl⟩
  case round =>
    obtain ⟨j, y, rfl, rfl, hj, HE, rfl⟩ := hrel
    by_cases hlt : j < L.length
    · obtain ⟨b, off, rfl, hbN, hcc⟩ := HC.out (by intro h; rw [h] at hlt; simp at hlt)
      have c0 := hcc j hlt
      have hst := (lessI_drop y L j hlt).symm.trans HE.out
      generalize L[j] = ej at c0 hst
      have HST := Hid.intro hst
      clear hcc hst HE
      by_cases hc : ej < y
      · have HS : Hid (lessI ej (L.drop (j + 1)) = lessI x L) := by have := HST.out; rwa [if_pos hc] at this
        clear HST
        go_wp2
        go_roundw
        case rel => exact ⟨j + 1, ej, by go_num, rfl, by omega, HS, by trivial⟩
        case measure => simp [intOf]; omega
      · have HS : Hid (lessI y (L.drop (j + 1)) = lessI x L) := by have := HST.out; rwa [if_neg hc] at this
        clear HST
        go_wp2
        go_roundw
        case rel => exact ⟨j + 1, y, by go_num, rfl, by omega, HS, by trivial⟩
        case measure => simp [intOf]; omega
    · obtain rfl : j = L.length := by omega
      have he : y = lessI x L := by have := HE.out; rwa [lessI_end] at this
      clear HE
      go_wp2
      go_ret
      exact ⟨ret_int he, rfl⟩
set_option maxRecDepth 100000 in
set_option maxHeartbeats 2000000 in
theorem specRefill_any (t : Int) (w : World) (hlo : -9223372036854775808 ≤ t) (hhi : t ≤ 9223372036854775807) :
    Calls Tryz.prog 16 #[.int .i64 t] w fun e w' => e = .returned (.int .i64 (refI t)) ∧ w = w' := by
  by_cases h0 : t < 0
  · have hr := ref_0 h0
    go_enter Tryz.func16, Tryz.ntmps16
    go_wp2
    go_ret
    first | exact ⟨rfl, rfl⟩ | exact ⟨ret_int hr.symm, rfl⟩
  · by_cases h1 : 26 ≤ t
    · have hr := ref_1 (by omega) h1
      go_enter Tryz.func16, Tryz.ntmps16
      go_wp2
      go_ret
      first | exact ⟨rfl, rfl⟩ | exact ⟨ret_int hr.symm, rfl⟩
    · have hr := ref_2 (by omega) h1
      go_enter Tryz.func16, Tryz.ntmps16
      go_wp2
      go_ret
      first | exact ⟨rfl, rfl⟩ | exact ⟨ret_int hr.symm, rfl⟩
theorem row1 {w : World} {b : Nat} {x : Int} (h : w.cell? ⟨b, 0, none⟩ = some (.int .i64 x)) (hb : b < w.heap.size) : Row intE w w.heap.size (.slice (some ⟨b, 0, none⟩) 1 1) [x] := by
  refine ⟨_, _, rfl, by simp, by omega, fun _ => ⟨b, 0, rfl, hb, fun j hj i hi => ?_⟩⟩
  have hj0 : j = 0 := by simpa using hj
  have hi0 : i = 0 := by have h1 : intE.n = 1 := rfl; omega
  subst hj0 hi0
  simpa [intE] using h
theorem ref_less (t : Int) (m : Int) (hm : m = if t < 0 then 0 else t) : lessI m [26] + 4 = refI t := by
  subst hm
  by_cases h0 : t < 0
  · rw [ref_0 h0, if_pos h0]; rfl
  · rw [if_neg h0]
    by_cases h1 : 26 ≤ t
    · rw [ref_1 (by omega) h1]
      show (if (26 : Int) < t then (26 : Int) else t) + 4 = 30
      split <;> omega
    · rw [ref_2 (by omega) h1]
      show (if (26 : Int) < t then (26 : Int) else t) + 4 = t + 4
      split <;> omega
theorem less_bounds (m : Int) (h : 0 ≤ m) : 0 ≤ lessI m [26] ∧ lessI m [26] ≤ 26 := by
  show 0 ≤ (if (26 : Int) < m then (26 : Int) else m) ∧ (if (26 : Int) < m then (26 : Int) else m) ≤ 26
  split <;> omega
set_option maxRecDepth 100000 in
set_option maxHeartbeats 2000000 in
theorem implRefill_any (t : Int) (w : World) :
    Calls Tryz.prog 50 #[.int .i64 t] w fun e w' => e = .returned (.int .i64 (refI t)) ∧ Below w.heap.size w w' := by
  by_cases h : t < 0
  · have hm : (0 : Int) = if t < 0 then 0 else t := by rw [if_pos h]
    have hv := Hid.intro (ref_less t 0 hm)
    have hb := less_bounds 0 (by omega)
    clear hm
    go_enter Tryz.func50, Tryz.ntmps50
    go_wp2_with fail
    all_goals try omega
    obtain ⟨W, hW, bW, zW, cW, fW⟩ := boxed w #[.int .i64 26] 3
    simp only [hW]
    refine (lesser_any 0 [26] _ W.heap.size W (Nat.le_refl _) (row1 (cW 0) (by omega))).mono ?_
    rintro e w1 ⟨rfl, rfl⟩
    clear hW cW fW zW
    generalize lessI 0 [26] = y at hb hv ⊢
    go_wp2
    go_ret
    exact ⟨ret_int hv.out, bW⟩
  · have hm : (t : Int) = if t < 0 then 0 else t := by rw [if_neg h]
    have hv := Hid.intro (ref_less t t hm)
    have hb := less_bounds t (by omega)
    clear hm
    go_enter Tryz.func50, Tryz.ntmps50
    go_wp2_with fail
    all_goals try omega
    obtain ⟨W, hW, bW, zW, cW, fW⟩ := boxed w #[.int .i64 26] 3
    simp only [hW]
    refine (lesser_any t [26] _ W.heap.size W (Nat.le_refl _) (row1 (cW 0) (by omega))).mono ?_
    rintro e w1 ⟨rfl, rfl⟩
    clear hW cW fW zW
    generalize lessI t [26] = y at hb hv ⊢
    go_wp2
    go_ret
    exact ⟨ret_int hv.out, bW⟩
end Go.Proofs.YtnhjicbgmocilaaGreat
