/- Results: what it is to be right, and what is shown of one, on both sides. -/
import Derived.Test.YthicdhjipebghaaTVar
namespace Go.Proofs.Ythicdhjipebghaa
open Go.RowKit
set_option linter.unusedVariables false
/-- A result. -/
structure Re where
  c : Int
  d : ByteArray
@[reducible] def reV (r : Re) : Value := .agg #[.int .i64 r.c, .string r.d]
def resP (r : Re) : Prop := (0 ≤ r.c ∧ r.c ≤ 200) ∧ r.d.size ≤ 400
instance (r : Re) : Decidable (resP r) := by unfold resP; infer_instance
def resB (r : Re) : Bool := decide (resP r)
theorem resB_yes {r : Re} (h : resP r) : resB r = true := decide_eq_true h
theorem resB_no {r : Re} (h : ¬ resP r) : resB r = false := decide_eq_false h
/-- What is shown of a result. -/
def shR (r : Re) : ByteArray := if resP r then varS r.c.toNat ++ r.d else ByteArray.empty
theorem shR_yes {r : Re} (h : resP r) : shR r = varS r.c.toNat ++ r.d := if_pos h
theorem shR_no {r : Re} (h : ¬ resP r) : shR r = ByteArray.empty := if_neg h
set_option maxRecDepth 100000 in
set_option maxHeartbeats 800000 in
theorem specResultOk_any (r : Re) (w : World) :
    Calls Try.prog 27 #[reV r] w fun e w' => e = .returned (.bool (resB r)) ∧ Below w.heap.size w w' := by
  by_cases h1 : 0 ≤ r.c ∧ r.c ≤ 200
  · have b1 := inB_true h1
    by_cases h2 : (r.d.size : Int) ≤ 400
    · rw [resB_yes ⟨h1, by omega⟩]
      go_enter Try.func27, Try.ntmps27
      go_wp2_with (go_at_call 42; refine (l1In_any _ _ _ _).mono ?_; rintro e w9 ⟨rfl, rfl⟩)
      go_ret
      exact ⟨rfl, one_below _ _⟩
    · rw [resB_no (by unfold resP; omega)]
      go_enter Try.func27, Try.ntmps27
      go_wp2_with (go_at_call 42; refine (l1In_any _ _ _ _).mono ?_; rintro e w9 ⟨rfl, rfl⟩)
      go_ret
      exact ⟨ret_bool (decide_eq_false (by omega)), one_below _ _⟩
  · have b1 := inB_false h1
    rw [resB_no (by unfold resP; omega)]
    go_enter Try.func27, Try.ntmps27
    go_wp2_with (go_at_call 42; refine (l1In_any _ _ _ _).mono ?_; rintro e w9 ⟨rfl, rfl⟩)
    go_ret
    exact ⟨rfl, one_below _ _⟩
set_option maxRecDepth 100000 in
set_option maxHeartbeats 800000 in
theorem implResultOk_any (r : Re) (w : World) :
    Calls Try.prog 17 #[reV r] w fun e w' => e = .returned (.bool (resB r)) ∧ Below w.heap.size w w' := by
  by_cases h1 : 0 ≤ r.c ∧ r.c ≤ 200
  · have b1 := inB_true h1
    by_cases h2 : (r.d.size : Int) ≤ 400
    · rw [resB_yes ⟨h1, by omega⟩]
      go_enter Try.func17, Try.ntmps17
      go_wp2_with (go_at_call 32; refine (within_any _ _ _ _).mono ?_; rintro e w9 ⟨rfl, rfl⟩)
      go_ret
      exact ⟨rfl, one_below _ _⟩
    · rw [resB_no (by unfold resP; omega)]
      go_enter Try.func17, Try.ntmps17
      go_wp2_with (go_at_call 32; refine (within_any _ _ _ _).mono ?_; rintro e w9 ⟨rfl, rfl⟩)
      go_ret
      exact ⟨ret_bool (decide_eq_false (by omega)), one_below _ _⟩
  · have b1 := inB_false h1
    rw [resB_no (by unfold resP; omega)]
    go_enter Try.func17, Try.ntmps17
    go_wp2_with (go_at_call 32; refine (within_any _ _ _ _).mono ?_; rintro e w9 ⟨rfl, rfl⟩)
    go_ret
    exact ⟨rfl, one_below _ _⟩
set_option maxRecDepth 100000 in
set_option maxHeartbeats 1600000 in
theorem specShowResult_any (r : Re) (w : World) (hd : r.d.size ≤ 1048576) :
    Calls Try.prog 14 #[reV r] w fun e w' => e = .returned (.string (shR r)) ∧ Below w.heap.size w w' := by
  by_cases h : resP r
  · have hb := resB_yes h
    rw [shR_yes h]
    obtain ⟨c, d⟩ := r
    obtain ⟨n, rfl⟩ := Int.eq_ofNat_of_zero_le h.1.1
    have hn : n ≤ 200 := by have := h.1.2; simp only at this; omega
    clear h
    simp only [Int.toNat_natCast] at hb hd ⊢
    go_enter Try.func14, Try.ntmps14
    go_wp2_with fail
    obtain ⟨W, hW, bW, zW, cW, fW⟩ := boxed w #[.int .i64 n, .string d] 23
    simp only [hW]
    have c0 : W.cell? ⟨w.heap.size, 0, none⟩ = some (.int .i64 n) := cW 0
    have c1 : W.cell? ⟨w.heap.size, 1, none⟩ = some (.string d) := cW 1
    clear hW fW cW
    refine (specResultOk_any ⟨n, d⟩ _).mono ?_
    rintro e w1 ⟨rfl, b1⟩
    have d0 := (b1.cell (p := ⟨w.heap.size, 0, none⟩) (by simp; omega)).trans c0
    have d1 := (b1.cell (p := ⟨w.heap.size, 1, none⟩) (by simp; omega)).trans c1
    have z1 := b1.size
    have B1 := bW.trans (b1.mono (by omega))
    have HC : Hid (∀ w2, Below w1.heap.size w1 w2 → w2.cell? ⟨w.heap.size, 1, none⟩ = some (.string d)) := fun w2 b => (b.cell (p := ⟨w.heap.size, 1, none⟩) (by simp; omega)).trans d1
    clear c0 c1 b1 bW
    have hv := varS_le n
    go_wp2
    go_region_with (go_at_call 28; refine (specVar_yes _ _ (by omega)).mono ?_; rintro e w2 ⟨rfl, b2⟩; have hc1 := HC.out w2 ((Below.refl w1.heap.size w1).drew.trans b2))
    all_goals
      go_wp2
      go_ret
      exact ⟨rfl, B1.trans (((Below.refl w1.heap.size w1).drew.trans b2).mono (by omega))⟩
  · have hb := resB_no h
    rw [shR_no h]
    go_enter Try.func14, Try.ntmps14
    go_wp2_with fail
    refine (specResultOk_any r _).mono ?_
    rintro e w1 ⟨rfl, b1⟩
    have B1 := (one_below w _).trans (b1.mono (by simp))
    go_wp2
    go_ret
    exact ⟨rfl, B1⟩
end Go.Proofs.Ythicdhjipebghaa
