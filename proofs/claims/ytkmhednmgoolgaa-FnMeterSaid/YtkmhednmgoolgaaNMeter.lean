/- FnMeter. -/
import Derived.Test.YtkmhednmgoolgaaNSmall
import Derived.Deep.CutRange
import Derived.Deep.CutBlock
namespace Go.Proofs.Ytkmhednmgoolgaa
open Go.RowKit
set_option linter.unusedVariables false
/-- A row of bytes below block N. -/
def RowOk (w : World) (N : Nat) (a : Option Addr) (len : Nat) (zs : List Int) : Prop :=
  ∀ j, j < len → ∃ b off, a = some ⟨b, off, none⟩ ∧ b < N ∧ w.cell? ⟨b, off + j, none⟩ = some (.int .u8 (zs.getD j 0)) ∧ 0 ≤ zs.getD j 0 ∧ zs.getD j 0 < 256
theorem RowOk.below {w w' : World} {N : Nat} {a : Option Addr} {len : Nat} {zs : List Int} (h : RowOk w N a len zs) (hb : Below N w w') : RowOk w' N a len zs := by
  intro j hj
  obtain ⟨b, off, h1, h2, h3, h4⟩ := h j hj
  exact ⟨b, off, h1, h2, (hb.cell (p := ⟨b, off + j, none⟩) h2).trans h3, h4⟩
set_option maxRecDepth 100000 in
theorem big_no (a : Option Addr) (len cap : Nat) (w : World) (h : (len : Int) ≤ 1048576) :
    Calls Try.prog 9 #[.slice a len cap] w fun e w' => e = .returned (.bool false) ∧ w = w' := by
  go_enter Try.func9, Try.ntmps9
  go_wp2
  go_ret
  exact ⟨by first | rfl | exact ret_bool (by simp; omega) | exact ret_bool (decide_eq_false (by omega)), rfl⟩
set_option maxRecDepth 100000 in
theorem big_yes (a : Option Addr) (len cap : Nat) (w : World) (h : ¬ (len : Int) ≤ 1048576) (hm : len ≤ 9223372036854775807) :
    Calls Try.prog 9 #[.slice a len cap] w fun e w' => e = .returned (.bool true) ∧ w = w' := by
  go_enter Try.func9, Try.ntmps9
  go_wp2
  go_ret
  exact ⟨by first | rfl | exact ret_bool (by simp; omega) | exact ret_bool (decide_eq_true (by omega)), rfl⟩
set_option maxRecDepth 100000 in
set_option maxHeartbeats 1000000 in
theorem at_any (zs : List Int) (a : Option Addr) (len cap : Nat) (i : Int) (w : World) (h : (len : Int) ≤ 1048576) (h0 : 0 ≤ i) (h1 : i ≤ 100) (hr : RowOk w w.heap.size a len zs) :
    Calls Try.prog 10 #[.slice a len cap, .int .i64 i] w fun e w' => (∃ x : Int, e = .returned (.int .i64 x) ∧ 0 ≤ x ∧ x ≤ 255) ∧ w = w' := by
  obtain ⟨j, rfl⟩ := Int.eq_ofNat_of_zero_le h0
  by_cases hj : (j : Int) < len
  · obtain ⟨b, off, rfl, hb, hc, hz0, hz1⟩ := hr j (by omega)
    have i1 : (0 : Int) ≤ (j : Int) ∧ (j : Int) < (len : Int) := by omega
    generalize zs.getD j 0 = z at hc hz0 hz1
    clear hr
    go_enter Try.func10, Try.ntmps10
    go_wp2
    go_ret
    exact ⟨⟨_, rfl, by omega, by omega⟩, rfl⟩
  · have HQ : ∀ q : Int, 0 ≤ q → 0 ≤ q.tmod 256 ∧ q.tmod 256 ≤ 255 := fun q hq => by
      have := Int.tmod_lt_of_pos q (show (0 : Int) < 256 by omega)
      exact ⟨Int.tmod_nonneg _ hq, by omega⟩
    have HH := Hid.intro HQ
    clear hr HQ
    go_enter Try.func10, Try.ntmps10
    go_wp2
    go_ret
    refine ⟨⟨_, rfl, ?_⟩, rfl⟩
    first | exact HH.out _ (by omega) | (have := HH.out ((j : Int) * 37 + (len : Int) * 11) (by omega); omega) | omega
set_option maxRecDepth 100000 in
set_option maxHeartbeats 8000000 in
theorem meter_law (zs : List Int) (len cap : Nat) (a : Option Addr) (w : World) (hm : len ≤ 9223372036854775807) (hr : RowOk w w.heap.size a len zs) :
    Calls Try.prog 3 #[.slice a len cap] w fun e w' => e = .returned (.bool true) ∧ Below w.heap.size w w' := by
  have HR := Hid.intro hr
  clear hr
  by_cases hl : (len : Int) ≤ 1048576
  · go_enter Try.func3, Try.ntmps3
    go_wp2_with (go_at_call 9; refine (big_no _ _ _ _ hl).mono ?_; rintro e w' ⟨rfl, rfl⟩)
    go_loopw [3, 4, 5, 6] (fun tv sv fv i wr => ∃ (j : Nat) (t s f : Int), i = .int .i64 j ∧ tv = .int .i64 t ∧ sv = .int .i64 s ∧ fv = .int .i64 f ∧ j ≤ 60 ∧ 0 ≤ t ∧ t ≤ 30 ∧ 0 ≤ s ∧ 0 ≤ f ∧ f ≤ j ∧ t + s ≤ 30 + 4 * f ∧ Hid (Below w.heap.size w wr)) (fun _ _ _ i _ => 60 - (intOf i).toNat)
    case atStart => exact ⟨0, 30, 0, 0, rfl, rfl, rfl, rfl, by omega, by omega, by omega, by omega, by omega, by omega, by omega, Below.refl _ _⟩
    case round =>
      obtain ⟨j, t, s, f, rfl, rfl, rfl, rfl, hj, t0, t1, s0, f0, f1, hs, HB⟩ := hrel
      have hz := HB.out.size
      have HRR : Hid (RowOk wr wr.heap.size a len zs) := fun k hk => by
        obtain ⟨b, off, q1, q2, q3⟩ := HR.out.below HB.out k hk
        exact ⟨b, off, q1, by omega, q3⟩
      by_cases hlt : j < 60
      · have hlt' : (j : Int) < 60 := by omega
        go_wp2_with fail
        refine (at_any zs a len cap (j : Int) _ hl (by omega) (by omega) HRR.out).mono ?_
        rintro e w1 ⟨⟨x, rfl, x0, x1⟩, rfl⟩
        cases hx : (x % 3 == 0) with
        | true =>
          go_wp2_with fail
          refine (implRefill_any t _).mono ?_
          rintro e w1 ⟨rfl, b1⟩
          have hrf : 0 ≤ refI t ∧ refI t ≤ 30 ∧ refI t ≤ t + 4 := by unfold refI; split <;> (try split) <;> omega
          replace HB := Hid.intro (HB.out.trans (b1.mono hz))
          generalize refI t = t' at hrf ⊢
          clear b1
          go_wp2_with fail
          go_roundw
          case rel => exact ⟨j + 1, t', s, f + 1, by go_num, by first | rfl | go_num, by first | rfl | go_num, by first | rfl | go_num, by omega, by omega, by omega, by omega, by omega, by omega, by omega, HB⟩
          case measure => simp [intOf]; omega
        | false =>
          go_wp2_with fail
          refine (at_any zs a len cap (j : Int) _ hl (by omega) (by omega) HRR.out).mono ?_
          rintro e w1 ⟨⟨y, rfl, y0, y1⟩, rfl⟩
          clear hx x0 x1
          have hk0 : -1 ≤ y % 25 - 1 ∧ y % 25 - 1 ≤ 23 := by omega
          go_upto_region 13 with fail
          generalize y % 25 - 1 = k at hk0 ⊢
          clear y0 y1
          go_wp2_with fail
          refine (implSpend_any t k _ (by omega) (by omega)).mono ?_
          rintro e w1 ⟨rfl, rfl⟩
          have h3 := cost_three k
          have hb0 : (t != t) = false := by simp
          by_cases h : costI k ≠ 0 ∧ costI k ≤ t
          · obtain ⟨e1, e2⟩ := spend_yes h
            simp only [e1, e2]
            clear e1 e2
            obtain ⟨ha, hb⟩ := h
            rcases h3 with h3 | h3 | h3
            · exact absurd h3 ha
            · simp only [h3] at hb ⊢
              have hb1 : ((t - 1) != (t - 1)) = false := by simp
              clear ha
              go_wp2_with (first | (go_at_call 13; refine (specCost_any k _).mono ?_; rintro e w9 ⟨rfl, rfl⟩; simp only [h3]) | (go_at_call 14; refine (implCost_any k _).mono ?_; rintro e w9 ⟨rfl, rfl⟩; simp only [h3]))
              go_roundw
              case rel => exact ⟨j + 1, t - 1, s + 1, f, by go_num, by first | rfl | go_num, by first | rfl | go_num, by first | rfl | go_num, by omega, by omega, by omega, by omega, by omega, by omega, by omega, HB⟩
              case measure => simp [intOf]; omega
            · simp only [h3] at hb ⊢
              have hb1 : ((t - 3) != (t - 3)) = false := by simp
              clear ha
              go_wp2_with (first | (go_at_call 13; refine (specCost_any k _).mono ?_; rintro e w9 ⟨rfl, rfl⟩; simp only [h3]) | (go_at_call 14; refine (implCost_any k _).mono ?_; rintro e w9 ⟨rfl, rfl⟩; simp only [h3]))
              go_roundw
              case rel => exact ⟨j + 1, t - 3, s + 3, f, by go_num, by first | rfl | go_num, by first | rfl | go_num, by first | rfl | go_num, by omega, by omega, by omega, by omega, by omega, by omega, by omega, HB⟩
              case measure => simp [intOf]; omega
          · obtain ⟨e1, e2⟩ := spend_no h
            simp only [e1, e2]
            clear e1 e2
            rcases h3 with h3 | h3 | h3
            · clear h
              go_wp2_with (first | (go_at_call 13; refine (specCost_any k _).mono ?_; rintro e w9 ⟨rfl, rfl⟩; simp only [h3]) | (go_at_call 14; refine (implCost_any k _).mono ?_; rintro e w9 ⟨rfl, rfl⟩; simp only [h3]))
              go_roundw
              case rel => exact ⟨j + 1, t, s, f, by go_num, by first | rfl | go_num, by first | rfl | go_num, by first | rfl | go_num, by omega, by omega, by omega, by omega, by omega, by omega, by omega, HB⟩
              case measure => simp [intOf]; omega
            · have hn : ¬ (1 : Int) ≤ t := fun hh => h (by rw [h3]; exact ⟨by decide, hh⟩)
              clear h
              go_wp2_with (first | (go_at_call 13; refine (specCost_any k _).mono ?_; rintro e w9 ⟨rfl, rfl⟩; simp only [h3]) | (go_at_call 14; refine (implCost_any k _).mono ?_; rintro e w9 ⟨rfl, rfl⟩; simp only [h3]))
              go_roundw
              case rel => exact ⟨j + 1, t, s, f, by go_num, by first | rfl | go_num, by first | rfl | go_num, by first | rfl | go_num, by omega, by omega, by omega, by omega, by omega, by omega, by omega, HB⟩
              case measure => simp [intOf]; omega
            · have hn : ¬ (3 : Int) ≤ t := fun hh => h (by rw [h3]; exact ⟨by decide, hh⟩)
              clear h
              go_wp2_with (first | (go_at_call 13; refine (specCost_any k _).mono ?_; rintro e w9 ⟨rfl, rfl⟩; simp only [h3]) | (go_at_call 14; refine (implCost_any k _).mono ?_; rintro e w9 ⟨rfl, rfl⟩; simp only [h3]))
              go_roundw
              case rel => exact ⟨j + 1, t, s, f, by go_num, by first | rfl | go_num, by first | rfl | go_num, by first | rfl | go_num, by omega, by omega, by omega, by omega, by omega, by omega, by omega, HB⟩
              case measure => simp [intOf]; omega
      · obtain rfl : j = 60 := by omega
        have hc1 : costI 1 = 3 := by decide
        have ht4 : tellsB 4 = true := by decide
        go_wp2_with (first | (go_at_call 14; refine (implCost_any 1 _).mono ?_; rintro e w9 ⟨rfl, rfl⟩; simp only [hc1]) | (go_at_call 15; refine (implTells_any 4 _).mono ?_; rintro e w9 ⟨rfl, rfl⟩; simp only [ht4]))
        go_ret
        exact ⟨rfl, HB.out⟩
  · go_enter Try.func3, Try.ntmps3
    go_wp2_with (go_at_call 9; refine (big_yes _ _ _ _ hl hm).mono ?_; rintro e w' ⟨rfl, rfl⟩)
    go_ret
    exact ⟨rfl, Below.refl _ _⟩
end Go.Proofs.Ytkmhednmgoolgaa
