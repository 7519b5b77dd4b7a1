/- The contract of the draw of a path. -/
import Derived.Test.YtmkofkdcjeidhaaDrawP
namespace Go.Proofs.Ytmkofkdcjeidhaa
open Go.RowKit
set_option linter.unusedVariables false

theorem size_append (a b : ByteArray) : (a ++ b).size = a.size + b.size := ByteArray.size_append

theorem lits_odd : okLits #[.string ⟨#[108, 111, 110, 103, 110, 97, 109, 101, 57]⟩, .string ⟨#[65, 66, 67]⟩, .string ⟨#[120, 32, 121]⟩, .string ⟨#[46, 104, 105, 100]⟩, .string ⟨#[46, 46, 46]⟩] := by
  intro v hv
  simp at hv
  rcases hv with rfl | rfl | rfl | rfl | rfl <;> exact ⟨_, rfl, by decide⟩

section
variable {N : Nat} {a : Option Addr} {len cap : Nat} {zs : List Int} {B : Nat}

set_option maxHeartbeats 1000000 in
theorem pathC_any (w : World) (c : Cur N a len cap zs B w) :
    Calls Try.prog 26 #[.pointer (some ⟨B, 0, none⟩)] w fun e w' => ∃ s : ByteArray, e = .returned (.string s) ∧ s.size ≤ 5000 ∧ Cur N a len cap zs B w' ∧ w.grownBy w' (some B) := by
  have C := Hid.intro c
  clear c
  go_enter Try.func26, Try.ntmps26
  go_wp2_with fail
  refine (belowC_any 5 _ C.out (by omega) (by omega)).mono ?_
  rintro e w1 ⟨x, rfl, x0, x1, c1, g1⟩
  obtain ⟨n, rfl⟩ := Int.eq_ofNat_of_zero_le x0
  go_wp2_with fail
  go_loopw [3, 4] (fun t i wr => ∃ (r : Nat) (s : ByteArray), i = .int .i64 (r : Int) ∧ t = .string s ∧ r ≤ 4 ∧ s.size + r * 300 ≤ 1200 ∧ Hid (Cur N a len cap zs B wr) ∧ w.grownBy wr (some B)) (fun _ i _ => (intOf i).toNat)
  case atStart => exact ⟨n, ByteArray.empty, rfl, rfl, by omega, by show 0 + n * 300 ≤ 1200; omega, c1, g1⟩
  case round =>
    obtain ⟨r, s, rfl, rfl, hr, hs, CR, gr⟩ := hrel
    clear c1 g1
    rcases r with _ | r
    · cases hE : s.toList.isEmpty with
      | true =>
        go_wp2_with fail
        refine (onceC_any 30 _ CR.out (by omega) (by omega)).mono ?_
        rintro e w5 ⟨b2, rfl, c5, g5⟩
        have C5 := Hid.intro c5
        have gr5 := grown_trans gr g5
        clear c5 g5
        cases b2 with
        | true =>
          go_wp2_with fail
          refine (pickC_any 4 _ _ C5.out ?hlA rfl (by omega) (by omega)).mono ?_
          case hlA =>
            intro v hv
            simp at hv
            rcases hv with rfl | rfl | rfl | rfl <;> exact ⟨_, rfl, by decide⟩
          rintro e w6 ⟨s6, rfl, hs6, c6, g6⟩
          have gr6 := grown_trans gr5 g6
          clear g6 gr5
          go_wp2
          go_ret
          exact ⟨s6, rfl, by omega, c6, gr6⟩
        | false =>
          go_wp2
          go_ret
          exact ⟨_, rfl, by simp only [size_append]; show s.size + 1 ≤ 5000; omega, C5.out, gr5⟩
      | false =>
        go_wp2_with fail
        refine (onceC_any 20 _ CR.out (by omega) (by omega)).mono ?_
        rintro e w4 ⟨b1, rfl, c4, g4⟩
        have C4 := Hid.intro c4
        have gr4 := grown_trans gr g4
        clear c4 g4
        cases b1 with
        | true =>
          go_wp2_with fail
          refine (onceC_any 30 _ C4.out (by omega) (by omega)).mono ?_
          rintro e w5 ⟨b2, rfl, c5, g5⟩
          have C5 := Hid.intro c5
          have gr5 := grown_trans gr4 g5
          clear c5 g5
          cases b2 with
          | true =>
            go_wp2_with fail
            refine (pickC_any 4 _ _ C5.out ?hlB rfl (by omega) (by omega)).mono ?_
            case hlB =>
              intro v hv
              simp at hv
              rcases hv with rfl | rfl | rfl | rfl <;> exact ⟨_, rfl, by decide⟩
            rintro e w6 ⟨s6, rfl, hs6, c6, g6⟩
            have gr6 := grown_trans gr5 g6
            clear g6 gr5
            go_wp2
            go_ret
            exact ⟨s6, rfl, by omega, c6, gr6⟩
          | false =>
            go_wp2
            go_ret
            exact ⟨_, rfl, by simp only [size_append]; show s.size + 1 ≤ 5000; omega, C5.out, gr5⟩
        | false =>
          go_wp2_with fail
          refine (onceC_any 30 _ C4.out (by omega) (by omega)).mono ?_
          rintro e w5 ⟨b2, rfl, c5, g5⟩
          have C5 := Hid.intro c5
          have gr5 := grown_trans gr4 g5
          clear c5 g5
          cases b2 with
          | true =>
            go_wp2_with fail
            refine (pickC_any 4 _ _ C5.out ?hlC rfl (by omega) (by omega)).mono ?_
            case hlC =>
              intro v hv
              simp at hv
              rcases hv with rfl | rfl | rfl | rfl <;> exact ⟨_, rfl, by decide⟩
            rintro e w6 ⟨s6, rfl, hs6, c6, g6⟩
            have gr6 := grown_trans gr5 g6
            clear g6 gr5
            go_wp2
            go_ret
            exact ⟨s6, rfl, by omega, c6, gr6⟩
          | false =>
            go_wp2
            go_ret
            exact ⟨_, rfl, by omega, C5.out, gr5⟩
    · go_wp2_with fail
      refine (nameC_any _ CR.out).mono ?_
      rintro e w2 ⟨s2, rfl, hs2, c2, g2⟩
      have C2 := Hid.intro c2
      have gr2 := grown_trans gr g2
      clear c2 g2 gr CR
      go_wp2_with fail
      refine (belowC_any 14 _ C2.out (by omega) (by omega)).mono ?_
      rintro e w3 ⟨y, rfl, y0, y1, c3, g3⟩
      have C3 := Hid.intro c3
      have gr3 := grown_trans gr2 g3
      clear c3 g3 gr2 C2
      by_cases d0 : y = 0
      · subst d0
        go_wp2
        go_roundw
        case rel => exact ⟨r, (s ++ ⟨#[47]⟩ ++ s2 ++ ⟨#[47, 46]⟩), rfl, rfl, by omega, by simp only [size_append]; show s.size + 1 + s2.size + 2 + r * 300 ≤ 1200; omega, C3, gr3⟩
        case measure => simp [intOf]
      by_cases d1 : y = 1
      · subst d1
        go_wp2
        go_roundw
        case rel => exact ⟨r, (s ++ ⟨#[47]⟩ ++ s2 ++ ⟨#[47, 46, 46]⟩), rfl, rfl, by omega, by simp only [size_append]; show s.size + 1 + s2.size + 3 + r * 300 ≤ 1200; omega, C3, gr3⟩
        case measure => simp [intOf]
      by_cases d2 : y = 2
      · subst d2
        go_wp2
        go_roundw
        case rel => exact ⟨r, (s ++ ⟨#[47]⟩ ++ s2 ++ ⟨#[47]⟩), rfl, rfl, by omega, by simp only [size_append]; show s.size + 1 + s2.size + 1 + r * 300 ≤ 1200; omega, C3, gr3⟩
        case measure => simp [intOf]
      by_cases d3 : y = 3
      · subst d3
        go_wp2_with fail
        refine (pickC_any 5 _ _ C3.out lits_odd rfl (by omega) (by omega)).mono ?_
        rintro e w4 ⟨s4, rfl, hs4, c4, g4⟩
        have C4 := Hid.intro c4
        have gr4 := grown_trans gr3 g4
        clear c4 g4 gr3 C3
        go_wp2
        go_roundw
        case rel => exact ⟨r, (s ++ ⟨#[47]⟩ ++ s2 ++ s4), rfl, rfl, by omega, by simp only [size_append]; show s.size + 1 + s2.size + s4.size + r * 300 ≤ 1200; omega, C4, gr4⟩
        case measure => simp [intOf]
      have e0 : (y == 0) = false := beq_eq_false_iff_ne.2 d0
      have e1 : (y == 1) = false := beq_eq_false_iff_ne.2 d1
      have e2 : (y == 2) = false := beq_eq_false_iff_ne.2 d2
      have e3 : (y == 3) = false := beq_eq_false_iff_ne.2 d3
      clear d0 d1 d2 d3
      go_wp2
      go_roundw
      case rel => exact ⟨r, (s ++ ⟨#[47]⟩ ++ s2), rfl, rfl, by omega, by simp only [size_append]; show s.size + 1 + s2.size + r * 300 ≤ 1200; omega, C3, gr3⟩
      case measure => simp [intOf]
end

end Go.Proofs.Ytmkofkdcjeidhaa
