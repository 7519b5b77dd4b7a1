/- The sentence's l8Take, l8Number. -/
import Derived.Test.YtknckbedddeijaaGreatTCurVo
import Derived.Test.YtknckbedddeijaaGreatTCurP
namespace Go.Proofs.YtknckbedddeijaaGreat
open Go.RowKit
set_option linter.unusedVariables false
theorem l8Take_none (s : ByteArray) (w : World) :
  Calls Tryz.prog 9 #[.string s, .int .i64 (-1)] w fun e w' => e = .returned (.tuple #[.string ⟨#[]⟩, .int .i64 (-1)]) ∧ Below w.heap.size w w' := by
 go_enter Tryz.func9, Tryz.ntmps9
 go_wp2_with fail
 refine (l8Vars_none s 1 _ (by omega) (by omega)).mono ?_
 rintro e w1 ⟨⟨v, rfl⟩, b1⟩
 go_wp2
 go_ret2
 exact ⟨rfl, b1⟩
theorem take_extract (s : ByteArray) (a n : Nat) : (s.extract a (a + n)).data.toList = (s.data.toList.drop a).take n := by
 obtain ⟨⟨l⟩⟩ := s
 simp
set_option maxRecDepth 100000 in
set_option maxHeartbeats 1600000 in
theorem l8Take_any (s : ByteArray) (a0 : Nat) (w : World) (hs : s.size ≤ 1048576) (ha : a0 ≤ s.size) :
  Calls Tryz.prog 9 #[.string s, .int .i64 (a0 : Nat)] w fun e w' => ((∃ (p : ByteArray) (a : Nat), e = .returned (.tuple #[.string p, .int .i64 (a : Nat)]) ∧ Hid (pieO (s.data.toList.drop a0) = some (p.data.toList, s.data.toList.drop a)) ∧ a ≤ s.size) ∨ (e = .returned (.tuple #[.string ⟨#[]⟩, .int .i64 (-1)]) ∧ Hid (pieO (s.data.toList.drop a0) = none))) ∧ Below w.heap.size w w' := by
 go_enter Tryz.func9, Tryz.ntmps9
 go_wp2_with fail
 refine (l8Vars_any s a0 1 _ hs ha (by omega) (by omega)).mono ?_
 rintro e w1 ⟨⟨v, ⟨xs, a, rfl, HV, hale, hl, hn⟩ | ⟨rfl, HV⟩⟩, b1⟩
 ·obtain ⟨n, rfl⟩ : ∃ n, xs = [n] := by
   match xs, hl with
   | [n], _ => exact ⟨n, rfl⟩
  have hnum : numO (s.data.toList.drop a0) = some (n, s.data.toList.drop a) := by
   have h := HV.out
   rw [varsO_one] at h
   cases hx : numO (s.data.toList.drop a0) with
   | none => rw [hx] at h; cases h
   | some y =>
    rw [hx] at h
    obtain ⟨y1, y2⟩ := y
    simp at h
    rw [h.1, h.2]
  have HN := Hid.intro (numO_out hnum)
  obtain ⟨g, cap, rfl, hcap, hg, hlt, hcell⟩ := hn
  have k0 : w1.cell? ⟨g, 0, none⟩ = some (.int .i64 (n : Nat)) := hcell 0 (by simp)
  have hsz : n ≤ 562949953421311 := HN.out.1
  clear HV hnum hcell
  simp only [List.length_cons, List.length_nil, Nat.zero_add] at hcap ⊢
  by_cases hle : n ≤ s.size - a
  ·have g1 : ¬ ((s.size : Int) - (a : Int)) < (n : Int) := by omega
   have HP : Hid (pieO (s.data.toList.drop a0) = some ((s.extract a (a + n)).data.toList, s.data.toList.drop (a + n))) := by
    unfold Hid
    rw [take_extract, ← List.drop_drop]
    exact pieO_yes (pie_of HN.out (by simp; omega))
   have i1 : (0 : Int) ≤ (a : Int) ∧ (a : Int) ≤ (a : Int) + (n : Int) ∧ (a : Int) + (n : Int) ≤ (s.size : Int) := by omega
   clear HN
   go_wp2
   go_region
   all_goals
    go_wp2
    go_ret2
    exact ⟨.inl ⟨_, a + n, by first | rfl | (simp; done), HP, by omega⟩, by first | exact b1.drew | exact b1⟩
  ·have g1 : ((s.size : Int) - (a : Int)) < (n : Int) := by omega
   have HP : Hid (pieO (s.data.toList.drop a0) = none) := pieO_no (no_pie_short HN.out (by simp; omega))
   clear HN
   go_wp2
   go_ret2
   exact ⟨.inr ⟨rfl, HP⟩, b1⟩
 ·have HP : Hid (pieO (s.data.toList.drop a0) = none) := by
   have h := HV.out
   rw [varsO_one] at h
   refine pieO_no (fun p r k => ?_)
   rw [numO_yes (pie_num k)] at h
   cases h
  clear HV
  go_wp2
  go_ret2
  exact ⟨.inr ⟨rfl, HP⟩, b1⟩
end Go.Proofs.YtknckbedddeijaaGreat
