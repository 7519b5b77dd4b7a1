/- A cursor's count; one more name at the end of a row of the call's own. -/
import Derived.Test.YtdnngbdkmdphoaaTCurP
import Derived.Test.YtdnngbdkmdphoaaPReg
import Derived.Test.YtdnngbdkmdphoaaVRow
import Derived.Test.YtdnngbdkmdphoaaTVars
import Derived.Deep.AppendLies
import Derived.Deep.Cut
namespace Go.Proofs.Ytdnngbdkmdphoaa
open Go.RowKit
set_option linter.unusedVariables false
/-- A count at the front that is not above most. -/
noncomputable def cntO (most : Nat) (l : List UInt8) : Option (Nat × List UInt8) := (numO l).bind fun x => if x.1 ≤ most then some x else none
set_option maxRecDepth 100000 in
set_option maxHeartbeats 800000 in
theorem countC_any (b most : Nat) (q : ByteArray) (w : World) (hc : CurAt w b q) (hs : q.size ≤ 1048576) :
    Calls Try.prog 58 #[.pointer (some ⟨b, 0, none⟩), .int .i64 (most : Nat)] w fun e w' =>
      (∃ (n : Nat) (q' : ByteArray), e = .returned (.int .i64 (n : Nat)) ∧ Hid (cntO most q.data.toList = some (n, q'.data.toList)) ∧ n ≤ most ∧ CurAt w' b q' ∧ q'.size ≤ 1048576 ∧ Only (fun k => k = b) w w') ∨ (Lack e ∧ Hid (cntO most q.data.toList = none) ∧ Only (fun k => k = b) w w') := by
  have hlt := hc.lt
  go_enter Try.func58, Try.ntmps58
  go_wp2_with fail
  refine (number_any b q _ hc hs).mono ?_
  rintro e w1 (⟨x, q1, rfl, hn, rfl⟩ | ⟨⟨pv, rfl⟩, hn, rfl⟩)
  · have hsz := num_size hn hs
    have c1 : CurAt (w.setCell ⟨b, 0, none⟩ (.string q1)) b q1 := hc.set
    have b1 : Only (fun k => k = b) w (w.setCell ⟨b, 0, none⟩ (.string q1)) := ob_set _ _ _
    have e1 := numO_yes hn
    by_cases hm : x ≤ most
    · have g1 : ¬ (most : Int) < (x : Int) := by omega
      have HP : Hid (cntO most q.data.toList = some (x, q1.data.toList)) := by
        unfold Hid cntO
        rw [e1, Option.bind_some, if_pos hm]
      clear e1 hn hc
      generalize w.setCell ⟨b, 0, none⟩ (.string q1) = w1 at c1 b1 ⊢
      go_wp2
      go_ret
      exact .inl ⟨x, q1, rfl, HP, hm, c1, hsz, b1⟩
    · have g1 : (most : Int) < (x : Int) := by omega
      have HP : Hid (cntO most q.data.toList = none) := by
        unfold Hid cntO
        rw [e1, Option.bind_some, if_neg hm]
      clear e1 hn hc
      generalize w.setCell ⟨b, 0, none⟩ (.string q1) = w1 at c1 b1 ⊢
      go_wp2
      exact ⟨rfl, .inr ⟨⟨_, rfl⟩, HP, b1⟩⟩
  · have HP : Hid (cntO most q.data.toList = none) := by
      unfold Hid cntO
      rw [numO_no hn]
      rfl
    clear hn
    go_wp2
    exact ⟨rfl, .inr ⟨⟨_, rfl⟩, HP, Only.refl _ _⟩⟩
end Go.Proofs.Ytdnngbdkmdphoaa
