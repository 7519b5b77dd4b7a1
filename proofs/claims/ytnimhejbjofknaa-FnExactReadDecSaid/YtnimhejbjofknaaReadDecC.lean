/- The contract of the program's ReadDec, and the law. -/
import Derived.Test.YtnimhejbjofknaaReadDecB
namespace Go.Proofs.Ytnimhejbjofknaa
open Go.RowKit
set_option linter.unusedVariables false

set_option maxHeartbeats 600000 in
set_option maxRecDepth 100000 in
theorem implReadDec_neg (s D : ByteArray) (w : World) (hs : s.size ≤ 1048576) (HC : Hid (cutN s.data.toList = true)) (HD : Hid (D.data.toList = cutD s.data.toList)) (hsz : D.size ≤ 1048576)
    (hcut : Hid (∀ w, Calls Try.prog 7 #[.string s, .string ⟨#[45]⟩] w fun e w' => e = .returned (.tuple #[.string D, .bool true]) ∧ w = w')) :
    Calls Try.prog 5 #[.string s] w fun e w' => RDret s.data.toList e ∧ w = w' := by
  have HL : Hid ((cutD s.data.toList).length = D.size) := by unfold Hid; rw [← HD.out]; simp
  by_cases h1 : (D.size : Int) < 1
  · have HR : Hid (RD s.data.toList 0 false) := .inr ⟨rfl, rfl, fun g => by have := g.2.1; have := HL.out; omega⟩
    go_enter Try.func5, Try.ntmps5
    go_wp2_with fail
    refine (hcut.out _).mono ?_
    rintro e w' ⟨rfl, rfl⟩
    go_wp2
    go_ret2
    exact ⟨⟨0, false, rfl, HR.out⟩, rfl⟩
  · by_cases h9 : (9 : Int) < (D.size : Int)
    · have HR : Hid (RD s.data.toList 0 false) := .inr ⟨rfl, rfl, fun g => by have := g.2.2.1; have := HL.out; omega⟩
      go_enter Try.func5, Try.ntmps5
      go_wp2_with fail
      refine (hcut.out _).mono ?_
      rintro e w' ⟨rfl, rfl⟩
      go_wp2
      go_ret2
      exact ⟨⟨0, false, rfl, HR.out⟩, rfl⟩
    · have hp : 0 < D.size := by omega
      have HH : Hid ((cutD s.data.toList).head? = some D[0]) := by
        unfold Hid
        rw [← HD.out, List.head?_eq_getElem?, List.getElem?_eq_getElem (by simpa using hp)]; rfl
      have h48 : (48 : UInt8).toNat = 48 := rfl
      by_cases hz : ((D[0].toNat : Int) == 48) = true
      · have HZ : Hid (D[0] = 48) := UInt8.toNat_inj.1 (by have := beq_iff_eq.1 hz; omega)
        by_cases hq : (s.toList == [48]) = true
        · have HQ : Hid (s.data.toList = [48]) := by unfold Hid; rw [← ByteArray.toList_eq]; exact beq_iff_eq.1 hq
          go_enter Try.func5, Try.ntmps5
          go_wp2_with fail
          refine (hcut.out _).mono ?_
          rintro e w' ⟨rfl, rfl⟩
          go_wp2_with fail
          refine (digits_any D _ (by omega)).mono ?_
          rintro e w' ⟨hg, rfl⟩
          rcases hg with ⟨ha, rfl⟩ | ⟨ha, rfl⟩
          · have HA : Hid (allD D.data.toList) := ha
            clear ha
            have bN := scN_le10 D.data.toList (by simp; omega)
            go_wp2
            go_ret2
            exact ⟨⟨_, true, rfl, .inl ⟨rfl, ⟨by rw [← HD.out]; exact HA.out, by have := HL.out; omega, by have := HL.out; omega, fun _ => HQ.out⟩, by rw [dval_neg HC.out, (scN_cut s.data.toList).1, ← HD.out]⟩⟩, rfl⟩
          · have HA : Hid (¬ allD D.data.toList) := ha
            clear ha
            go_wp2
            go_ret2
            exact ⟨⟨0, false, rfl, .inr ⟨rfl, rfl, fun g => HA.out (by rw [HD.out]; exact g.1)⟩⟩, rfl⟩
        · have hq' : (s.toList == [48]) = false := by simpa using hq
          have HR : Hid (RD s.data.toList 0 false) := .inr ⟨rfl, rfl, fun g => by
            have := g.2.2.2 (by rw [HH.out, HZ.out])
            rw [ByteArray.toList_eq, this] at hq'
            cases hq'⟩
          clear hq
          go_enter Try.func5, Try.ntmps5
          go_wp2_with fail
          refine (hcut.out _).mono ?_
          rintro e w' ⟨rfl, rfl⟩
          go_wp2
          go_ret2
          exact ⟨⟨0, false, rfl, HR.out⟩, rfl⟩
      · have hz' : ((D[0].toNat : Int) == 48) = false := by simpa using hz
        have HZ : Hid (D[0] ≠ 48) := fun e => by
          have h := beq_eq_false_iff_ne.1 hz'
          rw [e, h48] at h
          exact h rfl
        clear hz
        go_enter Try.func5, Try.ntmps5
        go_wp2_with fail
        refine (hcut.out _).mono ?_
        rintro e w' ⟨rfl, rfl⟩
        go_wp2_with fail
        refine (digits_any D _ (by omega)).mono ?_
        rintro e w' ⟨hg, rfl⟩
        rcases hg with ⟨ha, rfl⟩ | ⟨ha, rfl⟩
        · have HA : Hid (allD D.data.toList) := ha
          clear ha
          have bN := scN_le10 D.data.toList (by simp; omega)
          go_wp2
          go_ret2
          exact ⟨⟨_, true, rfl, .inl ⟨rfl, ⟨by rw [← HD.out]; exact HA.out, by have := HL.out; omega, by have := HL.out; omega, fun hh => absurd (Option.some.inj (HH.out.symm.trans hh)) HZ.out⟩, by rw [dval_neg HC.out, (scN_cut s.data.toList).1, ← HD.out]⟩⟩, rfl⟩
        · have HA : Hid (¬ allD D.data.toList) := ha
          clear ha
          go_wp2
          go_ret2
          exact ⟨⟨0, false, rfl, .inr ⟨rfl, rfl, fun g => HA.out (by rw [HD.out]; exact g.1)⟩⟩, rfl⟩

set_option maxHeartbeats 600000 in
set_option maxRecDepth 100000 in
theorem implReadDec_pos (s D : ByteArray) (w : World) (hs : s.size ≤ 1048576) (HC : Hid (cutN s.data.toList = false)) (HD : Hid (D.data.toList = cutD s.data.toList)) (hsz : D.size ≤ 1048576)
    (hcut : Hid (∀ w, Calls Try.prog 7 #[.string s, .string ⟨#[45]⟩] w fun e w' => e = .returned (.tuple #[.string D, .bool false]) ∧ w = w')) :
    Calls Try.prog 5 #[.string s] w fun e w' => RDret s.data.toList e ∧ w = w' := by
  have HL : Hid ((cutD s.data.toList).length = D.size) := by unfold Hid; rw [← HD.out]; simp
  by_cases h1 : (D.size : Int) < 1
  · have HR : Hid (RD s.data.toList 0 false) := .inr ⟨rfl, rfl, fun g => by have := g.2.1; have := HL.out; omega⟩
    go_enter Try.func5, Try.ntmps5
    go_wp2_with fail
    refine (hcut.out _).mono ?_
    rintro e w' ⟨rfl, rfl⟩
    go_wp2
    go_ret2
    exact ⟨⟨0, false, rfl, HR.out⟩, rfl⟩
  · by_cases h9 : (9 : Int) < (D.size : Int)
    · have HR : Hid (RD s.data.toList 0 false) := .inr ⟨rfl, rfl, fun g => by have := g.2.2.1; have := HL.out; omega⟩
      go_enter Try.func5, Try.ntmps5
      go_wp2_with fail
      refine (hcut.out _).mono ?_
      rintro e w' ⟨rfl, rfl⟩
      go_wp2
      go_ret2
      exact ⟨⟨0, false, rfl, HR.out⟩, rfl⟩
    · have hp : 0 < D.size := by omega
      have HH : Hid ((cutD s.data.toList).head? = some D[0]) := by
        unfold Hid
        rw [← HD.out, List.head?_eq_getElem?, List.getElem?_eq_getElem (by simpa using hp)]; rfl
      have h48 : (48 : UInt8).toNat = 48 := rfl
      by_cases hz : ((D[0].toNat : Int) == 48) = true
      · have HZ : Hid (D[0] = 48) := UInt8.toNat_inj.1 (by have := beq_iff_eq.1 hz; omega)
        by_cases hq : (s.toList == [48]) = true
        · have HQ : Hid (s.data.toList = [48]) := by unfold Hid; rw [← ByteArray.toList_eq]; exact beq_iff_eq.1 hq
          go_enter Try.func5, Try.ntmps5
          go_wp2_with fail
          refine (hcut.out _).mono ?_
          rintro e w' ⟨rfl, rfl⟩
          go_wp2_with fail
          refine (digits_any D _ (by omega)).mono ?_
          rintro e w' ⟨hg, rfl⟩
          rcases hg with ⟨ha, rfl⟩ | ⟨ha, rfl⟩
          · have HA : Hid (allD D.data.toList) := ha
            clear ha
            have bN := scN_le10 D.data.toList (by simp; omega)
            go_wp2
            go_ret2
            exact ⟨⟨_, true, rfl, .inl ⟨rfl, ⟨by rw [← HD.out]; exact HA.out, by have := HL.out; omega, by have := HL.out; omega, fun _ => HQ.out⟩, by rw [dval_pos HC.out, (scN_cut s.data.toList).1, ← HD.out]⟩⟩, rfl⟩
          · have HA : Hid (¬ allD D.data.toList) := ha
            clear ha
            go_wp2
            go_ret2
            exact ⟨⟨0, false, rfl, .inr ⟨rfl, rfl, fun g => HA.out (by rw [HD.out]; exact g.1)⟩⟩, rfl⟩
        · have hq' : (s.toList == [48]) = false := by simpa using hq
          have HR : Hid (RD s.data.toList 0 false) := .inr ⟨rfl, rfl, fun g => by
            have := g.2.2.2 (by rw [HH.out, HZ.out])
            rw [ByteArray.toList_eq, this] at hq'
            cases hq'⟩
          clear hq
          go_enter Try.func5, Try.ntmps5
          go_wp2_with fail
          refine (hcut.out _).mono ?_
          rintro e w' ⟨rfl, rfl⟩
          go_wp2
          go_ret2
          exact ⟨⟨0, false, rfl, HR.out⟩, rfl⟩
      · have hz' : ((D[0].toNat : Int) == 48) = false := by simpa using hz
        have HZ : Hid (D[0] ≠ 48) := fun e => by
          have h := beq_eq_false_iff_ne.1 hz'
          rw [e, h48] at h
          exact h rfl
        clear hz
        go_enter Try.func5, Try.ntmps5
        go_wp2_with fail
        refine (hcut.out _).mono ?_
        rintro e w' ⟨rfl, rfl⟩
        go_wp2_with fail
        refine (digits_any D _ (by omega)).mono ?_
        rintro e w' ⟨hg, rfl⟩
        rcases hg with ⟨ha, rfl⟩ | ⟨ha, rfl⟩
        · have HA : Hid (allD D.data.toList) := ha
          clear ha
          have bN := scN_le10 D.data.toList (by simp; omega)
          go_wp2
          go_ret2
          exact ⟨⟨_, true, rfl, .inl ⟨rfl, ⟨by rw [← HD.out]; exact HA.out, by have := HL.out; omega, by have := HL.out; omega, fun hh => absurd (Option.some.inj (HH.out.symm.trans hh)) HZ.out⟩, by rw [dval_pos HC.out, (scN_cut s.data.toList).1, ← HD.out]⟩⟩, rfl⟩
        · have HA : Hid (¬ allD D.data.toList) := ha
          clear ha
          go_wp2
          go_ret2
          exact ⟨⟨0, false, rfl, .inr ⟨rfl, rfl, fun g => HA.out (by rw [HD.out]; exact g.1)⟩⟩, rfl⟩

theorem extract_tail (s : ByteArray) : (s.extract 1 s.size).data.toList = s.data.toList.tail := by
  obtain ⟨⟨l⟩⟩ := s
  cases l with
  | nil => rfl
  | cons c l => simp [ByteArray.size]

theorem implReadDec_any (s : ByteArray) (w : World) (hs : s.size ≤ 1048576) :
    Calls Try.prog 5 #[.string s] w fun e w' => RDret s.data.toList e ∧ w = w' := by
  cases hc : cutN s.data.toList with
  | true =>
    have hd : (s.extract 1 s.size).data.toList = cutD s.data.toList := by
      rw [extract_tail]
      exact (if_pos hc).symm
    have hz : (s.extract 1 s.size).size ≤ 1048576 := by
      have e : (s.extract 1 s.size).size = (s.extract 1 s.size).data.toList.length := by simp
      rw [e, extract_tail]
      have : s.data.toList.tail.length ≤ s.data.toList.length := by simp
      have h2 : s.data.toList.length = s.size := by simp
      omega
    exact implReadDec_neg s _ w hs (Hid.intro hc) (Hid.intro hd) hz (Hid.intro (fun w => cut_yes s w hc))
  | false =>
    exact implReadDec_pos s s w hs (Hid.intro hc) (Hid.intro (cut_pos hc).symm) hs (Hid.intro (fun w => cut_no s w hc))

set_option maxHeartbeats 400000 in
theorem readDec_law (s : ByteArray) (w : World) (hs : s.size ≤ maxLen) :
    Calls Try.prog 3 #[.string s] w fun e w' => e = .returned (.bool true) ∧ Below w.heap.size w w' := by
  unfold maxLen at hs
  by_cases hb : (1048576 : Int) < (s.size : Int)
  · go_enter Try.func3, Try.ntmps3
    go_wp2
    go_ret
    exact ⟨rfl, Below.refl _ _⟩
  · go_enter Try.func3, Try.ntmps3
    go_wp2_with fail
    refine (specReadDec_any s _ (by omega)).mono ?_
    rintro e w1 ⟨⟨x, ok, rfl, r1⟩, b1⟩
    have R1 : Hid (RD s.data.toList x ok) := r1
    clear r1
    go_wp2_with fail
    refine (implReadDec_any s _ (by omega)).mono ?_
    rintro e w2 ⟨⟨y, ok', rfl, r2⟩, rfl⟩
    obtain ⟨rfl, rfl⟩ := RD_unique R1.out r2
    clear r2
    go_wp2
    go_ret
    exact ⟨rfl, b1⟩

end Go.Proofs.Ytnimhejbjofknaa
