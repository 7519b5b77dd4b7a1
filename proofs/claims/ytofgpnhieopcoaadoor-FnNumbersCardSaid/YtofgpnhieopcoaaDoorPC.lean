/- Contracts of ReadDec and Dec. -/
import Derived.Test.YtofgpnhieopcoaaDoorPB
import Derived.Test.YtofgpnhieopcoaaDoorMathF
import Derived.Test.YtofgpnhieopcoaaDoorShelf
import Derived.Lib.LaidTab
import Derived.Deep.LoopGhost
namespace Go.Proofs.YtofgpnhieopcoaaDoor
open Go.RowKit
set_option linter.unusedVariables false

theorem scN_yes (s : ByteArray) (k : Nat) (h : k < s.size) (hd : 48 ≤ s[k].toNat ∧ s[k].toNat ≤ 57) : ((scN (s.data.toList.take (k + 1)) : Nat) : Int) = (scN (s.data.toList.take k) : Int) * 10 + ((s[k].toNat : Int) - 48) ∧ scK (s.data.toList.take (k + 1)) = scK (s.data.toList.take k) + 1 := by
  have e := (isD_iff s[k]).2 hd
  rw [take_snoc s k h, scN_snoc, scK_snoc, if_pos e, if_pos e]
  omega

/-- A call that hands back what ReadDec answers. -/
def RDret (l : List UInt8) (e : Ending) : Prop := ∃ x ok, e = .returned (.tuple #[.int .i64 x, .bool ok]) ∧ RD l x ok

theorem extract_one (s : ByteArray) : (s.extract 0 1).toList = s.data.toList.take 1 := by
  rw [ByteArray.toList_eq]
  obtain ⟨⟨l⟩⟩ := s
  simp

theorem extract_one_beq (s : ByteArray) (h : 0 < s.size) : ((s.extract 0 1).toList == [45]) = cutN s.data.toList := by
  rw [extract_one]
  obtain ⟨⟨l⟩⟩ := s
  cases l with
  | nil => exact absurd h (by decide)
  | cons c l =>
    simp [cutN]

set_option maxHeartbeats 400000 in
theorem cut_yes (s : ByteArray) (w : World) (h : cutN s.data.toList = true) :
    Calls Tryd.prog 19 #[.string s, .string ⟨#[45]⟩] w fun e w' => e = .returned (.tuple #[.string (s.extract 1 s.size), .bool true]) ∧ w = w' := by
  have h0 : 0 < s.size := by
    rcases Nat.eq_zero_or_pos s.size with h0 | hp
    · have e : s.data.toList = [] := List.eq_nil_of_length_eq_zero (by simpa using h0)
      rw [e] at h
      cases h
    · exact hp
  have h1 : (1 : Int) ≤ (s.size : Int) := by omega
  have hx : ((s.extract 0 1).toList == [45]) = true := by rw [extract_one_beq s h0]; exact h
  clear h
  go_enter Tryd.func19, Tryd.ntmps19
  go_wp2
  go_ret2
  exact ⟨rfl, rfl⟩

set_option maxHeartbeats 400000 in
theorem cut_no (s : ByteArray) (w : World) (h : cutN s.data.toList = false) :
    Calls Tryd.prog 19 #[.string s, .string ⟨#[45]⟩] w fun e w' => e = .returned (.tuple #[.string s, .bool false]) ∧ w = w' := by
  by_cases h1 : (1 : Int) ≤ (s.size : Int)
  · have hx : ((s.extract 0 1).toList == [45]) = false := by rw [extract_one_beq s (by omega)]; exact h
    clear h
    go_enter Tryd.func19, Tryd.ntmps19
    go_wp2
    go_ret2
    exact ⟨rfl, rfl⟩
  · clear h
    go_enter Tryd.func19, Tryd.ntmps19
    go_wp2
    go_ret2
    exact ⟨rfl, rfl⟩

/-- A call that hands back what readDigits answers. -/
def RG (l : List UInt8) (e : Ending) : Prop := (allD l ∧ e = .returned (.tuple #[.int .i64 (scN l : Nat), .bool true])) ∨ (¬ allD l ∧ e = .returned (.tuple #[.int .i64 0, .bool false]))

theorem allD_step {s : ByteArray} {k : Nat} (hk : k < s.size) (h : allD (s.data.toList.take k)) (hd : 48 ≤ s[k].toNat ∧ s[k].toNat ≤ 57) : allD (s.data.toList.take (k + 1)) := by
  rw [take_snoc s k hk]
  exact allD_snoc.2 ⟨h, (isD_iff _).2 hd⟩

theorem allD_bad {s : ByteArray} {k : Nat} (hk : k < s.size) (hd : s[k].toNat < 48 ∨ 57 < s[k].toNat) : ¬ allD s.data.toList := by
  intro h
  have hm : s[k] ∈ s.data.toList := by
    have : s[k] = s.data.toList[k]'(by simpa using hk) := rfl
    rw [this]
    exact List.getElem_mem _
  have h1 := h _ hm
  rw [(isD_not _).2 hd] at h1
  cases h1

set_option maxHeartbeats 400000 in
theorem digits_any (s : ByteArray) (w : World) (h9 : s.size ≤ 9) :
    Calls Tryd.prog 20 #[.string s] w fun e w' => RG s.data.toList e ∧ w = w' := by
  go_enter Tryd.func20, Tryd.ntmps20
  go_wp2
  go_step3
  go_wp2
  go_step3
  go_wp2
  go_loop [4, 5, 10] (fun t o i => ∃ k : Nat, k ≤ s.size ∧ i = .int .i64 k ∧ t = .int .i64 (scN (s.data.toList.take k) : Nat) ∧ o = .bool true ∧ Hid (allD (s.data.toList.take k))) (fun _ _ i => s.size - (intOf i).toNat)
  case atStart => exact ⟨0, by omega, rfl, rfl, rfl, fun c hc => by simp at hc⟩
  case round =>
    obtain ⟨k, hk, rfl, rfl, rfl, HA⟩ := hrel
    by_cases hlt : k < s.size
    · have bL : (s.data.toList.take k).length ≤ k := List.length_take_le _ _
      have bN := scN_le10 (s.data.toList.take k) (by omega)
      have hb := (s[k]).toNat_lt
      by_cases hd : 48 ≤ (s[k].toNat : Int)
      · by_cases hd2 : (s[k].toNat : Int) ≤ 57
        · have HS : Hid _ := Hid.intro (scN_yes s k hlt (by omega))
          go_wp2
          go_round
          case rel => exact ⟨k + 1, by omega, by go_num, by rw [HS.out.1]; go_num, rfl, allD_step hlt HA.out (by omega)⟩
          case measure => simp [intOf]; omega
        · go_wp2
          try rw [Exit.noGoto_ret]
          go_ret2
          exact ⟨.inr ⟨allD_bad hlt (by omega), rfl⟩, rfl⟩
      · go_wp2
        try rw [Exit.noGoto_ret]
        go_ret2
        exact ⟨.inr ⟨allD_bad hlt (by omega), rfl⟩, rfl⟩
    · have e : s.data.toList.take k = s.data.toList := List.take_of_length_le (by simp; omega)
      simp only [e] at *
      clear e
      go_wp2
      try rw [Exit.noGoto_ret]
      go_ret2
      exact ⟨.inl ⟨HA.out, rfl⟩, rfl⟩

set_option maxHeartbeats 600000 in
set_option maxRecDepth 100000 in
theorem implReadDec_neg (s D : ByteArray) (w : World) (hs : s.size ≤ 1048576) (HC : Hid (cutN s.data.toList = true)) (HD : Hid (D.data.toList = cutD s.data.toList)) (hsz : D.size ≤ 1048576)
    (hcut : Hid (∀ w, Calls Tryd.prog 19 #[.string s, .string ⟨#[45]⟩] w fun e w' => e = .returned (.tuple #[.string D, .bool true]) ∧ w = w')) :
    Calls Tryd.prog 11 #[.string s] w fun e w' => RDret s.data.toList e ∧ w = w' := by
  have HL : Hid ((cutD s.data.toList).length = D.size) := by unfold Hid; rw [← HD.out]; simp
  by_cases h1 : (D.size : Int) < 1
  · have HR : Hid (RD s.data.toList 0 false) := .inr ⟨rfl, rfl, fun g => by have := g.2.1; have := HL.out; omega⟩
    go_enter Tryd.func11, Tryd.ntmps11
    go_wp2_with fail
    refine (hcut.out _).mono ?_
    rintro e w' ⟨rfl, rfl⟩
    go_wp2
    go_ret2
    exact ⟨⟨0, false, rfl, HR.out⟩, rfl⟩
  · by_cases h9 : (9 : Int) < (D.size : Int)
    · have HR : Hid (RD s.data.toList 0 false) := .inr ⟨rfl, rfl, fun g => by have := g.2.2.1; have := HL.out; omega⟩
      go_enter Tryd.func11, Tryd.ntmps11
      go_wp2_with fail
      refine (hcut.out _).mono ?_
      rintro e w' ⟨rfl, rfl⟩
      go_wp2
      go_ret2
      exact ⟨⟨0, false, rfl, HR.out⟩, rfl⟩
    · have hp : 0 < D.size := by omega
      have HH : Hid ((cutD s.data.toList).head? = some D[0]) := by
        unfold Hid
        rw [← HD.out, List.head?_eq_getElem?, List.getElem?_eq_getElem (by simpa using hp)]; rfl
      have h48 : (48 : UInt8).toNat = 48 := rfl
      by_cases hz : ((D[0].toNat : Int) == 48) = true
      · have HZ : Hid (D[0] = 48) := UInt8.toNat_inj.1 (by have := beq_iff_eq.1 hz; omega)
        by_cases hq : (s.toList == [48]) = true
        · have HQ : Hid (s.data.toList = [48]) := by unfold Hid; rw [← ByteArray.toList_eq]; exact beq_iff_eq.1 hq
          go_enter Tryd.func11, Tryd.ntmps11
          go_wp2_with fail
          refine (hcut.out _).mono ?_
          rintro e w' ⟨rfl, rfl⟩
          go_wp2_with fail
          refine (digits_any D _ (by omega)).mono ?_
          rintro e w' ⟨hg, rfl⟩
          rcases hg with ⟨ha, rfl⟩ | ⟨ha, rfl⟩
          · have HA : Hid (allD D.data.toList) := ha
            clear ha
            have bN := scN_le10 D.data.toList (by simp; omega)
            go_wp2
            go_ret2
            exact ⟨⟨_, true, rfl, .inl ⟨rfl, ⟨by rw [← HD.out]; exact HA.out, by have := HL.out; omega, by have := HL.out; omega, fun _ => HQ.out⟩, by rw [dval_neg HC.out, (scN_cut s.data.toList).1, ← HD.out]⟩⟩, rfl⟩
          · have HA : Hid (¬ allD D.data.toList) := ha
            clear ha
            go_wp2
            go_ret2
            exact ⟨⟨0, false, rfl, .inr ⟨rfl, rfl, fun g => HA.out (by rw [HD.out]; exact g.1)⟩⟩, rfl⟩
        · have hq' : (s.toList == [48]) = false := by simpa using hq
          have HR : Hid (RD s.data.toList 0 false) := .inr ⟨rfl, rfl, fun g => by
            have := g.2.2.2 (by rw [HH.out, HZ.out])
            rw [ByteArray.toList_eq, this] at hq'
            cases hq'⟩
          clear hq
          go_enter Tryd.func11, Tryd.ntmps11
          go_wp2_with fail
          refine (hcut.out _).mono ?_
          rintro e w' ⟨rfl, rfl⟩
          go_wp2
          go_ret2
          exact ⟨⟨0, false, rfl, HR.out⟩, rfl⟩
      · have hz' : ((D[0].toNat : Int) == 48) = false := by simpa using hz
        have HZ : Hid (D[0] ≠ 48) := fun e => by
          have h := beq_eq_false_iff_ne.1 hz'
          rw [e, h48] at h
          exact h rfl
        clear hz
        go_enter Tryd.func11, Tryd.ntmps11
        go_wp2_with fail
        refine (hcut.out _).mono ?_
        rintro e w' ⟨rfl, rfl⟩
        go_wp2_with fail
        refine (digits_any D _ (by omega)).mono ?_
        rintro e w' ⟨hg, rfl⟩
        rcases hg with ⟨ha, rfl⟩ | ⟨ha, rfl⟩
        · have HA : Hid (allD D.data.toList) := ha
          clear ha
          have bN := scN_le10 D.data.toList (by simp; omega)
          go_wp2
          go_ret2
          exact ⟨⟨_, true, rfl, .inl ⟨rfl, ⟨by rw [← HD.out]; exact HA.out, by have := HL.out; omega, by have := HL.out; omega, fun hh => absurd (Option.some.inj (HH.out.symm.trans hh)) HZ.out⟩, by rw [dval_neg HC.out, (scN_cut s.data.toList).1, ← HD.out]⟩⟩, rfl⟩
        · have HA : Hid (¬ allD D.data.toList) := ha
          clear ha
          go_wp2
          go_ret2
          exact ⟨⟨0, false, rfl, .inr ⟨rfl, rfl, fun g => HA.out (by rw [HD.out]; exact g.1)⟩⟩, rfl⟩

set_option maxHeartbeats 600000 in
set_option maxRecDepth 100000 in
theorem implReadDec_pos (s D : ByteArray) (w : World) (hs : s.size ≤ 1048576) (HC : Hid (cutN s.data.toList = false)) (HD : Hid (D.data.toList = cutD s.data.toList)) (hsz : D.size ≤ 1048576)
    (hcut : Hid (∀ w, Calls Tryd.prog 19 #[.string s, .string ⟨#[45]⟩] w fun e w' => e = .returned (.tuple #[.string D, .bool false]) ∧ w = w')) :
    Calls Tryd.prog 11 #[.string s] w fun e w' => RDret s.data.toList e ∧ w = w' := by
  have HL : Hid ((cutD s.data.toList).length = D.size) := by unfold Hid; rw [← HD.out]; simp
  by_cases h1 : (D.size : Int) < 1
  · have HR : Hid (RD s.data.toList 0 false) := .inr ⟨rfl, rfl, fun g => by have := g.2.1; have := HL.out; omega⟩
    go_enter Tryd.func11, Tryd.ntmps11
    go_wp2_with fail
    refine (hcut.out _).mono ?_
    rintro e w' ⟨rfl, rfl⟩
    go_wp2
    go_ret2
    exact ⟨⟨0, false, rfl, HR.out⟩, rfl⟩
  · by_cases h9 : (9 : Int) < (D.size : Int)
    · have HR : Hid (RD s.data.toList 0 false) := .inr ⟨rfl, rfl, fun g => by have := g.2.2.1; have := HL.out; omega⟩
      go_enter Tryd.func11, Tryd.ntmps11
      go_wp2_with fail
      refine (hcut.out _).mono ?_
      rintro e w' ⟨rfl, rfl⟩
      go_wp2
      go_ret2
      exact ⟨⟨0, false, rfl, HR.out⟩, rfl⟩
    · have hp : 0 < D.size := by omega
      have HH : Hid ((cutD s.data.toList).head? = some D[0]) := by
        unfold Hid
        rw [← HD.out, List.head?_eq_getElem?, List.getElem?_eq_getElem (by simpa using hp)]; rfl
      have h48 : (48 : UInt8).toNat = 48 := rfl
      by_cases hz : ((D[0].toNat : Int) == 48) = true
      · have HZ : Hid (D[0] = 48) := UInt8.toNat_inj.1 (by have := beq_iff_eq.1 hz; omega)
        by_cases hq : (s.toList == [48]) = true
        · have HQ : Hid (s.data.toList = [48]) := by unfold Hid; rw [← ByteArray.toList_eq]; exact beq_iff_eq.1 hq
          go_enter Tryd.func11, Tryd.ntmps11
          go_wp2_with fail
          refine (hcut.out _).mono ?_
          rintro e w' ⟨rfl, rfl⟩
          go_wp2_with fail
          refine (digits_any D _ (by omega)).mono ?_
          rintro e w' ⟨hg, rfl⟩
          rcases hg with ⟨ha, rfl⟩ | ⟨ha, rfl⟩
          · have HA : Hid (allD D.data.toList) := ha
            clear ha
            have bN := scN_le10 D.data.toList (by simp; omega)
            go_wp2
            go_ret2
            exact ⟨⟨_, true, rfl, .inl ⟨rfl, ⟨by rw [← HD.out]; exact HA.out, by have := HL.out; omega, by have := HL.out; omega, fun _ => HQ.out⟩, by rw [dval_pos HC.out, (scN_cut s.data.toList).1, ← HD.out]⟩⟩, rfl⟩
          · have HA : Hid (¬ allD D.data.toList) := ha
            clear ha
            go_wp2
            go_ret2
            exact ⟨⟨0, false, rfl, .inr ⟨rfl, rfl, fun g => HA.out (by rw [HD.out]; exact g.1)⟩⟩, rfl⟩
        · have hq' : (s.toList == [48]) = false := by simpa using hq
          have HR : Hid (RD s.data.toList 0 false) := .inr ⟨rfl, rfl, fun g => by
            have := g.2.2.2 (by rw [HH.out, HZ.out])
            rw [ByteArray.toList_eq, this] at hq'
            cases hq'⟩
          clear hq
          go_enter Tryd.func11, Tryd.ntmps11
          go_wp2_with fail
          refine (hcut.out _).mono ?_
          rintro e w' ⟨rfl, rfl⟩
          go_wp2
          go_ret2
          exact ⟨⟨0, false, rfl, HR.out⟩, rfl⟩
      · have hz' : ((D[0].toNat : Int) == 48) = false := by simpa using hz
        have HZ : Hid (D[0] ≠ 48) := fun e => by
          have h := beq_eq_false_iff_ne.1 hz'
          rw [e, h48] at h
          exact h rfl
        clear hz
        go_enter Tryd.func11, Tryd.ntmps11
        go_wp2_with fail
        refine (hcut.out _).mono ?_
        rintro e w' ⟨rfl, rfl⟩
        go_wp2_with fail
        refine (digits_any D _ (by omega)).mono ?_
        rintro e w' ⟨hg, rfl⟩
        rcases hg with ⟨ha, rfl⟩ | ⟨ha, rfl⟩
        · have HA : Hid (allD D.data.toList) := ha
          clear ha
          have bN := scN_le10 D.data.toList (by simp; omega)
          go_wp2
          go_ret2
          exact ⟨⟨_, true, rfl, .inl ⟨rfl, ⟨by rw [← HD.out]; exact HA.out, by have := HL.out; omega, by have := HL.out; omega, fun hh => absurd (Option.some.inj (HH.out.symm.trans hh)) HZ.out⟩, by rw [dval_pos HC.out, (scN_cut s.data.toList).1, ← HD.out]⟩⟩, rfl⟩
        · have HA : Hid (¬ allD D.data.toList) := ha
          clear ha
          go_wp2
          go_ret2
          exact ⟨⟨0, false, rfl, .inr ⟨rfl, rfl, fun g => HA.out (by rw [HD.out]; exact g.1)⟩⟩, rfl⟩

theorem extract_tail (s : ByteArray) : (s.extract 1 s.size).data.toList = s.data.toList.tail := by
  obtain ⟨⟨l⟩⟩ := s
  cases l with
  | nil => rfl
  | cons c l => simp [ByteArray.size]

theorem implReadDec_any (s : ByteArray) (w : World) (hs : s.size ≤ 1048576) :
    Calls Tryd.prog 11 #[.string s] w fun e w' => RDret s.data.toList e ∧ w = w' := by
  cases hc : cutN s.data.toList with
  | true =>
    have hd : (s.extract 1 s.size).data.toList = cutD s.data.toList := by
      rw [extract_tail]
      exact (if_pos hc).symm
    have hz : (s.extract 1 s.size).size ≤ 1048576 := by
      have e : (s.extract 1 s.size).size = (s.extract 1 s.size).data.toList.length := by simp
      rw [e, extract_tail]
      have : s.data.toList.tail.length ≤ s.data.toList.length := by simp
      have h2 : s.data.toList.length = s.size := by simp
      omega
    exact implReadDec_neg s _ w hs (Hid.intro hc) (Hid.intro hd) hz (Hid.intro (fun w => cut_yes s w hc))
  | false =>
    exact implReadDec_pos s s w hs (Hid.intro hc) (Hid.intro (cut_pos hc).symm) hs (Hid.intro (fun w => cut_no s w hc))

theorem below_grow (w : World) (k : Nat) (os : Array Obj) : Below w.heap.size w (Sort.grow (w.drewN k) os) :=
  ⟨rfl, rfl, rfl, by show w.heap.size ≤ (w.heap ++ os).size; rw [Array.size_append]; omega, fun j hj => by
    show (w.heap ++ os)[j]? = w.heap[j]?
    rw [Array.getElem?_append_left hj]⟩

/-- The table of powers lies where the library looks. -/
def tabOk (w : World) : Prop := Lib.TabIs Tryd.prog w (Rows.fnNumbersRow.named.headD default) .u64 Lib.pow10Tab

theorem itoa_any (n : Int) (h0 : -9223372036854775808 ≤ n) (h1 : n ≤ 9223372036854775807) (w : World) (htab : tabOk w) :
    Calls Tryd.prog 21 #[.int .i64 n] w fun e w' => e = .returned (.string (decS n)) ∧ Below w.heap.size w w' := by
  refine (Any.strconv_Itoa laysItoa n h0 h1 w htab).mono ?_
  rintro e w' ⟨rfl, k, os, rfl⟩
  exact ⟨ret_str (by unfold decS; rw [itoa_decL n h0 h1]), below_grow w k os⟩

set_option maxHeartbeats 400000 in
theorem dec_any (n : Int) (w : World) (h0 : -9223372036854775808 ≤ n) (h1 : n ≤ 9223372036854775807) (htab : tabOk w) :
    Calls Tryd.prog 12 #[.int .i64 n] w fun e w' => e = .returned (.string (decS n)) ∧ Below w.heap.size w w' := by
  have HT := Hid.intro htab
  clear htab
  go_enter Tryd.func12, Tryd.ntmps12
  go_wp2_with fail
  refine (itoa_any n h0 h1 _ HT.out).mono ?_
  rintro e w2 ⟨rfl, b2⟩
  go_wp2
  go_ret
  exact ⟨rfl, b2⟩

end Go.Proofs.YtofgpnhieopcoaaDoor
