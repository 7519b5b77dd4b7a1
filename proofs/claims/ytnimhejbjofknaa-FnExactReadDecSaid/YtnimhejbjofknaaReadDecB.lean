/- The contract of the program's ReadDec. -/
import Derived.Test.YtnimhejbjofknaaReadDec
import Derived.Deep.LoopGhost
namespace Go.Proofs.Ytnimhejbjofknaa
open Go.RowKit
set_option linter.unusedVariables false

theorem extract_one (s : ByteArray) : (s.extract 0 1).toList = s.data.toList.take 1 := by
  rw [ByteArray.toList_eq]
  obtain ⟨⟨l⟩⟩ := s
  simp
theorem extract_one_beq (s : ByteArray) (h : 0 < s.size) : ((s.extract 0 1).toList == [45]) = cutN s.data.toList := by
  rw [extract_one]
  obtain ⟨⟨l⟩⟩ := s
  cases l with
  | nil => exact absurd h (by decide)
  | cons c l =>
    simp [cutN]

set_option maxHeartbeats 400000 in
theorem cut_yes (s : ByteArray) (w : World) (h : cutN s.data.toList = true) :
    Calls Try.prog 7 #[.string s, .string ⟨#[45]⟩] w fun e w' => e = .returned (.tuple #[.string (s.extract 1 s.size), .bool true]) ∧ w = w' := by
  have h0 : 0 < s.size := by
    rcases Nat.eq_zero_or_pos s.size with h0 | hp
    · have e : s.data.toList = [] := List.eq_nil_of_length_eq_zero (by simpa using h0)
      rw [e] at h
      cases h
    · exact hp
  have h1 : (1 : Int) ≤ (s.size : Int) := by omega
  have hx : ((s.extract 0 1).toList == [45]) = true := by rw [extract_one_beq s h0]; exact h
  clear h
  go_enter Try.func7, Try.ntmps7
  go_wp2
  go_ret2
  exact ⟨rfl, rfl⟩

set_option maxHeartbeats 400000 in
theorem cut_no (s : ByteArray) (w : World) (h : cutN s.data.toList = false) :
    Calls Try.prog 7 #[.string s, .string ⟨#[45]⟩] w fun e w' => e = .returned (.tuple #[.string s, .bool false]) ∧ w = w' := by
  by_cases h1 : (1 : Int) ≤ (s.size : Int)
  · have hx : ((s.extract 0 1).toList == [45]) = false := by rw [extract_one_beq s (by omega)]; exact h
    clear h
    go_enter Try.func7, Try.ntmps7
    go_wp2
    go_ret2
    exact ⟨rfl, rfl⟩
  · clear h
    go_enter Try.func7, Try.ntmps7
    go_wp2
    go_ret2
    exact ⟨rfl, rfl⟩

/-- A call that hands back what readDigits answers. -/
def RG (l : List UInt8) (e : Ending) : Prop := (allD l ∧ e = .returned (.tuple #[.int .i64 (scN l : Nat), .bool true])) ∨ (¬ allD l ∧ e = .returned (.tuple #[.int .i64 0, .bool false]))

theorem allD_step {s : ByteArray} {k : Nat} (hk : k < s.size) (h : allD (s.data.toList.take k)) (hd : 48 ≤ s[k].toNat ∧ s[k].toNat ≤ 57) : allD (s.data.toList.take (k + 1)) := by
  rw [take_snoc s k hk]
  exact allD_snoc.2 ⟨h, (isD_iff _).2 hd⟩
theorem allD_bad {s : ByteArray} {k : Nat} (hk : k < s.size) (hd : s[k].toNat < 48 ∨ 57 < s[k].toNat) : ¬ allD s.data.toList := by
  intro h
  have hm : s[k] ∈ s.data.toList := by
    have : s[k] = s.data.toList[k]'(by simpa using hk) := rfl
    rw [this]
    exact List.getElem_mem _
  have h1 := h _ hm
  rw [(isD_not _).2 hd] at h1
  cases h1

set_option maxHeartbeats 400000 in
theorem digits_any (s : ByteArray) (w : World) (h9 : s.size ≤ 9) :
    Calls Try.prog 8 #[.string s] w fun e w' => RG s.data.toList e ∧ w = w' := by
  go_enter Try.func8, Try.ntmps8
  go_wp2
  go_step3
  go_wp2
  go_step3
  go_wp2
  go_loop [4, 5, 10] (fun t o i => ∃ k : Nat, k ≤ s.size ∧ i = .int .i64 k ∧ t = .int .i64 (scN (s.data.toList.take k) : Nat) ∧ o = .bool true ∧ Hid (allD (s.data.toList.take k))) (fun _ _ i => s.size - (intOf i).toNat)
  case atStart => exact ⟨0, by omega, rfl, rfl, rfl, fun c hc => by simp at hc⟩
  case round =>
    obtain ⟨k, hk, rfl, rfl, rfl, HA⟩ := hrel
    by_cases hlt : k < s.size
    · have bL : (s.data.toList.take k).length ≤ k := List.length_take_le _ _
      have bN := scN_le10 (s.data.toList.take k) (by omega)
      have hb := (s[k]).toNat_lt
      by_cases hd : 48 ≤ (s[k].toNat : Int)
      · by_cases hd2 : (s[k].toNat : Int) ≤ 57
        · have HS : Hid _ := Hid.intro (scN_yes s k hlt (by omega))
          go_wp2
          go_round
          case rel => exact ⟨k + 1, by omega, by go_num, by rw [HS.out.1]; go_num, rfl, allD_step hlt HA.out (by omega)⟩
          case measure => simp [intOf]; omega
        · go_wp2
          try rw [Exit.noGoto_ret]
          go_ret2
          exact ⟨.inr ⟨allD_bad hlt (by omega), rfl⟩, rfl⟩
      · go_wp2
        try rw [Exit.noGoto_ret]
        go_ret2
        exact ⟨.inr ⟨allD_bad hlt (by omega), rfl⟩, rfl⟩
    · have e : s.data.toList.take k = s.data.toList := List.take_of_length_le (by simp; omega)
      simp only [e] at *
      clear e
      go_wp2
      try rw [Exit.noGoto_ret]
      go_ret2
      exact ⟨.inl ⟨HA.out, rfl⟩, rfl⟩

end Go.Proofs.Ytnimhejbjofknaa
