/- The contract of the specification's ReadVar. -/
import Derived.Test.YtegeifdnclhknaaReadVar
namespace Go.Proofs.Ytegeifdnclhknaa
open Go.RowKit
set_option linter.unusedVariables false

theorem drop_step (s : ByteArray) (k p : Nat) (hp : p < k) (hk : k ≤ s.size) : vnum ((s.data.toList.take k).drop p) = (s[p]'(by omega)).toNat % 128 + 128 * vnum ((s.data.toList.take k).drop (p + 1)) := by
  have hl : p < (s.data.toList.take k).length := by
    have : s.data.toList.length = s.size := by simp
    rw [List.length_take]; omega
  rw [List.drop_eq_getElem_cons hl]
  have : (s.data.toList.take k)[p] = s[p]'(by omega) := by rw [List.getElem_take]; rfl
  rw [this]; rfl

theorem drop_le (l : List UInt8) (k p : Nat) (h : k ≤ p + 6) : vnum ((l.take k).drop p) ≤ 4398046511103 := by
  have h1 := vnum_lt ((l.take k).drop p)
  have h2 : 128 ^ ((l.take k).drop p).length ≤ 128 ^ 6 := Nat.pow_le_pow_right (by omega) (by simp; omega)
  have h3 : 128 ^ 6 = 4398046511104 := by decide
  omega

theorem extract_take (s : ByteArray) (k : Nat) : (s.extract 0 k).toList = s.data.toList.take k := by
  rw [ByteArray.toList_eq]
  obtain ⟨⟨l⟩⟩ := s
  simp

theorem varS_toList (n : Nat) : (varS n).toList = varL n := by
  rw [ByteArray.toList_eq]; rfl

theorem beq_take (s : ByteArray) (k : Nat) (h7 : k ≤ 7) : ((varS (vnum (s.data.toList.take k))).toList == (s.extract 0 k).toList) = true ↔ Good (s.data.toList.take k) := by
  rw [extract_take, varS_toList, beq_iff_eq]
  exact varL_iff (Nat.le_trans (List.length_take_le _ _) h7)

set_option maxHeartbeats 800000 in
set_option maxRecDepth 100000 in
theorem specReadVar_any (s : ByteArray) (w : World) (hs : s.size ≤ 1048576) :
    Calls Try.prog 15 #[.string s] w fun e w' => ∃ x k : Nat, e = .returned (.tuple #[.int .i64 x, .int .i64 k]) ∧ RV s.data.toList x k ∧ Below w.heap.size w w' := by
  go_enter Try.func15, Try.ntmps15
  go_wp2
  go_loopw [4] (fun c wr => ∃ k : Nat, 1 ≤ k ∧ k ≤ 8 ∧ k ≤ s.size + 1 ∧ c = .int .i64 k ∧ Hid (∀ j, 1 ≤ j → j < k → ¬ Good (s.data.toList.take j)) ∧ Below w.heap.size w wr) (fun c _ => 8 - (intOf c).toNat)
  case atStart => exact ⟨1, by omega, by omega, by omega, rfl, fun j h1 h2 => absurd h2 (by omega), Below.refl _ _⟩
  case round =>
    obtain ⟨k, hk1, hk8, hks, rfl, HA, hbel⟩ := hrel
    by_cases hlt : k ≤ 7
    · by_cases hle : k ≤ s.size
      · have g1 : (k : Int) ≤ 7 := by omega
        have g2 : (k : Int) ≤ (s.size : Int) := by omega
        go_wp2
        go_loop [5, 6] (fun t c => ∃ i : Nat, i ≤ k ∧ c = .int .i64 ((i : Int) - 1) ∧ t = .int .i64 (vnum ((s.data.toList.take k).drop i) : Nat)) (fun _ c => (intOf c + 1).toNat)
        case atStart => exact ⟨k, Nat.le_refl _, rfl, by simp [vnum]⟩
        case round =>
          obtain ⟨i, hik, rfl, rfl⟩ := hrel
          rcases i with _ | p
          · have hv := vnum_le (s.data.toList.take k) (Nat.le_trans (List.length_take_le _ _) hlt)
            have hbs := hbel.size
            go_wp2
            go_region_with (go_at_call 13; refine (specVar_yes _ _ hv).mono ?_; rintro e w1 ⟨rfl, hb1⟩)
            all_goals go_wp2
            · have ht : ((varS (vnum (s.data.toList.take k))).toList == (s.extract 0 k).toList) = true := by assumption
              go_ret2
              exact ⟨vnum (s.data.toList.take k), k, rfl, .inl ⟨hk1, hlt, by simpa using hle, (beq_take s k hlt).1 ht, rfl⟩, hbel.drew.trans (Below.mono hb1 hbs)⟩
            · have ht : ((varS (vnum (s.data.toList.take k))).toList == (s.extract 0 k).toList) = false := by assumption
              go_roundw
              case rel =>
                refine ⟨k + 1, by omega, by omega, by omega, by go_num, ?_, hbel.drew.trans (Below.mono hb1 hbs)⟩
                intro j h1 h2 hg
                by_cases hj : j < k
                · exact HA.out j h1 hj hg
                · obtain rfl : j = k := by omega
                  rw [(beq_take s j hlt).2 hg] at ht
                  cases ht
              case measure => simp [intOf]; omega
          · have hps : p < s.size := by omega
            have hb := (s[p]).toNat_lt
            have hd := drop_le s.data.toList k (p + 1) (by omega)
            have HS : Hid (vnum ((s.data.toList.take k).drop p) = (s[p]).toNat % 128 + 128 * vnum ((s.data.toList.take k).drop (p + 1))) := drop_step s k p (by omega) hle
            go_wp2
            go_round
            case rel => exact ⟨p, by omega, by go_num, by rw [HS.out]; go_num⟩
            case measure => simp [intOf]
      · have g1 : (k : Int) ≤ 7 := by omega
        have g2 : ¬ (k : Int) ≤ (s.size : Int) := by omega
        go_wp2
        go_ret2
        exact ⟨0, 0, rfl, .inr ⟨rfl, rfl, fun j h1 _ hl => HA.out j h1 (by simp at hl; omega)⟩, hbel⟩
    · have g1 : ¬ (k : Int) ≤ 7 := by omega
      go_wp2
      go_ret2
      exact ⟨0, 0, rfl, .inr ⟨rfl, rfl, fun j h1 h7 _ => HA.out j h1 (by omega)⟩, hbel⟩

set_option maxHeartbeats 400000 in
theorem readVar_law (s : ByteArray) (w : World) (hs : s.size ≤ maxLen) :
    Calls Try.prog 6 #[.string s] w fun e w' => e = .returned (.bool true) ∧ Below w.heap.size w w' := by
  unfold maxLen at hs
  by_cases hb : (1048576 : Int) < (s.size : Int)
  · go_enter Try.func6, Try.ntmps6
    go_wp2
    go_ret
    exact ⟨rfl, Below.refl _ _⟩
  · go_enter Try.func6, Try.ntmps6
    go_wp2_with fail
    refine (specReadVar_any s _ (by omega)).mono ?_
    rintro e w1 ⟨x, k, rfl, r1, b1⟩
    have R1 : Hid (RV s.data.toList x k) := r1
    clear r1
    go_wp2_with fail
    refine (implReadVar_any s _ (by omega)).mono ?_
    rintro e w2 ⟨y, j, rfl, r2, rfl⟩
    obtain ⟨rfl, rfl⟩ := RV_unique R1.out r2
    clear r2
    go_wp2
    go_ret
    exact ⟨rfl, b1⟩

end Go.Proofs.Ytegeifdnclhknaa
