/- The contract of the specification's ReadDec. -/
import Derived.Test.YtnimhejbjofknaaDec
namespace Go.Proofs.Ytnimhejbjofknaa
open Go.RowKit
set_option linter.unusedVariables false

theorem take_snoc (s : ByteArray) (k : Nat) (h : k < s.size) : s.data.toList.take (k + 1) = s.data.toList.take k ++ [s[k]] := by
  rw [List.take_succ_eq_append_getElem (by simpa using h)]; rfl
theorem scN_yes (s : ByteArray) (k : Nat) (h : k < s.size) (hd : 48 ≤ s[k].toNat ∧ s[k].toNat ≤ 57) : ((scN (s.data.toList.take (k + 1)) : Nat) : Int) = (scN (s.data.toList.take k) : Int) * 10 + ((s[k].toNat : Int) - 48) ∧ scK (s.data.toList.take (k + 1)) = scK (s.data.toList.take k) + 1 := by
  have e := (isD_iff s[k]).2 hd
  rw [take_snoc s k h, scN_snoc, scK_snoc, if_pos e, if_pos e]
  omega
theorem scN_not (s : ByteArray) (k : Nat) (h : k < s.size) (hd : s[k].toNat < 48 ∨ 57 < s[k].toNat) : scN (s.data.toList.take (k + 1)) = scN (s.data.toList.take k) ∧ scK (s.data.toList.take (k + 1)) = scK (s.data.toList.take k) := by
  have e := (isD_not s[k]).2 hd
  rw [take_snoc s k h, scN_snoc, scK_snoc, if_neg (by simp [e]), if_neg (by simp [e])]
  exact ⟨rfl, rfl⟩

/-- A call that hands back what ReadDec answers. -/
def RDret (l : List UInt8) (e : Ending) : Prop := ∃ x ok, e = .returned (.tuple #[.int .i64 x, .bool ok]) ∧ RD l x ok

theorem cutN_yes {s : ByteArray} (hp : 0 < s.size) (h : (s[0].toNat : Int) = 45) : cutN s.data.toList = true := by
  have e : s.data.toList.head? = some s[0] := by
    rw [List.head?_eq_getElem?, List.getElem?_eq_getElem (by simpa using hp)]; rfl
  have e2 : s[0] = 45 := UInt8.toNat_inj.1 (by
    have h45 : (45 : UInt8).toNat = 45 := rfl
    omega)
  rw [cutN, e, e2]; rfl
theorem cutN_no {s : ByteArray} (h : ∀ hp : 0 < s.size, (s[0].toNat : Int) ≠ 45) : cutN s.data.toList = false := by
  rcases Nat.eq_zero_or_pos s.size with h0 | hp
  · have e : s.data.toList = [] := List.eq_nil_of_length_eq_zero (by simpa using h0)
    rw [cutN, e]; rfl
  · have e : s.data.toList.head? = some s[0] := by
      rw [List.head?_eq_getElem?, List.getElem?_eq_getElem (by simpa using hp)]; rfl
    have e2 : s[0] ≠ 45 := by
      intro e2
      have := h hp
      rw [e2] at this
      exact this rfl
    rw [cutN, e]
    simpa using e2

theorem decS_toList (x : Int) : (decS x).toList = decL x := by
  rw [ByteArray.toList_eq]; rfl

theorem close_no {s : ByteArray} {x : Int} (h : (!(decS x).toList == s.toList) = true) (hx : x = dval s.data.toList) : RD s.data.toList 0 false := by
  subst hx
  refine spec_no (.inr (.inr ?_))
  rw [decS_toList, ByteArray.toList_eq] at h
  intro e
  rw [e] at h
  simp at h
theorem close_yes {s : ByteArray} {x : Int} (h : (!(decS x).toList == s.toList) = false) (hx : x = dval s.data.toList) (h9 : scK s.data.toList ≤ 9) : RD s.data.toList x true := by
  subst hx
  refine spec_ok h9 ?_
  rw [decS_toList, ByteArray.toList_eq] at h
  simpa using h
theorem scN_le11 (l : List UInt8) (h : l.length ≤ 11) : scN l ≤ 99999999999 := by
  have h1 := scN_lt l
  have h2 := pow10_le (scK l) 11 (Nat.le_trans (scK_le l) h)
  have h3 : 10 ^ 11 = 100000000000 := by decide
  omega

set_option maxHeartbeats 1000000 in
set_option maxRecDepth 100000 in
theorem specReadDec_any (s : ByteArray) (w : World) (hs : s.size ≤ 1048576) :
    Calls Try.prog 4 #[.string s] w fun e w' => RDret s.data.toList e ∧ Below w.heap.size w w' := by
  go_enter Try.func4, Try.ntmps4
  go_wp2
  go_loop [4, 5, 6] (fun t c i => ∃ k : Nat, k ≤ s.size ∧ k ≤ 11 ∧ i = .int .i64 k ∧ t = .int .i64 (scN (s.data.toList.take k) : Nat) ∧ c = .int .i64 (scK (s.data.toList.take k) : Nat)) (fun _ _ i => 11 - (intOf i).toNat)
  case atStart => exact ⟨0, by omega, by omega, rfl, rfl, rfl⟩
  case round =>
    obtain ⟨k, hk, hk11, rfl, rfl, rfl⟩ := hrel
    have bK := scK_le (s.data.toList.take k)
    have bL : (s.data.toList.take k).length ≤ k := List.length_take_le _ _
    by_cases hlt : k < s.size
    · by_cases hlt11 : k < 11
      · have bN := scN_le10 (s.data.toList.take k) (by omega)
        have g1 : (k : Int) < (s.size : Int) := by omega
        have g2 : (k : Int) < 11 := by omega
        have hb := (s[k]).toNat_lt
        by_cases hd : 48 ≤ (s[k].toNat : Int)
        · by_cases hd2 : (s[k].toNat : Int) ≤ 57
          · have HS : Hid _ := Hid.intro (scN_yes s k hlt (by omega))
            go_wp2
            go_round
            case rel => exact ⟨k + 1, by omega, by omega, by go_num, by rw [HS.out.1], by rw [HS.out.2]; go_num⟩
            case measure => simp [intOf]; omega
          · have HS : Hid _ := Hid.intro (scN_not s k hlt (by omega))
            go_wp2
            go_round
            case rel => exact ⟨k + 1, by omega, by omega, by go_num, by rw [HS.out.1], by rw [HS.out.2]⟩
            case measure => simp [intOf]; omega
        · have HS : Hid _ := Hid.intro (scN_not s k hlt (by omega))
          go_wp2
          go_round
          case rel => exact ⟨k + 1, by omega, by omega, by go_num, by rw [HS.out.1], by rw [HS.out.2]⟩
          case measure => simp [intOf]; omega
      · have bN := scN_le11 (s.data.toList.take k) (by omega)
        have HR : Hid (RD s.data.toList 0 false) := spec_no (.inr (.inl (by simp; omega)))
        have h10 : (10 : Int) < (s.size : Int) := by omega
        have g1 : (k : Int) < (s.size : Int) := by omega
        have g2 : ¬ (k : Int) < 11 := by omega
        by_cases h9 : (9 : Int) < (scK (s.data.toList.take k) : Int)
        · skip
          by_cases hp : (0 : Int) < (s.size : Int)
          · have hp' : 0 < s.size := by omega
            by_cases hq : (s[0].toNat : Int) = 45
            · have hq' : ((s[0].toNat : Int) == 45) = true := by simpa using hq
              clear hq
              go_wp2
              go_ret2
              exact ⟨⟨0, false, rfl, HR.out⟩, Below.refl _ _⟩
            · have hq' : ((s[0].toNat : Int) == 45) = false := by simpa using hq
              clear hq
              go_wp2
              go_ret2
              exact ⟨⟨0, false, rfl, HR.out⟩, Below.refl _ _⟩
          · go_wp2
        · skip
          by_cases hp : (0 : Int) < (s.size : Int)
          · have hp' : 0 < s.size := by omega
            by_cases hq : (s[0].toNat : Int) = 45
            · have hq' : ((s[0].toNat : Int) == 45) = true := by simpa using hq
              clear hq
              go_wp2
              go_ret2
              exact ⟨⟨0, false, rfl, HR.out⟩, Below.refl _ _⟩
            · have hq' : ((s[0].toNat : Int) == 45) = false := by simpa using hq
              clear hq
              go_wp2
              go_ret2
              exact ⟨⟨0, false, rfl, HR.out⟩, Below.refl _ _⟩
          · go_wp2
    · have e : s.data.toList.take k = s.data.toList := List.take_of_length_le (by simp; omega)
      have bN := scN_le11 (s.data.toList.take k) (by omega)
      rw [e] at bK bL bN
      simp only [e]
      clear e
      by_cases h9 : (9 : Int) < (scK s.data.toList : Int)
      · have HR : Hid (RD s.data.toList 0 false) := spec_no (.inl (by omega))
        by_cases hp : (0 : Int) < (s.size : Int)
        · have hp' : 0 < s.size := by omega
          by_cases hq : (s[0].toNat : Int) = 45
          · have hq' : ((s[0].toNat : Int) == 45) = true := by simpa using hq
            clear hq
            go_wp2
            go_ret2
            exact ⟨⟨0, false, rfl, HR.out⟩, Below.refl _ _⟩
          · have hq' : ((s[0].toNat : Int) == 45) = false := by simpa using hq
            clear hq
            go_wp2
            go_ret2
            exact ⟨⟨0, false, rfl, HR.out⟩, Below.refl _ _⟩
        · go_wp2
      · by_cases h10 : (10 : Int) < (s.size : Int)
        · have HR : Hid (RD s.data.toList 0 false) := spec_no (.inr (.inl (by simp; omega)))
          by_cases hp : (0 : Int) < (s.size : Int)
          · have hp' : 0 < s.size := by omega
            by_cases hq : (s[0].toNat : Int) = 45
            · have hq' : ((s[0].toNat : Int) == 45) = true := by simpa using hq
              clear hq
              go_wp2
              go_ret2
              exact ⟨⟨0, false, rfl, HR.out⟩, Below.refl _ _⟩
            · have hq' : ((s[0].toNat : Int) == 45) = false := by simpa using hq
              clear hq
              go_wp2
              go_ret2
              exact ⟨⟨0, false, rfl, HR.out⟩, Below.refl _ _⟩
          · go_wp2
        · by_cases hp : (0 : Int) < (s.size : Int)
          · have hp' : 0 < s.size := by omega
            by_cases hq : (s[0].toNat : Int) = 45
            · have hq' : ((s[0].toNat : Int) == 45) = true := by simpa using hq
              have HC : Hid (cutN s.data.toList = true) := cutN_yes hp' hq
              clear hq
              go_wp2_with fail
              refine (specDec_any _ _ (by omega) (by omega)).mono ?_
              rintro e w1 ⟨rfl, hb1⟩
              go_wp2
              · have ht := (by assumption : (!(decS (-((scN s.data.toList : Nat) : Int))).toList == s.toList) = true)
                go_ret2
                exact ⟨⟨0, false, rfl, close_no ht (dval_neg HC.out).symm⟩, hb1⟩
              · have ht := (by assumption : (!(decS (-((scN s.data.toList : Nat) : Int))).toList == s.toList) = false)
                go_ret2
                exact ⟨⟨_, true, rfl, close_yes ht (dval_neg HC.out).symm (by omega)⟩, hb1⟩
            · have hq' : ((s[0].toNat : Int) == 45) = false := by simpa using hq
              have HC : Hid (cutN s.data.toList = false) := cutN_no (fun _ => hq)
              clear hq
              go_wp2_with fail
              refine (specDec_any _ _ (by omega) (by omega)).mono ?_
              rintro e w1 ⟨rfl, hb1⟩
              go_wp2
              · have ht := (by assumption : (!(decS ((scN s.data.toList : Nat) : Int)).toList == s.toList) = true)
                go_ret2
                exact ⟨⟨0, false, rfl, close_no ht (dval_pos HC.out).symm⟩, hb1⟩
              · have ht := (by assumption : (!(decS ((scN s.data.toList : Nat) : Int)).toList == s.toList) = false)
                go_ret2
                exact ⟨⟨_, true, rfl, close_yes ht (dval_pos HC.out).symm (by omega)⟩, hb1⟩
          · have HC : Hid (cutN s.data.toList = false) := cutN_no (fun h => absurd h (by omega))
            go_wp2_with fail
            refine (specDec_any _ _ (by omega) (by omega)).mono ?_
            rintro e w1 ⟨rfl, hb1⟩
            go_wp2
            · have ht := (by assumption : (!(decS ((scN s.data.toList : Nat) : Int)).toList == s.toList) = true)
              go_ret2
              exact ⟨⟨0, false, rfl, close_no ht (dval_pos HC.out).symm⟩, hb1⟩
            · have ht := (by assumption : (!(decS ((scN s.data.toList : Nat) : Int)).toList == s.toList) = false)
              go_ret2
              exact ⟨⟨_, true, rfl, close_yes ht (dval_pos HC.out).symm (by omega)⟩, hb1⟩

end Go.Proofs.Ytnimhejbjofknaa
