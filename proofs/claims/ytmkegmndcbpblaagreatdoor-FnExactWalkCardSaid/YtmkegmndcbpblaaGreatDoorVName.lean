/- Bytes of names and paths; NameOk; is x from a to b? -/
import Derived.Test.YtmkegmndcbpblaaGreatDoorPMath
namespace Go.Proofs.YtmkegmndcbpblaaGreatDoor
open Go.RowKit
set_option linter.unusedVariables false
/-- A byte that a name may have. -/
def nbI (x : Int) : Bool := (decide (97 ≤ x) && decide (x ≤ 122)) || (decide (48 ≤ x) && decide (x ≤ 57)) || decide (x = 46) || decide (x = 95) || decide (x = 45)
def nb (c : UInt8) : Bool := nbI (c.toNat : Int)
/-- A byte that a path may have. -/
def okB (c : UInt8) : Bool := decide ((c.toNat : Int) = 47) || nb c
def nameB (l : List UInt8) : Bool := decide (1 ≤ l.length) && decide (l.length ≤ 8) && decide (l ≠ [46]) && decide (l ≠ [46, 46]) && l.all nb
def pathB (l : List UInt8) : Bool := decide (1 ≤ l.length) && decide (l.length ≤ 60) && decide (l.getD 0 0 = 47) && l.all okB

theorem nb47 : nb 47 = false := by decide
theorem u8_of_int {c : UInt8} {n : Nat} (h : (c.toNat : Int) = n) (hn : n < 256) : c = UInt8.ofNat n := by
 apply UInt8.toNat_inj.1
 simp
 omega
theorem is47 {c : UInt8} : c = 47 ↔ (c.toNat : Int) = 47 := by
 constructor
 ·rintro rfl; rfl
 ·intro h; exact u8_of_int (n := 47) h (by decide)

set_option maxHeartbeats 400000 in
theorem within_any (x a b : Int) (w : World) :
  Calls Tryz.prog 55 #[.int .i64 x, .int .i64 a, .int .i64 b] w fun e w' => e = .returned (.bool (inB x a b)) ∧ w = w' := by
 by_cases h1 : a ≤ x
 ·by_cases h2 : x ≤ b
  ·rw [inB_true ⟨h1, h2⟩]
   go_enter Tryz.func55, Tryz.ntmps55
   go_wp2
   go_ret
   exact ⟨rfl, rfl⟩
  ·rw [inB_false (by omega)]
   go_enter Tryz.func55, Tryz.ntmps55
   go_wp2
   go_ret
   exact ⟨rfl, rfl⟩
 ·rw [inB_false (by omega)]
  go_enter Tryz.func55, Tryz.ntmps55
  go_wp2
  go_ret
  exact ⟨rfl, rfl⟩

set_option maxHeartbeats 400000 in
theorem l1In_any (x a b : Int) (w : World) :
  Calls Tryz.prog 26 #[.int .i64 x, .int .i64 a, .int .i64 b] w fun e w' => e = .returned (.bool (inB x a b)) ∧ w = w' := by
 by_cases h1 : a ≤ x
 ·by_cases h2 : x ≤ b
  ·rw [inB_true ⟨h1, h2⟩]
   go_enter Tryz.func26, Tryz.ntmps26
   go_wp2
   go_ret
   exact ⟨rfl, rfl⟩
  ·rw [inB_false (by omega)]
   go_enter Tryz.func26, Tryz.ntmps26
   go_wp2
   go_ret
   exact ⟨rfl, rfl⟩
 ·rw [inB_false (by omega)]
  go_enter Tryz.func26, Tryz.ntmps26
  go_wp2
  go_ret
  exact ⟨rfl, rfl⟩

theorem nbI_yes {x : Int} (h : (97 ≤ x ∧ x ≤ 122) ∨ (48 ≤ x ∧ x ≤ 57) ∨ x = 46 ∨ x = 95 ∨ x = 45) : nbI x = true := by
 simp only [nbI, Bool.or_eq_true, Bool.and_eq_true, decide_eq_true_eq]; omega
theorem nbI_no {x : Int} (h : ¬ ((97 ≤ x ∧ x ≤ 122) ∨ (48 ≤ x ∧ x ≤ 57) ∨ x = 46 ∨ x = 95 ∨ x = 45)) : nbI x = false := by
 simp only [nbI, Bool.or_eq_false_iff, Bool.and_eq_false_iff, decide_eq_false_iff_not]; omega

set_option maxHeartbeats 1000000 in
theorem nameByte_any (x : Int) (w : World) :
  Calls Tryz.prog 81 #[.int .u8 x] w fun e w' => e = .returned (.bool (nbI x)) ∧ w = w' := by
 go_enter Tryz.func81, Tryz.ntmps81
 go_wp2
 all_goals go_ret
 all_goals refine ⟨ret_bool ?_, rfl⟩
 all_goals first | (simp_all [nbI]; done) | (rw [Bool.eq_iff_iff]; simp [nbI]; omega)

set_option maxHeartbeats 1000000 in
theorem l2Byte_any (x : Int) (w : World) :
  Calls Tryz.prog 32 #[.int .u8 x] w fun e w' => e = .returned (.bool (nbI x)) ∧ w = w' := by
 go_enter Tryz.func32, Tryz.ntmps32
 go_wp2
 all_goals go_ret
 all_goals refine ⟨ret_bool ?_, rfl⟩
 all_goals first | (simp_all [nbI]; done) | (rw [Bool.eq_iff_iff]; simp [nbI]; omega)

theorem getD_data (s : ByteArray) (k : Nat) (h : k < s.size) : s.data.toList.getD k 0 = s[k] := by
 rw [List.getD_eq_getElem?_getD, List.getElem?_eq_getElem (by simpa using h)]
 rfl
theorem size_data (s : ByteArray) : s.data.toList.length = s.size := by simp

/-- The first k bytes are such as f wants. -/
def firstOk (f : UInt8 → Bool) (s : ByteArray) (k : Nat) : Prop := ∀ j, j < k → f (s.data.toList.getD j 0) = true
theorem firstOk_zero (f : UInt8 → Bool) (s : ByteArray) : firstOk f s 0 := fun j hj => absurd hj (by omega)
theorem firstOk_succ {f : UInt8 → Bool} {s : ByteArray} {k : Nat} (h : firstOk f s k) (hk : k < s.size) (e : f s[k] = true) : firstOk f s (k + 1) := by
 intro j hj
 by_cases h1 : j = k
 ·subst h1; rw [getD_data s j hk]; exact e
 ·exact h j (by omega)
theorem all_of {f : UInt8 → Bool} {s : ByteArray} (h : firstOk f s s.size) : s.data.toList.all f = true := by
 rw [List.all_eq_true]
 intro c hc
 obtain ⟨j, hj, rfl⟩ := List.mem_iff_getElem.1 hc
 have := h j (by simpa using hj)
 rwa [List.getD_eq_getElem?_getD, List.getElem?_eq_getElem hj] at this
theorem not_all_of {f : UInt8 → Bool} {s : ByteArray} {k : Nat} (hk : k < s.size) (e : f s[k] = false) : s.data.toList.all f = false := by
 rw [List.all_eq_false]
 exact ⟨s[k], List.mem_iff_getElem.2 ⟨k, by simpa using hk, rfl⟩, by simp [e]⟩

theorem pathB_yes {s : ByteArray} (h1 : 1 ≤ s.size) (h2 : s.size ≤ 60) (h0 : ((s[0].toNat : Int) != 47) = false) (h : firstOk okB s s.size) : pathB s.data.toList = true := by
 have e : s.data.toList.getD 0 0 = 47 := by
  rw [getD_data s 0 (by omega), is47]
  simpa using h0
 simp only [pathB, Bool.and_eq_true, decide_eq_true_eq, size_data]
 exact ⟨⟨⟨h1, h2⟩, e⟩, all_of h⟩
theorem pathB_short {s : ByteArray} (h : s.size < 1) : pathB s.data.toList = false := by
 have : ¬ 1 ≤ s.data.toList.length := by rw [size_data]; omega
 simp only [pathB, decide_eq_false this, Bool.false_and]
theorem pathB_long {s : ByteArray} (h : 60 < s.size) : pathB s.data.toList = false := by
 have : ¬ s.data.toList.length ≤ 60 := by rw [size_data]; omega
 simp only [pathB, decide_eq_false this, Bool.false_and, Bool.and_false]
theorem pathB_first {s : ByteArray} (h1 : 1 ≤ s.size) (h0 : ((s[0].toNat : Int) != 47) = true) : pathB s.data.toList = false := by
 have e : ¬ s.data.toList.getD 0 0 = 47 := by
  rw [getD_data s 0 (by omega), is47]
  simpa using h0
 simp only [pathB, decide_eq_false e, Bool.false_and, Bool.and_false]
theorem pathB_bad {s : ByteArray} {k : Nat} (hk : k < s.size) (e : okB s[k] = false) : pathB s.data.toList = false := by
 simp only [pathB, not_all_of hk e, Bool.and_false]
theorem okB_slash {c : UInt8} (h : ((c.toNat : Int) != 47) = false) : okB c = true := by
 have : (c.toNat : Int) = 47 := by simpa using h
 simp [okB, this]
theorem okB_name {c : UInt8} (h : nbI (c.toNat : Int) = true) : okB c = true := by
 simp [okB, nb, h]
theorem okB_no {c : UInt8} (h : ((c.toNat : Int) != 47) = true) (h' : nbI (c.toNat : Int) = false) : okB c = false := by
 have : ¬ (c.toNat : Int) = 47 := by simpa using h
 simp [okB, nb, h', this]

def pbB (l : List UInt8) : Bool := decide (1 ≤ l.length) && decide (l.length ≤ 60) && l.all okB
theorem pbB_path (s : ByteArray) (h : 0 < s.size) : (pbB s.data.toList && ((s[0].toNat : Int) == 47)) = pathB s.data.toList := by
 have e : decide (s.data.toList.getD 0 0 = 47) = ((s[0].toNat : Int) == 47) := by
  rw [getD_data s 0 h, Bool.eq_iff_iff, decide_eq_true_eq, is47]
  simp
 unfold pbB pathB
 rw [e]
 cases decide (1 ≤ s.data.toList.length) <;> cases decide (s.data.toList.length ≤ 60) <;> cases s.data.toList.all okB <;> cases ((s[0].toNat : Int) == 47) <;> rfl
theorem pbB_yes {s : ByteArray} (h1 : 1 ≤ s.size) (h2 : s.size ≤ 60) (h : firstOk okB s s.size) : pbB s.data.toList = true := by
 simp only [pbB, Bool.and_eq_true, decide_eq_true_eq, size_data]
 exact ⟨⟨h1, h2⟩, all_of h⟩
theorem pbB_short {s : ByteArray} (h : s.size < 1) : pbB s.data.toList = false := by
 have : ¬ 1 ≤ s.data.toList.length := by rw [size_data]; omega
 simp only [pbB, decide_eq_false this, Bool.false_and]
theorem pbB_long {s : ByteArray} (h : 60 < s.size) : pbB s.data.toList = false := by
 have : ¬ s.data.toList.length ≤ 60 := by rw [size_data]; omega
 simp only [pbB, decide_eq_false this, Bool.false_and, Bool.and_false]
theorem pbB_bad {s : ByteArray} {k : Nat} (hk : k < s.size) (e : okB s[k] = false) : pbB s.data.toList = false := by
 simp only [pbB, not_all_of hk e, Bool.and_false]
set_option maxHeartbeats 1000000 in
theorem pathBytes_any (s : ByteArray) (w : World) (hs : s.size ≤ 9223372036854775807) :
  Calls Tryz.prog 71 #[.string s] w fun e w' => e = .returned (.bool (pbB s.data.toList)) ∧ w = w' := by
 by_cases h1 : (s.size : Int) < 1
 ·go_enter Tryz.func71, Tryz.ntmps71
  go_wp2
  go_ret
  exact ⟨ret_bool (pbB_short (by omega)).symm, rfl⟩
 by_cases h2 : 60 < (s.size : Int)
 ·go_enter Tryz.func71, Tryz.ntmps71
  go_wp2
  go_ret
  exact ⟨ret_bool (pbB_long (by omega)).symm, rfl⟩
 go_enter Tryz.func71, Tryz.ntmps71
 go_wp2
 go_loop [14] (fun c => ∃ k : Nat, k ≤ s.size ∧ c = .int .i64 k ∧ Hid (firstOk okB s k)) (fun c => s.size - (intOf c).toNat)
 case atStart => exact ⟨0, Nat.zero_le _, rfl, firstOk_zero _ _⟩
 case round =>
  obtain ⟨k, hk, rfl, HF⟩ := hrel
  by_cases hlt : k < s.size
  ·cases hd : ((s[k].toNat : Int) != 47) with
   | false =>
    have HD := Hid.intro hd
    go_wp2
    go_round
    case rel => exact ⟨k + 1, by omega, by go_num, firstOk_succ HF.out hlt (okB_slash HD.out)⟩
    case measure => simp [intOf]; omega
   | true =>
    have HD := Hid.intro hd
    cases hn : nbI (s[k].toNat : Int) with
    | true =>
     have HN := Hid.intro hn
     go_wp2_with (go_at_call 81; refine (nameByte_any _ _).mono ?_; rintro e w' ⟨rfl, rfl⟩)
     go_round
     case rel => exact ⟨k + 1, by omega, by go_num, firstOk_succ HF.out hlt (okB_name HN.out)⟩
     case measure => simp [intOf]; omega
    | false =>
     have HN := Hid.intro hn
     go_wp2_with (go_at_call 81; refine (nameByte_any _ _).mono ?_; rintro e w' ⟨rfl, rfl⟩)
     go_ret
     exact ⟨ret_bool (pbB_bad hlt (okB_no HD.out HN.out)).symm, rfl⟩
  ·obtain rfl : k = s.size := by omega
   go_wp2
   go_ret
   exact ⟨ret_bool (pbB_yes (by omega) (by omega) HF.out).symm, rfl⟩
theorem toList_data (s : ByteArray) : s.toList = s.data.toList := ByteArray.toList_eq s
theorem nameB_short {s : ByteArray} (h : s.size < 1) : nameB s.data.toList = false := by
 have : ¬ 1 ≤ s.data.toList.length := by rw [size_data]; omega
 simp only [nameB, decide_eq_false this, Bool.false_and]
theorem nameB_long {s : ByteArray} (h : 8 < s.size) : nameB s.data.toList = false := by
 have : ¬ s.data.toList.length ≤ 8 := by rw [size_data]; omega
 simp only [nameB, decide_eq_false this, Bool.false_and, Bool.and_false]
theorem nameB_one {s : ByteArray} (h : (s.toList == [46]) = true) : nameB s.data.toList = false := by
 have : ¬ s.data.toList ≠ [46] := by rw [← toList_data]; simpa using h
 simp only [nameB, decide_eq_false this, Bool.false_and, Bool.and_false]
theorem nameB_two {s : ByteArray} (h : (s.toList == [46, 46]) = true) : nameB s.data.toList = false := by
 have : ¬ s.data.toList ≠ [46, 46] := by rw [← toList_data]; simpa using h
 simp only [nameB, decide_eq_false this, Bool.false_and, Bool.and_false]
theorem nameB_bad {s : ByteArray} {k : Nat} (hk : k < s.size) (e : nbI (s[k].toNat : Int) = false) : nameB s.data.toList = false := by
 simp only [nameB, not_all_of (f := nb) hk e, Bool.and_false]
theorem nameB_yes {s : ByteArray} (h1 : 1 ≤ s.size) (h2 : s.size ≤ 8) (h3 : (s.toList == [46]) = false) (h4 : (s.toList == [46, 46]) = false) (h : firstOk nb s s.size) : nameB s.data.toList = true := by
 have e3 : s.data.toList ≠ [46] := by rw [← toList_data]; simpa using h3
 have e4 : s.data.toList ≠ [46, 46] := by rw [← toList_data]; simpa using h4
 simp only [nameB, Bool.and_eq_true, decide_eq_true_eq, size_data]
 exact ⟨⟨⟨⟨h1, h2⟩, e3⟩, e4⟩, all_of h⟩

set_option maxHeartbeats 1000000 in
theorem implNameOk_any (s : ByteArray) (w : World) (hs : s.size ≤ 9223372036854775807) :
  Calls Tryz.prog 79 #[.string s] w fun e w' => e = .returned (.bool (nameB s.data.toList)) ∧ w = w' := by
 by_cases h1 : (s.size : Int) < 1
 ·go_enter Tryz.func79, Tryz.ntmps79
  go_wp2
  go_ret
  exact ⟨ret_bool (nameB_short (by omega)).symm, rfl⟩
 by_cases h2 : 8 < (s.size : Int)
 ·go_enter Tryz.func79, Tryz.ntmps79
  go_wp2
  go_ret
  exact ⟨ret_bool (nameB_long (by omega)).symm, rfl⟩
 have hp : 0 < s.size := by omega
 cases h3 : (s.toList == [46]) with
 | true =>
  go_enter Tryz.func79, Tryz.ntmps79
  go_wp2
  go_ret
  exact ⟨ret_bool (nameB_one h3).symm, rfl⟩
 | false =>
  cases h4 : (s.toList == [46, 46]) with
  | true =>
   go_enter Tryz.func79, Tryz.ntmps79
   go_wp2
   go_ret
   exact ⟨ret_bool (nameB_two h4).symm, rfl⟩
  | false =>
   have H3 := Hid.intro h3
   have H4 := Hid.intro h4
   go_enter Tryz.func79, Tryz.ntmps79
   go_wp2
   go_loop [22] (fun c => ∃ k : Nat, k ≤ s.size ∧ c = .int .i64 k ∧ Hid (firstOk nb s k)) (fun c => s.size - (intOf c).toNat)
   case atStart => exact ⟨0, Nat.zero_le _, rfl, firstOk_zero _ _⟩
   case round =>
    obtain ⟨k, hk, rfl, HF⟩ := hrel
    clear h3 h4
    by_cases hlt : k < s.size
    ·cases hn : nbI (s[k].toNat : Int) with
     | true =>
      have HN := Hid.intro hn
      go_wp2_with (go_at_call 81; refine (nameByte_any _ _).mono ?_; rintro e w' ⟨rfl, rfl⟩)
      go_round
      case rel => exact ⟨k + 1, by omega, by go_num, firstOk_succ HF.out hlt HN.out⟩
      case measure => simp [intOf]; omega
     | false =>
      have HN := Hid.intro hn
      go_wp2_with (go_at_call 81; refine (nameByte_any _ _).mono ?_; rintro e w' ⟨rfl, rfl⟩)
      go_ret
      exact ⟨ret_bool (nameB_bad hlt HN.out).symm, rfl⟩
    ·obtain rfl : k = s.size := by omega
     go_wp2
     go_ret
     exact ⟨ret_bool (nameB_yes (by omega) (by omega) H3.out H4.out HF.out).symm, rfl⟩

set_option maxHeartbeats 1000000 in
theorem specNameOk_any (s : ByteArray) (w : World) (hs : s.size ≤ 9223372036854775807) :
  Calls Tryz.prog 46 #[.string s] w fun e w' => e = .returned (.bool (nameB s.data.toList)) ∧ w = w' := by
 by_cases h1 : (s.size : Int) < 1
 ·have hb : inB s.size 1 8 = false := inB_false (by omega)
  go_enter Tryz.func46, Tryz.ntmps46
  go_wp2_with (go_at_call 26; refine (l1In_any _ _ _ _).mono ?_; rintro e w1 ⟨rfl, rfl⟩)
  go_ret
  exact ⟨ret_bool (nameB_short (by omega)).symm, rfl⟩
 by_cases h2 : 8 < (s.size : Int)
 ·have hb : inB s.size 1 8 = false := inB_false (by omega)
  go_enter Tryz.func46, Tryz.ntmps46
  go_wp2_with (go_at_call 26; refine (l1In_any _ _ _ _).mono ?_; rintro e w1 ⟨rfl, rfl⟩)
  go_ret
  exact ⟨ret_bool (nameB_long (by omega)).symm, rfl⟩
 have hp : 0 < s.size := by omega
 have hb : inB s.size 1 8 = true := inB_true (by omega)
 cases h3 : (s.toList == [46]) with
 | true =>
  go_enter Tryz.func46, Tryz.ntmps46
  go_wp2_with (go_at_call 26; refine (l1In_any _ _ _ _).mono ?_; rintro e w1 ⟨rfl, rfl⟩)
  go_ret
  exact ⟨ret_bool (nameB_one h3).symm, rfl⟩
 | false =>
  cases h4 : (s.toList == [46, 46]) with
  | true =>
   go_enter Tryz.func46, Tryz.ntmps46
   go_wp2_with (go_at_call 26; refine (l1In_any _ _ _ _).mono ?_; rintro e w1 ⟨rfl, rfl⟩)
   go_ret
   exact ⟨ret_bool (nameB_two h4).symm, rfl⟩
  | false =>
   have H3 := Hid.intro h3
   have H4 := Hid.intro h4
   go_enter Tryz.func46, Tryz.ntmps46
   go_wp2_with (go_at_call 26; refine (l1In_any _ _ _ _).mono ?_; rintro e w1 ⟨rfl, rfl⟩)
   go_loop [3] (fun c => ∃ k : Nat, k ≤ s.size ∧ c = .int .i64 k ∧ Hid (firstOk nb s k)) (fun c => s.size - (intOf c).toNat)
   case atStart => exact ⟨0, Nat.zero_le _, rfl, firstOk_zero _ _⟩
   case round =>
    obtain ⟨k, hk, rfl, HF⟩ := hrel
    clear h3 h4
    by_cases hlt : k < s.size
    ·cases hn : nbI (s[k].toNat : Int) with
     | true =>
      have HN := Hid.intro hn
      go_wp2_with (go_at_call 32; refine (l2Byte_any _ _).mono ?_; rintro e w' ⟨rfl, rfl⟩)
      go_round
      case rel => exact ⟨k + 1, by omega, by go_num, firstOk_succ HF.out hlt HN.out⟩
      case measure => simp [intOf]; omega
     | false =>
      have HN := Hid.intro hn
      go_wp2_with (go_at_call 32; refine (l2Byte_any _ _).mono ?_; rintro e w' ⟨rfl, rfl⟩)
      go_ret
      exact ⟨ret_bool (nameB_bad hlt HN.out).symm, rfl⟩
    ·obtain rfl : k = s.size := by omega
     go_wp2
     go_ret
     exact ⟨ret_bool (nameB_yes (by omega) (by omega) H3.out H4.out HF.out).symm, rfl⟩


end Go.Proofs.YtmkegmndcbpblaaGreatDoor
