/- Plain facts on decimal digits: no Go text in sight. -/
import Derived.WalkKit
import Derived.Lib.ItoaNum
namespace Go.Proofs.YtkmhednmgoolgabDoor
open Go.RowKit

/-- The decimal digits of m, none for 0; at most f of them. -/
def decP : Nat → Nat → List UInt8
  | 0, _ => []
  | f + 1, m => if m = 0 then [] else decP f (m / 10) ++ [UInt8.ofNat (48 + m % 10)]

theorem decP_zero (f : Nat) : decP f 0 = [] := by cases f <;> simp [decP]
theorem decP_succ (f m : Nat) (h : m ≠ 0) : decP (f + 1) m = decP f (m / 10) ++ [UInt8.ofNat (48 + m % 10)] := by simp [decP, h]

/-- What Dec makes of n. -/
def decL (n : Int) : List UInt8 := if n = 0 then [48] else if n < 0 then 45 :: decP 20 n.natAbs else decP 20 n.natAbs
def decS (n : Int) : ByteArray := ⟨(decL n).toArray⟩
theorem decL_zero : decL 0 = [48] := by simp [decL]
theorem decL_pos (n : Nat) (h : 0 < n) : decL (n : Int) = decP 20 n := by
  have h1 : ¬ (n : Int) = 0 := by omega
  have h2 : ¬ (n : Int) < 0 := by omega
  simp only [decL, if_neg h1, if_neg h2, Int.natAbs_natCast]
theorem decL_neg (n : Nat) (h : 0 < n) : decL (-(n : Int)) = 45 :: decP 20 n := by
  have h1 : ¬ (-(n : Int)) = 0 := by omega
  have h2 : (-(n : Int)) < 0 := by omega
  simp only [decL, if_neg h1, if_pos h2, Int.natAbs_neg, Int.natAbs_natCast]

theorem dec_step {U m f : Nat} {suf : List UInt8} (h : decP (f + 1) m ++ suf = decP 20 U) (hm : m ≠ 0) : decP f (m / 10) ++ (UInt8.ofNat (48 + m % 10) :: suf) = decP 20 U := by
  rw [← h, decP_succ f m hm, List.append_assoc]; rfl
theorem dec_fuel {f m : Nat} (h : m < 10 ^ f) (hm : m ≠ 0) : ∃ g, f = g + 1 ∧ m / 10 < 10 ^ g := by
  cases f with
  | zero => simp at h; omega
  | succ g =>
    refine ⟨g, rfl, ?_⟩
    rw [Nat.pow_succ] at h
    exact Nat.div_lt_of_lt_mul (by omega)
theorem dec_end {U f : Nat} {suf : List UInt8} (h : decP f 0 ++ suf = decP 20 U) : suf = decP 20 U := by
  rw [decP_zero] at h; exact h
theorem decP_length (f m : Nat) : (decP f m).length ≤ f := by
  induction f generalizing m with
  | zero => simp [decP]
  | succ f ih =>
    unfold decP
    split
    · simp
    · have := ih (m / 10); simp; omega

theorem decP_digits (f m : Nat) (h : m < 10 ^ f) (hm : m ≠ 0) : decP f m = Lib.decDigits m := by
  induction f generalizing m with
  | zero => simp at h; omega
  | succ f ih =>
    rw [decP_succ f m hm]
    by_cases hs : m < 10
    · have e1 : m / 10 = 0 := by omega
      have e2 : m % 10 = m := by omega
      rw [e1, e2, decP_zero, Lib.decDigits_one hs]; rfl
    · have hlt : m / 10 < 10 ^ f := by
        rw [Nat.pow_succ] at h
        exact Nat.div_lt_of_lt_mul (by omega)
      rw [ih (m / 10) hlt (by omega)]
      conv => rhs; rw [Lib.decDigits, dif_neg hs]

/-- The library's numeral is the one that Dec is to make. -/
theorem itoa_decL (n : Int) (h0 : -9223372036854775808 ≤ n) (h1 : n ≤ 9223372036854775807) : Lib.itoa n = decL n := by
  unfold Lib.itoa
  by_cases hz : n = 0
  · subst hz
    rw [decL_zero]
    simp [Lib.decDigits_one (show 0 < 10 by omega)]
  · by_cases hn : n < 0
    · obtain ⟨m, rfl⟩ : ∃ m : Nat, n = -(m : Int) := ⟨n.natAbs, by omega⟩
      rw [if_pos hn, decL_neg m (by omega), decP_digits 20 m (by omega) (by omega)]
      simp
    · obtain ⟨m, rfl⟩ : ∃ m : Nat, n = (m : Int) := ⟨n.natAbs, by omega⟩
      rw [if_neg hn, decL_pos m (by omega), decP_digits 20 m (by omega) (by omega)]
      simp

end Go.Proofs.YtkmhednmgoolgabDoor
