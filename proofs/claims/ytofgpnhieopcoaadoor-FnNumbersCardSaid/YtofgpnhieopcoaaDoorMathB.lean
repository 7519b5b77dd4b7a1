/- Plain facts on numbers to the base 128. -/
import Derived.Test.YtofgpnhieopcoaaDoorMath
namespace Go.Proofs.YtofgpnhieopcoaaDoor
open Go.RowKit

/-- The bytes of n to the base 128, the lowest first, with f bytes more at most. -/
def vby : Nat → Nat → List UInt8
  | 0, n => [UInt8.ofNat n]
  | f + 1, n => if n < 128 then [UInt8.ofNat n] else UInt8.ofNat (128 + n % 128) :: vby f (n / 128)

theorem vby_last (f n : Nat) (h : n < 128) : vby f n = [UInt8.ofNat n] := by
  cases f with
  | zero => rfl
  | succ f => simp [vby, h]
theorem vby_more (f n : Nat) (h : 128 ≤ n) : vby (f + 1) n = UInt8.ofNat (128 + n % 128) :: vby f (n / 128) := by
  simp [vby, show ¬ n < 128 by omega]

/-- What Var answers for n from 0 to MaxVar. -/
def varL (n : Nat) : List UInt8 := vby 6 n
def varS (n : Nat) : ByteArray := ⟨(varL n).toArray⟩

theorem vby_length (f n : Nat) : 1 ≤ (vby f n).length ∧ (vby f n).length ≤ f + 1 := by
  induction f generalizing n with
  | zero => simp [vby]
  | succ f ih =>
    unfold vby
    split
    · simp
    · have := ih (n / 128)
      simp; omega

/-- The cells of a row of bytes. -/
def cellsOf (l : List UInt8) : List Value := l.map (fun c => Value.int .u8 (c.toNat : Int))
theorem cellsOf_length (l : List UInt8) : (cellsOf l).length = l.length := by simp [cellsOf]
theorem cellsOf_snoc (l : List UInt8) (c : UInt8) : cellsOf (l ++ [c]) = cellsOf l ++ [.int .u8 (c.toNat : Int)] := by simp [cellsOf]

theorem strOfNums_bytes (l : List UInt8) : strOfNums (l.map (fun c => (c.toNat : Int))) = ⟨l.toArray⟩ := by
  unfold strOfNums
  congr 2
  rw [List.map_map]
  conv => rhs; rw [← List.map_id l]
  apply List.map_congr_left
  intro c _
  simp

/-- One step of Var's loop: f + 1 bytes may still come; m has at least two. -/
theorem var_step {n m f : Nat} {pre : List UInt8} (h : pre ++ vby (f + 1) m = varL n) (hm : 128 ≤ m) : (pre ++ [UInt8.ofNat (128 + m % 128)]) ++ vby f (m / 128) = varL n := by
  rw [← h, vby_more f m hm, List.append_assoc]; rfl
theorem var_end {n m f : Nat} {pre : List UInt8} (h : pre ++ vby f m = varL n) (hm : m < 128) : pre ++ [UInt8.ofNat m] = varL n := by
  rw [← h, vby_last f m hm]
theorem var_fuel {f m : Nat} (h : m < 128 ^ (f + 1)) (hm : 128 ≤ m) : ∃ g, f = g + 1 ∧ m / 128 < 128 ^ (g + 1) := by
  cases f with
  | zero => simp at h; omega
  | succ g =>
    refine ⟨g, rfl, ?_⟩
    rw [Nat.pow_succ] at h
    exact Nat.div_lt_of_lt_mul (by omega)
theorem byte_hi (m : Nat) : ((UInt8.ofNat (128 + m % 128)).toNat : Int) = 128 + (m : Int) % 128 := by
  simp; omega
theorem byte_lo (m : Nat) (h : m < 128) : ((UInt8.ofNat m).toNat : Int) = (m : Int) := by
  simp; omega

end Go.Proofs.YtofgpnhieopcoaaDoor
