/- Plain facts on lists of bytes and numbers that the walks of this seat use: no Go text in sight. -/
import Derived.WalkKit
namespace Go.Proofs.YtofgpnhieopcoaaDoor
open Go.RowKit

/-- The number whose bytes, the highest first, are l. -/
def rd (l : List UInt8) : Int := l.foldl (fun n c => n * 256 + (c.toNat : Int)) 0

theorem rd_snoc (l : List UInt8) (c : UInt8) : rd (l ++ [c]) = rd l * 256 + (c.toNat : Int) := by
  simp [rd, List.foldl_append]

theorem rd_nonneg (l : List UInt8) : 0 ≤ rd l := by
  have h : ∀ (l : List UInt8) (n : Int), 0 ≤ n → 0 ≤ l.foldl (fun n c => n * 256 + (c.toNat : Int)) n := by
    intro l
    induction l with
    | nil => intro n h; exact h
    | cons c l ih =>
      intro n h
      simp only [List.foldl_cons]
      exact ih _ (by omega)
  exact h l 0 (by omega)

theorem rd_lt (l : List UInt8) : rd l < 256 ^ l.length := by
  have h : ∀ (l : List UInt8) (n m : Int), 0 ≤ n → n < m → l.foldl (fun n c => n * 256 + (c.toNat : Int)) n < m * 256 ^ l.length := by
    intro l
    induction l with
    | nil => intro n m _ h; simpa using h
    | cons c l ih =>
      intro n m h0 h
      have hc : (c.toNat : Int) < 256 := by have := c.toNat_lt; omega
      have := ih (n * 256 + (c.toNat : Int)) (m * 256) (by omega) (by omega)
      simp only [List.foldl_cons, List.length_cons]
      rw [Int.pow_succ, Int.mul_comm (256 ^ l.length) 256, ← Int.mul_assoc]
      exact this
  have := h l 0 1 (by omega) (by omega)
  rw [Int.one_mul] at this
  exact this

theorem pow256_le (k n : Nat) (h : k ≤ n) : (256 : Int) ^ k ≤ 256 ^ n := by
  have h1 : ((256 ^ k : Nat) : Int) ≤ ((256 ^ n : Nat) : Int) := Int.ofNat_le.2 (Nat.pow_le_pow_right (by omega) h)
  rw [Int.natCast_pow, Int.natCast_pow] at h1
  exact h1

theorem rd_le6 (l : List UInt8) (h : l.length ≤ 6) : rd l ≤ 281474976710655 := by
  have h1 := rd_lt l
  have h2 := pow256_le l.length 6 h
  have h3 : (256 : Int) ^ 6 = 281474976710656 := by decide
  omega

theorem take_snoc (s : ByteArray) (k : Nat) (h : k < s.size) : s.data.toList.take (k + 1) = s.data.toList.take k ++ [s[k]] := by
  rw [List.take_succ_eq_append_getElem (by simpa using h)]; rfl

theorem rd_take_succ (s : ByteArray) (k : Nat) (h : k < s.size) : rd (s.data.toList.take (k + 1)) = rd (s.data.toList.take k) * 256 + (s[k].toNat : Int) := by
  rw [take_snoc s k h, rd_snoc]

theorem rd_take_le (s : ByteArray) (k : Nat) (h : k ≤ 6) : rd (s.data.toList.take k) ≤ 281474976710655 :=
  rd_le6 _ (Nat.le_trans (List.length_take_le _ _) h)

theorem wraps_i64 (n : Int) (h₀ : 0 ≤ n) (h₁ : n < 2 ^ 63) : IntKind.i64.wrap n = n := by rw [IntKind.wrap_i64]; omega

theorem i64_or8 (x y : Int) (h₀ : 0 ≤ x) (h₁ : x ≤ 281474976710655) (h₂ : 0 ≤ y) (h₃ : y < 256) : bits .or .i64 (x * 256) y = x * 256 + y :=
  bits_join .i64 63 (by decide) wraps_i64 8 (x * 256) y (by omega) (by omega) (by omega) h₂ h₃ (by omega)

/-- The lowest k bytes of n, the highest first. -/
def be (n : Nat) : Nat → List UInt8
  | 0 => []
  | k + 1 => UInt8.ofNat (n / 256 ^ k % 256) :: be n k

theorem be_length (n k : Nat) : (be n k).length = k := by
  induction k with
  | zero => rfl
  | succ k ih => simp [be, ih]

def beS (n k : Nat) : ByteArray := ⟨(be n k).toArray⟩
theorem beS_size (n k : Nat) : (beS n k).size = k := by
  show (be n k).toArray.size = k
  simp [be_length]

theorem beS_succ (n k m : Nat) (h : m = n / 256 ^ k) : (⟨#[UInt8.ofNat (m % 256)]⟩ : ByteArray) ++ beS n k = beS n (k + 1) := by
  subst h
  unfold beS
  show (ByteArray.mk [UInt8.ofNat (n / 256 ^ k % 256)].toArray ++ ByteArray.mk (be n k).toArray) = _
  rw [ByteArray.mk_append_mk]
  rfl

theorem div_pow_succ (n k m : Nat) (h : m = n / 256 ^ k) : m / 256 = n / 256 ^ (k + 1) := by
  subst h
  rw [Nat.div_div_eq_div_mul, Nat.pow_succ]

/-- What Fixed answers for n and a width from 1 to 7. -/
def fixedS (n b : Nat) : ByteArray := if n / 256 ^ b = 0 then beS n b else ByteArray.empty
theorem fixedS_yes {n b : Nat} (h : n / 256 ^ b = 0) : fixedS n b = beS n b := if_pos h
theorem fixedS_no {n b : Nat} (h : ¬ n / 256 ^ b = 0) : fixedS n b = ByteArray.empty := if_neg h

/-- What the program's row of b bytes holds behind k rounds. -/
def fixRow (n b k : Nat) : List Value := List.replicate (b - k) (.int .u8 0) ++ (be n k).map (fun c => Value.int .u8 (c.toNat : Int))
theorem fixRow_length (n b k : Nat) (h : k ≤ b) : (fixRow n b k).length = b := by
  simp [fixRow, be_length]; omega
def fixArr (n b k : Nat) : Array Value := (fixRow n b k).toArray
theorem fixArr_size (n b k : Nat) (h : k ≤ b) : (fixArr n b k).size = b := by
  simp [fixArr, fixRow_length n b k h]

theorem set_replicate {α : Type} (x y : α) (m : Nat) (l : List α) : (List.replicate (m + 1) x ++ l).set m y = List.replicate m x ++ y :: l := by
  rw [List.replicate_succ', List.append_assoc, List.set_append_right _ _ (by simp)]
  simp

theorem pow2_8 (k : Nat) : 2 ^ (8 * k) = 256 ^ k := by rw [Nat.pow_mul]

theorem pow2_8i (k : Nat) : (2 : Int) ^ (8 * k) = ((256 ^ k : Nat) : Int) := by
  rw [← pow2_8, Int.natCast_pow]; rfl

theorem fixArr_set (n b k : Nat) (v : Int) (h : k < b) (hv : v = ((n / 256 ^ k % 256 : Nat) : Int)) : (fixArr n b k).setIfInBounds (b - 1 - k) (.int .u8 v) = fixArr n b (k + 1) := by
  subst hv
  unfold fixArr fixRow
  have e1 : b - k = (b - 1 - k) + 1 := by omega
  have e2 : b - (k + 1) = b - 1 - k := by omega
  rw [List.setIfInBounds_toArray, e1, set_replicate, e2]
  have hc : (UInt8.ofNat (n / 256 ^ k % 256)).toNat = n / 256 ^ k % 256 := by
    simp
  simp [be, hc]

theorem fixArr_zero (n b : Nat) : madeCells #[.int .u8 0] b = fixArr n b 0 := by
  apply Array.ext'
  rw [toList_madeCells_one]
  simp [fixArr, fixRow, be]

theorem fixArr_get (n b k j : Nat) (hk : k ≤ b) (hj : j < b) : ∃ v, (fixArr n b k)[j]? = some v := by
  have h : j < (fixArr n b k).size := by rw [fixArr_size n b k hk]; exact hj
  exact ⟨_, Array.getElem?_eq_getElem h⟩

theorem fixArr_done (n b j : Nat) (hj : j < b) : (fixArr n b b)[j]? = some (.int .u8 (((be n b).map (fun c => (c.toNat : Int))).getD j 0)) := by
  have h : j < (be n b).length := by rw [be_length]; exact hj
  simp [fixArr, fixRow, h]

theorem strOfNums_be (n b : Nat) : strOfNums ((be n b).map (fun c => (c.toNat : Int))) = beS n b := by
  unfold strOfNums beS
  congr 2
  rw [List.map_map]
  conv => rhs; rw [← List.map_id (be n b)]
  apply List.map_congr_left
  intro c _
  simp

theorem byte_shift (n k : Nat) : (n : Int) / 2 ^ (8 * k) % 256 = ((n / 256 ^ k % 256 : Nat) : Int) := by
  rw [pow2_8i, ← Int.natCast_ediv]; rfl

theorem ret_str {a b : ByteArray} (h : a = b) : Ending.returned (.string a) = .returned (.string b) := by rw [h]
theorem val_str {a b : ByteArray} (h : a = b) : Value.string a = .string b := by rw [h]

end Go.Proofs.YtofgpnhieopcoaaDoor
