/- Plain facts on hexadecimal digits. -/
import Derived.Test.YtofgpnhieopcoaaDoorMathB
namespace Go.Proofs.YtofgpnhieopcoaaDoor
open Go.RowKit

/-- The digit k, for k from 0 to 15. -/
def hexC (k : Nat) : UInt8 := [48, 49, 50, 51, 52, 53, 54, 55, 56, 57, 97, 98, 99, 100, 101, 102].getD k 0

theorem hexC_at (k : Nat) (h : k < (ByteArray.mk #[48, 49, 50, 51, 52, 53, 54, 55, 56, 57, 97, 98, 99, 100, 101, 102]).size) : (ByteArray.mk #[48, 49, 50, 51, 52, 53, 54, 55, 56, 57, 97, 98, 99, 100, 101, 102])[k] = hexC k := by
  have h' : k < 16 := h
  unfold hexC
  rw [List.getD_eq_getElem?_getD, List.getElem?_eq_getElem (by simpa using h')]
  rfl

/-- What Hex makes of a text. -/
def hexL : List UInt8 → List UInt8
  | [] => []
  | c :: l => hexC (c.toNat / 16) :: hexC (c.toNat % 16) :: hexL l

theorem hexL_append (l m : List UInt8) : hexL (l ++ m) = hexL l ++ hexL m := by
  induction l with
  | nil => rfl
  | cons c l ih => simp [hexL, ih]

theorem hexL_length (l : List UInt8) : (hexL l).length = 2 * l.length := by
  induction l with
  | nil => rfl
  | cons c l ih => simp [hexL, ih]; omega

theorem hexL_take (s : ByteArray) (k : Nat) (h : k < s.size) : hexL (s.data.toList.take (k + 1)) = hexL (s.data.toList.take k) ++ [hexC (s[k].toNat / 16), hexC (s[k].toNat % 16)] := by
  rw [take_snoc s k h, hexL_append]; rfl

def hexS (s : ByteArray) : ByteArray := ⟨(hexL s.data.toList).toArray⟩

theorem cellsOf_two (l : List UInt8) (a b : UInt8) : cellsOf l ++ [.int .u8 (a.toNat : Int), .int .u8 (b.toNat : Int)] = cellsOf (l ++ [a, b]) := by simp [cellsOf]

end Go.Proofs.YtofgpnhieopcoaaDoor
