/- Bits of a mode. -/
import Derived.Test.YtmkegmndcbpblaaGreatDoorPMath
import Derived.Laws.BitsLemmas
namespace Go.Proofs.YtmkegmndcbpblaaGreatDoor
open Go.RowKit
set_option linter.unusedVariables false
/-- The low bits of whatever number. -/
theorem bitsLow (n : Int) (k : Nat) (hk : k < 1024) : bits .and .i64 n (k : Int) = (((n % 1024).toNat &&& k : Nat) : Int) := by
 have hk' : (BitVec.ofInt 64 (k : Int)).toNat = k := by
  rw [BitVec.toNat_ofInt]; omega
 have key : (BitVec.ofInt 64 n &&& BitVec.ofInt 64 (k : Int)).toNat = (n % 1024).toNat &&& k := by
  rw [BitVec.toNat_and, BitVec.toNat_ofInt, hk']
  have h1 : ∀ x : Nat, x &&& k = x % 2 ^ 10 &&& k := by
   intro x
   rw [← Nat.and_two_pow_sub_one_eq_mod x 10, Nat.and_assoc, Nat.and_comm (2 ^ 10 - 1) k, Nat.and_two_pow_sub_one_eq_mod k 10, Nat.mod_eq_of_lt (by omega)]
  rw [h1]
  congr 1
  omega
 show IntKind.i64.wrap ((BitVec.ofInt 64 n &&& BitVec.ofInt 64 (k : Int)).toNat : Nat) = _
 have hle : (n % 1024).toNat &&& k ≤ k := Nat.and_le_right
 rw [key, IntKind.wrap_i64]
 omega
theorem bitsLowI (n k : Int) (h0 : 0 ≤ k) (hk : k < 1024) : bits .and .i64 n k = (((n % 1024).toNat &&& k.toNat : Nat) : Int) := by
 have := bitsLow n k.toNat (by omega)
 rwa [show ((k.toNat : Nat) : Int) = k by omega] at this
theorem bits7 (n : Int) : bits .and .i64 n 7 = n % 8 := by
 have := bitsLow n 7 (by omega)
 rw [show ((7 : Nat) : Int) = 7 from rfl] at this
 rw [this, show (7 : Nat) = 2 ^ 3 - 1 from rfl, Nat.and_two_pow_sub_one_eq_mod]
 omega
theorem bits1 (n : Int) : bits .and .i64 n 1 = n % 2 := by
 have := bitsLow n 1 (by omega)
 rw [show ((1 : Nat) : Int) = 1 from rfl] at this
 rw [this, show (1 : Nat) = 2 ^ 1 - 1 from rfl, Nat.and_two_pow_sub_one_eq_mod]
 omega
/-- Are all bits of want, from f on, in m? -/
def bitB (f m want : Int) : Bool := bits .and .i64 m (f * want) == f * want
theorem three8 : (List.range 1024).all (fun r => (List.range 8).all fun x => (((r &&& (8 * x)) == 8 * x) == (((r / 8 % 8) &&& x) == x)) && (((r &&& (64 * x)) == 64 * x) == (((r / 64 % 8) &&& x) == x)) && (((r &&& (1 * x)) == 1 * x) == (((r % 8) &&& x) == x))) = true := by kernel_rfl
theorem three (r x : Nat) (hr : r < 1024) (hx : x < 8) : (((r &&& (8 * x)) == 8 * x) = (((r / 8 % 8) &&& x) == x)) ∧ (((r &&& (64 * x)) == 64 * x) = (((r / 64 % 8) &&& x) == x)) ∧ (((r &&& (1 * x)) == 1 * x) = (((r % 8) &&& x) == x)) := by
 have h := List.all_eq_true.1 three8 r (by simpa using hr)
 have h2 := List.all_eq_true.1 h x (by simpa using hx)
 simp only [Bool.and_eq_true, beq_iff_eq] at h2
 exact ⟨h2.1.1, h2.1.2, h2.2⟩
theorem cast_beq (a b : Nat) : (((a : Int)) == (b : Int)) = (a == b) := by
 rcases Nat.decEq a b with h | h
 ·rw [beq_eq_false_iff_ne.2 h, beq_eq_false_iff_ne.2 (by omega)]
 ·subst h; simp
theorem bitB_nat (f : Nat) (m : Int) (x : Nat) (hf : f = 1 ∨ f = 8 ∨ f = 64) (hx : x < 8) : bitB (f : Int) m (x : Int) = (((m % 1024).toNat &&& (f * x)) == f * x) := by
 have hlt : f * x < 1024 := by rcases hf with rfl | rfl | rfl <;> omega
 unfold bitB
 rw [← Int.natCast_mul, bitsLow m (f * x) hlt, cast_beq]
theorem spec_bits (m q : Int) (x : Nat) (hq : 0 ≤ q) (hq8 : q < 8) (hx : x < 8) : (bits .and .i64 q (x : Int) == (x : Int)) = ((q.toNat &&& x) == x) := by
 rw [bitsLow q x (by omega), cast_beq, show q % 1024 = q by omega]
theorem bitB1 (m want : Int) (h0 : 0 ≤ want) (h7 : want ≤ 7) : (bits .and .i64 (bits .and .i64 m 7) want == want) = bitB 1 m want := by
 obtain ⟨x, rfl⟩ := Int.eq_ofNat_of_zero_le h0
 have := bitB_nat 1 m x (.inl rfl) (by omega)
 rw [show ((1 : Nat) : Int) = 1 from rfl] at this
 rw [this, bits7, spec_bits m _ x (by omega) (by omega) (by omega), (three (m % 1024).toNat x (by omega) (by omega)).2.2, show (m % 8).toNat = (m % 1024).toNat % 8 by omega]
theorem bitB8 (m want : Int) (h0 : 0 ≤ want) (h7 : want ≤ 7) : (bits .and .i64 (bits .and .i64 (m / 8) 7) want == want) = bitB 8 m want := by
 obtain ⟨x, rfl⟩ := Int.eq_ofNat_of_zero_le h0
 have := bitB_nat 8 m x (.inr (.inl rfl)) (by omega)
 rw [show ((8 : Nat) : Int) = 8 from rfl] at this
 rw [this, bits7, spec_bits m _ x (by omega) (by omega) (by omega), (three (m % 1024).toNat x (by omega) (by omega)).1, show (m / 8 % 8).toNat = (m % 1024).toNat / 8 % 8 by omega]
theorem bitB64 (m want : Int) (h0 : 0 ≤ want) (h7 : want ≤ 7) : (bits .and .i64 (bits .and .i64 (m / 64) 7) want == want) = bitB 64 m want := by
 obtain ⟨x, rfl⟩ := Int.eq_ofNat_of_zero_le h0
 have := bitB_nat 64 m x (.inr (.inr rfl)) (by omega)
 rw [show ((64 : Nat) : Int) = 64 from rfl] at this
 rw [this, bits7, spec_bits m _ x (by omega) (by omega) (by omega), (three (m % 1024).toNat x (by omega) (by omega)).2.1, show (m / 64 % 8).toNat = (m % 1024).toNat / 64 % 8 by omega]
/-- From where on the bits stand that count. -/
def fromB (c : Cr) (uid gid : Int) : Int := if c.u = uid then 64 else if inGB c gid then 8 else 1
def rootB (kind mode want : Int) : Bool := decide (want % 2 = 0) || decide (kind ≠ 1) || (bits .and .i64 mode 73 != 0)
def mayB (c : Cr) (n : Nd) (want : Int) : Bool := credB c && inB want 0 7 && (if c.u = 0 then rootB n.kind n.mode want else bitB (fromB c n.uid n.gid) n.mode want)
def stickyB (m : Int) : Bool := bits .and .i64 m 512 != 0
def takeB (c : Cr) (d n : Nd) : Bool := credB c && (!stickyB d.mode || decide (c.u = 0) || decide (c.u = d.uid) || decide (c.u = n.uid))
end Go.Proofs.YtmkegmndcbpblaaGreatDoor
