/- Contracts of the draws of paths: a text of no more bytes than so many, whatever the memory. -/
import Derived.Test.YtmkofkdcjeidhaaDrawA
namespace Go.Proofs.Ytmkofkdcjeidhaa
open Go.RowKit
set_option linter.unusedVariables false

/-- A cursor over the code lies in block B, wherever it stands. -/
structure Cur (N : Nat) (a : Option Addr) (len cap : Nat) (zs : List Int) (B : Nat) (w : World) : Prop where
  small : len ≤ 1048576
  at_ : ∃ (i : Nat) (h : Int), i ≤ len ∧ St N a len cap zs B i h w
theorem Cur.lt {N : Nat} {a : Option Addr} {len cap : Nat} {zs : List Int} {B : Nat} {w : World} (c : Cur N a len cap zs B w) : B < w.heap.size := by
  obtain ⟨i, h, _, s⟩ := c.at_
  exact lt_of_blk s.blk
theorem Cur.base {N : Nat} {a : Option Addr} {len cap : Nat} {zs : List Int} {B : Nat} {w : World} (c : Cur N a len cap zs B w) : N ≤ B := by
  obtain ⟨i, h, _, s⟩ := c.at_
  exact s.base
theorem Cur.alloc {N : Nat} {a : Option Addr} {len cap : Nat} {zs : List Int} {B : Nat} {w : World} (c : Cur N a len cap zs B w) (o : Obj) : Cur N a len cap zs B (w.alloc o) := by
  obtain ⟨i, h, hi, s⟩ := c.at_
  exact ⟨c.small, i, h, hi, s.alloc o⟩

section
variable {N : Nat} {a : Option Addr} {len cap : Nat} {zs : List Int} {B : Nat}

set_option maxHeartbeats 400000 in
theorem belowC_any (n : Int) (w : World) (c : Cur N a len cap zs B w) (h1 : 1 ≤ n) (h2 : n ≤ 256) :
    Calls Try.prog 39 #[.pointer (some ⟨B, 0, none⟩), .int .i64 n] w fun e w' => ∃ x : Int, e = .returned (.int .i64 x) ∧ 0 ≤ x ∧ x < n ∧ Cur N a len cap zs B w' ∧ w.grownBy w' (some B) := by
  obtain ⟨hl, i, h, hi, s⟩ := c
  obtain ⟨x0, x1⟩ := xB_bd zs len i h
  have k1 := iN_le hi
  go_enter Try.func39, Try.ntmps39
  go_wp2_with fail
  refine (byte_any s hl hi).mono ?_
  rintro e w1 ⟨rfl, s1, g1⟩
  go_wp2
  go_ret
  exact ⟨_, rfl, Int.emod_nonneg _ (by omega), Int.emod_lt_of_pos _ (by omega), ⟨hl, _, _, k1, s1⟩, g1⟩

set_option maxHeartbeats 400000 in
theorem onceC_any (n : Int) (w : World) (c : Cur N a len cap zs B w) (h1 : 1 ≤ n) (h2 : n ≤ 256) :
    Calls Try.prog 27 #[.pointer (some ⟨B, 0, none⟩), .int .i64 n] w fun e w' => ∃ b : Bool, e = .returned (.bool b) ∧ Cur N a len cap zs B w' ∧ w.grownBy w' (some B) := by
  have C := Hid.intro c
  clear c
  go_enter Try.func27, Try.ntmps27
  go_wp2_with fail
  refine (belowC_any n _ C.out h1 h2).mono ?_
  rintro e w1 ⟨x, rfl, x0, x1, c1, g1⟩
  go_wp2
  go_ret
  exact ⟨_, rfl, c1, g1⟩

/-- Texts of at most 100 bytes. -/
def okLits (A : Array Value) : Prop := ∀ v ∈ A.toList, ∃ s : ByteArray, v = .string s ∧ s.size ≤ 100

set_option maxHeartbeats 400000 in
theorem pickC_any (k : Nat) (A : Array Value) (w : World) (c : Cur N a len cap zs B w) (hA : okLits A) (hk : A.size = k) (h1 : 1 ≤ k) (h2 : k ≤ 256) :
    Calls Try.prog 28 #[.pointer (some ⟨B, 0, none⟩), .slice (some ⟨w.heap.size, 0, none⟩) k k] (w.alloc (.cells A 9)) fun e w' => ∃ s : ByteArray, e = .returned (.string s) ∧ s.size ≤ 100 ∧ Cur N a len cap zs B w' ∧ w.grownBy w' (some B) := by
  have hlt := c.lt
  have C := Hid.intro (c.alloc (.cells A 9))
  have HA := Hid.intro hA
  have HK := Hid.intro hk
  clear c hA hk
  go_enter Try.func28, Try.ntmps28
  go_wp2_with fail
  refine (belowC_any (k : Int) _ C.out (by omega) (by omega)).mono ?_
  rintro e w1 ⟨x, rfl, x0, x1, c1, g1⟩
  obtain ⟨j, rfl⟩ := Int.eq_ofNat_of_zero_le x0
  obtain ⟨s, hc, hs⟩ : ∃ s : ByteArray, w1.cell? ⟨w.heap.size, j, none⟩ = some (.string s) ∧ s.size ≤ 100 := by
    have hj : j < A.size := by rw [HK.out]; omega
    obtain ⟨s, hv, hs⟩ := HA.out A[j] (by simp)
    refine ⟨s, g1.cell ?_ (by simp; omega), hs⟩
    rw [World.cell?_alloc_at _ _ _ _ rfl, Array.getElem?_eq_getElem hj, hv]
  have gg := grown_alloc_first g1
  clear g1
  go_wp2
  go_ret
  exact ⟨s, rfl, hs, c1, gg⟩

theorem lits_names : okLits #[.string ⟨#[97]⟩, .string ⟨#[98]⟩, .string ⟨#[99]⟩, .string ⟨#[100, 49]⟩, .string ⟨#[115, 117, 98]⟩] := by
  intro v hv
  simp at hv
  rcases hv with rfl | rfl | rfl | rfl | rfl <;> exact ⟨_, rfl, by decide⟩

set_option maxHeartbeats 400000 in
theorem nameC_any (w : World) (c : Cur N a len cap zs B w) :
    Calls Try.prog 40 #[.pointer (some ⟨B, 0, none⟩)] w fun e w' => ∃ s : ByteArray, e = .returned (.string s) ∧ s.size ≤ 100 ∧ Cur N a len cap zs B w' ∧ w.grownBy w' (some B) := by
  have C := Hid.intro c
  clear c
  go_enter Try.func40, Try.ntmps40
  go_wp2_with fail
  refine (pickC_any 5 _ w C.out lits_names rfl (by omega) (by omega)).mono ?_
  rintro e w1 ⟨s, rfl, hs, c1, g1⟩
  go_wp2
  go_ret
  exact ⟨s, rfl, hs, c1, g1⟩
end

end Go.Proofs.Ytmkofkdcjeidhaa
