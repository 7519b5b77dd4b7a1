/- Contracts of May and MayTake, both sides. -/
import Derived.Test.YtmkegmndcbpblaaGreatDoorPLeaf
import Derived.Test.YtmkegmndcbpblaaGreatDoorPBits
namespace Go.Proofs.YtmkegmndcbpblaaGreatDoor
open Go.RowKit
set_option linter.unusedVariables false
theorem runs_any (m : Int) (w : World) : Calls Tryz.prog 83 #[.int .i64 m] w fun e w' => e = .returned (.bool (bits .and .i64 m 73 != 0)) ∧ w = w' := by
 go_enter Tryz.func83, Tryz.ntmps83
 go_wp2
 go_ret
 exact ⟨rfl, rfl⟩
theorem gives_any (m f want : Int) (hf : f = 1 ∨ f = 8 ∨ f = 64) (h0 : 0 ≤ want) (h7 : want ≤ 7) (w : World) : Calls Tryz.prog 84 #[.int .i64 m, .int .i64 f, .int .i64 want] w fun e w' => e = .returned (.bool (bitB f m want)) ∧ w = w' := by
 rcases hf with rfl | rfl | rfl
 all_goals
  go_enter Tryz.func84, Tryz.ntmps84
  go_wp2
  go_ret
  exact ⟨by simp [bitB], rfl⟩
set_option maxHeartbeats 1000000 in
theorem from_any (c : Cr) (v u : Value) (n : Nd) (N : Nat) (w : World) (hN : N ≤ w.heap.size) (hr : Row intE w N v c.l) (hc : credB c = true) :
  Calls Tryz.prog 85 #[crV c v, ndV n u] w fun e w' => e = .returned (.int .i64 (fromB c n.uid n.gid)) ∧ Below w.heap.size w w' := by
 obtain ⟨a, cap, rfl, hl, hm⟩ := hr.slice
 have HR := Hid.intro hr
 clear hr
 by_cases h1 : c.u = n.uid
 ·have hb : (c.u == n.uid) = true := by simpa using h1
  go_enter Tryz.func85, Tryz.ntmps85
  go_wp2
  go_ret
  exact ⟨by simp [fromB, h1], two_below _ _ _⟩
 ·have hb : (c.u == n.uid) = false := by simpa using h1
  go_enter Tryz.func85, Tryz.ntmps85
  go_wp2_with fail
  obtain ⟨W, hW, bW, zW, c1, f1, c2, f2⟩ := boxed2 w #[.int .i64 c.u, .int .i64 c.g, .slice a c.l.length cap] (ndA n u) 37 64
  try simp only [hW]
  refine (implIn_any c _ _ N W (by omega) (HR.out.kept (bW.mono hN))).mono ?_
  rintro e w1 ⟨rfl, b1⟩
  have B1 := bW.trans (b1.mono (by omega))
  clear hW bW b1 c1 c2 f1 f2
  cases hg : inGB c n.gid with
  | true =>
   go_wp2
   go_ret
   exact ⟨by simp [fromB, h1, hg], B1⟩
  | false =>
   go_wp2
   go_ret
   exact ⟨by simp [fromB, h1, hg], B1⟩
end Go.Proofs.YtmkegmndcbpblaaGreatDoor
