/- The laws' helpers over creds and inodes: how great, copies, equal. -/
import Derived.Test.YtegdogdlohoheaaGreatVLawA
namespace Go.Proofs.YtegdogdlohoheaaGreat
open Go.RowKit
set_option linter.unusedVariables false
theorem New.slice {α : Type} {E : Enc α} {T : TypeId} {w w' : World} {v : Value} {L : List α} (h : New E T w w' v L) : ∃ a cap, v = .slice a L.length cap := h.own.slice
set_option maxHeartbeats 2000000 in
theorem eqInode_any (n : Nd) (v1 v2 : Value) (N : Nat) (w : World) (hN : N ≤ w.heap.size) (h1 : Row diE w N v1 n.names) (h2 : Row diE w N v2 n.names) :
    Calls Tryz.prog 70 #[ndV n v1, ndV n v2] w fun e w' => e = .returned (.bool true) ∧ Below w.heap.size w w' := by
  have H1 := Hid.intro h1
  have H2 := Hid.intro h2
  clear h1 h2
  go_enter Tryz.func70, Tryz.ntmps70
  go_wp2_with fail
  obtain ⟨W, hW, bW, zW, c1, f1, c2, f2⟩ := boxed2 w (ndA n v1) (ndA n v2) 76 76
  try simp only [hW]
  refine (eqDirentS_any n.names v1 v2 N W (by omega) (H1.out.kept (bW.mono hN)) (H2.out.kept (bW.mono hN))).mono ?_
  rintro e w1 ⟨rfl, b1⟩
  replace c1 := keepC b1 (by omega) c1
  replace c2 := keepC b1 (by omega) c2
  have HB := Hid.intro (bW.trans (b1.mono (by omega)))
  clear hW bW b1 f1 f2
  go_wp2
  go_ret
  exact ⟨rfl, HB.out⟩
end Go.Proofs.YtegdogdlohoheaaGreat
