/- codeOf: the code of each of the package's errors. -/
import Derived.Test.YtmkegmndcbpblaaGreatDoorWIs
namespace Go.Proofs.YtmkegmndcbpblaaGreatDoor
open Go.RowKit
set_option linter.unusedVariables false
set_option maxRecDepth 100000 in
set_option maxHeartbeats 8000000 in
theorem codeOf_any (E : Nat → Addr) (code : Int) (hc : code = 0 ∨ code = 13 ∨ code = 40 ∨ code = 2 ∨ code = 20 ∨ code = 36 ∨ code = 22) (w : World) (h : ErrW w E) : Calls Tryz.prog 22 #[erV E code] w fun e w' => e = .returned (.int .i64 code) ∧ w' = w := by
 have v0 := h.var 0 (by decide)
 obtain ⟨c0, t0, b0⟩ := h.box 0 (by decide)
 have v1 := h.var 1 (by decide)
 obtain ⟨c1, t1, b1⟩ := h.box 1 (by decide)
 have v2 := h.var 2 (by decide)
 obtain ⟨c2, t2, b2⟩ := h.box 2 (by decide)
 have v3 := h.var 3 (by decide)
 obtain ⟨c3, t3, b3⟩ := h.box 3 (by decide)
 have v4 := h.var 4 (by decide)
 obtain ⟨c4, t4, b4⟩ := h.box 4 (by decide)
 have v5 := h.var 5 (by decide)
 obtain ⟨c5, t5, b5⟩ := h.box 5 (by decide)
 have HT := Hid.intro h.two
 clear h
 rcases hc with rfl | rfl | rfl | rfl | rfl | rfl | rfl
 ·have hv : erV E 0 = .nilIface := rfl
  rw [hv]
  go_enter Tryz.func22, Tryz.ntmps22
  go_wp2_with fail
  go_ret
  exact ⟨rfl, rfl⟩
 ·have hv : erV E 13 = .iface 135 (.pointer (some (E 1))) := rfl
  rw [hv]
  go_enter Tryz.func22, Tryz.ntmps22
  go_wp2_with fail
  refine (isSame_any (E 1) _).mono ?_
  rintro e w1 ⟨rfl, rfl⟩
  go_wp2_with fail
  go_ret
  exact ⟨rfl, rfl⟩
 ·have hv : erV E 40 = .iface 135 (.pointer (some (E 2))) := rfl
  rw [hv]
  go_enter Tryz.func22, Tryz.ntmps22
  go_wp2_with fail
  refine (isOther_any (E 2) (E 1) c2 c1 t2 t1 _ (HT.out 2 (by decide) 1 (by decide) (by decide)) b2 b1).mono ?_
  rintro e w1 ⟨rfl, rfl⟩
  go_wp2_with fail
  refine (isSame_any (E 2) _).mono ?_
  rintro e w1 ⟨rfl, rfl⟩
  go_wp2_with fail
  go_ret
  exact ⟨rfl, rfl⟩
 ·have hv : erV E 2 = .iface 135 (.pointer (some (E 3))) := rfl
  rw [hv]
  go_enter Tryz.func22, Tryz.ntmps22
  go_wp2_with fail
  refine (isOther_any (E 3) (E 1) c3 c1 t3 t1 _ (HT.out 3 (by decide) 1 (by decide) (by decide)) b3 b1).mono ?_
  rintro e w1 ⟨rfl, rfl⟩
  go_wp2_with fail
  refine (isOther_any (E 3) (E 2) c3 c2 t3 t2 _ (HT.out 3 (by decide) 2 (by decide) (by decide)) b3 b2).mono ?_
  rintro e w1 ⟨rfl, rfl⟩
  go_wp2_with fail
  refine (isSame_any (E 3) _).mono ?_
  rintro e w1 ⟨rfl, rfl⟩
  go_wp2_with fail
  go_ret
  exact ⟨rfl, rfl⟩
 ·have hv : erV E 20 = .iface 135 (.pointer (some (E 4))) := rfl
  rw [hv]
  go_enter Tryz.func22, Tryz.ntmps22
  go_wp2_with fail
  refine (isOther_any (E 4) (E 1) c4 c1 t4 t1 _ (HT.out 4 (by decide) 1 (by decide) (by decide)) b4 b1).mono ?_
  rintro e w1 ⟨rfl, rfl⟩
  go_wp2_with fail
  refine (isOther_any (E 4) (E 2) c4 c2 t4 t2 _ (HT.out 4 (by decide) 2 (by decide) (by decide)) b4 b2).mono ?_
  rintro e w1 ⟨rfl, rfl⟩
  go_wp2_with fail
  refine (isOther_any (E 4) (E 3) c4 c3 t4 t3 _ (HT.out 4 (by decide) 3 (by decide) (by decide)) b4 b3).mono ?_
  rintro e w1 ⟨rfl, rfl⟩
  go_wp2_with fail
  refine (isSame_any (E 4) _).mono ?_
  rintro e w1 ⟨rfl, rfl⟩
  go_wp2_with fail
  go_ret
  exact ⟨rfl, rfl⟩
 ·have hv : erV E 36 = .iface 135 (.pointer (some (E 5))) := rfl
  rw [hv]
  go_enter Tryz.func22, Tryz.ntmps22
  go_wp2_with fail
  refine (isOther_any (E 5) (E 1) c5 c1 t5 t1 _ (HT.out 5 (by decide) 1 (by decide) (by decide)) b5 b1).mono ?_
  rintro e w1 ⟨rfl, rfl⟩
  go_wp2_with fail
  refine (isOther_any (E 5) (E 2) c5 c2 t5 t2 _ (HT.out 5 (by decide) 2 (by decide) (by decide)) b5 b2).mono ?_
  rintro e w1 ⟨rfl, rfl⟩
  go_wp2_with fail
  refine (isOther_any (E 5) (E 3) c5 c3 t5 t3 _ (HT.out 5 (by decide) 3 (by decide) (by decide)) b5 b3).mono ?_
  rintro e w1 ⟨rfl, rfl⟩
  go_wp2_with fail
  refine (isOther_any (E 5) (E 4) c5 c4 t5 t4 _ (HT.out 5 (by decide) 4 (by decide) (by decide)) b5 b4).mono ?_
  rintro e w1 ⟨rfl, rfl⟩
  go_wp2_with fail
  refine (isSame_any (E 5) _).mono ?_
  rintro e w1 ⟨rfl, rfl⟩
  go_wp2_with fail
  go_ret
  exact ⟨rfl, rfl⟩
 ·have hv : erV E 22 = .iface 135 (.pointer (some (E 0))) := rfl
  rw [hv]
  go_enter Tryz.func22, Tryz.ntmps22
  go_wp2_with fail
  refine (isOther_any (E 0) (E 1) c0 c1 t0 t1 _ (HT.out 0 (by decide) 1 (by decide) (by decide)) b0 b1).mono ?_
  rintro e w1 ⟨rfl, rfl⟩
  go_wp2_with fail
  refine (isOther_any (E 0) (E 2) c0 c2 t0 t2 _ (HT.out 0 (by decide) 2 (by decide) (by decide)) b0 b2).mono ?_
  rintro e w1 ⟨rfl, rfl⟩
  go_wp2_with fail
  refine (isOther_any (E 0) (E 3) c0 c3 t0 t3 _ (HT.out 0 (by decide) 3 (by decide) (by decide)) b0 b3).mono ?_
  rintro e w1 ⟨rfl, rfl⟩
  go_wp2_with fail
  refine (isOther_any (E 0) (E 4) c0 c4 t0 t4 _ (HT.out 0 (by decide) 4 (by decide) (by decide)) b0 b4).mono ?_
  rintro e w1 ⟨rfl, rfl⟩
  go_wp2_with fail
  refine (isOther_any (E 0) (E 5) c0 c5 t0 t5 _ (HT.out 0 (by decide) 5 (by decide) (by decide)) b0 b5).mono ?_
  rintro e w1 ⟨rfl, rfl⟩
  go_wp2_with fail
  go_ret
  exact ⟨rfl, rfl⟩
end Go.Proofs.YtmkegmndcbpblaaGreatDoor
