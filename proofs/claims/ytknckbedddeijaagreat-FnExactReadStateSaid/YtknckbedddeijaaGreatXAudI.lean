/- The program's AuditOk. -/
import Derived.Test.YtknckbedddeijaaGreatXLawN
import Derived.OwnWalk
import Derived.Deep.CutRange
import Derived.Deep.CutBlock
namespace Go.Proofs.YtknckbedddeijaaGreat
open Go.RowKit
set_option linter.unusedVariables false
set_option maxRecDepth 100000 in
set_option maxHeartbeats 4000000 in
theorem noteOk_any (x : Nt) (w : World) :
  Calls Tryz.prog 68 #[ntV x] w fun e w' => e = .returned (.bool (noteB x)) ∧ Below w.heap.size w w' := by
 cases hb1 : inB x.c 1 3 with
 | false =>
  have hB : noteB x = false := by simp [noteB, hb1]
  rw [hB]
  clear hB
  go_enter Tryz.func68, Tryz.ntmps68
  go_wp2_with (go_at_call 52; refine (within_any _ _ _ _).mono ?_; rintro e w9 ⟨rfl, rfl⟩; simp only [hb1])
  go_ret
  exact ⟨rfl, one_below _ _⟩
 | true =>
  cases hb2 : inB x.s 1 1000000 with
  | false =>
   have hB : noteB x = false := by simp [noteB, hb1, hb2]
   rw [hB]
   clear hB
   go_enter Tryz.func68, Tryz.ntmps68
   go_wp2_with (go_at_call 52; refine (within_any _ _ _ _).mono ?_; rintro e w9 ⟨rfl, rfl⟩; simp only [hb1, hb2])
   go_ret
   exact ⟨rfl, one_below _ _⟩
  | true =>
   cases hb3 : inB x.k 1 22 with
   | false =>
    have hB : noteB x = false := by simp [noteB, hb1, hb2, hb3]
    rw [hB]
    clear hB
    go_enter Tryz.func68, Tryz.ntmps68
    go_wp2_with (go_at_call 52; refine (within_any _ _ _ _).mono ?_; rintro e w9 ⟨rfl, rfl⟩; simp only [hb1, hb2, hb3])
    go_ret
    exact ⟨rfl, one_below _ _⟩
   | true =>
    cases hb4 : inB x.d 0 200 with
    | false =>
     have hB : noteB x = false := by simp [noteB, hb1, hb2, hb3, hb4]
     rw [hB]
     clear hB
     go_enter Tryz.func68, Tryz.ntmps68
     go_wp2_with (go_at_call 52; refine (within_any _ _ _ _).mono ?_; rintro e w9 ⟨rfl, rfl⟩; simp only [hb1, hb2, hb3, hb4])
     go_ret
     exact ⟨rfl, one_below _ _⟩
    | true =>
     have hB : noteB x = true := by simp [noteB, hb1, hb2, hb3, hb4]
     rw [hB]
     clear hB
     go_enter Tryz.func68, Tryz.ntmps68
     go_wp2_with (go_at_call 52; refine (within_any _ _ _ _).mono ?_; rintro e w9 ⟨rfl, rfl⟩; simp only [hb1, hb2, hb3, hb4])
     go_ret
     exact ⟨rfl, one_below _ _⟩
set_option maxRecDepth 100000 in
set_option maxHeartbeats 4000000 in
theorem implAuditOk_any (L : List Nt) (v : Value) (N : Nat) (w : World) (hN : N ≤ w.heap.size) (hr : Row ntE w N v L) :
  Calls Tryz.prog 53 #[v] w fun e w' => e = .returned (.bool (auditB L)) ∧ Below w.heap.size w w' := by
 obtain ⟨a, cap, rfl, hl, hm, hcells⟩ := ntE_cell hr
 have HC := Hid.intro hcells
 clear hcells hr
 by_cases h20 : L.length ≤ 20
 ·have h20' : ¬ (20 : Int) < (L.length : Int) := by omega
  have HA : Hid (auditB L = auditFrom 1 (L.drop 0)) := auditB_from h20
  clear h20
  go_enter Tryz.func53, Tryz.ntmps53
  go_wp2_with fail
  go_loopw [3, 11] (fun m i wr => ∃ (j : Nat) (M : Int), i = .int .i64 j ∧ m = .int .i64 M ∧ j ≤ L.length ∧ Hid (auditB L = auditFrom M (L.drop j)) ∧ Hid (Below w.heap.size w wr)) (fun _ i _ => L.length - (intOf i).toNat)
  case atStart => exact ⟨0, 1, rfl, rfl, Nat.zero_le _, HA, Below.refl _ _⟩
  case round =>
   obtain ⟨j, M, rfl, rfl, hj, HJ, HBW⟩ := hrel
   have hzr := HBW.out.size
   by_cases hlt : j < L.length
   ·obtain ⟨b2, o2, rfl, hb2, hdd⟩ := HC.out (by intro h; rw [h] at hlt; simp at hlt)
    obtain ⟨d0, d1, d2, d3, d4⟩ := hdd j hlt
    have hst := HJ.out.trans (auditFrom_drop M L j hlt)
    generalize L[j] = x at d0 d1 d2 d3 d4 hst
    replace d0 := atCell HBW.out d0 (by omega)
    replace d1 := atCell HBW.out d1 (by omega)
    replace d2 := atCell HBW.out d2 (by omega)
    replace d3 := atCell HBW.out d3 (by omega)
    replace d4 := atCell HBW.out d4 (by omega)
    have hjl : (j : Int) < (L.length : Int) := by omega
    have i1 : (0 : Int) ≤ (j : Int) ∧ (j : Int) < (L.length : Int) := by omega
    have HST := Hid.intro hst
    clear hst hdd HJ
    go_upto_region 7 with fail
    obtain ⟨X, hX, bX, zX, cX, fX⟩ := boxed wr (ntA x) 55
    simp only [hX]
    have HBX : Hid (Below w.heap.size w X) := HBW.out.trans (bX.mono hzr)
    clear hX fX d0 d1 d2 d3 d4 bX
    cases hb0 : inB x.i M 100000 with
    | false =>
     have HFF : Hid (auditB L = false) := by unfold Hid; rw [HST.out, hb0]; rfl
     go_wp2_with (go_at_call 52; refine (within_any _ _ _ _).mono ?_; rintro e w9 ⟨rfl, rfl⟩; simp only [hb0])
     go_ret
     exact ⟨ret_bool HFF.out.symm, HBX.out⟩
    | true =>
     go_wp2_with (first | (go_at_call 52; refine (within_any _ _ _ _).mono ?_; rintro e w9 ⟨rfl, rfl⟩; simp only [hb0]) | fail)
     refine (noteOk_any x _).mono ?_
     rintro e w9 ⟨rfl, b9⟩
     have c9 := keepC b9 (by omega) cX
     have HBY : Hid (Below w.heap.size w w9) := HBX.out.trans (b9.mono (by omega))
     clear b9 cX
     cases hb1 : noteB x with
     | false =>
      have HFF : Hid (auditB L = false) := by unfold Hid; rw [HST.out, hb0, hb1]; rfl
      go_wp2_with fail
      go_ret
      exact ⟨ret_bool HFF.out.symm, HBY.out⟩
     | true =>
      have HFF : Hid (auditB L = auditFrom x.i (L.drop (j + 1))) := by unfold Hid; rw [HST.out, hb0, hb1]; rfl
      go_wp2_with fail
      go_roundw
      case rel => exact ⟨j + 1, x.i, by go_num, rfl, by omega, HFF, HBY⟩
      case measure => simp [intOf]; omega
   ·obtain rfl : j = L.length := by omega
    have HFF : Hid (auditB L = true) := by unfold Hid; rw [HJ.out, auditFrom_end]
    go_wp2_with fail
    go_ret
    exact ⟨ret_bool HFF.out.symm, HBW.out⟩
 ·have h20' : (20 : Int) < (L.length : Int) := by omega
  have hA := auditB_long h20
  go_enter Tryz.func53, Tryz.ntmps53
  go_wp2
  go_ret
  first | exact ⟨rfl, Below.refl _ _⟩ | exact ⟨ret_bool hA.symm, Below.refl _ _⟩
end Go.Proofs.YtknckbedddeijaaGreat
