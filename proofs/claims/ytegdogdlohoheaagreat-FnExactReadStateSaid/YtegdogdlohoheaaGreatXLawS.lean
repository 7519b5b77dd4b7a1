/- The laws' helpers over rows of sessions: how great, copies, equal. -/
import Derived.Test.YtegdogdlohoheaaGreatXSes
import Derived.Test.YtegdogdlohoheaaGreatTLawRes
import Derived.Test.YtegdogdlohoheaaGreatVLawA
import Derived.Deep.RegionWith
import Derived.OwnWalk
import Derived.RegionTactic
import Derived.ChangeAlike
namespace Go.Proofs.YtegdogdlohoheaaGreat
open Go.RowKit
set_option linter.unusedVariables false
theorem infoSe1 : (Tryz.prog.info? 61).map (fun i => (i.zero, i.size, i.bytes)) = some (some (.agg #[.int .i64 0, .int .i64 0, .int .i64 0, .int .i64 0, .string ⟨#[]⟩]), 5, 48) := by kernel_rfl
theorem infoSe : ∃ i, Tryz.prog.info? 61 = some i ∧ i.zero = some (.agg #[.int .i64 0, .int .i64 0, .int .i64 0, .int .i64 0, .string ⟨#[]⟩]) ∧ i.size = 5 ∧ i.bytes = 48 := info_parts infoSe1
set_option maxHeartbeats 1000000 in
theorem eqResult_same (r : Re) (w : World) :
  Calls Tryz.prog 71 #[reV r, reV r] w fun e w' => e = .returned (.bool true) ∧ Below w.heap.size w w' := by
 go_enter Tryz.func71, Tryz.ntmps71
 go_wp2
 go_ret
 exact ⟨rfl, two_below _ _ _⟩
set_option maxHeartbeats 1000000 in
theorem eqSession_any (d : Se) (w : World) :
  Calls Tryz.prog 57 #[seV d, seV d] w fun e w' => e = .returned (.bool true) ∧ Below w.heap.size w w' := by
 go_enter Tryz.func57, Tryz.ntmps57
 go_wp2_with fail
 obtain ⟨W, hW, bW, zW, c1, f1, c2, f2⟩ := boxed2 w (seA d) (seA d) 61 61
 try simp only [hW]
 refine (eqResult_same d.r W).mono ?_
 rintro e w1 ⟨rfl, b1⟩
 have HB := Hid.intro (bW.trans (b1.mono (by omega)))
 clear hW bW b1 f1 f2 c1 c2
 go_wp2
 go_ret
 exact ⟨rfl, HB.out⟩
set_option maxRecDepth 100000 in
set_option maxHeartbeats 2000000 in
theorem eqSessionS_any (L : List Se) (v1 v2 : Value) (N : Nat) (w : World) (hN : N ≤ w.heap.size) (h1 : Row seE w N v1 L) (h2 : Row seE w N v2 L) :
  Calls Tryz.prog 34 #[v1, v2] w fun e w' => e = .returned (.bool true) ∧ Below w.heap.size w w' := by
 obtain ⟨a1, cap1, rfl, l1, m1, hc1⟩ := seE_cell h1
 obtain ⟨a2, cap2, rfl, l2, m2, hc2⟩ := seE_cell h2
 have H1 := Hid.intro hc1
 have H2 := Hid.intro hc2
 clear hc1 hc2 h1 h2
 go_enter Tryz.func34, Tryz.ntmps34
 go_wp2
 go_loopw [5] (fun i wr => ∃ (j : Nat), i = .int .i64 j ∧ j ≤ L.length ∧ Below w.heap.size w wr) (fun i _ => L.length - (intOf i).toNat)
 case atStart => exact ⟨0, rfl, Nat.zero_le _, Below.refl _ _⟩
 case round =>
  obtain ⟨j, rfl, hj, hbel⟩ := hrel
  by_cases hlt : j < L.length
  ·have hne : L ≠ [] := by intro h; rw [h] at hlt; simp at hlt
   obtain ⟨b1, o1, rfl, hb1, cc1⟩ := H1.out hne
   obtain ⟨b2, o2, rfl, hb2, cc2⟩ := H2.out hne
   obtain ⟨p0, p1, p2, p3, p4⟩ := cc1 j hlt
   obtain ⟨q0, q1, q2, q3, q4⟩ := cc2 j hlt
   generalize L[j] = ej at p0 p1 p2 p3 p4 q0 q1 q2 q3 q4
   have hs := hbel.size
   have HC : Hid (∀ w', Below wr.heap.size wr w' → Below w.heap.size w w') := fun w' hb => hbel.trans (hb.mono hs)
   have hp0 := atCell hbel p0 (by omega)
   have hp1 := atCell hbel p1 (by omega)
   have hp2 := atCell hbel p2 (by omega)
   have hp3 := atCell hbel p3 (by omega)
   have hp4 := atCell hbel p4 (by omega)
   have hq0 := atCell hbel q0 (by omega)
   have hq1 := atCell hbel q1 (by omega)
   have hq2 := atCell hbel q2 (by omega)
   have hq3 := atCell hbel q3 (by omega)
   have hq4 := atCell hbel q4 (by omega)
   have i1 : (0 : Int) ≤ (j : Int) ∧ (j : Int) < (L.length : Int) := by omega
   have HJ : Hid (j < L.length) := hlt
   have hjl : (j : Int) < (L.length : Int) := by omega
   clear cc1 cc2 p0 p1 p2 p3 p4 q0 q1 q2 q3 q4 hne
   go_wp2
   go_region_with (go_at_call 57; refine (eqSession_any _ _).mono ?_; rintro e w2 ⟨rfl, b2⟩; have B2 := HC.out w2 (by first | exact b2 | exact ((Below.refl _ _).drew).trans b2 | exact ((Below.refl _ _).drew.drew).trans b2); clear b2)
   all_goals
    clear HC
    go_wp2
    go_roundw
    case rel => exact ⟨j + 1, by go_num, by omega, B2⟩
    case measure => simp [intOf]; omega
  ·obtain rfl : j = L.length := by omega
   go_wp2
   go_ret
   exact ⟨rfl, hbel⟩
end Go.Proofs.YtegdogdlohoheaaGreat
