/- What a piece holds, which has to end there: a result. -/
import Derived.Test.YtegdogdlohoheaaGreatXInsV
import Derived.Test.YtegdogdlohoheaaGreatXCurR
namespace Go.Proofs.YtegdogdlohoheaaGreat
open Go.RowKit
set_option linter.unusedVariables false
/-- A piece at the front that is a result and no more (its text is all the rest), and what is left behind it. -/
noncomputable def insRO (l : List UInt8) : Option ((Nat × List UInt8) × List UInt8) :=
 (pieO l).bind fun p => (numO p.1).bind fun v => some (v, p.2)
def InsR (b : Nat) (q : ByteArray) (w : World) (e : Ending) (w' : World) : Prop :=
 (∃ (x : Nat) (d q' : ByteArray), e = .returned (reV ⟨x, d⟩) ∧ Hid (insRO q.data.toList = some ((x, d.data.toList), q'.data.toList)) ∧ CurAt w' b q' ∧ q'.size ≤ 1048576 ∧ Only (fun k => k = b) w w') ∨ (Lack e ∧ Hid (insRO q.data.toList = none) ∧ Only (fun k => k = b) w w')
set_option maxRecDepth 100000 in
set_option maxHeartbeats 4000000 in
theorem insR_any (b : Nat) (q0 : ByteArray) (w : World) (hc : CurAt w b q0) (s0 : q0.size ≤ 1048576) :
  Calls Tryz.prog 65 #[.pointer (some ⟨b, 0, none⟩), .func (Fn.func 66) #[] #[]] w (InsR b q0 w) := by
 have hlt := hc.lt
 go_enter Tryz.func65, Tryz.ntmps65
 go_wp2_with fail
 obtain ⟨W0, hW, bW, zW, cW, fW⟩ := boxed w #[.int .i64 0, .string ⟨#[]⟩] 57
 simp only [hW]
 have c0 : CurAt W0 b q0 := hc.kept bW
 have b0 : Only (fun k => k = b) w W0 := ob_any bW
 have X0 : Hid (Blk W0 w.heap.size #[.int .i64 0, .string ⟨#[]⟩]) := ⟨by omega, cW, fW⟩
 have hne : ¬ w.heap.size = b := by omega
 clear hW bW zW cW fW hc
 refine (pieceC_any b q0 W0 c0 s0).mono ?_
 rintro e w1 (⟨p, q1, rfl, hp, c1, s1, o1⟩ | ⟨⟨pv, rfl⟩, hp, o1⟩)
 rotate_left 1
 ·have HP : Hid (insRO q0.data.toList = none) := by unfold Hid; simp only [insRO, hp.out, Option.bind_none]
  have HB := Hid.intro (b0.trans o1)
  clear hp o1 X0
  go_wp2
  exact ⟨rfl, .inr ⟨⟨_, rfl⟩, HP, HB.out⟩⟩
 have sp : p.size ≤ 1048576 := pie_sz hp.out s0
 have b1 := Hid.intro (b0.trans o1)
 have X1 := Hid.intro (X0.out.only o1 hne)
 have hb1 := c1.lt
 have hx1 := X1.out.hi
 clear o1 b0 X0 c0
 go_wp2_with fail
 obtain ⟨W2, hW, bW, zW, cW, fW⟩ := boxed w1 #[.string p] 66
 simp only [hW]
 have d0 : CurAt W2 w1.heap.size p := ⟨by omega, cW 0, fW 0⟩
 have c2 : CurAt W2 b q1 := c1.kept bW
 have b2 := Hid.intro (b1.out.trans (Below.any bW))
 have X2 := Hid.intro (X1.out.kept bW)
 have hle2 : w1.heap.size ≤ W2.heap.size := bW.size
 clear hW bW zW cW fW c1 b1 X1
 refine (resC_any w1.heap.size p W2 d0 sp).mono ?_
 rintro e w3 (⟨nx, d, q2, rfl, hv, hz, d3, o3⟩ | ⟨⟨pv, rfl⟩, hv, o3⟩)
 rotate_left 1
 ·have HP : Hid (insRO q0.data.toList = none) := by unfold Hid; simp only [insRO, hp.out, hv.out, Option.bind_some, Option.bind_none]
  have HB : Hid (Only (fun k => k = b) w w3) := b2.out.then o3 (fun k hk e => by omega)
  clear hp hv o3 X2
  go_wp2
  exact ⟨rfl, .inr ⟨⟨_, rfl⟩, HP, HB.out⟩⟩
 have c3 : CurAt w3 b q1 := c2.only o3 (by omega)
 have b3 : Hid (Only (fun k => k = b) w w3) := b2.out.then o3 (fun k hk e => by omega)
 have X3 := Hid.intro (X2.out.only o3 (by omega))
 have k0 : w3.cell? ⟨w1.heap.size, 0, none⟩ = some (.string q2) := d3.cell
 have s3 := o3.size
 have hd3 := d3.lt
 have hx30 := X3.out.hi
 clear d0 c2 b2 X2 o3
 have y1 := bs_mtI hz
 have HP : Hid (insRO q0.data.toList = some ((nx, d.data.toList), q1.data.toList)) := by
  unfold Hid
  simp only [insRO, hp.out, hv.out, Option.bind_some]
 have r0 : w3.cell? ⟨w.heap.size, 0, none⟩ = some (.int .i64 0) := X3.out.cell 0
 have r1 : w3.cell? ⟨w.heap.size, 1, none⟩ = some (.string ⟨#[]⟩) := X3.out.cell 1
 have f0 : w3.frozen? ⟨w.heap.size, 0, none⟩ = false := X3.out.fro 0
 have f1 : w3.frozen? ⟨w.heap.size, 1, none⟩ = false := X3.out.fro 1
 have OE : Hid (∀ Z, Only (fun k => k = w.heap.size) w3 Z → CurAt Z b q1 ∧ Only (fun k => k = b) w Z) := fun Z hZ => ⟨c3.only hZ (by omega), b3.out.then hZ (fun k hk e => by omega)⟩
 clear X3 hp hv d3
 go_wp2
 have OQ : Only (fun k => k = w.heap.size) w3 (((w3.setCell ⟨w.heap.size, 0, none⟩ (.int .i64 (nx : Nat))).setCell ⟨w.heap.size, 1, none⟩ (.string d)).alloc (.cells #[.int .i64 (nx : Nat), .string d] 57)) :=
  (((Only.refl (fun k => k = w.heap.size) w3).setCell (p := ⟨w.heap.size, 0, none⟩) rfl _).setCell (p := ⟨w.heap.size, 1, none⟩) rfl _).trans (Below.any (one_below _ _))
 have h3 := OE.out _ OQ
 refine bodyPost_ret (v := reV ⟨(nx : Nat), d⟩) ?_ rfl (Or.inl ⟨nx, d, q1, rfl, HP, h3.1, s1, h3.2⟩)
 simp [results, Tryz.results65, go_sem, r0, r1, hx30]
end Go.Proofs.YtegdogdlohoheaaGreat
