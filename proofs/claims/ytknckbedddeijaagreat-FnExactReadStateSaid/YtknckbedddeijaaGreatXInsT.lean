/- inside[Tenant]. -/
import Derived.Test.YtknckbedddeijaaGreatXWholeT
import Derived.Test.YtknckbedddeijaaGreatXLawN
namespace Go.Proofs.YtknckbedddeijaaGreat
open Go.RowKit
set_option linter.unusedVariables false
/-- A piece at the front that is a tenant and no more, and what is left behind it. -/
noncomputable def insTO (l : List UInt8) : Option ((Int × List Nd × Int × List Nt × List Se) × List UInt8) :=
 (pieO l).bind fun p => (tenO p.1).bind fun v => if v.2 = [] then some (v.1, p.2) else none
def InsT (b : Nat) (q : ByteArray) (w : World) (e : Ending) (w' : World) : Prop :=
 (∃ (t : Ten) (g3 : Nat) (q' : ByteArray), e = .returned t.v ∧ Hid (insTO q.data.toList = some (t.key, q'.data.toList)) ∧ CurAt w' b q' ∧ q'.size ≤ 1048576 ∧ Hid (TnO w' w.heap.size g3 t ∧ TenW t) ∧ Only (fun k => k = b) w w') ∨ (Lack e ∧ Hid (insTO q.data.toList = none) ∧ Only (fun k => k = b) w w')
set_option maxRecDepth 100000 in
set_option maxHeartbeats 4000000 in
theorem insT_any (b : Nat) (q0 : ByteArray) (w : World) (hc : CurAt w b q0) (s0 : q0.size ≤ 1048576) :
  Calls Tryz.prog 29 #[.pointer (some ⟨b, 0, none⟩), .func (Fn.func 30) #[] #[]] w (InsT b q0 w) := by
 have hlt := hc.lt
 go_enter Tryz.func29, Tryz.ntmps29
 go_wp2_with fail
 obtain ⟨W0, hW, bW, zW, cW, fW⟩ := boxed w #[.int .i64 0, .slice none 0 0, .int .i64 0, .slice none 0 0, .slice none 0 0] 36
 simp only [hW]
 have c0 : CurAt W0 b q0 := hc.kept bW
 have b0 : Only (fun k => k = b) w W0 := ob_any bW
 have X0 : Hid (Blk W0 w.heap.size #[.int .i64 0, .slice none 0 0, .int .i64 0, .slice none 0 0, .slice none 0 0]) := ⟨by omega, cW, fW⟩
 have hne : ¬ w.heap.size = b := by omega
 clear hW bW zW cW fW hc
 refine (pieceC_any b q0 W0 c0 s0).mono ?_
 rintro e w1 (⟨p, q1, rfl, hp, c1, s1, o1⟩ | ⟨⟨pv, rfl⟩, hp, o1⟩)
 rotate_left 1
 ·have HP : Hid (insTO q0.data.toList = none) := by unfold Hid; simp only [insTO, hp.out, Option.bind_none]
  have HB := Hid.intro (b0.trans o1)
  clear hp o1 X0
  go_wp2
  exact ⟨rfl, .inr ⟨⟨_, rfl⟩, HP, HB.out⟩⟩
 have sp : p.size ≤ 1048576 := pie_sz hp.out s0
 have b1 := Hid.intro (b0.trans o1)
 have X1 := Hid.intro (X0.out.only o1 hne)
 have hb1 := c1.lt
 have hx1 := X1.out.hi
 clear o1 b0 X0 c0
 go_wp2_with fail
 obtain ⟨W2, hW, bW, zW, cW, fW⟩ := boxed w1 #[.string p] 66
 simp only [hW]
 have d0 : CurAt W2 w1.heap.size p := ⟨by omega, cW 0, fW 0⟩
 have c2 : CurAt W2 b q1 := c1.kept bW
 have b2 := Hid.intro (b1.out.trans (Below.any bW))
 have X2 := Hid.intro (X1.out.kept bW)
 have hle2 : w1.heap.size ≤ W2.heap.size := bW.size
 clear hW bW zW cW fW c1 b1 X1
 refine (tenantC_any w1.heap.size p W2 d0 sp).mono ?_
 rintro e w3 (⟨t, g3, q2, rfl, hv, d3, s2, hm1, hm2, o3⟩ | ⟨⟨pv, rfl⟩, hv, o3⟩)
 rotate_left 1
 ·have HP : Hid (insTO q0.data.toList = none) := by unfold Hid; simp only [insTO, hp.out, hv.out, Option.bind_some, Option.bind_none]
  have HB : Hid (Only (fun k => k = b) w w3) := b2.out.then o3 (fun k hk e => by omega)
  clear hp hv o3 X2
  go_wp2
  exact ⟨rfl, .inr ⟨⟨_, rfl⟩, HP, HB.out⟩⟩
 have c3 : CurAt w3 b q1 := c2.only o3 (by omega)
 have b3 : Hid (Only (fun k => k = b) w w3) := b2.out.then o3 (fun k hk e => by omega)
 have X3 := Hid.intro (X2.out.only o3 (by omega))
 have k0 : w3.cell? ⟨w1.heap.size, 0, none⟩ = some (.string q2) := d3.cell
 have s3 := o3.size
 have hd3 := d3.lt
 have hx30 := X3.out.hi
 clear d0 c2 b2 X2 o3
 have HM : Hid (TnO w3 W2.heap.size g3 t) := ⟨hm1.out.1, hm1.out.2.1, hm1.out.2.2, hm2.out.1, hm2.out.2.1, hm2.out.2.2.1, hm2.out.2.2.2⟩
 have HW : Hid (TenW t) := (ten_wf hv.out (by simpa using sp)).1
 clear hm1 hm2
 by_cases hz : q2.size = 0
 ·have y1 := bs_mtI hz
  have hq0 : q2.data.toList = [] := by
   obtain ⟨⟨l⟩⟩ := q2
   simpa [ByteArray.size] using hz
  have HP : Hid (insTO q0.data.toList = some (t.key, q1.data.toList)) := by
   unfold Hid
   have h0 : tenO p.data.toList = some (t.key, []) := by rw [← hq0]; exact hv.out
   simp only [insTO, hp.out, h0, Option.bind_some, if_true]
  have r0 : w3.cell? ⟨w.heap.size, 0, none⟩ = some (.int .i64 0) := X3.out.cell 0
  have f0 : w3.frozen? ⟨w.heap.size, 0, none⟩ = false := X3.out.fro 0
  have r1 : w3.cell? ⟨w.heap.size, 1, none⟩ = some (.slice none 0 0) := X3.out.cell 1
  have f1 : w3.frozen? ⟨w.heap.size, 1, none⟩ = false := X3.out.fro 1
  have r2 : w3.cell? ⟨w.heap.size, 2, none⟩ = some (.int .i64 0) := X3.out.cell 2
  have f2 : w3.frozen? ⟨w.heap.size, 2, none⟩ = false := X3.out.fro 2
  have r3 : w3.cell? ⟨w.heap.size, 3, none⟩ = some (.slice none 0 0) := X3.out.cell 3
  have f3 : w3.frozen? ⟨w.heap.size, 3, none⟩ = false := X3.out.fro 3
  have r4 : w3.cell? ⟨w.heap.size, 4, none⟩ = some (.slice none 0 0) := X3.out.cell 4
  have f4 : w3.frozen? ⟨w.heap.size, 4, none⟩ = false := X3.out.fro 4
  have OE : Hid (∀ Z, Only (fun k => k = w.heap.size) w3 Z → CurAt Z b q1 ∧ Only (fun k => k = b) w Z ∧ TnO Z w.heap.size g3 t) := fun Z hZ => ⟨c3.only hZ (by omega), b3.out.then hZ (fun k hk e => by omega), (HM.out.only hZ (fun k hk e => by omega)).lower (by omega)⟩
  clear X3 hp hv d3 HM
  go_wp2
  have OQ : Only (fun k => k = w.heap.size) w3 ((((((w3.setCell ⟨w.heap.size, 0, none⟩ (.int .i64 t.nx)).setCell ⟨w.heap.size, 1, none⟩ (.slice t.ua t.L.length t.uc)).setCell ⟨w.heap.size, 2, none⟩ (.int .i64 t.tk)).setCell ⟨w.heap.size, 3, none⟩ (.slice t.aa t.A.length t.ac)).setCell ⟨w.heap.size, 4, none⟩ (.slice t.sa t.S.length t.sc)).alloc (.cells #[.int .i64 t.nx, .slice t.ua t.L.length t.uc, .int .i64 t.tk, .slice t.aa t.A.length t.ac, .slice t.sa t.S.length t.sc] 36)) := ((((((Only.refl (fun k => k = w.heap.size) w3).setCell (p := ⟨w.heap.size, 0, none⟩) rfl (.int .i64 t.nx)).setCell (p := ⟨w.heap.size, 1, none⟩) rfl (.slice t.ua t.L.length t.uc)).setCell (p := ⟨w.heap.size, 2, none⟩) rfl (.int .i64 t.tk)).setCell (p := ⟨w.heap.size, 3, none⟩) rfl (.slice t.aa t.A.length t.ac)).setCell (p := ⟨w.heap.size, 4, none⟩) rfl (.slice t.sa t.S.length t.sc)).trans (Below.any (one_below _ _))
  have h3 := OE.out _ OQ
  refine bodyPost_ret (v := t.v) ?_ rfl (Or.inl ⟨t, g3, q1, rfl, HP, h3.1, s1, ⟨h3.2.2, HW.out⟩, h3.2.1⟩)
  simp [results, Tryz.results29, go_sem, r0, r1, r2, r3, r4, hx30]
 ·have HP : Hid (insTO q0.data.toList = none) := by
   unfold Hid
   have h0 : q2.data.toList ≠ [] := fun h => hz (by
    obtain ⟨⟨l⟩⟩ := q2
    simpa [ByteArray.size] using h)
   simp only [insTO, hp.out, hv.out, Option.bind_some, if_neg h0]
  have y1 := bs_nmI hz
  clear hp hv X3 HM
  go_wp2
  exact ⟨rfl, .inr ⟨⟨_, rfl⟩, HP, b3.out.trans (Below.any (one_below _ _))⟩⟩
end Go.Proofs.YtknckbedddeijaaGreat
