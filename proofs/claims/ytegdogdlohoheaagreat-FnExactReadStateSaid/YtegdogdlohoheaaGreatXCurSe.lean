/- A cursor's session. -/
import Derived.Test.YtegdogdlohoheaaGreatXInsR
import Derived.Test.YtegdogdlohoheaaGreatXSes
import Derived.Test.YtegdogdlohoheaaGreatTCurV
namespace Go.Proofs.YtegdogdlohoheaaGreat
open Go.RowKit
set_option linter.unusedVariables false
/-- A session at the front, and what is left. -/
noncomputable def sesO (l : List UInt8) : Option (Se × List UInt8) :=
 (numO l).bind fun a => (numO a.2).bind fun b => (numO b.2).bind fun c => (insRO c.2).bind fun d => some (⟨(a.1 : Int), (b.1 : Int), (c.1 : Int), ⟨(d.1.1 : Int), ⟨d.1.2.toArray⟩⟩⟩, d.2)
abbrev zSe : Array Value := #[.int .i64 0, .int .i64 0, .int .i64 0, .int .i64 0, .string ⟨#[]⟩]
def SesC (b : Nat) (q : ByteArray) (w : World) (e : Ending) (w' : World) : Prop :=
 (∃ (n : Se) (q' : ByteArray), e = .returned (seV n) ∧ Hid (sesO q.data.toList = some (n, q'.data.toList)) ∧ CurAt w' b q' ∧ q'.size ≤ 1048576 ∧ Only (fun k => k = b) w w') ∨ (Lack e ∧ Hid (sesO q.data.toList = none) ∧ Only (fun k => k = b) w w')
set_option maxRecDepth 100000 in
set_option maxHeartbeats 4000000 in
theorem sessionC_any (b : Nat) (q0 : ByteArray) (w : World) (hc : CurAt w b q0) (s0 : q0.size ≤ 1048576) :
  Calls Tryz.prog 50 #[.pointer (some ⟨b, 0, none⟩)] w (SesC b q0 w) := by
 have hlt := hc.lt
 go_enter Tryz.func50, Tryz.ntmps50
 go_wp2_with fail
 obtain ⟨W0, hW, bW, zW, cW, fW⟩ := boxed w zSe 61
 simp only [hW]
 have c0 : CurAt W0 b q0 := hc.kept bW
 have b0 : Only (fun k => k = b) w W0 := ob_any bW
 have X0 : Hid (Blk W0 w.heap.size zSe) := ⟨by omega, cW, fW⟩
 have hne : ¬ w.heap.size = b := by omega
 clear hW bW zW cW fW hc
 refine (number_any b q0 _ c0 s0).mono ?_
 rintro e w1 (⟨xc, q1, rfl, hn, rfl⟩ | ⟨⟨pv, rfl⟩, hn, rfl⟩)
 rotate_left 1
 ·have HP : Hid (sesO q0.data.toList = none) := by
   have e0 := numO_no hn
   unfold Hid
   simp only [sesO, e0, Option.bind_none]
  clear hn X0
  go_wp2
  exact ⟨rfl, .inr ⟨⟨_, rfl⟩, HP, b0⟩⟩
 have H0 : Hid (numO q0.data.toList = some (xc, q1.data.toList)) := numO_yes hn
 have s1 : q1.size ≤ 1048576 := num_size hn s0
 have c1 : CurAt (_) b q1 := c0.set
 have b1 := b0.trans (ob_set b _ (.string q1))
 have X1 := Hid.intro (X0.out.only (ob_set b _ (.string q1)) hne)
 revert c1 b1 X1
 generalize World.setCell _ ⟨b, 0, none⟩ (.string q1) = W1
 intro c1 b1 X1
 clear hn c0 b0 s0 X0
 go_wp2_with fail
 refine (number_any b q1 _ c1 s1).mono ?_
 rintro e w1 (⟨xs, q2, rfl, hn, rfl⟩ | ⟨⟨pv, rfl⟩, hn, rfl⟩)
 rotate_left 1
 ·have HP : Hid (sesO q0.data.toList = none) := by
   have e1 := numO_no hn
   unfold Hid
   simp only [sesO, H0.out, e1, Option.bind_some, Option.bind_none]
  clear hn X1
  go_wp2
  exact ⟨rfl, .inr ⟨⟨_, rfl⟩, HP, b1⟩⟩
 have H1 : Hid (numO q1.data.toList = some (xs, q2.data.toList)) := numO_yes hn
 have s2 : q2.size ≤ 1048576 := num_size hn s1
 have c2 : CurAt (_) b q2 := c1.set
 have b2 := b1.trans (ob_set b _ (.string q2))
 have X2 := Hid.intro (X1.out.only (ob_set b _ (.string q2)) hne)
 revert c2 b2 X2
 generalize World.setCell _ ⟨b, 0, none⟩ (.string q2) = W2
 intro c2 b2 X2
 clear hn c1 b1 s1 X1
 go_wp2_with fail
 refine (number_any b q2 _ c2 s2).mono ?_
 rintro e w1 (⟨xi, q3, rfl, hn, rfl⟩ | ⟨⟨pv, rfl⟩, hn, rfl⟩)
 rotate_left 1
 ·have HP : Hid (sesO q0.data.toList = none) := by
   have e2 := numO_no hn
   unfold Hid
   simp only [sesO, H0.out, H1.out, e2, Option.bind_some, Option.bind_none]
  clear hn X2
  go_wp2
  exact ⟨rfl, .inr ⟨⟨_, rfl⟩, HP, b2⟩⟩
 have H2 : Hid (numO q2.data.toList = some (xi, q3.data.toList)) := numO_yes hn
 have s3 : q3.size ≤ 1048576 := num_size hn s2
 have c3 : CurAt (_) b q3 := c2.set
 have b3 := b2.trans (ob_set b _ (.string q3))
 have X3 := Hid.intro (X2.out.only (ob_set b _ (.string q3)) hne)
 revert c3 b3 X3
 generalize World.setCell _ ⟨b, 0, none⟩ (.string q3) = W3
 intro c3 b3 X3
 clear hn c2 b2 s2 X2
 go_wp2_with fail
 refine (insR_any b q3 _ c3 s3).mono ?_
 rintro e W5 (⟨rc, rd, q5, rfl, hv, c5, s5, o5⟩ | ⟨⟨pv, rfl⟩, hv, o5⟩)
 rotate_left 1
 ·have HP : Hid (sesO q0.data.toList = none) := by
   unfold Hid
   simp only [sesO, H0.out, H1.out, H2.out, hv.out, Option.bind_some, Option.bind_none]
  have HB := Hid.intro (b3.trans o5)
  clear hv X3 o5
  go_wp2
  exact ⟨rfl, .inr ⟨⟨_, rfl⟩, HP, HB.out⟩⟩
 have HP : Hid (sesO q0.data.toList = some (⟨(xc : Int), (xs : Int), (xi : Int), ⟨(rc : Int), rd⟩⟩, q5.data.toList)) := by
  unfold Hid
  simp only [sesO, H0.out, H1.out, H2.out, hv.out, Option.bind_some, ba_of]
 have X5 := Hid.intro (X3.out.only o5 hne)
 have b5 := Hid.intro (b3.trans o5)
 clear c3 b3 X3 o5 hv
 have kr := X5.out.cell
 have fr := X5.out.fro
 have hXh := X5.out.hi
 have r0 : W5.cell? ⟨w.heap.size, 0, none⟩ = some (.int .i64 0) := kr 0
 have r1 : W5.cell? ⟨w.heap.size, 1, none⟩ = some (.int .i64 0) := kr 1
 have r2 : W5.cell? ⟨w.heap.size, 2, none⟩ = some (.int .i64 0) := kr 2
 have r3 : W5.cell? ⟨w.heap.size, 3, none⟩ = some (.int .i64 0) := kr 3
 have r4 : W5.cell? ⟨w.heap.size, 4, none⟩ = some (.string ⟨#[]⟩) := kr 4
 clear kr
 have OE : Hid (∀ Z, Only (fun k => k = w.heap.size) W5 Z → CurAt Z b q5 ∧ Only (fun k => k = b) w Z) := fun Z hZ => ⟨c5.only hZ (by omega), b5.out.then hZ (fun k hk e => by omega)⟩
 go_wp2
 refine bodyPost_ret (v := seV ⟨(xc : Nat), (xs : Nat), (xi : Nat), ⟨(rc : Nat), rd⟩⟩) (by simp [results, Tryz.results50, go_sem, r0, r1, r2, r3, r4]) rfl (.inl ⟨⟨(xc : Nat), (xs : Nat), (xi : Nat), ⟨(rc : Nat), rd⟩⟩, q5, rfl, HP, (OE.out _ ?_).1, s5, (OE.out _ ?_).2⟩)
 ·repeat (refine Only.setCell ?_ (by simp) _)
  exact Only.refl _ _
 ·repeat (refine Only.setCell ?_ (by simp) _)
  exact Only.refl _ _
end Go.Proofs.YtegdogdlohoheaaGreat
