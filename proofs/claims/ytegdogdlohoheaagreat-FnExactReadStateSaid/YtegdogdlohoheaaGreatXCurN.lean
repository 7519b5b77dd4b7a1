/- A cursor's note. -/
import Derived.Test.YtegdogdlohoheaaGreatTCurV
import Derived.Test.YtegdogdlohoheaaGreatXNote
namespace Go.Proofs.YtegdogdlohoheaaGreat
open Go.RowKit
set_option linter.unusedVariables false
/-- A note at the front, and what is left. -/
noncomputable def notO (l : List UInt8) : Option (Nt × List UInt8) :=
 (numO l).bind fun a => (numO a.2).bind fun b => (numO b.2).bind fun c => (numO c.2).bind fun d => (numO d.2).bind fun e => some (⟨(a.1 : Int), (b.1 : Int), (c.1 : Int), (d.1 : Int), (e.1 : Int)⟩, e.2)
abbrev zNt : Array Value := #[.int .i64 0, .int .i64 0, .int .i64 0, .int .i64 0, .int .i64 0]
def NotC (b : Nat) (q : ByteArray) (w : World) (e : Ending) (w' : World) : Prop :=
 (∃ (n : Nt) (q' : ByteArray), e = .returned (.agg #[.int .i64 n.i, .int .i64 n.c, .int .i64 n.s, .int .i64 n.k, .int .i64 n.d]) ∧ Hid (notO q.data.toList = some (n, q'.data.toList)) ∧ CurAt w' b q' ∧ q'.size ≤ 1048576 ∧ Only (fun k => k = b) w w') ∨ (Lack e ∧ Hid (notO q.data.toList = none) ∧ Only (fun k => k = b) w w')
set_option maxRecDepth 100000 in
set_option maxHeartbeats 4000000 in
theorem noteC_any (b : Nat) (q0 : ByteArray) (w : World) (hc : CurAt w b q0) (s0 : q0.size ≤ 1048576) :
  Calls Tryz.prog 49 #[.pointer (some ⟨b, 0, none⟩)] w (NotC b q0 w) := by
 have hlt := hc.lt
 go_enter Tryz.func49, Tryz.ntmps49
 go_wp2_with fail
 obtain ⟨W0, hW, bW, zW, cW, fW⟩ := boxed w zNt 55
 simp only [hW]
 have c0 : CurAt W0 b q0 := hc.kept bW
 have b0 : Only (fun k => k = b) w W0 := ob_any bW
 have X0 : Hid (Blk W0 w.heap.size zNt) := ⟨by omega, cW, fW⟩
 have hne : ¬ w.heap.size = b := by omega
 clear hW bW zW cW fW hc
 refine (number_any b q0 _ c0 s0).mono ?_
 rintro e w1 (⟨xi, q1, rfl, hn, rfl⟩ | ⟨⟨pv, rfl⟩, hn, rfl⟩)
 rotate_left 1
 ·have HP : Hid (notO q0.data.toList = none) := by
   have e0 := numO_no hn
   unfold Hid
   simp only [notO, e0, Option.bind_none]
  clear hn X0
  go_wp2
  exact ⟨rfl, .inr ⟨⟨_, rfl⟩, HP, b0⟩⟩
 have H0 : Hid (numO q0.data.toList = some (xi, q1.data.toList)) := numO_yes hn
 have s1 : q1.size ≤ 1048576 := num_size hn s0
 have c1 : CurAt (_) b q1 := c0.set
 have b1 := b0.trans (ob_set b _ (.string q1))
 have X1 := Hid.intro (X0.out.only (ob_set b _ (.string q1)) hne)
 revert c1 b1 X1
 generalize World.setCell _ ⟨b, 0, none⟩ (.string q1) = W1
 intro c1 b1 X1
 clear hn c0 b0 s0 X0
 go_wp2_with fail
 refine (number_any b q1 _ c1 s1).mono ?_
 rintro e w1 (⟨xc, q2, rfl, hn, rfl⟩ | ⟨⟨pv, rfl⟩, hn, rfl⟩)
 rotate_left 1
 ·have HP : Hid (notO q0.data.toList = none) := by
   have e1 := numO_no hn
   unfold Hid
   simp only [notO, H0.out, e1, Option.bind_some, Option.bind_none]
  clear hn X1
  go_wp2
  exact ⟨rfl, .inr ⟨⟨_, rfl⟩, HP, b1⟩⟩
 have H1 : Hid (numO q1.data.toList = some (xc, q2.data.toList)) := numO_yes hn
 have s2 : q2.size ≤ 1048576 := num_size hn s1
 have c2 : CurAt (_) b q2 := c1.set
 have b2 := b1.trans (ob_set b _ (.string q2))
 have X2 := Hid.intro (X1.out.only (ob_set b _ (.string q2)) hne)
 revert c2 b2 X2
 generalize World.setCell _ ⟨b, 0, none⟩ (.string q2) = W2
 intro c2 b2 X2
 clear hn c1 b1 s1 X1
 go_wp2_with fail
 refine (number_any b q2 _ c2 s2).mono ?_
 rintro e w1 (⟨xs, q3, rfl, hn, rfl⟩ | ⟨⟨pv, rfl⟩, hn, rfl⟩)
 rotate_left 1
 ·have HP : Hid (notO q0.data.toList = none) := by
   have e2 := numO_no hn
   unfold Hid
   simp only [notO, H0.out, H1.out, e2, Option.bind_some, Option.bind_none]
  clear hn X2
  go_wp2
  exact ⟨rfl, .inr ⟨⟨_, rfl⟩, HP, b2⟩⟩
 have H2 : Hid (numO q2.data.toList = some (xs, q3.data.toList)) := numO_yes hn
 have s3 : q3.size ≤ 1048576 := num_size hn s2
 have c3 : CurAt (_) b q3 := c2.set
 have b3 := b2.trans (ob_set b _ (.string q3))
 have X3 := Hid.intro (X2.out.only (ob_set b _ (.string q3)) hne)
 revert c3 b3 X3
 generalize World.setCell _ ⟨b, 0, none⟩ (.string q3) = W3
 intro c3 b3 X3
 clear hn c2 b2 s2 X2
 go_wp2_with fail
 refine (number_any b q3 _ c3 s3).mono ?_
 rintro e w1 (⟨xk, q4, rfl, hn, rfl⟩ | ⟨⟨pv, rfl⟩, hn, rfl⟩)
 rotate_left 1
 ·have HP : Hid (notO q0.data.toList = none) := by
   have e3 := numO_no hn
   unfold Hid
   simp only [notO, H0.out, H1.out, H2.out, e3, Option.bind_some, Option.bind_none]
  clear hn X3
  go_wp2
  exact ⟨rfl, .inr ⟨⟨_, rfl⟩, HP, b3⟩⟩
 have H3 : Hid (numO q3.data.toList = some (xk, q4.data.toList)) := numO_yes hn
 have s4 : q4.size ≤ 1048576 := num_size hn s3
 have c4 : CurAt (_) b q4 := c3.set
 have b4 := b3.trans (ob_set b _ (.string q4))
 have X4 := Hid.intro (X3.out.only (ob_set b _ (.string q4)) hne)
 revert c4 b4 X4
 generalize World.setCell _ ⟨b, 0, none⟩ (.string q4) = W4
 intro c4 b4 X4
 clear hn c3 b3 s3 X3
 go_wp2_with fail
 refine (number_any b q4 _ c4 s4).mono ?_
 rintro e w1 (⟨xd, q5, rfl, hn, rfl⟩ | ⟨⟨pv, rfl⟩, hn, rfl⟩)
 rotate_left 1
 ·have HP : Hid (notO q0.data.toList = none) := by
   have e4 := numO_no hn
   unfold Hid
   simp only [notO, H0.out, H1.out, H2.out, H3.out, e4, Option.bind_some, Option.bind_none]
  clear hn X4
  go_wp2
  exact ⟨rfl, .inr ⟨⟨_, rfl⟩, HP, b4⟩⟩
 have H4 : Hid (numO q4.data.toList = some (xd, q5.data.toList)) := numO_yes hn
 have s5 : q5.size ≤ 1048576 := num_size hn s4
 have c5 : CurAt (_) b q5 := c4.set
 have b5 := b4.trans (ob_set b _ (.string q5))
 have X5 := Hid.intro (X4.out.only (ob_set b _ (.string q5)) hne)
 revert c5 b5 X5
 generalize World.setCell _ ⟨b, 0, none⟩ (.string q5) = W5
 intro c5 b5 X5
 clear hn c4 b4 s4 X4
 have HP : Hid (notO q0.data.toList = some (⟨(xi : Int), (xc : Int), (xs : Int), (xk : Int), (xd : Int)⟩, q5.data.toList)) := by
  unfold Hid
  simp only [notO, H0.out, H1.out, H2.out, H3.out, H4.out, Option.bind_some]
 have kr := X5.out.cell
 have fr := X5.out.fro
 have hXh := X5.out.hi
 have r0 : W5.cell? ⟨w.heap.size, 0, none⟩ = some (.int .i64 0) := kr 0
 have r1 : W5.cell? ⟨w.heap.size, 1, none⟩ = some (.int .i64 0) := kr 1
 have r2 : W5.cell? ⟨w.heap.size, 2, none⟩ = some (.int .i64 0) := kr 2
 have r3 : W5.cell? ⟨w.heap.size, 3, none⟩ = some (.int .i64 0) := kr 3
 have r4 : W5.cell? ⟨w.heap.size, 4, none⟩ = some (.int .i64 0) := kr 4
 clear kr
 have OE : Hid (∀ Z, Only (fun k => k = w.heap.size) W5 Z → CurAt Z b q5 ∧ Only (fun k => k = b) w Z) := fun Z hZ => ⟨⟨by have := hZ.size; have := c5.lt; omega, (hZ.cell c5.lt (by omega)).trans c5.cell, (hZ.frozen c5.lt (by omega)).trans c5.fro⟩, b5.then hZ (fun k hk e => by omega)⟩
 go_wp2
 refine bodyPost_ret (v := .agg #[.int .i64 xi, .int .i64 xc, .int .i64 xs, .int .i64 xk, .int .i64 xd]) (by simp [results, Tryz.results49, go_sem, r0, r1, r2, r3, r4]) rfl (.inl ⟨⟨xi, xc, xs, xk, xd⟩, q5, rfl, HP, (OE.out _ ?_).1, s5, (OE.out _ ?_).2⟩)
 ·repeat (refine Only.setCell ?_ (by simp) _)
  exact Only.refl _ _
 ·repeat (refine Only.setCell ?_ (by simp) _)
  exact Only.refl _ _
end Go.Proofs.YtegdogdlohoheaaGreat
