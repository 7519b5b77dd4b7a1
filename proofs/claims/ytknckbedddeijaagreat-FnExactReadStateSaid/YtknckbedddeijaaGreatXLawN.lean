/- The laws' helpers over rows of notes: how great, copies, equal. -/
import Derived.Test.YtknckbedddeijaaGreatTCurVo
import Derived.Test.YtknckbedddeijaaGreatTCurP
import Derived.Deep.Cut
import Derived.Deep.RegionWith
import Derived.OwnWalk
import Derived.RegionTactic
import Derived.ChangeAlike
namespace Go.Proofs.YtknckbedddeijaaGreat
open Go.RowKit
set_option linter.unusedVariables false
/-- A piece at the front that is a volume and no more, and what is left behind it. -/
noncomputable def insVO (l : List UInt8) : Option ((Nat × List Nd) × List UInt8) :=
 (pieO l).bind fun p => (volO p.1).bind fun v => if v.2 = [] then some (v.1, p.2) else none
def InsV (b : Nat) (q : ByteArray) (w : World) (e : Ending) (w' : World) : Prop :=
 (∃ (nx : Nat) (u : Value) (M : List Np) (q' : ByteArray), e = .returned (volV (nx : Nat) u) ∧ Hid (insVO q.data.toList = some ((nx, M.map Np.n), q'.data.toList)) ∧ CurAt w' b q' ∧ q'.size ≤ 1048576 ∧ Hid (VolO w' w.heap.size u M ∧ Inc M) ∧ Only (fun k => k = b) w w') ∨ (Lack e ∧ Hid (insVO q.data.toList = none) ∧ Only (fun k => k = b) w w')
theorem bs_mtI {d : ByteArray} (h : d.size = 0) : d.toList.isEmpty = true := by
 rw [ByteArray.toList_eq]
 obtain ⟨⟨l⟩⟩ := d
 simpa [ByteArray.size] using h
theorem bs_nmI {d : ByteArray} (h : ¬ d.size = 0) : d.toList.isEmpty = false := by
 rw [ByteArray.toList_eq]
 obtain ⟨⟨l⟩⟩ := d
 simpa [ByteArray.size] using h
theorem pie_sz {q p q' : ByteArray} (h : pieO q.data.toList = some (p.data.toList, q'.data.toList)) (hs : q.size ≤ 1048576) : p.size ≤ 1048576 := by
 have h2 := congrArg List.length (pieO_out h).2
 simp only [List.length_append] at h2
 have e1 : p.data.toList.length = p.size := by simp
 have e2 : q.data.toList.length = q.size := by simp
 omega
set_option maxRecDepth 100000 in
set_option maxHeartbeats 4000000 in
theorem insV_any (b : Nat) (q0 : ByteArray) (w : World) (hc : CurAt w b q0) (s0 : q0.size ≤ 1048576) :
  Calls Tryz.prog 45 #[.pointer (some ⟨b, 0, none⟩), .func (Fn.func 46) #[] #[]] w (InsV b q0 w) := by
 have hlt := hc.lt
 go_enter Tryz.func45, Tryz.ntmps45
 go_wp2_with fail
 obtain ⟨W0, hW, bW, zW, cW, fW⟩ := boxed w #[.int .i64 0, .slice none 0 0] 32
 simp only [hW]
 have c0 : CurAt W0 b q0 := hc.kept bW
 have b0 : Only (fun k => k = b) w W0 := ob_any bW
 have X0 : Hid (Blk W0 w.heap.size #[.int .i64 0, .slice none 0 0]) := ⟨by omega, cW, fW⟩
 have hne : ¬ w.heap.size = b := by omega
 clear hW bW zW cW fW hc
 refine (pieceC_any b q0 W0 c0 s0).mono ?_
 rintro e w1 (⟨p, q1, rfl, hp, c1, s1, o1⟩ | ⟨⟨pv, rfl⟩, hp, o1⟩)
 rotate_left 1
 ·have HP : Hid (insVO q0.data.toList = none) := by unfold Hid; simp only [insVO, hp.out, Option.bind_none]
  have HB := Hid.intro (b0.trans o1)
  clear hp o1 X0
  go_wp2
  exact ⟨rfl, .inr ⟨⟨_, rfl⟩, HP, HB.out⟩⟩
 have sp : p.size ≤ 1048576 := pie_sz hp.out s0
 have b1 := Hid.intro (b0.trans o1)
 have X1 := Hid.intro (X0.out.only o1 hne)
 have hb1 := c1.lt
 have hx1 := X1.out.hi
 clear o1 b0 X0 c0
 go_wp2_with fail
 obtain ⟨W2, hW, bW, zW, cW, fW⟩ := boxed w1 #[.string p] 66
 simp only [hW]
 have d0 : CurAt W2 w1.heap.size p := ⟨by omega, cW 0, fW 0⟩
 have c2 : CurAt W2 b q1 := c1.kept bW
 have b2 := Hid.intro (b1.out.trans (Below.any bW))
 have X2 := Hid.intro (X1.out.kept bW)
 have hle2 : w1.heap.size ≤ W2.heap.size := bW.size
 clear hW bW zW cW fW c1 b1 X1
 refine (volC_any w1.heap.size p W2 d0 sp).mono ?_
 rintro e w3 (⟨nx, u, M, q2, rfl, hv, d3, s2, hm, o3⟩ | ⟨⟨pv, rfl⟩, hv, o3⟩)
 rotate_left 1
 ·have HP : Hid (insVO q0.data.toList = none) := by unfold Hid; simp only [insVO, hp.out, hv.out, Option.bind_some, Option.bind_none]
  have HB : Hid (Only (fun k => k = b) w w3) := b2.out.then o3 (fun k hk e => by omega)
  clear hp hv o3 X2
  go_wp2
  exact ⟨rfl, .inr ⟨⟨_, rfl⟩, HP, HB.out⟩⟩
 have c3 : CurAt w3 b q1 := c2.only o3 (by omega)
 have b3 : Hid (Only (fun k => k = b) w w3) := b2.out.then o3 (fun k hk e => by omega)
 have X3 := Hid.intro (X2.out.only o3 (by omega))
 have k0 : w3.cell? ⟨w1.heap.size, 0, none⟩ = some (.string q2) := d3.cell
 have s3 := o3.size
 have hd3 := d3.lt
 have hx30 := X3.out.hi
 clear d0 c2 b2 X2 o3
 by_cases hz : q2.size = 0
 ·have y1 := bs_mtI hz
  have hq0 : q2.data.toList = [] := by
   obtain ⟨⟨l⟩⟩ := q2
   simpa [ByteArray.size] using hz
  have HP : Hid (insVO q0.data.toList = some ((nx, M.map Np.n), q1.data.toList)) := by
   unfold Hid
   have h0 : volO p.data.toList = some ((nx, M.map Np.n), []) := by rw [← hq0]; exact hv.out
   simp only [insVO, hp.out, h0, Option.bind_some, if_true]
  obtain ⟨va, vc, rfl⟩ := hm.out.1.own.slice
  have r0 : w3.cell? ⟨w.heap.size, 0, none⟩ = some (.int .i64 0) := X3.out.cell 0
  have r1 : w3.cell? ⟨w.heap.size, 1, none⟩ = some (.slice none 0 0) := X3.out.cell 1
  have f0 : w3.frozen? ⟨w.heap.size, 0, none⟩ = false := X3.out.fro 0
  have f1 : w3.frozen? ⟨w.heap.size, 1, none⟩ = false := X3.out.fro 1
  have HVO := Hid.intro hm.out.1
  have HII := Hid.intro hm.out.2
  have hx3 := X3.out.hi
  have OE : Hid (∀ Z, Only (fun k => k = w.heap.size) w3 Z → CurAt Z b q1 ∧ VolO Z w.heap.size (.slice va M.length vc) M ∧ Only (fun k => k = b) w Z) := fun Z hZ => ⟨c3.only hZ (by omega), (HVO.out.only hZ (fun k hk e => by omega)).lower (by omega), b3.out.then hZ (fun k hk e => by omega)⟩
  clear hm X3 hp hv d3
  go_wp2
  have OQ : Only (fun k => k = w.heap.size) w3 (((w3.setCell ⟨w.heap.size, 0, none⟩ (.int .i64 (nx : Nat))).setCell ⟨w.heap.size, 1, none⟩ (.slice va M.length vc)).alloc (.cells #[.int .i64 (nx : Nat), .slice va M.length vc] 32)) :=
   (((Only.refl (fun k => k = w.heap.size) w3).setCell (p := ⟨w.heap.size, 0, none⟩) rfl _).setCell (p := ⟨w.heap.size, 1, none⟩) rfl _).trans (Below.any (one_below _ _))
  have h3 := OE.out _ OQ
  refine bodyPost_ret (v := volV (nx : Nat) (.slice va M.length vc)) ?_ rfl (Or.inl ⟨nx, _, M, q1, rfl, HP, h3.1, s1, ⟨h3.2.1, HII.out⟩, h3.2.2⟩)
  simp [results, Tryz.results45, go_sem, r0, r1, hx3]
 ·have HP : Hid (insVO q0.data.toList = none) := by
   unfold Hid
   have h0 : q2.data.toList ≠ [] := fun h => hz (by
    obtain ⟨⟨l⟩⟩ := q2
    simpa [ByteArray.size] using h)
   simp only [insVO, hp.out, hv.out, Option.bind_some, if_neg h0]
  have y1 := bs_nmI hz
  obtain ⟨va, vc, rfl⟩ := hm.out.1.own.slice
  clear hm hp hv X3
  go_wp2
  exact ⟨rfl, .inr ⟨⟨_, rfl⟩, HP, b3.out.trans (Below.any (one_below _ _))⟩⟩
end Go.Proofs.YtknckbedddeijaaGreat
namespace Go.Proofs.YtknckbedddeijaaGreat
open Go.RowKit
set_option linter.unusedVariables false
theorem whole_extract (q : ByteArray) : q.extract 0 q.size = q := by
 have h : (q.extract 0 q.size).data.toList = q.data.toList := by
  rw [extract0_toList]
  exact List.take_of_length_le (by simp)
 have h2 := congrArg (fun l => (⟨l.toArray⟩ : ByteArray)) h
 simp only [ba_of] at h2
 exact h2
theorem rest_extract (q : ByteArray) : (q.extract q.size q.size).size = 0 := by simp
set_option maxRecDepth 100000 in
set_option maxHeartbeats 2000000 in
theorem restC_any (b : Nat) (q : ByteArray) (w : World) (hc : CurAt w b q) (s1 : q.size ≤ 1048576) :
  Calls Tryz.prog 78 #[.pointer (some ⟨b, 0, none⟩)] w fun e w' => ∃ q' : ByteArray, e = .returned (.string q) ∧ q'.size = 0 ∧ CurAt w' b q' ∧ Only (fun k => k = b) w w' := by
 have hlt := hc.lt
 have k1 := hc.cell
 go_enter Tryz.func78, Tryz.ntmps78
 go_wp2_with fail
 clear k1
 refine (bytes_any b q q.size _ hc s1).mono ?_
 rintro e w2 (⟨w3, hx, rfl, b3, rfl⟩ | ⟨⟨pv, rfl⟩, hx, rfl⟩)
 rotate_left 1
 ·exact absurd (Nat.le_refl _) hx
 rw [whole_extract]
 have c3 : CurAt (w3.setCell ⟨b, 0, none⟩ (.string (q.extract q.size q.size))) b (q.extract q.size q.size) := (hc.kept b3).set
 have b4 : Only (fun k => k = b) w (w3.setCell ⟨b, 0, none⟩ (.string (q.extract q.size q.size))) := (ob_any b3).trans (ob_set _ _ _)
 have hz := rest_extract q
 revert c3 b4 hz
 generalize q.extract q.size q.size = q'
 generalize World.setCell _ ⟨b, 0, none⟩ (.string q') = W3
 intro c3 b4 hz
 clear hc b3 hx
 go_wp2
 go_ret
 exact ⟨q', rfl, hz, c3, b4⟩
end Go.Proofs.YtknckbedddeijaaGreat
namespace Go.Proofs.YtknckbedddeijaaGreat
open Go.RowKit
set_option linter.unusedVariables false
/-- What a cursor's result hands back. -/
def ResC (b : Nat) (q : ByteArray) (w : World) (e : Ending) (w' : World) : Prop :=
 (∃ (x : Nat) (d q' : ByteArray), e = .returned (reV ⟨x, d⟩) ∧ Hid (numO q.data.toList = some (x, d.data.toList)) ∧ q'.size = 0 ∧ CurAt w' b q' ∧ Only (fun k => k = b) w w') ∨ (Lack e ∧ Hid (numO q.data.toList = none) ∧ Only (fun k => k = b) w w')
set_option maxRecDepth 100000 in
set_option maxHeartbeats 2000000 in
theorem resC_any (b : Nat) (q0 : ByteArray) (w : World) (hc : CurAt w b q0) (s0 : q0.size ≤ 1048576) :
  Calls Tryz.prog 66 #[.pointer (some ⟨b, 0, none⟩)] w (ResC b q0 w) := by
 have hlt := hc.lt
 go_enter Tryz.func66, Tryz.ntmps66
 go_wp2_with fail
 obtain ⟨W0, hW, bW, zW, cW, fW⟩ := boxed w #[.int .i64 0, .string ⟨#[]⟩] 57
 simp only [hW]
 have c0 : CurAt W0 b q0 := hc.kept bW
 have b0 : Only (fun k => k = b) w W0 := ob_any bW
 have X0 : Hid (Blk W0 w.heap.size #[.int .i64 0, .string ⟨#[]⟩]) := ⟨by omega, cW, fW⟩
 have hne : ¬ w.heap.size = b := by omega
 clear hW bW zW cW fW hc
 refine (number_any b q0 _ c0 s0).mono ?_
 rintro e w1 (⟨k, q1, rfl, hn, rfl⟩ | ⟨⟨pv, rfl⟩, hn, rfl⟩)
 rotate_left 1
 ·have HP : Hid (numO q0.data.toList = none) := numO_no hn
  clear hn X0
  go_wp2
  exact ⟨rfl, .inr ⟨⟨_, rfl⟩, HP, b0⟩⟩
 have H0 : Hid (numO q0.data.toList = some (k, q1.data.toList)) := numO_yes hn
 have s1 : q1.size ≤ 1048576 := num_size hn s0
 have c1 : CurAt (_) b q1 := c0.set
 have b1 := b0.trans (ob_set b _ (.string q1))
 replace X0 := Hid.intro (X0.out.only (ob_set b _ (.string q1)) hne)
 revert c1 b1 X0
 generalize World.setCell _ ⟨b, 0, none⟩ (.string q1) = W1
 intro c1 b1 X0
 clear hn c0 b0
 go_wp2_with fail
 refine (restC_any b q1 _ c1 s1).mono ?_
 rintro e W3 ⟨q', rfl, hz, c3, o3⟩
 have b4 := b1.trans o3
 replace X0 := Hid.intro (X0.out.only o3 hne)
 clear c1 b1 o3
 have k0 : W3.cell? ⟨w.heap.size, 0, none⟩ = some (.int .i64 0) := X0.out.cell 0
 have f0 : W3.frozen? ⟨w.heap.size, 0, none⟩ = false := X0.out.fro 0
 have k1 : W3.cell? ⟨w.heap.size, 1, none⟩ = some (.string ⟨#[]⟩) := X0.out.cell 1
 have f1 : W3.frozen? ⟨w.heap.size, 1, none⟩ = false := X0.out.fro 1
 have on1 : Only (fun x => x = w.heap.size) W3 ((W3.setCell ⟨w.heap.size, 0, none⟩ (.int .i64 k)).setCell ⟨w.heap.size, 1, none⟩ (.string q1)) := ((Only.refl (fun x => x = w.heap.size) W3).setCell (p := ⟨w.heap.size, 0, none⟩) rfl _).setCell (p := ⟨w.heap.size, 1, none⟩) rfl _
 have c5 := c3.only on1 (fun h => hne h.symm)
 have b5 : Only (fun k => k = b) w ((W3.setCell ⟨w.heap.size, 0, none⟩ (.int .i64 k)).setCell ⟨w.heap.size, 1, none⟩ (.string q1)) := b4.then on1 (fun k hk h => by omega)
 clear c3 b4 on1 X0
 go_wp2
 exact bodyPost_ret (v := reV ⟨k, q1⟩) (by simp [results, Tryz.results66, go_sem, k0, k1]) rfl (.inl ⟨k, q1, q', rfl, H0, hz, c5, b5⟩)
end Go.Proofs.YtknckbedddeijaaGreat
namespace Go.Proofs.YtknckbedddeijaaGreat
open Go.RowKit
set_option linter.unusedVariables false
/-- A piece at the front that is a result and no more (its text is all the rest), and what is left behind it. -/
noncomputable def insRO (l : List UInt8) : Option ((Nat × List UInt8) × List UInt8) :=
 (pieO l).bind fun p => (numO p.1).bind fun v => some (v, p.2)
def InsR (b : Nat) (q : ByteArray) (w : World) (e : Ending) (w' : World) : Prop :=
 (∃ (x : Nat) (d q' : ByteArray), e = .returned (reV ⟨x, d⟩) ∧ Hid (insRO q.data.toList = some ((x, d.data.toList), q'.data.toList)) ∧ CurAt w' b q' ∧ q'.size ≤ 1048576 ∧ Only (fun k => k = b) w w') ∨ (Lack e ∧ Hid (insRO q.data.toList = none) ∧ Only (fun k => k = b) w w')
set_option maxRecDepth 100000 in
set_option maxHeartbeats 4000000 in
theorem insR_any (b : Nat) (q0 : ByteArray) (w : World) (hc : CurAt w b q0) (s0 : q0.size ≤ 1048576) :
  Calls Tryz.prog 65 #[.pointer (some ⟨b, 0, none⟩), .func (Fn.func 66) #[] #[]] w (InsR b q0 w) := by
 have hlt := hc.lt
 go_enter Tryz.func65, Tryz.ntmps65
 go_wp2_with fail
 obtain ⟨W0, hW, bW, zW, cW, fW⟩ := boxed w #[.int .i64 0, .string ⟨#[]⟩] 57
 simp only [hW]
 have c0 : CurAt W0 b q0 := hc.kept bW
 have b0 : Only (fun k => k = b) w W0 := ob_any bW
 have X0 : Hid (Blk W0 w.heap.size #[.int .i64 0, .string ⟨#[]⟩]) := ⟨by omega, cW, fW⟩
 have hne : ¬ w.heap.size = b := by omega
 clear hW bW zW cW fW hc
 refine (pieceC_any b q0 W0 c0 s0).mono ?_
 rintro e w1 (⟨p, q1, rfl, hp, c1, s1, o1⟩ | ⟨⟨pv, rfl⟩, hp, o1⟩)
 rotate_left 1
 ·have HP : Hid (insRO q0.data.toList = none) := by unfold Hid; simp only [insRO, hp.out, Option.bind_none]
  have HB := Hid.intro (b0.trans o1)
  clear hp o1 X0
  go_wp2
  exact ⟨rfl, .inr ⟨⟨_, rfl⟩, HP, HB.out⟩⟩
 have sp : p.size ≤ 1048576 := pie_sz hp.out s0
 have b1 := Hid.intro (b0.trans o1)
 have X1 := Hid.intro (X0.out.only o1 hne)
 have hb1 := c1.lt
 have hx1 := X1.out.hi
 clear o1 b0 X0 c0
 go_wp2_with fail
 obtain ⟨W2, hW, bW, zW, cW, fW⟩ := boxed w1 #[.string p] 66
 simp only [hW]
 have d0 : CurAt W2 w1.heap.size p := ⟨by omega, cW 0, fW 0⟩
 have c2 : CurAt W2 b q1 := c1.kept bW
 have b2 := Hid.intro (b1.out.trans (Below.any bW))
 have X2 := Hid.intro (X1.out.kept bW)
 have hle2 : w1.heap.size ≤ W2.heap.size := bW.size
 clear hW bW zW cW fW c1 b1 X1
 refine (resC_any w1.heap.size p W2 d0 sp).mono ?_
 rintro e w3 (⟨nx, d, q2, rfl, hv, hz, d3, o3⟩ | ⟨⟨pv, rfl⟩, hv, o3⟩)
 rotate_left 1
 ·have HP : Hid (insRO q0.data.toList = none) := by unfold Hid; simp only [insRO, hp.out, hv.out, Option.bind_some, Option.bind_none]
  have HB : Hid (Only (fun k => k = b) w w3) := b2.out.then o3 (fun k hk e => by omega)
  clear hp hv o3 X2
  go_wp2
  exact ⟨rfl, .inr ⟨⟨_, rfl⟩, HP, HB.out⟩⟩
 have c3 : CurAt w3 b q1 := c2.only o3 (by omega)
 have b3 : Hid (Only (fun k => k = b) w w3) := b2.out.then o3 (fun k hk e => by omega)
 have X3 := Hid.intro (X2.out.only o3 (by omega))
 have k0 : w3.cell? ⟨w1.heap.size, 0, none⟩ = some (.string q2) := d3.cell
 have s3 := o3.size
 have hd3 := d3.lt
 have hx30 := X3.out.hi
 clear d0 c2 b2 X2 o3
 have y1 := bs_mtI hz
 have HP : Hid (insRO q0.data.toList = some ((nx, d.data.toList), q1.data.toList)) := by
  unfold Hid
  simp only [insRO, hp.out, hv.out, Option.bind_some]
 have r0 : w3.cell? ⟨w.heap.size, 0, none⟩ = some (.int .i64 0) := X3.out.cell 0
 have r1 : w3.cell? ⟨w.heap.size, 1, none⟩ = some (.string ⟨#[]⟩) := X3.out.cell 1
 have f0 : w3.frozen? ⟨w.heap.size, 0, none⟩ = false := X3.out.fro 0
 have f1 : w3.frozen? ⟨w.heap.size, 1, none⟩ = false := X3.out.fro 1
 have OE : Hid (∀ Z, Only (fun k => k = w.heap.size) w3 Z → CurAt Z b q1 ∧ Only (fun k => k = b) w Z) := fun Z hZ => ⟨c3.only hZ (by omega), b3.out.then hZ (fun k hk e => by omega)⟩
 clear X3 hp hv d3
 go_wp2
 have OQ : Only (fun k => k = w.heap.size) w3 (((w3.setCell ⟨w.heap.size, 0, none⟩ (.int .i64 (nx : Nat))).setCell ⟨w.heap.size, 1, none⟩ (.string d)).alloc (.cells #[.int .i64 (nx : Nat), .string d] 57)) :=
  (((Only.refl (fun k => k = w.heap.size) w3).setCell (p := ⟨w.heap.size, 0, none⟩) rfl _).setCell (p := ⟨w.heap.size, 1, none⟩) rfl _).trans (Below.any (one_below _ _))
 have h3 := OE.out _ OQ
 refine bodyPost_ret (v := reV ⟨(nx : Nat), d⟩) ?_ rfl (Or.inl ⟨nx, d, q1, rfl, HP, h3.1, s1, h3.2⟩)
 simp [results, Tryz.results65, go_sem, r0, r1, hx30]
end Go.Proofs.YtknckbedddeijaaGreat
namespace Go.Proofs.YtknckbedddeijaaGreat
open Go.RowKit
set_option linter.unusedVariables false
/-- A session. -/
structure Se where
 c : Int
 s : Int
 i : Int
 r : Re
def seE : Enc Se := ⟨5, fun a => [.int .i64 a.c, .int .i64 a.s, .int .i64 a.i, .int .i64 a.r.c, .string a.r.d], ⟨0, 0, 0, ⟨0, ⟨#[]⟩⟩⟩, fun _ => rfl, by decide, by intro a u hu; simp at hu; rcases hu with rfl | rfl | rfl | rfl | rfl <;> rfl⟩
abbrev seA (a : Se) : Array Value := #[.int .i64 a.c, .int .i64 a.s, .int .i64 a.i, .int .i64 a.r.c, .string a.r.d]
abbrev seV (a : Se) : Value := .agg (seA a)
theorem seE_cell {w : World} {N : Nat} {v : Value} {L : List Se} (h : Row seE w N v L) : ∃ a cap, v = .slice a L.length cap ∧ L.length ≤ cap ∧ cap ≤ 9223372036854775807 ∧
  (L ≠ [] → ∃ b off, a = some ⟨b, off, none⟩ ∧ b < N ∧ ∀ j (h : j < L.length), w.cell? ⟨b, off + j * 5, none⟩ = some (.int .i64 L[j].c) ∧ w.cell? ⟨b, off + j * 5 + 1, none⟩ = some (.int .i64 L[j].s) ∧ w.cell? ⟨b, off + j * 5 + 2, none⟩ = some (.int .i64 L[j].i) ∧ w.cell? ⟨b, off + j * 5 + 3, none⟩ = some (.int .i64 L[j].r.c) ∧ w.cell? ⟨b, off + j * 5 + 4, none⟩ = some (.string L[j].r.d)) := by
 obtain ⟨a, cap, h0, h1, h2, h3⟩ := h
 refine ⟨a, cap, h0, h1, h2, fun hL => ?_⟩
 obtain ⟨b, off, ha, hb, hc⟩ := h3 hL
 refine ⟨b, off, ha, hb, fun j hj => ⟨?_, ?_, ?_, ?_, ?_⟩⟩
 ·have := hc j hj 0 (by decide)
  simpa [seE] using this
 ·have := hc j hj 1 (by decide)
  simpa [seE] using this
 ·have := hc j hj 2 (by decide)
  simpa [seE] using this
 ·have := hc j hj 3 (by decide)
  simpa [seE] using this
 ·have := hc j hj 4 (by decide)
  simpa [seE] using this
/-- Is a session right but for its client? -/
def sesB (a : Se) : Bool := inB a.s 1 1000000 && (inB a.i 1 100000 && resB a.r)
/-- Are the sessions right, the clients from m on? -/
def sessFrom (m : Int) : List Se → Bool
 | [] => true
 | a :: l => inB a.c m 3 && sesB a && sessFrom (a.c + 1) l
theorem sessFrom_drop (m : Int) (l : List Se) (j : Nat) (h : j < l.length) : sessFrom m (l.drop j) = (inB l[j].c m 3 && sesB l[j] && sessFrom (l[j].c + 1) (l.drop (j + 1))) := by
 rw [List.drop_eq_getElem_cons h, sessFrom]
theorem sessFrom_end (m : Int) (l : List Se) : sessFrom m (l.drop l.length) = true := by
 rw [List.drop_length]; rfl
theorem sessFrom_len {m : Int} {l : List Se} (h : sessFrom m l = true) (hm : m ≤ 4) : (l.length : Int) ≤ 4 - m := by
 induction l generalizing m with
 | nil => simp; omega
 | cons a l ih =>
  simp only [sessFrom, Bool.and_eq_true] at h
  obtain ⟨⟨h1, _⟩, h3⟩ := h
  have h4 : m ≤ a.c ∧ a.c ≤ 3 := by simpa [inB] using h1
  have := ih h3 (by omega)
  simp only [List.length_cons, Int.natCast_add, Int.natCast_one]
  omega
theorem sessFrom_long {l : List Se} (h : ¬ l.length ≤ 3) : sessFrom 1 l = false := by
 cases h2 : sessFrom 1 l with
 | false => rfl
 | true => have := sessFrom_len h2 (by omega); omega
end Go.Proofs.YtknckbedddeijaaGreat
namespace Go.Proofs.YtknckbedddeijaaGreat
open Go.RowKit
set_option linter.unusedVariables false
/-- A session at the front, and what is left. -/
noncomputable def sesO (l : List UInt8) : Option (Se × List UInt8) :=
 (numO l).bind fun a => (numO a.2).bind fun b => (numO b.2).bind fun c => (insRO c.2).bind fun d => some (⟨(a.1 : Int), (b.1 : Int), (c.1 : Int), ⟨(d.1.1 : Int), ⟨d.1.2.toArray⟩⟩⟩, d.2)
abbrev zSe : Array Value := #[.int .i64 0, .int .i64 0, .int .i64 0, .int .i64 0, .string ⟨#[]⟩]
def SesC (b : Nat) (q : ByteArray) (w : World) (e : Ending) (w' : World) : Prop :=
 (∃ (n : Se) (q' : ByteArray), e = .returned (seV n) ∧ Hid (sesO q.data.toList = some (n, q'.data.toList)) ∧ CurAt w' b q' ∧ q'.size ≤ 1048576 ∧ Only (fun k => k = b) w w') ∨ (Lack e ∧ Hid (sesO q.data.toList = none) ∧ Only (fun k => k = b) w w')
set_option maxRecDepth 100000 in
set_option maxHeartbeats 4000000 in
theorem sessionC_any (b : Nat) (q0 : ByteArray) (w : World) (hc : CurAt w b q0) (s0 : q0.size ≤ 1048576) :
  Calls Tryz.prog 50 #[.pointer (some ⟨b, 0, none⟩)] w (SesC b q0 w) := by
 have hlt := hc.lt
 go_enter Tryz.func50, Tryz.ntmps50
 go_wp2_with fail
 obtain ⟨W0, hW, bW, zW, cW, fW⟩ := boxed w zSe 61
 simp only [hW]
 have c0 : CurAt W0 b q0 := hc.kept bW
 have b0 : Only (fun k => k = b) w W0 := ob_any bW
 have X0 : Hid (Blk W0 w.heap.size zSe) := ⟨by omega, cW, fW⟩
 have hne : ¬ w.heap.size = b := by omega
 clear hW bW zW cW fW hc
 refine (number_any b q0 _ c0 s0).mono ?_
 rintro e w1 (⟨xc, q1, rfl, hn, rfl⟩ | ⟨⟨pv, rfl⟩, hn, rfl⟩)
 rotate_left 1
 ·have HP : Hid (sesO q0.data.toList = none) := by
   have e0 := numO_no hn
   unfold Hid
   simp only [sesO, e0, Option.bind_none]
  clear hn X0
  go_wp2
  exact ⟨rfl, .inr ⟨⟨_, rfl⟩, HP, b0⟩⟩
 have H0 : Hid (numO q0.data.toList = some (xc, q1.data.toList)) := numO_yes hn
 have s1 : q1.size ≤ 1048576 := num_size hn s0
 have c1 : CurAt (_) b q1 := c0.set
 have b1 := b0.trans (ob_set b _ (.string q1))
 have X1 := Hid.intro (X0.out.only (ob_set b _ (.string q1)) hne)
 revert c1 b1 X1
 generalize World.setCell _ ⟨b, 0, none⟩ (.string q1) = W1
 intro c1 b1 X1
 clear hn c0 b0 s0 X0
 go_wp2_with fail
 refine (number_any b q1 _ c1 s1).mono ?_
 rintro e w1 (⟨xs, q2, rfl, hn, rfl⟩ | ⟨⟨pv, rfl⟩, hn, rfl⟩)
 rotate_left 1
 ·have HP : Hid (sesO q0.data.toList = none) := by
   have e1 := numO_no hn
   unfold Hid
   simp only [sesO, H0.out, e1, Option.bind_some, Option.bind_none]
  clear hn X1
  go_wp2
  exact ⟨rfl, .inr ⟨⟨_, rfl⟩, HP, b1⟩⟩
 have H1 : Hid (numO q1.data.toList = some (xs, q2.data.toList)) := numO_yes hn
 have s2 : q2.size ≤ 1048576 := num_size hn s1
 have c2 : CurAt (_) b q2 := c1.set
 have b2 := b1.trans (ob_set b _ (.string q2))
 have X2 := Hid.intro (X1.out.only (ob_set b _ (.string q2)) hne)
 revert c2 b2 X2
 generalize World.setCell _ ⟨b, 0, none⟩ (.string q2) = W2
 intro c2 b2 X2
 clear hn c1 b1 s1 X1
 go_wp2_with fail
 refine (number_any b q2 _ c2 s2).mono ?_
 rintro e w1 (⟨xi, q3, rfl, hn, rfl⟩ | ⟨⟨pv, rfl⟩, hn, rfl⟩)
 rotate_left 1
 ·have HP : Hid (sesO q0.data.toList = none) := by
   have e2 := numO_no hn
   unfold Hid
   simp only [sesO, H0.out, H1.out, e2, Option.bind_some, Option.bind_none]
  clear hn X2
  go_wp2
  exact ⟨rfl, .inr ⟨⟨_, rfl⟩, HP, b2⟩⟩
 have H2 : Hid (numO q2.data.toList = some (xi, q3.data.toList)) := numO_yes hn
 have s3 : q3.size ≤ 1048576 := num_size hn s2
 have c3 : CurAt (_) b q3 := c2.set
 have b3 := b2.trans (ob_set b _ (.string q3))
 have X3 := Hid.intro (X2.out.only (ob_set b _ (.string q3)) hne)
 revert c3 b3 X3
 generalize World.setCell _ ⟨b, 0, none⟩ (.string q3) = W3
 intro c3 b3 X3
 clear hn c2 b2 s2 X2
 go_wp2_with fail
 refine (insR_any b q3 _ c3 s3).mono ?_
 rintro e W5 (⟨rc, rd, q5, rfl, hv, c5, s5, o5⟩ | ⟨⟨pv, rfl⟩, hv, o5⟩)
 rotate_left 1
 ·have HP : Hid (sesO q0.data.toList = none) := by
   unfold Hid
   simp only [sesO, H0.out, H1.out, H2.out, hv.out, Option.bind_some, Option.bind_none]
  have HB := Hid.intro (b3.trans o5)
  clear hv X3 o5
  go_wp2
  exact ⟨rfl, .inr ⟨⟨_, rfl⟩, HP, HB.out⟩⟩
 have HP : Hid (sesO q0.data.toList = some (⟨(xc : Int), (xs : Int), (xi : Int), ⟨(rc : Int), rd⟩⟩, q5.data.toList)) := by
  unfold Hid
  simp only [sesO, H0.out, H1.out, H2.out, hv.out, Option.bind_some, ba_of]
 have X5 := Hid.intro (X3.out.only o5 hne)
 have b5 := Hid.intro (b3.trans o5)
 clear c3 b3 X3 o5 hv
 have kr := X5.out.cell
 have fr := X5.out.fro
 have hXh := X5.out.hi
 have r0 : W5.cell? ⟨w.heap.size, 0, none⟩ = some (.int .i64 0) := kr 0
 have r1 : W5.cell? ⟨w.heap.size, 1, none⟩ = some (.int .i64 0) := kr 1
 have r2 : W5.cell? ⟨w.heap.size, 2, none⟩ = some (.int .i64 0) := kr 2
 have r3 : W5.cell? ⟨w.heap.size, 3, none⟩ = some (.int .i64 0) := kr 3
 have r4 : W5.cell? ⟨w.heap.size, 4, none⟩ = some (.string ⟨#[]⟩) := kr 4
 clear kr
 have OE : Hid (∀ Z, Only (fun k => k = w.heap.size) W5 Z → CurAt Z b q5 ∧ Only (fun k => k = b) w Z) := fun Z hZ => ⟨c5.only hZ (by omega), b5.out.then hZ (fun k hk e => by omega)⟩
 go_wp2
 refine bodyPost_ret (v := seV ⟨(xc : Nat), (xs : Nat), (xi : Nat), ⟨(rc : Nat), rd⟩⟩) (by simp [results, Tryz.results50, go_sem, r0, r1, r2, r3, r4]) rfl (.inl ⟨⟨(xc : Nat), (xs : Nat), (xi : Nat), ⟨(rc : Nat), rd⟩⟩, q5, rfl, HP, (OE.out _ ?_).1, s5, (OE.out _ ?_).2⟩)
 ·repeat (refine Only.setCell ?_ (by simp) _)
  exact Only.refl _ _
 ·repeat (refine Only.setCell ?_ (by simp) _)
  exact Only.refl _ _
end Go.Proofs.YtknckbedddeijaaGreat
namespace Go.Proofs.YtknckbedddeijaaGreat
open Go.RowKit
set_option linter.unusedVariables false
/-- A note. -/
structure Nt where
 i : Int
 c : Int
 s : Int
 k : Int
 d : Int
def ntE : Enc Nt := ⟨5, fun a => [.int .i64 a.i, .int .i64 a.c, .int .i64 a.s, .int .i64 a.k, .int .i64 a.d], ⟨0, 0, 0, 0, 0⟩, fun _ => rfl, by decide, by intro a u hu; simp at hu; rcases hu with rfl | rfl | rfl | rfl | rfl <;> rfl⟩
abbrev ntA (a : Nt) : Array Value := #[.int .i64 a.i, .int .i64 a.c, .int .i64 a.s, .int .i64 a.k, .int .i64 a.d]
abbrev ntV (a : Nt) : Value := .agg (ntA a)
theorem ntE_cell {w : World} {N : Nat} {v : Value} {L : List Nt} (h : Row ntE w N v L) : ∃ a cap, v = .slice a L.length cap ∧ L.length ≤ cap ∧ cap ≤ 9223372036854775807 ∧
  (L ≠ [] → ∃ b off, a = some ⟨b, off, none⟩ ∧ b < N ∧ ∀ j (h : j < L.length), w.cell? ⟨b, off + j * 5, none⟩ = some (.int .i64 L[j].i) ∧ w.cell? ⟨b, off + j * 5 + 1, none⟩ = some (.int .i64 L[j].c) ∧ w.cell? ⟨b, off + j * 5 + 2, none⟩ = some (.int .i64 L[j].s) ∧ w.cell? ⟨b, off + j * 5 + 3, none⟩ = some (.int .i64 L[j].k) ∧ w.cell? ⟨b, off + j * 5 + 4, none⟩ = some (.int .i64 L[j].d)) := by
 obtain ⟨a, cap, h0, h1, h2, h3⟩ := h
 refine ⟨a, cap, h0, h1, h2, fun hL => ?_⟩
 obtain ⟨b, off, ha, hb, hc⟩ := h3 hL
 refine ⟨b, off, ha, hb, fun j hj => ⟨?_, ?_, ?_, ?_, ?_⟩⟩
 ·have := hc j hj 0 (by decide)
  simpa [ntE] using this
 ·have := hc j hj 1 (by decide)
  simpa [ntE] using this
 ·have := hc j hj 2 (by decide)
  simpa [ntE] using this
 ·have := hc j hj 3 (by decide)
  simpa [ntE] using this
 ·have := hc j hj 4 (by decide)
  simpa [ntE] using this
/-- Is a note right but for its number? -/
def noteB (a : Nt) : Bool := inB a.c 1 3 && (inB a.s 1 1000000 && (inB a.k 1 22 && inB a.d 0 200))
/-- Are the notes right, the numbers from m on? -/
def auditFrom (m : Int) : List Nt → Bool
 | [] => true
 | a :: l => inB a.i m 100000 && noteB a && auditFrom a.i l
def auditB (l : List Nt) : Bool := decide (l.length ≤ 20) && auditFrom 1 l
theorem auditB_long {l : List Nt} (h : ¬ l.length ≤ 20) : auditB l = false := by simp [auditB, h]
theorem auditB_from {l : List Nt} (h : l.length ≤ 20) : auditB l = auditFrom 1 l := by simp [auditB, h]
theorem auditFrom_drop (m : Int) (l : List Nt) (j : Nat) (h : j < l.length) : auditFrom m (l.drop j) = (inB l[j].i m 100000 && noteB l[j] && auditFrom l[j].i (l.drop (j + 1))) := by
 rw [List.drop_eq_getElem_cons h, auditFrom]
theorem auditFrom_end (m : Int) (l : List Nt) : auditFrom m (l.drop l.length) = true := by
 rw [List.drop_length]; rfl
theorem inB_of' {x a b : Int} (h : inB x a b = true) : a ≤ x ∧ x ≤ b := by simpa [inB] using h
theorem inB_not {x a b : Int} (h : inB x a b = false) : ¬ (a ≤ x ∧ x ≤ b) := by
 intro h2; rw [inB_true h2] at h; cases h
end Go.Proofs.YtknckbedddeijaaGreat
namespace Go.Proofs.YtknckbedddeijaaGreat
open Go.RowKit
set_option linter.unusedVariables false
/-- A note at the front, and what is left. -/
noncomputable def notO (l : List UInt8) : Option (Nt × List UInt8) :=
 (numO l).bind fun a => (numO a.2).bind fun b => (numO b.2).bind fun c => (numO c.2).bind fun d => (numO d.2).bind fun e => some (⟨(a.1 : Int), (b.1 : Int), (c.1 : Int), (d.1 : Int), (e.1 : Int)⟩, e.2)
abbrev zNt : Array Value := #[.int .i64 0, .int .i64 0, .int .i64 0, .int .i64 0, .int .i64 0]
def NotC (b : Nat) (q : ByteArray) (w : World) (e : Ending) (w' : World) : Prop :=
 (∃ (n : Nt) (q' : ByteArray), e = .returned (.agg #[.int .i64 n.i, .int .i64 n.c, .int .i64 n.s, .int .i64 n.k, .int .i64 n.d]) ∧ Hid (notO q.data.toList = some (n, q'.data.toList)) ∧ CurAt w' b q' ∧ q'.size ≤ 1048576 ∧ Only (fun k => k = b) w w') ∨ (Lack e ∧ Hid (notO q.data.toList = none) ∧ Only (fun k => k = b) w w')
set_option maxRecDepth 100000 in
set_option maxHeartbeats 4000000 in
theorem noteC_any (b : Nat) (q0 : ByteArray) (w : World) (hc : CurAt w b q0) (s0 : q0.size ≤ 1048576) :
  Calls Tryz.prog 49 #[.pointer (some ⟨b, 0, none⟩)] w (NotC b q0 w) := by
 have hlt := hc.lt
 go_enter Tryz.func49, Tryz.ntmps49
 go_wp2_with fail
 obtain ⟨W0, hW, bW, zW, cW, fW⟩ := boxed w zNt 55
 simp only [hW]
 have c0 : CurAt W0 b q0 := hc.kept bW
 have b0 : Only (fun k => k = b) w W0 := ob_any bW
 have X0 : Hid (Blk W0 w.heap.size zNt) := ⟨by omega, cW, fW⟩
 have hne : ¬ w.heap.size = b := by omega
 clear hW bW zW cW fW hc
 refine (number_any b q0 _ c0 s0).mono ?_
 rintro e w1 (⟨xi, q1, rfl, hn, rfl⟩ | ⟨⟨pv, rfl⟩, hn, rfl⟩)
 rotate_left 1
 ·have HP : Hid (notO q0.data.toList = none) := by
   have e0 := numO_no hn
   unfold Hid
   simp only [notO, e0, Option.bind_none]
  clear hn X0
  go_wp2
  exact ⟨rfl, .inr ⟨⟨_, rfl⟩, HP, b0⟩⟩
 have H0 : Hid (numO q0.data.toList = some (xi, q1.data.toList)) := numO_yes hn
 have s1 : q1.size ≤ 1048576 := num_size hn s0
 have c1 : CurAt (_) b q1 := c0.set
 have b1 := b0.trans (ob_set b _ (.string q1))
 have X1 := Hid.intro (X0.out.only (ob_set b _ (.string q1)) hne)
 revert c1 b1 X1
 generalize World.setCell _ ⟨b, 0, none⟩ (.string q1) = W1
 intro c1 b1 X1
 clear hn c0 b0 s0 X0
 go_wp2_with fail
 refine (number_any b q1 _ c1 s1).mono ?_
 rintro e w1 (⟨xc, q2, rfl, hn, rfl⟩ | ⟨⟨pv, rfl⟩, hn, rfl⟩)
 rotate_left 1
 ·have HP : Hid (notO q0.data.toList = none) := by
   have e1 := numO_no hn
   unfold Hid
   simp only [notO, H0.out, e1, Option.bind_some, Option.bind_none]
  clear hn X1
  go_wp2
  exact ⟨rfl, .inr ⟨⟨_, rfl⟩, HP, b1⟩⟩
 have H1 : Hid (numO q1.data.toList = some (xc, q2.data.toList)) := numO_yes hn
 have s2 : q2.size ≤ 1048576 := num_size hn s1
 have c2 : CurAt (_) b q2 := c1.set
 have b2 := b1.trans (ob_set b _ (.string q2))
 have X2 := Hid.intro (X1.out.only (ob_set b _ (.string q2)) hne)
 revert c2 b2 X2
 generalize World.setCell _ ⟨b, 0, none⟩ (.string q2) = W2
 intro c2 b2 X2
 clear hn c1 b1 s1 X1
 go_wp2_with fail
 refine (number_any b q2 _ c2 s2).mono ?_
 rintro e w1 (⟨xs, q3, rfl, hn, rfl⟩ | ⟨⟨pv, rfl⟩, hn, rfl⟩)
 rotate_left 1
 ·have HP : Hid (notO q0.data.toList = none) := by
   have e2 := numO_no hn
   unfold Hid
   simp only [notO, H0.out, H1.out, e2, Option.bind_some, Option.bind_none]
  clear hn X2
  go_wp2
  exact ⟨rfl, .inr ⟨⟨_, rfl⟩, HP, b2⟩⟩
 have H2 : Hid (numO q2.data.toList = some (xs, q3.data.toList)) := numO_yes hn
 have s3 : q3.size ≤ 1048576 := num_size hn s2
 have c3 : CurAt (_) b q3 := c2.set
 have b3 := b2.trans (ob_set b _ (.string q3))
 have X3 := Hid.intro (X2.out.only (ob_set b _ (.string q3)) hne)
 revert c3 b3 X3
 generalize World.setCell _ ⟨b, 0, none⟩ (.string q3) = W3
 intro c3 b3 X3
 clear hn c2 b2 s2 X2
 go_wp2_with fail
 refine (number_any b q3 _ c3 s3).mono ?_
 rintro e w1 (⟨xk, q4, rfl, hn, rfl⟩ | ⟨⟨pv, rfl⟩, hn, rfl⟩)
 rotate_left 1
 ·have HP : Hid (notO q0.data.toList = none) := by
   have e3 := numO_no hn
   unfold Hid
   simp only [notO, H0.out, H1.out, H2.out, e3, Option.bind_some, Option.bind_none]
  clear hn X3
  go_wp2
  exact ⟨rfl, .inr ⟨⟨_, rfl⟩, HP, b3⟩⟩
 have H3 : Hid (numO q3.data.toList = some (xk, q4.data.toList)) := numO_yes hn
 have s4 : q4.size ≤ 1048576 := num_size hn s3
 have c4 : CurAt (_) b q4 := c3.set
 have b4 := b3.trans (ob_set b _ (.string q4))
 have X4 := Hid.intro (X3.out.only (ob_set b _ (.string q4)) hne)
 revert c4 b4 X4
 generalize World.setCell _ ⟨b, 0, none⟩ (.string q4) = W4
 intro c4 b4 X4
 clear hn c3 b3 s3 X3
 go_wp2_with fail
 refine (number_any b q4 _ c4 s4).mono ?_
 rintro e w1 (⟨xd, q5, rfl, hn, rfl⟩ | ⟨⟨pv, rfl⟩, hn, rfl⟩)
 rotate_left 1
 ·have HP : Hid (notO q0.data.toList = none) := by
   have e4 := numO_no hn
   unfold Hid
   simp only [notO, H0.out, H1.out, H2.out, H3.out, e4, Option.bind_some, Option.bind_none]
  clear hn X4
  go_wp2
  exact ⟨rfl, .inr ⟨⟨_, rfl⟩, HP, b4⟩⟩
 have H4 : Hid (numO q4.data.toList = some (xd, q5.data.toList)) := numO_yes hn
 have s5 : q5.size ≤ 1048576 := num_size hn s4
 have c5 : CurAt (_) b q5 := c4.set
 have b5 := b4.trans (ob_set b _ (.string q5))
 have X5 := Hid.intro (X4.out.only (ob_set b _ (.string q5)) hne)
 revert c5 b5 X5
 generalize World.setCell _ ⟨b, 0, none⟩ (.string q5) = W5
 intro c5 b5 X5
 clear hn c4 b4 s4 X4
 have HP : Hid (notO q0.data.toList = some (⟨(xi : Int), (xc : Int), (xs : Int), (xk : Int), (xd : Int)⟩, q5.data.toList)) := by
  unfold Hid
  simp only [notO, H0.out, H1.out, H2.out, H3.out, H4.out, Option.bind_some]
 have kr := X5.out.cell
 have fr := X5.out.fro
 have hXh := X5.out.hi
 have r0 : W5.cell? ⟨w.heap.size, 0, none⟩ = some (.int .i64 0) := kr 0
 have r1 : W5.cell? ⟨w.heap.size, 1, none⟩ = some (.int .i64 0) := kr 1
 have r2 : W5.cell? ⟨w.heap.size, 2, none⟩ = some (.int .i64 0) := kr 2
 have r3 : W5.cell? ⟨w.heap.size, 3, none⟩ = some (.int .i64 0) := kr 3
 have r4 : W5.cell? ⟨w.heap.size, 4, none⟩ = some (.int .i64 0) := kr 4
 clear kr
 have OE : Hid (∀ Z, Only (fun k => k = w.heap.size) W5 Z → CurAt Z b q5 ∧ Only (fun k => k = b) w Z) := fun Z hZ => ⟨⟨by have := hZ.size; have := c5.lt; omega, (hZ.cell c5.lt (by omega)).trans c5.cell, (hZ.frozen c5.lt (by omega)).trans c5.fro⟩, b5.then hZ (fun k hk e => by omega)⟩
 go_wp2
 refine bodyPost_ret (v := .agg #[.int .i64 xi, .int .i64 xc, .int .i64 xs, .int .i64 xk, .int .i64 xd]) (by simp [results, Tryz.results49, go_sem, r0, r1, r2, r3, r4]) rfl (.inl ⟨⟨xi, xc, xs, xk, xd⟩, q5, rfl, HP, (OE.out _ ?_).1, s5, (OE.out _ ?_).2⟩)
 ·repeat (refine Only.setCell ?_ (by simp) _)
  exact Only.refl _ _
 ·repeat (refine Only.setCell ?_ (by simp) _)
  exact Only.refl _ _
end Go.Proofs.YtknckbedddeijaaGreat
namespace Go.Proofs.YtknckbedddeijaaGreat
open Go.RowKit
set_option linter.unusedVariables false
theorem infoSe1 : (Tryz.prog.info? 61).map (fun i => (i.zero, i.size, i.bytes)) = some (some (.agg #[.int .i64 0, .int .i64 0, .int .i64 0, .int .i64 0, .string ⟨#[]⟩]), 5, 48) := by kernel_rfl
theorem infoSe : ∃ i, Tryz.prog.info? 61 = some i ∧ i.zero = some (.agg #[.int .i64 0, .int .i64 0, .int .i64 0, .int .i64 0, .string ⟨#[]⟩]) ∧ i.size = 5 ∧ i.bytes = 48 := info_parts infoSe1
set_option maxHeartbeats 1000000 in
theorem eqResult_same (r : Re) (w : World) :
  Calls Tryz.prog 71 #[reV r, reV r] w fun e w' => e = .returned (.bool true) ∧ Below w.heap.size w w' := by
 go_enter Tryz.func71, Tryz.ntmps71
 go_wp2
 go_ret
 exact ⟨rfl, two_below _ _ _⟩
set_option maxHeartbeats 1000000 in
theorem eqSession_any (d : Se) (w : World) :
  Calls Tryz.prog 57 #[seV d, seV d] w fun e w' => e = .returned (.bool true) ∧ Below w.heap.size w w' := by
 go_enter Tryz.func57, Tryz.ntmps57
 go_wp2_with fail
 obtain ⟨W, hW, bW, zW, c1, f1, c2, f2⟩ := boxed2 w (seA d) (seA d) 61 61
 try simp only [hW]
 refine (eqResult_same d.r W).mono ?_
 rintro e w1 ⟨rfl, b1⟩
 have HB := Hid.intro (bW.trans (b1.mono (by omega)))
 clear hW bW b1 f1 f2 c1 c2
 go_wp2
 go_ret
 exact ⟨rfl, HB.out⟩
set_option maxRecDepth 100000 in
set_option maxHeartbeats 2000000 in
theorem eqSessionS_any (L : List Se) (v1 v2 : Value) (N : Nat) (w : World) (hN : N ≤ w.heap.size) (h1 : Row seE w N v1 L) (h2 : Row seE w N v2 L) :
  Calls Tryz.prog 34 #[v1, v2] w fun e w' => e = .returned (.bool true) ∧ Below w.heap.size w w' := by
 obtain ⟨a1, cap1, rfl, l1, m1, hc1⟩ := seE_cell h1
 obtain ⟨a2, cap2, rfl, l2, m2, hc2⟩ := seE_cell h2
 have H1 := Hid.intro hc1
 have H2 := Hid.intro hc2
 clear hc1 hc2 h1 h2
 go_enter Tryz.func34, Tryz.ntmps34
 go_wp2
 go_loopw [5] (fun i wr => ∃ (j : Nat), i = .int .i64 j ∧ j ≤ L.length ∧ Below w.heap.size w wr) (fun i _ => L.length - (intOf i).toNat)
 case atStart => exact ⟨0, rfl, Nat.zero_le _, Below.refl _ _⟩
 case round =>
  obtain ⟨j, rfl, hj, hbel⟩ := hrel
  by_cases hlt : j < L.length
  ·have hne : L ≠ [] := by intro h; rw [h] at hlt; simp at hlt
   obtain ⟨b1, o1, rfl, hb1, cc1⟩ := H1.out hne
   obtain ⟨b2, o2, rfl, hb2, cc2⟩ := H2.out hne
   obtain ⟨p0, p1, p2, p3, p4⟩ := cc1 j hlt
   obtain ⟨q0, q1, q2, q3, q4⟩ := cc2 j hlt
   generalize L[j] = ej at p0 p1 p2 p3 p4 q0 q1 q2 q3 q4
   have hs := hbel.size
   have HC : Hid (∀ w', Below wr.heap.size wr w' → Below w.heap.size w w') := fun w' hb => hbel.trans (hb.mono hs)
   have hp0 := atCell hbel p0 (by omega)
   have hp1 := atCell hbel p1 (by omega)
   have hp2 := atCell hbel p2 (by omega)
   have hp3 := atCell hbel p3 (by omega)
   have hp4 := atCell hbel p4 (by omega)
   have hq0 := atCell hbel q0 (by omega)
   have hq1 := atCell hbel q1 (by omega)
   have hq2 := atCell hbel q2 (by omega)
   have hq3 := atCell hbel q3 (by omega)
   have hq4 := atCell hbel q4 (by omega)
   have i1 : (0 : Int) ≤ (j : Int) ∧ (j : Int) < (L.length : Int) := by omega
   have HJ : Hid (j < L.length) := hlt
   have hjl : (j : Int) < (L.length : Int) := by omega
   clear cc1 cc2 p0 p1 p2 p3 p4 q0 q1 q2 q3 q4 hne
   go_wp2
   go_region_with (go_at_call 57; refine (eqSession_any _ _).mono ?_; rintro e w2 ⟨rfl, b2⟩; have B2 := HC.out w2 (by first | exact b2 | exact ((Below.refl _ _).drew).trans b2 | exact ((Below.refl _ _).drew.drew).trans b2); clear b2)
   all_goals
    clear HC
    go_wp2
    go_roundw
    case rel => exact ⟨j + 1, by go_num, by omega, B2⟩
    case measure => simp [intOf]; omega
  ·obtain rfl : j = L.length := by omega
   go_wp2
   go_ret
   exact ⟨rfl, hbel⟩
end Go.Proofs.YtknckbedddeijaaGreat
namespace Go.Proofs.YtknckbedddeijaaGreat
open Go.RowKit
set_option linter.unusedVariables false
theorem infoNt1 : (Tryz.prog.info? 55).map (fun i => (i.zero, i.size, i.bytes)) = some (some (.agg #[.int .i64 0, .int .i64 0, .int .i64 0, .int .i64 0, .int .i64 0]), 5, 40) := by kernel_rfl
theorem infoNt : ∃ i, Tryz.prog.info? 55 = some i ∧ i.zero = some (.agg #[.int .i64 0, .int .i64 0, .int .i64 0, .int .i64 0, .int .i64 0]) ∧ i.size = 5 ∧ i.bytes = 40 := info_parts infoNt1
set_option maxHeartbeats 1000000 in
theorem eqNote_any (d : Nt) (w : World) :
  Calls Tryz.prog 56 #[ntV d, ntV d] w fun e w' => e = .returned (.bool true) ∧ Below w.heap.size w w' := by
 go_enter Tryz.func56, Tryz.ntmps56
 go_wp2
 go_ret
 exact ⟨rfl, two_below _ _ _⟩
set_option maxRecDepth 100000 in
set_option maxHeartbeats 2000000 in
theorem eqNoteS_any (L : List Nt) (v1 v2 : Value) (N : Nat) (w : World) (hN : N ≤ w.heap.size) (h1 : Row ntE w N v1 L) (h2 : Row ntE w N v2 L) :
  Calls Tryz.prog 33 #[v1, v2] w fun e w' => e = .returned (.bool true) ∧ Below w.heap.size w w' := by
 obtain ⟨a1, cap1, rfl, l1, m1, hc1⟩ := ntE_cell h1
 obtain ⟨a2, cap2, rfl, l2, m2, hc2⟩ := ntE_cell h2
 have H1 := Hid.intro hc1
 have H2 := Hid.intro hc2
 clear hc1 hc2 h1 h2
 go_enter Tryz.func33, Tryz.ntmps33
 go_wp2
 go_loopw [5] (fun i wr => ∃ (j : Nat), i = .int .i64 j ∧ j ≤ L.length ∧ Below w.heap.size w wr) (fun i _ => L.length - (intOf i).toNat)
 case atStart => exact ⟨0, rfl, Nat.zero_le _, Below.refl _ _⟩
 case round =>
  obtain ⟨j, rfl, hj, hbel⟩ := hrel
  by_cases hlt : j < L.length
  ·have hne : L ≠ [] := by intro h; rw [h] at hlt; simp at hlt
   obtain ⟨b1, o1, rfl, hb1, cc1⟩ := H1.out hne
   obtain ⟨b2, o2, rfl, hb2, cc2⟩ := H2.out hne
   obtain ⟨p0, p1, p2, p3, p4⟩ := cc1 j hlt
   obtain ⟨q0, q1, q2, q3, q4⟩ := cc2 j hlt
   generalize L[j] = ej at p0 p1 p2 p3 p4 q0 q1 q2 q3 q4
   have hs := hbel.size
   have HC : Hid (∀ w', Below wr.heap.size wr w' → Below w.heap.size w w') := fun w' hb => hbel.trans (hb.mono hs)
   have hp0 := atCell hbel p0 (by omega)
   have hp1 := atCell hbel p1 (by omega)
   have hp2 := atCell hbel p2 (by omega)
   have hp3 := atCell hbel p3 (by omega)
   have hp4 := atCell hbel p4 (by omega)
   have hq0 := atCell hbel q0 (by omega)
   have hq1 := atCell hbel q1 (by omega)
   have hq2 := atCell hbel q2 (by omega)
   have hq3 := atCell hbel q3 (by omega)
   have hq4 := atCell hbel q4 (by omega)
   have i1 : (0 : Int) ≤ (j : Int) ∧ (j : Int) < (L.length : Int) := by omega
   have HJ : Hid (j < L.length) := hlt
   have hjl : (j : Int) < (L.length : Int) := by omega
   clear cc1 cc2 p0 p1 p2 p3 p4 q0 q1 q2 q3 q4 hne
   go_wp2
   go_region_with (go_at_call 56; refine (eqNote_any _ _).mono ?_; rintro e w2 ⟨rfl, b2⟩; have B2 := HC.out w2 (by first | exact b2 | exact ((Below.refl _ _).drew).trans b2 | exact ((Below.refl _ _).drew.drew).trans b2); clear b2)
   all_goals
    clear HC
    go_wp2
    go_roundw
    case rel => exact ⟨j + 1, by go_num, by omega, B2⟩
    case measure => simp [intOf]; omega
  ·obtain rfl : j = L.length := by omega
   go_wp2
   go_ret
   exact ⟨rfl, hbel⟩
end Go.Proofs.YtknckbedddeijaaGreat
