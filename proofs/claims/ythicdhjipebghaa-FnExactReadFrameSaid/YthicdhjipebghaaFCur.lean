/- A cursor's slots and its frame. -/
import Derived.Test.YthicdhjipebghaaECurL
import Derived.Test.YthicdhjipebghaaFSlot
import Derived.Deep.Cut
import Derived.Maps.AppendAt
namespace Go.Proofs.Ythicdhjipebghaa
open Go.RowKit
set_option linter.unusedVariables false
/-- A piece at the front that is a call and no more, and what is left behind it. -/
noncomputable def insCO (l : List UInt8) : Option (Cn × List UInt8) :=
  (pieO l).bind fun p => (callO p.1).bind fun v => if v.2 = [] then some (v.1, p.2) else none
def InsC (b : Nat) (q : ByteArray) (w : World) (e : Ending) (w' : World) : Prop :=
  (∃ (c : Cn) (q' : ByteArray), e = .returned (caV (caOf c)) ∧ Hid (insCO q.data.toList = some (c, q'.data.toList)) ∧ CurAt w' b q' ∧ q'.size ≤ 1048576 ∧ Only (fun k => k = b) w w') ∨ (Lack e ∧ Hid (insCO q.data.toList = none) ∧ Only (fun k => k = b) w w')
theorem bs_mtF {d : ByteArray} (h : d.size = 0) : d.toList.isEmpty = true := by
  rw [ByteArray.toList_eq]
  obtain ⟨⟨l⟩⟩ := d
  simpa [ByteArray.size] using h
theorem bs_nmF {d : ByteArray} (h : ¬ d.size = 0) : d.toList.isEmpty = false := by
  rw [ByteArray.toList_eq]
  obtain ⟨⟨l⟩⟩ := d
  simpa [ByteArray.size] using h
theorem pie_szF {q p q' : ByteArray} (h : pieO q.data.toList = some (p.data.toList, q'.data.toList)) (hs : q.size ≤ 1048576) : p.size ≤ 1048576 := by
  have h2 := congrArg List.length (pieO_out h).2
  simp only [List.length_append] at h2
  have e1 : p.data.toList.length = p.size := by simp
  have e2 : q.data.toList.length = q.size := by simp
  omega
set_option maxRecDepth 100000 in
set_option maxHeartbeats 4000000 in
theorem insC_any (b : Nat) (q0 : ByteArray) (w : World) (hc : CurAt w b q0) (s0 : q0.size ≤ 1048576) :
    Calls Try.prog 49 #[.pointer (some ⟨b, 0, none⟩), .func (Fn.func 50) #[] #[]] w (InsC b q0 w) := by
  have hlt := hc.lt
  go_enter Try.func49, Try.ntmps49
  go_wp2_with fail
  obtain ⟨W0, hW, bW, zW, cW, fW⟩ := boxed w #[.int .i64 0, .string ⟨#[]⟩, .string ⟨#[]⟩, .int .i64 0, .int .i64 0, .string ⟨#[]⟩] 45
  simp only [hW]
  have c0 : CurAt W0 b q0 := hc.kept bW
  have b0 : Only (fun k => k = b) w W0 := ob_any bW
  have X0 : Hid (Blk W0 w.heap.size #[.int .i64 0, .string ⟨#[]⟩, .string ⟨#[]⟩, .int .i64 0, .int .i64 0, .string ⟨#[]⟩]) := ⟨by omega, cW, fW⟩
  have hne : ¬ w.heap.size = b := by omega
  clear hW bW zW cW fW hc
  refine (pieceC_any b q0 W0 c0 s0).mono ?_
  rintro e w1 (⟨p, q1, rfl, hp, c1, s1, o1⟩ | ⟨⟨pv, rfl⟩, hp, o1⟩)
  rotate_left 1
  · have HP : Hid (insCO q0.data.toList = none) := by unfold Hid; simp only [insCO, hp.out, Option.bind_none]
    have HB := Hid.intro (b0.trans o1)
    clear hp o1 X0
    go_wp2
    exact ⟨rfl, .inr ⟨⟨_, rfl⟩, HP, HB.out⟩⟩
  have sp : p.size ≤ 1048576 := pie_szF hp.out s0
  have b1 := Hid.intro (b0.trans o1)
  have X1 := Hid.intro (X0.out.only o1 hne)
  have hb1 := c1.lt
  have hx1 := X1.out.hi
  clear o1 b0 X0 c0
  go_wp2_with fail
  obtain ⟨W2, hW, bW, zW, cW, fW⟩ := boxed w1 #[.string p] 61
  simp only [hW]
  have d0 : CurAt W2 w1.heap.size p := ⟨by omega, cW 0, fW 0⟩
  have c2 : CurAt W2 b q1 := c1.kept bW
  have b2 := Hid.intro (b1.out.trans (Below.any bW))
  have X2 := Hid.intro (X1.out.kept bW)
  have hle2 : w1.heap.size ≤ W2.heap.size := bW.size
  clear hW bW zW cW fW c1 b1 X1
  refine (callC_any w1.heap.size p W2 d0 sp).mono ?_
  rintro e w3 (⟨c, q2, rfl, hv, d3, o3⟩ | ⟨⟨pv, rfl⟩, hv, o3⟩)
  rotate_left 1
  · have HP : Hid (insCO q0.data.toList = none) := by unfold Hid; simp only [insCO, hp.out, hv.out, Option.bind_some, Option.bind_none]
    have HB : Hid (Only (fun k => k = b) w w3) := b2.out.then o3 (fun k hk e => by omega)
    clear hp hv o3 X2
    go_wp2
    exact ⟨rfl, .inr ⟨⟨_, rfl⟩, HP, HB.out⟩⟩
  have c3 : CurAt w3 b q1 := c2.only o3 (by omega)
  have b3 : Hid (Only (fun k => k = b) w w3) := b2.out.then o3 (fun k hk e => by omega)
  have X3 := Hid.intro (X2.out.only o3 (by omega))
  have k0 : w3.cell? ⟨w1.heap.size, 0, none⟩ = some (.string q2) := d3.cell
  have s3 := o3.size
  have hd3 := d3.lt
  have hx30 := X3.out.hi
  clear d0 c2 b2 X2 o3
  obtain ⟨kk, hkk⟩ : ∃ kk, caOf c = kk := ⟨_, rfl⟩
  by_cases hz : q2.size = 0
  · have y1 := bs_mtF hz
    have hq0 : q2.data.toList = [] := by
      obtain ⟨⟨l⟩⟩ := q2
      simpa [ByteArray.size] using hz
    have HP : Hid (insCO q0.data.toList = some (c, q1.data.toList)) := by
      unfold Hid
      have h0 : callO p.data.toList = some (c, []) := by rw [← hq0]; exact hv.out
      simp only [insCO, hp.out, h0, Option.bind_some, if_true]
    have HKK := Hid.intro hkk
    rw [hkk]
    have r0 : w3.cell? ⟨w.heap.size, 0, none⟩ = some (.int .i64 0) := X3.out.cell 0
    have f0 : w3.frozen? ⟨w.heap.size, 0, none⟩ = false := X3.out.fro 0
    have r1 : w3.cell? ⟨w.heap.size, 1, none⟩ = some (.string ⟨#[]⟩) := X3.out.cell 1
    have f1 : w3.frozen? ⟨w.heap.size, 1, none⟩ = false := X3.out.fro 1
    have r2 : w3.cell? ⟨w.heap.size, 2, none⟩ = some (.string ⟨#[]⟩) := X3.out.cell 2
    have f2 : w3.frozen? ⟨w.heap.size, 2, none⟩ = false := X3.out.fro 2
    have r3 : w3.cell? ⟨w.heap.size, 3, none⟩ = some (.int .i64 0) := X3.out.cell 3
    have f3 : w3.frozen? ⟨w.heap.size, 3, none⟩ = false := X3.out.fro 3
    have r4 : w3.cell? ⟨w.heap.size, 4, none⟩ = some (.int .i64 0) := X3.out.cell 4
    have f4 : w3.frozen? ⟨w.heap.size, 4, none⟩ = false := X3.out.fro 4
    have r5 : w3.cell? ⟨w.heap.size, 5, none⟩ = some (.string ⟨#[]⟩) := X3.out.cell 5
    have f5 : w3.frozen? ⟨w.heap.size, 5, none⟩ = false := X3.out.fro 5
    have OE : Hid (∀ Z, Only (fun k => k = w.heap.size) w3 Z → CurAt Z b q1 ∧ Only (fun k => k = b) w Z) := fun Z hZ => ⟨c3.only hZ (by omega), b3.out.then hZ (fun k hk e => by omega)⟩
    clear X3 hp hv d3 hkk
    go_wp2
    have OQ : Only (fun k => k = w.heap.size) w3 (((((((w3.setCell ⟨w.heap.size, 0, none⟩ (.int .i64 kk.k)).setCell ⟨w.heap.size, 1, none⟩ (.string kk.p)).setCell ⟨w.heap.size, 2, none⟩ (.string kk.to)).setCell ⟨w.heap.size, 3, none⟩ (.int .i64 kk.n)).setCell ⟨w.heap.size, 4, none⟩ (.int .i64 kk.m)).setCell ⟨w.heap.size, 5, none⟩ (.string kk.d)).alloc (.cells #[.int .i64 kk.k, .string kk.p, .string kk.to, .int .i64 kk.n, .int .i64 kk.m, .string kk.d] 45)) := (((((((Only.refl (fun k => k = w.heap.size) w3).setCell (p := ⟨w.heap.size, 0, none⟩) rfl (.int .i64 kk.k)).setCell (p := ⟨w.heap.size, 1, none⟩) rfl (.string kk.p)).setCell (p := ⟨w.heap.size, 2, none⟩) rfl (.string kk.to)).setCell (p := ⟨w.heap.size, 3, none⟩) rfl (.int .i64 kk.n)).setCell (p := ⟨w.heap.size, 4, none⟩) rfl (.int .i64 kk.m)).setCell (p := ⟨w.heap.size, 5, none⟩) rfl (.string kk.d)).trans (Below.any (one_below _ _))
    have h3 := OE.out _ OQ
    refine bodyPost_ret (v := caV kk) ?_ rfl (Or.inl ⟨c, q1, by rw [HKK.out], HP, h3.1, s1, h3.2⟩)
    simp [results, Try.results49, go_sem, r0, r1, r2, r3, r4, r5, hx30]
  · have HP : Hid (insCO q0.data.toList = none) := by
      unfold Hid
      have h0 : q2.data.toList ≠ [] := fun h => hz (by
        obtain ⟨⟨l⟩⟩ := q2
        simpa [ByteArray.size] using h)
      simp only [insCO, hp.out, hv.out, Option.bind_some, if_neg h0]
    have y1 := bs_nmF hz
    rw [hkk]
    clear hp hv X3 hkk
    go_wp2
    exact ⟨rfl, .inr ⟨⟨_, rfl⟩, HP, b3.out.trans (Below.any (one_below _ _))⟩⟩
/-- A slot at the front, and what is left. -/
noncomputable def sloO (l : List UInt8) : Option (Sl × List UInt8) :=
  (numO l).bind fun a => (numO a.2).bind fun b => (numO b.2).bind fun c => (insCO c.2).bind fun d => some (⟨(a.1 : Int), (b.1 : Int), (c.1 : Int), caOf d.1⟩, d.2)
abbrev zSl : Array Value := #[.int .i64 0, .int .i64 0, .int .i64 0, .int .i64 0, .string ⟨#[]⟩, .string ⟨#[]⟩, .int .i64 0, .int .i64 0, .string ⟨#[]⟩]
def SloC (b : Nat) (q : ByteArray) (w : World) (e : Ending) (w' : World) : Prop :=
  (∃ (n : Sl) (q' : ByteArray), e = .returned (slV n) ∧ Hid (sloO q.data.toList = some (n, q'.data.toList)) ∧ CurAt w' b q' ∧ q'.size ≤ 1048576 ∧ Only (fun k => k = b) w w') ∨ (Lack e ∧ Hid (sloO q.data.toList = none) ∧ Only (fun k => k = b) w w')
set_option maxRecDepth 100000 in
set_option maxHeartbeats 4000000 in
theorem slotC_any (b : Nat) (q0 : ByteArray) (w : World) (hc : CurAt w b q0) (s0 : q0.size ≤ 1048576) :
    Calls Try.prog 39 #[.pointer (some ⟨b, 0, none⟩)] w (SloC b q0 w) := by
  have hlt := hc.lt
  go_enter Try.func39, Try.ntmps39
  go_wp2_with fail
  obtain ⟨W0, hW, bW, zW, cW, fW⟩ := boxed w zSl 49
  simp only [hW]
  have c0 : CurAt W0 b q0 := hc.kept bW
  have b0 : Only (fun k => k = b) w W0 := ob_any bW
  have X0 : Hid (Blk W0 w.heap.size zSl) := ⟨by omega, cW, fW⟩
  have hne : ¬ w.heap.size = b := by omega
  clear hW bW zW cW fW hc
  refine (number_any b q0 _ c0 s0).mono ?_
  rintro e w1 (⟨xt, q1, rfl, hn, rfl⟩ | ⟨⟨pv, rfl⟩, hn, rfl⟩)
  rotate_left 1
  · have HP : Hid (sloO q0.data.toList = none) := by
      have e0 := numO_no hn
      unfold Hid
      simp only [sloO, e0, Option.bind_none]
    clear hn X0
    go_wp2
    exact ⟨rfl, .inr ⟨⟨_, rfl⟩, HP, b0⟩⟩
  have H0 : Hid (numO q0.data.toList = some (xt, q1.data.toList)) := numO_yes hn
  have s1 : q1.size ≤ 1048576 := num_size hn s0
  have c1 : CurAt (_) b q1 := c0.set
  have b1 := b0.trans (ob_set b _ (.string q1))
  have X1 := Hid.intro (X0.out.only (ob_set b _ (.string q1)) hne)
  revert c1 b1 X1
  generalize World.setCell _ ⟨b, 0, none⟩ (.string q1) = W1
  intro c1 b1 X1
  clear hn c0 b0 s0 X0
  go_wp2_with fail
  refine (number_any b q1 _ c1 s1).mono ?_
  rintro e w1 (⟨xc, q2, rfl, hn, rfl⟩ | ⟨⟨pv, rfl⟩, hn, rfl⟩)
  rotate_left 1
  · have HP : Hid (sloO q0.data.toList = none) := by
      have e1 := numO_no hn
      unfold Hid
      simp only [sloO, H0.out, e1, Option.bind_some, Option.bind_none]
    clear hn X1
    go_wp2
    exact ⟨rfl, .inr ⟨⟨_, rfl⟩, HP, b1⟩⟩
  have H1 : Hid (numO q1.data.toList = some (xc, q2.data.toList)) := numO_yes hn
  have s2 : q2.size ≤ 1048576 := num_size hn s1
  have c2 : CurAt (_) b q2 := c1.set
  have b2 := b1.trans (ob_set b _ (.string q2))
  have X2 := Hid.intro (X1.out.only (ob_set b _ (.string q2)) hne)
  revert c2 b2 X2
  generalize World.setCell _ ⟨b, 0, none⟩ (.string q2) = W2
  intro c2 b2 X2
  clear hn c1 b1 s1 X1
  go_wp2_with fail
  refine (number_any b q2 _ c2 s2).mono ?_
  rintro e w1 (⟨xs, q3, rfl, hn, rfl⟩ | ⟨⟨pv, rfl⟩, hn, rfl⟩)
  rotate_left 1
  · have HP : Hid (sloO q0.data.toList = none) := by
      have e2 := numO_no hn
      unfold Hid
      simp only [sloO, H0.out, H1.out, e2, Option.bind_some, Option.bind_none]
    clear hn X2
    go_wp2
    exact ⟨rfl, .inr ⟨⟨_, rfl⟩, HP, b2⟩⟩
  have H2 : Hid (numO q2.data.toList = some (xs, q3.data.toList)) := numO_yes hn
  have s3 : q3.size ≤ 1048576 := num_size hn s2
  have c3 : CurAt (_) b q3 := c2.set
  have b3 := b2.trans (ob_set b _ (.string q3))
  have X3 := Hid.intro (X2.out.only (ob_set b _ (.string q3)) hne)
  revert c3 b3 X3
  generalize World.setCell _ ⟨b, 0, none⟩ (.string q3) = W3
  intro c3 b3 X3
  clear hn c2 b2 s2 X2
  go_wp2_with fail
  refine (insC_any b q3 _ c3 s3).mono ?_
  rintro e W5 (⟨cn, q5, rfl, hv, c5, s5, o5⟩ | ⟨⟨pv, rfl⟩, hv, o5⟩)
  rotate_left 1
  · have HP : Hid (sloO q0.data.toList = none) := by
      unfold Hid
      simp only [sloO, H0.out, H1.out, H2.out, hv.out, Option.bind_some, Option.bind_none]
    have HB := Hid.intro (b3.trans o5)
    clear hv X3 o5
    go_wp2
    exact ⟨rfl, .inr ⟨⟨_, rfl⟩, HP, HB.out⟩⟩
  obtain ⟨kk, hkk⟩ : ∃ kk, caOf cn = kk := ⟨_, rfl⟩
  rw [hkk]
  have HP : Hid (sloO q0.data.toList = some (⟨(xt : Int), (xc : Int), (xs : Int), kk⟩, q5.data.toList)) := by
    unfold Hid
    simp only [sloO, H0.out, H1.out, H2.out, hv.out, Option.bind_some, hkk]
  have X5 := Hid.intro (X3.out.only o5 hne)
  have b5 := Hid.intro (b3.trans o5)
  clear c3 b3 X3 o5 hv hkk
  have kr := X5.out.cell
  have fr := X5.out.fro
  have hXh := X5.out.hi
  have r0 : W5.cell? ⟨w.heap.size, 0, none⟩ = some (.int .i64 0) := kr 0
  have r1 : W5.cell? ⟨w.heap.size, 1, none⟩ = some (.int .i64 0) := kr 1
  have r2 : W5.cell? ⟨w.heap.size, 2, none⟩ = some (.int .i64 0) := kr 2
  have r3 : W5.cell? ⟨w.heap.size, 3, none⟩ = some (.int .i64 0) := kr 3
  have r4 : W5.cell? ⟨w.heap.size, 4, none⟩ = some (.string ⟨#[]⟩) := kr 4
  have r5 : W5.cell? ⟨w.heap.size, 5, none⟩ = some (.string ⟨#[]⟩) := kr 5
  have r6 : W5.cell? ⟨w.heap.size, 6, none⟩ = some (.int .i64 0) := kr 6
  have r7 : W5.cell? ⟨w.heap.size, 7, none⟩ = some (.int .i64 0) := kr 7
  have r8 : W5.cell? ⟨w.heap.size, 8, none⟩ = some (.string ⟨#[]⟩) := kr 8
  clear kr
  have OE : Hid (∀ Z, Only (fun k => k = w.heap.size) W5 Z → CurAt Z b q5 ∧ Only (fun k => k = b) w Z) := fun Z hZ => ⟨c5.only hZ (by omega), b5.out.then hZ (fun k hk e => by omega)⟩
  go_wp2
  refine bodyPost_ret (v := slV ⟨(xt : Nat), (xc : Nat), (xs : Nat), kk⟩) (by simp [results, Try.results39, go_sem, r0, r1, r2, r3, r4, r5, r6, r7, r8]) rfl (.inl ⟨⟨(xt : Nat), (xc : Nat), (xs : Nat), kk⟩, q5, rfl, HP, (OE.out _ ?_).1, s5, (OE.out _ ?_).2⟩)
  · repeat (refine Only.setCell ?_ (by simp) _)
    exact Only.refl _ _
  · repeat (refine Only.setCell ?_ (by simp) _)
    exact Only.refl _ _
/-- Slots up to the end, at most n of them. -/
noncomputable def slosO : Nat → List UInt8 → Option (List Sl)
  | 0, l => if l = [] then some [] else none
  | n + 1, l => if l = [] then some [] else (sloO l).bind fun a => (slosO n a.2).bind fun d => some (a.1 :: d)
theorem slosO_end (n : Nat) : slosO n [] = some [] := by cases n <;> rfl
theorem slosO_zero {l : List UInt8} (h : l ≠ []) : slosO 0 l = none := by simp [slosO, h]
theorem slosO_no {n : Nat} {l : List UInt8} (hl : l ≠ []) (h : sloO l = none) : slosO n l = none := by
  cases n with
  | zero => exact slosO_zero hl
  | succ n => simp [slosO, hl, h]
theorem slosO_yes {n : Nat} {l q : List UInt8} {x : Sl} (hn : 0 < n) (hl : l ≠ []) (h : sloO l = some (x, q)) : slosO n l = (slosO (n - 1) q).map fun y => x :: y := by
  obtain ⟨m, rfl⟩ : ∃ m, n = m + 1 := ⟨n - 1, by omega⟩
  simp only [slosO, if_neg hl, h, Option.bind_some, Nat.add_sub_cancel]
  cases slosO m q <;> rfl
/-- A frame, whole. -/
noncomputable def frmO (l : List UInt8) : Option (List Sl) := match l with
  | [] => none
  | c :: r => if c = 102 then slosO 6 r else none
def FrmC (b : Nat) (q : ByteArray) (w : World) (e : Ending) (w' : World) : Prop :=
  (∃ (v : Value) (L : List Sl) (q' : ByteArray), e = .returned v ∧ Hid (frmO q.data.toList = some L) ∧ Hid (Own slE 49 w' w.heap.size v L) ∧ CurAt w' b q' ∧ q'.size = 0 ∧ L.length ≤ 6 ∧ Only (fun k => k = b) w w') ∨ (Lack e ∧ Hid (frmO q.data.toList = none) ∧ Only (fun k => k = b) w w')
/-- What stands while a frame is read. -/
structure FrR (w : World) (b : Nat) (wr : World) (q : ByteArray) (v : Value) (L : List Sl) : Prop where
  cur : CurAt wr b q
  own : Own slE 49 wr w.heap.size v L
  only : Only (fun k => k = b) w wr
  lt : b < w.heap.size
theorem FrR.step {w : World} {b : Nat} {wr w2 : World} {q q2 : ByteArray} {v : Value} {L : List Sl} (h : FrR w b wr q v L) (ho : Only (fun k => k = b) wr w2) (hc : CurAt w2 b q2) : FrR w b w2 q2 v L :=
  ⟨hc, h.own.only ho (fun k hk e => by have := (h.own.lt k hk).1; have := h.lt; omega), h.only.trans ho, h.lt⟩
theorem FrR.put {w : World} {b : Nat} {wr w4 : World} {q : ByteArray} {v v' : Value} {L M : List Sl} (h : FrR w b wr q v L) (ho : Only (fun k => some k = v.ownBlock) wr w4) (hown : Own slE 49 w4 w.heap.size v' M) : FrR w b w4 q v' M :=
  ⟨h.cur.only ho (fun e => by have := (h.own.lt b e.symm).1; have := h.lt; omega), hown, h.only.then ho (fun k hk e => by have := (h.own.lt k e.symm).1; omega), h.lt⟩
theorem infoSlR : (Try.prog.info? 49).map (fun i => (i.zero, i.size, i.bytes)) = some (some (.agg zSl), 9, 96) := by kernel_rfl
theorem infoSlX : ∃ i, Try.prog.info? 49 = some i ∧ i.zero = some (.agg zSl) ∧ i.size = 9 ∧ i.bytes = 96 := by
  have h := infoSlR
  cases h2 : Try.prog.info? 49 with
  | none => rw [h2] at h; cases h
  | some i =>
    rw [h2] at h
    simp only [Option.map_some, Option.some.injEq, Prod.mk.injEq] at h
    exact ⟨i, rfl, h.1, h.2.1, h.2.2⟩
theorem first_byte {q : ByteArray} {c : UInt8} {r : List UInt8} (h : q.data.toList = c :: r) : (q.extract 0 1).data.toList = [c] ∧ (q.extract 1 q.size).data.toList = r := by
  rw [extract0_toList, extract_toList, h]
  exact ⟨rfl, rfl⟩
set_option maxRecDepth 100000 in
set_option maxHeartbeats 8000000 in
theorem frameC_any (b : Nat) (q0 : ByteArray) (w : World) (hc : CurAt w b q0) (s0 : q0.size ≤ 1048576) :
    Calls Try.prog 22 #[.pointer (some ⟨b, 0, none⟩)] w (FrmC b q0 w) := by
  obtain ⟨i0, hi, hz0, hz1, hz2⟩ := infoSlX
  have hlt := hc.lt
  go_enter Try.func22, Try.ntmps22
  go_wp2_with fail
  refine (letterC_any b q0 102 w hc s0).mono ?_
  rintro e W1 (⟨q1, rfl, hl, c1, s1, o1⟩ | ⟨⟨pv, rfl⟩, hl, o1⟩)
  rotate_left 1
  · have HP : Hid (frmO q0.data.toList = none) := by
      unfold Hid
      cases h : q0.data.toList with
      | nil => rfl
      | cons c r =>
        simp only [frmO]
        rw [if_neg]
        rintro rfl
        exact hl.out r h
    clear hl
    go_wp2
    exact ⟨rfl, .inr ⟨⟨_, rfl⟩, HP, o1⟩⟩
  · have HR : Hid (frmO q0.data.toList = slosO 6 q1.data.toList) := by
      unfold Hid
      rw [hl.out]
      simp only [frmO, if_true]
    have HI : Hid (FrR w b W1 q1 (.slice none 0 0) []) := ⟨c1, Own.nil _ _, o1, hlt⟩
    clear hl c1 o1 hc
    go_wp2_with fail
    go_loopw [3] (fun v wr => ∃ (q : ByteArray) (a : Option Addr) (cap : Nat) (L : List Sl), v = .slice a L.length cap ∧ L.length ≤ 6 ∧ q.size ≤ 1048576 ∧ Hid (slosO 6 q1.data.toList = (slosO (6 - L.length) q.data.toList).map fun y => L ++ y) ∧ Hid (FrR w b wr q (.slice a L.length cap) L)) (fun v _ => match v with | .slice _ n _ => 7 - n | _ => 0)
    case atStart => exact ⟨q1, _, _, [], rfl, by simp, s1, by unfold Hid; simp, HI⟩
    case round =>
      clear HI
      obtain ⟨q, a, cap, L, rfl, hL, sq, HN, HI⟩ := hrel
      have k0 := HI.out.cur.cell
      have hwr := HI.out.only.size
      by_cases hz : q.size = 0
      · have y2 := bs_mtF hz
        have HP : Hid (frmO q0.data.toList = some L) := by
          have hq0 : q.data.toList = [] := List.eq_nil_of_length_eq_zero (by simpa using hz)
          unfold Hid
          rw [HR.out, HN.out, hq0, slosO_end]
          simp
        go_wp2_with fail
        go_ret
        exact .inl ⟨_, L, q, rfl, HP, HI.out.own, HI.out.cur, hz, hL, HI.out.only⟩
      · have y2 := bs_nmF hz
        have hq0 : q.data.toList ≠ [] := fun h => hz (by have := congrArg List.length h; simpa using this)
        have HQ0 := Hid.intro hq0
        clear hq0
        by_cases h6 : L.length = 6
        · have h6i : ((L.length : Int) == 6) = true := by rw [h6]; rfl
          have HP : Hid (frmO q0.data.toList = none) := by
            unfold Hid
            rw [HR.out, HN.out, h6, Nat.sub_self, slosO_zero HQ0.out]
            rfl
          have HO := Hid.intro HI.out.only
          clear HI h6
          go_wp2
          exact ⟨rfl, .inr ⟨⟨_, rfl⟩, HP, HO.out⟩⟩
        · have h6i : ((L.length : Int) == 6) = false := by simp; omega
          go_wp2_with fail
          clear k0
          refine (slotC_any b q wr HI.out.cur sq).mono ?_
          rintro e x1 (⟨nd, q2, rfl, G1, c2, s2, o1⟩ | ⟨⟨pv, rfl⟩, G1, o1⟩)
          rotate_left 1
          · have HP : Hid (frmO q0.data.toList = none) := by
              unfold Hid
              rw [HR.out, HN.out, slosO_no HQ0.out G1.out]
              rfl
            have B9 := HI.out.only.trans o1
            clear HI
            go_wp2
            exact ⟨rfl, .inr ⟨⟨_, rfl⟩, HP, B9⟩⟩
          have HN2 : Hid (slosO 6 q1.data.toList = (slosO (6 - (L.length + 1)) q2.data.toList).map fun y => (L ++ [nd]) ++ y) := by
            unfold Hid
            rw [HN.out, slosO_yes (by omega) HQ0.out G1.out, Nat.sub_sub]
            cases slosO (6 - (L.length + 1)) q2.data.toList <;> simp
          replace HI := Hid.intro (HI.out.step o1 c2)
          have hown : x1.ownsRow w.heap.size 49 9 (.slice a L.length cap) L.length (slE.f L) := HI.out.own
          have hwx : w.heap.size ≤ x1.heap.size := HI.out.only.size
          have HM := Hid.intro (HI.out.step (ob_any (one_below x1 (.cells (slA nd) 49))) (HI.out.cur.kept (one_below x1 (.cells (slA nd) 49))))
          clear HI o1 c2 HN G1 HQ0
          go_wp2_with (at_builtin; refine wpList_append_own _ rfl _ _ 28 rfl w.heap.size 49 i0 (.agg zSl) 9 96 Try.underlying28 hi hz0 hz1 hz2 rfl (by decide) _ _ _ rfl (hown.alloc _) ⟨x1.heap.size, 0, none⟩ 1 1 (slE.c nd) rfl rfl ?d1 ?d2 ?d3 ?d4 ?d5 ?_)
          case d1 =>
            intro j u hj
            rw [add_none, Nat.zero_add, World.cell?_alloc_at _ _ _ _ rfl]
            simpa [slE] using hj
          case d2 => exact slE.one _
          case d3 => unfold maxLen; omega
          case d4 => omega
          case d5 => simp; omega
          intro v' w9 hown' hgrow _
          have HOw : Own slE 49 w9 w.heap.size v' (L ++ [nd]) := Own.mk hown' (by simp) (by rw [slE.f_append, slE.f_one1])
          have ho := grown_only hgrow
          obtain ⟨g, cap2, rfl⟩ : ∃ g cap, v' = .slice (some ⟨g, 0, none⟩) (L.length + 1) cap := by
            rcases HOw.look with ⟨_, h⟩ | ⟨g, cap, h, _⟩
            · simp at h
            · exact ⟨g, cap, by simpa using h⟩
          have HE := Hid.intro (HM.out.put ho HOw)
          clear HM hown hown' hgrow HOw ho
          go_wp2
          go_roundw
          case rel => exact ⟨q2, _, _, L ++ [nd], by rw [List.length_append]; rfl, by rw [List.length_append, List.length_singleton]; omega, s2, by unfold Hid; rw [List.length_append, List.length_singleton]; exact HN2.out, by unfold Hid; rw [List.length_append, List.length_singleton]; exact HE.out⟩
          case measure => simp; omega
end Go.Proofs.Ythicdhjipebghaa
