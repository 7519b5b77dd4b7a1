/- A cursor's inode. -/
import Derived.Test.YtegdogdlohoheaaGreatTCurV
namespace Go.Proofs.YtegdogdlohoheaaGreat
open Go.RowKit
set_option linter.unusedVariables false
/-- So many names from the front on, and what is left. -/
noncomputable def nmsO : Nat → List UInt8 → Option (List Di × List UInt8)
 | 0, l => some ([], l)
 | n + 1, l => (pieO l).bind fun a => (numO a.2).bind fun c => (nmsO n c.2).bind fun d => some (⟨⟨a.1.toArray⟩, (c.1 : Int)⟩ :: d.1, d.2)
theorem nmsO_no1 {n : Nat} {l : List UInt8} (hn : 0 < n) (h : pieO l = none) : nmsO n l = none := by
 obtain ⟨m, rfl⟩ : ∃ m, n = m + 1 := ⟨n - 1, by omega⟩
 simp only [nmsO, h, Option.bind_none]
theorem nmsO_no2 {n : Nat} {l p r : List UInt8} (hn : 0 < n) (h : pieO l = some (p, r)) (k : numO r = none) : nmsO n l = none := by
 obtain ⟨m, rfl⟩ : ∃ m, n = m + 1 := ⟨n - 1, by omega⟩
 simp only [nmsO, h, k, Option.bind_some, Option.bind_none]
theorem nmsO_yes {n x : Nat} {l p r q : List UInt8} (hn : 0 < n) (h : pieO l = some (p, r)) (k : numO r = some (x, q)) : nmsO n l = (nmsO (n - 1) q).map fun y => (⟨⟨p.toArray⟩, (x : Int)⟩ :: y.1, y.2) := by
 obtain ⟨m, rfl⟩ : ∃ m, n = m + 1 := ⟨n - 1, by omega⟩
 simp only [nmsO, h, k, Option.bind_some, Nat.add_sub_cancel]
 cases nmsO m q <;> rfl
/-- An inode at the front, and what is left. -/
noncomputable def inoO (l : List UInt8) : Option (Nd × List UInt8) :=
 (numO l).bind fun a => (numO a.2).bind fun b => (numO b.2).bind fun c => (numO c.2).bind fun d => (numO d.2).bind fun e => (numO e.2).bind fun f => (numO f.2).bind fun g => (pieO g.2).bind fun p => (cntO 12 p.2).bind fun n => (nmsO n.1 n.2).bind fun s =>
  some (⟨(a.1 : Int), (b.1 : Int), (c.1 : Int), (d.1 : Int), (e.1 : Int), ⟨p.1.toArray⟩, s.1, (f.1 : Int), (g.1 : Int)⟩, s.2)
/-- What a cursor's inode hands back. -/
def InoC (b : Nat) (q : ByteArray) (w : World) (e : Ending) (w' : World) : Prop :=
 (∃ (n : Nd) (v : Value) (q' : ByteArray), e = .returned (ndV n v) ∧ Hid (inoO q.data.toList = some (n, q'.data.toList)) ∧ CurAt w' b q' ∧ q'.size ≤ 1048576 ∧ Hid (Own diE 102 w' w.heap.size v n.names) ∧ Only (fun k => k = b) w w') ∨ (Lack e ∧ Hid (inoO q.data.toList = none) ∧ Only (fun k => k = b) w w')
abbrev zN : Array Value := #[.int .i64 0, .int .i64 0, .int .i64 0, .int .i64 0, .int .i64 0, .string ⟨#[]⟩, .slice none 0 0, .int .i64 0, .int .i64 0]
/-- What stands while names are read. -/
structure InI (w : World) (b g2 g3 : Nat) (n : Nd) (wr : World) (q : ByteArray) (v : Value) (L : List Di) : Prop where
 cur : CurAt wr b q
 box : Blk wr g3 (ndA n v)
 res : Blk wr g2 zN
 own : Own diE 102 wr (g3 + 1) v L
 only : Only (fun k => k = b) w wr
 lt : b < g2 ∧ g2 < g3 ∧ w.heap.size ≤ g2
theorem InI.step {w : World} {b g2 g3 : Nat} {n : Nd} {wr w2 : World} {q q2 : ByteArray} {v : Value} {L : List Di} (h : InI w b g2 g3 n wr q v L) (ho : Only (fun k => k = b) wr w2) (hc : CurAt w2 b q2) : InI w b g2 g3 n w2 q2 v L :=
 ⟨hc, h.box.only ho (by have := h.lt; omega), h.res.only ho (by have := h.lt; omega), h.own.only ho (fun k hk e => by have := (h.own.lt k hk).1; have := h.lt; omega), h.only.trans ho, h.lt⟩
theorem InI.kept {w : World} {b g2 g3 : Nat} {n : Nd} {wr w2 : World} {q : ByteArray} {v : Value} {L : List Di} (h : InI w b g2 g3 n wr q v L) (hb : Below wr.heap.size wr w2) : InI w b g2 g3 n w2 q v L :=
 h.step (ob_any hb) (h.cur.kept hb)
theorem set9_only (g : Nat) (w : World) (a b c d e f h i j : Value) : Only (fun x => x = g) w (((((((((w.setCell ⟨g, 0, none⟩ a).setCell ⟨g, 1, none⟩ b).setCell ⟨g, 2, none⟩ c).setCell ⟨g, 3, none⟩ d).setCell ⟨g, 4, none⟩ e).setCell ⟨g, 5, none⟩ f).setCell ⟨g, 6, none⟩ h).setCell ⟨g, 7, none⟩ i).setCell ⟨g, 8, none⟩ j) :=
 (((set6_only g w a b c d e f).setCell (p := ⟨g, 6, none⟩) rfl h).setCell (p := ⟨g, 7, none⟩) rfl i).setCell (p := ⟨g, 8, none⟩) rfl j
theorem set_only (g o : Nat) (w : World) (v : Value) : Only (fun k => k = g) w (w.setCell ⟨g, o, none⟩ v) := (Only.refl (fun k => k = g) w).setCell (p := ⟨g, o, none⟩) rfl v
theorem ndA_set (n : Nd) (v v2 : Value) (o : Nat) (h : o ≠ 6) : (ndA n v)[o]? = (ndA n v2)[o]? := by
 match o, h with
 | 0, _ => rfl
 | 1, _ => rfl
 | 2, _ => rfl
 | 3, _ => rfl
 | 4, _ => rfl
 | 5, _ => rfl
 | 7, _ => rfl
 | 8, _ => rfl
 | o + 9, _ => simp
theorem InI.put {w : World} {b g2 g3 : Nat} {n : Nd} {wr w4 : World} {q : ByteArray} {v : Value} {L L' : List Di} {g m cap : Nat} (h : InI w b g2 g3 n wr q v L) (ho : Only (fun k => some k = v.ownBlock) wr w4) (hown : Own diE 102 w4 (g3 + 1) (.slice (some ⟨g, 0, none⟩) m cap) L') :
  InI w b g2 g3 n (w4.setCell ⟨g3, 6, none⟩ (.slice (some ⟨g, 0, none⟩) m cap)) q (.slice (some ⟨g, 0, none⟩) m cap) L' := by
 have hlt := h.lt
 have nb : ∀ k, some k = v.ownBlock → g3 + 1 ≤ k := fun k hk => (h.own.lt k hk.symm).1
 have hb : ¬ some b = v.ownBlock := fun e => by have := nb b e; omega
 have h3 : ¬ some g3 = v.ownBlock := fun e => by have := nb g3 e; omega
 have h2 : ¬ some g2 = v.ownBlock := fun e => by have := nb g2 e; omega
 have bx := h.box.only ho h3
 refine ⟨(h.cur.only ho hb).only (set_only g3 6 w4 _) (by omega), ⟨by simpa using bx.hi, fun o => ?_, fun o => ?_⟩, (h.res.only ho h2).only (set_only g3 6 w4 _) (by omega), hown.only (set_only g3 6 w4 _) (fun k hk e => ?_), ?_, hlt⟩
 ·by_cases e : o = 6
  ·subst e
   exact World.cell?_setCell_same _ _ _ (bx.cell 6)
  ·rw [World.cell?_setCell_other _ _ _ _ (by intro e2; simp at e2 <;> omega), bx.cell o]
   exact ndA_set n _ _ o e
 ·rw [World.frozen?_setCell]; exact bx.fro o
 ·have := (hown.lt k hk).1; omega
 ·exact (h.only.then ho (fun k hk e => by have := nb k e; omega)).then (set_only g3 6 w4 _) (fun k hk e => by omega)
set_option maxRecDepth 100000 in
set_option maxHeartbeats 4000000 in
theorem inodeC_any (b : Nat) (q0 : ByteArray) (w : World) (hc : CurAt w b q0) (s0 : q0.size ≤ 1048576) :
  Calls Tryz.prog 63 #[.pointer (some ⟨b, 0, none⟩)] w (InoC b q0 w) := by
 have hlt := hc.lt
 go_enter Tryz.func63, Tryz.ntmps63
 go_wp2_with fail
 obtain ⟨W0, hW, bW, zW, cW, fW⟩ := boxed w #[.int .i64 0, .int .i64 0, .int .i64 0, .int .i64 0, .int .i64 0, .string ⟨#[]⟩, .slice none 0 0, .int .i64 0, .int .i64 0] 76
 simp only [hW]
 have c0 : CurAt W0 b q0 := hc.kept bW
 have b0 : Only (fun k => k = b) w W0 := ob_any bW
 have X0 : Hid (Blk W0 w.heap.size zN) := ⟨by omega, cW, fW⟩
 have hne : ¬ w.heap.size = b := by omega
 clear hW bW zW cW fW hc
 refine (number_any b q0 _ c0 s0).mono ?_
 rintro e w1 (⟨id, q1, rfl, hn, rfl⟩ | ⟨⟨pv, rfl⟩, hn, rfl⟩)
 rotate_left 1
 ·have HP : Hid (inoO q0.data.toList = none) := by
   have e0 := numO_no hn
   unfold Hid
   simp only [inoO, e0, Option.bind_none]
  clear hn X0
  go_wp2
  exact ⟨rfl, .inr ⟨⟨_, rfl⟩, HP, b0⟩⟩
 have H0 : Hid (numO q0.data.toList = some (id, q1.data.toList)) := numO_yes hn
 have s1 : q1.size ≤ 1048576 := num_size hn s0
 have c1 : CurAt (_) b q1 := c0.set
 have b1 := b0.trans (ob_set b _ (.string q1))
 replace X0 := Hid.intro (X0.out.only (ob_set b _ (.string q1)) hne)
 revert c1 b1 X0
 generalize World.setCell _ ⟨b, 0, none⟩ (.string q1) = W1
 intro c1 b1 X0
 clear hn c0 b0 s0
 go_wp2_with fail
 refine (number_any b q1 _ c1 s1).mono ?_
 rintro e w1 (⟨kind, q2, rfl, hn, rfl⟩ | ⟨⟨pv, rfl⟩, hn, rfl⟩)
 rotate_left 1
 ·have HP : Hid (inoO q0.data.toList = none) := by
   have e1 := numO_no hn
   unfold Hid
   simp only [inoO, H0.out, e1, Option.bind_some, Option.bind_none]
  clear hn X0
  go_wp2
  exact ⟨rfl, .inr ⟨⟨_, rfl⟩, HP, b1⟩⟩
 have H1 : Hid (numO q1.data.toList = some (kind, q2.data.toList)) := numO_yes hn
 have s2 : q2.size ≤ 1048576 := num_size hn s1
 have c2 : CurAt (_) b q2 := c1.set
 have b2 := b1.trans (ob_set b _ (.string q2))
 replace X0 := Hid.intro (X0.out.only (ob_set b _ (.string q2)) hne)
 revert c2 b2 X0
 generalize World.setCell _ ⟨b, 0, none⟩ (.string q2) = W2
 intro c2 b2 X0
 clear hn c1 b1 s1
 go_wp2_with fail
 refine (number_any b q2 _ c2 s2).mono ?_
 rintro e w1 (⟨mode, q3, rfl, hn, rfl⟩ | ⟨⟨pv, rfl⟩, hn, rfl⟩)
 rotate_left 1
 ·have HP : Hid (inoO q0.data.toList = none) := by
   have e2 := numO_no hn
   unfold Hid
   simp only [inoO, H0.out, H1.out, e2, Option.bind_some, Option.bind_none]
  clear hn X0
  go_wp2
  exact ⟨rfl, .inr ⟨⟨_, rfl⟩, HP, b2⟩⟩
 have H2 : Hid (numO q2.data.toList = some (mode, q3.data.toList)) := numO_yes hn
 have s3 : q3.size ≤ 1048576 := num_size hn s2
 have c3 : CurAt (_) b q3 := c2.set
 have b3 := b2.trans (ob_set b _ (.string q3))
 replace X0 := Hid.intro (X0.out.only (ob_set b _ (.string q3)) hne)
 revert c3 b3 X0
 generalize World.setCell _ ⟨b, 0, none⟩ (.string q3) = W3
 intro c3 b3 X0
 clear hn c2 b2 s2
 go_wp2_with fail
 refine (number_any b q3 _ c3 s3).mono ?_
 rintro e w1 (⟨uid, q4, rfl, hn, rfl⟩ | ⟨⟨pv, rfl⟩, hn, rfl⟩)
 rotate_left 1
 ·have HP : Hid (inoO q0.data.toList = none) := by
   have e3 := numO_no hn
   unfold Hid
   simp only [inoO, H0.out, H1.out, H2.out, e3, Option.bind_some, Option.bind_none]
  clear hn X0
  go_wp2
  exact ⟨rfl, .inr ⟨⟨_, rfl⟩, HP, b3⟩⟩
 have H3 : Hid (numO q3.data.toList = some (uid, q4.data.toList)) := numO_yes hn
 have s4 : q4.size ≤ 1048576 := num_size hn s3
 have c4 : CurAt (_) b q4 := c3.set
 have b4 := b3.trans (ob_set b _ (.string q4))
 replace X0 := Hid.intro (X0.out.only (ob_set b _ (.string q4)) hne)
 revert c4 b4 X0
 generalize World.setCell _ ⟨b, 0, none⟩ (.string q4) = W4
 intro c4 b4 X0
 clear hn c3 b3 s3
 go_wp2_with fail
 refine (number_any b q4 _ c4 s4).mono ?_
 rintro e w1 (⟨gid, q5, rfl, hn, rfl⟩ | ⟨⟨pv, rfl⟩, hn, rfl⟩)
 rotate_left 1
 ·have HP : Hid (inoO q0.data.toList = none) := by
   have e4 := numO_no hn
   unfold Hid
   simp only [inoO, H0.out, H1.out, H2.out, H3.out, e4, Option.bind_some, Option.bind_none]
  clear hn X0
  go_wp2
  exact ⟨rfl, .inr ⟨⟨_, rfl⟩, HP, b4⟩⟩
 have H4 : Hid (numO q4.data.toList = some (gid, q5.data.toList)) := numO_yes hn
 have s5 : q5.size ≤ 1048576 := num_size hn s4
 have c5 : CurAt (_) b q5 := c4.set
 have b5 := b4.trans (ob_set b _ (.string q5))
 replace X0 := Hid.intro (X0.out.only (ob_set b _ (.string q5)) hne)
 revert c5 b5 X0
 generalize World.setCell _ ⟨b, 0, none⟩ (.string q5) = W5
 intro c5 b5 X0
 clear hn c4 b4 s4
 go_wp2_with fail
 refine (number_any b q5 _ c5 s5).mono ?_
 rintro e w1 (⟨maxb, q6, rfl, hn, rfl⟩ | ⟨⟨pv, rfl⟩, hn, rfl⟩)
 rotate_left 1
 ·have HP : Hid (inoO q0.data.toList = none) := by
   have e5 := numO_no hn
   unfold Hid
   simp only [inoO, H0.out, H1.out, H2.out, H3.out, H4.out, e5, Option.bind_some, Option.bind_none]
  clear hn X0
  go_wp2
  exact ⟨rfl, .inr ⟨⟨_, rfl⟩, HP, b5⟩⟩
 have H5 : Hid (numO q5.data.toList = some (maxb, q6.data.toList)) := numO_yes hn
 have s6 : q6.size ≤ 1048576 := num_size hn s5
 have c6 : CurAt (_) b q6 := c5.set
 have b6 := b5.trans (ob_set b _ (.string q6))
 replace X0 := Hid.intro (X0.out.only (ob_set b _ (.string q6)) hne)
 revert c6 b6 X0
 generalize World.setCell _ ⟨b, 0, none⟩ (.string q6) = W6
 intro c6 b6 X0
 clear hn c5 b5 s5
 go_wp2_with fail
 refine (number_any b q6 _ c6 s6).mono ?_
 rintro e w1 (⟨maxi, q7, rfl, hn, rfl⟩ | ⟨⟨pv, rfl⟩, hn, rfl⟩)
 rotate_left 1
 ·have HP : Hid (inoO q0.data.toList = none) := by
   have e6 := numO_no hn
   unfold Hid
   simp only [inoO, H0.out, H1.out, H2.out, H3.out, H4.out, H5.out, e6, Option.bind_some, Option.bind_none]
  clear hn X0
  go_wp2
  exact ⟨rfl, .inr ⟨⟨_, rfl⟩, HP, b6⟩⟩
 have H6 : Hid (numO q6.data.toList = some (maxi, q7.data.toList)) := numO_yes hn
 have s7 : q7.size ≤ 1048576 := num_size hn s6
 have c7 : CurAt (_) b q7 := c6.set
 have b7 := b6.trans (ob_set b _ (.string q7))
 replace X0 := Hid.intro (X0.out.only (ob_set b _ (.string q7)) hne)
 revert c7 b7 X0
 generalize World.setCell _ ⟨b, 0, none⟩ (.string q7) = W7
 intro c7 b7 X0
 clear hn c6 b6 s6
 go_wp2_with fail
 refine (pieceC_any b q7 _ c7 s7).mono ?_
 rintro e W8 (⟨data, q8, rfl, H7, c8, s8, k8⟩ | ⟨⟨pv, rfl⟩, hn, k8⟩)
 rotate_left 1
 ·have HP : Hid (inoO q0.data.toList = none) := by
   have e7 := hn.out
   unfold Hid
   simp only [inoO, H0.out, H1.out, H2.out, H3.out, H4.out, H5.out, H6.out, e7, Option.bind_some, Option.bind_none]
  have b8 := b7.trans k8
  clear hn X0
  go_wp2
  exact ⟨rfl, .inr ⟨⟨_, rfl⟩, HP, b8⟩⟩
 have b8 := b7.trans k8
 replace X0 := Hid.intro (X0.out.only k8 hne)
 clear c7 b7 k8 s7
 have z8 := X0.out.hi
 go_upto_region 2 with fail
 obtain ⟨Y, hY, bY, zY, cY, fY⟩ := boxed W8 #[.int .i64 (id : Nat), .int .i64 (kind : Nat), .int .i64 (mode : Nat), .int .i64 (uid : Nat), .int .i64 (gid : Nat), .string data, .slice none 0 0, .int .i64 (maxb : Nat), .int .i64 (maxi : Nat)] 76
 simp only [hY]
 have HI : Hid (InI w b w.heap.size W8.heap.size ⟨(id : Nat), (kind : Nat), (mode : Nat), (uid : Nat), (gid : Nat), data, [], (maxb : Nat), (maxi : Nat)⟩ Y q8 (.slice none 0 0) []) :=
  ⟨c8.kept bY, ⟨by omega, cY, fY⟩, X0.out.kept bY, Own.nil _ _, b8.trans (ob_any bY), hlt, z8, Nat.le_refl _⟩
 clear hY bY zY cY fY c8 b8 X0 hne
 generalize W8.heap.size = g3 at HI ⊢
 go_wp2_with fail
 refine (countC_any b 12 q8 _ HI.out.cur s8).mono ?_
 rintro e Z (⟨n, q9, rfl, H8, hn12, c9, s9, k9⟩ | ⟨⟨pv, rfl⟩, hn, k9⟩)
 rotate_left 1
 ·have HP : Hid (inoO q0.data.toList = none) := by
   have e8 := hn.out
   unfold Hid
   simp only [inoO, H0.out, H1.out, H2.out, H3.out, H4.out, H5.out, H6.out, H7.out, e8, Option.bind_some, Option.bind_none]
  have b9 := HI.out.only.trans k9
  clear hn HI
  go_wp2
  exact ⟨rfl, .inr ⟨⟨_, rfl⟩, HP, b9⟩⟩
 replace HI := Hid.intro (HI.out.step k9 c9)
 clear c9 k9 s8
 have HIO : Hid (inoO q0.data.toList = (nmsO n q9.data.toList).bind fun s => some (⟨(id : Nat), (kind : Nat), (mode : Nat), (uid : Nat), (gid : Nat), data, s.1, (maxb : Nat), (maxi : Nat)⟩, s.2)) := by
  unfold Hid
  simp only [inoO, H0.out, H1.out, H2.out, H3.out, H4.out, H5.out, H6.out, H7.out, H8.out, Option.bind_some, ba_of]
 clear H0 H1 H2 H3 H4 H5 H6 H7 H8
 go_wp2
 go_loopw [23] (fun i wr => ∃ (j : Nat) (q : ByteArray) (v : Value) (L : List Di), i = .int .i64 (j : Nat) ∧ j ≤ n ∧ L.length = j ∧ q.size ≤ 1048576 ∧ Hid (nmsO n q9.data.toList = (nmsO (n - j) q.data.toList).map fun y => (L ++ y.1, y.2)) ∧ Hid (InI w b w.heap.size g3 ⟨(id : Nat), (kind : Nat), (mode : Nat), (uid : Nat), (gid : Nat), data, [], (maxb : Nat), (maxi : Nat)⟩ wr q v L)) (fun i _ => n - (intOf i).toNat)
 case atStart => exact ⟨0, q9, _, [], rfl, Nat.zero_le _, rfl, s9, by unfold Hid; simp, HI⟩
 case round =>
  obtain ⟨j, q, v, L, rfl, hj, hL, sq, HN, HI⟩ := hrel
  subst hL
  by_cases hlt : L.length < n
  ·have hjn : (L.length : Int) < (n : Int) := by omega
   obtain ⟨va, vc, rfl⟩ := HI.out.own.slice
   go_upto_region 4 with fail
   refine wp_region_held_drew (S := fun _ => True) (by kernel_rfl) trivial (fun hHeld => ?_)
   have HD := Hid.intro (HI.out.kept (w2 := wr.drew) (Below.refl _ _).drew)
   clear HI
   generalize wr.drew = D at HD hHeld ⊢
   refine tkk 0 25 (v := ?_) ?_ ?_
   rotate_left 1
   ·intro w hSw
    go_simp <;> with_reducible rfl
   simp only [Act.put, List.setIfInBounds_toArray]
   try simp only [List.set_cons_succ]
   try simp only [List.set_cons_zero]
   refine tkk 2 27 (v := ?_) ?_ ?_
   rotate_left 1
   ·intro w hSw
    go_simp <;> with_reducible rfl
   simp only [Act.put, List.setIfInBounds_toArray]
   try simp only [List.set_cons_succ]
   try simp only [List.set_cons_zero]
   refine tkk 4 29 (v := ?_) ?_ ?_
   rotate_left 1
   ·intro w hSw
    go_simp <;> with_reducible rfl
   simp only [Act.put, List.setIfInBounds_toArray]
   try simp only [List.set_cons_succ]
   try simp only [List.set_cons_zero]
   refine wpAnyH_ready (rs := [1, 3]) (by kernel_rfl) (by simp) ?_
   refine (AllReadyH.cons rfl (fun KK hKK => ?_) (AllReadyH.cons rfl (fun KK hKK => ?_) AllReadyH.nil))
   ·skip
    have k6 : D.cell? ⟨g3, 6, none⟩ = some (.slice va L.length vc) := HD.out.box.cell 6
    go_simp
    refine hKK.out _ _ trivial (fun hHeld2 => ?_)
    clear hKK KK hHeld
    have hHeld := hHeld2
    clear hHeld2
    clear k6
    refine wpAnyH_ready (rs := [3]) (by kernel_rfl) (by simp) ?_
    refine (AllReadyH.cons rfl (fun KK hKK => ?_) AllReadyH.nil)
    go_simp
    refine (pieceC_any b q D HD.out.cur sq).mono ?_
    rintro e x1 (⟨nm, q1, rfl, G1, c1, s1, o1⟩ | ⟨⟨pv, rfl⟩, G1, o1⟩)
    rotate_left 1
    ·have HP : Hid (inoO q0.data.toList = none) := by
      unfold Hid
      rw [HIO.out, HN.out, nmsO_no1 (by omega) G1.out]
      rfl
     have B9 := HD.out.only.trans o1
     clear HD hKK
     go_simp
     go_wp2
     exact ⟨rfl, .inr ⟨⟨_, rfl⟩, HP, B9⟩⟩
    replace HD := Hid.intro (HD.out.step o1 c1)
    clear o1 c1
    go_simp
    refine hKK.out _ _ trivial (fun hHeld2 => ?_)
    clear hKK KK hHeld
    have hHeld := hHeld2
    clear hHeld2
    refine wpAnyH_ready (rs := [5]) (by kernel_rfl) (by simp) ?_
    refine (AllReadyH.cons rfl (fun KK hKK => ?_) AllReadyH.nil)
    go_simp
    refine (number_any b q1 x1 HD.out.cur s1).mono ?_
    rintro e x2 (⟨x, q2, rfl, hn, rfl⟩ | ⟨⟨pv, rfl⟩, hn, rfl⟩)
    rotate_left 1
    ·have HP : Hid (inoO q0.data.toList = none) := by
      unfold Hid
      rw [HIO.out, HN.out, nmsO_no2 (by omega) G1.out (numO_no hn)]
      rfl
     have B9 := HD.out.only
     clear HD hKK hn
     go_simp
     go_wp2
     exact ⟨rfl, .inr ⟨⟨_, rfl⟩, HP, B9⟩⟩
    have HN2 : Hid (nmsO n q9.data.toList = (nmsO (n - (L.length + 1)) q2.data.toList).map fun y => ((L ++ [⟨nm, (x : Int)⟩]) ++ y.1, y.2)) := by
     unfold Hid
     rw [HN.out, nmsO_yes (by omega) G1.out (numO_yes hn), Nat.sub_sub, ba_of]
     cases nmsO (n - (L.length + 1)) q2.data.toList <;> simp
    have s2 : q2.size ≤ 1048576 := num_size hn s1
    replace HD := Hid.intro (HD.out.step (ob_set b _ (.string q2)) HD.out.cur.set)
    clear hn HN
    revert HD
    generalize World.setCell x1 ⟨b, 0, none⟩ (.string q2) = x2
    intro HD
    go_simp
    refine hKK.out _ _ trivial (fun hHeld2 => ?_)
    clear hKK KK hHeld
    have hHeld := hHeld2
    clear hHeld2
    refine tkk 6 31 (v := ?_) ?_ ?_
    rotate_left 1
    ·intro w hSw
     go_simp <;> with_reducible rfl
    simp only [Act.put, List.setIfInBounds_toArray]
    try simp only [List.set_cons_succ]
    try simp only [List.set_cons_zero]
    refine wpAnyH_ready (rs := [7]) (by kernel_rfl) (by simp) ?_
    refine (AllReadyH.cons rfl (fun KK hKK => ?_) AllReadyH.nil)
    go_simp
    have bM : Below x2.heap.size x2 (x2.alloc (.cells #[.string nm, .int .i64 (x : Nat)] 102)) := one_below _ _
    have cM : ∀ o, (x2.alloc (.cells #[.string nm, .int .i64 (x : Nat)] 102)).cell? ⟨x2.heap.size, o, none⟩ = #[Value.string nm, .int .i64 (x : Nat)][o]? := fun o => World.cell?_alloc_at _ _ _ _ rfl
    replace HD := Hid.intro (HD.out.kept bM)
    revert HD cM
    generalize x2.alloc (.cells #[.string nm, .int .i64 (x : Nat)] 102) = M at bM
    generalize x2.heap.size = sb
    intro cM HD
    refine hKK.out _ _ trivial (fun hHeld2 => ?_)
    clear hKK KK hHeld
    have hHeld := hHeld2
    clear hHeld2
    refine wpAnyH_ready (rs := [8]) (by kernel_rfl) (by simp) ?_
    refine (AllReadyH.cons rfl (fun KK hKK => ?_) AllReadyH.nil)
    have hnews : ∀ j u, (diE.f [⟨nm, (x : Int)⟩])[j]? = some u → M.cell? ((⟨sb, 0, none⟩ : Addr).add j) = some u := fun j u hj => by
     rw [add_none, Nat.zero_add, cM]
     simpa [diE, Enc.f] using hj
    have hbase : g3 + 1 ≤ M.heap.size := HD.out.box.hi
    refine step_Di rfl _ _ rfl (g3 + 1) (.slice va L.length vc) L ⟨nm, (x : Int)⟩ rfl HD.out.own ⟨sb, 0, none⟩ 1 rfl hnews (by omega) hbase ?_
    intro g cap2 w4 hown ho hloc hg
    rw [show (L ++ [⟨nm, (x : Int)⟩] : List Di).length = L.length + 1 by simp] at hown
    have hne3 : ¬ some g3 = (Value.slice va L.length vc).ownBlock := fun e => by have := (HD.out.own.lt g3 e.symm).1; omega
    have k6 := (ho.cell (o := 6) HD.out.box.hi hne3).trans (HD.out.box.cell 6)
    have f6 := (ho.frozen (o := 6) HD.out.box.hi hne3).trans (HD.out.box.fro 6)
    have HE := Hid.intro (HD.out.put ho hown)
    have k6 : w4.cell? ⟨g3, 6, none⟩ = some (.slice va L.length vc) := k6
    clear HD hown ho hloc hg hnews hbase cM hne3 bM
    go_simp
    refine hKK.out _ _ trivial (fun hHeld2 => ?_)
    clear hKK KK hHeld
    have hHeld := hHeld2
    clear hHeld2
    refine tkk 9 34 (v := ?_) ?_ ?_
    rotate_left 1
    ·intro w hSw
     go_simp <;> with_reducible rfl
    simp only [Act.put, List.setIfInBounds_toArray]
    try simp only [List.set_cons_succ]
    try simp only [List.set_cons_zero]
    refine wpAnyH_ready (rs := [10]) (by kernel_rfl) (by simp) ?_
    refine (AllReadyH.cons rfl (fun KK hKK => ?_) AllReadyH.nil)
    go_simp
    generalize w4.setCell ⟨g3, 6, none⟩ _ = w5 at HE ⊢
    clear k6 f6
    refine hKK.out _ _ trivial (fun hHeld2 => ?_)
    clear hKK KK hHeld
    have hHeld := hHeld2
    clear hHeld2
    refine wpAnyH_done (by kernel_rfl) ?_ _
    clear hHeld
    go_wp2
    go_roundw
    case rel => exact ⟨L.length + 1, q2, _, L ++ [⟨nm, (x : Int)⟩], by go_num, by omega, by simp, s2, HN2, HE⟩
    case measure => simp [intOf]; omega
   ·skip
    go_simp
    refine (pieceC_any b q D HD.out.cur sq).mono ?_
    rintro e x1 (⟨nm, q1, rfl, G1, c1, s1, o1⟩ | ⟨⟨pv, rfl⟩, G1, o1⟩)
    rotate_left 1
    ·have HP : Hid (inoO q0.data.toList = none) := by
      unfold Hid
      rw [HIO.out, HN.out, nmsO_no1 (by omega) G1.out]
      rfl
     have B9 := HD.out.only.trans o1
     clear HD hKK
     go_simp
     go_wp2
     exact ⟨rfl, .inr ⟨⟨_, rfl⟩, HP, B9⟩⟩
    replace HD := Hid.intro (HD.out.step o1 c1)
    clear o1 c1
    go_simp
    refine hKK.out _ _ trivial (fun hHeld2 => ?_)
    clear hKK KK hHeld
    have hHeld := hHeld2
    clear hHeld2
    refine wpAnyH_ready (rs := [1, 5]) (by kernel_rfl) (by simp) ?_
    refine (AllReadyH.cons rfl (fun KK hKK => ?_) (AllReadyH.cons rfl (fun KK hKK => ?_) AllReadyH.nil))
    ·skip
     have k6 : x1.cell? ⟨g3, 6, none⟩ = some (.slice va L.length vc) := HD.out.box.cell 6
     go_simp
     refine hKK.out _ _ trivial (fun hHeld2 => ?_)
     clear hKK KK hHeld
     have hHeld := hHeld2
     clear hHeld2
     clear k6
     refine wpAnyH_ready (rs := [5]) (by kernel_rfl) (by simp) ?_
     refine (AllReadyH.cons rfl (fun KK hKK => ?_) AllReadyH.nil)
     go_simp
     refine (number_any b q1 x1 HD.out.cur s1).mono ?_
     rintro e x2 (⟨x, q2, rfl, hn, rfl⟩ | ⟨⟨pv, rfl⟩, hn, rfl⟩)
     rotate_left 1
     ·have HP : Hid (inoO q0.data.toList = none) := by
       unfold Hid
       rw [HIO.out, HN.out, nmsO_no2 (by omega) G1.out (numO_no hn)]
       rfl
      have B9 := HD.out.only
      clear HD hKK hn
      go_simp
      go_wp2
      exact ⟨rfl, .inr ⟨⟨_, rfl⟩, HP, B9⟩⟩
     have HN2 : Hid (nmsO n q9.data.toList = (nmsO (n - (L.length + 1)) q2.data.toList).map fun y => ((L ++ [⟨nm, (x : Int)⟩]) ++ y.1, y.2)) := by
      unfold Hid
      rw [HN.out, nmsO_yes (by omega) G1.out (numO_yes hn), Nat.sub_sub, ba_of]
      cases nmsO (n - (L.length + 1)) q2.data.toList <;> simp
     have s2 : q2.size ≤ 1048576 := num_size hn s1
     replace HD := Hid.intro (HD.out.step (ob_set b _ (.string q2)) HD.out.cur.set)
     clear hn HN
     revert HD
     generalize World.setCell x1 ⟨b, 0, none⟩ (.string q2) = x2
     intro HD
     go_simp
     refine hKK.out _ _ trivial (fun hHeld2 => ?_)
     clear hKK KK hHeld
     have hHeld := hHeld2
     clear hHeld2
     refine tkk 6 31 (v := ?_) ?_ ?_
     rotate_left 1
     ·intro w hSw
      go_simp <;> with_reducible rfl
     simp only [Act.put, List.setIfInBounds_toArray]
     try simp only [List.set_cons_succ]
     try simp only [List.set_cons_zero]
     refine wpAnyH_ready (rs := [7]) (by kernel_rfl) (by simp) ?_
     refine (AllReadyH.cons rfl (fun KK hKK => ?_) AllReadyH.nil)
     go_simp
     have bM : Below x2.heap.size x2 (x2.alloc (.cells #[.string nm, .int .i64 (x : Nat)] 102)) := one_below _ _
     have cM : ∀ o, (x2.alloc (.cells #[.string nm, .int .i64 (x : Nat)] 102)).cell? ⟨x2.heap.size, o, none⟩ = #[Value.string nm, .int .i64 (x : Nat)][o]? := fun o => World.cell?_alloc_at _ _ _ _ rfl
     replace HD := Hid.intro (HD.out.kept bM)
     revert HD cM
     generalize x2.alloc (.cells #[.string nm, .int .i64 (x : Nat)] 102) = M at bM
     generalize x2.heap.size = sb
     intro cM HD
     refine hKK.out _ _ trivial (fun hHeld2 => ?_)
     clear hKK KK hHeld
     have hHeld := hHeld2
     clear hHeld2
     refine wpAnyH_ready (rs := [8]) (by kernel_rfl) (by simp) ?_
     refine (AllReadyH.cons rfl (fun KK hKK => ?_) AllReadyH.nil)
     have hnews : ∀ j u, (diE.f [⟨nm, (x : Int)⟩])[j]? = some u → M.cell? ((⟨sb, 0, none⟩ : Addr).add j) = some u := fun j u hj => by
      rw [add_none, Nat.zero_add, cM]
      simpa [diE, Enc.f] using hj
     have hbase : g3 + 1 ≤ M.heap.size := HD.out.box.hi
     refine step_Di rfl _ _ rfl (g3 + 1) (.slice va L.length vc) L ⟨nm, (x : Int)⟩ rfl HD.out.own ⟨sb, 0, none⟩ 1 rfl hnews (by omega) hbase ?_
     intro g cap2 w4 hown ho hloc hg
     rw [show (L ++ [⟨nm, (x : Int)⟩] : List Di).length = L.length + 1 by simp] at hown
     have hne3 : ¬ some g3 = (Value.slice va L.length vc).ownBlock := fun e => by have := (HD.out.own.lt g3 e.symm).1; omega
     have k6 := (ho.cell (o := 6) HD.out.box.hi hne3).trans (HD.out.box.cell 6)
     have f6 := (ho.frozen (o := 6) HD.out.box.hi hne3).trans (HD.out.box.fro 6)
     have HE := Hid.intro (HD.out.put ho hown)
     have k6 : w4.cell? ⟨g3, 6, none⟩ = some (.slice va L.length vc) := k6
     clear HD hown ho hloc hg hnews hbase cM hne3 bM
     go_simp
     refine hKK.out _ _ trivial (fun hHeld2 => ?_)
     clear hKK KK hHeld
     have hHeld := hHeld2
     clear hHeld2
     refine tkk 9 34 (v := ?_) ?_ ?_
     rotate_left 1
     ·intro w hSw
      go_simp <;> with_reducible rfl
     simp only [Act.put, List.setIfInBounds_toArray]
     try simp only [List.set_cons_succ]
     try simp only [List.set_cons_zero]
     refine wpAnyH_ready (rs := [10]) (by kernel_rfl) (by simp) ?_
     refine (AllReadyH.cons rfl (fun KK hKK => ?_) AllReadyH.nil)
     go_simp
     generalize w4.setCell ⟨g3, 6, none⟩ _ = w5 at HE ⊢
     clear k6 f6
     refine hKK.out _ _ trivial (fun hHeld2 => ?_)
     clear hKK KK hHeld
     have hHeld := hHeld2
     clear hHeld2
     refine wpAnyH_done (by kernel_rfl) ?_ _
     clear hHeld
     go_wp2
     go_roundw
     case rel => exact ⟨L.length + 1, q2, _, L ++ [⟨nm, (x : Int)⟩], by go_num, by omega, by simp, s2, HN2, HE⟩
     case measure => simp [intOf]; omega
    ·skip
     go_simp
     refine (number_any b q1 x1 HD.out.cur s1).mono ?_
     rintro e x2 (⟨x, q2, rfl, hn, rfl⟩ | ⟨⟨pv, rfl⟩, hn, rfl⟩)
     rotate_left 1
     ·have HP : Hid (inoO q0.data.toList = none) := by
       unfold Hid
       rw [HIO.out, HN.out, nmsO_no2 (by omega) G1.out (numO_no hn)]
       rfl
      have B9 := HD.out.only
      clear HD hKK hn
      go_simp
      go_wp2
      exact ⟨rfl, .inr ⟨⟨_, rfl⟩, HP, B9⟩⟩
     have HN2 : Hid (nmsO n q9.data.toList = (nmsO (n - (L.length + 1)) q2.data.toList).map fun y => ((L ++ [⟨nm, (x : Int)⟩]) ++ y.1, y.2)) := by
      unfold Hid
      rw [HN.out, nmsO_yes (by omega) G1.out (numO_yes hn), Nat.sub_sub, ba_of]
      cases nmsO (n - (L.length + 1)) q2.data.toList <;> simp
     have s2 : q2.size ≤ 1048576 := num_size hn s1
     replace HD := Hid.intro (HD.out.step (ob_set b _ (.string q2)) HD.out.cur.set)
     clear hn HN
     revert HD
     generalize World.setCell x1 ⟨b, 0, none⟩ (.string q2) = x2
     intro HD
     go_simp
     refine hKK.out _ _ trivial (fun hHeld2 => ?_)
     clear hKK KK hHeld
     have hHeld := hHeld2
     clear hHeld2
     refine tkk 6 31 (v := ?_) ?_ ?_
     rotate_left 1
     ·intro w hSw
      go_simp <;> with_reducible rfl
     simp only [Act.put, List.setIfInBounds_toArray]
     try simp only [List.set_cons_succ]
     try simp only [List.set_cons_zero]
     refine wpAnyH_ready (rs := [1, 7]) (by kernel_rfl) (by simp) ?_
     refine (AllReadyH.cons rfl (fun KK hKK => ?_) (AllReadyH.cons rfl (fun KK hKK => ?_) AllReadyH.nil))
     ·skip
      have k6 : x2.cell? ⟨g3, 6, none⟩ = some (.slice va L.length vc) := HD.out.box.cell 6
      go_simp
      refine hKK.out _ _ trivial (fun hHeld2 => ?_)
      clear hKK KK hHeld
      have hHeld := hHeld2
      clear hHeld2
      clear k6
      refine wpAnyH_ready (rs := [7]) (by kernel_rfl) (by simp) ?_
      refine (AllReadyH.cons rfl (fun KK hKK => ?_) AllReadyH.nil)
      go_simp
      have bM : Below x2.heap.size x2 (x2.alloc (.cells #[.string nm, .int .i64 (x : Nat)] 102)) := one_below _ _
      have cM : ∀ o, (x2.alloc (.cells #[.string nm, .int .i64 (x : Nat)] 102)).cell? ⟨x2.heap.size, o, none⟩ = #[Value.string nm, .int .i64 (x : Nat)][o]? := fun o => World.cell?_alloc_at _ _ _ _ rfl
      replace HD := Hid.intro (HD.out.kept bM)
      revert HD cM
      generalize x2.alloc (.cells #[.string nm, .int .i64 (x : Nat)] 102) = M at bM
      generalize x2.heap.size = sb
      intro cM HD
      refine hKK.out _ _ trivial (fun hHeld2 => ?_)
      clear hKK KK hHeld
      have hHeld := hHeld2
      clear hHeld2
      refine wpAnyH_ready (rs := [8]) (by kernel_rfl) (by simp) ?_
      refine (AllReadyH.cons rfl (fun KK hKK => ?_) AllReadyH.nil)
      have hnews : ∀ j u, (diE.f [⟨nm, (x : Int)⟩])[j]? = some u → M.cell? ((⟨sb, 0, none⟩ : Addr).add j) = some u := fun j u hj => by
       rw [add_none, Nat.zero_add, cM]
       simpa [diE, Enc.f] using hj
      have hbase : g3 + 1 ≤ M.heap.size := HD.out.box.hi
      refine step_Di rfl _ _ rfl (g3 + 1) (.slice va L.length vc) L ⟨nm, (x : Int)⟩ rfl HD.out.own ⟨sb, 0, none⟩ 1 rfl hnews (by omega) hbase ?_
      intro g cap2 w4 hown ho hloc hg
      rw [show (L ++ [⟨nm, (x : Int)⟩] : List Di).length = L.length + 1 by simp] at hown
      have hne3 : ¬ some g3 = (Value.slice va L.length vc).ownBlock := fun e => by have := (HD.out.own.lt g3 e.symm).1; omega
      have k6 := (ho.cell (o := 6) HD.out.box.hi hne3).trans (HD.out.box.cell 6)
      have f6 := (ho.frozen (o := 6) HD.out.box.hi hne3).trans (HD.out.box.fro 6)
      have HE := Hid.intro (HD.out.put ho hown)
      have k6 : w4.cell? ⟨g3, 6, none⟩ = some (.slice va L.length vc) := k6
      clear HD hown ho hloc hg hnews hbase cM hne3 bM
      go_simp
      refine hKK.out _ _ trivial (fun hHeld2 => ?_)
      clear hKK KK hHeld
      have hHeld := hHeld2
      clear hHeld2
      refine tkk 9 34 (v := ?_) ?_ ?_
      rotate_left 1
      ·intro w hSw
       go_simp <;> with_reducible rfl
      simp only [Act.put, List.setIfInBounds_toArray]
      try simp only [List.set_cons_succ]
      try simp only [List.set_cons_zero]
      refine wpAnyH_ready (rs := [10]) (by kernel_rfl) (by simp) ?_
      refine (AllReadyH.cons rfl (fun KK hKK => ?_) AllReadyH.nil)
      go_simp
      generalize w4.setCell ⟨g3, 6, none⟩ _ = w5 at HE ⊢
      clear k6 f6
      refine hKK.out _ _ trivial (fun hHeld2 => ?_)
      clear hKK KK hHeld
      have hHeld := hHeld2
      clear hHeld2
      refine wpAnyH_done (by kernel_rfl) ?_ _
      clear hHeld
      go_wp2
      go_roundw
      case rel => exact ⟨L.length + 1, q2, _, L ++ [⟨nm, (x : Int)⟩], by go_num, by omega, by simp, s2, HN2, HE⟩
      case measure => simp [intOf]; omega
     ·skip
      go_simp
      have bM : Below x2.heap.size x2 (x2.alloc (.cells #[.string nm, .int .i64 (x : Nat)] 102)) := one_below _ _
      have cM : ∀ o, (x2.alloc (.cells #[.string nm, .int .i64 (x : Nat)] 102)).cell? ⟨x2.heap.size, o, none⟩ = #[Value.string nm, .int .i64 (x : Nat)][o]? := fun o => World.cell?_alloc_at _ _ _ _ rfl
      replace HD := Hid.intro (HD.out.kept bM)
      revert HD cM
      generalize x2.alloc (.cells #[.string nm, .int .i64 (x : Nat)] 102) = M at bM
      generalize x2.heap.size = sb
      intro cM HD
      refine hKK.out _ _ trivial (fun hHeld2 => ?_)
      clear hKK KK hHeld
      have hHeld := hHeld2
      clear hHeld2
      refine wpAnyH_ready (rs := [1]) (by kernel_rfl) (by simp) ?_
      refine (AllReadyH.cons rfl (fun KK hKK => ?_) AllReadyH.nil)
      have k6 : M.cell? ⟨g3, 6, none⟩ = some (.slice va L.length vc) := HD.out.box.cell 6
      go_simp
      refine hKK.out _ _ trivial (fun hHeld2 => ?_)
      clear hKK KK hHeld
      have hHeld := hHeld2
      clear hHeld2
      clear k6
      refine wpAnyH_ready (rs := [8]) (by kernel_rfl) (by simp) ?_
      refine (AllReadyH.cons rfl (fun KK hKK => ?_) AllReadyH.nil)
      have hnews : ∀ j u, (diE.f [⟨nm, (x : Int)⟩])[j]? = some u → M.cell? ((⟨sb, 0, none⟩ : Addr).add j) = some u := fun j u hj => by
       rw [add_none, Nat.zero_add, cM]
       simpa [diE, Enc.f] using hj
      have hbase : g3 + 1 ≤ M.heap.size := HD.out.box.hi
      refine step_Di rfl _ _ rfl (g3 + 1) (.slice va L.length vc) L ⟨nm, (x : Int)⟩ rfl HD.out.own ⟨sb, 0, none⟩ 1 rfl hnews (by omega) hbase ?_
      intro g cap2 w4 hown ho hloc hg
      rw [show (L ++ [⟨nm, (x : Int)⟩] : List Di).length = L.length + 1 by simp] at hown
      have hne3 : ¬ some g3 = (Value.slice va L.length vc).ownBlock := fun e => by have := (HD.out.own.lt g3 e.symm).1; omega
      have k6 := (ho.cell (o := 6) HD.out.box.hi hne3).trans (HD.out.box.cell 6)
      have f6 := (ho.frozen (o := 6) HD.out.box.hi hne3).trans (HD.out.box.fro 6)
      have HE := Hid.intro (HD.out.put ho hown)
      have k6 : w4.cell? ⟨g3, 6, none⟩ = some (.slice va L.length vc) := k6
      clear HD hown ho hloc hg hnews hbase cM hne3 bM
      go_simp
      refine hKK.out _ _ trivial (fun hHeld2 => ?_)
      clear hKK KK hHeld
      have hHeld := hHeld2
      clear hHeld2
      refine tkk 9 34 (v := ?_) ?_ ?_
      rotate_left 1
      ·intro w hSw
       go_simp <;> with_reducible rfl
      simp only [Act.put, List.setIfInBounds_toArray]
      try simp only [List.set_cons_succ]
      try simp only [List.set_cons_zero]
      refine wpAnyH_ready (rs := [10]) (by kernel_rfl) (by simp) ?_
      refine (AllReadyH.cons rfl (fun KK hKK => ?_) AllReadyH.nil)
      go_simp
      generalize w4.setCell ⟨g3, 6, none⟩ _ = w5 at HE ⊢
      clear k6 f6
      refine hKK.out _ _ trivial (fun hHeld2 => ?_)
      clear hKK KK hHeld
      have hHeld := hHeld2
      clear hHeld2
      refine wpAnyH_done (by kernel_rfl) ?_ _
      clear hHeld
      go_wp2
      go_roundw
      case rel => exact ⟨L.length + 1, q2, _, L ++ [⟨nm, (x : Int)⟩], by go_num, by omega, by simp, s2, HN2, HE⟩
      case measure => simp [intOf]; omega
  ·have hjn : ¬ (L.length : Int) < (n : Int) := by omega
   have e0 : n - L.length = 0 := by omega
   have HP : Hid (inoO q0.data.toList = some (⟨(id : Nat), (kind : Nat), (mode : Nat), (uid : Nat), (gid : Nat), data, L, (maxb : Nat), (maxi : Nat)⟩, q.data.toList)) := by
    unfold Hid
    rw [HIO.out, HN.out, e0]
    simp [nmsO]
   obtain ⟨va, vc, rfl⟩ := HI.out.own.slice
   clear HIO HN
   have k0 : wr.cell? ⟨g3, 0, none⟩ = some (.int .i64 (id : Nat)) := HI.out.box.cell 0
   have r0 : wr.cell? ⟨w.heap.size, 0, none⟩ = some (.int .i64 0) := HI.out.res.cell 0
   have f0 : wr.frozen? ⟨w.heap.size, 0, none⟩ = false := HI.out.res.fro 0
   have k1 : wr.cell? ⟨g3, 1, none⟩ = some (.int .i64 (kind : Nat)) := HI.out.box.cell 1
   have r1 : wr.cell? ⟨w.heap.size, 1, none⟩ = some (.int .i64 0) := HI.out.res.cell 1
   have f1 : wr.frozen? ⟨w.heap.size, 1, none⟩ = false := HI.out.res.fro 1
   have k2 : wr.cell? ⟨g3, 2, none⟩ = some (.int .i64 (mode : Nat)) := HI.out.box.cell 2
   have r2 : wr.cell? ⟨w.heap.size, 2, none⟩ = some (.int .i64 0) := HI.out.res.cell 2
   have f2 : wr.frozen? ⟨w.heap.size, 2, none⟩ = false := HI.out.res.fro 2
   have k3 : wr.cell? ⟨g3, 3, none⟩ = some (.int .i64 (uid : Nat)) := HI.out.box.cell 3
   have r3 : wr.cell? ⟨w.heap.size, 3, none⟩ = some (.int .i64 0) := HI.out.res.cell 3
   have f3 : wr.frozen? ⟨w.heap.size, 3, none⟩ = false := HI.out.res.fro 3
   have k4 : wr.cell? ⟨g3, 4, none⟩ = some (.int .i64 (gid : Nat)) := HI.out.box.cell 4
   have r4 : wr.cell? ⟨w.heap.size, 4, none⟩ = some (.int .i64 0) := HI.out.res.cell 4
   have f4 : wr.frozen? ⟨w.heap.size, 4, none⟩ = false := HI.out.res.fro 4
   have k5 : wr.cell? ⟨g3, 5, none⟩ = some (.string data) := HI.out.box.cell 5
   have r5 : wr.cell? ⟨w.heap.size, 5, none⟩ = some (.string ⟨#[]⟩) := HI.out.res.cell 5
   have f5 : wr.frozen? ⟨w.heap.size, 5, none⟩ = false := HI.out.res.fro 5
   have k6 : wr.cell? ⟨g3, 6, none⟩ = some (.slice va L.length vc) := HI.out.box.cell 6
   have r6 : wr.cell? ⟨w.heap.size, 6, none⟩ = some (.slice none 0 0) := HI.out.res.cell 6
   have f6 : wr.frozen? ⟨w.heap.size, 6, none⟩ = false := HI.out.res.fro 6
   have k7 : wr.cell? ⟨g3, 7, none⟩ = some (.int .i64 (maxb : Nat)) := HI.out.box.cell 7
   have r7 : wr.cell? ⟨w.heap.size, 7, none⟩ = some (.int .i64 0) := HI.out.res.cell 7
   have f7 : wr.frozen? ⟨w.heap.size, 7, none⟩ = false := HI.out.res.fro 7
   have k8 : wr.cell? ⟨g3, 8, none⟩ = some (.int .i64 (maxi : Nat)) := HI.out.box.cell 8
   have r8 : wr.cell? ⟨w.heap.size, 8, none⟩ = some (.int .i64 0) := HI.out.res.cell 8
   have f8 : wr.frozen? ⟨w.heap.size, 8, none⟩ = false := HI.out.res.fro 8
   have hne3 : ¬ w.heap.size = g3 := by have := HI.out.lt; omega
   have HO := set9_only w.heap.size wr (.int .i64 (id : Nat)) (.int .i64 (kind : Nat)) (.int .i64 (mode : Nat)) (.int .i64 (uid : Nat)) (.int .i64 (gid : Nat)) (.string data) (.slice va L.length vc) (.int .i64 (maxb : Nat)) (.int .i64 (maxi : Nat))
   have hlt3 := HI.out.lt
   go_wp2
   refine bodyPost_ret (v := ndV ⟨(id : Nat), (kind : Nat), (mode : Nat), (uid : Nat), (gid : Nat), data, L, (maxb : Nat), (maxi : Nat)⟩ (.slice va L.length vc)) (by simp [results, Tryz.results63, go_sem, r0, r1, r2, r3, r4, r5, r6, r7, r8]) rfl (.inl ⟨_, _, q, rfl, HP, HI.out.cur.only HO (fun e => by omega), sq, ?_, HI.out.only.then HO (fun x hx e => by omega)⟩)
   exact (HI.out.own.only HO (fun k hk e => by have := (HI.out.own.lt k hk).1; omega)).lower (by omega)
end Go.Proofs.YtegdogdlohoheaaGreat
