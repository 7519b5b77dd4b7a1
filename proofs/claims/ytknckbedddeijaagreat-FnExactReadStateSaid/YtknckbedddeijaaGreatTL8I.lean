/- The sentence's l8Inode. -/
import Derived.Test.YtknckbedddeijaaGreatTCurVo
import Derived.Test.YtknckbedddeijaaGreatTTake
import Derived.Test.YtknckbedddeijaaGreatTCallIff
import Derived.Deep.RegionHeld3
namespace Go.Proofs.YtknckbedddeijaaGreat
open Go.RowKit
set_option linter.unusedVariables false
theorem varsO_more {n : Nat} {l r : List UInt8} {xs : List Nat} (h : varsO (n + 1) l = some (xs, r)) : ∃ x ys r1, xs = x :: ys ∧ numO l = some (x, r1) ∧ varsO n r1 = some (ys, r) := by
 rw [varsO] at h
 obtain ⟨⟨x, r1⟩, h1, h⟩ := bind_out h
 obtain ⟨⟨ys, r2⟩, h2, h⟩ := bind_out h
 dsimp only at h2
 simp only [Option.some.injEq, Prod.mk.injEq] at h
 obtain ⟨rfl, rfl⟩ := h
 exact ⟨x, ys, r1, rfl, h1, h2⟩
theorem varsO_less {n : Nat} {l : List UInt8} (h : varsO (n + 1) l = none) : numO l = none ∨ ∃ x r1, numO l = some (x, r1) ∧ varsO n r1 = none := by
 cases h1 : numO l with
 | none => exact .inl rfl
 | some a =>
  obtain ⟨x, r1⟩ := a
  refine .inr ⟨x, r1, rfl, ?_⟩
  cases h2 : varsO n r1 with
  | none => rfl
  | some b =>
   rw [varsO, h1] at h
   simp only [Option.bind_some, h2] at h
   cases h
/-- What stands behind the seven numbers. -/
noncomputable def inoR (a b c d e f g : Nat) (l : List UInt8) : Option (Nd × List UInt8) :=
 (pieO l).bind fun p => (cntO 12 p.2).bind fun n => (nmsO n.1 n.2).bind fun s => some (⟨(a : Int), (b : Int), (c : Int), (d : Int), (e : Int), ⟨p.1.toArray⟩, s.1, (f : Int), (g : Int)⟩, s.2)
theorem vars7_yes {l r : List UInt8} {xs : List Nat} (h : varsO 7 l = some (xs, r)) : ∃ a b c d e f g, xs = [a, b, c, d, e, f, g] ∧ inoO l = inoR a b c d e f g r := by
 obtain ⟨a, y1, r1, rfl, h1, h⟩ := varsO_more h
 obtain ⟨b, y2, r2, rfl, h2, h⟩ := varsO_more h
 obtain ⟨c, y3, r3, rfl, h3, h⟩ := varsO_more h
 obtain ⟨d, y4, r4, rfl, h4, h⟩ := varsO_more h
 obtain ⟨e, y5, r5, rfl, h5, h⟩ := varsO_more h
 obtain ⟨f, y6, r6, rfl, h6, h⟩ := varsO_more h
 obtain ⟨g, y7, r7, rfl, h7, h⟩ := varsO_more h
 rw [varsO] at h
 simp only [Option.some.injEq, Prod.mk.injEq] at h
 obtain ⟨rfl, rfl⟩ := h
 refine ⟨a, b, c, d, e, f, g, rfl, ?_⟩
 simp only [inoO, h1, h2, h3, h4, h5, h6, h7, Option.bind_some, inoR]
theorem vars7_no {l : List UInt8} (h : varsO 7 l = none) : inoO l = none := by
 rcases varsO_less h with h1 | ⟨a, r1, h1, h⟩
 ·simp only [inoO, h1, Option.bind_none]
 rcases varsO_less h with h2 | ⟨b, r2, h2, h⟩
 ·simp only [inoO, h1, h2, Option.bind_some, Option.bind_none]
 rcases varsO_less h with h3 | ⟨c, r3, h3, h⟩
 ·simp only [inoO, h1, h2, h3, Option.bind_some, Option.bind_none]
 rcases varsO_less h with h4 | ⟨d, r4, h4, h⟩
 ·simp only [inoO, h1, h2, h3, h4, Option.bind_some, Option.bind_none]
 rcases varsO_less h with h5 | ⟨e, r5, h5, h⟩
 ·simp only [inoO, h1, h2, h3, h4, h5, Option.bind_some, Option.bind_none]
 rcases varsO_less h with h6 | ⟨f, r6, h6, h⟩
 ·simp only [inoO, h1, h2, h3, h4, h5, h6, Option.bind_some, Option.bind_none]
 rcases varsO_less h with h7 | ⟨g, r7, h7, h⟩
 ·simp only [inoO, h1, h2, h3, h4, h5, h6, h7, Option.bind_some, Option.bind_none]
 ·rw [varsO] at h; cases h
structure InS (w5 : World) (g3 B : Nat) (n : Nd) (wr : World) (v : Value) (L : List Di) : Prop where
 box : Blk wr g3 (ndA n v)
 own : Own diE 102 wr B v L
 only : Only (fun k => k = g3) w5 wr
 lt : g3 < B ∧ B = w5.heap.size
theorem InS.kept {w5 : World} {g3 B : Nat} {n : Nd} {wr w2 : World} {v : Value} {L : List Di} (h : InS w5 g3 B n wr v L) (hb : Below wr.heap.size wr w2) : InS w5 g3 B n w2 v L :=
 ⟨h.box.kept hb, h.own.kept hb, h.only.trans (ob_any hb), h.lt⟩
theorem InS.put {w5 : World} {g3 B : Nat} {n : Nd} {wr w4 : World} {v : Value} {L L' : List Di} {g m cap : Nat} (h : InS w5 g3 B n wr v L) (ho : Only (fun k => some k = v.ownBlock) wr w4) (hown : Own diE 102 w4 B (.slice (some ⟨g, 0, none⟩) m cap) L') :
  InS w5 g3 B n (w4.setCell ⟨g3, 6, none⟩ (.slice (some ⟨g, 0, none⟩) m cap)) (.slice (some ⟨g, 0, none⟩) m cap) L' := by
 have hlt := h.lt
 have nb : ∀ k, some k = v.ownBlock → B ≤ k := fun k hk => (h.own.lt k hk.symm).1
 have h3 : ¬ some g3 = v.ownBlock := fun e => by have := nb g3 e; omega
 have bx := h.box.only ho h3
 refine ⟨⟨by simpa using bx.hi, fun o => ?_, fun o => ?_⟩, hown.only (set_only g3 6 w4 _) (fun k hk e => ?_), (h.only.then ho (fun k hk e => by have := nb k e; omega)).trans (set_only g3 6 w4 _), hlt⟩
 ·by_cases e : o = 6
  ·subst e
   exact World.cell?_setCell_same _ _ _ (bx.cell 6)
  ·rw [World.cell?_setCell_other _ _ _ _ (by intro e2; simp at e2 <;> omega), bx.cell o]
   exact ndA_set n _ _ o e
 ·rw [World.frozen?_setCell]; exact bx.fro o
 ·have := (hown.lt k hk).1; omega
theorem ndA_data (n : Nd) (v : Value) (d : ByteArray) (o : Nat) (h : o ≠ 5) : (ndA n v)[o]? = (ndA { n with data := d } v)[o]? := by
 match o, h with
 | 0, _ => rfl
 | 1, _ => rfl
 | 2, _ => rfl
 | 3, _ => rfl
 | 4, _ => rfl
 | 6, _ => rfl
 | 7, _ => rfl
 | 8, _ => rfl
 | o + 9, _ => simp
theorem blk_data {w : World} {g : Nat} {n : Nd} {v : Value} (h : Blk w g (ndA n v)) (d : ByteArray) : Blk (w.setCell ⟨g, 5, none⟩ (.string d)) g (ndA { n with data := d } v) := by
 refine ⟨by simpa using h.hi, fun o => ?_, fun o => ?_⟩
 ·by_cases e : o = 5
  ·subst e
   exact World.cell?_setCell_same _ _ _ (h.cell 5)
  ·rw [World.cell?_setCell_other _ _ _ _ (by intro e2; simp at e2 <;> omega), h.cell o]
   exact ndA_data n v d o e
 ·rw [World.frozen?_setCell]; exact h.fro o
/-- What l8Inode hands back. -/
def InoS (s : ByteArray) (a0 : Nat) (w : World) (e : Ending) (w' : World) : Prop :=
 ((∃ (n : Nd) (v : Value) (a : Nat), e = .returned (.tuple #[ndV n v, .int .i64 (a : Nat)]) ∧ Hid (inoO (s.data.toList.drop a0) = some (n, s.data.toList.drop a)) ∧ a ≤ s.size ∧ Hid (Own diE 102 w' w.heap.size v n.names)) ∨ (∃ (n : Nd) (va : Option Addr) (vl vc : Nat), e = .returned (.tuple #[ndV n (.slice va vl vc), .int .i64 (-1)]) ∧ Hid (inoO (s.data.toList.drop a0) = none))) ∧ Below w.heap.size w w'
set_option maxRecDepth 100000 in
set_option maxHeartbeats 4000000 in
theorem l8Inode_any (s : ByteArray) (a0 : Nat) (w : World) (hs : s.size ≤ 1048576) (ha : a0 ≤ s.size) :
  Calls Tryz.prog 39 #[.string s, .int .i64 (a0 : Nat)] w (InoS s a0 w) := by
 go_enter Tryz.func39, Tryz.ntmps39
 go_wp2_with fail
 obtain ⟨W, hW, bW, zW, cW, fW⟩ := boxed w #[.int .i64 0, .int .i64 0, .int .i64 0, .int .i64 0, .int .i64 0, .string ⟨#[]⟩, .slice none 0 0, .int .i64 0, .int .i64 0] 76
 simp only [hW]
 have X0 : Hid (Blk W w.heap.size zN) := Hid.intro ⟨by omega, cW, fW⟩
 have B0 := bW
 clear hW cW fW bW zW
 refine (l8Vars_any s a0 7 _ hs ha (by omega) (by omega)).mono ?_
 rintro e w1 ⟨⟨v7, ⟨xs, a1, rfl, HV, ha1, hl, hn7⟩ | ⟨rfl, HV⟩⟩, b⟩
 rotate_left 1
 ·replace X0 := Hid.intro (X0.out.kept b)
  replace B0 := B0.trans (b.mono B0.size)
  have HP : Hid (inoO (s.data.toList.drop a0) = none) := vars7_no HV.out
  clear HV b
  have r0 : w1.cell? ⟨w.heap.size, 0, none⟩ = some (.int .i64 0) := X0.out.cell 0
  have f0 : w1.frozen? ⟨w.heap.size, 0, none⟩ = false := X0.out.fro 0
  have r1 : w1.cell? ⟨w.heap.size, 1, none⟩ = some (.int .i64 0) := X0.out.cell 1
  have f1 : w1.frozen? ⟨w.heap.size, 1, none⟩ = false := X0.out.fro 1
  have r2 : w1.cell? ⟨w.heap.size, 2, none⟩ = some (.int .i64 0) := X0.out.cell 2
  have f2 : w1.frozen? ⟨w.heap.size, 2, none⟩ = false := X0.out.fro 2
  have r3 : w1.cell? ⟨w.heap.size, 3, none⟩ = some (.int .i64 0) := X0.out.cell 3
  have f3 : w1.frozen? ⟨w.heap.size, 3, none⟩ = false := X0.out.fro 3
  have r4 : w1.cell? ⟨w.heap.size, 4, none⟩ = some (.int .i64 0) := X0.out.cell 4
  have f4 : w1.frozen? ⟨w.heap.size, 4, none⟩ = false := X0.out.fro 4
  have r5 : w1.cell? ⟨w.heap.size, 5, none⟩ = some (.string ⟨#[]⟩) := X0.out.cell 5
  have f5 : w1.frozen? ⟨w.heap.size, 5, none⟩ = false := X0.out.fro 5
  have r6 : w1.cell? ⟨w.heap.size, 6, none⟩ = some (.slice none 0 0) := X0.out.cell 6
  have f6 : w1.frozen? ⟨w.heap.size, 6, none⟩ = false := X0.out.fro 6
  have r7 : w1.cell? ⟨w.heap.size, 7, none⟩ = some (.int .i64 0) := X0.out.cell 7
  have f7 : w1.frozen? ⟨w.heap.size, 7, none⟩ = false := X0.out.fro 7
  have r8 : w1.cell? ⟨w.heap.size, 8, none⟩ = some (.int .i64 0) := X0.out.cell 8
  have f8 : w1.frozen? ⟨w.heap.size, 8, none⟩ = false := X0.out.fro 8
  have o1 := set9_only w.heap.size w1 (.int .i64 0) (.int .i64 0) (.int .i64 0) (.int .i64 0) (.int .i64 0) (.string ⟨#[]⟩) (.slice none 0 0) (.int .i64 0) (.int .i64 0)
  clear X0
  go_wp2
  exact bodyPost_ret (v := .tuple #[ndV ⟨0, 0, 0, 0, 0, ⟨#[]⟩, [], 0, 0⟩ (.slice none 0 0), .int .i64 (-1)]) (by simp [results, Tryz.results39, go_sem, r0, r1, r2, r3, r4, r5, r6, r7, r8]) rfl ⟨.inr ⟨_, _, _, _, rfl, HP⟩, B0.trans (o1.below B0.size (fun k hk h => by omega))⟩
 obtain ⟨id, kind, mode, uid, gid, maxb, maxi, rfl, hino⟩ := vars7_yes HV.out
 have HIO := Hid.intro hino
 obtain ⟨g7, cap7, rfl, hcap7, hg7, hlt7, hcell7⟩ := hn7
 have k0 : w1.cell? ⟨g7, 0, none⟩ = some (.int .i64 (id : Nat)) := hcell7 0 (by simp)
 have k1 : w1.cell? ⟨g7, 1, none⟩ = some (.int .i64 (kind : Nat)) := hcell7 1 (by simp)
 have k2 : w1.cell? ⟨g7, 2, none⟩ = some (.int .i64 (mode : Nat)) := hcell7 2 (by simp)
 have k3 : w1.cell? ⟨g7, 3, none⟩ = some (.int .i64 (uid : Nat)) := hcell7 3 (by simp)
 have k4 : w1.cell? ⟨g7, 4, none⟩ = some (.int .i64 (gid : Nat)) := hcell7 4 (by simp)
 have k5 : w1.cell? ⟨g7, 5, none⟩ = some (.int .i64 (maxb : Nat)) := hcell7 5 (by simp)
 have k6 : w1.cell? ⟨g7, 6, none⟩ = some (.int .i64 (maxi : Nat)) := hcell7 6 (by simp)
 simp only [List.length_cons, List.length_nil, Nat.zero_add, Nat.reduceAdd] at hcap7 ⊢
 replace X0 := Hid.intro (X0.out.kept b)
 replace B0 := B0.trans (b.mono B0.size)
 clear HV hino hcell7 hl b
 have q1 : (0 : Int) ≤ 0 ∧ (0 : Int) < (cap7 : Int) := by omega
 have HS : Hid (∀ w', Below w1.heap.size w1 w' → (w'.cell? ⟨g7, 0, none⟩ = some (.int .i64 (id : Nat)) ∧ w'.cell? ⟨g7, 1, none⟩ = some (.int .i64 (kind : Nat)) ∧ w'.cell? ⟨g7, 2, none⟩ = some (.int .i64 (mode : Nat)) ∧ w'.cell? ⟨g7, 3, none⟩ = some (.int .i64 (uid : Nat)) ∧ w'.cell? ⟨g7, 4, none⟩ = some (.int .i64 (gid : Nat)) ∧ w'.cell? ⟨g7, 5, none⟩ = some (.int .i64 (maxb : Nat)) ∧ w'.cell? ⟨g7, 6, none⟩ = some (.int .i64 (maxi : Nat)))) := fun w' hb => ⟨atCell hb k0 hlt7, atCell hb k1 hlt7, atCell hb k2 hlt7, atCell hb k3 hlt7, atCell hb k4 hlt7, atCell hb k5 hlt7, atCell hb k6 hlt7⟩
 clear k0 k1 k2 k3 k4 k5 k6
 go_upto_region 4 with fail
 have hi6 : w.heap.size < w1.heap.size := X0.out.hi
 go_cut [8] from 9 (fun x wc => x = .pointer (some ⟨w1.heap.size, 0, none⟩) ∧ Blk wc w1.heap.size (ndA ⟨(id : Nat), (kind : Nat), (mode : Nat), (uid : Nat), (gid : Nat), ⟨#[]⟩, [], (maxb : Nat), (maxi : Nat)⟩ (.slice none 0 0)) ∧ Below w1.heap.size w1 wc)
 case first =>
  go_region_held3 (fun w' => w'.cell? ⟨g7, 0, none⟩ = some (.int .i64 (id : Nat)) ∧ w'.cell? ⟨g7, 1, none⟩ = some (.int .i64 (kind : Nat)) ∧ w'.cell? ⟨g7, 2, none⟩ = some (.int .i64 (mode : Nat)) ∧ w'.cell? ⟨g7, 3, none⟩ = some (.int .i64 (uid : Nat)) ∧ w'.cell? ⟨g7, 4, none⟩ = some (.int .i64 (gid : Nat)) ∧ w'.cell? ⟨g7, 5, none⟩ = some (.int .i64 (maxb : Nat)) ∧ w'.cell? ⟨g7, 6, none⟩ = some (.int .i64 (maxi : Nat))) (exact HS.out _ (by repeat (first | exact Below.refl _ _ | apply Below.drew | refine Below.alloc ?_ (by simp) _ | refine Below.setCell ?_ (by simp) _)))
   (first | fail)
  all_goals
   go_wp2_with fail
   go_meet
   case rel => exact ⟨rfl, ⟨by simp, fun o => World.cell?_alloc_at _ _ _ _ (by simp), fun o => World.frozen?_alloc_at _ _ _ _ (by simp)⟩, by repeat (first | exact Below.refl _ _ | apply Below.drew | refine Below.alloc ?_ (by simp) _)⟩
 case rest =>
 obtain ⟨rfl, hX, b⟩ := hcut
 replace X0 := Hid.intro (X0.out.kept b)
 replace B0 := B0.trans (b.mono B0.size)
 have HX := Hid.intro hX
 clear b HS hX hlt7 hg7 hcap7 q1
 generalize w1.heap.size = g3 at HX hi6 ⊢
 go_wp2_with fail
 refine (l8Take_any s a1 _ hs ha1).mono ?_
 rintro e w3 ⟨⟨data, a2, rfl, H7, ha2⟩ | ⟨rfl, HN⟩, b⟩
 rotate_left 1
 ·replace X0 := Hid.intro (X0.out.kept b)
  replace HX := Hid.intro (HX.out.kept b)
  replace B0 := B0.trans (b.mono B0.size)
  clear b
  have HP : Hid (inoO (s.data.toList.drop a0) = none) := by
   unfold Hid
   rw [HIO.out]
   simp only [inoR, HN.out, Option.bind_none]
  have hg3 : ¬ w.heap.size = g3 := by omega
  have k0 : w3.cell? ⟨g3, 0, none⟩ = some (.int .i64 (id : Nat)) := HX.out.cell 0
  have k1 : w3.cell? ⟨g3, 1, none⟩ = some (.int .i64 (kind : Nat)) := HX.out.cell 1
  have k2 : w3.cell? ⟨g3, 2, none⟩ = some (.int .i64 (mode : Nat)) := HX.out.cell 2
  have k3 : w3.cell? ⟨g3, 3, none⟩ = some (.int .i64 (uid : Nat)) := HX.out.cell 3
  have k4 : w3.cell? ⟨g3, 4, none⟩ = some (.int .i64 (gid : Nat)) := HX.out.cell 4
  have k5 : w3.cell? ⟨g3, 5, none⟩ = some (.string ⟨#[]⟩) := HX.out.cell 5
  have k6 : w3.cell? ⟨g3, 6, none⟩ = some (.slice none 0 0) := HX.out.cell 6
  have k7 : w3.cell? ⟨g3, 7, none⟩ = some (.int .i64 (maxb : Nat)) := HX.out.cell 7
  have k8 : w3.cell? ⟨g3, 8, none⟩ = some (.int .i64 (maxi : Nat)) := HX.out.cell 8
  have r0 : w3.cell? ⟨w.heap.size, 0, none⟩ = some (.int .i64 0) := X0.out.cell 0
  have f0 : w3.frozen? ⟨w.heap.size, 0, none⟩ = false := X0.out.fro 0
  have r1 : w3.cell? ⟨w.heap.size, 1, none⟩ = some (.int .i64 0) := X0.out.cell 1
  have f1 : w3.frozen? ⟨w.heap.size, 1, none⟩ = false := X0.out.fro 1
  have r2 : w3.cell? ⟨w.heap.size, 2, none⟩ = some (.int .i64 0) := X0.out.cell 2
  have f2 : w3.frozen? ⟨w.heap.size, 2, none⟩ = false := X0.out.fro 2
  have r3 : w3.cell? ⟨w.heap.size, 3, none⟩ = some (.int .i64 0) := X0.out.cell 3
  have f3 : w3.frozen? ⟨w.heap.size, 3, none⟩ = false := X0.out.fro 3
  have r4 : w3.cell? ⟨w.heap.size, 4, none⟩ = some (.int .i64 0) := X0.out.cell 4
  have f4 : w3.frozen? ⟨w.heap.size, 4, none⟩ = false := X0.out.fro 4
  have r5 : w3.cell? ⟨w.heap.size, 5, none⟩ = some (.string ⟨#[]⟩) := X0.out.cell 5
  have f5 : w3.frozen? ⟨w.heap.size, 5, none⟩ = false := X0.out.fro 5
  have r6 : w3.cell? ⟨w.heap.size, 6, none⟩ = some (.slice none 0 0) := X0.out.cell 6
  have f6 : w3.frozen? ⟨w.heap.size, 6, none⟩ = false := X0.out.fro 6
  have r7 : w3.cell? ⟨w.heap.size, 7, none⟩ = some (.int .i64 0) := X0.out.cell 7
  have f7 : w3.frozen? ⟨w.heap.size, 7, none⟩ = false := X0.out.fro 7
  have r8 : w3.cell? ⟨w.heap.size, 8, none⟩ = some (.int .i64 0) := X0.out.cell 8
  have f8 : w3.frozen? ⟨w.heap.size, 8, none⟩ = false := X0.out.fro 8
  have o1 := set9_only w.heap.size w3 (.int .i64 (id : Nat)) (.int .i64 (kind : Nat)) (.int .i64 (mode : Nat)) (.int .i64 (uid : Nat)) (.int .i64 (gid : Nat)) (.string ⟨#[]⟩) (.slice none 0 0) (.int .i64 (maxb : Nat)) (.int .i64 (maxi : Nat))
  clear X0
  go_wp2
  exact bodyPost_ret (v := .tuple #[ndV ⟨(id : Nat), (kind : Nat), (mode : Nat), (uid : Nat), (gid : Nat), ⟨#[]⟩, [], (maxb : Nat), (maxi : Nat)⟩ (.slice none 0 0), .int .i64 (-1)]) (by simp [results, Tryz.results39, go_sem, r0, r1, r2, r3, r4, r5, r6, r7, r8]) rfl ⟨.inr ⟨_, _, _, _, rfl, HP⟩, B0.trans (o1.below B0.size (fun k hk h => by omega))⟩
 replace X0 := Hid.intro (X0.out.kept b)
 replace HX := Hid.intro (HX.out.kept b)
 replace B0 := B0.trans (b.mono B0.size)
 clear b
 have c5 : w3.cell? ⟨g3, 5, none⟩ = some (.string ⟨#[]⟩) := HX.out.cell 5
 have f5 : w3.frozen? ⟨g3, 5, none⟩ = false := HX.out.fro 5
 go_upto_region 9 with fail
 clear c5 f5
 have hX2 := blk_data HX.out data
 replace X0 := Hid.intro (X0.out.only (set_only g3 5 w3 (.string data)) (by omega))
 replace B0 : Below w.heap.size w (w3.setCell ⟨g3, 5, none⟩ (.string data)) := B0.setCell (p := ⟨g3, 5, none⟩) (by show w.heap.size ≤ g3; omega) _
 replace HX := Hid.intro hX2
 clear hX2
 revert X0 B0 HX
 generalize w3.setCell ⟨g3, 5, none⟩ (.string data) = w4
 intro X0 B0 HX
 go_wp2_with fail
 refine (l8Vars_any s a2 1 _ hs ha2 (by omega) (by omega)).mono ?_
 rintro e w5 ⟨⟨v10, ⟨xs, a3, rfl, HV, ha3, hl, hn10⟩ | ⟨rfl, HV⟩⟩, b⟩
 rotate_left 1
 ·replace X0 := Hid.intro (X0.out.kept b)
  replace HX := Hid.intro (HX.out.kept b)
  replace B0 := B0.trans (b.mono B0.size)
  have HP : Hid (inoO (s.data.toList.drop a0) = none) := by
   have h := HV.out
   rw [varsO_one] at h
   have h2 : numO (s.data.toList.drop a2) = none := Option.map_eq_none_iff.1 h
   unfold Hid
   rw [HIO.out]
   simp only [inoR, H7.out, cntO, h2, Option.bind_some, Option.bind_none]
  clear HV b
  have hg3 : ¬ w.heap.size = g3 := by omega
  have k0 : w5.cell? ⟨g3, 0, none⟩ = some (.int .i64 (id : Nat)) := HX.out.cell 0
  have k1 : w5.cell? ⟨g3, 1, none⟩ = some (.int .i64 (kind : Nat)) := HX.out.cell 1
  have k2 : w5.cell? ⟨g3, 2, none⟩ = some (.int .i64 (mode : Nat)) := HX.out.cell 2
  have k3 : w5.cell? ⟨g3, 3, none⟩ = some (.int .i64 (uid : Nat)) := HX.out.cell 3
  have k4 : w5.cell? ⟨g3, 4, none⟩ = some (.int .i64 (gid : Nat)) := HX.out.cell 4
  have k5 : w5.cell? ⟨g3, 5, none⟩ = some (.string data) := HX.out.cell 5
  have k6 : w5.cell? ⟨g3, 6, none⟩ = some (.slice none 0 0) := HX.out.cell 6
  have k7 : w5.cell? ⟨g3, 7, none⟩ = some (.int .i64 (maxb : Nat)) := HX.out.cell 7
  have k8 : w5.cell? ⟨g3, 8, none⟩ = some (.int .i64 (maxi : Nat)) := HX.out.cell 8
  have r0 : w5.cell? ⟨w.heap.size, 0, none⟩ = some (.int .i64 0) := X0.out.cell 0
  have f0 : w5.frozen? ⟨w.heap.size, 0, none⟩ = false := X0.out.fro 0
  have r1 : w5.cell? ⟨w.heap.size, 1, none⟩ = some (.int .i64 0) := X0.out.cell 1
  have f1 : w5.frozen? ⟨w.heap.size, 1, none⟩ = false := X0.out.fro 1
  have r2 : w5.cell? ⟨w.heap.size, 2, none⟩ = some (.int .i64 0) := X0.out.cell 2
  have f2 : w5.frozen? ⟨w.heap.size, 2, none⟩ = false := X0.out.fro 2
  have r3 : w5.cell? ⟨w.heap.size, 3, none⟩ = some (.int .i64 0) := X0.out.cell 3
  have f3 : w5.frozen? ⟨w.heap.size, 3, none⟩ = false := X0.out.fro 3
  have r4 : w5.cell? ⟨w.heap.size, 4, none⟩ = some (.int .i64 0) := X0.out.cell 4
  have f4 : w5.frozen? ⟨w.heap.size, 4, none⟩ = false := X0.out.fro 4
  have r5 : w5.cell? ⟨w.heap.size, 5, none⟩ = some (.string ⟨#[]⟩) := X0.out.cell 5
  have f5 : w5.frozen? ⟨w.heap.size, 5, none⟩ = false := X0.out.fro 5
  have r6 : w5.cell? ⟨w.heap.size, 6, none⟩ = some (.slice none 0 0) := X0.out.cell 6
  have f6 : w5.frozen? ⟨w.heap.size, 6, none⟩ = false := X0.out.fro 6
  have r7 : w5.cell? ⟨w.heap.size, 7, none⟩ = some (.int .i64 0) := X0.out.cell 7
  have f7 : w5.frozen? ⟨w.heap.size, 7, none⟩ = false := X0.out.fro 7
  have r8 : w5.cell? ⟨w.heap.size, 8, none⟩ = some (.int .i64 0) := X0.out.cell 8
  have f8 : w5.frozen? ⟨w.heap.size, 8, none⟩ = false := X0.out.fro 8
  have o1 := set9_only w.heap.size w5 (.int .i64 (id : Nat)) (.int .i64 (kind : Nat)) (.int .i64 (mode : Nat)) (.int .i64 (uid : Nat)) (.int .i64 (gid : Nat)) (.string data) (.slice none 0 0) (.int .i64 (maxb : Nat)) (.int .i64 (maxi : Nat))
  clear X0
  go_wp2
  exact bodyPost_ret (v := .tuple #[ndV ⟨(id : Nat), (kind : Nat), (mode : Nat), (uid : Nat), (gid : Nat), data, [], (maxb : Nat), (maxi : Nat)⟩ (.slice none 0 0), .int .i64 (-1)]) (by simp [results, Tryz.results39, go_sem, r0, r1, r2, r3, r4, r5, r6, r7, r8]) rfl ⟨.inr ⟨_, _, _, _, rfl, HP⟩, B0.trans (o1.below B0.size (fun k hk h => by omega))⟩
 obtain ⟨n, rfl⟩ : ∃ n, xs = [n] := by
  match xs, hl with
  | [n], _ => exact ⟨n, rfl⟩
 have h8 : numO (s.data.toList.drop a2) = some (n, s.data.toList.drop a3) := by
  have h := HV.out
  rw [varsO_one] at h
  obtain ⟨y, h1, h2⟩ := Option.map_eq_some_iff.1 h
  obtain ⟨y1, y2⟩ := y
  simp at h2
  rw [h1, h2.1, h2.2]
 have H8 := Hid.intro h8
 obtain ⟨g10, cap10, rfl, hcap10, hg10, hlt10, hcell10⟩ := hn10
 have k10 : w5.cell? ⟨g10, 0, none⟩ = some (.int .i64 (n : Nat)) := hcell10 0 (by simp)
 have HK10 := Hid.intro k10
 have hw4 := HX.out.hi
 simp only [List.length_cons, List.length_nil, Nat.zero_add] at hcap10 ⊢
 replace X0 := Hid.intro (X0.out.kept b)
 replace HX := Hid.intro (HX.out.kept b)
 replace B0 := B0.trans (b.mono B0.size)
 clear b
 clear HV hcell10 hl h8
 by_cases hm : 12 < n
 ·have g1 : (12 : Int) < (n : Int) := by omega
  have HP : Hid (inoO (s.data.toList.drop a0) = none) := by
   unfold Hid
   rw [HIO.out]
   simp only [inoR, H7.out, cntO, H8.out, Option.bind_some]
   rw [if_neg (by omega)]
   rfl
  have hg3 : ¬ w.heap.size = g3 := by omega
  have k0 : w5.cell? ⟨g3, 0, none⟩ = some (.int .i64 (id : Nat)) := HX.out.cell 0
  have k1 : w5.cell? ⟨g3, 1, none⟩ = some (.int .i64 (kind : Nat)) := HX.out.cell 1
  have k2 : w5.cell? ⟨g3, 2, none⟩ = some (.int .i64 (mode : Nat)) := HX.out.cell 2
  have k3 : w5.cell? ⟨g3, 3, none⟩ = some (.int .i64 (uid : Nat)) := HX.out.cell 3
  have k4 : w5.cell? ⟨g3, 4, none⟩ = some (.int .i64 (gid : Nat)) := HX.out.cell 4
  have k5 : w5.cell? ⟨g3, 5, none⟩ = some (.string data) := HX.out.cell 5
  have k6 : w5.cell? ⟨g3, 6, none⟩ = some (.slice none 0 0) := HX.out.cell 6
  have k7 : w5.cell? ⟨g3, 7, none⟩ = some (.int .i64 (maxb : Nat)) := HX.out.cell 7
  have k8 : w5.cell? ⟨g3, 8, none⟩ = some (.int .i64 (maxi : Nat)) := HX.out.cell 8
  have r0 : w5.cell? ⟨w.heap.size, 0, none⟩ = some (.int .i64 0) := X0.out.cell 0
  have f0 : w5.frozen? ⟨w.heap.size, 0, none⟩ = false := X0.out.fro 0
  have r1 : w5.cell? ⟨w.heap.size, 1, none⟩ = some (.int .i64 0) := X0.out.cell 1
  have f1 : w5.frozen? ⟨w.heap.size, 1, none⟩ = false := X0.out.fro 1
  have r2 : w5.cell? ⟨w.heap.size, 2, none⟩ = some (.int .i64 0) := X0.out.cell 2
  have f2 : w5.frozen? ⟨w.heap.size, 2, none⟩ = false := X0.out.fro 2
  have r3 : w5.cell? ⟨w.heap.size, 3, none⟩ = some (.int .i64 0) := X0.out.cell 3
  have f3 : w5.frozen? ⟨w.heap.size, 3, none⟩ = false := X0.out.fro 3
  have r4 : w5.cell? ⟨w.heap.size, 4, none⟩ = some (.int .i64 0) := X0.out.cell 4
  have f4 : w5.frozen? ⟨w.heap.size, 4, none⟩ = false := X0.out.fro 4
  have r5 : w5.cell? ⟨w.heap.size, 5, none⟩ = some (.string ⟨#[]⟩) := X0.out.cell 5
  have f5 : w5.frozen? ⟨w.heap.size, 5, none⟩ = false := X0.out.fro 5
  have r6 : w5.cell? ⟨w.heap.size, 6, none⟩ = some (.slice none 0 0) := X0.out.cell 6
  have f6 : w5.frozen? ⟨w.heap.size, 6, none⟩ = false := X0.out.fro 6
  have r7 : w5.cell? ⟨w.heap.size, 7, none⟩ = some (.int .i64 0) := X0.out.cell 7
  have f7 : w5.frozen? ⟨w.heap.size, 7, none⟩ = false := X0.out.fro 7
  have r8 : w5.cell? ⟨w.heap.size, 8, none⟩ = some (.int .i64 0) := X0.out.cell 8
  have f8 : w5.frozen? ⟨w.heap.size, 8, none⟩ = false := X0.out.fro 8
  have o1 := set9_only w.heap.size w5 (.int .i64 (id : Nat)) (.int .i64 (kind : Nat)) (.int .i64 (mode : Nat)) (.int .i64 (uid : Nat)) (.int .i64 (gid : Nat)) (.string data) (.slice none 0 0) (.int .i64 (maxb : Nat)) (.int .i64 (maxi : Nat))
  clear X0
  go_wp2
  exact bodyPost_ret (v := .tuple #[ndV ⟨(id : Nat), (kind : Nat), (mode : Nat), (uid : Nat), (gid : Nat), data, [], (maxb : Nat), (maxi : Nat)⟩ (.slice none 0 0), .int .i64 (-1)]) (by simp [results, Tryz.results39, go_sem, r0, r1, r2, r3, r4, r5, r6, r7, r8]) rfl ⟨.inr ⟨_, _, _, _, rfl, HP⟩, B0.trans (o1.below B0.size (fun k hk h => by omega))⟩
 ·have g1 : ¬ (12 : Int) < (n : Int) := by omega
  have HIN : Hid (inoO (s.data.toList.drop a0) = (nmsO n (s.data.toList.drop a3)).bind fun y => some (⟨(id : Nat), (kind : Nat), (mode : Nat), (uid : Nat), (gid : Nat), data, y.1, (maxb : Nat), (maxi : Nat)⟩, y.2)) := by
   unfold Hid
   rw [HIO.out]
   simp only [inoR, H7.out, cntO, H8.out, Option.bind_some, ba_of]
   rw [if_pos (by omega), Option.bind_some]
  clear HIO H7 H8
  go_wp2
  clear k10
  have hwg : w.heap.size ≤ w5.heap.size := B0.size
  have hg35 : g3 < w5.heap.size := HX.out.hi
  have hg10n : ¬ g10 = g3 := by omega
  have HI : Hid (InS w5 g3 w5.heap.size ⟨(id : Nat), (kind : Nat), (mode : Nat), (uid : Nat), (gid : Nat), data, [], (maxb : Nat), (maxi : Nat)⟩ w5 (.slice none 0 0) []) := ⟨HX.out, Own.nil _ _, Only.refl _ _, hg35, rfl⟩
  clear HX
  go_loopw [7, 11] (fun x i wr => ∃ (a : Nat) (v : Value) (L : List Di), x = .int .i64 (a : Nat) ∧ i = .int .i64 (L.length : Nat) ∧ L.length ≤ n ∧ a ≤ s.size ∧ Hid (nmsO n (s.data.toList.drop a3) = (nmsO (n - L.length) (s.data.toList.drop a)).map fun y => (L ++ y.1, y.2)) ∧ Hid (InS w5 g3 w5.heap.size ⟨(id : Nat), (kind : Nat), (mode : Nat), (uid : Nat), (gid : Nat), data, [], (maxb : Nat), (maxi : Nat)⟩ wr v L)) (fun _ i _ => n - (intOf i).toNat)
  case atStart => exact ⟨a3, _, [], rfl, rfl, Nat.zero_le _, ha3, by unfold Hid; simp, HI⟩
  case round =>
   obtain ⟨a, v, L, rfl, rfl, hj, hal, HN, HI⟩ := hrel
   obtain ⟨va, vc, rfl⟩ := HI.out.own.slice
   have k10 := (HI.out.only.cell (o := 0) hlt10 hg10n).trans HK10.out
   by_cases hlt : L.length < n
   ·have hjn : (L.length : Int) < (n : Int) := by omega
    have q0 : (0 : Int) ≤ 0 ∧ (0 : Int) < (cap10 : Int) := by omega
    go_wp2_with fail
    clear k10
    refine (l8Take_any s a _ hs hal).mono ?_
    rintro e x1 ⟨⟨nm, a4, rfl, G1, ha4⟩ | ⟨rfl, G1⟩, b⟩
    rotate_left 1
    ·replace HI := Hid.intro (HI.out.kept b)
     clear b
     go_wp2_with fail
     refine (l8Vars_none s 1 _ (by omega) (by omega)).mono ?_
     rintro e x2 ⟨⟨vn, rfl⟩, b⟩
     replace HI := Hid.intro (HI.out.kept b)
     clear b
     have HP : Hid (inoO (s.data.toList.drop a0) = none) := by
      unfold Hid
      rw [HIN.out, HN.out, nmsO_no1 (by omega) G1.out]
      rfl
     have X0 : Hid (Blk x2 w.heap.size zN) := X0.out.only HI.out.only (by omega)
     have B0 : Below w.heap.size w x2 := B0.trans (HI.out.only.below hwg (fun k hk e => by omega))
     have hg3 : ¬ w.heap.size = g3 := by omega
     have k0 : x2.cell? ⟨g3, 0, none⟩ = some (.int .i64 (id : Nat)) := HI.out.box.cell 0
     have k1 : x2.cell? ⟨g3, 1, none⟩ = some (.int .i64 (kind : Nat)) := HI.out.box.cell 1
     have k2 : x2.cell? ⟨g3, 2, none⟩ = some (.int .i64 (mode : Nat)) := HI.out.box.cell 2
     have k3 : x2.cell? ⟨g3, 3, none⟩ = some (.int .i64 (uid : Nat)) := HI.out.box.cell 3
     have k4 : x2.cell? ⟨g3, 4, none⟩ = some (.int .i64 (gid : Nat)) := HI.out.box.cell 4
     have k5 : x2.cell? ⟨g3, 5, none⟩ = some (.string data) := HI.out.box.cell 5
     have k6 : x2.cell? ⟨g3, 6, none⟩ = some (.slice va L.length vc) := HI.out.box.cell 6
     have k7 : x2.cell? ⟨g3, 7, none⟩ = some (.int .i64 (maxb : Nat)) := HI.out.box.cell 7
     have k8 : x2.cell? ⟨g3, 8, none⟩ = some (.int .i64 (maxi : Nat)) := HI.out.box.cell 8
     have r0 : x2.cell? ⟨w.heap.size, 0, none⟩ = some (.int .i64 0) := X0.out.cell 0
     have f0 : x2.frozen? ⟨w.heap.size, 0, none⟩ = false := X0.out.fro 0
     have r1 : x2.cell? ⟨w.heap.size, 1, none⟩ = some (.int .i64 0) := X0.out.cell 1
     have f1 : x2.frozen? ⟨w.heap.size, 1, none⟩ = false := X0.out.fro 1
     have r2 : x2.cell? ⟨w.heap.size, 2, none⟩ = some (.int .i64 0) := X0.out.cell 2
     have f2 : x2.frozen? ⟨w.heap.size, 2, none⟩ = false := X0.out.fro 2
     have r3 : x2.cell? ⟨w.heap.size, 3, none⟩ = some (.int .i64 0) := X0.out.cell 3
     have f3 : x2.frozen? ⟨w.heap.size, 3, none⟩ = false := X0.out.fro 3
     have r4 : x2.cell? ⟨w.heap.size, 4, none⟩ = some (.int .i64 0) := X0.out.cell 4
     have f4 : x2.frozen? ⟨w.heap.size, 4, none⟩ = false := X0.out.fro 4
     have r5 : x2.cell? ⟨w.heap.size, 5, none⟩ = some (.string ⟨#[]⟩) := X0.out.cell 5
     have f5 : x2.frozen? ⟨w.heap.size, 5, none⟩ = false := X0.out.fro 5
     have r6 : x2.cell? ⟨w.heap.size, 6, none⟩ = some (.slice none 0 0) := X0.out.cell 6
     have f6 : x2.frozen? ⟨w.heap.size, 6, none⟩ = false := X0.out.fro 6
     have r7 : x2.cell? ⟨w.heap.size, 7, none⟩ = some (.int .i64 0) := X0.out.cell 7
     have f7 : x2.frozen? ⟨w.heap.size, 7, none⟩ = false := X0.out.fro 7
     have r8 : x2.cell? ⟨w.heap.size, 8, none⟩ = some (.int .i64 0) := X0.out.cell 8
     have f8 : x2.frozen? ⟨w.heap.size, 8, none⟩ = false := X0.out.fro 8
     have o1 := set9_only w.heap.size x2 (.int .i64 (id : Nat)) (.int .i64 (kind : Nat)) (.int .i64 (mode : Nat)) (.int .i64 (uid : Nat)) (.int .i64 (gid : Nat)) (.string data) (.slice va L.length vc) (.int .i64 (maxb : Nat)) (.int .i64 (maxi : Nat))
     clear X0
     go_wp2
     exact bodyPost_ret (v := .tuple #[ndV ⟨(id : Nat), (kind : Nat), (mode : Nat), (uid : Nat), (gid : Nat), data, [], (maxb : Nat), (maxi : Nat)⟩ (.slice va L.length vc), .int .i64 (-1)]) (by simp [results, Tryz.results39, go_sem, r0, r1, r2, r3, r4, r5, r6, r7, r8]) rfl ⟨.inr ⟨_, _, _, _, rfl, HP⟩, B0.trans (o1.below B0.size (fun k hk h => by omega))⟩
    replace HI := Hid.intro (HI.out.kept b)
    clear b
    have hg3x : g3 < x1.heap.size := HI.out.box.hi
    have hox : ∀ k, (Value.slice va L.length vc).ownBlock = some k → k < x1.heap.size := fun k hk => (HI.out.own.lt k hk).2
    go_wp2_with fail
    refine (l8Vars_any s a4 1 _ hs ha4 (by omega) (by omega)).mono ?_
    rintro e x2 ⟨⟨v14, ⟨xs, a5, rfl, HV, ha5, hl, hn14⟩ | ⟨rfl, HV⟩⟩, b⟩
    rotate_left 1
    ·replace HI := Hid.intro (HI.out.kept b)
     clear b
     have HP : Hid (inoO (s.data.toList.drop a0) = none) := by
      have h := HV.out
      rw [varsO_one] at h
      unfold Hid
      rw [HIN.out, HN.out, nmsO_no2 (by omega) G1.out (Option.map_eq_none_iff.1 h)]
      rfl
     clear HV
     have X0 : Hid (Blk x2 w.heap.size zN) := X0.out.only HI.out.only (by omega)
     have B0 : Below w.heap.size w x2 := B0.trans (HI.out.only.below hwg (fun k hk e => by omega))
     have hg3 : ¬ w.heap.size = g3 := by omega
     have k0 : x2.cell? ⟨g3, 0, none⟩ = some (.int .i64 (id : Nat)) := HI.out.box.cell 0
     have k1 : x2.cell? ⟨g3, 1, none⟩ = some (.int .i64 (kind : Nat)) := HI.out.box.cell 1
     have k2 : x2.cell? ⟨g3, 2, none⟩ = some (.int .i64 (mode : Nat)) := HI.out.box.cell 2
     have k3 : x2.cell? ⟨g3, 3, none⟩ = some (.int .i64 (uid : Nat)) := HI.out.box.cell 3
     have k4 : x2.cell? ⟨g3, 4, none⟩ = some (.int .i64 (gid : Nat)) := HI.out.box.cell 4
     have k5 : x2.cell? ⟨g3, 5, none⟩ = some (.string data) := HI.out.box.cell 5
     have k6 : x2.cell? ⟨g3, 6, none⟩ = some (.slice va L.length vc) := HI.out.box.cell 6
     have k7 : x2.cell? ⟨g3, 7, none⟩ = some (.int .i64 (maxb : Nat)) := HI.out.box.cell 7
     have k8 : x2.cell? ⟨g3, 8, none⟩ = some (.int .i64 (maxi : Nat)) := HI.out.box.cell 8
     have r0 : x2.cell? ⟨w.heap.size, 0, none⟩ = some (.int .i64 0) := X0.out.cell 0
     have f0 : x2.frozen? ⟨w.heap.size, 0, none⟩ = false := X0.out.fro 0
     have r1 : x2.cell? ⟨w.heap.size, 1, none⟩ = some (.int .i64 0) := X0.out.cell 1
     have f1 : x2.frozen? ⟨w.heap.size, 1, none⟩ = false := X0.out.fro 1
     have r2 : x2.cell? ⟨w.heap.size, 2, none⟩ = some (.int .i64 0) := X0.out.cell 2
     have f2 : x2.frozen? ⟨w.heap.size, 2, none⟩ = false := X0.out.fro 2
     have r3 : x2.cell? ⟨w.heap.size, 3, none⟩ = some (.int .i64 0) := X0.out.cell 3
     have f3 : x2.frozen? ⟨w.heap.size, 3, none⟩ = false := X0.out.fro 3
     have r4 : x2.cell? ⟨w.heap.size, 4, none⟩ = some (.int .i64 0) := X0.out.cell 4
     have f4 : x2.frozen? ⟨w.heap.size, 4, none⟩ = false := X0.out.fro 4
     have r5 : x2.cell? ⟨w.heap.size, 5, none⟩ = some (.string ⟨#[]⟩) := X0.out.cell 5
     have f5 : x2.frozen? ⟨w.heap.size, 5, none⟩ = false := X0.out.fro 5
     have r6 : x2.cell? ⟨w.heap.size, 6, none⟩ = some (.slice none 0 0) := X0.out.cell 6
     have f6 : x2.frozen? ⟨w.heap.size, 6, none⟩ = false := X0.out.fro 6
     have r7 : x2.cell? ⟨w.heap.size, 7, none⟩ = some (.int .i64 0) := X0.out.cell 7
     have f7 : x2.frozen? ⟨w.heap.size, 7, none⟩ = false := X0.out.fro 7
     have r8 : x2.cell? ⟨w.heap.size, 8, none⟩ = some (.int .i64 0) := X0.out.cell 8
     have f8 : x2.frozen? ⟨w.heap.size, 8, none⟩ = false := X0.out.fro 8
     have o1 := set9_only w.heap.size x2 (.int .i64 (id : Nat)) (.int .i64 (kind : Nat)) (.int .i64 (mode : Nat)) (.int .i64 (uid : Nat)) (.int .i64 (gid : Nat)) (.string data) (.slice va L.length vc) (.int .i64 (maxb : Nat)) (.int .i64 (maxi : Nat))
     clear X0
     go_wp2
     exact bodyPost_ret (v := .tuple #[ndV ⟨(id : Nat), (kind : Nat), (mode : Nat), (uid : Nat), (gid : Nat), data, [], (maxb : Nat), (maxi : Nat)⟩ (.slice va L.length vc), .int .i64 (-1)]) (by simp [results, Tryz.results39, go_sem, r0, r1, r2, r3, r4, r5, r6, r7, r8]) rfl ⟨.inr ⟨_, _, _, _, rfl, HP⟩, B0.trans (o1.below B0.size (fun k hk h => by omega))⟩
    replace HI := Hid.intro (HI.out.kept b)
    clear b
    obtain ⟨x, rfl⟩ : ∃ x, xs = [x] := by
     match xs, hl with
     | [x], _ => exact ⟨x, rfl⟩
    have h8 : numO (s.data.toList.drop a4) = some (x, s.data.toList.drop a5) := by
     have h := HV.out
     rw [varsO_one] at h
     obtain ⟨y, h1, h2⟩ := Option.map_eq_some_iff.1 h
     obtain ⟨y1, y2⟩ := y
     simp at h2
     rw [h1, h2.1, h2.2]
    have HN2 : Hid (nmsO n (s.data.toList.drop a3) = (nmsO (n - (L.length + 1)) (s.data.toList.drop a5)).map fun y => ((L ++ [⟨nm, (x : Int)⟩]) ++ y.1, y.2)) := by
     unfold Hid
     rw [HN.out, nmsO_yes (by omega) G1.out h8, Nat.sub_sub, ba_of]
     cases nmsO (n - (L.length + 1)) (s.data.toList.drop a5) <;> simp
    obtain ⟨g14, cap14, rfl, hcap14, hg14, hlt14, hcell14⟩ := hn14
    have k14 : x2.cell? ⟨g14, 0, none⟩ = some (.int .i64 (x : Nat)) := hcell14 0 (by simp)
    have q4 : (0 : Int) ≤ 0 ∧ (0 : Int) < (cap14 : Int) := by simp at hcap14; omega
    simp only [List.length_cons, List.length_nil, Nat.zero_add] at hcap14 ⊢
    have HS : Hid (∀ w', Below x2.heap.size x2 w' → w'.cell? ⟨g14, 0, none⟩ = some (.int .i64 (x : Nat))) := fun w' hb => atCell hb k14 hlt14
    clear HV hcell14 hl h8 HN
    go_upto_region 19 with fail
    clear k14
    refine wp_region_held_drew (S := fun w' => w'.cell? ⟨g14, 0, none⟩ = some (.int .i64 (x : Nat))) (by kernel_rfl) (HS.out _ (Below.refl _ _).drew) (fun hHeld => ?_)
    have HD := Hid.intro (HI.out.kept (w2 := x2.drew) (Below.refl _ _).drew)
    have BQ : Below x2.heap.size x2 x2.drew := (Below.refl _ _).drew
    have h314 : ¬ g14 = g3 := by omega
    clear HI
    generalize x2.drew = D at HD BQ hHeld ⊢
    refine tkk 0 94 (v := ?_) ?_ ?_
    rotate_left 1
    ·intro w hSw
     go_simp <;> with_reducible rfl
    simp only [Act.put, List.setIfInBounds_toArray]
    try simp only [List.set_cons_succ]
    try simp only [List.set_cons_zero]
    refine tkk 2 96 (v := ?_) ?_ ?_
    rotate_left 1
    ·intro w hSw
     go_simp <;> with_reducible rfl
    simp only [Act.put, List.setIfInBounds_toArray]
    try simp only [List.set_cons_succ]
    try simp only [List.set_cons_zero]
    refine tkk 3 97 (v := ?_) ?_ ?_
    rotate_left 1
    ·intro w hSw
     go_simp <;> with_reducible rfl
    simp only [Act.put, List.setIfInBounds_toArray]
    try simp only [List.set_cons_succ]
    try simp only [List.set_cons_zero]
    refine tkk 4 98 (v := ?_) ?_ ?_
    rotate_left 1
    ·intro w hSw
     go_simp <;> with_reducible rfl
    simp only [Act.put, List.setIfInBounds_toArray]
    try simp only [List.set_cons_succ]
    try simp only [List.set_cons_zero]
    refine tkk 5 99 (v := ?_) ?_ ?_
    rotate_left 1
    ·intro w hSw
     go_simp <;> with_reducible rfl
    simp only [Act.put, List.setIfInBounds_toArray]
    try simp only [List.set_cons_succ]
    try simp only [List.set_cons_zero]
    refine tkk 6 100 (v := ?_) ?_ ?_
    rotate_left 1
    ·intro w hSw
     go_simp <;> with_reducible rfl
    simp only [Act.put, List.setIfInBounds_toArray]
    try simp only [List.set_cons_succ]
    try simp only [List.set_cons_zero]
    refine wpAnyH_ready (rs := [1, 7]) (by kernel_rfl) (by simp) ?_
    refine (AllReadyH.cons rfl (fun KK hKK => ?_) (AllReadyH.cons rfl (fun KK hKK => ?_) AllReadyH.nil))
    ·skip
     have k6 : D.cell? ⟨g3, 6, none⟩ = some (.slice va L.length vc) := HD.out.box.cell 6
     go_simp
     refine hKK.out _ _ (HS.out _ BQ) (fun hHeld2 => ?_)
     clear hKK KK hHeld
     have hHeld := hHeld2
     clear hHeld2
     clear k6
     refine wpAnyH_ready (rs := [7]) (by kernel_rfl) (by simp) ?_
     refine (AllReadyH.cons rfl (fun KK hKK => ?_) AllReadyH.nil)
     go_simp
     have bM : Below D.heap.size D (D.alloc (.cells #[.string nm, .int .i64 (x : Nat)] 102)) := one_below _ _
     have cM : ∀ o, (D.alloc (.cells #[.string nm, .int .i64 (x : Nat)] 102)).cell? ⟨D.heap.size, o, none⟩ = #[Value.string nm, .int .i64 (x : Nat)][o]? := fun o => World.cell?_alloc_at _ _ _ _ rfl
     replace HD := Hid.intro (HD.out.kept bM)
     replace BQ := stepB BQ bM
     revert HD cM BQ
     generalize D.alloc (.cells #[.string nm, .int .i64 (x : Nat)] 102) = M at bM
     generalize D.heap.size = sb
     intro cM HD BQ
     refine hKK.out _ _ (HS.out _ BQ) (fun hHeld2 => ?_)
     clear hKK KK hHeld
     have hHeld := hHeld2
     clear hHeld2
     refine wpAnyH_ready (rs := [8]) (by kernel_rfl) (by simp) ?_
     refine (AllReadyH.cons rfl (fun KK hKK => ?_) AllReadyH.nil)
     have hnews : ∀ j u, (diE.f [⟨nm, (x : Int)⟩])[j]? = some u → M.cell? ((⟨sb, 0, none⟩ : Addr).add j) = some u := fun j u hj => by
      rw [add_none, Nat.zero_add, cM]
      simpa [diE, Enc.f] using hj
     have hbase : w5.heap.size ≤ M.heap.size := HD.out.only.size
     refine step_Di rfl _ _ rfl w5.heap.size (.slice va L.length vc) L ⟨nm, (x : Int)⟩ rfl HD.out.own ⟨sb, 0, none⟩ 1 rfl hnews (by omega) hbase ?_
     intro g cap2 w4x hown ho hloc hg
     rw [show (L ++ [⟨nm, (x : Int)⟩] : List Di).length = L.length + 1 by simp] at hown
     have hne3 : ¬ some g3 = (Value.slice va L.length vc).ownBlock := fun e => by have := (HD.out.own.lt g3 e.symm).1; omega
     have k6 : w4x.cell? ⟨g3, 6, none⟩ = some (.slice va L.length vc) := (ho.cell (o := 6) HD.out.box.hi hne3).trans (HD.out.box.cell 6)
     have f6 := (ho.frozen (o := 6) HD.out.box.hi hne3).trans (HD.out.box.fro 6)
     have HE := Hid.intro (HD.out.put ho hown)
     have hne14 : ¬ some g14 = (Value.slice va L.length vc).ownBlock := fun e => by have := hox g14 e.symm; omega
     have k14 : w4x.cell? ⟨g14, 0, none⟩ = some (.int .i64 (x : Nat)) := (ho.cell (o := 0) (by have := BQ.size; omega) hne14).trans (HS.out _ BQ)
     clear hne14
     clear HD hown ho hloc hg hnews hbase cM hne3 bM HS
     go_simp
     refine hKK.out _ _ (k14) (fun hHeld2 => ?_)
     clear hKK KK hHeld
     have hHeld := hHeld2
     clear hHeld2
     refine tkk 9 103 (v := ?_) ?_ ?_
     rotate_left 1
     ·intro w hSw
      go_simp <;> with_reducible rfl
     simp only [Act.put, List.setIfInBounds_toArray]
     try simp only [List.set_cons_succ]
     try simp only [List.set_cons_zero]
     refine wpAnyH_ready (rs := [10]) (by kernel_rfl) (by simp) ?_
     refine (AllReadyH.cons rfl (fun KK hKK => ?_) AllReadyH.nil)
     go_simp
     have k15 : (w4x.setCell ⟨g3, 6, none⟩ (.slice (some ⟨g, 0, none⟩) (L.length + 1) cap2)).cell? ⟨g14, 0, none⟩ = some (.int .i64 (x : Nat)) := (World.cell?_setCell_other _ _ _ _ (by intro e2; simp at e2 <;> omega)).trans k14
     generalize w4x.setCell ⟨g3, 6, none⟩ _ = w5x at HE k15 ⊢
     clear k6 f6 k14
     refine hKK.out _ _ (k15) (fun hHeld2 => ?_)
     clear hKK KK hHeld
     have hHeld := hHeld2
     clear hHeld2
     refine wpAnyH_done (by kernel_rfl) ?_ _
     clear hHeld k15
     go_wp2
     go_roundw
     case rel => exact ⟨a5, _, L ++ [⟨nm, (x : Int)⟩], rfl, by rw [List.length_append]; go_num, by rw [List.length_append, List.length_singleton]; omega, ha5, by unfold Hid; rw [List.length_append, List.length_singleton]; exact HN2.out, HE⟩
     case measure => simp [intOf]; omega
    ·skip
     go_simp
     have bM : Below D.heap.size D (D.alloc (.cells #[.string nm, .int .i64 (x : Nat)] 102)) := one_below _ _
     have cM : ∀ o, (D.alloc (.cells #[.string nm, .int .i64 (x : Nat)] 102)).cell? ⟨D.heap.size, o, none⟩ = #[Value.string nm, .int .i64 (x : Nat)][o]? := fun o => World.cell?_alloc_at _ _ _ _ rfl
     replace HD := Hid.intro (HD.out.kept bM)
     replace BQ := stepB BQ bM
     revert HD cM BQ
     generalize D.alloc (.cells #[.string nm, .int .i64 (x : Nat)] 102) = M at bM
     generalize D.heap.size = sb
     intro cM HD BQ
     refine hKK.out _ _ (HS.out _ BQ) (fun hHeld2 => ?_)
     clear hKK KK hHeld
     have hHeld := hHeld2
     clear hHeld2
     refine wpAnyH_ready (rs := [1]) (by kernel_rfl) (by simp) ?_
     refine (AllReadyH.cons rfl (fun KK hKK => ?_) AllReadyH.nil)
     have k6 : M.cell? ⟨g3, 6, none⟩ = some (.slice va L.length vc) := HD.out.box.cell 6
     go_simp
     refine hKK.out _ _ (HS.out _ BQ) (fun hHeld2 => ?_)
     clear hKK KK hHeld
     have hHeld := hHeld2
     clear hHeld2
     clear k6
     refine wpAnyH_ready (rs := [8]) (by kernel_rfl) (by simp) ?_
     refine (AllReadyH.cons rfl (fun KK hKK => ?_) AllReadyH.nil)
     have hnews : ∀ j u, (diE.f [⟨nm, (x : Int)⟩])[j]? = some u → M.cell? ((⟨sb, 0, none⟩ : Addr).add j) = some u := fun j u hj => by
      rw [add_none, Nat.zero_add, cM]
      simpa [diE, Enc.f] using hj
     have hbase : w5.heap.size ≤ M.heap.size := HD.out.only.size
     refine step_Di rfl _ _ rfl w5.heap.size (.slice va L.length vc) L ⟨nm, (x : Int)⟩ rfl HD.out.own ⟨sb, 0, none⟩ 1 rfl hnews (by omega) hbase ?_
     intro g cap2 w4x hown ho hloc hg
     rw [show (L ++ [⟨nm, (x : Int)⟩] : List Di).length = L.length + 1 by simp] at hown
     have hne3 : ¬ some g3 = (Value.slice va L.length vc).ownBlock := fun e => by have := (HD.out.own.lt g3 e.symm).1; omega
     have k6 : w4x.cell? ⟨g3, 6, none⟩ = some (.slice va L.length vc) := (ho.cell (o := 6) HD.out.box.hi hne3).trans (HD.out.box.cell 6)
     have f6 := (ho.frozen (o := 6) HD.out.box.hi hne3).trans (HD.out.box.fro 6)
     have HE := Hid.intro (HD.out.put ho hown)
     have hne14 : ¬ some g14 = (Value.slice va L.length vc).ownBlock := fun e => by have := hox g14 e.symm; omega
     have k14 : w4x.cell? ⟨g14, 0, none⟩ = some (.int .i64 (x : Nat)) := (ho.cell (o := 0) (by have := BQ.size; omega) hne14).trans (HS.out _ BQ)
     clear hne14
     clear HD hown ho hloc hg hnews hbase cM hne3 bM HS
     go_simp
     refine hKK.out _ _ (k14) (fun hHeld2 => ?_)
     clear hKK KK hHeld
     have hHeld := hHeld2
     clear hHeld2
     refine tkk 9 103 (v := ?_) ?_ ?_
     rotate_left 1
     ·intro w hSw
      go_simp <;> with_reducible rfl
     simp only [Act.put, List.setIfInBounds_toArray]
     try simp only [List.set_cons_succ]
     try simp only [List.set_cons_zero]
     refine wpAnyH_ready (rs := [10]) (by kernel_rfl) (by simp) ?_
     refine (AllReadyH.cons rfl (fun KK hKK => ?_) AllReadyH.nil)
     go_simp
     have k15 : (w4x.setCell ⟨g3, 6, none⟩ (.slice (some ⟨g, 0, none⟩) (L.length + 1) cap2)).cell? ⟨g14, 0, none⟩ = some (.int .i64 (x : Nat)) := (World.cell?_setCell_other _ _ _ _ (by intro e2; simp at e2 <;> omega)).trans k14
     generalize w4x.setCell ⟨g3, 6, none⟩ _ = w5x at HE k15 ⊢
     clear k6 f6 k14
     refine hKK.out _ _ (k15) (fun hHeld2 => ?_)
     clear hKK KK hHeld
     have hHeld := hHeld2
     clear hHeld2
     refine wpAnyH_done (by kernel_rfl) ?_ _
     clear hHeld k15
     go_wp2
     go_roundw
     case rel => exact ⟨a5, _, L ++ [⟨nm, (x : Int)⟩], rfl, by rw [List.length_append]; go_num, by rw [List.length_append, List.length_singleton]; omega, ha5, by unfold Hid; rw [List.length_append, List.length_singleton]; exact HN2.out, HE⟩
     case measure => simp [intOf]; omega
   ·have hjn : ¬ (L.length : Int) < (n : Int) := by omega
    have q0 : (0 : Int) ≤ 0 ∧ (0 : Int) < (cap10 : Int) := by omega
    have e0 : n - L.length = 0 := by omega
    have HP : Hid (inoO (s.data.toList.drop a0) = some (⟨(id : Nat), (kind : Nat), (mode : Nat), (uid : Nat), (gid : Nat), data, L, (maxb : Nat), (maxi : Nat)⟩, s.data.toList.drop a)) := by
     unfold Hid
     rw [HIN.out, HN.out, e0]
     simp [nmsO]
    have X0 : Hid (Blk wr w.heap.size zN) := X0.out.only HI.out.only (by omega)
    have B0 : Below w.heap.size w wr := B0.trans (HI.out.only.below hwg (fun k hk e => by omega))
    have hg3 : ¬ w.heap.size = g3 := by omega
    have k0 : wr.cell? ⟨g3, 0, none⟩ = some (.int .i64 (id : Nat)) := HI.out.box.cell 0
    have k1 : wr.cell? ⟨g3, 1, none⟩ = some (.int .i64 (kind : Nat)) := HI.out.box.cell 1
    have k2 : wr.cell? ⟨g3, 2, none⟩ = some (.int .i64 (mode : Nat)) := HI.out.box.cell 2
    have k3 : wr.cell? ⟨g3, 3, none⟩ = some (.int .i64 (uid : Nat)) := HI.out.box.cell 3
    have k4 : wr.cell? ⟨g3, 4, none⟩ = some (.int .i64 (gid : Nat)) := HI.out.box.cell 4
    have k5 : wr.cell? ⟨g3, 5, none⟩ = some (.string data) := HI.out.box.cell 5
    have k6 : wr.cell? ⟨g3, 6, none⟩ = some (.slice va L.length vc) := HI.out.box.cell 6
    have k7 : wr.cell? ⟨g3, 7, none⟩ = some (.int .i64 (maxb : Nat)) := HI.out.box.cell 7
    have k8 : wr.cell? ⟨g3, 8, none⟩ = some (.int .i64 (maxi : Nat)) := HI.out.box.cell 8
    have r0 : wr.cell? ⟨w.heap.size, 0, none⟩ = some (.int .i64 0) := X0.out.cell 0
    have f0 : wr.frozen? ⟨w.heap.size, 0, none⟩ = false := X0.out.fro 0
    have r1 : wr.cell? ⟨w.heap.size, 1, none⟩ = some (.int .i64 0) := X0.out.cell 1
    have f1 : wr.frozen? ⟨w.heap.size, 1, none⟩ = false := X0.out.fro 1
    have r2 : wr.cell? ⟨w.heap.size, 2, none⟩ = some (.int .i64 0) := X0.out.cell 2
    have f2 : wr.frozen? ⟨w.heap.size, 2, none⟩ = false := X0.out.fro 2
    have r3 : wr.cell? ⟨w.heap.size, 3, none⟩ = some (.int .i64 0) := X0.out.cell 3
    have f3 : wr.frozen? ⟨w.heap.size, 3, none⟩ = false := X0.out.fro 3
    have r4 : wr.cell? ⟨w.heap.size, 4, none⟩ = some (.int .i64 0) := X0.out.cell 4
    have f4 : wr.frozen? ⟨w.heap.size, 4, none⟩ = false := X0.out.fro 4
    have r5 : wr.cell? ⟨w.heap.size, 5, none⟩ = some (.string ⟨#[]⟩) := X0.out.cell 5
    have f5 : wr.frozen? ⟨w.heap.size, 5, none⟩ = false := X0.out.fro 5
    have r6 : wr.cell? ⟨w.heap.size, 6, none⟩ = some (.slice none 0 0) := X0.out.cell 6
    have f6 : wr.frozen? ⟨w.heap.size, 6, none⟩ = false := X0.out.fro 6
    have r7 : wr.cell? ⟨w.heap.size, 7, none⟩ = some (.int .i64 0) := X0.out.cell 7
    have f7 : wr.frozen? ⟨w.heap.size, 7, none⟩ = false := X0.out.fro 7
    have r8 : wr.cell? ⟨w.heap.size, 8, none⟩ = some (.int .i64 0) := X0.out.cell 8
    have f8 : wr.frozen? ⟨w.heap.size, 8, none⟩ = false := X0.out.fro 8
    have o1 := set9_only w.heap.size wr (.int .i64 (id : Nat)) (.int .i64 (kind : Nat)) (.int .i64 (mode : Nat)) (.int .i64 (uid : Nat)) (.int .i64 (gid : Nat)) (.string data) (.slice va L.length vc) (.int .i64 (maxb : Nat)) (.int .i64 (maxi : Nat))
    have hown := (HI.out.own.only o1 (fun k hk e => by have := (HI.out.own.lt k hk).1; omega)).lower hwg
    clear X0
    go_wp2
    exact bodyPost_ret (v := .tuple #[ndV ⟨(id : Nat), (kind : Nat), (mode : Nat), (uid : Nat), (gid : Nat), data, L, (maxb : Nat), (maxi : Nat)⟩ (.slice va L.length vc), .int .i64 (a : Nat)]) (by simp [results, Tryz.results39, go_sem, r0, r1, r2, r3, r4, r5, r6, r7, r8]) rfl ⟨.inl ⟨_, _, a, rfl, HP, hal, hown⟩, B0.trans (o1.below B0.size (fun k hk h => by omega))⟩
end Go.Proofs.YtknckbedddeijaaGreat
