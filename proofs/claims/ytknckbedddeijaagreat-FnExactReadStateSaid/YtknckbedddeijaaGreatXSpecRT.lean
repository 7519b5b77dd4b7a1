/- The sentence's ReadTenant. -/
import Derived.Test.YtknckbedddeijaaGreatXTenIff
import Derived.Test.YtknckbedddeijaaGreatXShowS
import Derived.Test.YtknckbedddeijaaGreatTSpecRV
import Derived.Test.YtknckbedddeijaaGreatTTake
import Derived.Test.YtknckbedddeijaaGreatTCurP
import Derived.Deep.RegionHeld3
import Derived.Deep.CutRange
namespace Go.Proofs.YtknckbedddeijaaGreat
open Go.RowKit
set_option linter.unusedVariables false
/-- What the sentence's ReadTenant hands back. -/
def RdTS (l : List UInt8) (w : World) (e : Ending) (w' : World) : Prop :=
 ((∃ t : Ten, e = .returned (.tuple #[t.v, .bool true]) ∧ Hid (outT l = some t.key) ∧ Hid (TenO w' w.heap.size t)) ∨ (e = .returned (.tuple #[.agg zTn, .bool false]) ∧ Hid (outT l = none))) ∧ Below w.heap.size w w'
theorem VolO.keptU {w w' : World} {base B : Nat} {u : Value} {M : List Np} (h : VolO w base u M) (hb : Below B w w') (hB : w.heap.size ≤ B) : VolO w' base u M :=
 ⟨h.own.keptB hb (fun k hk => by have := (h.own.lt k hk).2; omega), fun p hp => (h.nms p hp).keptB hb (fun k hk => by have := ((h.nms p hp).lt k hk).2; omega)⟩
set_option maxHeartbeats 1000000 in
theorem specReadVolZ_any (s : ByteArray) (w : World) (hs : s.size ≤ 1048576) :
  Calls Tryz.prog 23 #[.string s] w fun e w' => (∃ (nx : Nat) (ua : Option Addr) (uc : Nat) (M : List Np) (b : Bool), e = .returned (.tuple #[.agg #[.int .i64 (nx : Nat), .slice ua M.length uc], .bool b]) ∧ Hid (volZ s.data.toList = (nx, M.map Np.n)) ∧ Hid (VolO w' w.heap.size (.slice ua M.length uc) M) ∧ Hid (∀ p ∈ M, NdW p.n)) ∧ Below w.heap.size w w' := by
 refine (specReadVol_any s w hs).mono ?_
 rintro e w1 ⟨⟨nx, u, M, rfl, ho, hv⟩ | ⟨rfl, ho⟩, b⟩
 ·obtain ⟨ua, uc, rfl⟩ := hv.out.1.own.slice
  refine ⟨⟨nx, ua, uc, M, true, rfl, volZ_yes ho.out, hv.out.1, fun p hp => ?_⟩, b⟩
  exact vol_wf (outV_out ho.out).1 (by simpa using hs) p.n (List.mem_map_of_mem hp)
 ·exact ⟨⟨0, none, 0, [], false, rfl, volZ_no ho.out, ⟨Own.nil _ _, fun p hp => by cases hp⟩, fun p hp => by cases hp⟩, b⟩
/-- What stands while notes are read. -/
structure TsA (wB : World) (g : Nat) (nx tk : Int) (u : Value) (wr : World) (va : Value) (A : List Nt) : Prop where
 box : Blk wr g #[.int .i64 nx, u, .int .i64 tk, va, .slice none 0 0]
 aud : Own ntE 55 wr wB.heap.size va A
 only : Only (fun k => k = g) wB wr
 lt : g < wB.heap.size
structure TsS (wB : World) (g : Nat) (nx tk : Int) (u va : Value) (wr : World) (vs : Value) (S : List Se) : Prop where
 box : Blk wr g #[.int .i64 nx, u, .int .i64 tk, va, vs]
 ses : Own seE 61 wr wB.heap.size vs S
 only : Only (fun k => k = g) wB wr
 lt : g < wB.heap.size
theorem TsA.kept {wB : World} {g : Nat} {nx tk : Int} {u va : Value} {wr w2 : World} {A : List Nt} (h : TsA wB g nx tk u wr va A) (hb : Below wr.heap.size wr w2) : TsA wB g nx tk u w2 va A :=
 ⟨h.box.kept hb, h.aud.kept hb, h.only.trans (ob_any hb), h.lt⟩
theorem TsS.kept {wB : World} {g : Nat} {nx tk : Int} {u va vs : Value} {wr w2 : World} {S : List Se} (h : TsS wB g nx tk u va wr vs S) (hb : Below wr.heap.size wr w2) : TsS wB g nx tk u va w2 vs S :=
 ⟨h.box.kept hb, h.ses.kept hb, h.only.trans (ob_any hb), h.lt⟩
theorem TsA.put {wB : World} {g : Nat} {nx tk : Int} {u va : Value} {wr w4 : World} {A : List Nt} {n : Nt} {g9 m cap : Nat} (h : TsA wB g nx tk u wr va A) (ho : Only (fun k => some k = va.ownBlock) wr w4) (hown : Own ntE 55 w4 wB.heap.size (.slice (some ⟨g9, 0, none⟩) m cap) (A ++ [n])) :
  TsA wB g nx tk u (w4.setCell ⟨g, 3, none⟩ (.slice (some ⟨g9, 0, none⟩) m cap)) (.slice (some ⟨g9, 0, none⟩) m cap) (A ++ [n]) := by
 have hlt := h.lt
 have nb : ∀ k, some k = va.ownBlock → wB.heap.size ≤ k := fun k hk => (h.aud.lt k hk.symm).1
 have h3 : ¬ some g = va.ownBlock := fun e => by have := nb g e; omega
 have st : Only (fun k => k = g) w4 (w4.setCell ⟨g, 3, none⟩ (.slice (some ⟨g9, 0, none⟩) m cap)) := (Only.refl (fun k => k = g) w4).setCell (p := ⟨g, 3, none⟩) rfl _
 exact ⟨(h.box.only ho h3).put 3 (by simp) _, hown.only st (fun k hk e => by have := (hown.lt k hk).1; omega), (h.only.then ho (fun k hk e => by have := nb k e; omega)).trans st, hlt⟩
theorem TsS.put {wB : World} {g : Nat} {nx tk : Int} {u va vs : Value} {wr w4 : World} {S : List Se} {n : Se} {g9 m cap : Nat} (h : TsS wB g nx tk u va wr vs S) (ho : Only (fun k => some k = vs.ownBlock) wr w4) (hown : Own seE 61 w4 wB.heap.size (.slice (some ⟨g9, 0, none⟩) m cap) (S ++ [n])) :
  TsS wB g nx tk u va (w4.setCell ⟨g, 4, none⟩ (.slice (some ⟨g9, 0, none⟩) m cap)) (.slice (some ⟨g9, 0, none⟩) m cap) (S ++ [n]) := by
 have hlt := h.lt
 have nb : ∀ k, some k = vs.ownBlock → wB.heap.size ≤ k := fun k hk => (h.ses.lt k hk.symm).1
 have h3 : ¬ some g = vs.ownBlock := fun e => by have := nb g e; omega
 have st : Only (fun k => k = g) w4 (w4.setCell ⟨g, 4, none⟩ (.slice (some ⟨g9, 0, none⟩) m cap)) := (Only.refl (fun k => k = g) w4).setCell (p := ⟨g, 4, none⟩) rfl _
 exact ⟨(h.box.only ho h3).put 4 (by simp) _, hown.only st (fun k hk e => by have := (hown.lt k hk).1; omega), (h.only.then ho (fun k hk e => by have := nb k e; omega)).trans st, hlt⟩
theorem varsO_one_yes {l r : List UInt8} {xs : List Nat} (h : varsO 1 l = some (xs, r)) : ∃ n, xs = [n] ∧ numO l = some (n, r) := by
 rw [varsO_one] at h
 obtain ⟨y, h1, h2⟩ := Option.map_eq_some_iff.1 h
 obtain ⟨y1, y2⟩ := y
 simp at h2
 exact ⟨y1, h2.1.symm, by rw [h1, h2.2]⟩
theorem varsO_cons {n : Nat} {l r : List UInt8} {xs : List Nat} (h : varsO (n + 1) l = some (xs, r)) : ∃ x ys r1, xs = x :: ys ∧ numO l = some (x, r1) ∧ varsO n r1 = some (ys, r) := by
 rw [varsO] at h
 obtain ⟨⟨x, r1⟩, h1, h⟩ := bind_out h
 obtain ⟨⟨ys, r2⟩, h2, h⟩ := bind_out h
 simp only [Option.some.injEq, Prod.mk.injEq] at h
 obtain ⟨rfl, rfl⟩ := h
 exact ⟨x, ys, r1, rfl, h1, h2⟩
theorem not_of_vars {l r : List UInt8} {xs : List Nat} (h : varsO 5 l = some (xs, r)) : ∃ a b c d e, xs = [a, b, c, d, e] ∧ notO l = some (⟨(a : Int), (b : Int), (c : Int), (d : Int), (e : Int)⟩, r) := by
 obtain ⟨a, y1, r1, rfl, h1, h⟩ := varsO_cons h
 obtain ⟨b, y2, r2, rfl, h2, h⟩ := varsO_cons h
 obtain ⟨c, y3, r3, rfl, h3, h⟩ := varsO_cons h
 obtain ⟨d, y4, r4, rfl, h4, h⟩ := varsO_cons h
 obtain ⟨e, rfl, h5⟩ := varsO_one_yes h
 exact ⟨a, b, c, d, e, rfl, by unfold notO; simp only [h1, h2, h3, h4, h5, Option.bind_some]⟩
theorem not_no_vars {l : List UInt8} (h : varsO 5 l = none) : notO l = none := by
 unfold notO
 rcases varsO_less h with h1 | ⟨x, r1, h1, h⟩
 ·simp only [h1, Option.bind_none]
 rcases varsO_less h with h2 | ⟨x2, r2, h2, h⟩
 ·simp only [h1, h2, Option.bind_some, Option.bind_none]
 rcases varsO_less h with h3 | ⟨x3, r3, h3, h⟩
 ·simp only [h1, h2, h3, Option.bind_some, Option.bind_none]
 rcases varsO_less h with h4 | ⟨x4, r4, h4, h⟩
 ·simp only [h1, h2, h3, h4, Option.bind_some, Option.bind_none]
 rcases varsO_less h with h5 | ⟨x5, r5, h5, h⟩
 ·simp only [h1, h2, h3, h4, h5, Option.bind_some, Option.bind_none]
 ·rw [varsO] at h; cases h
theorem three_of_vars {l r : List UInt8} {xs : List Nat} (h : varsO 3 l = some (xs, r)) : ∃ a b c r1 r2, xs = [a, b, c] ∧ numO l = some (a, r1) ∧ numO r1 = some (b, r2) ∧ numO r2 = some (c, r) := by
 obtain ⟨a, y1, r1, rfl, h1, h⟩ := varsO_cons h
 obtain ⟨b, y2, r2, rfl, h2, h⟩ := varsO_cons h
 obtain ⟨c, rfl, h3⟩ := varsO_one_yes h
 exact ⟨a, b, c, r1, r2, rfl, h1, h2, h3⟩
theorem ses_no_vars {l : List UInt8} (h : varsO 3 l = none) : sesS l = none := by
 unfold sesS
 rcases varsO_less h with h1 | ⟨x, r1, h1, h⟩
 ·simp only [h1, Option.bind_none]
 rcases varsO_less h with h2 | ⟨x2, r2, h2, h⟩
 ·simp only [h1, h2, Option.bind_some, Option.bind_none]
 rcases varsO_less h with h3 | ⟨x3, r3, h3, h⟩
 ·simp only [h1, h2, h3, Option.bind_some, Option.bind_none]
 ·rw [varsO] at h; cases h
theorem outR_nil : outR [] = none := by
 unfold outR
 rw [numO_no (fun x r h => by have := num_le h; simp at this)]
 rfl
theorem specReadResult_nil (w : World) :
  Calls Tryz.prog 24 #[.string ⟨#[]⟩] w fun e w' => e = .returned (.tuple #[.agg #[.int .i64 0, .string ⟨#[]⟩], .bool false]) ∧ Below w.heap.size w w' := by
 have h := specReadResult_any ⟨#[]⟩ w (by decide)
 have e : outR (⟨#[]⟩ : ByteArray).data.toList = none := outR_nil
 rw [e] at h
 exact h
def NtIn (g : Nat) (a b c d e : Nat) (w' : World) : Prop := w'.cell? ⟨g, 0, none⟩ = some (.int .i64 (a : Nat)) ∧ w'.cell? ⟨g, 1, none⟩ = some (.int .i64 (b : Nat)) ∧ w'.cell? ⟨g, 2, none⟩ = some (.int .i64 (c : Nat)) ∧ w'.cell? ⟨g, 3, none⟩ = some (.int .i64 (d : Nat)) ∧ w'.cell? ⟨g, 4, none⟩ = some (.int .i64 (e : Nat))
def SeIn3 (g : Nat) (a b c : Nat) (g2 : Nat) (r : Re) (w' : World) : Prop := w'.cell? ⟨g, 0, none⟩ = some (.int .i64 (a : Nat)) ∧ w'.cell? ⟨g, 1, none⟩ = some (.int .i64 (b : Nat)) ∧ w'.cell? ⟨g, 2, none⟩ = some (.int .i64 (c : Nat)) ∧ w'.cell? ⟨g2, 0, none⟩ = some (.int .i64 r.c) ∧ w'.cell? ⟨g2, 1, none⟩ = some (.string r.d)
set_option maxRecDepth 100000 in
set_option maxHeartbeats 40000000 in
theorem specReadTenant_any (s : ByteArray) (w : World) (hs : s.size ≤ 1048576) :
  Calls Tryz.prog 10 #[.string s] w (RdTS s.data.toList w) := by
 go_enter Tryz.func10, Tryz.ntmps10
 go_wp2_with fail
 obtain ⟨W, hW, bW, zW, cW, fW, cV, fV⟩ := boxed2 w zTn zTn 36 36
 simp only [hW]
 have X0 : Hid (Blk W w.heap.size zTn) := Hid.intro ⟨by omega, cW, fW⟩
 have X1 : Hid (Blk W (w.heap.size + 1) zTn) := Hid.intro ⟨by omega, cV, fV⟩
 have B0 := bW
 clear hW cW fW bW zW cV fV
 refine (l8Take_any s 0 _ hs (by omega)).mono ?_
 rintro e w1 ⟨⟨p, a1, rfl, HPI, ha1⟩ | ⟨rfl, HPI⟩, b⟩
 rotate_left 1
 ·have HP : Hid (outT s.data.toList = none) := by
   have h := HPI.out
   rw [List.drop_zero] at h
   exact outT_none (by unfold tenS; simp only [h, Option.bind_none])
  replace X0 := Hid.intro (X0.out.kept b)
  replace X1 := Hid.intro (X1.out.kept b)
  replace B0 := B0.trans (b.mono B0.size)
  clear HPI b
  go_wp2_with fail
  refine (l8Vars_none s 2 _ (by omega) (by omega)).mono ?_
  rintro e w2 ⟨⟨v2, rfl⟩, b⟩
  replace X0 := Hid.intro (X0.out.kept b)
  replace X1 := Hid.intro (X1.out.kept b)
  replace B0 := B0.trans (b.mono B0.size)
  clear b
  have r0 : w2.cell? ⟨w.heap.size, 0, none⟩ = some (.int .i64 0) := X0.out.cell 0
  have f0 : w2.frozen? ⟨w.heap.size, 0, none⟩ = false := X0.out.fro 0
  have y0 : w2.cell? ⟨w.heap.size + 1, 0, none⟩ = some (.int .i64 0) := X1.out.cell 0
  have r1 : w2.cell? ⟨w.heap.size, 1, none⟩ = some (.slice none 0 0) := X0.out.cell 1
  have f1 : w2.frozen? ⟨w.heap.size, 1, none⟩ = false := X0.out.fro 1
  have y1 : w2.cell? ⟨w.heap.size + 1, 1, none⟩ = some (.slice none 0 0) := X1.out.cell 1
  have r2 : w2.cell? ⟨w.heap.size, 2, none⟩ = some (.int .i64 0) := X0.out.cell 2
  have f2 : w2.frozen? ⟨w.heap.size, 2, none⟩ = false := X0.out.fro 2
  have y2 : w2.cell? ⟨w.heap.size + 1, 2, none⟩ = some (.int .i64 0) := X1.out.cell 2
  have r3 : w2.cell? ⟨w.heap.size, 3, none⟩ = some (.slice none 0 0) := X0.out.cell 3
  have f3 : w2.frozen? ⟨w.heap.size, 3, none⟩ = false := X0.out.fro 3
  have y3 : w2.cell? ⟨w.heap.size + 1, 3, none⟩ = some (.slice none 0 0) := X1.out.cell 3
  have r4 : w2.cell? ⟨w.heap.size, 4, none⟩ = some (.slice none 0 0) := X0.out.cell 4
  have f4 : w2.frozen? ⟨w.heap.size, 4, none⟩ = false := X0.out.fro 4
  have y4 : w2.cell? ⟨w.heap.size + 1, 4, none⟩ = some (.slice none 0 0) := X1.out.cell 4
  have o1 : Only (fun k => k = w.heap.size) w2 (((((w2.setCell ⟨w.heap.size, 0, none⟩ (.int .i64 0)).setCell ⟨w.heap.size, 1, none⟩ (.slice none 0 0)).setCell ⟨w.heap.size, 2, none⟩ (.int .i64 0)).setCell ⟨w.heap.size, 3, none⟩ (.slice none 0 0)).setCell ⟨w.heap.size, 4, none⟩ (.slice none 0 0)) := (((((set_only w.heap.size 0 w2 (.int .i64 0)).setCell (p := ⟨w.heap.size, 1, none⟩) rfl (.slice none 0 0)).setCell (p := ⟨w.heap.size, 2, none⟩) rfl (.int .i64 0)).setCell (p := ⟨w.heap.size, 3, none⟩) rfl (.slice none 0 0)).setCell (p := ⟨w.heap.size, 4, none⟩) rfl (.slice none 0 0))
  clear X0 X1
  go_wp2
  exact bodyPost_ret (v := .tuple #[.agg zTn, .bool false]) (by simp [results, Tryz.results10, go_sem, r0, r1, r2, r3, r4]) rfl ⟨.inr ⟨rfl, HP⟩, B0.trans (o1.below B0.size (fun k hk h => by omega))⟩
 have hps : p.size ≤ 1048576 := by
  have := pie_wf HPI.out
  simp only [List.length_drop, Array.length_toList] at this
  have h2 : p.data.size = p.size := rfl
  have h3 : s.data.size = s.size := rfl
  omega
 replace X0 := Hid.intro (X0.out.kept b)
 replace X1 := Hid.intro (X1.out.kept b)
 replace B0 := B0.trans (b.mono B0.size)
 clear b
 go_wp2_with fail
 refine (l8Vars_any s a1 2 _ hs ha1 (by omega) (by omega)).mono ?_
 rintro e w2 ⟨⟨v2, ⟨xs, a2, rfl, HV, ha2, hl, hn2⟩ | ⟨rfl, HV⟩⟩, b⟩
 rotate_left 1
 ·have HP : Hid (outT s.data.toList = none) := by
   have h0 := HPI.out
   rw [List.drop_zero] at h0
   refine outT_none ?_
   unfold tenS
   simp only [h0, Option.bind_some]
   rcases varsO_less HV.out with h1 | ⟨x, r1, h1, h⟩
   ·simp only [h1, Option.bind_none]
   ·rcases varsO_less h with h2 | ⟨y, r2, h2, h⟩
    ·simp only [h1, cntO, h2, Option.bind_some, Option.bind_none]
    ·rw [varsO] at h; cases h
  replace X0 := Hid.intro (X0.out.kept b)
  replace X1 := Hid.intro (X1.out.kept b)
  replace B0 := B0.trans (b.mono B0.size)
  clear HV b
  have r0 : w2.cell? ⟨w.heap.size, 0, none⟩ = some (.int .i64 0) := X0.out.cell 0
  have f0 : w2.frozen? ⟨w.heap.size, 0, none⟩ = false := X0.out.fro 0
  have y0 : w2.cell? ⟨w.heap.size + 1, 0, none⟩ = some (.int .i64 0) := X1.out.cell 0
  have r1 : w2.cell? ⟨w.heap.size, 1, none⟩ = some (.slice none 0 0) := X0.out.cell 1
  have f1 : w2.frozen? ⟨w.heap.size, 1, none⟩ = false := X0.out.fro 1
  have y1 : w2.cell? ⟨w.heap.size + 1, 1, none⟩ = some (.slice none 0 0) := X1.out.cell 1
  have r2 : w2.cell? ⟨w.heap.size, 2, none⟩ = some (.int .i64 0) := X0.out.cell 2
  have f2 : w2.frozen? ⟨w.heap.size, 2, none⟩ = false := X0.out.fro 2
  have y2 : w2.cell? ⟨w.heap.size + 1, 2, none⟩ = some (.int .i64 0) := X1.out.cell 2
  have r3 : w2.cell? ⟨w.heap.size, 3, none⟩ = some (.slice none 0 0) := X0.out.cell 3
  have f3 : w2.frozen? ⟨w.heap.size, 3, none⟩ = false := X0.out.fro 3
  have y3 : w2.cell? ⟨w.heap.size + 1, 3, none⟩ = some (.slice none 0 0) := X1.out.cell 3
  have r4 : w2.cell? ⟨w.heap.size, 4, none⟩ = some (.slice none 0 0) := X0.out.cell 4
  have f4 : w2.frozen? ⟨w.heap.size, 4, none⟩ = false := X0.out.fro 4
  have y4 : w2.cell? ⟨w.heap.size + 1, 4, none⟩ = some (.slice none 0 0) := X1.out.cell 4
  have o1 : Only (fun k => k = w.heap.size) w2 (((((w2.setCell ⟨w.heap.size, 0, none⟩ (.int .i64 0)).setCell ⟨w.heap.size, 1, none⟩ (.slice none 0 0)).setCell ⟨w.heap.size, 2, none⟩ (.int .i64 0)).setCell ⟨w.heap.size, 3, none⟩ (.slice none 0 0)).setCell ⟨w.heap.size, 4, none⟩ (.slice none 0 0)) := (((((set_only w.heap.size 0 w2 (.int .i64 0)).setCell (p := ⟨w.heap.size, 1, none⟩) rfl (.slice none 0 0)).setCell (p := ⟨w.heap.size, 2, none⟩) rfl (.int .i64 0)).setCell (p := ⟨w.heap.size, 3, none⟩) rfl (.slice none 0 0)).setCell (p := ⟨w.heap.size, 4, none⟩) rfl (.slice none 0 0))
  clear X0 X1
  go_wp2
  exact bodyPost_ret (v := .tuple #[.agg zTn, .bool false]) (by simp [results, Tryz.results10, go_sem, r0, r1, r2, r3, r4]) rfl ⟨.inr ⟨rfl, HP⟩, B0.trans (o1.below B0.size (fun k hk h => by omega))⟩
 obtain ⟨tk, n, r1, rfl, h1, h2⟩ := varsO_two_yes HV.out
 have H0 : Hid (pieO s.data.toList = some (p.data.toList, s.data.toList.drop a1)) := by
  have h0 := HPI.out
  rw [List.drop_zero] at h0
  exact h0
 have H1 := Hid.intro h1
 have H2 := Hid.intro h2
 obtain ⟨g4, cap4, rfl, hcap4, hg4, hlt4, hcell4⟩ := hn2
 have k0 : w2.cell? ⟨g4, 0, none⟩ = some (.int .i64 (tk : Nat)) := hcell4 0 (by simp)
 have k1 : w2.cell? ⟨g4, 1, none⟩ = some (.int .i64 (n : Nat)) := hcell4 1 (by simp)
 simp only [List.length_cons, List.length_nil, Nat.zero_add, Nat.reduceAdd] at hcap4 ⊢
 replace X0 := Hid.intro (X0.out.kept b)
 replace X1 := Hid.intro (X1.out.kept b)
 replace B0 := B0.trans (b.mono B0.size)
 clear HV hcell4 hl b h1 h2 HPI
 have hi6 : w.heap.size + 1 < w2.heap.size := X1.out.hi
 have q0 : (0 : Int) ≤ 0 ∧ (0 : Int) < (cap4 : Int) := by omega
 have q1 : (0 : Int) ≤ 1 ∧ (1 : Int) < (cap4 : Int) := by omega
 have q2 : ¬ (a2 : Int) < 0 := by omega
 by_cases hm : 20 < n
 ·have g1 : (20 : Int) < (n : Int) := by omega
  have HP : Hid (outT s.data.toList = none) := by
   refine outT_none ?_
   unfold tenS
   simp only [H0.out, H1.out, cntO, H2.out, Option.bind_some]
   rw [if_neg (by omega)]
   rfl
  have r0 : w2.cell? ⟨w.heap.size, 0, none⟩ = some (.int .i64 0) := X0.out.cell 0
  have f0 : w2.frozen? ⟨w.heap.size, 0, none⟩ = false := X0.out.fro 0
  have y0 : w2.cell? ⟨w.heap.size + 1, 0, none⟩ = some (.int .i64 0) := X1.out.cell 0
  have r1 : w2.cell? ⟨w.heap.size, 1, none⟩ = some (.slice none 0 0) := X0.out.cell 1
  have f1 : w2.frozen? ⟨w.heap.size, 1, none⟩ = false := X0.out.fro 1
  have y1 : w2.cell? ⟨w.heap.size + 1, 1, none⟩ = some (.slice none 0 0) := X1.out.cell 1
  have r2 : w2.cell? ⟨w.heap.size, 2, none⟩ = some (.int .i64 0) := X0.out.cell 2
  have f2 : w2.frozen? ⟨w.heap.size, 2, none⟩ = false := X0.out.fro 2
  have y2 : w2.cell? ⟨w.heap.size + 1, 2, none⟩ = some (.int .i64 0) := X1.out.cell 2
  have r3 : w2.cell? ⟨w.heap.size, 3, none⟩ = some (.slice none 0 0) := X0.out.cell 3
  have f3 : w2.frozen? ⟨w.heap.size, 3, none⟩ = false := X0.out.fro 3
  have y3 : w2.cell? ⟨w.heap.size + 1, 3, none⟩ = some (.slice none 0 0) := X1.out.cell 3
  have r4 : w2.cell? ⟨w.heap.size, 4, none⟩ = some (.slice none 0 0) := X0.out.cell 4
  have f4 : w2.frozen? ⟨w.heap.size, 4, none⟩ = false := X0.out.fro 4
  have y4 : w2.cell? ⟨w.heap.size + 1, 4, none⟩ = some (.slice none 0 0) := X1.out.cell 4
  have o1 : Only (fun k => k = w.heap.size) w2 (((((w2.setCell ⟨w.heap.size, 0, none⟩ (.int .i64 0)).setCell ⟨w.heap.size, 1, none⟩ (.slice none 0 0)).setCell ⟨w.heap.size, 2, none⟩ (.int .i64 0)).setCell ⟨w.heap.size, 3, none⟩ (.slice none 0 0)).setCell ⟨w.heap.size, 4, none⟩ (.slice none 0 0)) := (((((set_only w.heap.size 0 w2 (.int .i64 0)).setCell (p := ⟨w.heap.size, 1, none⟩) rfl (.slice none 0 0)).setCell (p := ⟨w.heap.size, 2, none⟩) rfl (.int .i64 0)).setCell (p := ⟨w.heap.size, 3, none⟩) rfl (.slice none 0 0)).setCell (p := ⟨w.heap.size, 4, none⟩) rfl (.slice none 0 0))
  clear X0 X1
  go_wp2
  exact bodyPost_ret (v := .tuple #[.agg zTn, .bool false]) (by simp [results, Tryz.results10, go_sem, r0, r1, r2, r3, r4]) rfl ⟨.inr ⟨rfl, HP⟩, B0.trans (o1.below B0.size (fun k hk h => by omega))⟩
 ·have g1 : ¬ (20 : Int) < (n : Int) := by omega
  have HK : Hid (w2.cell? ⟨g4, 0, none⟩ = some (.int .i64 (tk : Nat)) ∧ w2.cell? ⟨g4, 1, none⟩ = some (.int .i64 (n : Nat))) := ⟨k0, k1⟩
  go_upto_region 6 with fail
  clear k0 k1
  go_wp2_with fail
  refine (specReadVolZ_any p _ hps).mono ?_
  rintro e w3 ⟨⟨nx, ua, uc, M, vb, rfl, HZ, HVR, HWF⟩, b⟩
  replace X0 := Hid.intro (X0.out.kept b)
  replace X1 := Hid.intro (X1.out.kept b)
  replace B0 := B0.trans (b.mono B0.size)
  replace HK := Hid.intro (And.intro (atCell b HK.out.1 hlt4) (atCell b HK.out.2 hlt4))
  have z3 := b.size
  clear b
  have HTS : Hid (tenS s.data.toList = (notsO n (s.data.toList.drop a2)).bind fun a => (cntO 3 a.2).bind fun m => (sessS m.1 m.2).bind fun s => some (((nx : Int), M.map Np.n, (tk : Int), a.1, s.1), s.2)) := by
   unfold Hid tenS
   simp only [H0.out, H1.out, H2.out, cntO, HZ.out, Option.bind_some]
   rw [if_pos (by omega), Option.bind_some]
  clear H0 H1 H2 HZ
  go_upto_region 7 with fail
  obtain ⟨w4, hY, bY, zY, cY, fY⟩ := boxed w3 #[.int .i64 (nx : Nat), .slice ua M.length uc] 32
  simp only [hY]
  replace X0 := Hid.intro (X0.out.kept bY)
  replace X1 := Hid.intro (X1.out.kept bY)
  replace B0 := B0.trans (bY.mono B0.size)
  replace HK := Hid.intro (And.intro (atCell bY HK.out.1 (by omega)) (atCell bY HK.out.2 (by omega)))
  replace HVR := Hid.intro (HVR.out.kept bY)
  have HS : Hid (∀ w', Below w4.heap.size w4 w' → (w'.cell? ⟨g4, 0, none⟩ = some (.int .i64 (tk : Nat)) ∧ w'.cell? ⟨w3.heap.size, 0, none⟩ = some (.int .i64 (nx : Nat)) ∧ w'.cell? ⟨w3.heap.size, 1, none⟩ = some (.slice ua M.length uc))) := fun w' hb => ⟨atCell hb HK.out.1 (by omega), atCell hb (cY 0) (by omega), atCell hb (cY 1) (by omega)⟩
  have hz34 : w3.heap.size < w4.heap.size := by omega
  clear hY bY cY fY
  go_cut [10] from 47 to 51 (fun x wc => x = .pointer (some ⟨w4.heap.size, 0, none⟩) ∧ Blk wc w4.heap.size #[.int .i64 (nx : Nat), .slice ua M.length uc, .int .i64 (tk : Nat), .slice none 0 0, .slice none 0 0] ∧ Below w4.heap.size w4 wc)
  case first =>
   go_region_held3 (fun w' => w'.cell? ⟨g4, 0, none⟩ = some (.int .i64 (tk : Nat)) ∧ w'.cell? ⟨w3.heap.size, 0, none⟩ = some (.int .i64 (nx : Nat)) ∧ w'.cell? ⟨w3.heap.size, 1, none⟩ = some (.slice ua M.length uc)) (exact HS.out _ (by repeat (first | exact Below.refl _ _ | apply Below.drew | refine Below.alloc ?_ (by simp) _ | refine Below.setCell ?_ (by simp) _))) (fail)
   all_goals
    go_wp2_with fail
    go_meet
    case rel => exact ⟨by rw [zY], ⟨by simp; try omega, fun o => World.cell?_alloc_at _ _ _ _ (by simp; try omega), fun o => World.frozen?_alloc_at _ _ _ _ (by simp; try omega)⟩, by repeat (first | exact Below.refl _ _ | apply Below.drew | refine Below.alloc ?_ (by simp) _)⟩
  case rest =>
  obtain ⟨rfl, hX, b⟩ := hcut
  replace X0 := Hid.intro (X0.out.kept b)
  replace X1 := Hid.intro (X1.out.kept b)
  replace B0 := B0.trans (b.mono B0.size)
  replace HK := Hid.intro (And.intro (atCell b HK.out.1 (by omega)) (atCell b HK.out.2 (by omega)))
  have HBG := Hid.intro b
  have hxi := hX.hi
  have HI : Hid (TsA wc w4.heap.size (nx : Nat) (tk : Nat) (.slice ua M.length uc) wc (.slice none 0 0) []) := ⟨hX, Own.nil _ _, Only.refl _ _, hX.hi⟩
  have hg44 : g4 < w4.heap.size := by omega
  have hi4 : w.heap.size + 1 < w4.heap.size := by omega
  clear hX b HS hlt4 z3 zY hz34 hg4
  generalize hgw4 : w4.heap.size = g at HI HBG hxi hg44 hi4 ⊢
  have HG4 := Hid.intro hgw4
  clear hgw4
  go_wp2_with fail
  go_loopw [6, 11] (fun x i wr => ∃ (a : Nat) (va : Value) (A : List Nt), x = .int .i64 (a : Nat) ∧ i = .int .i64 (A.length : Nat) ∧ A.length ≤ n ∧ a ≤ s.size ∧ Hid (notsO n (s.data.toList.drop a2) = (notsO (n - A.length) (s.data.toList.drop a)).map fun y => (A ++ y.1, y.2)) ∧ Hid (TsA wc g (nx : Nat) (tk : Nat) (.slice ua M.length uc) wr va A)) (fun _ i _ => n - (intOf i).toNat)
  case atStart => exact ⟨a2, _, [], rfl, rfl, Nat.zero_le _, ha2, by unfold Hid; simp, HI⟩
  case round =>
   clear HI
   obtain ⟨a, v, A, rfl, rfl, hj, hal, HN, HI⟩ := hrel
   have kn := (HI.out.only.cell (o := 1) (by omega : g4 < wc.heap.size) (by omega)).trans HK.out.2
   have hwc : wc.heap.size ≤ wr.heap.size := HI.out.only.size
   by_cases hlt : A.length < n
   ·have hjn : (A.length : Int) < (n : Int) := by omega
    obtain ⟨va, vc, rfl⟩ := HI.out.aud.slice
    go_wp2_with fail
    clear kn
    refine (l8Vars_any s a 5 _ hs hal (by omega) (by omega)).mono ?_
    rintro e x9 ⟨⟨v5, ⟨xs, a5, rfl, HV, ha5, hl, hn5⟩ | ⟨rfl, HV⟩⟩, b⟩
    rotate_left 1
    ·have HP : Hid (outT s.data.toList = none) := by
      refine outT_none ?_
      rw [HTS.out, HN.out, notsO_no (by omega) (not_no_vars HV.out)]
      rfl
     have oW := HI.out.only.trans (ob_any b)
     replace X0 := Hid.intro (X0.out.only oW (by omega))
     replace X1 := Hid.intro (X1.out.only oW (by omega))
     replace B0 := B0.trans (oW.below B0.size (fun k hk e => by omega))
     clear HI HV b oW
     have r0 : x9.cell? ⟨w.heap.size, 0, none⟩ = some (.int .i64 0) := X0.out.cell 0
     have f0 : x9.frozen? ⟨w.heap.size, 0, none⟩ = false := X0.out.fro 0
     have y0 : x9.cell? ⟨w.heap.size + 1, 0, none⟩ = some (.int .i64 0) := X1.out.cell 0
     have r1 : x9.cell? ⟨w.heap.size, 1, none⟩ = some (.slice none 0 0) := X0.out.cell 1
     have f1 : x9.frozen? ⟨w.heap.size, 1, none⟩ = false := X0.out.fro 1
     have y1 : x9.cell? ⟨w.heap.size + 1, 1, none⟩ = some (.slice none 0 0) := X1.out.cell 1
     have r2 : x9.cell? ⟨w.heap.size, 2, none⟩ = some (.int .i64 0) := X0.out.cell 2
     have f2 : x9.frozen? ⟨w.heap.size, 2, none⟩ = false := X0.out.fro 2
     have y2 : x9.cell? ⟨w.heap.size + 1, 2, none⟩ = some (.int .i64 0) := X1.out.cell 2
     have r3 : x9.cell? ⟨w.heap.size, 3, none⟩ = some (.slice none 0 0) := X0.out.cell 3
     have f3 : x9.frozen? ⟨w.heap.size, 3, none⟩ = false := X0.out.fro 3
     have y3 : x9.cell? ⟨w.heap.size + 1, 3, none⟩ = some (.slice none 0 0) := X1.out.cell 3
     have r4 : x9.cell? ⟨w.heap.size, 4, none⟩ = some (.slice none 0 0) := X0.out.cell 4
     have f4 : x9.frozen? ⟨w.heap.size, 4, none⟩ = false := X0.out.fro 4
     have y4 : x9.cell? ⟨w.heap.size + 1, 4, none⟩ = some (.slice none 0 0) := X1.out.cell 4
     have o1 : Only (fun k => k = w.heap.size) x9 (((((x9.setCell ⟨w.heap.size, 0, none⟩ (.int .i64 0)).setCell ⟨w.heap.size, 1, none⟩ (.slice none 0 0)).setCell ⟨w.heap.size, 2, none⟩ (.int .i64 0)).setCell ⟨w.heap.size, 3, none⟩ (.slice none 0 0)).setCell ⟨w.heap.size, 4, none⟩ (.slice none 0 0)) := (((((set_only w.heap.size 0 x9 (.int .i64 0)).setCell (p := ⟨w.heap.size, 1, none⟩) rfl (.slice none 0 0)).setCell (p := ⟨w.heap.size, 2, none⟩) rfl (.int .i64 0)).setCell (p := ⟨w.heap.size, 3, none⟩) rfl (.slice none 0 0)).setCell (p := ⟨w.heap.size, 4, none⟩) rfl (.slice none 0 0))
     clear X0 X1
     go_wp2
     exact bodyPost_ret (v := .tuple #[.agg zTn, .bool false]) (by simp [results, Tryz.results10, go_sem, r0, r1, r2, r3, r4]) rfl ⟨.inr ⟨rfl, HP⟩, B0.trans (o1.below B0.size (fun k hk h => by omega))⟩
    obtain ⟨x0, x1, x2, x3, x4, rfl, HT⟩ := not_of_vars HV.out
    have HN2 : Hid (notsO n (s.data.toList.drop a2) = (notsO (n - (A.length + 1)) (s.data.toList.drop a5)).map fun y => ((A ++ [(⟨(x0 : Nat), (x1 : Nat), (x2 : Nat), (x3 : Nat), (x4 : Nat)⟩ : Nt)]) ++ y.1, y.2)) := by
     unfold Hid
     rw [HN.out, notsO_yes (by omega) HT, Nat.sub_sub]
     cases notsO (n - (A.length + 1)) (s.data.toList.drop a5) <;> simp
    obtain ⟨g5, cap5, rfl, hcap5, hg5, hlt5, hcell5⟩ := hn5
    simp only [List.length_cons, List.length_nil, Nat.zero_add, Nat.reduceAdd] at hcap5 ⊢
    have HSF : Hid (∀ y, Below x9.heap.size x9 y → NtIn g5 x0 x1 x2 x3 x4 y) := fun y hy => ⟨atCell hy (hcell5 0 (by simp)) hlt5, atCell hy (hcell5 1 (by simp)) hlt5, atCell hy (hcell5 2 (by simp)) hlt5, atCell hy (hcell5 3 (by simp)) hlt5, atCell hy (hcell5 4 (by simp)) hlt5⟩
    have hg5v : ¬ (Value.slice va A.length vc).ownBlock = some g5 := fun h => by have := (HI.out.aud.lt g5 h).2; omega
    have hg5g : ¬ g5 = g := by have := HI.out.box.hi; omega
    have hg5g' : ¬ g = g5 := fun h => hg5g h.symm
    replace HI := Hid.intro (HI.out.kept b)
    have i0 : (0 : Int) ≤ 0 ∧ (0 : Int) < (cap5 : Int) := by omega
    have i1 : (0 : Int) ≤ 1 ∧ (1 : Int) < (cap5 : Int) := by omega
    have i2 : (0 : Int) ≤ 2 ∧ (2 : Int) < (cap5 : Int) := by omega
    have i3 : (0 : Int) ≤ 3 ∧ (3 : Int) < (cap5 : Int) := by omega
    have i4 : (0 : Int) ≤ 4 ∧ (4 : Int) < (cap5 : Int) := by omega
    have i5 : ¬ (a5 : Int) < 0 := by omega
    clear HV HT HN hcell5 hl b hcap5 hg5 hlt5
    go_upto_region 14 with fail
    refine wp_region_held_drew (S := NtIn g5 x0 x1 x2 x3 x4) (by kernel_rfl) (HSF.out _ (Below.refl _ _).drew) (fun hHeld => ?_)
    have BD : Hid (Below x9.heap.size x9 x9.drew) := (Below.refl _ _).drew
    have HD := Hid.intro (HI.out.kept (w2 := x9.drew) (Below.refl _ _).drew)
    clear HI
    generalize x9.drew = D at HD BD hHeld ⊢
    refine tkk 0 68 (v := ?_) ?_ ?_
    rotate_left 1
    ·intro w hSw
     obtain ⟨q0, q1, q2, q3, q4⟩ := hSw
     go_simp <;> with_reducible rfl
    simp only [Act.put, List.setIfInBounds_toArray]
    dsimp only [List.set_cons_succ, List.set_cons_zero]
    refine tkk 2 70 (v := ?_) ?_ ?_
    rotate_left 1
    ·intro w hSw
     obtain ⟨q0, q1, q2, q3, q4⟩ := hSw
     go_simp <;> with_reducible rfl
    simp only [Act.put, List.setIfInBounds_toArray]
    dsimp only [List.set_cons_succ, List.set_cons_zero]
    refine tkk 3 71 (v := ?_) ?_ ?_
    rotate_left 1
    ·intro w hSw
     obtain ⟨q0, q1, q2, q3, q4⟩ := hSw
     go_simp <;> with_reducible rfl
    simp only [Act.put, List.setIfInBounds_toArray]
    dsimp only [List.set_cons_succ, List.set_cons_zero]
    refine tkk 4 72 (v := ?_) ?_ ?_
    rotate_left 1
    ·intro w hSw
     obtain ⟨q0, q1, q2, q3, q4⟩ := hSw
     go_simp <;> with_reducible rfl
    simp only [Act.put, List.setIfInBounds_toArray]
    dsimp only [List.set_cons_succ, List.set_cons_zero]
    refine tkk 5 73 (v := ?_) ?_ ?_
    rotate_left 1
    ·intro w hSw
     obtain ⟨q0, q1, q2, q3, q4⟩ := hSw
     go_simp <;> with_reducible rfl
    simp only [Act.put, List.setIfInBounds_toArray]
    dsimp only [List.set_cons_succ, List.set_cons_zero]
    refine tkk 6 74 (v := ?_) ?_ ?_
    rotate_left 1
    ·intro w hSw
     obtain ⟨q0, q1, q2, q3, q4⟩ := hSw
     go_simp <;> with_reducible rfl
    simp only [Act.put, List.setIfInBounds_toArray]
    dsimp only [List.set_cons_succ, List.set_cons_zero]
    refine tkk 7 75 (v := ?_) ?_ ?_
    rotate_left 1
    ·intro w hSw
     obtain ⟨q0, q1, q2, q3, q4⟩ := hSw
     go_simp <;> with_reducible rfl
    simp only [Act.put, List.setIfInBounds_toArray]
    dsimp only [List.set_cons_succ, List.set_cons_zero]
    refine tkk 8 76 (v := ?_) ?_ ?_
    rotate_left 1
    ·intro w hSw
     obtain ⟨q0, q1, q2, q3, q4⟩ := hSw
     go_simp <;> with_reducible rfl
    simp only [Act.put, List.setIfInBounds_toArray]
    dsimp only [List.set_cons_succ, List.set_cons_zero]
    refine tkk 9 77 (v := ?_) ?_ ?_
    rotate_left 1
    ·intro w hSw
     obtain ⟨q0, q1, q2, q3, q4⟩ := hSw
     go_simp <;> with_reducible rfl
    simp only [Act.put, List.setIfInBounds_toArray]
    dsimp only [List.set_cons_succ, List.set_cons_zero]
    refine tkk 10 78 (v := ?_) ?_ ?_
    rotate_left 1
    ·intro w hSw
     obtain ⟨q0, q1, q2, q3, q4⟩ := hSw
     go_simp <;> with_reducible rfl
    simp only [Act.put, List.setIfInBounds_toArray]
    dsimp only [List.set_cons_succ, List.set_cons_zero]
    refine tkk 11 79 (v := ?_) ?_ ?_
    rotate_left 1
    ·intro w hSw
     obtain ⟨q0, q1, q2, q3, q4⟩ := hSw
     go_simp <;> with_reducible rfl
    simp only [Act.put, List.setIfInBounds_toArray]
    dsimp only [List.set_cons_succ, List.set_cons_zero]
    refine tkk 12 80 (v := ?_) ?_ ?_
    rotate_left 1
    ·intro w hSw
     obtain ⟨q0, q1, q2, q3, q4⟩ := hSw
     go_simp <;> with_reducible rfl
    simp only [Act.put, List.setIfInBounds_toArray]
    dsimp only [List.set_cons_succ, List.set_cons_zero]
    refine tkk 13 81 (v := ?_) ?_ ?_
    rotate_left 1
    ·intro w hSw
     obtain ⟨q0, q1, q2, q3, q4⟩ := hSw
     go_simp <;> with_reducible rfl
    simp only [Act.put, List.setIfInBounds_toArray]
    dsimp only [List.set_cons_succ, List.set_cons_zero]
    refine tkk 14 82 (v := ?_) ?_ ?_
    rotate_left 1
    ·intro w hSw
     obtain ⟨q0, q1, q2, q3, q4⟩ := hSw
     go_simp <;> with_reducible rfl
    simp only [Act.put, List.setIfInBounds_toArray]
    dsimp only [List.set_cons_succ, List.set_cons_zero]
    refine tkk 15 83 (v := ?_) ?_ ?_
    rotate_left 1
    ·intro w hSw
     obtain ⟨q0, q1, q2, q3, q4⟩ := hSw
     go_simp <;> with_reducible rfl
    simp only [Act.put, List.setIfInBounds_toArray]
    dsimp only [List.set_cons_succ, List.set_cons_zero]
    refine tkk 16 84 (v := ?_) ?_ ?_
    rotate_left 1
    ·intro w hSw
     obtain ⟨q0, q1, q2, q3, q4⟩ := hSw
     go_simp <;> with_reducible rfl
    simp only [Act.put, List.setIfInBounds_toArray]
    dsimp only [List.set_cons_succ, List.set_cons_zero]
    refine tkk 17 85 (v := ?_) ?_ ?_
    rotate_left 1
    ·intro w hSw
     obtain ⟨q0, q1, q2, q3, q4⟩ := hSw
     go_simp <;> with_reducible rfl
    simp only [Act.put, List.setIfInBounds_toArray]
    dsimp only [List.set_cons_succ, List.set_cons_zero]
    refine wpAnyH_ready (rs := [1, 18]) (by kernel_rfl) (by simp) ?_
    refine (AllReadyH.cons rfl (fun KK hKK => ?_) (AllReadyH.cons rfl (fun KK hKK => ?_) AllReadyH.nil))
    ·skip
     have k6 : D.cell? ⟨g, 3, none⟩ = some (.slice va A.length vc) := HD.out.box.cell 3
     go_simp
     refine hKK.out _ _ (HSF.out _ BD.out) (fun hHeld2 => ?_)
     clear hKK KK hHeld
     have hHeld := hHeld2
     clear hHeld2
     clear k6
     refine wpAnyH_ready (rs := [18]) (by kernel_rfl) (by simp) ?_
     refine (AllReadyH.cons rfl (fun KK hKK => ?_) AllReadyH.nil)
     go_simp
     have bM : Below D.heap.size D (D.alloc (.cells #[.int .i64 (x0 : Nat), .int .i64 (x1 : Nat), .int .i64 (x2 : Nat), .int .i64 (x3 : Nat), .int .i64 (x4 : Nat)] 55)) := one_below _ _
     have cM : ∀ o, (D.alloc (.cells #[.int .i64 (x0 : Nat), .int .i64 (x1 : Nat), .int .i64 (x2 : Nat), .int .i64 (x3 : Nat), .int .i64 (x4 : Nat)] 55)).cell? ⟨D.heap.size, o, none⟩ = (#[.int .i64 (x0 : Nat), .int .i64 (x1 : Nat), .int .i64 (x2 : Nat), .int .i64 (x3 : Nat), .int .i64 (x4 : Nat)] : Array Value)[o]? := fun o => World.cell?_alloc_at _ _ _ _ rfl
     replace HD := Hid.intro (HD.out.kept bM)
     replace BD := Hid.intro (BD.out.trans (bM.mono BD.out.size))
     revert HD cM BD
     generalize D.alloc (.cells #[.int .i64 (x0 : Nat), .int .i64 (x1 : Nat), .int .i64 (x2 : Nat), .int .i64 (x3 : Nat), .int .i64 (x4 : Nat)] 55) = Mw at bM
     generalize D.heap.size = sb
     intro cM HD BD
     refine hKK.out _ _ (HSF.out _ BD.out) (fun hHeld2 => ?_)
     clear hKK KK hHeld
     have hHeld := hHeld2
     clear hHeld2
     refine wpAnyH_ready (rs := [19]) (by kernel_rfl) (by simp) ?_
     refine (AllReadyH.cons rfl (fun KK hKK => ?_) AllReadyH.nil)
     have hnews : ∀ j u, (ntE.f [⟨(x0 : Nat), (x1 : Nat), (x2 : Nat), (x3 : Nat), (x4 : Nat)⟩])[j]? = some u → Mw.cell? ((⟨sb, 0, none⟩ : Addr).add j) = some u := fun j u hj => by
      rw [add_none, Nat.zero_add, cM]
      simpa [ntE, Enc.f] using hj
     have hbase : wc.heap.size ≤ Mw.heap.size := HD.out.only.size
     refine step_Nt rfl _ _ rfl wc.heap.size (.slice va A.length vc) A ⟨(x0 : Nat), (x1 : Nat), (x2 : Nat), (x3 : Nat), (x4 : Nat)⟩ rfl HD.out.aud ⟨sb, 0, none⟩ 1 rfl hnews (by omega) hbase ?_
     intro g9 cap2 w9 hown ho hloc hg
     have hnow : ∀ k, some k = (Value.slice va A.length vc).ownBlock → wc.heap.size ≤ k ∧ k ≠ g5 := fun k e => ⟨(HD.out.aud.lt k e.symm).1, fun h => by subst h; exact hg5v e.symm⟩
     have hne3 : ¬ some g = (Value.slice va A.length vc).ownBlock := fun e => by have := (hnow g e).1; have := HD.out.lt; omega
     have k6 : w9.cell? ⟨g, 3, none⟩ = some (.slice va A.length vc) := (ho.cell (o := 3) HD.out.box.hi hne3).trans (HD.out.box.cell 3)
     have f6 := (ho.frozen (o := 3) HD.out.box.hi hne3).trans (HD.out.box.fro 3)
     have HE := Hid.intro (HD.out.put ho hown)
     have HSE : Hid (NtIn g5 x0 x1 x2 x3 x4 w9) := by obtain ⟨e0, e1, e2, e3, e4⟩ := hHeld; have hq : ∀ i u, Mw.cell? ⟨g5, i, none⟩ = some u → w9.cell? ⟨g5, i, none⟩ = some u := fun i u hu => (ho.cell (o := i) (World.block_lt_of_cell? Mw _ hu) (fun e => (hnow g5 e).2 rfl)).trans hu; exact ⟨hq _ _ e0, hq _ _ e1, hq _ _ e2, hq _ _ e3, hq _ _ e4⟩
     clear HD hown ho hloc hg hnews hbase cM hne3 bM hnow
     go_simp
     refine hKK.out _ _ (HSE.out) (fun hHeld2 => ?_)
     clear hKK KK hHeld
     have hHeld := hHeld2
     clear hHeld2
     refine tkk 20 88 (v := ?_) ?_ ?_
     rotate_left 1
     ·intro w hSw
      go_simp <;> with_reducible rfl
     simp only [Act.put, List.setIfInBounds_toArray]
     try simp only [List.set_cons_succ]
     try simp only [List.set_cons_zero]
     refine wpAnyH_ready (rs := [21]) (by kernel_rfl) (by simp) ?_
     refine (AllReadyH.cons rfl (fun KK hKK => ?_) AllReadyH.nil)
     go_simp
     have HSG : Hid (NtIn g5 x0 x1 x2 x3 x4 (w9.setCell ⟨g, 3, none⟩ (.slice (some ⟨g9, 0, none⟩) (A.length + 1) cap2))) := by obtain ⟨e0, e1, e2, e3, e4⟩ := hHeld; have hq : ∀ i u, w9.cell? ⟨g5, i, none⟩ = some u → (w9.setCell ⟨g, 3, none⟩ (.slice (some ⟨g9, 0, none⟩) (A.length + 1) cap2)).cell? ⟨g5, i, none⟩ = some u := fun i u hu => (World.cell?_setCell_other _ _ _ _ (by intro e; simp at e <;> omega)).trans hu; exact ⟨hq _ _ e0, hq _ _ e1, hq _ _ e2, hq _ _ e3, hq _ _ e4⟩
     revert HSG
     generalize w9.setCell ⟨g, 3, none⟩ _ = w5 at HE ⊢
     intro HSG
     clear k6 f6
     refine hKK.out _ _ (HSG.out) (fun hHeld2 => ?_)
     clear hKK KK hHeld
     have hHeld := hHeld2
     clear hHeld2
     refine wpAnyH_done (by kernel_rfl) ?_ _
     clear hHeld
     go_wp2
     go_roundw
     case rel => exact ⟨a5, _, A ++ [⟨(x0 : Nat), (x1 : Nat), (x2 : Nat), (x3 : Nat), (x4 : Nat)⟩], by go_num, by rw [List.length_append]; go_num, by rw [List.length_append, List.length_singleton]; omega, ha5, by unfold Hid; rw [List.length_append, List.length_singleton]; exact HN2.out, HE⟩
     case measure => simp [intOf]; omega
    ·skip
     go_simp
     have bM : Below D.heap.size D (D.alloc (.cells #[.int .i64 (x0 : Nat), .int .i64 (x1 : Nat), .int .i64 (x2 : Nat), .int .i64 (x3 : Nat), .int .i64 (x4 : Nat)] 55)) := one_below _ _
     have cM : ∀ o, (D.alloc (.cells #[.int .i64 (x0 : Nat), .int .i64 (x1 : Nat), .int .i64 (x2 : Nat), .int .i64 (x3 : Nat), .int .i64 (x4 : Nat)] 55)).cell? ⟨D.heap.size, o, none⟩ = (#[.int .i64 (x0 : Nat), .int .i64 (x1 : Nat), .int .i64 (x2 : Nat), .int .i64 (x3 : Nat), .int .i64 (x4 : Nat)] : Array Value)[o]? := fun o => World.cell?_alloc_at _ _ _ _ rfl
     replace HD := Hid.intro (HD.out.kept bM)
     replace BD := Hid.intro (BD.out.trans (bM.mono BD.out.size))
     revert HD cM BD
     generalize D.alloc (.cells #[.int .i64 (x0 : Nat), .int .i64 (x1 : Nat), .int .i64 (x2 : Nat), .int .i64 (x3 : Nat), .int .i64 (x4 : Nat)] 55) = Mw at bM
     generalize D.heap.size = sb
     intro cM HD BD
     refine hKK.out _ _ (HSF.out _ BD.out) (fun hHeld2 => ?_)
     clear hKK KK hHeld
     have hHeld := hHeld2
     clear hHeld2
     refine wpAnyH_ready (rs := [1]) (by kernel_rfl) (by simp) ?_
     refine (AllReadyH.cons rfl (fun KK hKK => ?_) AllReadyH.nil)
     have k6 : Mw.cell? ⟨g, 3, none⟩ = some (.slice va A.length vc) := HD.out.box.cell 3
     go_simp
     refine hKK.out _ _ (HSF.out _ BD.out) (fun hHeld2 => ?_)
     clear hKK KK hHeld
     have hHeld := hHeld2
     clear hHeld2
     clear k6
     refine wpAnyH_ready (rs := [19]) (by kernel_rfl) (by simp) ?_
     refine (AllReadyH.cons rfl (fun KK hKK => ?_) AllReadyH.nil)
     have hnews : ∀ j u, (ntE.f [⟨(x0 : Nat), (x1 : Nat), (x2 : Nat), (x3 : Nat), (x4 : Nat)⟩])[j]? = some u → Mw.cell? ((⟨sb, 0, none⟩ : Addr).add j) = some u := fun j u hj => by
      rw [add_none, Nat.zero_add, cM]
      simpa [ntE, Enc.f] using hj
     have hbase : wc.heap.size ≤ Mw.heap.size := HD.out.only.size
     refine step_Nt rfl _ _ rfl wc.heap.size (.slice va A.length vc) A ⟨(x0 : Nat), (x1 : Nat), (x2 : Nat), (x3 : Nat), (x4 : Nat)⟩ rfl HD.out.aud ⟨sb, 0, none⟩ 1 rfl hnews (by omega) hbase ?_
     intro g9 cap2 w9 hown ho hloc hg
     have hnow : ∀ k, some k = (Value.slice va A.length vc).ownBlock → wc.heap.size ≤ k ∧ k ≠ g5 := fun k e => ⟨(HD.out.aud.lt k e.symm).1, fun h => by subst h; exact hg5v e.symm⟩
     have hne3 : ¬ some g = (Value.slice va A.length vc).ownBlock := fun e => by have := (hnow g e).1; have := HD.out.lt; omega
     have k6 : w9.cell? ⟨g, 3, none⟩ = some (.slice va A.length vc) := (ho.cell (o := 3) HD.out.box.hi hne3).trans (HD.out.box.cell 3)
     have f6 := (ho.frozen (o := 3) HD.out.box.hi hne3).trans (HD.out.box.fro 3)
     have HE := Hid.intro (HD.out.put ho hown)
     have HSE : Hid (NtIn g5 x0 x1 x2 x3 x4 w9) := by obtain ⟨e0, e1, e2, e3, e4⟩ := hHeld; have hq : ∀ i u, Mw.cell? ⟨g5, i, none⟩ = some u → w9.cell? ⟨g5, i, none⟩ = some u := fun i u hu => (ho.cell (o := i) (World.block_lt_of_cell? Mw _ hu) (fun e => (hnow g5 e).2 rfl)).trans hu; exact ⟨hq _ _ e0, hq _ _ e1, hq _ _ e2, hq _ _ e3, hq _ _ e4⟩
     clear HD hown ho hloc hg hnews hbase cM hne3 bM hnow
     go_simp
     refine hKK.out _ _ (HSE.out) (fun hHeld2 => ?_)
     clear hKK KK hHeld
     have hHeld := hHeld2
     clear hHeld2
     refine tkk 20 88 (v := ?_) ?_ ?_
     rotate_left 1
     ·intro w hSw
      go_simp <;> with_reducible rfl
     simp only [Act.put, List.setIfInBounds_toArray]
     try simp only [List.set_cons_succ]
     try simp only [List.set_cons_zero]
     refine wpAnyH_ready (rs := [21]) (by kernel_rfl) (by simp) ?_
     refine (AllReadyH.cons rfl (fun KK hKK => ?_) AllReadyH.nil)
     go_simp
     have HSG : Hid (NtIn g5 x0 x1 x2 x3 x4 (w9.setCell ⟨g, 3, none⟩ (.slice (some ⟨g9, 0, none⟩) (A.length + 1) cap2))) := by obtain ⟨e0, e1, e2, e3, e4⟩ := hHeld; have hq : ∀ i u, w9.cell? ⟨g5, i, none⟩ = some u → (w9.setCell ⟨g, 3, none⟩ (.slice (some ⟨g9, 0, none⟩) (A.length + 1) cap2)).cell? ⟨g5, i, none⟩ = some u := fun i u hu => (World.cell?_setCell_other _ _ _ _ (by intro e; simp at e <;> omega)).trans hu; exact ⟨hq _ _ e0, hq _ _ e1, hq _ _ e2, hq _ _ e3, hq _ _ e4⟩
     revert HSG
     generalize w9.setCell ⟨g, 3, none⟩ _ = w5 at HE ⊢
     intro HSG
     clear k6 f6
     refine hKK.out _ _ (HSG.out) (fun hHeld2 => ?_)
     clear hKK KK hHeld
     have hHeld := hHeld2
     clear hHeld2
     refine wpAnyH_done (by kernel_rfl) ?_ _
     clear hHeld
     go_wp2
     go_roundw
     case rel => exact ⟨a5, _, A ++ [⟨(x0 : Nat), (x1 : Nat), (x2 : Nat), (x3 : Nat), (x4 : Nat)⟩], by go_num, by rw [List.length_append]; go_num, by rw [List.length_append, List.length_singleton]; omega, ha5, by unfold Hid; rw [List.length_append, List.length_singleton]; exact HN2.out, HE⟩
     case measure => simp [intOf]; omega
   ·obtain rfl : A.length = n := by omega
    have hjn : ¬ (A.length : Int) < (A.length : Int) := by omega
    have HQ : Hid (notsO A.length (s.data.toList.drop a2) = some (A, s.data.toList.drop a)) := by
     unfold Hid
     rw [HN.out, Nat.sub_self]
     simp [notsO]
    clear HN
    go_wp2_with fail
    clear kn
    refine (l8Vars_any s a 1 _ hs hal (by omega) (by omega)).mono ?_
    rintro e wD ⟨⟨v6, ⟨xs, a6, rfl, HV, ha6, hl, hn6⟩ | ⟨rfl, HV⟩⟩, b⟩
    rotate_left 1
    ·have HP : Hid (outT s.data.toList = none) := by
      refine outT_none ?_
      have h6 := HV.out
      rw [varsO_one] at h6
      rw [HTS.out, HQ.out]
      simp only [cntO, Option.map_eq_none_iff.1 h6, Option.bind_some, Option.bind_none]
     have oW := HI.out.only.trans (ob_any b)
     replace X0 := Hid.intro (X0.out.only oW (by omega))
     replace X1 := Hid.intro (X1.out.only oW (by omega))
     replace B0 := B0.trans (oW.below B0.size (fun k hk e => by omega))
     clear HI HV b oW
     have r0 : wD.cell? ⟨w.heap.size, 0, none⟩ = some (.int .i64 0) := X0.out.cell 0
     have f0 : wD.frozen? ⟨w.heap.size, 0, none⟩ = false := X0.out.fro 0
     have y0 : wD.cell? ⟨w.heap.size + 1, 0, none⟩ = some (.int .i64 0) := X1.out.cell 0
     have r1 : wD.cell? ⟨w.heap.size, 1, none⟩ = some (.slice none 0 0) := X0.out.cell 1
     have f1 : wD.frozen? ⟨w.heap.size, 1, none⟩ = false := X0.out.fro 1
     have y1 : wD.cell? ⟨w.heap.size + 1, 1, none⟩ = some (.slice none 0 0) := X1.out.cell 1
     have r2 : wD.cell? ⟨w.heap.size, 2, none⟩ = some (.int .i64 0) := X0.out.cell 2
     have f2 : wD.frozen? ⟨w.heap.size, 2, none⟩ = false := X0.out.fro 2
     have y2 : wD.cell? ⟨w.heap.size + 1, 2, none⟩ = some (.int .i64 0) := X1.out.cell 2
     have r3 : wD.cell? ⟨w.heap.size, 3, none⟩ = some (.slice none 0 0) := X0.out.cell 3
     have f3 : wD.frozen? ⟨w.heap.size, 3, none⟩ = false := X0.out.fro 3
     have y3 : wD.cell? ⟨w.heap.size + 1, 3, none⟩ = some (.slice none 0 0) := X1.out.cell 3
     have r4 : wD.cell? ⟨w.heap.size, 4, none⟩ = some (.slice none 0 0) := X0.out.cell 4
     have f4 : wD.frozen? ⟨w.heap.size, 4, none⟩ = false := X0.out.fro 4
     have y4 : wD.cell? ⟨w.heap.size + 1, 4, none⟩ = some (.slice none 0 0) := X1.out.cell 4
     have o1 : Only (fun k => k = w.heap.size) wD (((((wD.setCell ⟨w.heap.size, 0, none⟩ (.int .i64 0)).setCell ⟨w.heap.size, 1, none⟩ (.slice none 0 0)).setCell ⟨w.heap.size, 2, none⟩ (.int .i64 0)).setCell ⟨w.heap.size, 3, none⟩ (.slice none 0 0)).setCell ⟨w.heap.size, 4, none⟩ (.slice none 0 0)) := (((((set_only w.heap.size 0 wD (.int .i64 0)).setCell (p := ⟨w.heap.size, 1, none⟩) rfl (.slice none 0 0)).setCell (p := ⟨w.heap.size, 2, none⟩) rfl (.int .i64 0)).setCell (p := ⟨w.heap.size, 3, none⟩) rfl (.slice none 0 0)).setCell (p := ⟨w.heap.size, 4, none⟩) rfl (.slice none 0 0))
     clear X0 X1
     go_wp2
     exact bodyPost_ret (v := .tuple #[.agg zTn, .bool false]) (by simp [results, Tryz.results10, go_sem, r0, r1, r2, r3, r4]) rfl ⟨.inr ⟨rfl, HP⟩, B0.trans (o1.below B0.size (fun k hk h => by omega))⟩
    obtain ⟨m, rfl, H6⟩ := varsO_one_yes HV.out
    replace H6 := Hid.intro H6
    obtain ⟨g6, cap6, rfl, hcap6, hg6, hlt6, hcell6⟩ := hn6
    have k6 : wD.cell? ⟨g6, 0, none⟩ = some (.int .i64 (m : Nat)) := hcell6 0 (by simp)
    simp only [List.length_cons, List.length_nil, Nat.zero_add] at hcap6 ⊢
    replace HI := Hid.intro (HI.out.kept b)
    have hg6g : g < g6 := by have := HI.out.lt; omega
    clear HV hcell6 hl b
    have q6 : (0 : Int) ≤ 0 ∧ (0 : Int) < (cap6 : Int) := by omega
    have q7 : ¬ (a6 : Int) < 0 := by omega
    by_cases hm3 : 3 < m
    ·have g3 : (3 : Int) < (m : Int) := by omega
     have HP : Hid (outT s.data.toList = none) := by
      refine outT_none ?_
      rw [HTS.out, HQ.out]
      simp only [cntO, H6.out, Option.bind_some]
      rw [if_neg (by omega)]
      rfl
     have oW := HI.out.only
     replace X0 := Hid.intro (X0.out.only oW (by omega))
     replace X1 := Hid.intro (X1.out.only oW (by omega))
     replace B0 := B0.trans (oW.below B0.size (fun k hk e => by omega))
     clear HI oW
     have r0 : wD.cell? ⟨w.heap.size, 0, none⟩ = some (.int .i64 0) := X0.out.cell 0
     have f0 : wD.frozen? ⟨w.heap.size, 0, none⟩ = false := X0.out.fro 0
     have y0 : wD.cell? ⟨w.heap.size + 1, 0, none⟩ = some (.int .i64 0) := X1.out.cell 0
     have r1 : wD.cell? ⟨w.heap.size, 1, none⟩ = some (.slice none 0 0) := X0.out.cell 1
     have f1 : wD.frozen? ⟨w.heap.size, 1, none⟩ = false := X0.out.fro 1
     have y1 : wD.cell? ⟨w.heap.size + 1, 1, none⟩ = some (.slice none 0 0) := X1.out.cell 1
     have r2 : wD.cell? ⟨w.heap.size, 2, none⟩ = some (.int .i64 0) := X0.out.cell 2
     have f2 : wD.frozen? ⟨w.heap.size, 2, none⟩ = false := X0.out.fro 2
     have y2 : wD.cell? ⟨w.heap.size + 1, 2, none⟩ = some (.int .i64 0) := X1.out.cell 2
     have r3 : wD.cell? ⟨w.heap.size, 3, none⟩ = some (.slice none 0 0) := X0.out.cell 3
     have f3 : wD.frozen? ⟨w.heap.size, 3, none⟩ = false := X0.out.fro 3
     have y3 : wD.cell? ⟨w.heap.size + 1, 3, none⟩ = some (.slice none 0 0) := X1.out.cell 3
     have r4 : wD.cell? ⟨w.heap.size, 4, none⟩ = some (.slice none 0 0) := X0.out.cell 4
     have f4 : wD.frozen? ⟨w.heap.size, 4, none⟩ = false := X0.out.fro 4
     have y4 : wD.cell? ⟨w.heap.size + 1, 4, none⟩ = some (.slice none 0 0) := X1.out.cell 4
     have o1 : Only (fun k => k = w.heap.size) wD (((((wD.setCell ⟨w.heap.size, 0, none⟩ (.int .i64 0)).setCell ⟨w.heap.size, 1, none⟩ (.slice none 0 0)).setCell ⟨w.heap.size, 2, none⟩ (.int .i64 0)).setCell ⟨w.heap.size, 3, none⟩ (.slice none 0 0)).setCell ⟨w.heap.size, 4, none⟩ (.slice none 0 0)) := (((((set_only w.heap.size 0 wD (.int .i64 0)).setCell (p := ⟨w.heap.size, 1, none⟩) rfl (.slice none 0 0)).setCell (p := ⟨w.heap.size, 2, none⟩) rfl (.int .i64 0)).setCell (p := ⟨w.heap.size, 3, none⟩) rfl (.slice none 0 0)).setCell (p := ⟨w.heap.size, 4, none⟩) rfl (.slice none 0 0))
     clear X0 X1
     go_wp2
     exact bodyPost_ret (v := .tuple #[.agg zTn, .bool false]) (by simp [results, Tryz.results10, go_sem, r0, r1, r2, r3, r4]) rfl ⟨.inr ⟨rfl, HP⟩, B0.trans (o1.below B0.size (fun k hk h => by omega))⟩
    ·have g3 : ¬ (3 : Int) < (m : Int) := by omega
     have HTS2 : Hid (tenS s.data.toList = (sessS m (s.data.toList.drop a6)).bind fun s => some (((nx : Int), M.map Np.n, (tk : Int), A, s.1), s.2)) := by
      unfold Hid
      rw [HTS.out, HQ.out]
      simp only [cntO, H6.out, Option.bind_some]
      rw [if_pos (by omega), Option.bind_some]
     obtain ⟨aa, ac, rfl⟩ := HI.out.aud.slice
     have HAU : Hid (Own ntE 55 wD wc.heap.size (.slice aa A.length ac) A) := HI.out.aud
     have oWD := HI.out.only
     have hgc := HI.out.lt
     replace X0 := Hid.intro (X0.out.only oWD (by omega))
     replace X1 := Hid.intro (X1.out.only oWD (by omega))
     replace B0 := B0.trans (oWD.below B0.size (fun k hk e => by omega))
     replace HBG := Hid.intro (HBG.out.trans (oWD.below (Nat.le_of_lt hgc) (fun k hk e => by omega)))
     have hgcD := hgc
     have hwcD : wc.heap.size ≤ wD.heap.size := oWD.size
     have HI2 : Hid (TsS wD g (nx : Nat) (tk : Nat) (.slice ua M.length uc) (.slice aa A.length ac) wD (.slice none 0 0) []) := ⟨HI.out.box, Own.nil _ _, Only.refl _ _, by omega⟩
     have HK6 := Hid.intro k6
     clear HTS HQ H6 HI oWD HK hg44 hgc
     go_wp2_with fail
     clear k6
     go_loopw [6, 15] (fun x i wr => ∃ (a : Nat) (vs : Value) (S : List Se), x = .int .i64 (a : Nat) ∧ i = .int .i64 (S.length : Nat) ∧ S.length ≤ m ∧ a ≤ s.size ∧ (∀ e ∈ S, e.r.d.size ≤ 400) ∧ Hid (sessS m (s.data.toList.drop a6) = (sessS (m - S.length) (s.data.toList.drop a)).map fun y => (S ++ y.1, y.2)) ∧ Hid (TsS wD g (nx : Nat) (tk : Nat) (.slice ua M.length uc) (.slice aa A.length ac) wr vs S)) (fun _ i _ => m - (intOf i).toNat)
     case atStart => exact ⟨a6, _, [], rfl, rfl, Nat.zero_le _, ha6, (fun e he => by cases he), by unfold Hid; simp, HI2⟩
     case round =>
      clear HI2
      obtain ⟨a, v, S, rfl, rfl, hj, hal, hS4, HN, HI⟩ := hrel
      have HS4 := Hid.intro hS4
      clear hS4
      have kn := (HI.out.only.cell (o := 0) hlt6 (by omega)).trans HK6.out
      have hwD : wD.heap.size ≤ wr.heap.size := HI.out.only.size
      by_cases hlt : S.length < m
      ·have hjn : (S.length : Int) < (m : Int) := by omega
       obtain ⟨va, vc, rfl⟩ := HI.out.ses.slice
       go_wp2_with fail
       clear kn
       refine (l8Vars_any s a 3 _ hs hal (by omega) (by omega)).mono ?_
       rintro e x7 ⟨⟨v5, ⟨xs, a5, rfl, HV, ha5, hl, hn5⟩ | ⟨rfl, HV⟩⟩, b⟩
       rotate_left 1
       ·have HP : Hid (outT s.data.toList = none) := by
         refine outT_none ?_
         rw [HTS2.out, HN.out, sessS_no (by omega) (ses_no_vars HV.out)]
         rfl
        clear HV
        replace HI := Hid.intro (HI.out.kept b)
        clear b
        go_wp2_with fail
        refine (l8Take_none s _).mono ?_
        rintro e x8 ⟨rfl, b⟩
        replace HI := Hid.intro (HI.out.kept b)
        clear b
        go_wp2_with fail
        refine (specReadResult_nil _).mono ?_
        rintro e x9 ⟨rfl, b⟩
        replace HI := Hid.intro (HI.out.kept b)
        clear b
        go_upto_region 25 with fail
        obtain ⟨xA, hY, bY, zY, cY, fY⟩ := boxed x9 #[.int .i64 0, .string ⟨#[]⟩] 57
        try simp only [hY]
        clear hY cY fY zY
        have oW := HI.out.only
        replace oW := oW.trans (ob_any bY)
        replace X0 := Hid.intro (X0.out.only oW (by omega))
        replace X1 := Hid.intro (X1.out.only oW (by omega))
        replace B0 := B0.trans (oW.below B0.size (fun k hk e => by omega))
        clear HI oW bY
        have r0 : xA.cell? ⟨w.heap.size, 0, none⟩ = some (.int .i64 0) := X0.out.cell 0
        have f0 : xA.frozen? ⟨w.heap.size, 0, none⟩ = false := X0.out.fro 0
        have y0 : xA.cell? ⟨w.heap.size + 1, 0, none⟩ = some (.int .i64 0) := X1.out.cell 0
        have r1 : xA.cell? ⟨w.heap.size, 1, none⟩ = some (.slice none 0 0) := X0.out.cell 1
        have f1 : xA.frozen? ⟨w.heap.size, 1, none⟩ = false := X0.out.fro 1
        have y1 : xA.cell? ⟨w.heap.size + 1, 1, none⟩ = some (.slice none 0 0) := X1.out.cell 1
        have r2 : xA.cell? ⟨w.heap.size, 2, none⟩ = some (.int .i64 0) := X0.out.cell 2
        have f2 : xA.frozen? ⟨w.heap.size, 2, none⟩ = false := X0.out.fro 2
        have y2 : xA.cell? ⟨w.heap.size + 1, 2, none⟩ = some (.int .i64 0) := X1.out.cell 2
        have r3 : xA.cell? ⟨w.heap.size, 3, none⟩ = some (.slice none 0 0) := X0.out.cell 3
        have f3 : xA.frozen? ⟨w.heap.size, 3, none⟩ = false := X0.out.fro 3
        have y3 : xA.cell? ⟨w.heap.size + 1, 3, none⟩ = some (.slice none 0 0) := X1.out.cell 3
        have r4 : xA.cell? ⟨w.heap.size, 4, none⟩ = some (.slice none 0 0) := X0.out.cell 4
        have f4 : xA.frozen? ⟨w.heap.size, 4, none⟩ = false := X0.out.fro 4
        have y4 : xA.cell? ⟨w.heap.size + 1, 4, none⟩ = some (.slice none 0 0) := X1.out.cell 4
        have o1 : Only (fun k => k = w.heap.size) xA (((((xA.setCell ⟨w.heap.size, 0, none⟩ (.int .i64 0)).setCell ⟨w.heap.size, 1, none⟩ (.slice none 0 0)).setCell ⟨w.heap.size, 2, none⟩ (.int .i64 0)).setCell ⟨w.heap.size, 3, none⟩ (.slice none 0 0)).setCell ⟨w.heap.size, 4, none⟩ (.slice none 0 0)) := (((((set_only w.heap.size 0 xA (.int .i64 0)).setCell (p := ⟨w.heap.size, 1, none⟩) rfl (.slice none 0 0)).setCell (p := ⟨w.heap.size, 2, none⟩) rfl (.int .i64 0)).setCell (p := ⟨w.heap.size, 3, none⟩) rfl (.slice none 0 0)).setCell (p := ⟨w.heap.size, 4, none⟩) rfl (.slice none 0 0))
        clear X0 X1
        go_wp2
        exact bodyPost_ret (v := .tuple #[.agg zTn, .bool false]) (by simp [results, Tryz.results10, go_sem, r0, r1, r2, r3, r4]) rfl ⟨.inr ⟨rfl, HP⟩, B0.trans (o1.below B0.size (fun k hk h => by omega))⟩
       obtain ⟨x0, x1, x2, r1, r2, rfl, hx0, hx1, hx2⟩ := three_of_vars HV.out
       have HX : Hid (numO (s.data.toList.drop a) = some (x0, r1) ∧ numO r1 = some (x1, r2) ∧ numO r2 = some (x2, s.data.toList.drop a5)) := ⟨hx0, hx1, hx2⟩
       obtain ⟨g5, cap5, rfl, hcap5, hg5, hlt5, hcell5⟩ := hn5
       simp only [List.length_cons, List.length_nil, Nat.zero_add, Nat.reduceAdd] at hcap5 ⊢
       have HC5 : Hid (x7.cell? ⟨g5, 0, none⟩ = some (.int .i64 (x0 : Nat)) ∧ x7.cell? ⟨g5, 1, none⟩ = some (.int .i64 (x1 : Nat)) ∧ x7.cell? ⟨g5, 2, none⟩ = some (.int .i64 (x2 : Nat))) := ⟨hcell5 0 (by simp), hcell5 1 (by simp), hcell5 2 (by simp)⟩
       have hg5v : ¬ (Value.slice va S.length vc).ownBlock = some g5 := fun h => by have := (HI.out.ses.lt g5 h).2; omega
       have hg5g : ¬ g5 = g := by have := HI.out.box.hi; omega
       have hg5g' : ¬ g = g5 := fun h => hg5g h.symm
       have hwx : wr.heap.size ≤ x7.heap.size := b.size
       replace HI := Hid.intro (HI.out.kept b)
       clear HV hcell5 hl b hx0 hx1 hx2
       go_wp2_with fail
       refine (l8Take_any s a5 _ hs ha5).mono ?_
       rintro e x8 ⟨⟨p7, a8, rfl, HPI, ha8⟩ | ⟨rfl, HPI⟩, b⟩
       rotate_left 1
       ·have HP : Hid (outT s.data.toList = none) := by
         refine outT_none ?_
         rw [HTS2.out, HN.out, sessS_no (by omega) (by unfold sesS; simp only [HX.out.1, HX.out.2.1, HX.out.2.2, HPI.out, Option.bind_some, Option.bind_none])]
         rfl
        replace HI := Hid.intro (HI.out.kept b)
        clear b HC5
        go_wp2_with fail
        refine (specReadResult_nil _).mono ?_
        rintro e x9 ⟨rfl, b⟩
        replace HI := Hid.intro (HI.out.kept b)
        clear b
        go_upto_region 25 with fail
        obtain ⟨xA, hY, bY, zY, cY, fY⟩ := boxed x9 #[.int .i64 0, .string ⟨#[]⟩] 57
        try simp only [hY]
        clear hY cY fY zY
        have oW := HI.out.only
        replace oW := oW.trans (ob_any bY)
        replace X0 := Hid.intro (X0.out.only oW (by omega))
        replace X1 := Hid.intro (X1.out.only oW (by omega))
        replace B0 := B0.trans (oW.below B0.size (fun k hk e => by omega))
        clear HI oW bY
        have r0 : xA.cell? ⟨w.heap.size, 0, none⟩ = some (.int .i64 0) := X0.out.cell 0
        have f0 : xA.frozen? ⟨w.heap.size, 0, none⟩ = false := X0.out.fro 0
        have y0 : xA.cell? ⟨w.heap.size + 1, 0, none⟩ = some (.int .i64 0) := X1.out.cell 0
        have r1 : xA.cell? ⟨w.heap.size, 1, none⟩ = some (.slice none 0 0) := X0.out.cell 1
        have f1 : xA.frozen? ⟨w.heap.size, 1, none⟩ = false := X0.out.fro 1
        have y1 : xA.cell? ⟨w.heap.size + 1, 1, none⟩ = some (.slice none 0 0) := X1.out.cell 1
        have r2 : xA.cell? ⟨w.heap.size, 2, none⟩ = some (.int .i64 0) := X0.out.cell 2
        have f2 : xA.frozen? ⟨w.heap.size, 2, none⟩ = false := X0.out.fro 2
        have y2 : xA.cell? ⟨w.heap.size + 1, 2, none⟩ = some (.int .i64 0) := X1.out.cell 2
        have r3 : xA.cell? ⟨w.heap.size, 3, none⟩ = some (.slice none 0 0) := X0.out.cell 3
        have f3 : xA.frozen? ⟨w.heap.size, 3, none⟩ = false := X0.out.fro 3
        have y3 : xA.cell? ⟨w.heap.size + 1, 3, none⟩ = some (.slice none 0 0) := X1.out.cell 3
        have r4 : xA.cell? ⟨w.heap.size, 4, none⟩ = some (.slice none 0 0) := X0.out.cell 4
        have f4 : xA.frozen? ⟨w.heap.size, 4, none⟩ = false := X0.out.fro 4
        have y4 : xA.cell? ⟨w.heap.size + 1, 4, none⟩ = some (.slice none 0 0) := X1.out.cell 4
        have o1 : Only (fun k => k = w.heap.size) xA (((((xA.setCell ⟨w.heap.size, 0, none⟩ (.int .i64 0)).setCell ⟨w.heap.size, 1, none⟩ (.slice none 0 0)).setCell ⟨w.heap.size, 2, none⟩ (.int .i64 0)).setCell ⟨w.heap.size, 3, none⟩ (.slice none 0 0)).setCell ⟨w.heap.size, 4, none⟩ (.slice none 0 0)) := (((((set_only w.heap.size 0 xA (.int .i64 0)).setCell (p := ⟨w.heap.size, 1, none⟩) rfl (.slice none 0 0)).setCell (p := ⟨w.heap.size, 2, none⟩) rfl (.int .i64 0)).setCell (p := ⟨w.heap.size, 3, none⟩) rfl (.slice none 0 0)).setCell (p := ⟨w.heap.size, 4, none⟩) rfl (.slice none 0 0))
        clear X0 X1
        go_wp2
        exact bodyPost_ret (v := .tuple #[.agg zTn, .bool false]) (by simp [results, Tryz.results10, go_sem, r0, r1, r2, r3, r4]) rfl ⟨.inr ⟨rfl, HP⟩, B0.trans (o1.below B0.size (fun k hk h => by omega))⟩
       have hp7 : p7.size ≤ 1048576 := by
        have := pie_wf HPI.out
        simp only [List.length_drop, Array.length_toList] at this
        have h2 : p7.data.size = p7.size := rfl
        have h3 : s.data.size = s.size := rfl
        omega
       replace HI := Hid.intro (HI.out.kept b)
       have hwx8 : x7.heap.size ≤ x8.heap.size := b.size
       replace HC5 := Hid.intro (And.intro (atCell b HC5.out.1 hlt5) (And.intro (atCell b HC5.out.2.1 hlt5) (atCell b HC5.out.2.2 hlt5)))
       clear b
       go_wp2_with fail
       refine (specReadResult_any p7 _ hp7).mono ?_
       rintro e y9 ⟨rfl, b⟩
       replace HI := Hid.intro (HI.out.kept b)
       have hwx9 : x8.heap.size ≤ y9.heap.size := b.size
       replace HC5 := Hid.intro (And.intro (atCell b HC5.out.1 (by omega)) (And.intro (atCell b HC5.out.2.1 (by omega)) (atCell b HC5.out.2.2 (by omega))))
       clear b
       have i5 : ¬ (a8 : Int) < 0 := by omega
       cases hor : outR p7.data.toList with
       | none =>
        have HP : Hid (outT s.data.toList = none) := by
         refine outT_none ?_
         rw [HTS2.out, HN.out, sessS_no (by omega) (by unfold sesS; simp only [HX.out.1, HX.out.2.1, HX.out.2.2, HPI.out, hor, Option.bind_some, Option.bind_none])]
         rfl
        clear HC5
        go_upto_region 25 with fail
        obtain ⟨xA, hY, bY, zY, cY, fY⟩ := boxed y9 #[.int .i64 reZ.c, .string reZ.d] 57
        try simp only [hY]
        clear hY cY fY zY
        have oW := HI.out.only
        replace oW := oW.trans (ob_any bY)
        replace X0 := Hid.intro (X0.out.only oW (by omega))
        replace X1 := Hid.intro (X1.out.only oW (by omega))
        replace B0 := B0.trans (oW.below B0.size (fun k hk e => by omega))
        clear HI oW bY
        have r0 : xA.cell? ⟨w.heap.size, 0, none⟩ = some (.int .i64 0) := X0.out.cell 0
        have f0 : xA.frozen? ⟨w.heap.size, 0, none⟩ = false := X0.out.fro 0
        have y0 : xA.cell? ⟨w.heap.size + 1, 0, none⟩ = some (.int .i64 0) := X1.out.cell 0
        have r1 : xA.cell? ⟨w.heap.size, 1, none⟩ = some (.slice none 0 0) := X0.out.cell 1
        have f1 : xA.frozen? ⟨w.heap.size, 1, none⟩ = false := X0.out.fro 1
        have y1 : xA.cell? ⟨w.heap.size + 1, 1, none⟩ = some (.slice none 0 0) := X1.out.cell 1
        have r2 : xA.cell? ⟨w.heap.size, 2, none⟩ = some (.int .i64 0) := X0.out.cell 2
        have f2 : xA.frozen? ⟨w.heap.size, 2, none⟩ = false := X0.out.fro 2
        have y2 : xA.cell? ⟨w.heap.size + 1, 2, none⟩ = some (.int .i64 0) := X1.out.cell 2
        have r3 : xA.cell? ⟨w.heap.size, 3, none⟩ = some (.slice none 0 0) := X0.out.cell 3
        have f3 : xA.frozen? ⟨w.heap.size, 3, none⟩ = false := X0.out.fro 3
        have y3 : xA.cell? ⟨w.heap.size + 1, 3, none⟩ = some (.slice none 0 0) := X1.out.cell 3
        have r4 : xA.cell? ⟨w.heap.size, 4, none⟩ = some (.slice none 0 0) := X0.out.cell 4
        have f4 : xA.frozen? ⟨w.heap.size, 4, none⟩ = false := X0.out.fro 4
        have y4 : xA.cell? ⟨w.heap.size + 1, 4, none⟩ = some (.slice none 0 0) := X1.out.cell 4
        have o1 : Only (fun k => k = w.heap.size) xA (((((xA.setCell ⟨w.heap.size, 0, none⟩ (.int .i64 0)).setCell ⟨w.heap.size, 1, none⟩ (.slice none 0 0)).setCell ⟨w.heap.size, 2, none⟩ (.int .i64 0)).setCell ⟨w.heap.size, 3, none⟩ (.slice none 0 0)).setCell ⟨w.heap.size, 4, none⟩ (.slice none 0 0)) := (((((set_only w.heap.size 0 xA (.int .i64 0)).setCell (p := ⟨w.heap.size, 1, none⟩) rfl (.slice none 0 0)).setCell (p := ⟨w.heap.size, 2, none⟩) rfl (.int .i64 0)).setCell (p := ⟨w.heap.size, 3, none⟩) rfl (.slice none 0 0)).setCell (p := ⟨w.heap.size, 4, none⟩) rfl (.slice none 0 0))
        clear X0 X1
        go_wp2
        exact bodyPost_ret (v := .tuple #[.agg zTn, .bool false]) (by simp [results, Tryz.results10, go_sem, r0, r1, r2, r3, r4]) rfl ⟨.inr ⟨rfl, HP⟩, B0.trans (o1.below B0.size (fun k hk h => by omega))⟩
       | some rr =>
        have hrp := (outR_out hor).elim (fun _ h => h.elim (fun _ h => h.2.2))
        have HT : Hid (sesS (s.data.toList.drop a) = some (⟨(x0 : Nat), (x1 : Nat), (x2 : Nat), rr⟩, s.data.toList.drop a8)) := by
         unfold Hid sesS
         simp only [HX.out.1, HX.out.2.1, HX.out.2.2, HPI.out, hor, Option.bind_some]
        have HN2 : Hid (sessS m (s.data.toList.drop a6) = (sessS (m - (S.length + 1)) (s.data.toList.drop a8)).map fun y => ((S ++ [(⟨(x0 : Nat), (x1 : Nat), (x2 : Nat), rr⟩ : Se)]) ++ y.1, y.2)) := by
         unfold Hid
         rw [HN.out, sessS_yes (by omega) HT.out, Nat.sub_sub]
         cases sessS (m - (S.length + 1)) (s.data.toList.drop a8) <;> simp
        have HSX : Hid (∀ e ∈ S ++ [(⟨(x0 : Nat), (x1 : Nat), (x2 : Nat), rr⟩ : Se)], e.r.d.size ≤ 400) := fun e he => by
         rcases List.mem_append.1 he with he | he
         ·exact HS4.out e he
         ·obtain rfl : e = ⟨(x0 : Nat), (x1 : Nat), (x2 : Nat), rr⟩ := by simpa using he
          exact hrp.2
        clear hrp hor HX HPI HT HN
        go_upto_region 25 with fail
        obtain ⟨x9, hY, bY, zY, cY, fY⟩ := boxed y9 #[.int .i64 rr.c, .string rr.d] 57
        try simp only [hY]
        replace HC5 := Hid.intro (And.intro (atCell bY HC5.out.1 (by omega)) (And.intro (atCell bY HC5.out.2.1 (by omega)) (atCell bY HC5.out.2.2 (by omega))))
        have hgrv : ¬ (Value.slice va S.length vc).ownBlock = some y9.heap.size := fun h => by have := (HI.out.ses.lt _ h).2; omega
        have hgrg : ¬ y9.heap.size = g := by have := HI.out.box.hi; omega
        have hgrg' : ¬ g = y9.heap.size := fun h => hgrg h.symm
        replace HI := Hid.intro (HI.out.kept bY)
        have hltr : y9.heap.size < x9.heap.size := by omega
        have HSF0 : Hid (∀ y, Below x9.heap.size x9 y → SeIn3 g5 x0 x1 x2 y9.heap.size rr y) := fun y hy => ⟨atCell hy HC5.out.1 (by omega), atCell hy HC5.out.2.1 (by omega), atCell hy HC5.out.2.2 (by omega), atCell hy (cY 0) hltr, atCell hy (cY 1) hltr⟩
        clear hY cY fY zY bY HC5
        generalize y9.heap.size = gr at HSF0 hgrv hgrg hgrg' ⊢
        have HSF := HSF0
        clear HSF0 hltr
        have i0 : (0 : Int) ≤ 0 ∧ (0 : Int) < (cap5 : Int) := by omega
        have i1 : (0 : Int) ≤ 1 ∧ (1 : Int) < (cap5 : Int) := by omega
        have i2 : (0 : Int) ≤ 2 ∧ (2 : Int) < (cap5 : Int) := by omega
        clear hcap5 hg5
        go_upto_region 27 with fail
        refine wp_region_held_drew (S := SeIn3 g5 x0 x1 x2 gr rr) (by kernel_rfl) (HSF.out _ (Below.refl _ _).drew) (fun hHeld => ?_)
        have BD : Hid (Below x9.heap.size x9 x9.drew) := (Below.refl _ _).drew
        have HD := Hid.intro (HI.out.kept (w2 := x9.drew) (Below.refl _ _).drew)
        clear HI
        generalize x9.drew = D at HD BD hHeld ⊢
        refine tkk 0 136 (v := ?_) ?_ ?_
        rotate_left 1
        ·intro w hSw
         obtain ⟨q0, q1, q2, q3, q4⟩ := hSw
         go_simp <;> with_reducible rfl
        simp only [Act.put, List.setIfInBounds_toArray]
        dsimp only [List.set_cons_succ, List.set_cons_zero]
        refine tkk 2 138 (v := ?_) ?_ ?_
        rotate_left 1
        ·intro w hSw
         obtain ⟨q0, q1, q2, q3, q4⟩ := hSw
         go_simp <;> with_reducible rfl
        simp only [Act.put, List.setIfInBounds_toArray]
        dsimp only [List.set_cons_succ, List.set_cons_zero]
        refine tkk 3 139 (v := ?_) ?_ ?_
        rotate_left 1
        ·intro w hSw
         obtain ⟨q0, q1, q2, q3, q4⟩ := hSw
         go_simp <;> with_reducible rfl
        simp only [Act.put, List.setIfInBounds_toArray]
        dsimp only [List.set_cons_succ, List.set_cons_zero]
        refine tkk 4 140 (v := ?_) ?_ ?_
        rotate_left 1
        ·intro w hSw
         obtain ⟨q0, q1, q2, q3, q4⟩ := hSw
         go_simp <;> with_reducible rfl
        simp only [Act.put, List.setIfInBounds_toArray]
        dsimp only [List.set_cons_succ, List.set_cons_zero]
        refine tkk 5 141 (v := ?_) ?_ ?_
        rotate_left 1
        ·intro w hSw
         obtain ⟨q0, q1, q2, q3, q4⟩ := hSw
         go_simp <;> with_reducible rfl
        simp only [Act.put, List.setIfInBounds_toArray]
        dsimp only [List.set_cons_succ, List.set_cons_zero]
        refine tkk 6 142 (v := ?_) ?_ ?_
        rotate_left 1
        ·intro w hSw
         obtain ⟨q0, q1, q2, q3, q4⟩ := hSw
         go_simp <;> with_reducible rfl
        simp only [Act.put, List.setIfInBounds_toArray]
        dsimp only [List.set_cons_succ, List.set_cons_zero]
        refine tkk 7 143 (v := ?_) ?_ ?_
        rotate_left 1
        ·intro w hSw
         obtain ⟨q0, q1, q2, q3, q4⟩ := hSw
         go_simp <;> with_reducible rfl
        simp only [Act.put, List.setIfInBounds_toArray]
        dsimp only [List.set_cons_succ, List.set_cons_zero]
        refine tkk 8 144 (v := ?_) ?_ ?_
        rotate_left 1
        ·intro w hSw
         obtain ⟨q0, q1, q2, q3, q4⟩ := hSw
         go_simp <;> with_reducible rfl
        simp only [Act.put, List.setIfInBounds_toArray]
        dsimp only [List.set_cons_succ, List.set_cons_zero]
        refine tkk 9 145 (v := ?_) ?_ ?_
        rotate_left 1
        ·intro w hSw
         obtain ⟨q0, q1, q2, q3, q4⟩ := hSw
         go_simp <;> with_reducible rfl
        simp only [Act.put, List.setIfInBounds_toArray]
        dsimp only [List.set_cons_succ, List.set_cons_zero]
        refine tkk 10 146 (v := ?_) ?_ ?_
        rotate_left 1
        ·intro w hSw
         obtain ⟨q0, q1, q2, q3, q4⟩ := hSw
         go_simp <;> with_reducible rfl
        simp only [Act.put, List.setIfInBounds_toArray]
        dsimp only [List.set_cons_succ, List.set_cons_zero]
        refine tkk 11 147 (v := ?_) ?_ ?_
        rotate_left 1
        ·intro w hSw
         obtain ⟨q0, q1, q2, q3, q4⟩ := hSw
         go_simp <;> with_reducible rfl
        simp only [Act.put, List.setIfInBounds_toArray]
        dsimp only [List.set_cons_succ, List.set_cons_zero]
        refine tkk 12 148 (v := ?_) ?_ ?_
        rotate_left 1
        ·intro w hSw
         obtain ⟨q0, q1, q2, q3, q4⟩ := hSw
         go_simp <;> with_reducible rfl
        simp only [Act.put, List.setIfInBounds_toArray]
        dsimp only [List.set_cons_succ, List.set_cons_zero]
        refine wpAnyH_ready (rs := [1, 13]) (by kernel_rfl) (by simp) ?_
        refine (AllReadyH.cons rfl (fun KK hKK => ?_) (AllReadyH.cons rfl (fun KK hKK => ?_) AllReadyH.nil))
        ·skip
         have k6 : D.cell? ⟨g, 4, none⟩ = some (.slice va S.length vc) := HD.out.box.cell 4
         go_simp
         refine hKK.out _ _ (HSF.out _ BD.out) (fun hHeld2 => ?_)
         clear hKK KK hHeld
         have hHeld := hHeld2
         clear hHeld2
         clear k6
         refine wpAnyH_ready (rs := [13]) (by kernel_rfl) (by simp) ?_
         refine (AllReadyH.cons rfl (fun KK hKK => ?_) AllReadyH.nil)
         go_simp
         have bM : Below D.heap.size D (D.alloc (.cells #[.int .i64 (x0 : Nat), .int .i64 (x1 : Nat), .int .i64 (x2 : Nat), .int .i64 rr.c, .string rr.d] 61)) := one_below _ _
         have cM : ∀ o, (D.alloc (.cells #[.int .i64 (x0 : Nat), .int .i64 (x1 : Nat), .int .i64 (x2 : Nat), .int .i64 rr.c, .string rr.d] 61)).cell? ⟨D.heap.size, o, none⟩ = (#[.int .i64 (x0 : Nat), .int .i64 (x1 : Nat), .int .i64 (x2 : Nat), .int .i64 rr.c, .string rr.d] : Array Value)[o]? := fun o => World.cell?_alloc_at _ _ _ _ rfl
         replace HD := Hid.intro (HD.out.kept bM)
         replace BD := Hid.intro (BD.out.trans (bM.mono BD.out.size))
         revert HD cM BD
         generalize D.alloc (.cells #[.int .i64 (x0 : Nat), .int .i64 (x1 : Nat), .int .i64 (x2 : Nat), .int .i64 rr.c, .string rr.d] 61) = Mw at bM
         generalize D.heap.size = sb
         intro cM HD BD
         refine hKK.out _ _ (HSF.out _ BD.out) (fun hHeld2 => ?_)
         clear hKK KK hHeld
         have hHeld := hHeld2
         clear hHeld2
         refine wpAnyH_ready (rs := [14]) (by kernel_rfl) (by simp) ?_
         refine (AllReadyH.cons rfl (fun KK hKK => ?_) AllReadyH.nil)
         have hnews : ∀ j u, (seE.f [⟨(x0 : Nat), (x1 : Nat), (x2 : Nat), rr⟩])[j]? = some u → Mw.cell? ((⟨sb, 0, none⟩ : Addr).add j) = some u := fun j u hj => by
          rw [add_none, Nat.zero_add, cM]
          simpa [seE, Enc.f] using hj
         have hbase : wD.heap.size ≤ Mw.heap.size := HD.out.only.size
         refine step_Se rfl _ _ rfl wD.heap.size (.slice va S.length vc) S ⟨(x0 : Nat), (x1 : Nat), (x2 : Nat), rr⟩ rfl HD.out.ses ⟨sb, 0, none⟩ 1 rfl hnews (by omega) hbase ?_
         intro g9 cap2 w9 hown ho hloc hg
         have hnow : ∀ k, some k = (Value.slice va S.length vc).ownBlock → wD.heap.size ≤ k ∧ k ≠ g5 := fun k e => ⟨(HD.out.ses.lt k e.symm).1, fun h => by subst h; exact hg5v e.symm⟩
         have hne3 : ¬ some g = (Value.slice va S.length vc).ownBlock := fun e => by have := (hnow g e).1; have := HD.out.lt; omega
         have k6 : w9.cell? ⟨g, 4, none⟩ = some (.slice va S.length vc) := (ho.cell (o := 4) HD.out.box.hi hne3).trans (HD.out.box.cell 4)
         have f6 := (ho.frozen (o := 4) HD.out.box.hi hne3).trans (HD.out.box.fro 4)
         have HE := Hid.intro (HD.out.put ho hown)
         have HSE : Hid (SeIn3 g5 x0 x1 x2 gr rr w9) := by obtain ⟨e0, e1, e2, e3, e4⟩ := hHeld; have hq : ∀ i u, Mw.cell? ⟨g5, i, none⟩ = some u → w9.cell? ⟨g5, i, none⟩ = some u := fun i u hu => (ho.cell (o := i) (World.block_lt_of_cell? Mw _ hu) (fun e => (hnow g5 e).2 rfl)).trans hu; have hq2 : ∀ i u, Mw.cell? ⟨gr, i, none⟩ = some u → w9.cell? ⟨gr, i, none⟩ = some u := fun i u hu => (ho.cell (o := i) (World.block_lt_of_cell? Mw _ hu) (fun e => hgrv e.symm)).trans hu; exact ⟨hq _ _ e0, hq _ _ e1, hq _ _ e2, hq2 _ _ e3, hq2 _ _ e4⟩
         clear HD hown ho hloc hg hnews hbase cM hne3 bM hnow
         go_simp
         refine hKK.out _ _ (HSE.out) (fun hHeld2 => ?_)
         clear hKK KK hHeld
         have hHeld := hHeld2
         clear hHeld2
         refine tkk 15 151 (v := ?_) ?_ ?_
         rotate_left 1
         ·intro w hSw
          go_simp <;> with_reducible rfl
         simp only [Act.put, List.setIfInBounds_toArray]
         try simp only [List.set_cons_succ]
         try simp only [List.set_cons_zero]
         refine wpAnyH_ready (rs := [16]) (by kernel_rfl) (by simp) ?_
         refine (AllReadyH.cons rfl (fun KK hKK => ?_) AllReadyH.nil)
         go_simp
         have HSG : Hid (SeIn3 g5 x0 x1 x2 gr rr (w9.setCell ⟨g, 4, none⟩ (.slice (some ⟨g9, 0, none⟩) (S.length + 1) cap2))) := by obtain ⟨e0, e1, e2, e3, e4⟩ := hHeld; have hq : ∀ i u, w9.cell? ⟨g5, i, none⟩ = some u → (w9.setCell ⟨g, 4, none⟩ (.slice (some ⟨g9, 0, none⟩) (S.length + 1) cap2)).cell? ⟨g5, i, none⟩ = some u := fun i u hu => (World.cell?_setCell_other _ _ _ _ (by intro e; simp at e <;> omega)).trans hu; have hq2 : ∀ i u, w9.cell? ⟨gr, i, none⟩ = some u → (w9.setCell ⟨g, 4, none⟩ (.slice (some ⟨g9, 0, none⟩) (S.length + 1) cap2)).cell? ⟨gr, i, none⟩ = some u := fun i u hu => (World.cell?_setCell_other _ _ _ _ (by intro e; simp at e <;> omega)).trans hu; exact ⟨hq _ _ e0, hq _ _ e1, hq _ _ e2, hq2 _ _ e3, hq2 _ _ e4⟩
         revert HSG
         generalize w9.setCell ⟨g, 4, none⟩ _ = w5 at HE ⊢
         intro HSG
         clear k6 f6
         refine hKK.out _ _ (HSG.out) (fun hHeld2 => ?_)
         clear hKK KK hHeld
         have hHeld := hHeld2
         clear hHeld2
         refine wpAnyH_done (by kernel_rfl) ?_ _
         clear hHeld
         go_wp2
         go_roundw
         case rel => exact ⟨a8, _, S ++ [⟨(x0 : Nat), (x1 : Nat), (x2 : Nat), rr⟩], by go_num, by rw [List.length_append]; go_num, by rw [List.length_append, List.length_singleton]; omega, ha8, HSX.out, by unfold Hid; rw [List.length_append, List.length_singleton]; exact HN2.out, HE⟩
         case measure => simp [intOf]; omega
        ·skip
         go_simp
         have bM : Below D.heap.size D (D.alloc (.cells #[.int .i64 (x0 : Nat), .int .i64 (x1 : Nat), .int .i64 (x2 : Nat), .int .i64 rr.c, .string rr.d] 61)) := one_below _ _
         have cM : ∀ o, (D.alloc (.cells #[.int .i64 (x0 : Nat), .int .i64 (x1 : Nat), .int .i64 (x2 : Nat), .int .i64 rr.c, .string rr.d] 61)).cell? ⟨D.heap.size, o, none⟩ = (#[.int .i64 (x0 : Nat), .int .i64 (x1 : Nat), .int .i64 (x2 : Nat), .int .i64 rr.c, .string rr.d] : Array Value)[o]? := fun o => World.cell?_alloc_at _ _ _ _ rfl
         replace HD := Hid.intro (HD.out.kept bM)
         replace BD := Hid.intro (BD.out.trans (bM.mono BD.out.size))
         revert HD cM BD
         generalize D.alloc (.cells #[.int .i64 (x0 : Nat), .int .i64 (x1 : Nat), .int .i64 (x2 : Nat), .int .i64 rr.c, .string rr.d] 61) = Mw at bM
         generalize D.heap.size = sb
         intro cM HD BD
         refine hKK.out _ _ (HSF.out _ BD.out) (fun hHeld2 => ?_)
         clear hKK KK hHeld
         have hHeld := hHeld2
         clear hHeld2
         refine wpAnyH_ready (rs := [1]) (by kernel_rfl) (by simp) ?_
         refine (AllReadyH.cons rfl (fun KK hKK => ?_) AllReadyH.nil)
         have k6 : Mw.cell? ⟨g, 4, none⟩ = some (.slice va S.length vc) := HD.out.box.cell 4
         go_simp
         refine hKK.out _ _ (HSF.out _ BD.out) (fun hHeld2 => ?_)
         clear hKK KK hHeld
         have hHeld := hHeld2
         clear hHeld2
         clear k6
         refine wpAnyH_ready (rs := [14]) (by kernel_rfl) (by simp) ?_
         refine (AllReadyH.cons rfl (fun KK hKK => ?_) AllReadyH.nil)
         have hnews : ∀ j u, (seE.f [⟨(x0 : Nat), (x1 : Nat), (x2 : Nat), rr⟩])[j]? = some u → Mw.cell? ((⟨sb, 0, none⟩ : Addr).add j) = some u := fun j u hj => by
          rw [add_none, Nat.zero_add, cM]
          simpa [seE, Enc.f] using hj
         have hbase : wD.heap.size ≤ Mw.heap.size := HD.out.only.size
         refine step_Se rfl _ _ rfl wD.heap.size (.slice va S.length vc) S ⟨(x0 : Nat), (x1 : Nat), (x2 : Nat), rr⟩ rfl HD.out.ses ⟨sb, 0, none⟩ 1 rfl hnews (by omega) hbase ?_
         intro g9 cap2 w9 hown ho hloc hg
         have hnow : ∀ k, some k = (Value.slice va S.length vc).ownBlock → wD.heap.size ≤ k ∧ k ≠ g5 := fun k e => ⟨(HD.out.ses.lt k e.symm).1, fun h => by subst h; exact hg5v e.symm⟩
         have hne3 : ¬ some g = (Value.slice va S.length vc).ownBlock := fun e => by have := (hnow g e).1; have := HD.out.lt; omega
         have k6 : w9.cell? ⟨g, 4, none⟩ = some (.slice va S.length vc) := (ho.cell (o := 4) HD.out.box.hi hne3).trans (HD.out.box.cell 4)
         have f6 := (ho.frozen (o := 4) HD.out.box.hi hne3).trans (HD.out.box.fro 4)
         have HE := Hid.intro (HD.out.put ho hown)
         have HSE : Hid (SeIn3 g5 x0 x1 x2 gr rr w9) := by obtain ⟨e0, e1, e2, e3, e4⟩ := hHeld; have hq : ∀ i u, Mw.cell? ⟨g5, i, none⟩ = some u → w9.cell? ⟨g5, i, none⟩ = some u := fun i u hu => (ho.cell (o := i) (World.block_lt_of_cell? Mw _ hu) (fun e => (hnow g5 e).2 rfl)).trans hu; have hq2 : ∀ i u, Mw.cell? ⟨gr, i, none⟩ = some u → w9.cell? ⟨gr, i, none⟩ = some u := fun i u hu => (ho.cell (o := i) (World.block_lt_of_cell? Mw _ hu) (fun e => hgrv e.symm)).trans hu; exact ⟨hq _ _ e0, hq _ _ e1, hq _ _ e2, hq2 _ _ e3, hq2 _ _ e4⟩
         clear HD hown ho hloc hg hnews hbase cM hne3 bM hnow
         go_simp
         refine hKK.out _ _ (HSE.out) (fun hHeld2 => ?_)
         clear hKK KK hHeld
         have hHeld := hHeld2
         clear hHeld2
         refine tkk 15 151 (v := ?_) ?_ ?_
         rotate_left 1
         ·intro w hSw
          go_simp <;> with_reducible rfl
         simp only [Act.put, List.setIfInBounds_toArray]
         try simp only [List.set_cons_succ]
         try simp only [List.set_cons_zero]
         refine wpAnyH_ready (rs := [16]) (by kernel_rfl) (by simp) ?_
         refine (AllReadyH.cons rfl (fun KK hKK => ?_) AllReadyH.nil)
         go_simp
         have HSG : Hid (SeIn3 g5 x0 x1 x2 gr rr (w9.setCell ⟨g, 4, none⟩ (.slice (some ⟨g9, 0, none⟩) (S.length + 1) cap2))) := by obtain ⟨e0, e1, e2, e3, e4⟩ := hHeld; have hq : ∀ i u, w9.cell? ⟨g5, i, none⟩ = some u → (w9.setCell ⟨g, 4, none⟩ (.slice (some ⟨g9, 0, none⟩) (S.length + 1) cap2)).cell? ⟨g5, i, none⟩ = some u := fun i u hu => (World.cell?_setCell_other _ _ _ _ (by intro e; simp at e <;> omega)).trans hu; have hq2 : ∀ i u, w9.cell? ⟨gr, i, none⟩ = some u → (w9.setCell ⟨g, 4, none⟩ (.slice (some ⟨g9, 0, none⟩) (S.length + 1) cap2)).cell? ⟨gr, i, none⟩ = some u := fun i u hu => (World.cell?_setCell_other _ _ _ _ (by intro e; simp at e <;> omega)).trans hu; exact ⟨hq _ _ e0, hq _ _ e1, hq _ _ e2, hq2 _ _ e3, hq2 _ _ e4⟩
         revert HSG
         generalize w9.setCell ⟨g, 4, none⟩ _ = w5 at HE ⊢
         intro HSG
         clear k6 f6
         refine hKK.out _ _ (HSG.out) (fun hHeld2 => ?_)
         clear hKK KK hHeld
         have hHeld := hHeld2
         clear hHeld2
         refine wpAnyH_done (by kernel_rfl) ?_ _
         clear hHeld
         go_wp2
         go_roundw
         case rel => exact ⟨a8, _, S ++ [⟨(x0 : Nat), (x1 : Nat), (x2 : Nat), rr⟩], by go_num, by rw [List.length_append]; go_num, by rw [List.length_append, List.length_singleton]; omega, ha8, HSX.out, by unfold Hid; rw [List.length_append, List.length_singleton]; exact HN2.out, HE⟩
         case measure => simp [intOf]; omega
      ·obtain rfl : S.length = m := by omega
       have hjn : ¬ (S.length : Int) < (S.length : Int) := by omega
       have HQ : Hid (tenS s.data.toList = some (((nx : Int), M.map Np.n, (tk : Int), A, S), s.data.toList.drop a)) := by
        unfold Hid
        rw [HTS2.out, HN.out, Nat.sub_self]
        simp [sessS]
       clear HN HTS2
       obtain ⟨sa, sc, rfl⟩ := HI.out.ses.slice
       have oW := HI.out.only
       have hgD := HI.out.lt
       replace X0 := Hid.intro (X0.out.only oW (by omega))
       replace X1 := Hid.intro (X1.out.only oW (by omega))
       replace B0 := B0.trans (oW.below B0.size (fun k hk e => by omega))
       have HTO : Hid (TenO wr (w.heap.size + 1) ⟨(nx : Nat), M, ua, uc, (tk : Nat), A, aa, ac, S, sa, sc⟩) := ⟨(HVR.out.keptU (HBG.out.trans (oW.below (Nat.le_of_lt hgD) (fun k hk e => by omega))) (Nat.le_of_eq HG4.out)).lower (by omega), (HAU.out.only oW (fun k hk e => by have := (HAU.out.lt k hk).1; omega)).lower (by omega), HI.out.ses.lower (by omega)⟩
       have HTW : Hid (TenW ⟨(nx : Nat), M, ua, uc, (tk : Nat), A, aa, ac, S, sa, sc⟩) := ⟨HWF.out, fun e he => by have := HS4.out e he; omega⟩
       have HBX := Hid.intro HI.out.box
       have hgr : g < wr.heap.size := HBX.out.hi
       have b0 : wr.cell? ⟨g, 0, none⟩ = some (.int .i64 (nx : Nat)) := HBX.out.cell 0
       have b1 : wr.cell? ⟨g, 1, none⟩ = some (.slice ua M.length uc) := HBX.out.cell 1
       have b2 : wr.cell? ⟨g, 2, none⟩ = some (.int .i64 (tk : Nat)) := HBX.out.cell 2
       have b3 : wr.cell? ⟨g, 3, none⟩ = some (.slice aa A.length ac) := HBX.out.cell 3
       have b4 : wr.cell? ⟨g, 4, none⟩ = some (.slice sa S.length sc) := HBX.out.cell 4
       go_wp2_with fail
       clear b0 b1 b2 b3 b4 kn
       refine (specShowTenant_any ⟨(nx : Nat), M, ua, uc, (tk : Nat), A, aa, ac, S, sa, sc⟩ wr.heap.size wr (Nat.le_refl _) HTO.out.rowAll HTW.out).mono ?_
       rintro e wz ⟨rfl, b⟩
       replace X0 := Hid.intro (X0.out.kept b)
       replace X1 := Hid.intro (X1.out.kept b)
       replace B0 := B0.trans (b.mono B0.size)
       replace HTO := Hid.intro (HTO.out.kept b)
       replace HBX := Hid.intro (HBX.out.kept b)
       clear b HI oW HVR HAU HTW HBG
       have hkey : Ten.key ⟨(nx : Nat), M, ua, uc, (tk : Nat), A, aa, ac, S, sa, sc⟩ = ((nx : Int), M.map Np.n, (tk : Int), A, S) := rfl
       rw [hkey]
       by_cases hE : shTen ((nx : Int), M.map Np.n, (tk : Int), A, S) = s
       ·have hb : ((shTen ((nx : Int), M.map Np.n, (tk : Int), A, S)).toList == s.toList) = true := by rw [hE]; exact beq_self_eq_true _
        have HP : Hid (outT s.data.toList = some (Ten.key ⟨(nx : Nat), M, ua, uc, (tk : Nat), A, aa, ac, S, sa, sc⟩)) := shT_yes HQ.out hE
        generalize shTen ((nx : Int), M.map Np.n, (tk : Int), A, S) = sh at hb
        clear hE HQ
        have r0 : wz.cell? ⟨w.heap.size, 0, none⟩ = some (.int .i64 0) := X0.out.cell 0
        have f0 : wz.frozen? ⟨w.heap.size, 0, none⟩ = false := X0.out.fro 0
        have b0 : wz.cell? ⟨g, 0, none⟩ = some (.int .i64 (nx : Nat)) := HBX.out.cell 0
        have r1 : wz.cell? ⟨w.heap.size, 1, none⟩ = some (.slice none 0 0) := X0.out.cell 1
        have f1 : wz.frozen? ⟨w.heap.size, 1, none⟩ = false := X0.out.fro 1
        have b1 : wz.cell? ⟨g, 1, none⟩ = some (.slice ua M.length uc) := HBX.out.cell 1
        have r2 : wz.cell? ⟨w.heap.size, 2, none⟩ = some (.int .i64 0) := X0.out.cell 2
        have f2 : wz.frozen? ⟨w.heap.size, 2, none⟩ = false := X0.out.fro 2
        have b2 : wz.cell? ⟨g, 2, none⟩ = some (.int .i64 (tk : Nat)) := HBX.out.cell 2
        have r3 : wz.cell? ⟨w.heap.size, 3, none⟩ = some (.slice none 0 0) := X0.out.cell 3
        have f3 : wz.frozen? ⟨w.heap.size, 3, none⟩ = false := X0.out.fro 3
        have b3 : wz.cell? ⟨g, 3, none⟩ = some (.slice aa A.length ac) := HBX.out.cell 3
        have r4 : wz.cell? ⟨w.heap.size, 4, none⟩ = some (.slice none 0 0) := X0.out.cell 4
        have f4 : wz.frozen? ⟨w.heap.size, 4, none⟩ = false := X0.out.fro 4
        have b4 : wz.cell? ⟨g, 4, none⟩ = some (.slice sa S.length sc) := HBX.out.cell 4
        have hgw : ¬ g = w.heap.size := by omega
        have hgw' : ¬ w.heap.size = g := by omega
        have o1 : Only (fun k => k = w.heap.size) wz (((((wz.setCell ⟨w.heap.size, 0, none⟩ (.int .i64 (nx : Nat))).setCell ⟨w.heap.size, 1, none⟩ (.slice ua M.length uc)).setCell ⟨w.heap.size, 2, none⟩ (.int .i64 (tk : Nat))).setCell ⟨w.heap.size, 3, none⟩ (.slice aa A.length ac)).setCell ⟨w.heap.size, 4, none⟩ (.slice sa S.length sc)) := (((((set_only w.heap.size 0 wz (.int .i64 (nx : Nat))).setCell (p := ⟨w.heap.size, 1, none⟩) rfl (.slice ua M.length uc)).setCell (p := ⟨w.heap.size, 2, none⟩) rfl (.int .i64 (tk : Nat))).setCell (p := ⟨w.heap.size, 3, none⟩) rfl (.slice aa A.length ac)).setCell (p := ⟨w.heap.size, 4, none⟩) rfl (.slice sa S.length sc))
        have HTZ : Hid (TenO (((((wz.setCell ⟨w.heap.size, 0, none⟩ (.int .i64 (nx : Nat))).setCell ⟨w.heap.size, 1, none⟩ (.slice ua M.length uc)).setCell ⟨w.heap.size, 2, none⟩ (.int .i64 (tk : Nat))).setCell ⟨w.heap.size, 3, none⟩ (.slice aa A.length ac)).setCell ⟨w.heap.size, 4, none⟩ (.slice sa S.length sc)) w.heap.size ⟨(nx : Nat), M, ua, uc, (tk : Nat), A, aa, ac, S, sa, sc⟩) := (TenO.mk (HTO.out.vol.only o1 (fun k hk e => by omega)) (HTO.out.aud.only o1 (fun k hk e => by have := (HTO.out.aud.lt k hk).1; omega)) (HTO.out.ses.only o1 (fun k hk e => by have := (HTO.out.ses.lt k hk).1; omega)) : TenO _ (w.heap.size + 1) _).lower (by omega)
        have B9 := B0.trans (o1.below B0.size (fun k hk h => by omega))
        clear X0 X1 HTO HBX o1
        go_wp2
        exact bodyPost_ret (v := .tuple #[Ten.v ⟨(nx : Nat), M, ua, uc, (tk : Nat), A, aa, ac, S, sa, sc⟩, .bool true]) (by simp [results, Tryz.results10, go_sem, r0, r1, r2, r3, r4]) rfl ⟨.inl ⟨_, rfl, HP, HTZ⟩, B9⟩
       ·have hb : ((shTen ((nx : Int), M.map Np.n, (tk : Int), A, S)).toList == s.toList) = false := bstr_ne3 hE
        have HP : Hid (outT s.data.toList = none) := shT_not HQ.out hE
        generalize shTen ((nx : Int), M.map Np.n, (tk : Int), A, S) = sh at hb
        clear hE HQ HTO HBX
        have r0 : wz.cell? ⟨w.heap.size, 0, none⟩ = some (.int .i64 0) := X0.out.cell 0
        have f0 : wz.frozen? ⟨w.heap.size, 0, none⟩ = false := X0.out.fro 0
        have y0 : wz.cell? ⟨w.heap.size + 1, 0, none⟩ = some (.int .i64 0) := X1.out.cell 0
        have r1 : wz.cell? ⟨w.heap.size, 1, none⟩ = some (.slice none 0 0) := X0.out.cell 1
        have f1 : wz.frozen? ⟨w.heap.size, 1, none⟩ = false := X0.out.fro 1
        have y1 : wz.cell? ⟨w.heap.size + 1, 1, none⟩ = some (.slice none 0 0) := X1.out.cell 1
        have r2 : wz.cell? ⟨w.heap.size, 2, none⟩ = some (.int .i64 0) := X0.out.cell 2
        have f2 : wz.frozen? ⟨w.heap.size, 2, none⟩ = false := X0.out.fro 2
        have y2 : wz.cell? ⟨w.heap.size + 1, 2, none⟩ = some (.int .i64 0) := X1.out.cell 2
        have r3 : wz.cell? ⟨w.heap.size, 3, none⟩ = some (.slice none 0 0) := X0.out.cell 3
        have f3 : wz.frozen? ⟨w.heap.size, 3, none⟩ = false := X0.out.fro 3
        have y3 : wz.cell? ⟨w.heap.size + 1, 3, none⟩ = some (.slice none 0 0) := X1.out.cell 3
        have r4 : wz.cell? ⟨w.heap.size, 4, none⟩ = some (.slice none 0 0) := X0.out.cell 4
        have f4 : wz.frozen? ⟨w.heap.size, 4, none⟩ = false := X0.out.fro 4
        have y4 : wz.cell? ⟨w.heap.size + 1, 4, none⟩ = some (.slice none 0 0) := X1.out.cell 4
        have o1 : Only (fun k => k = w.heap.size) wz (((((wz.setCell ⟨w.heap.size, 0, none⟩ (.int .i64 0)).setCell ⟨w.heap.size, 1, none⟩ (.slice none 0 0)).setCell ⟨w.heap.size, 2, none⟩ (.int .i64 0)).setCell ⟨w.heap.size, 3, none⟩ (.slice none 0 0)).setCell ⟨w.heap.size, 4, none⟩ (.slice none 0 0)) := (((((set_only w.heap.size 0 wz (.int .i64 0)).setCell (p := ⟨w.heap.size, 1, none⟩) rfl (.slice none 0 0)).setCell (p := ⟨w.heap.size, 2, none⟩) rfl (.int .i64 0)).setCell (p := ⟨w.heap.size, 3, none⟩) rfl (.slice none 0 0)).setCell (p := ⟨w.heap.size, 4, none⟩) rfl (.slice none 0 0))
        clear X0 X1
        go_wp2
        exact bodyPost_ret (v := .tuple #[.agg zTn, .bool false]) (by simp [results, Tryz.results10, go_sem, r0, r1, r2, r3, r4]) rfl ⟨.inr ⟨rfl, HP⟩, B0.trans (o1.below B0.size (fun k hk h => by omega))⟩
end Go.Proofs.YtknckbedddeijaaGreat
