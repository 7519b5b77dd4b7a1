/- FnExactNewVol. -/
import Derived.Test.YtiiflpkdohaglaaRVLeaf
namespace Go.Proofs.YtiiflpkdohaglaaR
open Go.RowKit
set_option linter.unusedVariables false
abbrev vo (g : Nat) : Value := .agg #[.int .i64 2, .slice (some ⟨g, 0, none⟩) 1 1]
abbrev nA : Array Value := #[.int .i64 1, .int .i64 2, .int .i64 493, .int .i64 0, .int .i64 0, .string ⟨#[]⟩, .slice none 0 0, .int .i64 0, .int .i64 0]
abbrev mA : Array Value := #[.int .i64 1, .int .i64 2, .int .i64 3, .int .i64 4, .int .i64 5, .string (markI 6), .slice none 0 0, .int .i64 7, .int .i64 8]
/-- The block g holds A, and may be written. -/
structure Blk (w : World) (g : Nat) (A : Array Value) : Prop where
  hi : g < w.heap.size
  cell : ∀ o, w.cell? ⟨g, o, none⟩ = A[o]?
  fro : ∀ o, w.frozen? ⟨g, o, none⟩ = false
theorem Blk.keptB {w w' : World} {g B : Nat} {A : Array Value} (h : Blk w g A) (hb : Below B w w') (hB : g < B) : Blk w' g A := ⟨Nat.lt_of_lt_of_le h.hi hb.size, keepC hb hB h.cell, keepF hb hB h.fro⟩
theorem Blk.kept {w w' : World} {g : Nat} {A : Array Value} (h : Blk w g A) (hb : Below w.heap.size w w') : Blk w' g A := h.keptB hb h.hi
theorem Blk.only {w w' : World} {g : Nat} {A : Array Value} {S : Nat → Prop} (h : Blk w g A) (hb : Only S w w') (hs : ¬ S g) : Blk w' g A := ⟨Nat.lt_of_lt_of_le h.hi hb.size, fun o => (hb.cell h.hi hs).trans (h.cell o), fun o => (hb.frozen h.hi hs).trans (h.fro o)⟩
def NewV (w w' : World) (e : Ending) : Prop := ∃ g, e = .returned (vo g) ∧ w.heap.size ≤ g ∧ Blk w' g nA ∧ Below w.heap.size w w'
set_option maxHeartbeats 1000000 in
theorem implNewVol_any (w : World) : Calls Try.prog 13 #[] w fun e w' => NewV w w' e := by
  go_enter Try.func13, Try.ntmps13
  go_wp2
  refine bodyPost_ret (v := vo (w.heap.size + 1)) ?_ rfl ⟨_, rfl, by omega, ⟨by simp, fun o => World.cell?_alloc_at _ _ _ _ (by simp), fun o => World.frozen?_alloc_at _ _ _ _ (by simp)⟩, ((Below.refl _ _).alloc (Nat.le_refl _) _).alloc (by simp) _⟩
  simp [results, Try.results13, go_sem]
set_option maxHeartbeats 1000000 in
theorem specNewVol_any (w : World) : Calls Try.prog 12 #[] w fun e w' => NewV w w' e := by
  go_enter Try.func12, Try.ntmps12
  go_wp2
  refine bodyPost_ret (v := vo (w.heap.size + 1)) ?_ rfl ⟨_, rfl, by omega, ⟨by simp, fun o => World.cell?_alloc_at _ _ _ _ (by simp), fun o => World.frozen?_alloc_at _ _ _ _ (by simp)⟩, ((Below.refl _ _).alloc (Nat.le_refl _) _).alloc (by simp) _⟩
  simp [results, Try.results12, go_sem]
set_option maxHeartbeats 1000000 in
theorem eqDirent_nil (w : World) : Calls Try.prog 59 #[.slice none 0 0, .slice none 0 0] w fun e w' => e = .returned (.bool true) ∧ w = w' := by
  go_enter Try.func59, Try.ntmps59
  go_wp2
  refine wp_loop_rounds 1 ?_
  rw [rounds_succ]
  go_wp2
  go_ret
  exact ⟨rfl, rfl⟩
theorem markDirent_nil (q : Int) (w : World) : Calls Try.prog 48 #[.slice none 0 0, .int .i64 q] w fun e w' => e = .returned (.int .i64 q) ∧ w = w' := by
  go_enter Try.func48, Try.ntmps48
  go_wp2
  refine wp_loop_rounds 1 ?_
  rw [rounds_succ]
  go_wp2
  go_ret
  exact ⟨rfl, rfl⟩
theorem heldDirent_nil (q : Int) (w : World) : Calls Try.prog 49 #[.slice none 0 0, .int .i64 q] w fun e w' => e = .returned (.int .i64 q) ∧ w = w' := by
  go_enter Try.func49, Try.ntmps49
  go_wp2
  refine wp_loop_rounds 1 ?_
  rw [rounds_succ]
  go_wp2
  go_ret
  exact ⟨rfl, rfl⟩
set_option maxHeartbeats 1000000 in
theorem eqInode0 (w : World) : Calls Try.prog 46 #[.agg nA, .agg nA] w fun e w' => e = .returned (.bool true) ∧ Below w.heap.size w w' := by
  go_enter Try.func46, Try.ntmps46
  go_wp2_with (go_at_call 59; refine (eqDirent_nil _).mono ?_; rintro e w2 ⟨rfl, rfl⟩)
  go_ret
  exact ⟨rfl, ((Below.refl _ _).alloc (Nat.le_refl _) _).alloc (by simp) _⟩
set_option maxHeartbeats 1000000 in
theorem eqInodeS0 (g g' : Nat) (w : World) (h : Blk w g nA) (h' : Blk w g' nA) : Calls Try.prog 29 #[.slice (some ⟨g, 0, none⟩) 1 1, .slice (some ⟨g', 0, none⟩) 1 1] w fun e w' => e = .returned (.bool true) ∧ Below w.heap.size w w' := by
  have c1 := h.cell
  have c2 := h'.cell
  go_enter Try.func29, Try.ntmps29
  go_wp2
  refine wp_loop_rounds 2 ?_
  rw [rounds_succ]
  go_wp2_with fail
  go_region_with (go_at_call 46; refine (eqInode0 _).mono ?_; rintro e w2 ⟨rfl, b2⟩; have B2 : Below w.heap.size w w2 := (by first | exact b2 | exact ((Below.refl _ _).drew).trans b2 | exact ((Below.refl _ _).drew.drew).trans b2); clear b2)
  all_goals
    go_wp2
    rw [rounds_succ]
    go_wp2
    go_ret
    exact ⟨rfl, B2⟩
theorem Blk.set {w : World} {g : Nat} {A : Array Value} (h : Blk w g A) (i : Nat) (hi : i < A.size) (x : Value) : Blk (w.setCell ⟨g, i, none⟩ x) g (A.setIfInBounds i x) := by
  refine ⟨by simpa using h.hi, fun o => ?_, fun o => by rw [World.frozen?_setCell]; exact h.fro o⟩
  by_cases ho : o = i
  · subst ho
    rw [World.cell?_setCell_same _ _ _ ((h.cell o).trans (Array.getElem?_eq_getElem hi)), Array.getElem?_setIfInBounds_self_of_lt hi]
  · rw [World.cell?_setCell_other _ _ _ _ (by intro e; cases e; exact ho rfl), h.cell, Array.getElem?_setIfInBounds_ne (by omega)]
set_option maxHeartbeats 1000000 in
theorem eqVol0 (g g' : Nat) (w : World) (h : Blk w g nA) (h' : Blk w g' nA) : Calls Try.prog 11 #[vo g, vo g'] w fun e w' => e = .returned (.bool true) ∧ Below w.heap.size w w' := by
  have H := Hid.intro h
  have H' := Hid.intro h'
  clear h h'
  go_enter Try.func11, Try.ntmps11
  go_wp2_with fail
  obtain ⟨W, hW, bW, zW, c1, f1, c2, f2⟩ := boxed2 w #[.int .i64 2, .slice (some ⟨g, 0, none⟩) 1 1] #[.int .i64 2, .slice (some ⟨g', 0, none⟩) 1 1] 29 29
  simp only [hW]
  refine (eqInodeS0 g g' W (H.out.kept bW) (H'.out.kept bW)).mono ?_
  rintro e w1 ⟨rfl, b1⟩
  have HB := Hid.intro (bW.trans (b1.mono (by omega)))
  clear hW bW zW b1 c1 c2 f1 f2
  go_wp2
  go_ret
  exact ⟨rfl, HB.out⟩
set_option maxRecDepth 100000 in
set_option maxHeartbeats 1000000 in
theorem markInodeS0 (g : Nat) (w : World) (h : Blk w g nA) : Calls Try.prog 30 #[.slice (some ⟨g, 0, none⟩) 1 1, .int .i64 1] w fun e w' => e = .returned (.int .i64 9) ∧ Blk w' g mA ∧ Only (fun k => k = g) w w' := by
  have c1 := h.cell
  have f1 := h.fro
  go_enter Try.func30, Try.ntmps30
  go_wp2
  refine wp_loop_rounds 2 ?_
  rw [rounds_succ]
  go_wp2_with fail
  have hB := ((((h.set 0 (by decide) (.int .i64 1)).set 1 (by decide) (.int .i64 2)).set 2 (by decide) (.int .i64 3)).set 3 (by decide) (.int .i64 4)).set 4 (by decide) (.int .i64 5)
  have hO : Only (fun k => k = g) w (((((w.setCell ⟨g, 0, none⟩ (.int .i64 1)).setCell ⟨g, 1, none⟩ (.int .i64 2)).setCell ⟨g, 2, none⟩ (.int .i64 3)).setCell ⟨g, 3, none⟩ (.int .i64 4)).setCell ⟨g, 4, none⟩ (.int .i64 5)) := by
    repeat (refine Only.setCell ?_ (by simp) _)
    exact Only.refl _ _
  generalize (((((w.setCell ⟨g, 0, none⟩ (.int .i64 1)).setCell ⟨g, 1, none⟩ (.int .i64 2)).setCell ⟨g, 2, none⟩ (.int .i64 3)).setCell ⟨g, 3, none⟩ (.int .i64 4)).setCell ⟨g, 4, none⟩ (.int .i64 5)) = X at hB hO ⊢
  simp only [List.setIfInBounds_toArray, List.set_cons_succ, List.set_cons_zero] at hB
  refine (markText_int _ _ (by omega) (by omega)).mono ?_
  rintro e w1 ⟨rfl, b1⟩
  have hB1 := hB.kept b1
  have hO1 : Only (fun k => k = g) w w1 := hO.then ⟨b1.os, b1.tape, b1.output, b1.size, fun k hk _ => b1.block k hk⟩ (fun k hk h => h)
  clear h hB hO b1 c1 f1
  have c1 := hB1.cell
  have f1 := hB1.fro
  have HB := Hid.intro hB1
  have HO := Hid.intro hO1
  clear hB1 hO1
  obtain ⟨M, hM⟩ : ∃ M, markI 6 = M := ⟨_, rfl⟩
  rw [hM]
  have HM := Hid.intro hM
  clear hM
  go_wp2_with (go_at_call 48; refine (markDirent_nil _ _).mono ?_; rintro e w2 ⟨rfl, rfl⟩)
  rw [rounds_succ]
  go_wp2
  go_ret
  refine ⟨rfl, ?_, ?_⟩
  · have := ((HB.out.set 5 (by simp) (.string M)).set 7 (by simp) (.int .i64 7)).set 8 (by simp) (.int .i64 8)
    rw [← HM.out] at this
    rw [← HM.out]
    exact this
  · repeat (refine Only.setCell ?_ (by simp) _)
    exact HO.out
set_option maxRecDepth 100000 in
set_option maxHeartbeats 1000000 in
theorem heldInodeS0 (g : Nat) (w : World) (h : Blk w g mA) : Calls Try.prog 31 #[.slice (some ⟨g, 0, none⟩) 1 1, .int .i64 1] w fun e w' => e = .returned (.int .i64 9) ∧ Below w.heap.size w w' := by
  have c1 := h.cell
  have H := Hid.intro h
  clear h
  go_enter Try.func31, Try.ntmps31
  go_wp2
  refine wp_loop_rounds 2 ?_
  rw [rounds_succ]
  go_wp2_with fail
  go_region_with (go_at_call 47; refine (markText_int _ _ (by omega) (by omega)).mono ?_; rintro e w2 ⟨rfl, b2⟩; have B2 : Below w.heap.size w w2 := (by first | exact b2 | exact ((Below.refl _ _).drew).trans b2 | exact ((Below.refl _ _).drew.drew).trans b2); have c2 := (H.out.kept B2).cell; clear b2)
  all_goals
    have HB := Hid.intro B2
    clear B2 c1
    go_wp2_with (go_at_call 49; refine (heldDirent_nil _ _).mono ?_; rintro e w3 ⟨rfl, rfl⟩)
    rw [rounds_succ]
    go_wp2
    go_ret
    exact ⟨rfl, HB.out⟩
set_option maxHeartbeats 1000000 in
theorem markVol0 (g : Nat) (w : World) (h : Blk w g nA) : Calls Try.prog 14 #[vo g, .int .i64 1] w fun e w' => e = .returned (.int .i64 9) ∧ Blk w' g mA ∧ Only (fun k => k = g) w w' := by
  have H := Hid.intro h
  clear h
  go_enter Try.func14, Try.ntmps14
  go_wp2_with fail
  obtain ⟨W, hW, bW, zW, c1, f1⟩ := boxed w #[.int .i64 2, .slice (some ⟨g, 0, none⟩) 1 1] 29
  simp only [hW]
  refine (markInodeS0 g W (H.out.kept bW)).mono ?_
  rintro e w1 ⟨rfl, b1, o1⟩
  have HB := Hid.intro b1
  have HO : Hid (Only (fun k => k = g) w w1) := Only.trans (S := fun k => k = g) ⟨bW.os, bW.tape, bW.output, bW.size, fun k hk _ => bW.block k hk⟩ o1
  clear hW bW zW b1 c1 f1 o1
  go_wp2
  go_ret
  exact ⟨rfl, HB.out, HO.out⟩
set_option maxHeartbeats 1000000 in
theorem heldVol0 (g : Nat) (w : World) (h : Blk w g mA) : Calls Try.prog 15 #[vo g, .int .i64 1] w fun e w' => e = .returned (.int .i64 9) ∧ Below w.heap.size w w' := by
  have H := Hid.intro h
  clear h
  go_enter Try.func15, Try.ntmps15
  go_wp2_with fail
  obtain ⟨W, hW, bW, zW, c1, f1⟩ := boxed w #[.int .i64 2, .slice (some ⟨g, 0, none⟩) 1 1] 29
  simp only [hW]
  refine (heldInodeS0 g W (H.out.kept bW)).mono ?_
  rintro e w1 ⟨rfl, b1⟩
  have HB := Hid.intro (bW.trans (b1.mono (by omega)))
  clear hW bW zW b1 c1 f1
  go_wp2
  go_ret
  exact ⟨rfl, HB.out⟩
/-- What stands: the two volumes' blocks, and the variables that hold them. -/
structure Two (w u : World) (b1 b2 g1 g2 : Nat) (A : Array Value) : Prop where
  v1 : Blk u b1 #[.int .i64 2, .slice (some ⟨g1, 0, none⟩) 1 1]
  v2 : Blk u b2 #[.int .i64 2, .slice (some ⟨g2, 0, none⟩) 1 1]
  r1 : Blk u g1 nA
  r2 : Blk u g2 A
  bel : Below w.heap.size w u
theorem Two.kept {w u u' : World} {b1 b2 g1 g2 : Nat} {A : Array Value} (h : Two w u b1 b2 g1 g2 A) (hb : Below u.heap.size u u') : Two w u' b1 b2 g1 g2 A :=
  ⟨h.v1.kept hb, h.v2.kept hb, h.r1.kept hb, h.r2.kept hb, h.bel.trans (hb.mono h.bel.size)⟩
set_option maxRecDepth 100000 in
set_option maxHeartbeats 4000000 in
theorem newVol_law (w : World) : Calls Try.prog 4 #[] w fun e w' => e = .returned (.bool true) ∧ Below w.heap.size w w' := by
  go_enter Try.func4, Try.ntmps4
  go_wp2_with fail
  refine (specNewVol_any w).mono ?_
  rintro e w1 ⟨g1, rfl, l1, r1, B1⟩
  have q1 := r1.hi
  have HR1 := Hid.intro r1
  have HB := Hid.intro B1
  clear r1 B1
  go_wp2_with fail
  obtain ⟨X1, hX1, bX1, zX1, d1, f1⟩ := boxed w1 #[.int .i64 2, .slice (some ⟨g1, 0, none⟩) 1 1] 29
  simp only [hX1]
  have HV1 := Hid.intro (show Blk X1 w1.heap.size #[.int .i64 2, .slice (some ⟨g1, 0, none⟩) 1 1] from ⟨by omega, d1, f1⟩)
  replace HR1 := Hid.intro (HR1.out.kept bX1)
  replace HB := Hid.intro (HB.out.trans (bX1.mono HB.out.size))
  clear hX1 bX1 d1 f1
  refine (implNewVol_any X1).mono ?_
  rintro e w2 ⟨g2, rfl, l2, r2, b2⟩
  replace HV1 := Hid.intro (HV1.out.kept b2)
  replace HR1 := Hid.intro (HR1.out.kept b2)
  replace HB := Hid.intro (HB.out.trans (b2.mono HB.out.size))
  have q2 := r2.hi
  have HR2 := Hid.intro r2
  have c1 := HV1.out.cell
  have z1 := HV1.out.hi
  clear b2 r2
  go_wp2_with fail
  obtain ⟨X2, hX2, bX2, zX2, d2, f2⟩ := boxed w2 #[.int .i64 2, .slice (some ⟨g2, 0, none⟩) 1 1] 29
  simp only [hX2]
  have HT := Hid.intro (show Two w X2 w1.heap.size w2.heap.size g1 g2 nA from ⟨HV1.out.kept bX2, ⟨by omega, d2, f2⟩, HR1.out.kept bX2, HR2.out.kept bX2, HB.out.trans (bX2.mono HB.out.size)⟩)
  clear hX2 bX2 d2 f2 HV1 HR1 HR2 HB c1
  refine (eqVol0 g2 g1 X2 HT.out.r2 HT.out.r1).mono ?_
  rintro e w3 ⟨rfl, b3⟩
  replace HT := Hid.intro (HT.out.kept b3)
  clear b3
  have c2 := HT.out.v2.cell
  go_wp2_with fail
  refine (markVol0 g2 w3 HT.out.r2).mono ?_
  rintro e w4 ⟨rfl, r4, o4⟩
  have hw : w.heap.size ≤ g1 := l1
  replace HT := Hid.intro (show Two w w4 w1.heap.size w2.heap.size g1 g2 mA from ⟨HT.out.v1.only o4 (by omega), HT.out.v2.only o4 (by omega), HT.out.r1.only o4 (by omega), r4, HT.out.bel.trans (o4.below HT.out.bel.size (fun k hk h => by omega))⟩)
  clear r4 o4 c2
  have c2 := HT.out.v2.cell
  go_wp2_with fail
  refine (heldVol0 g2 w4 HT.out.r2).mono ?_
  rintro e w5 ⟨rfl, b5⟩
  replace HT := Hid.intro (HT.out.kept b5)
  clear c2 b5
  go_wp2_with fail
  refine (implNewVol_any w5).mono ?_
  rintro e w6 ⟨g3, rfl, l3, r3, b6⟩
  replace HT := Hid.intro (HT.out.kept b6)
  have HR3 := Hid.intro r3
  have q3 := r3.hi
  have c1 := HT.out.v1.cell
  have z1 := HT.out.v1.hi
  clear b6 r3
  go_wp2_with fail
  obtain ⟨X3, hX3, bX3, zX3, d3, f3⟩ := boxed w6 #[.int .i64 2, .slice (some ⟨g3, 0, none⟩) 1 1] 29
  simp only [hX3]
  replace HT := Hid.intro (HT.out.kept bX3)
  replace HR3 := Hid.intro (HR3.out.kept bX3)
  clear hX3 bX3 f3 c1 z1
  refine (eqVol0 g3 g1 X3 HR3.out HT.out.r1).mono ?_
  rintro e w7 ⟨rfl, b7⟩
  replace HT := Hid.intro (HT.out.kept b7)
  clear b7 d3
  have c2 := HT.out.v2.cell
  go_wp2_with fail
  refine (heldVol0 g2 w7 HT.out.r2).mono ?_
  rintro e w8 ⟨rfl, b8⟩
  replace HT := Hid.intro (HT.out.kept b8)
  clear c2 b8
  go_wp2
  go_ret
  exact ⟨rfl, HT.out.bel⟩
end Go.Proofs.YtiiflpkdohaglaaR
