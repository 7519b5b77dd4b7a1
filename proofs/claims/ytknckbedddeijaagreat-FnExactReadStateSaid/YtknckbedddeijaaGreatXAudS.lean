/- The sentence's AuditOk. -/
import Derived.Test.YtknckbedddeijaaGreatXLawN
import Derived.Test.YtknckbedddeijaaGreatTCurP
import Derived.Deep.CutRange
import Derived.Deep.CutBlock
import Derived.OwnWalk
namespace Go.Proofs.YtknckbedddeijaaGreat
open Go.RowKit
set_option linter.unusedVariables false
/-- The least number that the note at place j may have. -/
def aheadQ (l : List Nt) (j : Nat) : Int := if j = 0 then 1 else ((l[j - 1]?).map Nt.i).getD 0
theorem aheadQ_succ {l : List Nt} {j : Nat} (h : j < l.length) : aheadQ l (j + 1) = l[j].i := by simp [aheadQ, List.getElem?_eq_getElem h]
theorem auditFrom_step {l : List Nt} {j : Nat} (h : j < l.length) : auditFrom (aheadQ l j) (l.drop j) = (inB l[j].i (aheadQ l j) 100000 && noteB l[j] && auditFrom (aheadQ l (j + 1)) (l.drop (j + 1))) := by
 rw [auditFrom_drop _ _ _ h, aheadQ_succ h]
def NIn (eb : Nat) (x : Nt) (pn : Int) (b2 op : Nat) (w' : World) : Prop := w'.cell? ⟨eb, 0, none⟩ = some (.int .i64 x.i) ∧ w'.cell? ⟨eb, 1, none⟩ = some (.int .i64 x.c) ∧ w'.cell? ⟨eb, 2, none⟩ = some (.int .i64 x.s) ∧ w'.cell? ⟨eb, 3, none⟩ = some (.int .i64 x.k) ∧ w'.cell? ⟨eb, 4, none⟩ = some (.int .i64 x.d) ∧ w'.cell? ⟨b2, op, none⟩ = some (.int .i64 pn)
set_option maxRecDepth 100000 in
set_option maxHeartbeats 40000000 in
theorem specAuditOk_any (L : List Nt) (v : Value) (N : Nat) (w : World) (hN : N ≤ w.heap.size) (hr : Row ntE w N v L) :
  Calls Tryz.prog 61 #[v] w fun e w' => e = .returned (.bool (auditB L)) ∧ Below w.heap.size w w' := by
 obtain ⟨a, cap, rfl, hl, hm, hcells⟩ := ntE_cell hr
 have HC := Hid.intro hcells
 clear hcells hr
 by_cases h20 : L.length ≤ 20
 ·have h20' : ¬ (20 : Int) < (L.length : Int) := by omega
  have HA : Hid (auditB L = auditFrom (aheadQ L 0) (L.drop 0)) := auditB_from h20
  clear h20
  go_enter Tryz.func61, Tryz.ntmps61
  go_wp2_with fail
  go_loopw [3] (fun i wr => ∃ (j : Nat), i = .int .i64 j ∧ j ≤ L.length ∧ Hid (auditB L = auditFrom (aheadQ L j) (L.drop j)) ∧ Hid (1 ≤ aheadQ L j) ∧ Hid (Below w.heap.size w wr)) (fun i _ => L.length - (intOf i).toNat)
  case atStart => exact ⟨0, rfl, Nat.zero_le _, HA, (by unfold Hid; simp [aheadQ]), Below.refl _ _⟩
  case round =>
   obtain ⟨j, rfl, hj, HJ, HM, HBW⟩ := hrel
   have hzr := HBW.out.size
   by_cases hlt : j < L.length
   ·obtain ⟨b2, o2, rfl, hb2, hdd⟩ := HC.out (by intro h; rw [h] at hlt; simp at hlt)
    obtain ⟨d0, d1, d2, d3, d4⟩ := hdd j hlt
    have hst := auditFrom_step hlt
    have hsu := aheadQ_succ hlt
    obtain ⟨M, hMA⟩ : ∃ M, aheadQ L j = M := ⟨_, rfl⟩
    have HMA := Hid.intro hMA
    have HM1 : Hid (1 ≤ M) := by have := HM.out; rw [hMA] at this; exact this
    rw [hMA] at hst
    clear hMA HM
    generalize L[j] = x at d0 d1 d2 d3 d4 hst hsu
    replace d0 := atCell HBW.out d0 (by omega)
    replace d1 := atCell HBW.out d1 (by omega)
    replace d2 := atCell HBW.out d2 (by omega)
    replace d3 := atCell HBW.out d3 (by omega)
    replace d4 := atCell HBW.out d4 (by omega)
    have hjl : (j : Int) < (L.length : Int) := by omega
    have i1 : (0 : Int) ≤ (j : Int) ∧ (j : Int) < (L.length : Int) := by omega
    have HST := Hid.intro hst
    have HSU := Hid.intro hsu
    have HDD := Hid.intro hdd
    clear hst hdd hsu
    go_upto_region 7 with fail
    obtain ⟨X, hX, bX, zX, cX, fX⟩ := boxed wr (ntA x) 55
    simp only [hX]
    have D0 := Hid.intro d0
    have HSG : Hid (∀ y, Below X.heap.size X y → ∀ (pn : Int) (op : Nat), wr.cell? ⟨b2, op, none⟩ = some (.int .i64 pn) → NIn wr.heap.size x pn b2 op y) := fun y hy pn op hpn => by
     have h1 := bX.trans (hy.mono (by omega))
     have kX := keepC hy (by omega) cX
     exact ⟨by rw [kX]; rfl, by rw [kX]; rfl, by rw [kX]; rfl, by rw [kX]; rfl, by rw [kX]; rfl, atCell h1 hpn (by omega)⟩
    have HBX : Hid (Below w.heap.size w X) := HBW.out.trans (bX.mono hzr)
    clear hX fX d0 d1 d2 d3 d4 cX bX
    go_cut [60] from 8 to 60 (fun s wc => s = .bool (!(inB x.i M 100000 && noteB x)) ∧ Hid (Below X.heap.size X wc))
    case first =>
     cases hb0 : inB x.i 1 100000 with
     | false =>
      have HSF : Hid (∀ y, Below X.heap.size X y → NIn wr.heap.size x x.i b2 (o2 + j * 5) y) := fun y hy => HSG.out y hy x.i _ D0.out
      have HW : Hid ((inB x.i M 100000 && noteB x) = false) := by unfold Hid; rw [show inB x.i M 100000 = false from inB_false (by have := inB_not hb0; have := HM1.out; omega)]; rfl
      refine wp_region_held_drew (S := NIn wr.heap.size x x.i b2 (o2 + j * 5)) (by kernel_rfl) (HSF.out _ (Below.refl _ _).drew) (fun hHeld => ?_)
      have BD : Hid (Below X.heap.size X X.drew) := (Below.refl _ _).drew
      generalize X.drew = D at BD hHeld ⊢
      refine tkk 0 18 (v := ?_) ?_ ?_
      rotate_left 1
      ·intro w hSw
       obtain ⟨q0, q1, q2, q3, q4, q5⟩ := hSw
       go_simp <;> with_reducible rfl
      simp only [Act.put, List.setIfInBounds_toArray]
      dsimp only [List.set_cons_succ, List.set_cons_zero]
      refine tkk 1 19 (v := ?_) ?_ ?_
      rotate_left 1
      ·intro w hSw
       obtain ⟨q0, q1, q2, q3, q4, q5⟩ := hSw
       go_simp <;> with_reducible rfl
      simp only [Act.put, List.setIfInBounds_toArray]
      dsimp only [List.set_cons_succ, List.set_cons_zero]
      refine wpAnyH_ready (rs := [2]) (by kernel_rfl) (by simp) ?_
      refine AllReadyH.cons rfl (fun KK hKK => ?_) AllReadyH.nil
      go_simp
      refine (l1In_any x.i 1 100000 _).mono ?_
      rintro e9 w9 ⟨rfl, rfl⟩
      simp only [hb0]
      go_simp
      refine hKK.out _ _ (HSF.out _ BD.out) (fun hHeld2 => ?_)
      clear hKK KK hHeld
      have hHeld := hHeld2
      clear hHeld2
      refine tkk 3 21 (v := ?_) ?_ ?_
      rotate_left 1
      ·intro w hSw
       obtain ⟨q0, q1, q2, q3, q4, q5⟩ := hSw
       go_simp <;> with_reducible rfl
      simp only [Act.put, List.setIfInBounds_toArray]
      dsimp only [List.set_cons_succ, List.set_cons_zero]
      refine tkk 4 22 (v := ?_) ?_ ?_
      rotate_left 1
      ·intro w hSw
       obtain ⟨q0, q1, q2, q3, q4, q5⟩ := hSw
       go_simp <;> with_reducible rfl
      simp only [Act.put, List.setIfInBounds_toArray]
      dsimp only [List.set_cons_succ, List.set_cons_zero]
      refine skk 5 23 ?_
      simp only [Act.put, List.setIfInBounds_toArray]
      dsimp only [List.set_cons_succ, List.set_cons_zero]
      refine skk 6 24 ?_
      simp only [Act.put, List.setIfInBounds_toArray]
      dsimp only [List.set_cons_succ, List.set_cons_zero]
      refine skk 7 25 ?_
      simp only [Act.put, List.setIfInBounds_toArray]
      dsimp only [List.set_cons_succ, List.set_cons_zero]
      refine skk 8 26 ?_
      simp only [Act.put, List.setIfInBounds_toArray]
      dsimp only [List.set_cons_succ, List.set_cons_zero]
      refine skk 9 27 ?_
      simp only [Act.put, List.setIfInBounds_toArray]
      dsimp only [List.set_cons_succ, List.set_cons_zero]
      refine skk 10 28 ?_
      simp only [Act.put, List.setIfInBounds_toArray]
      dsimp only [List.set_cons_succ, List.set_cons_zero]
      refine skk 11 29 ?_
      simp only [Act.put, List.setIfInBounds_toArray]
      dsimp only [List.set_cons_succ, List.set_cons_zero]
      refine skk 12 30 ?_
      simp only [Act.put, List.setIfInBounds_toArray]
      dsimp only [List.set_cons_succ, List.set_cons_zero]
      refine skk 13 31 ?_
      simp only [Act.put, List.setIfInBounds_toArray]
      dsimp only [List.set_cons_succ, List.set_cons_zero]
      refine skk 14 32 ?_
      simp only [Act.put, List.setIfInBounds_toArray]
      dsimp only [List.set_cons_succ, List.set_cons_zero]
      refine skk 15 33 ?_
      simp only [Act.put, List.setIfInBounds_toArray]
      dsimp only [List.set_cons_succ, List.set_cons_zero]
      refine skk 16 34 ?_
      simp only [Act.put, List.setIfInBounds_toArray]
      dsimp only [List.set_cons_succ, List.set_cons_zero]
      refine skk 17 35 ?_
      simp only [Act.put, List.setIfInBounds_toArray]
      dsimp only [List.set_cons_succ, List.set_cons_zero]
      refine tkk 18 36 (v := ?_) ?_ ?_
      rotate_left 1
      ·intro w hSw
       obtain ⟨q0, q1, q2, q3, q4, q5⟩ := hSw
       go_simp <;> with_reducible rfl
      simp only [Act.put, List.setIfInBounds_toArray]
      dsimp only [List.set_cons_succ, List.set_cons_zero]
      refine tkk 19 37 (v := ?_) ?_ ?_
      rotate_left 1
      ·intro w hSw
       obtain ⟨q0, q1, q2, q3, q4, q5⟩ := hSw
       go_simp <;> with_reducible rfl
      simp only [Act.put, List.setIfInBounds_toArray]
      dsimp only [List.set_cons_succ, List.set_cons_zero]
      refine skk 20 38 ?_
      simp only [Act.put, List.setIfInBounds_toArray]
      dsimp only [List.set_cons_succ, List.set_cons_zero]
      refine skk 21 39 ?_
      simp only [Act.put, List.setIfInBounds_toArray]
      dsimp only [List.set_cons_succ, List.set_cons_zero]
      refine skk 22 40 ?_
      simp only [Act.put, List.setIfInBounds_toArray]
      dsimp only [List.set_cons_succ, List.set_cons_zero]
      refine skk 23 41 ?_
      simp only [Act.put, List.setIfInBounds_toArray]
      dsimp only [List.set_cons_succ, List.set_cons_zero]
      refine tkk 24 42 (v := ?_) ?_ ?_
      rotate_left 1
      ·intro w hSw
       obtain ⟨q0, q1, q2, q3, q4, q5⟩ := hSw
       go_simp <;> with_reducible rfl
      simp only [Act.put, List.setIfInBounds_toArray]
      dsimp only [List.set_cons_succ, List.set_cons_zero]
      refine tkk 25 43 (v := ?_) ?_ ?_
      rotate_left 1
      ·intro w hSw
       obtain ⟨q0, q1, q2, q3, q4, q5⟩ := hSw
       go_simp <;> with_reducible rfl
      simp only [Act.put, List.setIfInBounds_toArray]
      dsimp only [List.set_cons_succ, List.set_cons_zero]
      refine skk 26 44 ?_
      simp only [Act.put, List.setIfInBounds_toArray]
      dsimp only [List.set_cons_succ, List.set_cons_zero]
      refine skk 27 45 ?_
      simp only [Act.put, List.setIfInBounds_toArray]
      dsimp only [List.set_cons_succ, List.set_cons_zero]
      refine skk 28 46 ?_
      simp only [Act.put, List.setIfInBounds_toArray]
      dsimp only [List.set_cons_succ, List.set_cons_zero]
      refine skk 29 47 ?_
      simp only [Act.put, List.setIfInBounds_toArray]
      dsimp only [List.set_cons_succ, List.set_cons_zero]
      refine tkk 30 48 (v := ?_) ?_ ?_
      rotate_left 1
      ·intro w hSw
       obtain ⟨q0, q1, q2, q3, q4, q5⟩ := hSw
       go_simp <;> with_reducible rfl
      simp only [Act.put, List.setIfInBounds_toArray]
      dsimp only [List.set_cons_succ, List.set_cons_zero]
      refine tkk 31 49 (v := ?_) ?_ ?_
      rotate_left 1
      ·intro w hSw
       obtain ⟨q0, q1, q2, q3, q4, q5⟩ := hSw
       go_simp <;> with_reducible rfl
      simp only [Act.put, List.setIfInBounds_toArray]
      dsimp only [List.set_cons_succ, List.set_cons_zero]
      refine skk 32 50 ?_
      simp only [Act.put, List.setIfInBounds_toArray]
      dsimp only [List.set_cons_succ, List.set_cons_zero]
      refine skk 33 51 ?_
      simp only [Act.put, List.setIfInBounds_toArray]
      dsimp only [List.set_cons_succ, List.set_cons_zero]
      refine skk 34 52 ?_
      simp only [Act.put, List.setIfInBounds_toArray]
      dsimp only [List.set_cons_succ, List.set_cons_zero]
      refine skk 35 53 ?_
      simp only [Act.put, List.setIfInBounds_toArray]
      dsimp only [List.set_cons_succ, List.set_cons_zero]
      refine tkk 36 54 (v := ?_) ?_ ?_
      rotate_left 1
      ·intro w hSw
       obtain ⟨q0, q1, q2, q3, q4, q5⟩ := hSw
       go_simp <;> with_reducible rfl
      simp only [Act.put, List.setIfInBounds_toArray]
      dsimp only [List.set_cons_succ, List.set_cons_zero]
      refine tkk 37 55 (v := ?_) ?_ ?_
      rotate_left 1
      ·intro w hSw
       obtain ⟨q0, q1, q2, q3, q4, q5⟩ := hSw
       go_simp <;> with_reducible rfl
      simp only [Act.put, List.setIfInBounds_toArray]
      dsimp only [List.set_cons_succ, List.set_cons_zero]
      refine skk 38 56 ?_
      simp only [Act.put, List.setIfInBounds_toArray]
      dsimp only [List.set_cons_succ, List.set_cons_zero]
      refine skk 39 57 ?_
      simp only [Act.put, List.setIfInBounds_toArray]
      dsimp only [List.set_cons_succ, List.set_cons_zero]
      refine skk 40 58 ?_
      simp only [Act.put, List.setIfInBounds_toArray]
      dsimp only [List.set_cons_succ, List.set_cons_zero]
      refine skk 41 59 ?_
      simp only [Act.put, List.setIfInBounds_toArray]
      dsimp only [List.set_cons_succ, List.set_cons_zero]
      refine tkk 42 60 (v := ?_) ?_ ?_
      rotate_left 1
      ·intro w hSw
       obtain ⟨q0, q1, q2, q3, q4, q5⟩ := hSw
       go_simp <;> with_reducible rfl
      simp only [Act.put, List.setIfInBounds_toArray]
      dsimp only [List.set_cons_succ, List.set_cons_zero]
      refine wpAnyH_done (by kernel_rfl) ?_ _
      go_wp2_with fail
      go_meet
      case rel => exact ⟨by rw [HW.out] <;> rfl, BD⟩
     | true =>
      have hx := inB_of' hb0
      rcases Nat.eq_zero_or_pos j with hj0 | hj0
      ·subst hj0
       have HSF : Hid (∀ y, Below X.heap.size X y → NIn wr.heap.size x x.i b2 (o2 + 0 * 5) y) := fun y hy => HSG.out y hy x.i _ D0.out
       have h00 : decide ((0 : Int) < ((0 : Nat) : Int)) = false := by decide
       have hM : M = 1 := by rw [← HMA.out]; rfl
       have HLE : Hid (inB x.i M 100000 = true) := by unfold Hid; rw [hM]; exact hb0
       clear hM hx
       cases hb1 : inB x.c 1 3 with
       | false =>
        have HW : Hid ((inB x.i M 100000 && noteB x) = false) := by unfold Hid; simp [noteB, hb1]
        refine wp_region_held_drew (S := NIn wr.heap.size x x.i b2 (o2 + 0 * 5)) (by kernel_rfl) (HSF.out _ (Below.refl _ _).drew) (fun hHeld => ?_)
        have BD : Hid (Below X.heap.size X X.drew) := (Below.refl _ _).drew
        generalize X.drew = D at BD hHeld ⊢
        refine tkk 0 18 (v := ?_) ?_ ?_
        rotate_left 1
        ·intro w hSw
         obtain ⟨q0, q1, q2, q3, q4, q5⟩ := hSw
         go_simp <;> with_reducible rfl
        simp only [Act.put, List.setIfInBounds_toArray]
        dsimp only [List.set_cons_succ, List.set_cons_zero]
        refine tkk 1 19 (v := ?_) ?_ ?_
        rotate_left 1
        ·intro w hSw
         obtain ⟨q0, q1, q2, q3, q4, q5⟩ := hSw
         go_simp <;> with_reducible rfl
        simp only [Act.put, List.setIfInBounds_toArray]
        dsimp only [List.set_cons_succ, List.set_cons_zero]
        refine wpAnyH_ready (rs := [2]) (by kernel_rfl) (by simp) ?_
        refine AllReadyH.cons rfl (fun KK hKK => ?_) AllReadyH.nil
        go_simp
        refine (l1In_any x.i 1 100000 _).mono ?_
        rintro e9 w9 ⟨rfl, rfl⟩
        simp only [hb0]
        go_simp
        refine hKK.out _ _ (HSF.out _ BD.out) (fun hHeld2 => ?_)
        clear hKK KK hHeld
        have hHeld := hHeld2
        clear hHeld2
        refine tkk 3 21 (v := ?_) ?_ ?_
        rotate_left 1
        ·intro w hSw
         obtain ⟨q0, q1, q2, q3, q4, q5⟩ := hSw
         go_simp <;> with_reducible rfl
        simp only [Act.put, List.setIfInBounds_toArray]
        dsimp only [List.set_cons_succ, List.set_cons_zero]
        refine tkk 4 22 (v := ?_) ?_ ?_
        rotate_left 1
        ·intro w hSw
         obtain ⟨q0, q1, q2, q3, q4, q5⟩ := hSw
         go_simp <;> with_reducible rfl
        simp only [Act.put, List.setIfInBounds_toArray]
        dsimp only [List.set_cons_succ, List.set_cons_zero]
        refine tkk 5 23 (v := ?_) ?_ ?_
        rotate_left 1
        ·intro w hSw
         obtain ⟨q0, q1, q2, q3, q4, q5⟩ := hSw
         go_simp <;> with_reducible rfl
        simp only [Act.put, List.setIfInBounds_toArray]
        dsimp only [List.set_cons_succ, List.set_cons_zero]
        refine tkk 6 24 (v := ?_) ?_ ?_
        rotate_left 1
        ·intro w hSw
         obtain ⟨q0, q1, q2, q3, q4, q5⟩ := hSw
         go_simp <;> with_reducible rfl
        simp only [Act.put, List.setIfInBounds_toArray]
        dsimp only [List.set_cons_succ, List.set_cons_zero]
        try simp only [h00]
        refine tkk 7 25 (v := ?_) ?_ ?_
        rotate_left 1
        ·intro w hSw
         obtain ⟨q0, q1, q2, q3, q4, q5⟩ := hSw
         go_simp <;> with_reducible rfl
        simp only [Act.put, List.setIfInBounds_toArray]
        dsimp only [List.set_cons_succ, List.set_cons_zero]
        refine skk 8 26 ?_
        simp only [Act.put, List.setIfInBounds_toArray]
        dsimp only [List.set_cons_succ, List.set_cons_zero]
        refine skk 9 27 ?_
        simp only [Act.put, List.setIfInBounds_toArray]
        dsimp only [List.set_cons_succ, List.set_cons_zero]
        refine skk 10 28 ?_
        simp only [Act.put, List.setIfInBounds_toArray]
        dsimp only [List.set_cons_succ, List.set_cons_zero]
        refine skk 11 29 ?_
        simp only [Act.put, List.setIfInBounds_toArray]
        dsimp only [List.set_cons_succ, List.set_cons_zero]
        refine skk 12 30 ?_
        simp only [Act.put, List.setIfInBounds_toArray]
        dsimp only [List.set_cons_succ, List.set_cons_zero]
        refine skk 13 31 ?_
        simp only [Act.put, List.setIfInBounds_toArray]
        dsimp only [List.set_cons_succ, List.set_cons_zero]
        refine skk 14 32 ?_
        simp only [Act.put, List.setIfInBounds_toArray]
        dsimp only [List.set_cons_succ, List.set_cons_zero]
        refine skk 15 33 ?_
        simp only [Act.put, List.setIfInBounds_toArray]
        dsimp only [List.set_cons_succ, List.set_cons_zero]
        refine skk 16 34 ?_
        simp only [Act.put, List.setIfInBounds_toArray]
        dsimp only [List.set_cons_succ, List.set_cons_zero]
        refine tkk 17 35 (v := ?_) ?_ ?_
        rotate_left 1
        ·intro w hSw
         obtain ⟨q0, q1, q2, q3, q4, q5⟩ := hSw
         go_simp <;> with_reducible rfl
        simp only [Act.put, List.setIfInBounds_toArray]
        dsimp only [List.set_cons_succ, List.set_cons_zero]
        refine tkk 18 36 (v := ?_) ?_ ?_
        rotate_left 1
        ·intro w hSw
         obtain ⟨q0, q1, q2, q3, q4, q5⟩ := hSw
         go_simp <;> with_reducible rfl
        simp only [Act.put, List.setIfInBounds_toArray]
        dsimp only [List.set_cons_succ, List.set_cons_zero]
        refine tkk 19 37 (v := ?_) ?_ ?_
        rotate_left 1
        ·intro w hSw
         obtain ⟨q0, q1, q2, q3, q4, q5⟩ := hSw
         go_simp <;> with_reducible rfl
        simp only [Act.put, List.setIfInBounds_toArray]
        dsimp only [List.set_cons_succ, List.set_cons_zero]
        refine tkk 20 38 (v := ?_) ?_ ?_
        rotate_left 1
        ·intro w hSw
         obtain ⟨q0, q1, q2, q3, q4, q5⟩ := hSw
         go_simp <;> with_reducible rfl
        simp only [Act.put, List.setIfInBounds_toArray]
        dsimp only [List.set_cons_succ, List.set_cons_zero]
        refine tkk 21 39 (v := ?_) ?_ ?_
        rotate_left 1
        ·intro w hSw
         obtain ⟨q0, q1, q2, q3, q4, q5⟩ := hSw
         go_simp <;> with_reducible rfl
        simp only [Act.put, List.setIfInBounds_toArray]
        dsimp only [List.set_cons_succ, List.set_cons_zero]
        refine wpAnyH_ready (rs := [22]) (by kernel_rfl) (by simp) ?_
        refine AllReadyH.cons rfl (fun KK hKK => ?_) AllReadyH.nil
        go_simp
        refine (l1In_any x.c 1 3 _).mono ?_
        rintro e9 w9 ⟨rfl, rfl⟩
        simp only [hb1]
        go_simp
        refine hKK.out _ _ (HSF.out _ BD.out) (fun hHeld2 => ?_)
        clear hKK KK hHeld
        have hHeld := hHeld2
        clear hHeld2
        refine tkk 23 41 (v := ?_) ?_ ?_
        rotate_left 1
        ·intro w hSw
         obtain ⟨q0, q1, q2, q3, q4, q5⟩ := hSw
         go_simp <;> with_reducible rfl
        simp only [Act.put, List.setIfInBounds_toArray]
        dsimp only [List.set_cons_succ, List.set_cons_zero]
        refine tkk 24 42 (v := ?_) ?_ ?_
        rotate_left 1
        ·intro w hSw
         obtain ⟨q0, q1, q2, q3, q4, q5⟩ := hSw
         go_simp <;> with_reducible rfl
        simp only [Act.put, List.setIfInBounds_toArray]
        dsimp only [List.set_cons_succ, List.set_cons_zero]
        refine tkk 25 43 (v := ?_) ?_ ?_
        rotate_left 1
        ·intro w hSw
         obtain ⟨q0, q1, q2, q3, q4, q5⟩ := hSw
         go_simp <;> with_reducible rfl
        simp only [Act.put, List.setIfInBounds_toArray]
        dsimp only [List.set_cons_succ, List.set_cons_zero]
        refine skk 26 44 ?_
        simp only [Act.put, List.setIfInBounds_toArray]
        dsimp only [List.set_cons_succ, List.set_cons_zero]
        refine skk 27 45 ?_
        simp only [Act.put, List.setIfInBounds_toArray]
        dsimp only [List.set_cons_succ, List.set_cons_zero]
        refine skk 28 46 ?_
        simp only [Act.put, List.setIfInBounds_toArray]
        dsimp only [List.set_cons_succ, List.set_cons_zero]
        refine skk 29 47 ?_
        simp only [Act.put, List.setIfInBounds_toArray]
        dsimp only [List.set_cons_succ, List.set_cons_zero]
        refine tkk 30 48 (v := ?_) ?_ ?_
        rotate_left 1
        ·intro w hSw
         obtain ⟨q0, q1, q2, q3, q4, q5⟩ := hSw
         go_simp <;> with_reducible rfl
        simp only [Act.put, List.setIfInBounds_toArray]
        dsimp only [List.set_cons_succ, List.set_cons_zero]
        refine tkk 31 49 (v := ?_) ?_ ?_
        rotate_left 1
        ·intro w hSw
         obtain ⟨q0, q1, q2, q3, q4, q5⟩ := hSw
         go_simp <;> with_reducible rfl
        simp only [Act.put, List.setIfInBounds_toArray]
        dsimp only [List.set_cons_succ, List.set_cons_zero]
        refine skk 32 50 ?_
        simp only [Act.put, List.setIfInBounds_toArray]
        dsimp only [List.set_cons_succ, List.set_cons_zero]
        refine skk 33 51 ?_
        simp only [Act.put, List.setIfInBounds_toArray]
        dsimp only [List.set_cons_succ, List.set_cons_zero]
        refine skk 34 52 ?_
        simp only [Act.put, List.setIfInBounds_toArray]
        dsimp only [List.set_cons_succ, List.set_cons_zero]
        refine skk 35 53 ?_
        simp only [Act.put, List.setIfInBounds_toArray]
        dsimp only [List.set_cons_succ, List.set_cons_zero]
        refine tkk 36 54 (v := ?_) ?_ ?_
        rotate_left 1
        ·intro w hSw
         obtain ⟨q0, q1, q2, q3, q4, q5⟩ := hSw
         go_simp <;> with_reducible rfl
        simp only [Act.put, List.setIfInBounds_toArray]
        dsimp only [List.set_cons_succ, List.set_cons_zero]
        refine tkk 37 55 (v := ?_) ?_ ?_
        rotate_left 1
        ·intro w hSw
         obtain ⟨q0, q1, q2, q3, q4, q5⟩ := hSw
         go_simp <;> with_reducible rfl
        simp only [Act.put, List.setIfInBounds_toArray]
        dsimp only [List.set_cons_succ, List.set_cons_zero]
        refine skk 38 56 ?_
        simp only [Act.put, List.setIfInBounds_toArray]
        dsimp only [List.set_cons_succ, List.set_cons_zero]
        refine skk 39 57 ?_
        simp only [Act.put, List.setIfInBounds_toArray]
        dsimp only [List.set_cons_succ, List.set_cons_zero]
        refine skk 40 58 ?_
        simp only [Act.put, List.setIfInBounds_toArray]
        dsimp only [List.set_cons_succ, List.set_cons_zero]
        refine skk 41 59 ?_
        simp only [Act.put, List.setIfInBounds_toArray]
        dsimp only [List.set_cons_succ, List.set_cons_zero]
        refine tkk 42 60 (v := ?_) ?_ ?_
        rotate_left 1
        ·intro w hSw
         obtain ⟨q0, q1, q2, q3, q4, q5⟩ := hSw
         go_simp <;> with_reducible rfl
        simp only [Act.put, List.setIfInBounds_toArray]
        dsimp only [List.set_cons_succ, List.set_cons_zero]
        refine wpAnyH_done (by kernel_rfl) ?_ _
        go_wp2_with fail
        go_meet
        case rel => exact ⟨by rw [HW.out] <;> rfl, BD⟩
       | true =>
        cases hb2 : inB x.s 1 1000000 with
        | false =>
         have HW : Hid ((inB x.i M 100000 && noteB x) = false) := by unfold Hid; simp [noteB, hb1, hb2]
         refine wp_region_held_drew (S := NIn wr.heap.size x x.i b2 (o2 + 0 * 5)) (by kernel_rfl) (HSF.out _ (Below.refl _ _).drew) (fun hHeld => ?_)
         have BD : Hid (Below X.heap.size X X.drew) := (Below.refl _ _).drew
         generalize X.drew = D at BD hHeld ⊢
         refine tkk 0 18 (v := ?_) ?_ ?_
         rotate_left 1
         ·intro w hSw
          obtain ⟨q0, q1, q2, q3, q4, q5⟩ := hSw
          go_simp <;> with_reducible rfl
         simp only [Act.put, List.setIfInBounds_toArray]
         dsimp only [List.set_cons_succ, List.set_cons_zero]
         refine tkk 1 19 (v := ?_) ?_ ?_
         rotate_left 1
         ·intro w hSw
          obtain ⟨q0, q1, q2, q3, q4, q5⟩ := hSw
          go_simp <;> with_reducible rfl
         simp only [Act.put, List.setIfInBounds_toArray]
         dsimp only [List.set_cons_succ, List.set_cons_zero]
         refine wpAnyH_ready (rs := [2]) (by kernel_rfl) (by simp) ?_
         refine AllReadyH.cons rfl (fun KK hKK => ?_) AllReadyH.nil
         go_simp
         refine (l1In_any x.i 1 100000 _).mono ?_
         rintro e9 w9 ⟨rfl, rfl⟩
         simp only [hb0]
         go_simp
         refine hKK.out _ _ (HSF.out _ BD.out) (fun hHeld2 => ?_)
         clear hKK KK hHeld
         have hHeld := hHeld2
         clear hHeld2
         refine tkk 3 21 (v := ?_) ?_ ?_
         rotate_left 1
         ·intro w hSw
          obtain ⟨q0, q1, q2, q3, q4, q5⟩ := hSw
          go_simp <;> with_reducible rfl
         simp only [Act.put, List.setIfInBounds_toArray]
         dsimp only [List.set_cons_succ, List.set_cons_zero]
         refine tkk 4 22 (v := ?_) ?_ ?_
         rotate_left 1
         ·intro w hSw
          obtain ⟨q0, q1, q2, q3, q4, q5⟩ := hSw
          go_simp <;> with_reducible rfl
         simp only [Act.put, List.setIfInBounds_toArray]
         dsimp only [List.set_cons_succ, List.set_cons_zero]
         refine tkk 5 23 (v := ?_) ?_ ?_
         rotate_left 1
         ·intro w hSw
          obtain ⟨q0, q1, q2, q3, q4, q5⟩ := hSw
          go_simp <;> with_reducible rfl
         simp only [Act.put, List.setIfInBounds_toArray]
         dsimp only [List.set_cons_succ, List.set_cons_zero]
         refine tkk 6 24 (v := ?_) ?_ ?_
         rotate_left 1
         ·intro w hSw
          obtain ⟨q0, q1, q2, q3, q4, q5⟩ := hSw
          go_simp <;> with_reducible rfl
         simp only [Act.put, List.setIfInBounds_toArray]
         dsimp only [List.set_cons_succ, List.set_cons_zero]
         try simp only [h00]
         refine tkk 7 25 (v := ?_) ?_ ?_
         rotate_left 1
         ·intro w hSw
          obtain ⟨q0, q1, q2, q3, q4, q5⟩ := hSw
          go_simp <;> with_reducible rfl
         simp only [Act.put, List.setIfInBounds_toArray]
         dsimp only [List.set_cons_succ, List.set_cons_zero]
         refine skk 8 26 ?_
         simp only [Act.put, List.setIfInBounds_toArray]
         dsimp only [List.set_cons_succ, List.set_cons_zero]
         refine skk 9 27 ?_
         simp only [Act.put, List.setIfInBounds_toArray]
         dsimp only [List.set_cons_succ, List.set_cons_zero]
         refine skk 10 28 ?_
         simp only [Act.put, List.setIfInBounds_toArray]
         dsimp only [List.set_cons_succ, List.set_cons_zero]
         refine skk 11 29 ?_
         simp only [Act.put, List.setIfInBounds_toArray]
         dsimp only [List.set_cons_succ, List.set_cons_zero]
         refine skk 12 30 ?_
         simp only [Act.put, List.setIfInBounds_toArray]
         dsimp only [List.set_cons_succ, List.set_cons_zero]
         refine skk 13 31 ?_
         simp only [Act.put, List.setIfInBounds_toArray]
         dsimp only [List.set_cons_succ, List.set_cons_zero]
         refine skk 14 32 ?_
         simp only [Act.put, List.setIfInBounds_toArray]
         dsimp only [List.set_cons_succ, List.set_cons_zero]
         refine skk 15 33 ?_
         simp only [Act.put, List.setIfInBounds_toArray]
         dsimp only [List.set_cons_succ, List.set_cons_zero]
         refine skk 16 34 ?_
         simp only [Act.put, List.setIfInBounds_toArray]
         dsimp only [List.set_cons_succ, List.set_cons_zero]
         refine tkk 17 35 (v := ?_) ?_ ?_
         rotate_left 1
         ·intro w hSw
          obtain ⟨q0, q1, q2, q3, q4, q5⟩ := hSw
          go_simp <;> with_reducible rfl
         simp only [Act.put, List.setIfInBounds_toArray]
         dsimp only [List.set_cons_succ, List.set_cons_zero]
         refine tkk 18 36 (v := ?_) ?_ ?_
         rotate_left 1
         ·intro w hSw
          obtain ⟨q0, q1, q2, q3, q4, q5⟩ := hSw
          go_simp <;> with_reducible rfl
         simp only [Act.put, List.setIfInBounds_toArray]
         dsimp only [List.set_cons_succ, List.set_cons_zero]
         refine tkk 19 37 (v := ?_) ?_ ?_
         rotate_left 1
         ·intro w hSw
          obtain ⟨q0, q1, q2, q3, q4, q5⟩ := hSw
          go_simp <;> with_reducible rfl
         simp only [Act.put, List.setIfInBounds_toArray]
         dsimp only [List.set_cons_succ, List.set_cons_zero]
         refine tkk 20 38 (v := ?_) ?_ ?_
         rotate_left 1
         ·intro w hSw
          obtain ⟨q0, q1, q2, q3, q4, q5⟩ := hSw
          go_simp <;> with_reducible rfl
         simp only [Act.put, List.setIfInBounds_toArray]
         dsimp only [List.set_cons_succ, List.set_cons_zero]
         refine tkk 21 39 (v := ?_) ?_ ?_
         rotate_left 1
         ·intro w hSw
          obtain ⟨q0, q1, q2, q3, q4, q5⟩ := hSw
          go_simp <;> with_reducible rfl
         simp only [Act.put, List.setIfInBounds_toArray]
         dsimp only [List.set_cons_succ, List.set_cons_zero]
         refine wpAnyH_ready (rs := [22]) (by kernel_rfl) (by simp) ?_
         refine AllReadyH.cons rfl (fun KK hKK => ?_) AllReadyH.nil
         go_simp
         refine (l1In_any x.c 1 3 _).mono ?_
         rintro e9 w9 ⟨rfl, rfl⟩
         simp only [hb1]
         go_simp
         refine hKK.out _ _ (HSF.out _ BD.out) (fun hHeld2 => ?_)
         clear hKK KK hHeld
         have hHeld := hHeld2
         clear hHeld2
         refine tkk 23 41 (v := ?_) ?_ ?_
         rotate_left 1
         ·intro w hSw
          obtain ⟨q0, q1, q2, q3, q4, q5⟩ := hSw
          go_simp <;> with_reducible rfl
         simp only [Act.put, List.setIfInBounds_toArray]
         dsimp only [List.set_cons_succ, List.set_cons_zero]
         refine tkk 24 42 (v := ?_) ?_ ?_
         rotate_left 1
         ·intro w hSw
          obtain ⟨q0, q1, q2, q3, q4, q5⟩ := hSw
          go_simp <;> with_reducible rfl
         simp only [Act.put, List.setIfInBounds_toArray]
         dsimp only [List.set_cons_succ, List.set_cons_zero]
         refine tkk 25 43 (v := ?_) ?_ ?_
         rotate_left 1
         ·intro w hSw
          obtain ⟨q0, q1, q2, q3, q4, q5⟩ := hSw
          go_simp <;> with_reducible rfl
         simp only [Act.put, List.setIfInBounds_toArray]
         dsimp only [List.set_cons_succ, List.set_cons_zero]
         refine tkk 26 44 (v := ?_) ?_ ?_
         rotate_left 1
         ·intro w hSw
          obtain ⟨q0, q1, q2, q3, q4, q5⟩ := hSw
          go_simp <;> with_reducible rfl
         simp only [Act.put, List.setIfInBounds_toArray]
         dsimp only [List.set_cons_succ, List.set_cons_zero]
         refine tkk 27 45 (v := ?_) ?_ ?_
         rotate_left 1
         ·intro w hSw
          obtain ⟨q0, q1, q2, q3, q4, q5⟩ := hSw
          go_simp <;> with_reducible rfl
         simp only [Act.put, List.setIfInBounds_toArray]
         dsimp only [List.set_cons_succ, List.set_cons_zero]
         refine wpAnyH_ready (rs := [28]) (by kernel_rfl) (by simp) ?_
         refine AllReadyH.cons rfl (fun KK hKK => ?_) AllReadyH.nil
         go_simp
         refine (l1In_any x.s 1 1000000 _).mono ?_
         rintro e9 w9 ⟨rfl, rfl⟩
         simp only [hb2]
         go_simp
         refine hKK.out _ _ (HSF.out _ BD.out) (fun hHeld2 => ?_)
         clear hKK KK hHeld
         have hHeld := hHeld2
         clear hHeld2
         refine tkk 29 47 (v := ?_) ?_ ?_
         rotate_left 1
         ·intro w hSw
          obtain ⟨q0, q1, q2, q3, q4, q5⟩ := hSw
          go_simp <;> with_reducible rfl
         simp only [Act.put, List.setIfInBounds_toArray]
         dsimp only [List.set_cons_succ, List.set_cons_zero]
         refine tkk 30 48 (v := ?_) ?_ ?_
         rotate_left 1
         ·intro w hSw
          obtain ⟨q0, q1, q2, q3, q4, q5⟩ := hSw
          go_simp <;> with_reducible rfl
         simp only [Act.put, List.setIfInBounds_toArray]
         dsimp only [List.set_cons_succ, List.set_cons_zero]
         refine tkk 31 49 (v := ?_) ?_ ?_
         rotate_left 1
         ·intro w hSw
          obtain ⟨q0, q1, q2, q3, q4, q5⟩ := hSw
          go_simp <;> with_reducible rfl
         simp only [Act.put, List.setIfInBounds_toArray]
         dsimp only [List.set_cons_succ, List.set_cons_zero]
         refine skk 32 50 ?_
         simp only [Act.put, List.setIfInBounds_toArray]
         dsimp only [List.set_cons_succ, List.set_cons_zero]
         refine skk 33 51 ?_
         simp only [Act.put, List.setIfInBounds_toArray]
         dsimp only [List.set_cons_succ, List.set_cons_zero]
         refine skk 34 52 ?_
         simp only [Act.put, List.setIfInBounds_toArray]
         dsimp only [List.set_cons_succ, List.set_cons_zero]
         refine skk 35 53 ?_
         simp only [Act.put, List.setIfInBounds_toArray]
         dsimp only [List.set_cons_succ, List.set_cons_zero]
         refine tkk 36 54 (v := ?_) ?_ ?_
         rotate_left 1
         ·intro w hSw
          obtain ⟨q0, q1, q2, q3, q4, q5⟩ := hSw
          go_simp <;> with_reducible rfl
         simp only [Act.put, List.setIfInBounds_toArray]
         dsimp only [List.set_cons_succ, List.set_cons_zero]
         refine tkk 37 55 (v := ?_) ?_ ?_
         rotate_left 1
         ·intro w hSw
          obtain ⟨q0, q1, q2, q3, q4, q5⟩ := hSw
          go_simp <;> with_reducible rfl
         simp only [Act.put, List.setIfInBounds_toArray]
         dsimp only [List.set_cons_succ, List.set_cons_zero]
         refine skk 38 56 ?_
         simp only [Act.put, List.setIfInBounds_toArray]
         dsimp only [List.set_cons_succ, List.set_cons_zero]
         refine skk 39 57 ?_
         simp only [Act.put, List.setIfInBounds_toArray]
         dsimp only [List.set_cons_succ, List.set_cons_zero]
         refine skk 40 58 ?_
         simp only [Act.put, List.setIfInBounds_toArray]
         dsimp only [List.set_cons_succ, List.set_cons_zero]
         refine skk 41 59 ?_
         simp only [Act.put, List.setIfInBounds_toArray]
         dsimp only [List.set_cons_succ, List.set_cons_zero]
         refine tkk 42 60 (v := ?_) ?_ ?_
         rotate_left 1
         ·intro w hSw
          obtain ⟨q0, q1, q2, q3, q4, q5⟩ := hSw
          go_simp <;> with_reducible rfl
         simp only [Act.put, List.setIfInBounds_toArray]
         dsimp only [List.set_cons_succ, List.set_cons_zero]
         refine wpAnyH_done (by kernel_rfl) ?_ _
         go_wp2_with fail
         go_meet
         case rel => exact ⟨by rw [HW.out] <;> rfl, BD⟩
        | true =>
         cases hb3 : inB x.k 1 22 with
         | false =>
          have HW : Hid ((inB x.i M 100000 && noteB x) = false) := by unfold Hid; simp [noteB, hb1, hb2, hb3]
          refine wp_region_held_drew (S := NIn wr.heap.size x x.i b2 (o2 + 0 * 5)) (by kernel_rfl) (HSF.out _ (Below.refl _ _).drew) (fun hHeld => ?_)
          have BD : Hid (Below X.heap.size X X.drew) := (Below.refl _ _).drew
          generalize X.drew = D at BD hHeld ⊢
          refine tkk 0 18 (v := ?_) ?_ ?_
          rotate_left 1
          ·intro w hSw
           obtain ⟨q0, q1, q2, q3, q4, q5⟩ := hSw
           go_simp <;> with_reducible rfl
          simp only [Act.put, List.setIfInBounds_toArray]
          dsimp only [List.set_cons_succ, List.set_cons_zero]
          refine tkk 1 19 (v := ?_) ?_ ?_
          rotate_left 1
          ·intro w hSw
           obtain ⟨q0, q1, q2, q3, q4, q5⟩ := hSw
           go_simp <;> with_reducible rfl
          simp only [Act.put, List.setIfInBounds_toArray]
          dsimp only [List.set_cons_succ, List.set_cons_zero]
          refine wpAnyH_ready (rs := [2]) (by kernel_rfl) (by simp) ?_
          refine AllReadyH.cons rfl (fun KK hKK => ?_) AllReadyH.nil
          go_simp
          refine (l1In_any x.i 1 100000 _).mono ?_
          rintro e9 w9 ⟨rfl, rfl⟩
          simp only [hb0]
          go_simp
          refine hKK.out _ _ (HSF.out _ BD.out) (fun hHeld2 => ?_)
          clear hKK KK hHeld
          have hHeld := hHeld2
          clear hHeld2
          refine tkk 3 21 (v := ?_) ?_ ?_
          rotate_left 1
          ·intro w hSw
           obtain ⟨q0, q1, q2, q3, q4, q5⟩ := hSw
           go_simp <;> with_reducible rfl
          simp only [Act.put, List.setIfInBounds_toArray]
          dsimp only [List.set_cons_succ, List.set_cons_zero]
          refine tkk 4 22 (v := ?_) ?_ ?_
          rotate_left 1
          ·intro w hSw
           obtain ⟨q0, q1, q2, q3, q4, q5⟩ := hSw
           go_simp <;> with_reducible rfl
          simp only [Act.put, List.setIfInBounds_toArray]
          dsimp only [List.set_cons_succ, List.set_cons_zero]
          refine tkk 5 23 (v := ?_) ?_ ?_
          rotate_left 1
          ·intro w hSw
           obtain ⟨q0, q1, q2, q3, q4, q5⟩ := hSw
           go_simp <;> with_reducible rfl
          simp only [Act.put, List.setIfInBounds_toArray]
          dsimp only [List.set_cons_succ, List.set_cons_zero]
          refine tkk 6 24 (v := ?_) ?_ ?_
          rotate_left 1
          ·intro w hSw
           obtain ⟨q0, q1, q2, q3, q4, q5⟩ := hSw
           go_simp <;> with_reducible rfl
          simp only [Act.put, List.setIfInBounds_toArray]
          dsimp only [List.set_cons_succ, List.set_cons_zero]
          try simp only [h00]
          refine tkk 7 25 (v := ?_) ?_ ?_
          rotate_left 1
          ·intro w hSw
           obtain ⟨q0, q1, q2, q3, q4, q5⟩ := hSw
           go_simp <;> with_reducible rfl
          simp only [Act.put, List.setIfInBounds_toArray]
          dsimp only [List.set_cons_succ, List.set_cons_zero]
          refine skk 8 26 ?_
          simp only [Act.put, List.setIfInBounds_toArray]
          dsimp only [List.set_cons_succ, List.set_cons_zero]
          refine skk 9 27 ?_
          simp only [Act.put, List.setIfInBounds_toArray]
          dsimp only [List.set_cons_succ, List.set_cons_zero]
          refine skk 10 28 ?_
          simp only [Act.put, List.setIfInBounds_toArray]
          dsimp only [List.set_cons_succ, List.set_cons_zero]
          refine skk 11 29 ?_
          simp only [Act.put, List.setIfInBounds_toArray]
          dsimp only [List.set_cons_succ, List.set_cons_zero]
          refine skk 12 30 ?_
          simp only [Act.put, List.setIfInBounds_toArray]
          dsimp only [List.set_cons_succ, List.set_cons_zero]
          refine skk 13 31 ?_
          simp only [Act.put, List.setIfInBounds_toArray]
          dsimp only [List.set_cons_succ, List.set_cons_zero]
          refine skk 14 32 ?_
          simp only [Act.put, List.setIfInBounds_toArray]
          dsimp only [List.set_cons_succ, List.set_cons_zero]
          refine skk 15 33 ?_
          simp only [Act.put, List.setIfInBounds_toArray]
          dsimp only [List.set_cons_succ, List.set_cons_zero]
          refine skk 16 34 ?_
          simp only [Act.put, List.setIfInBounds_toArray]
          dsimp only [List.set_cons_succ, List.set_cons_zero]
          refine tkk 17 35 (v := ?_) ?_ ?_
          rotate_left 1
          ·intro w hSw
           obtain ⟨q0, q1, q2, q3, q4, q5⟩ := hSw
           go_simp <;> with_reducible rfl
          simp only [Act.put, List.setIfInBounds_toArray]
          dsimp only [List.set_cons_succ, List.set_cons_zero]
          refine tkk 18 36 (v := ?_) ?_ ?_
          rotate_left 1
          ·intro w hSw
           obtain ⟨q0, q1, q2, q3, q4, q5⟩ := hSw
           go_simp <;> with_reducible rfl
          simp only [Act.put, List.setIfInBounds_toArray]
          dsimp only [List.set_cons_succ, List.set_cons_zero]
          refine tkk 19 37 (v := ?_) ?_ ?_
          rotate_left 1
          ·intro w hSw
           obtain ⟨q0, q1, q2, q3, q4, q5⟩ := hSw
           go_simp <;> with_reducible rfl
          simp only [Act.put, List.setIfInBounds_toArray]
          dsimp only [List.set_cons_succ, List.set_cons_zero]
          refine tkk 20 38 (v := ?_) ?_ ?_
          rotate_left 1
          ·intro w hSw
           obtain ⟨q0, q1, q2, q3, q4, q5⟩ := hSw
           go_simp <;> with_reducible rfl
          simp only [Act.put, List.setIfInBounds_toArray]
          dsimp only [List.set_cons_succ, List.set_cons_zero]
          refine tkk 21 39 (v := ?_) ?_ ?_
          rotate_left 1
          ·intro w hSw
           obtain ⟨q0, q1, q2, q3, q4, q5⟩ := hSw
           go_simp <;> with_reducible rfl
          simp only [Act.put, List.setIfInBounds_toArray]
          dsimp only [List.set_cons_succ, List.set_cons_zero]
          refine wpAnyH_ready (rs := [22]) (by kernel_rfl) (by simp) ?_
          refine AllReadyH.cons rfl (fun KK hKK => ?_) AllReadyH.nil
          go_simp
          refine (l1In_any x.c 1 3 _).mono ?_
          rintro e9 w9 ⟨rfl, rfl⟩
          simp only [hb1]
          go_simp
          refine hKK.out _ _ (HSF.out _ BD.out) (fun hHeld2 => ?_)
          clear hKK KK hHeld
          have hHeld := hHeld2
          clear hHeld2
          refine tkk 23 41 (v := ?_) ?_ ?_
          rotate_left 1
          ·intro w hSw
           obtain ⟨q0, q1, q2, q3, q4, q5⟩ := hSw
           go_simp <;> with_reducible rfl
          simp only [Act.put, List.setIfInBounds_toArray]
          dsimp only [List.set_cons_succ, List.set_cons_zero]
          refine tkk 24 42 (v := ?_) ?_ ?_
          rotate_left 1
          ·intro w hSw
           obtain ⟨q0, q1, q2, q3, q4, q5⟩ := hSw
           go_simp <;> with_reducible rfl
          simp only [Act.put, List.setIfInBounds_toArray]
          dsimp only [List.set_cons_succ, List.set_cons_zero]
          refine tkk 25 43 (v := ?_) ?_ ?_
          rotate_left 1
          ·intro w hSw
           obtain ⟨q0, q1, q2, q3, q4, q5⟩ := hSw
           go_simp <;> with_reducible rfl
          simp only [Act.put, List.setIfInBounds_toArray]
          dsimp only [List.set_cons_succ, List.set_cons_zero]
          refine tkk 26 44 (v := ?_) ?_ ?_
          rotate_left 1
          ·intro w hSw
           obtain ⟨q0, q1, q2, q3, q4, q5⟩ := hSw
           go_simp <;> with_reducible rfl
          simp only [Act.put, List.setIfInBounds_toArray]
          dsimp only [List.set_cons_succ, List.set_cons_zero]
          refine tkk 27 45 (v := ?_) ?_ ?_
          rotate_left 1
          ·intro w hSw
           obtain ⟨q0, q1, q2, q3, q4, q5⟩ := hSw
           go_simp <;> with_reducible rfl
          simp only [Act.put, List.setIfInBounds_toArray]
          dsimp only [List.set_cons_succ, List.set_cons_zero]
          refine wpAnyH_ready (rs := [28]) (by kernel_rfl) (by simp) ?_
          refine AllReadyH.cons rfl (fun KK hKK => ?_) AllReadyH.nil
          go_simp
          refine (l1In_any x.s 1 1000000 _).mono ?_
          rintro e9 w9 ⟨rfl, rfl⟩
          simp only [hb2]
          go_simp
          refine hKK.out _ _ (HSF.out _ BD.out) (fun hHeld2 => ?_)
          clear hKK KK hHeld
          have hHeld := hHeld2
          clear hHeld2
          refine tkk 29 47 (v := ?_) ?_ ?_
          rotate_left 1
          ·intro w hSw
           obtain ⟨q0, q1, q2, q3, q4, q5⟩ := hSw
           go_simp <;> with_reducible rfl
          simp only [Act.put, List.setIfInBounds_toArray]
          dsimp only [List.set_cons_succ, List.set_cons_zero]
          refine tkk 30 48 (v := ?_) ?_ ?_
          rotate_left 1
          ·intro w hSw
           obtain ⟨q0, q1, q2, q3, q4, q5⟩ := hSw
           go_simp <;> with_reducible rfl
          simp only [Act.put, List.setIfInBounds_toArray]
          dsimp only [List.set_cons_succ, List.set_cons_zero]
          refine tkk 31 49 (v := ?_) ?_ ?_
          rotate_left 1
          ·intro w hSw
           obtain ⟨q0, q1, q2, q3, q4, q5⟩ := hSw
           go_simp <;> with_reducible rfl
          simp only [Act.put, List.setIfInBounds_toArray]
          dsimp only [List.set_cons_succ, List.set_cons_zero]
          refine tkk 32 50 (v := ?_) ?_ ?_
          rotate_left 1
          ·intro w hSw
           obtain ⟨q0, q1, q2, q3, q4, q5⟩ := hSw
           go_simp <;> with_reducible rfl
          simp only [Act.put, List.setIfInBounds_toArray]
          dsimp only [List.set_cons_succ, List.set_cons_zero]
          refine tkk 33 51 (v := ?_) ?_ ?_
          rotate_left 1
          ·intro w hSw
           obtain ⟨q0, q1, q2, q3, q4, q5⟩ := hSw
           go_simp <;> with_reducible rfl
          simp only [Act.put, List.setIfInBounds_toArray]
          dsimp only [List.set_cons_succ, List.set_cons_zero]
          refine wpAnyH_ready (rs := [34]) (by kernel_rfl) (by simp) ?_
          refine AllReadyH.cons rfl (fun KK hKK => ?_) AllReadyH.nil
          go_simp
          refine (l1In_any x.k 1 22 _).mono ?_
          rintro e9 w9 ⟨rfl, rfl⟩
          simp only [hb3]
          go_simp
          refine hKK.out _ _ (HSF.out _ BD.out) (fun hHeld2 => ?_)
          clear hKK KK hHeld
          have hHeld := hHeld2
          clear hHeld2
          refine tkk 35 53 (v := ?_) ?_ ?_
          rotate_left 1
          ·intro w hSw
           obtain ⟨q0, q1, q2, q3, q4, q5⟩ := hSw
           go_simp <;> with_reducible rfl
          simp only [Act.put, List.setIfInBounds_toArray]
          dsimp only [List.set_cons_succ, List.set_cons_zero]
          refine tkk 36 54 (v := ?_) ?_ ?_
          rotate_left 1
          ·intro w hSw
           obtain ⟨q0, q1, q2, q3, q4, q5⟩ := hSw
           go_simp <;> with_reducible rfl
          simp only [Act.put, List.setIfInBounds_toArray]
          dsimp only [List.set_cons_succ, List.set_cons_zero]
          refine tkk 37 55 (v := ?_) ?_ ?_
          rotate_left 1
          ·intro w hSw
           obtain ⟨q0, q1, q2, q3, q4, q5⟩ := hSw
           go_simp <;> with_reducible rfl
          simp only [Act.put, List.setIfInBounds_toArray]
          dsimp only [List.set_cons_succ, List.set_cons_zero]
          refine skk 38 56 ?_
          simp only [Act.put, List.setIfInBounds_toArray]
          dsimp only [List.set_cons_succ, List.set_cons_zero]
          refine skk 39 57 ?_
          simp only [Act.put, List.setIfInBounds_toArray]
          dsimp only [List.set_cons_succ, List.set_cons_zero]
          refine skk 40 58 ?_
          simp only [Act.put, List.setIfInBounds_toArray]
          dsimp only [List.set_cons_succ, List.set_cons_zero]
          refine skk 41 59 ?_
          simp only [Act.put, List.setIfInBounds_toArray]
          dsimp only [List.set_cons_succ, List.set_cons_zero]
          refine tkk 42 60 (v := ?_) ?_ ?_
          rotate_left 1
          ·intro w hSw
           obtain ⟨q0, q1, q2, q3, q4, q5⟩ := hSw
           go_simp <;> with_reducible rfl
          simp only [Act.put, List.setIfInBounds_toArray]
          dsimp only [List.set_cons_succ, List.set_cons_zero]
          refine wpAnyH_done (by kernel_rfl) ?_ _
          go_wp2_with fail
          go_meet
          case rel => exact ⟨by rw [HW.out] <;> rfl, BD⟩
         | true =>
          cases hb4 : inB x.d 0 200 with
          | false =>
           have HW : Hid ((inB x.i M 100000 && noteB x) = false) := by unfold Hid; simp [noteB, hb1, hb2, hb3, hb4]
           refine wp_region_held_drew (S := NIn wr.heap.size x x.i b2 (o2 + 0 * 5)) (by kernel_rfl) (HSF.out _ (Below.refl _ _).drew) (fun hHeld => ?_)
           have BD : Hid (Below X.heap.size X X.drew) := (Below.refl _ _).drew
           generalize X.drew = D at BD hHeld ⊢
           refine tkk 0 18 (v := ?_) ?_ ?_
           rotate_left 1
           ·intro w hSw
            obtain ⟨q0, q1, q2, q3, q4, q5⟩ := hSw
            go_simp <;> with_reducible rfl
           simp only [Act.put, List.setIfInBounds_toArray]
           dsimp only [List.set_cons_succ, List.set_cons_zero]
           refine tkk 1 19 (v := ?_) ?_ ?_
           rotate_left 1
           ·intro w hSw
            obtain ⟨q0, q1, q2, q3, q4, q5⟩ := hSw
            go_simp <;> with_reducible rfl
           simp only [Act.put, List.setIfInBounds_toArray]
           dsimp only [List.set_cons_succ, List.set_cons_zero]
           refine wpAnyH_ready (rs := [2]) (by kernel_rfl) (by simp) ?_
           refine AllReadyH.cons rfl (fun KK hKK => ?_) AllReadyH.nil
           go_simp
           refine (l1In_any x.i 1 100000 _).mono ?_
           rintro e9 w9 ⟨rfl, rfl⟩
           simp only [hb0]
           go_simp
           refine hKK.out _ _ (HSF.out _ BD.out) (fun hHeld2 => ?_)
           clear hKK KK hHeld
           have hHeld := hHeld2
           clear hHeld2
           refine tkk 3 21 (v := ?_) ?_ ?_
           rotate_left 1
           ·intro w hSw
            obtain ⟨q0, q1, q2, q3, q4, q5⟩ := hSw
            go_simp <;> with_reducible rfl
           simp only [Act.put, List.setIfInBounds_toArray]
           dsimp only [List.set_cons_succ, List.set_cons_zero]
           refine tkk 4 22 (v := ?_) ?_ ?_
           rotate_left 1
           ·intro w hSw
            obtain ⟨q0, q1, q2, q3, q4, q5⟩ := hSw
            go_simp <;> with_reducible rfl
           simp only [Act.put, List.setIfInBounds_toArray]
           dsimp only [List.set_cons_succ, List.set_cons_zero]
           refine tkk 5 23 (v := ?_) ?_ ?_
           rotate_left 1
           ·intro w hSw
            obtain ⟨q0, q1, q2, q3, q4, q5⟩ := hSw
            go_simp <;> with_reducible rfl
           simp only [Act.put, List.setIfInBounds_toArray]
           dsimp only [List.set_cons_succ, List.set_cons_zero]
           refine tkk 6 24 (v := ?_) ?_ ?_
           rotate_left 1
           ·intro w hSw
            obtain ⟨q0, q1, q2, q3, q4, q5⟩ := hSw
            go_simp <;> with_reducible rfl
           simp only [Act.put, List.setIfInBounds_toArray]
           dsimp only [List.set_cons_succ, List.set_cons_zero]
           try simp only [h00]
           refine tkk 7 25 (v := ?_) ?_ ?_
           rotate_left 1
           ·intro w hSw
            obtain ⟨q0, q1, q2, q3, q4, q5⟩ := hSw
            go_simp <;> with_reducible rfl
           simp only [Act.put, List.setIfInBounds_toArray]
           dsimp only [List.set_cons_succ, List.set_cons_zero]
           refine skk 8 26 ?_
           simp only [Act.put, List.setIfInBounds_toArray]
           dsimp only [List.set_cons_succ, List.set_cons_zero]
           refine skk 9 27 ?_
           simp only [Act.put, List.setIfInBounds_toArray]
           dsimp only [List.set_cons_succ, List.set_cons_zero]
           refine skk 10 28 ?_
           simp only [Act.put, List.setIfInBounds_toArray]
           dsimp only [List.set_cons_succ, List.set_cons_zero]
           refine skk 11 29 ?_
           simp only [Act.put, List.setIfInBounds_toArray]
           dsimp only [List.set_cons_succ, List.set_cons_zero]
           refine skk 12 30 ?_
           simp only [Act.put, List.setIfInBounds_toArray]
           dsimp only [List.set_cons_succ, List.set_cons_zero]
           refine skk 13 31 ?_
           simp only [Act.put, List.setIfInBounds_toArray]
           dsimp only [List.set_cons_succ, List.set_cons_zero]
           refine skk 14 32 ?_
           simp only [Act.put, List.setIfInBounds_toArray]
           dsimp only [List.set_cons_succ, List.set_cons_zero]
           refine skk 15 33 ?_
           simp only [Act.put, List.setIfInBounds_toArray]
           dsimp only [List.set_cons_succ, List.set_cons_zero]
           refine skk 16 34 ?_
           simp only [Act.put, List.setIfInBounds_toArray]
           dsimp only [List.set_cons_succ, List.set_cons_zero]
           refine tkk 17 35 (v := ?_) ?_ ?_
           rotate_left 1
           ·intro w hSw
            obtain ⟨q0, q1, q2, q3, q4, q5⟩ := hSw
            go_simp <;> with_reducible rfl
           simp only [Act.put, List.setIfInBounds_toArray]
           dsimp only [List.set_cons_succ, List.set_cons_zero]
           refine tkk 18 36 (v := ?_) ?_ ?_
           rotate_left 1
           ·intro w hSw
            obtain ⟨q0, q1, q2, q3, q4, q5⟩ := hSw
            go_simp <;> with_reducible rfl
           simp only [Act.put, List.setIfInBounds_toArray]
           dsimp only [List.set_cons_succ, List.set_cons_zero]
           refine tkk 19 37 (v := ?_) ?_ ?_
           rotate_left 1
           ·intro w hSw
            obtain ⟨q0, q1, q2, q3, q4, q5⟩ := hSw
            go_simp <;> with_reducible rfl
           simp only [Act.put, List.setIfInBounds_toArray]
           dsimp only [List.set_cons_succ, List.set_cons_zero]
           refine tkk 20 38 (v := ?_) ?_ ?_
           rotate_left 1
           ·intro w hSw
            obtain ⟨q0, q1, q2, q3, q4, q5⟩ := hSw
            go_simp <;> with_reducible rfl
           simp only [Act.put, List.setIfInBounds_toArray]
           dsimp only [List.set_cons_succ, List.set_cons_zero]
           refine tkk 21 39 (v := ?_) ?_ ?_
           rotate_left 1
           ·intro w hSw
            obtain ⟨q0, q1, q2, q3, q4, q5⟩ := hSw
            go_simp <;> with_reducible rfl
           simp only [Act.put, List.setIfInBounds_toArray]
           dsimp only [List.set_cons_succ, List.set_cons_zero]
           refine wpAnyH_ready (rs := [22]) (by kernel_rfl) (by simp) ?_
           refine AllReadyH.cons rfl (fun KK hKK => ?_) AllReadyH.nil
           go_simp
           refine (l1In_any x.c 1 3 _).mono ?_
           rintro e9 w9 ⟨rfl, rfl⟩
           simp only [hb1]
           go_simp
           refine hKK.out _ _ (HSF.out _ BD.out) (fun hHeld2 => ?_)
           clear hKK KK hHeld
           have hHeld := hHeld2
           clear hHeld2
           refine tkk 23 41 (v := ?_) ?_ ?_
           rotate_left 1
           ·intro w hSw
            obtain ⟨q0, q1, q2, q3, q4, q5⟩ := hSw
            go_simp <;> with_reducible rfl
           simp only [Act.put, List.setIfInBounds_toArray]
           dsimp only [List.set_cons_succ, List.set_cons_zero]
           refine tkk 24 42 (v := ?_) ?_ ?_
           rotate_left 1
           ·intro w hSw
            obtain ⟨q0, q1, q2, q3, q4, q5⟩ := hSw
            go_simp <;> with_reducible rfl
           simp only [Act.put, List.setIfInBounds_toArray]
           dsimp only [List.set_cons_succ, List.set_cons_zero]
           refine tkk 25 43 (v := ?_) ?_ ?_
           rotate_left 1
           ·intro w hSw
            obtain ⟨q0, q1, q2, q3, q4, q5⟩ := hSw
            go_simp <;> with_reducible rfl
           simp only [Act.put, List.setIfInBounds_toArray]
           dsimp only [List.set_cons_succ, List.set_cons_zero]
           refine tkk 26 44 (v := ?_) ?_ ?_
           rotate_left 1
           ·intro w hSw
            obtain ⟨q0, q1, q2, q3, q4, q5⟩ := hSw
            go_simp <;> with_reducible rfl
           simp only [Act.put, List.setIfInBounds_toArray]
           dsimp only [List.set_cons_succ, List.set_cons_zero]
           refine tkk 27 45 (v := ?_) ?_ ?_
           rotate_left 1
           ·intro w hSw
            obtain ⟨q0, q1, q2, q3, q4, q5⟩ := hSw
            go_simp <;> with_reducible rfl
           simp only [Act.put, List.setIfInBounds_toArray]
           dsimp only [List.set_cons_succ, List.set_cons_zero]
           refine wpAnyH_ready (rs := [28]) (by kernel_rfl) (by simp) ?_
           refine AllReadyH.cons rfl (fun KK hKK => ?_) AllReadyH.nil
           go_simp
           refine (l1In_any x.s 1 1000000 _).mono ?_
           rintro e9 w9 ⟨rfl, rfl⟩
           simp only [hb2]
           go_simp
           refine hKK.out _ _ (HSF.out _ BD.out) (fun hHeld2 => ?_)
           clear hKK KK hHeld
           have hHeld := hHeld2
           clear hHeld2
           refine tkk 29 47 (v := ?_) ?_ ?_
           rotate_left 1
           ·intro w hSw
            obtain ⟨q0, q1, q2, q3, q4, q5⟩ := hSw
            go_simp <;> with_reducible rfl
           simp only [Act.put, List.setIfInBounds_toArray]
           dsimp only [List.set_cons_succ, List.set_cons_zero]
           refine tkk 30 48 (v := ?_) ?_ ?_
           rotate_left 1
           ·intro w hSw
            obtain ⟨q0, q1, q2, q3, q4, q5⟩ := hSw
            go_simp <;> with_reducible rfl
           simp only [Act.put, List.setIfInBounds_toArray]
           dsimp only [List.set_cons_succ, List.set_cons_zero]
           refine tkk 31 49 (v := ?_) ?_ ?_
           rotate_left 1
           ·intro w hSw
            obtain ⟨q0, q1, q2, q3, q4, q5⟩ := hSw
            go_simp <;> with_reducible rfl
           simp only [Act.put, List.setIfInBounds_toArray]
           dsimp only [List.set_cons_succ, List.set_cons_zero]
           refine tkk 32 50 (v := ?_) ?_ ?_
           rotate_left 1
           ·intro w hSw
            obtain ⟨q0, q1, q2, q3, q4, q5⟩ := hSw
            go_simp <;> with_reducible rfl
           simp only [Act.put, List.setIfInBounds_toArray]
           dsimp only [List.set_cons_succ, List.set_cons_zero]
           refine tkk 33 51 (v := ?_) ?_ ?_
           rotate_left 1
           ·intro w hSw
            obtain ⟨q0, q1, q2, q3, q4, q5⟩ := hSw
            go_simp <;> with_reducible rfl
           simp only [Act.put, List.setIfInBounds_toArray]
           dsimp only [List.set_cons_succ, List.set_cons_zero]
           refine wpAnyH_ready (rs := [34]) (by kernel_rfl) (by simp) ?_
           refine AllReadyH.cons rfl (fun KK hKK => ?_) AllReadyH.nil
           go_simp
           refine (l1In_any x.k 1 22 _).mono ?_
           rintro e9 w9 ⟨rfl, rfl⟩
           simp only [hb3]
           go_simp
           refine hKK.out _ _ (HSF.out _ BD.out) (fun hHeld2 => ?_)
           clear hKK KK hHeld
           have hHeld := hHeld2
           clear hHeld2
           refine tkk 35 53 (v := ?_) ?_ ?_
           rotate_left 1
           ·intro w hSw
            obtain ⟨q0, q1, q2, q3, q4, q5⟩ := hSw
            go_simp <;> with_reducible rfl
           simp only [Act.put, List.setIfInBounds_toArray]
           dsimp only [List.set_cons_succ, List.set_cons_zero]
           refine tkk 36 54 (v := ?_) ?_ ?_
           rotate_left 1
           ·intro w hSw
            obtain ⟨q0, q1, q2, q3, q4, q5⟩ := hSw
            go_simp <;> with_reducible rfl
           simp only [Act.put, List.setIfInBounds_toArray]
           dsimp only [List.set_cons_succ, List.set_cons_zero]
           refine tkk 37 55 (v := ?_) ?_ ?_
           rotate_left 1
           ·intro w hSw
            obtain ⟨q0, q1, q2, q3, q4, q5⟩ := hSw
            go_simp <;> with_reducible rfl
           simp only [Act.put, List.setIfInBounds_toArray]
           dsimp only [List.set_cons_succ, List.set_cons_zero]
           refine tkk 38 56 (v := ?_) ?_ ?_
           rotate_left 1
           ·intro w hSw
            obtain ⟨q0, q1, q2, q3, q4, q5⟩ := hSw
            go_simp <;> with_reducible rfl
           simp only [Act.put, List.setIfInBounds_toArray]
           dsimp only [List.set_cons_succ, List.set_cons_zero]
           refine tkk 39 57 (v := ?_) ?_ ?_
           rotate_left 1
           ·intro w hSw
            obtain ⟨q0, q1, q2, q3, q4, q5⟩ := hSw
            go_simp <;> with_reducible rfl
           simp only [Act.put, List.setIfInBounds_toArray]
           dsimp only [List.set_cons_succ, List.set_cons_zero]
           refine wpAnyH_ready (rs := [40]) (by kernel_rfl) (by simp) ?_
           refine AllReadyH.cons rfl (fun KK hKK => ?_) AllReadyH.nil
           go_simp
           refine (l1In_any x.d 0 200 _).mono ?_
           rintro e9 w9 ⟨rfl, rfl⟩
           simp only [hb4]
           go_simp
           refine hKK.out _ _ (HSF.out _ BD.out) (fun hHeld2 => ?_)
           clear hKK KK hHeld
           have hHeld := hHeld2
           clear hHeld2
           refine tkk 41 59 (v := ?_) ?_ ?_
           rotate_left 1
           ·intro w hSw
            obtain ⟨q0, q1, q2, q3, q4, q5⟩ := hSw
            go_simp <;> with_reducible rfl
           simp only [Act.put, List.setIfInBounds_toArray]
           dsimp only [List.set_cons_succ, List.set_cons_zero]
           refine tkk 42 60 (v := ?_) ?_ ?_
           rotate_left 1
           ·intro w hSw
            obtain ⟨q0, q1, q2, q3, q4, q5⟩ := hSw
            go_simp <;> with_reducible rfl
           simp only [Act.put, List.setIfInBounds_toArray]
           dsimp only [List.set_cons_succ, List.set_cons_zero]
           refine wpAnyH_done (by kernel_rfl) ?_ _
           go_wp2_with fail
           go_meet
           case rel => exact ⟨by rw [HW.out] <;> rfl, BD⟩
          | true =>
           have HW : Hid ((inB x.i M 100000 && noteB x) = true) := by unfold Hid; simp [noteB, HLE.out, hb1, hb2, hb3, hb4]
           refine wp_region_held_drew (S := NIn wr.heap.size x x.i b2 (o2 + 0 * 5)) (by kernel_rfl) (HSF.out _ (Below.refl _ _).drew) (fun hHeld => ?_)
           have BD : Hid (Below X.heap.size X X.drew) := (Below.refl _ _).drew
           generalize X.drew = D at BD hHeld ⊢
           refine tkk 0 18 (v := ?_) ?_ ?_
           rotate_left 1
           ·intro w hSw
            obtain ⟨q0, q1, q2, q3, q4, q5⟩ := hSw
            go_simp <;> with_reducible rfl
           simp only [Act.put, List.setIfInBounds_toArray]
           dsimp only [List.set_cons_succ, List.set_cons_zero]
           refine tkk 1 19 (v := ?_) ?_ ?_
           rotate_left 1
           ·intro w hSw
            obtain ⟨q0, q1, q2, q3, q4, q5⟩ := hSw
            go_simp <;> with_reducible rfl
           simp only [Act.put, List.setIfInBounds_toArray]
           dsimp only [List.set_cons_succ, List.set_cons_zero]
           refine wpAnyH_ready (rs := [2]) (by kernel_rfl) (by simp) ?_
           refine AllReadyH.cons rfl (fun KK hKK => ?_) AllReadyH.nil
           go_simp
           refine (l1In_any x.i 1 100000 _).mono ?_
           rintro e9 w9 ⟨rfl, rfl⟩
           simp only [hb0]
           go_simp
           refine hKK.out _ _ (HSF.out _ BD.out) (fun hHeld2 => ?_)
           clear hKK KK hHeld
           have hHeld := hHeld2
           clear hHeld2
           refine tkk 3 21 (v := ?_) ?_ ?_
           rotate_left 1
           ·intro w hSw
            obtain ⟨q0, q1, q2, q3, q4, q5⟩ := hSw
            go_simp <;> with_reducible rfl
           simp only [Act.put, List.setIfInBounds_toArray]
           dsimp only [List.set_cons_succ, List.set_cons_zero]
           refine tkk 4 22 (v := ?_) ?_ ?_
           rotate_left 1
           ·intro w hSw
            obtain ⟨q0, q1, q2, q3, q4, q5⟩ := hSw
            go_simp <;> with_reducible rfl
           simp only [Act.put, List.setIfInBounds_toArray]
           dsimp only [List.set_cons_succ, List.set_cons_zero]
           refine tkk 5 23 (v := ?_) ?_ ?_
           rotate_left 1
           ·intro w hSw
            obtain ⟨q0, q1, q2, q3, q4, q5⟩ := hSw
            go_simp <;> with_reducible rfl
           simp only [Act.put, List.setIfInBounds_toArray]
           dsimp only [List.set_cons_succ, List.set_cons_zero]
           refine tkk 6 24 (v := ?_) ?_ ?_
           rotate_left 1
           ·intro w hSw
            obtain ⟨q0, q1, q2, q3, q4, q5⟩ := hSw
            go_simp <;> with_reducible rfl
           simp only [Act.put, List.setIfInBounds_toArray]
           dsimp only [List.set_cons_succ, List.set_cons_zero]
           try simp only [h00]
           refine tkk 7 25 (v := ?_) ?_ ?_
           rotate_left 1
           ·intro w hSw
            obtain ⟨q0, q1, q2, q3, q4, q5⟩ := hSw
            go_simp <;> with_reducible rfl
           simp only [Act.put, List.setIfInBounds_toArray]
           dsimp only [List.set_cons_succ, List.set_cons_zero]
           refine skk 8 26 ?_
           simp only [Act.put, List.setIfInBounds_toArray]
           dsimp only [List.set_cons_succ, List.set_cons_zero]
           refine skk 9 27 ?_
           simp only [Act.put, List.setIfInBounds_toArray]
           dsimp only [List.set_cons_succ, List.set_cons_zero]
           refine skk 10 28 ?_
           simp only [Act.put, List.setIfInBounds_toArray]
           dsimp only [List.set_cons_succ, List.set_cons_zero]
           refine skk 11 29 ?_
           simp only [Act.put, List.setIfInBounds_toArray]
           dsimp only [List.set_cons_succ, List.set_cons_zero]
           refine skk 12 30 ?_
           simp only [Act.put, List.setIfInBounds_toArray]
           dsimp only [List.set_cons_succ, List.set_cons_zero]
           refine skk 13 31 ?_
           simp only [Act.put, List.setIfInBounds_toArray]
           dsimp only [List.set_cons_succ, List.set_cons_zero]
           refine skk 14 32 ?_
           simp only [Act.put, List.setIfInBounds_toArray]
           dsimp only [List.set_cons_succ, List.set_cons_zero]
           refine skk 15 33 ?_
           simp only [Act.put, List.setIfInBounds_toArray]
           dsimp only [List.set_cons_succ, List.set_cons_zero]
           refine skk 16 34 ?_
           simp only [Act.put, List.setIfInBounds_toArray]
           dsimp only [List.set_cons_succ, List.set_cons_zero]
           refine tkk 17 35 (v := ?_) ?_ ?_
           rotate_left 1
           ·intro w hSw
            obtain ⟨q0, q1, q2, q3, q4, q5⟩ := hSw
            go_simp <;> with_reducible rfl
           simp only [Act.put, List.setIfInBounds_toArray]
           dsimp only [List.set_cons_succ, List.set_cons_zero]
           refine tkk 18 36 (v := ?_) ?_ ?_
           rotate_left 1
           ·intro w hSw
            obtain ⟨q0, q1, q2, q3, q4, q5⟩ := hSw
            go_simp <;> with_reducible rfl
           simp only [Act.put, List.setIfInBounds_toArray]
           dsimp only [List.set_cons_succ, List.set_cons_zero]
           refine tkk 19 37 (v := ?_) ?_ ?_
           rotate_left 1
           ·intro w hSw
            obtain ⟨q0, q1, q2, q3, q4, q5⟩ := hSw
            go_simp <;> with_reducible rfl
           simp only [Act.put, List.setIfInBounds_toArray]
           dsimp only [List.set_cons_succ, List.set_cons_zero]
           refine tkk 20 38 (v := ?_) ?_ ?_
           rotate_left 1
           ·intro w hSw
            obtain ⟨q0, q1, q2, q3, q4, q5⟩ := hSw
            go_simp <;> with_reducible rfl
           simp only [Act.put, List.setIfInBounds_toArray]
           dsimp only [List.set_cons_succ, List.set_cons_zero]
           refine tkk 21 39 (v := ?_) ?_ ?_
           rotate_left 1
           ·intro w hSw
            obtain ⟨q0, q1, q2, q3, q4, q5⟩ := hSw
            go_simp <;> with_reducible rfl
           simp only [Act.put, List.setIfInBounds_toArray]
           dsimp only [List.set_cons_succ, List.set_cons_zero]
           refine wpAnyH_ready (rs := [22]) (by kernel_rfl) (by simp) ?_
           refine AllReadyH.cons rfl (fun KK hKK => ?_) AllReadyH.nil
           go_simp
           refine (l1In_any x.c 1 3 _).mono ?_
           rintro e9 w9 ⟨rfl, rfl⟩
           simp only [hb1]
           go_simp
           refine hKK.out _ _ (HSF.out _ BD.out) (fun hHeld2 => ?_)
           clear hKK KK hHeld
           have hHeld := hHeld2
           clear hHeld2
           refine tkk 23 41 (v := ?_) ?_ ?_
           rotate_left 1
           ·intro w hSw
            obtain ⟨q0, q1, q2, q3, q4, q5⟩ := hSw
            go_simp <;> with_reducible rfl
           simp only [Act.put, List.setIfInBounds_toArray]
           dsimp only [List.set_cons_succ, List.set_cons_zero]
           refine tkk 24 42 (v := ?_) ?_ ?_
           rotate_left 1
           ·intro w hSw
            obtain ⟨q0, q1, q2, q3, q4, q5⟩ := hSw
            go_simp <;> with_reducible rfl
           simp only [Act.put, List.setIfInBounds_toArray]
           dsimp only [List.set_cons_succ, List.set_cons_zero]
           refine tkk 25 43 (v := ?_) ?_ ?_
           rotate_left 1
           ·intro w hSw
            obtain ⟨q0, q1, q2, q3, q4, q5⟩ := hSw
            go_simp <;> with_reducible rfl
           simp only [Act.put, List.setIfInBounds_toArray]
           dsimp only [List.set_cons_succ, List.set_cons_zero]
           refine tkk 26 44 (v := ?_) ?_ ?_
           rotate_left 1
           ·intro w hSw
            obtain ⟨q0, q1, q2, q3, q4, q5⟩ := hSw
            go_simp <;> with_reducible rfl
           simp only [Act.put, List.setIfInBounds_toArray]
           dsimp only [List.set_cons_succ, List.set_cons_zero]
           refine tkk 27 45 (v := ?_) ?_ ?_
           rotate_left 1
           ·intro w hSw
            obtain ⟨q0, q1, q2, q3, q4, q5⟩ := hSw
            go_simp <;> with_reducible rfl
           simp only [Act.put, List.setIfInBounds_toArray]
           dsimp only [List.set_cons_succ, List.set_cons_zero]
           refine wpAnyH_ready (rs := [28]) (by kernel_rfl) (by simp) ?_
           refine AllReadyH.cons rfl (fun KK hKK => ?_) AllReadyH.nil
           go_simp
           refine (l1In_any x.s 1 1000000 _).mono ?_
           rintro e9 w9 ⟨rfl, rfl⟩
           simp only [hb2]
           go_simp
           refine hKK.out _ _ (HSF.out _ BD.out) (fun hHeld2 => ?_)
           clear hKK KK hHeld
           have hHeld := hHeld2
           clear hHeld2
           refine tkk 29 47 (v := ?_) ?_ ?_
           rotate_left 1
           ·intro w hSw
            obtain ⟨q0, q1, q2, q3, q4, q5⟩ := hSw
            go_simp <;> with_reducible rfl
           simp only [Act.put, List.setIfInBounds_toArray]
           dsimp only [List.set_cons_succ, List.set_cons_zero]
           refine tkk 30 48 (v := ?_) ?_ ?_
           rotate_left 1
           ·intro w hSw
            obtain ⟨q0, q1, q2, q3, q4, q5⟩ := hSw
            go_simp <;> with_reducible rfl
           simp only [Act.put, List.setIfInBounds_toArray]
           dsimp only [List.set_cons_succ, List.set_cons_zero]
           refine tkk 31 49 (v := ?_) ?_ ?_
           rotate_left 1
           ·intro w hSw
            obtain ⟨q0, q1, q2, q3, q4, q5⟩ := hSw
            go_simp <;> with_reducible rfl
           simp only [Act.put, List.setIfInBounds_toArray]
           dsimp only [List.set_cons_succ, List.set_cons_zero]
           refine tkk 32 50 (v := ?_) ?_ ?_
           rotate_left 1
           ·intro w hSw
            obtain ⟨q0, q1, q2, q3, q4, q5⟩ := hSw
            go_simp <;> with_reducible rfl
           simp only [Act.put, List.setIfInBounds_toArray]
           dsimp only [List.set_cons_succ, List.set_cons_zero]
           refine tkk 33 51 (v := ?_) ?_ ?_
           rotate_left 1
           ·intro w hSw
            obtain ⟨q0, q1, q2, q3, q4, q5⟩ := hSw
            go_simp <;> with_reducible rfl
           simp only [Act.put, List.setIfInBounds_toArray]
           dsimp only [List.set_cons_succ, List.set_cons_zero]
           refine wpAnyH_ready (rs := [34]) (by kernel_rfl) (by simp) ?_
           refine AllReadyH.cons rfl (fun KK hKK => ?_) AllReadyH.nil
           go_simp
           refine (l1In_any x.k 1 22 _).mono ?_
           rintro e9 w9 ⟨rfl, rfl⟩
           simp only [hb3]
           go_simp
           refine hKK.out _ _ (HSF.out _ BD.out) (fun hHeld2 => ?_)
           clear hKK KK hHeld
           have hHeld := hHeld2
           clear hHeld2
           refine tkk 35 53 (v := ?_) ?_ ?_
           rotate_left 1
           ·intro w hSw
            obtain ⟨q0, q1, q2, q3, q4, q5⟩ := hSw
            go_simp <;> with_reducible rfl
           simp only [Act.put, List.setIfInBounds_toArray]
           dsimp only [List.set_cons_succ, List.set_cons_zero]
           refine tkk 36 54 (v := ?_) ?_ ?_
           rotate_left 1
           ·intro w hSw
            obtain ⟨q0, q1, q2, q3, q4, q5⟩ := hSw
            go_simp <;> with_reducible rfl
           simp only [Act.put, List.setIfInBounds_toArray]
           dsimp only [List.set_cons_succ, List.set_cons_zero]
           refine tkk 37 55 (v := ?_) ?_ ?_
           rotate_left 1
           ·intro w hSw
            obtain ⟨q0, q1, q2, q3, q4, q5⟩ := hSw
            go_simp <;> with_reducible rfl
           simp only [Act.put, List.setIfInBounds_toArray]
           dsimp only [List.set_cons_succ, List.set_cons_zero]
           refine tkk 38 56 (v := ?_) ?_ ?_
           rotate_left 1
           ·intro w hSw
            obtain ⟨q0, q1, q2, q3, q4, q5⟩ := hSw
            go_simp <;> with_reducible rfl
           simp only [Act.put, List.setIfInBounds_toArray]
           dsimp only [List.set_cons_succ, List.set_cons_zero]
           refine tkk 39 57 (v := ?_) ?_ ?_
           rotate_left 1
           ·intro w hSw
            obtain ⟨q0, q1, q2, q3, q4, q5⟩ := hSw
            go_simp <;> with_reducible rfl
           simp only [Act.put, List.setIfInBounds_toArray]
           dsimp only [List.set_cons_succ, List.set_cons_zero]
           refine wpAnyH_ready (rs := [40]) (by kernel_rfl) (by simp) ?_
           refine AllReadyH.cons rfl (fun KK hKK => ?_) AllReadyH.nil
           go_simp
           refine (l1In_any x.d 0 200 _).mono ?_
           rintro e9 w9 ⟨rfl, rfl⟩
           simp only [hb4]
           go_simp
           refine hKK.out _ _ (HSF.out _ BD.out) (fun hHeld2 => ?_)
           clear hKK KK hHeld
           have hHeld := hHeld2
           clear hHeld2
           refine tkk 41 59 (v := ?_) ?_ ?_
           rotate_left 1
           ·intro w hSw
            obtain ⟨q0, q1, q2, q3, q4, q5⟩ := hSw
            go_simp <;> with_reducible rfl
           simp only [Act.put, List.setIfInBounds_toArray]
           dsimp only [List.set_cons_succ, List.set_cons_zero]
           refine tkk 42 60 (v := ?_) ?_ ?_
           rotate_left 1
           ·intro w hSw
            obtain ⟨q0, q1, q2, q3, q4, q5⟩ := hSw
            go_simp <;> with_reducible rfl
           simp only [Act.put, List.setIfInBounds_toArray]
           dsimp only [List.set_cons_succ, List.set_cons_zero]
           refine wpAnyH_done (by kernel_rfl) ?_ _
           go_wp2_with fail
           go_meet
           case rel => exact ⟨by rw [HW.out] <;> rfl, BD⟩
      ·obtain ⟨k, rfl⟩ : ∃ k, j = k + 1 := ⟨j - 1, by omega⟩
       have hk : k < L.length := by omega
       obtain ⟨d2', _⟩ := HDD.out k hk
       have hah : M = L[k].i := by rw [← HMA.out]; simp [aheadQ, List.getElem?_eq_getElem hk]
       generalize L[k].i = pn at d2' hah
       replace d2' := atCell HBW.out d2' (by omega)
       have HSF : Hid (∀ y, Below X.heap.size X y → NIn wr.heap.size x pn b2 (o2 + k * 5) y) := fun y hy => HSG.out y hy pn _ d2'
       have h00 : decide ((0 : Int) < ((k + 1 : Nat) : Int)) = true := decide_eq_true (by omega)
       have hsub : IntKind.i64.wrap (((k + 1 : Nat) : Int) - 1) = (k : Int) := by rw [IntKind.wrap_i64]; omega
       have hsub3 : IntKind.i64.wrap (k : Int) = (k : Int) := by rw [IntKind.wrap_i64]; omega
       have hsub2 : IntKind.i64.wrap ((k : Int) + 1 - 1) = (k : Int) := by rw [IntKind.wrap_i64]; omega
       have h00' : decide ((0 : Int) < (k : Int) + 1) = true := decide_eq_true (by omega)
       have i2 : (0 : Int) ≤ (k : Int) ∧ (k : Int) < (L.length : Int) := by omega
       have HAH := Hid.intro hah
       clear hah d2'
       by_cases hpx : x.i < pn
       ·have hgt : decide (x.i < pn) = true := decide_eq_true hpx
        have HW : Hid ((inB x.i M 100000 && noteB x) = false) := by unfold Hid; rw [show inB x.i M 100000 = false from inB_false (by rw [HAH.out]; omega)]; rfl
        clear hx hpx
        refine wp_region_held_drew (S := NIn wr.heap.size x pn b2 (o2 + k * 5)) (by kernel_rfl) (HSF.out _ (Below.refl _ _).drew) (fun hHeld => ?_)
        have BD : Hid (Below X.heap.size X X.drew) := (Below.refl _ _).drew
        generalize X.drew = D at BD hHeld ⊢
        refine tkk 0 18 (v := ?_) ?_ ?_
        rotate_left 1
        ·intro w hSw
         obtain ⟨q0, q1, q2, q3, q4, q5⟩ := hSw
         go_simp <;> with_reducible rfl
        simp only [Act.put, List.setIfInBounds_toArray]
        dsimp only [List.set_cons_succ, List.set_cons_zero]
        refine tkk 1 19 (v := ?_) ?_ ?_
        rotate_left 1
        ·intro w hSw
         obtain ⟨q0, q1, q2, q3, q4, q5⟩ := hSw
         go_simp <;> with_reducible rfl
        simp only [Act.put, List.setIfInBounds_toArray]
        dsimp only [List.set_cons_succ, List.set_cons_zero]
        refine wpAnyH_ready (rs := [2]) (by kernel_rfl) (by simp) ?_
        refine AllReadyH.cons rfl (fun KK hKK => ?_) AllReadyH.nil
        go_simp
        refine (l1In_any x.i 1 100000 _).mono ?_
        rintro e9 w9 ⟨rfl, rfl⟩
        simp only [hb0]
        go_simp
        refine hKK.out _ _ (HSF.out _ BD.out) (fun hHeld2 => ?_)
        clear hKK KK hHeld
        have hHeld := hHeld2
        clear hHeld2
        refine tkk 3 21 (v := ?_) ?_ ?_
        rotate_left 1
        ·intro w hSw
         obtain ⟨q0, q1, q2, q3, q4, q5⟩ := hSw
         go_simp <;> with_reducible rfl
        simp only [Act.put, List.setIfInBounds_toArray]
        dsimp only [List.set_cons_succ, List.set_cons_zero]
        refine tkk 4 22 (v := ?_) ?_ ?_
        rotate_left 1
        ·intro w hSw
         obtain ⟨q0, q1, q2, q3, q4, q5⟩ := hSw
         go_simp <;> with_reducible rfl
        simp only [Act.put, List.setIfInBounds_toArray]
        dsimp only [List.set_cons_succ, List.set_cons_zero]
        refine tkk 5 23 (v := ?_) ?_ ?_
        rotate_left 1
        ·intro w hSw
         obtain ⟨q0, q1, q2, q3, q4, q5⟩ := hSw
         go_simp <;> with_reducible rfl
        simp only [Act.put, List.setIfInBounds_toArray]
        dsimp only [List.set_cons_succ, List.set_cons_zero]
        refine tkk 6 24 (v := ?_) ?_ ?_
        rotate_left 1
        ·intro w hSw
         obtain ⟨q0, q1, q2, q3, q4, q5⟩ := hSw
         go_simp <;> with_reducible rfl
        simp only [Act.put, List.setIfInBounds_toArray]
        dsimp only [List.set_cons_succ, List.set_cons_zero]
        first | simp only [h00] | simp only [h00'] | skip
        refine tkk 7 25 (v := ?_) ?_ ?_
        rotate_left 1
        ·intro w hSw
         obtain ⟨q0, q1, q2, q3, q4, q5⟩ := hSw
         go_simp <;> with_reducible rfl
        simp only [Act.put, List.setIfInBounds_toArray]
        dsimp only [List.set_cons_succ, List.set_cons_zero]
        refine tkk 8 26 (v := ?_) ?_ ?_
        rotate_left 1
        ·intro w hSw
         obtain ⟨q0, q1, q2, q3, q4, q5⟩ := hSw
         go_simp <;> with_reducible rfl
        simp only [Act.put, List.setIfInBounds_toArray]
        dsimp only [List.set_cons_succ, List.set_cons_zero]
        refine tkk 9 27 (v := ?_) ?_ ?_
        rotate_left 1
        ·intro w hSw
         obtain ⟨q0, q1, q2, q3, q4, q5⟩ := hSw
         go_simp <;> with_reducible rfl
        simp only [Act.put, List.setIfInBounds_toArray]
        dsimp only [List.set_cons_succ, List.set_cons_zero]
        refine tkk 10 28 (v := ?_) ?_ ?_
        rotate_left 1
        ·intro w hSw
         obtain ⟨q0, q1, q2, q3, q4, q5⟩ := hSw
         go_simp <;> with_reducible rfl
        simp only [Act.put, List.setIfInBounds_toArray]
        dsimp only [List.set_cons_succ, List.set_cons_zero]
        first | simp only [hsub3] | simp only [hsub] | simp only [hsub2] | skip
        refine tkk 11 29 (v := ?_) ?_ ?_
        rotate_left 1
        ·intro w hSw
         obtain ⟨q0, q1, q2, q3, q4, q5⟩ := hSw
         go_simp <;> with_reducible rfl
        simp only [Act.put, List.setIfInBounds_toArray]
        dsimp only [List.set_cons_succ, List.set_cons_zero]
        refine tkk 12 30 (v := ?_) ?_ ?_
        rotate_left 1
        ·intro w hSw
         obtain ⟨q0, q1, q2, q3, q4, q5⟩ := hSw
         go_simp <;> with_reducible rfl
        simp only [Act.put, List.setIfInBounds_toArray]
        dsimp only [List.set_cons_succ, List.set_cons_zero]
        refine tkk 13 31 (v := ?_) ?_ ?_
        rotate_left 1
        ·intro w hSw
         obtain ⟨q0, q1, q2, q3, q4, q5⟩ := hSw
         go_simp <;> with_reducible rfl
        simp only [Act.put, List.setIfInBounds_toArray]
        dsimp only [List.set_cons_succ, List.set_cons_zero]
        refine tkk 14 32 (v := ?_) ?_ ?_
        rotate_left 1
        ·intro w hSw
         obtain ⟨q0, q1, q2, q3, q4, q5⟩ := hSw
         go_simp <;> with_reducible rfl
        simp only [Act.put, List.setIfInBounds_toArray]
        dsimp only [List.set_cons_succ, List.set_cons_zero]
        refine tkk 15 33 (v := ?_) ?_ ?_
        rotate_left 1
        ·intro w hSw
         obtain ⟨q0, q1, q2, q3, q4, q5⟩ := hSw
         go_simp <;> with_reducible rfl
        simp only [Act.put, List.setIfInBounds_toArray]
        dsimp only [List.set_cons_succ, List.set_cons_zero]
        refine tkk 16 34 (v := ?_) ?_ ?_
        rotate_left 1
        ·intro w hSw
         obtain ⟨q0, q1, q2, q3, q4, q5⟩ := hSw
         go_simp <;> with_reducible rfl
        simp only [Act.put, List.setIfInBounds_toArray]
        dsimp only [List.set_cons_succ, List.set_cons_zero]
        try simp only [hgt]
        refine tkk 17 35 (v := ?_) ?_ ?_
        rotate_left 1
        ·intro w hSw
         obtain ⟨q0, q1, q2, q3, q4, q5⟩ := hSw
         go_simp <;> with_reducible rfl
        simp only [Act.put, List.setIfInBounds_toArray]
        dsimp only [List.set_cons_succ, List.set_cons_zero]
        refine tkk 18 36 (v := ?_) ?_ ?_
        rotate_left 1
        ·intro w hSw
         obtain ⟨q0, q1, q2, q3, q4, q5⟩ := hSw
         go_simp <;> with_reducible rfl
        simp only [Act.put, List.setIfInBounds_toArray]
        dsimp only [List.set_cons_succ, List.set_cons_zero]
        refine tkk 19 37 (v := ?_) ?_ ?_
        rotate_left 1
        ·intro w hSw
         obtain ⟨q0, q1, q2, q3, q4, q5⟩ := hSw
         go_simp <;> with_reducible rfl
        simp only [Act.put, List.setIfInBounds_toArray]
        dsimp only [List.set_cons_succ, List.set_cons_zero]
        refine skk 20 38 ?_
        simp only [Act.put, List.setIfInBounds_toArray]
        dsimp only [List.set_cons_succ, List.set_cons_zero]
        refine skk 21 39 ?_
        simp only [Act.put, List.setIfInBounds_toArray]
        dsimp only [List.set_cons_succ, List.set_cons_zero]
        refine skk 22 40 ?_
        simp only [Act.put, List.setIfInBounds_toArray]
        dsimp only [List.set_cons_succ, List.set_cons_zero]
        refine skk 23 41 ?_
        simp only [Act.put, List.setIfInBounds_toArray]
        dsimp only [List.set_cons_succ, List.set_cons_zero]
        refine tkk 24 42 (v := ?_) ?_ ?_
        rotate_left 1
        ·intro w hSw
         obtain ⟨q0, q1, q2, q3, q4, q5⟩ := hSw
         go_simp <;> with_reducible rfl
        simp only [Act.put, List.setIfInBounds_toArray]
        dsimp only [List.set_cons_succ, List.set_cons_zero]
        refine tkk 25 43 (v := ?_) ?_ ?_
        rotate_left 1
        ·intro w hSw
         obtain ⟨q0, q1, q2, q3, q4, q5⟩ := hSw
         go_simp <;> with_reducible rfl
        simp only [Act.put, List.setIfInBounds_toArray]
        dsimp only [List.set_cons_succ, List.set_cons_zero]
        refine skk 26 44 ?_
        simp only [Act.put, List.setIfInBounds_toArray]
        dsimp only [List.set_cons_succ, List.set_cons_zero]
        refine skk 27 45 ?_
        simp only [Act.put, List.setIfInBounds_toArray]
        dsimp only [List.set_cons_succ, List.set_cons_zero]
        refine skk 28 46 ?_
        simp only [Act.put, List.setIfInBounds_toArray]
        dsimp only [List.set_cons_succ, List.set_cons_zero]
        refine skk 29 47 ?_
        simp only [Act.put, List.setIfInBounds_toArray]
        dsimp only [List.set_cons_succ, List.set_cons_zero]
        refine tkk 30 48 (v := ?_) ?_ ?_
        rotate_left 1
        ·intro w hSw
         obtain ⟨q0, q1, q2, q3, q4, q5⟩ := hSw
         go_simp <;> with_reducible rfl
        simp only [Act.put, List.setIfInBounds_toArray]
        dsimp only [List.set_cons_succ, List.set_cons_zero]
        refine tkk 31 49 (v := ?_) ?_ ?_
        rotate_left 1
        ·intro w hSw
         obtain ⟨q0, q1, q2, q3, q4, q5⟩ := hSw
         go_simp <;> with_reducible rfl
        simp only [Act.put, List.setIfInBounds_toArray]
        dsimp only [List.set_cons_succ, List.set_cons_zero]
        refine skk 32 50 ?_
        simp only [Act.put, List.setIfInBounds_toArray]
        dsimp only [List.set_cons_succ, List.set_cons_zero]
        refine skk 33 51 ?_
        simp only [Act.put, List.setIfInBounds_toArray]
        dsimp only [List.set_cons_succ, List.set_cons_zero]
        refine skk 34 52 ?_
        simp only [Act.put, List.setIfInBounds_toArray]
        dsimp only [List.set_cons_succ, List.set_cons_zero]
        refine skk 35 53 ?_
        simp only [Act.put, List.setIfInBounds_toArray]
        dsimp only [List.set_cons_succ, List.set_cons_zero]
        refine tkk 36 54 (v := ?_) ?_ ?_
        rotate_left 1
        ·intro w hSw
         obtain ⟨q0, q1, q2, q3, q4, q5⟩ := hSw
         go_simp <;> with_reducible rfl
        simp only [Act.put, List.setIfInBounds_toArray]
        dsimp only [List.set_cons_succ, List.set_cons_zero]
        refine tkk 37 55 (v := ?_) ?_ ?_
        rotate_left 1
        ·intro w hSw
         obtain ⟨q0, q1, q2, q3, q4, q5⟩ := hSw
         go_simp <;> with_reducible rfl
        simp only [Act.put, List.setIfInBounds_toArray]
        dsimp only [List.set_cons_succ, List.set_cons_zero]
        refine skk 38 56 ?_
        simp only [Act.put, List.setIfInBounds_toArray]
        dsimp only [List.set_cons_succ, List.set_cons_zero]
        refine skk 39 57 ?_
        simp only [Act.put, List.setIfInBounds_toArray]
        dsimp only [List.set_cons_succ, List.set_cons_zero]
        refine skk 40 58 ?_
        simp only [Act.put, List.setIfInBounds_toArray]
        dsimp only [List.set_cons_succ, List.set_cons_zero]
        refine skk 41 59 ?_
        simp only [Act.put, List.setIfInBounds_toArray]
        dsimp only [List.set_cons_succ, List.set_cons_zero]
        refine tkk 42 60 (v := ?_) ?_ ?_
        rotate_left 1
        ·intro w hSw
         obtain ⟨q0, q1, q2, q3, q4, q5⟩ := hSw
         go_simp <;> with_reducible rfl
        simp only [Act.put, List.setIfInBounds_toArray]
        dsimp only [List.set_cons_succ, List.set_cons_zero]
        refine wpAnyH_done (by kernel_rfl) ?_ _
        go_wp2_with fail
        go_meet
        case rel => exact ⟨by rw [HW.out] <;> rfl, BD⟩
       ·have hgt : decide (x.i < pn) = false := decide_eq_false hpx
        have HLE : Hid (inB x.i M 100000 = true) := inB_true (by rw [HAH.out]; omega)
        clear hx hpx
        cases hb1 : inB x.c 1 3 with
        | false =>
         have HW : Hid ((inB x.i M 100000 && noteB x) = false) := by unfold Hid; simp [noteB, hb1]
         refine wp_region_held_drew (S := NIn wr.heap.size x pn b2 (o2 + k * 5)) (by kernel_rfl) (HSF.out _ (Below.refl _ _).drew) (fun hHeld => ?_)
         have BD : Hid (Below X.heap.size X X.drew) := (Below.refl _ _).drew
         generalize X.drew = D at BD hHeld ⊢
         refine tkk 0 18 (v := ?_) ?_ ?_
         rotate_left 1
         ·intro w hSw
          obtain ⟨q0, q1, q2, q3, q4, q5⟩ := hSw
          go_simp <;> with_reducible rfl
         simp only [Act.put, List.setIfInBounds_toArray]
         dsimp only [List.set_cons_succ, List.set_cons_zero]
         refine tkk 1 19 (v := ?_) ?_ ?_
         rotate_left 1
         ·intro w hSw
          obtain ⟨q0, q1, q2, q3, q4, q5⟩ := hSw
          go_simp <;> with_reducible rfl
         simp only [Act.put, List.setIfInBounds_toArray]
         dsimp only [List.set_cons_succ, List.set_cons_zero]
         refine wpAnyH_ready (rs := [2]) (by kernel_rfl) (by simp) ?_
         refine AllReadyH.cons rfl (fun KK hKK => ?_) AllReadyH.nil
         go_simp
         refine (l1In_any x.i 1 100000 _).mono ?_
         rintro e9 w9 ⟨rfl, rfl⟩
         simp only [hb0]
         go_simp
         refine hKK.out _ _ (HSF.out _ BD.out) (fun hHeld2 => ?_)
         clear hKK KK hHeld
         have hHeld := hHeld2
         clear hHeld2
         refine tkk 3 21 (v := ?_) ?_ ?_
         rotate_left 1
         ·intro w hSw
          obtain ⟨q0, q1, q2, q3, q4, q5⟩ := hSw
          go_simp <;> with_reducible rfl
         simp only [Act.put, List.setIfInBounds_toArray]
         dsimp only [List.set_cons_succ, List.set_cons_zero]
         refine tkk 4 22 (v := ?_) ?_ ?_
         rotate_left 1
         ·intro w hSw
          obtain ⟨q0, q1, q2, q3, q4, q5⟩ := hSw
          go_simp <;> with_reducible rfl
         simp only [Act.put, List.setIfInBounds_toArray]
         dsimp only [List.set_cons_succ, List.set_cons_zero]
         refine tkk 5 23 (v := ?_) ?_ ?_
         rotate_left 1
         ·intro w hSw
          obtain ⟨q0, q1, q2, q3, q4, q5⟩ := hSw
          go_simp <;> with_reducible rfl
         simp only [Act.put, List.setIfInBounds_toArray]
         dsimp only [List.set_cons_succ, List.set_cons_zero]
         refine tkk 6 24 (v := ?_) ?_ ?_
         rotate_left 1
         ·intro w hSw
          obtain ⟨q0, q1, q2, q3, q4, q5⟩ := hSw
          go_simp <;> with_reducible rfl
         simp only [Act.put, List.setIfInBounds_toArray]
         dsimp only [List.set_cons_succ, List.set_cons_zero]
         first | simp only [h00] | simp only [h00'] | skip
         refine tkk 7 25 (v := ?_) ?_ ?_
         rotate_left 1
         ·intro w hSw
          obtain ⟨q0, q1, q2, q3, q4, q5⟩ := hSw
          go_simp <;> with_reducible rfl
         simp only [Act.put, List.setIfInBounds_toArray]
         dsimp only [List.set_cons_succ, List.set_cons_zero]
         refine tkk 8 26 (v := ?_) ?_ ?_
         rotate_left 1
         ·intro w hSw
          obtain ⟨q0, q1, q2, q3, q4, q5⟩ := hSw
          go_simp <;> with_reducible rfl
         simp only [Act.put, List.setIfInBounds_toArray]
         dsimp only [List.set_cons_succ, List.set_cons_zero]
         refine tkk 9 27 (v := ?_) ?_ ?_
         rotate_left 1
         ·intro w hSw
          obtain ⟨q0, q1, q2, q3, q4, q5⟩ := hSw
          go_simp <;> with_reducible rfl
         simp only [Act.put, List.setIfInBounds_toArray]
         dsimp only [List.set_cons_succ, List.set_cons_zero]
         refine tkk 10 28 (v := ?_) ?_ ?_
         rotate_left 1
         ·intro w hSw
          obtain ⟨q0, q1, q2, q3, q4, q5⟩ := hSw
          go_simp <;> with_reducible rfl
         simp only [Act.put, List.setIfInBounds_toArray]
         dsimp only [List.set_cons_succ, List.set_cons_zero]
         first | simp only [hsub3] | simp only [hsub] | simp only [hsub2] | skip
         refine tkk 11 29 (v := ?_) ?_ ?_
         rotate_left 1
         ·intro w hSw
          obtain ⟨q0, q1, q2, q3, q4, q5⟩ := hSw
          go_simp <;> with_reducible rfl
         simp only [Act.put, List.setIfInBounds_toArray]
         dsimp only [List.set_cons_succ, List.set_cons_zero]
         refine tkk 12 30 (v := ?_) ?_ ?_
         rotate_left 1
         ·intro w hSw
          obtain ⟨q0, q1, q2, q3, q4, q5⟩ := hSw
          go_simp <;> with_reducible rfl
         simp only [Act.put, List.setIfInBounds_toArray]
         dsimp only [List.set_cons_succ, List.set_cons_zero]
         refine tkk 13 31 (v := ?_) ?_ ?_
         rotate_left 1
         ·intro w hSw
          obtain ⟨q0, q1, q2, q3, q4, q5⟩ := hSw
          go_simp <;> with_reducible rfl
         simp only [Act.put, List.setIfInBounds_toArray]
         dsimp only [List.set_cons_succ, List.set_cons_zero]
         refine tkk 14 32 (v := ?_) ?_ ?_
         rotate_left 1
         ·intro w hSw
          obtain ⟨q0, q1, q2, q3, q4, q5⟩ := hSw
          go_simp <;> with_reducible rfl
         simp only [Act.put, List.setIfInBounds_toArray]
         dsimp only [List.set_cons_succ, List.set_cons_zero]
         refine tkk 15 33 (v := ?_) ?_ ?_
         rotate_left 1
         ·intro w hSw
          obtain ⟨q0, q1, q2, q3, q4, q5⟩ := hSw
          go_simp <;> with_reducible rfl
         simp only [Act.put, List.setIfInBounds_toArray]
         dsimp only [List.set_cons_succ, List.set_cons_zero]
         refine tkk 16 34 (v := ?_) ?_ ?_
         rotate_left 1
         ·intro w hSw
          obtain ⟨q0, q1, q2, q3, q4, q5⟩ := hSw
          go_simp <;> with_reducible rfl
         simp only [Act.put, List.setIfInBounds_toArray]
         dsimp only [List.set_cons_succ, List.set_cons_zero]
         try simp only [hgt]
         refine tkk 17 35 (v := ?_) ?_ ?_
         rotate_left 1
         ·intro w hSw
          obtain ⟨q0, q1, q2, q3, q4, q5⟩ := hSw
          go_simp <;> with_reducible rfl
         simp only [Act.put, List.setIfInBounds_toArray]
         dsimp only [List.set_cons_succ, List.set_cons_zero]
         refine tkk 18 36 (v := ?_) ?_ ?_
         rotate_left 1
         ·intro w hSw
          obtain ⟨q0, q1, q2, q3, q4, q5⟩ := hSw
          go_simp <;> with_reducible rfl
         simp only [Act.put, List.setIfInBounds_toArray]
         dsimp only [List.set_cons_succ, List.set_cons_zero]
         refine tkk 19 37 (v := ?_) ?_ ?_
         rotate_left 1
         ·intro w hSw
          obtain ⟨q0, q1, q2, q3, q4, q5⟩ := hSw
          go_simp <;> with_reducible rfl
         simp only [Act.put, List.setIfInBounds_toArray]
         dsimp only [List.set_cons_succ, List.set_cons_zero]
         refine tkk 20 38 (v := ?_) ?_ ?_
         rotate_left 1
         ·intro w hSw
          obtain ⟨q0, q1, q2, q3, q4, q5⟩ := hSw
          go_simp <;> with_reducible rfl
         simp only [Act.put, List.setIfInBounds_toArray]
         dsimp only [List.set_cons_succ, List.set_cons_zero]
         refine tkk 21 39 (v := ?_) ?_ ?_
         rotate_left 1
         ·intro w hSw
          obtain ⟨q0, q1, q2, q3, q4, q5⟩ := hSw
          go_simp <;> with_reducible rfl
         simp only [Act.put, List.setIfInBounds_toArray]
         dsimp only [List.set_cons_succ, List.set_cons_zero]
         refine wpAnyH_ready (rs := [22]) (by kernel_rfl) (by simp) ?_
         refine AllReadyH.cons rfl (fun KK hKK => ?_) AllReadyH.nil
         go_simp
         refine (l1In_any x.c 1 3 _).mono ?_
         rintro e9 w9 ⟨rfl, rfl⟩
         simp only [hb1]
         go_simp
         refine hKK.out _ _ (HSF.out _ BD.out) (fun hHeld2 => ?_)
         clear hKK KK hHeld
         have hHeld := hHeld2
         clear hHeld2
         refine tkk 23 41 (v := ?_) ?_ ?_
         rotate_left 1
         ·intro w hSw
          obtain ⟨q0, q1, q2, q3, q4, q5⟩ := hSw
          go_simp <;> with_reducible rfl
         simp only [Act.put, List.setIfInBounds_toArray]
         dsimp only [List.set_cons_succ, List.set_cons_zero]
         refine tkk 24 42 (v := ?_) ?_ ?_
         rotate_left 1
         ·intro w hSw
          obtain ⟨q0, q1, q2, q3, q4, q5⟩ := hSw
          go_simp <;> with_reducible rfl
         simp only [Act.put, List.setIfInBounds_toArray]
         dsimp only [List.set_cons_succ, List.set_cons_zero]
         refine tkk 25 43 (v := ?_) ?_ ?_
         rotate_left 1
         ·intro w hSw
          obtain ⟨q0, q1, q2, q3, q4, q5⟩ := hSw
          go_simp <;> with_reducible rfl
         simp only [Act.put, List.setIfInBounds_toArray]
         dsimp only [List.set_cons_succ, List.set_cons_zero]
         refine skk 26 44 ?_
         simp only [Act.put, List.setIfInBounds_toArray]
         dsimp only [List.set_cons_succ, List.set_cons_zero]
         refine skk 27 45 ?_
         simp only [Act.put, List.setIfInBounds_toArray]
         dsimp only [List.set_cons_succ, List.set_cons_zero]
         refine skk 28 46 ?_
         simp only [Act.put, List.setIfInBounds_toArray]
         dsimp only [List.set_cons_succ, List.set_cons_zero]
         refine skk 29 47 ?_
         simp only [Act.put, List.setIfInBounds_toArray]
         dsimp only [List.set_cons_succ, List.set_cons_zero]
         refine tkk 30 48 (v := ?_) ?_ ?_
         rotate_left 1
         ·intro w hSw
          obtain ⟨q0, q1, q2, q3, q4, q5⟩ := hSw
          go_simp <;> with_reducible rfl
         simp only [Act.put, List.setIfInBounds_toArray]
         dsimp only [List.set_cons_succ, List.set_cons_zero]
         refine tkk 31 49 (v := ?_) ?_ ?_
         rotate_left 1
         ·intro w hSw
          obtain ⟨q0, q1, q2, q3, q4, q5⟩ := hSw
          go_simp <;> with_reducible rfl
         simp only [Act.put, List.setIfInBounds_toArray]
         dsimp only [List.set_cons_succ, List.set_cons_zero]
         refine skk 32 50 ?_
         simp only [Act.put, List.setIfInBounds_toArray]
         dsimp only [List.set_cons_succ, List.set_cons_zero]
         refine skk 33 51 ?_
         simp only [Act.put, List.setIfInBounds_toArray]
         dsimp only [List.set_cons_succ, List.set_cons_zero]
         refine skk 34 52 ?_
         simp only [Act.put, List.setIfInBounds_toArray]
         dsimp only [List.set_cons_succ, List.set_cons_zero]
         refine skk 35 53 ?_
         simp only [Act.put, List.setIfInBounds_toArray]
         dsimp only [List.set_cons_succ, List.set_cons_zero]
         refine tkk 36 54 (v := ?_) ?_ ?_
         rotate_left 1
         ·intro w hSw
          obtain ⟨q0, q1, q2, q3, q4, q5⟩ := hSw
          go_simp <;> with_reducible rfl
         simp only [Act.put, List.setIfInBounds_toArray]
         dsimp only [List.set_cons_succ, List.set_cons_zero]
         refine tkk 37 55 (v := ?_) ?_ ?_
         rotate_left 1
         ·intro w hSw
          obtain ⟨q0, q1, q2, q3, q4, q5⟩ := hSw
          go_simp <;> with_reducible rfl
         simp only [Act.put, List.setIfInBounds_toArray]
         dsimp only [List.set_cons_succ, List.set_cons_zero]
         refine skk 38 56 ?_
         simp only [Act.put, List.setIfInBounds_toArray]
         dsimp only [List.set_cons_succ, List.set_cons_zero]
         refine skk 39 57 ?_
         simp only [Act.put, List.setIfInBounds_toArray]
         dsimp only [List.set_cons_succ, List.set_cons_zero]
         refine skk 40 58 ?_
         simp only [Act.put, List.setIfInBounds_toArray]
         dsimp only [List.set_cons_succ, List.set_cons_zero]
         refine skk 41 59 ?_
         simp only [Act.put, List.setIfInBounds_toArray]
         dsimp only [List.set_cons_succ, List.set_cons_zero]
         refine tkk 42 60 (v := ?_) ?_ ?_
         rotate_left 1
         ·intro w hSw
          obtain ⟨q0, q1, q2, q3, q4, q5⟩ := hSw
          go_simp <;> with_reducible rfl
         simp only [Act.put, List.setIfInBounds_toArray]
         dsimp only [List.set_cons_succ, List.set_cons_zero]
         refine wpAnyH_done (by kernel_rfl) ?_ _
         go_wp2_with fail
         go_meet
         case rel => exact ⟨by rw [HW.out] <;> rfl, BD⟩
        | true =>
         cases hb2 : inB x.s 1 1000000 with
         | false =>
          have HW : Hid ((inB x.i M 100000 && noteB x) = false) := by unfold Hid; simp [noteB, hb1, hb2]
          refine wp_region_held_drew (S := NIn wr.heap.size x pn b2 (o2 + k * 5)) (by kernel_rfl) (HSF.out _ (Below.refl _ _).drew) (fun hHeld => ?_)
          have BD : Hid (Below X.heap.size X X.drew) := (Below.refl _ _).drew
          generalize X.drew = D at BD hHeld ⊢
          refine tkk 0 18 (v := ?_) ?_ ?_
          rotate_left 1
          ·intro w hSw
           obtain ⟨q0, q1, q2, q3, q4, q5⟩ := hSw
           go_simp <;> with_reducible rfl
          simp only [Act.put, List.setIfInBounds_toArray]
          dsimp only [List.set_cons_succ, List.set_cons_zero]
          refine tkk 1 19 (v := ?_) ?_ ?_
          rotate_left 1
          ·intro w hSw
           obtain ⟨q0, q1, q2, q3, q4, q5⟩ := hSw
           go_simp <;> with_reducible rfl
          simp only [Act.put, List.setIfInBounds_toArray]
          dsimp only [List.set_cons_succ, List.set_cons_zero]
          refine wpAnyH_ready (rs := [2]) (by kernel_rfl) (by simp) ?_
          refine AllReadyH.cons rfl (fun KK hKK => ?_) AllReadyH.nil
          go_simp
          refine (l1In_any x.i 1 100000 _).mono ?_
          rintro e9 w9 ⟨rfl, rfl⟩
          simp only [hb0]
          go_simp
          refine hKK.out _ _ (HSF.out _ BD.out) (fun hHeld2 => ?_)
          clear hKK KK hHeld
          have hHeld := hHeld2
          clear hHeld2
          refine tkk 3 21 (v := ?_) ?_ ?_
          rotate_left 1
          ·intro w hSw
           obtain ⟨q0, q1, q2, q3, q4, q5⟩ := hSw
           go_simp <;> with_reducible rfl
          simp only [Act.put, List.setIfInBounds_toArray]
          dsimp only [List.set_cons_succ, List.set_cons_zero]
          refine tkk 4 22 (v := ?_) ?_ ?_
          rotate_left 1
          ·intro w hSw
           obtain ⟨q0, q1, q2, q3, q4, q5⟩ := hSw
           go_simp <;> with_reducible rfl
          simp only [Act.put, List.setIfInBounds_toArray]
          dsimp only [List.set_cons_succ, List.set_cons_zero]
          refine tkk 5 23 (v := ?_) ?_ ?_
          rotate_left 1
          ·intro w hSw
           obtain ⟨q0, q1, q2, q3, q4, q5⟩ := hSw
           go_simp <;> with_reducible rfl
          simp only [Act.put, List.setIfInBounds_toArray]
          dsimp only [List.set_cons_succ, List.set_cons_zero]
          refine tkk 6 24 (v := ?_) ?_ ?_
          rotate_left 1
          ·intro w hSw
           obtain ⟨q0, q1, q2, q3, q4, q5⟩ := hSw
           go_simp <;> with_reducible rfl
          simp only [Act.put, List.setIfInBounds_toArray]
          dsimp only [List.set_cons_succ, List.set_cons_zero]
          first | simp only [h00] | simp only [h00'] | skip
          refine tkk 7 25 (v := ?_) ?_ ?_
          rotate_left 1
          ·intro w hSw
           obtain ⟨q0, q1, q2, q3, q4, q5⟩ := hSw
           go_simp <;> with_reducible rfl
          simp only [Act.put, List.setIfInBounds_toArray]
          dsimp only [List.set_cons_succ, List.set_cons_zero]
          refine tkk 8 26 (v := ?_) ?_ ?_
          rotate_left 1
          ·intro w hSw
           obtain ⟨q0, q1, q2, q3, q4, q5⟩ := hSw
           go_simp <;> with_reducible rfl
          simp only [Act.put, List.setIfInBounds_toArray]
          dsimp only [List.set_cons_succ, List.set_cons_zero]
          refine tkk 9 27 (v := ?_) ?_ ?_
          rotate_left 1
          ·intro w hSw
           obtain ⟨q0, q1, q2, q3, q4, q5⟩ := hSw
           go_simp <;> with_reducible rfl
          simp only [Act.put, List.setIfInBounds_toArray]
          dsimp only [List.set_cons_succ, List.set_cons_zero]
          refine tkk 10 28 (v := ?_) ?_ ?_
          rotate_left 1
          ·intro w hSw
           obtain ⟨q0, q1, q2, q3, q4, q5⟩ := hSw
           go_simp <;> with_reducible rfl
          simp only [Act.put, List.setIfInBounds_toArray]
          dsimp only [List.set_cons_succ, List.set_cons_zero]
          first | simp only [hsub3] | simp only [hsub] | simp only [hsub2] | skip
          refine tkk 11 29 (v := ?_) ?_ ?_
          rotate_left 1
          ·intro w hSw
           obtain ⟨q0, q1, q2, q3, q4, q5⟩ := hSw
           go_simp <;> with_reducible rfl
          simp only [Act.put, List.setIfInBounds_toArray]
          dsimp only [List.set_cons_succ, List.set_cons_zero]
          refine tkk 12 30 (v := ?_) ?_ ?_
          rotate_left 1
          ·intro w hSw
           obtain ⟨q0, q1, q2, q3, q4, q5⟩ := hSw
           go_simp <;> with_reducible rfl
          simp only [Act.put, List.setIfInBounds_toArray]
          dsimp only [List.set_cons_succ, List.set_cons_zero]
          refine tkk 13 31 (v := ?_) ?_ ?_
          rotate_left 1
          ·intro w hSw
           obtain ⟨q0, q1, q2, q3, q4, q5⟩ := hSw
           go_simp <;> with_reducible rfl
          simp only [Act.put, List.setIfInBounds_toArray]
          dsimp only [List.set_cons_succ, List.set_cons_zero]
          refine tkk 14 32 (v := ?_) ?_ ?_
          rotate_left 1
          ·intro w hSw
           obtain ⟨q0, q1, q2, q3, q4, q5⟩ := hSw
           go_simp <;> with_reducible rfl
          simp only [Act.put, List.setIfInBounds_toArray]
          dsimp only [List.set_cons_succ, List.set_cons_zero]
          refine tkk 15 33 (v := ?_) ?_ ?_
          rotate_left 1
          ·intro w hSw
           obtain ⟨q0, q1, q2, q3, q4, q5⟩ := hSw
           go_simp <;> with_reducible rfl
          simp only [Act.put, List.setIfInBounds_toArray]
          dsimp only [List.set_cons_succ, List.set_cons_zero]
          refine tkk 16 34 (v := ?_) ?_ ?_
          rotate_left 1
          ·intro w hSw
           obtain ⟨q0, q1, q2, q3, q4, q5⟩ := hSw
           go_simp <;> with_reducible rfl
          simp only [Act.put, List.setIfInBounds_toArray]
          dsimp only [List.set_cons_succ, List.set_cons_zero]
          try simp only [hgt]
          refine tkk 17 35 (v := ?_) ?_ ?_
          rotate_left 1
          ·intro w hSw
           obtain ⟨q0, q1, q2, q3, q4, q5⟩ := hSw
           go_simp <;> with_reducible rfl
          simp only [Act.put, List.setIfInBounds_toArray]
          dsimp only [List.set_cons_succ, List.set_cons_zero]
          refine tkk 18 36 (v := ?_) ?_ ?_
          rotate_left 1
          ·intro w hSw
           obtain ⟨q0, q1, q2, q3, q4, q5⟩ := hSw
           go_simp <;> with_reducible rfl
          simp only [Act.put, List.setIfInBounds_toArray]
          dsimp only [List.set_cons_succ, List.set_cons_zero]
          refine tkk 19 37 (v := ?_) ?_ ?_
          rotate_left 1
          ·intro w hSw
           obtain ⟨q0, q1, q2, q3, q4, q5⟩ := hSw
           go_simp <;> with_reducible rfl
          simp only [Act.put, List.setIfInBounds_toArray]
          dsimp only [List.set_cons_succ, List.set_cons_zero]
          refine tkk 20 38 (v := ?_) ?_ ?_
          rotate_left 1
          ·intro w hSw
           obtain ⟨q0, q1, q2, q3, q4, q5⟩ := hSw
           go_simp <;> with_reducible rfl
          simp only [Act.put, List.setIfInBounds_toArray]
          dsimp only [List.set_cons_succ, List.set_cons_zero]
          refine tkk 21 39 (v := ?_) ?_ ?_
          rotate_left 1
          ·intro w hSw
           obtain ⟨q0, q1, q2, q3, q4, q5⟩ := hSw
           go_simp <;> with_reducible rfl
          simp only [Act.put, List.setIfInBounds_toArray]
          dsimp only [List.set_cons_succ, List.set_cons_zero]
          refine wpAnyH_ready (rs := [22]) (by kernel_rfl) (by simp) ?_
          refine AllReadyH.cons rfl (fun KK hKK => ?_) AllReadyH.nil
          go_simp
          refine (l1In_any x.c 1 3 _).mono ?_
          rintro e9 w9 ⟨rfl, rfl⟩
          simp only [hb1]
          go_simp
          refine hKK.out _ _ (HSF.out _ BD.out) (fun hHeld2 => ?_)
          clear hKK KK hHeld
          have hHeld := hHeld2
          clear hHeld2
          refine tkk 23 41 (v := ?_) ?_ ?_
          rotate_left 1
          ·intro w hSw
           obtain ⟨q0, q1, q2, q3, q4, q5⟩ := hSw
           go_simp <;> with_reducible rfl
          simp only [Act.put, List.setIfInBounds_toArray]
          dsimp only [List.set_cons_succ, List.set_cons_zero]
          refine tkk 24 42 (v := ?_) ?_ ?_
          rotate_left 1
          ·intro w hSw
           obtain ⟨q0, q1, q2, q3, q4, q5⟩ := hSw
           go_simp <;> with_reducible rfl
          simp only [Act.put, List.setIfInBounds_toArray]
          dsimp only [List.set_cons_succ, List.set_cons_zero]
          refine tkk 25 43 (v := ?_) ?_ ?_
          rotate_left 1
          ·intro w hSw
           obtain ⟨q0, q1, q2, q3, q4, q5⟩ := hSw
           go_simp <;> with_reducible rfl
          simp only [Act.put, List.setIfInBounds_toArray]
          dsimp only [List.set_cons_succ, List.set_cons_zero]
          refine tkk 26 44 (v := ?_) ?_ ?_
          rotate_left 1
          ·intro w hSw
           obtain ⟨q0, q1, q2, q3, q4, q5⟩ := hSw
           go_simp <;> with_reducible rfl
          simp only [Act.put, List.setIfInBounds_toArray]
          dsimp only [List.set_cons_succ, List.set_cons_zero]
          refine tkk 27 45 (v := ?_) ?_ ?_
          rotate_left 1
          ·intro w hSw
           obtain ⟨q0, q1, q2, q3, q4, q5⟩ := hSw
           go_simp <;> with_reducible rfl
          simp only [Act.put, List.setIfInBounds_toArray]
          dsimp only [List.set_cons_succ, List.set_cons_zero]
          refine wpAnyH_ready (rs := [28]) (by kernel_rfl) (by simp) ?_
          refine AllReadyH.cons rfl (fun KK hKK => ?_) AllReadyH.nil
          go_simp
          refine (l1In_any x.s 1 1000000 _).mono ?_
          rintro e9 w9 ⟨rfl, rfl⟩
          simp only [hb2]
          go_simp
          refine hKK.out _ _ (HSF.out _ BD.out) (fun hHeld2 => ?_)
          clear hKK KK hHeld
          have hHeld := hHeld2
          clear hHeld2
          refine tkk 29 47 (v := ?_) ?_ ?_
          rotate_left 1
          ·intro w hSw
           obtain ⟨q0, q1, q2, q3, q4, q5⟩ := hSw
           go_simp <;> with_reducible rfl
          simp only [Act.put, List.setIfInBounds_toArray]
          dsimp only [List.set_cons_succ, List.set_cons_zero]
          refine tkk 30 48 (v := ?_) ?_ ?_
          rotate_left 1
          ·intro w hSw
           obtain ⟨q0, q1, q2, q3, q4, q5⟩ := hSw
           go_simp <;> with_reducible rfl
          simp only [Act.put, List.setIfInBounds_toArray]
          dsimp only [List.set_cons_succ, List.set_cons_zero]
          refine tkk 31 49 (v := ?_) ?_ ?_
          rotate_left 1
          ·intro w hSw
           obtain ⟨q0, q1, q2, q3, q4, q5⟩ := hSw
           go_simp <;> with_reducible rfl
          simp only [Act.put, List.setIfInBounds_toArray]
          dsimp only [List.set_cons_succ, List.set_cons_zero]
          refine skk 32 50 ?_
          simp only [Act.put, List.setIfInBounds_toArray]
          dsimp only [List.set_cons_succ, List.set_cons_zero]
          refine skk 33 51 ?_
          simp only [Act.put, List.setIfInBounds_toArray]
          dsimp only [List.set_cons_succ, List.set_cons_zero]
          refine skk 34 52 ?_
          simp only [Act.put, List.setIfInBounds_toArray]
          dsimp only [List.set_cons_succ, List.set_cons_zero]
          refine skk 35 53 ?_
          simp only [Act.put, List.setIfInBounds_toArray]
          dsimp only [List.set_cons_succ, List.set_cons_zero]
          refine tkk 36 54 (v := ?_) ?_ ?_
          rotate_left 1
          ·intro w hSw
           obtain ⟨q0, q1, q2, q3, q4, q5⟩ := hSw
           go_simp <;> with_reducible rfl
          simp only [Act.put, List.setIfInBounds_toArray]
          dsimp only [List.set_cons_succ, List.set_cons_zero]
          refine tkk 37 55 (v := ?_) ?_ ?_
          rotate_left 1
          ·intro w hSw
           obtain ⟨q0, q1, q2, q3, q4, q5⟩ := hSw
           go_simp <;> with_reducible rfl
          simp only [Act.put, List.setIfInBounds_toArray]
          dsimp only [List.set_cons_succ, List.set_cons_zero]
          refine skk 38 56 ?_
          simp only [Act.put, List.setIfInBounds_toArray]
          dsimp only [List.set_cons_succ, List.set_cons_zero]
          refine skk 39 57 ?_
          simp only [Act.put, List.setIfInBounds_toArray]
          dsimp only [List.set_cons_succ, List.set_cons_zero]
          refine skk 40 58 ?_
          simp only [Act.put, List.setIfInBounds_toArray]
          dsimp only [List.set_cons_succ, List.set_cons_zero]
          refine skk 41 59 ?_
          simp only [Act.put, List.setIfInBounds_toArray]
          dsimp only [List.set_cons_succ, List.set_cons_zero]
          refine tkk 42 60 (v := ?_) ?_ ?_
          rotate_left 1
          ·intro w hSw
           obtain ⟨q0, q1, q2, q3, q4, q5⟩ := hSw
           go_simp <;> with_reducible rfl
          simp only [Act.put, List.setIfInBounds_toArray]
          dsimp only [List.set_cons_succ, List.set_cons_zero]
          refine wpAnyH_done (by kernel_rfl) ?_ _
          go_wp2_with fail
          go_meet
          case rel => exact ⟨by rw [HW.out] <;> rfl, BD⟩
         | true =>
          cases hb3 : inB x.k 1 22 with
          | false =>
           have HW : Hid ((inB x.i M 100000 && noteB x) = false) := by unfold Hid; simp [noteB, hb1, hb2, hb3]
           refine wp_region_held_drew (S := NIn wr.heap.size x pn b2 (o2 + k * 5)) (by kernel_rfl) (HSF.out _ (Below.refl _ _).drew) (fun hHeld => ?_)
           have BD : Hid (Below X.heap.size X X.drew) := (Below.refl _ _).drew
           generalize X.drew = D at BD hHeld ⊢
           refine tkk 0 18 (v := ?_) ?_ ?_
           rotate_left 1
           ·intro w hSw
            obtain ⟨q0, q1, q2, q3, q4, q5⟩ := hSw
            go_simp <;> with_reducible rfl
           simp only [Act.put, List.setIfInBounds_toArray]
           dsimp only [List.set_cons_succ, List.set_cons_zero]
           refine tkk 1 19 (v := ?_) ?_ ?_
           rotate_left 1
           ·intro w hSw
            obtain ⟨q0, q1, q2, q3, q4, q5⟩ := hSw
            go_simp <;> with_reducible rfl
           simp only [Act.put, List.setIfInBounds_toArray]
           dsimp only [List.set_cons_succ, List.set_cons_zero]
           refine wpAnyH_ready (rs := [2]) (by kernel_rfl) (by simp) ?_
           refine AllReadyH.cons rfl (fun KK hKK => ?_) AllReadyH.nil
           go_simp
           refine (l1In_any x.i 1 100000 _).mono ?_
           rintro e9 w9 ⟨rfl, rfl⟩
           simp only [hb0]
           go_simp
           refine hKK.out _ _ (HSF.out _ BD.out) (fun hHeld2 => ?_)
           clear hKK KK hHeld
           have hHeld := hHeld2
           clear hHeld2
           refine tkk 3 21 (v := ?_) ?_ ?_
           rotate_left 1
           ·intro w hSw
            obtain ⟨q0, q1, q2, q3, q4, q5⟩ := hSw
            go_simp <;> with_reducible rfl
           simp only [Act.put, List.setIfInBounds_toArray]
           dsimp only [List.set_cons_succ, List.set_cons_zero]
           refine tkk 4 22 (v := ?_) ?_ ?_
           rotate_left 1
           ·intro w hSw
            obtain ⟨q0, q1, q2, q3, q4, q5⟩ := hSw
            go_simp <;> with_reducible rfl
           simp only [Act.put, List.setIfInBounds_toArray]
           dsimp only [List.set_cons_succ, List.set_cons_zero]
           refine tkk 5 23 (v := ?_) ?_ ?_
           rotate_left 1
           ·intro w hSw
            obtain ⟨q0, q1, q2, q3, q4, q5⟩ := hSw
            go_simp <;> with_reducible rfl
           simp only [Act.put, List.setIfInBounds_toArray]
           dsimp only [List.set_cons_succ, List.set_cons_zero]
           refine tkk 6 24 (v := ?_) ?_ ?_
           rotate_left 1
           ·intro w hSw
            obtain ⟨q0, q1, q2, q3, q4, q5⟩ := hSw
            go_simp <;> with_reducible rfl
           simp only [Act.put, List.setIfInBounds_toArray]
           dsimp only [List.set_cons_succ, List.set_cons_zero]
           first | simp only [h00] | simp only [h00'] | skip
           refine tkk 7 25 (v := ?_) ?_ ?_
           rotate_left 1
           ·intro w hSw
            obtain ⟨q0, q1, q2, q3, q4, q5⟩ := hSw
            go_simp <;> with_reducible rfl
           simp only [Act.put, List.setIfInBounds_toArray]
           dsimp only [List.set_cons_succ, List.set_cons_zero]
           refine tkk 8 26 (v := ?_) ?_ ?_
           rotate_left 1
           ·intro w hSw
            obtain ⟨q0, q1, q2, q3, q4, q5⟩ := hSw
            go_simp <;> with_reducible rfl
           simp only [Act.put, List.setIfInBounds_toArray]
           dsimp only [List.set_cons_succ, List.set_cons_zero]
           refine tkk 9 27 (v := ?_) ?_ ?_
           rotate_left 1
           ·intro w hSw
            obtain ⟨q0, q1, q2, q3, q4, q5⟩ := hSw
            go_simp <;> with_reducible rfl
           simp only [Act.put, List.setIfInBounds_toArray]
           dsimp only [List.set_cons_succ, List.set_cons_zero]
           refine tkk 10 28 (v := ?_) ?_ ?_
           rotate_left 1
           ·intro w hSw
            obtain ⟨q0, q1, q2, q3, q4, q5⟩ := hSw
            go_simp <;> with_reducible rfl
           simp only [Act.put, List.setIfInBounds_toArray]
           dsimp only [List.set_cons_succ, List.set_cons_zero]
           first | simp only [hsub3] | simp only [hsub] | simp only [hsub2] | skip
           refine tkk 11 29 (v := ?_) ?_ ?_
           rotate_left 1
           ·intro w hSw
            obtain ⟨q0, q1, q2, q3, q4, q5⟩ := hSw
            go_simp <;> with_reducible rfl
           simp only [Act.put, List.setIfInBounds_toArray]
           dsimp only [List.set_cons_succ, List.set_cons_zero]
           refine tkk 12 30 (v := ?_) ?_ ?_
           rotate_left 1
           ·intro w hSw
            obtain ⟨q0, q1, q2, q3, q4, q5⟩ := hSw
            go_simp <;> with_reducible rfl
           simp only [Act.put, List.setIfInBounds_toArray]
           dsimp only [List.set_cons_succ, List.set_cons_zero]
           refine tkk 13 31 (v := ?_) ?_ ?_
           rotate_left 1
           ·intro w hSw
            obtain ⟨q0, q1, q2, q3, q4, q5⟩ := hSw
            go_simp <;> with_reducible rfl
           simp only [Act.put, List.setIfInBounds_toArray]
           dsimp only [List.set_cons_succ, List.set_cons_zero]
           refine tkk 14 32 (v := ?_) ?_ ?_
           rotate_left 1
           ·intro w hSw
            obtain ⟨q0, q1, q2, q3, q4, q5⟩ := hSw
            go_simp <;> with_reducible rfl
           simp only [Act.put, List.setIfInBounds_toArray]
           dsimp only [List.set_cons_succ, List.set_cons_zero]
           refine tkk 15 33 (v := ?_) ?_ ?_
           rotate_left 1
           ·intro w hSw
            obtain ⟨q0, q1, q2, q3, q4, q5⟩ := hSw
            go_simp <;> with_reducible rfl
           simp only [Act.put, List.setIfInBounds_toArray]
           dsimp only [List.set_cons_succ, List.set_cons_zero]
           refine tkk 16 34 (v := ?_) ?_ ?_
           rotate_left 1
           ·intro w hSw
            obtain ⟨q0, q1, q2, q3, q4, q5⟩ := hSw
            go_simp <;> with_reducible rfl
           simp only [Act.put, List.setIfInBounds_toArray]
           dsimp only [List.set_cons_succ, List.set_cons_zero]
           try simp only [hgt]
           refine tkk 17 35 (v := ?_) ?_ ?_
           rotate_left 1
           ·intro w hSw
            obtain ⟨q0, q1, q2, q3, q4, q5⟩ := hSw
            go_simp <;> with_reducible rfl
           simp only [Act.put, List.setIfInBounds_toArray]
           dsimp only [List.set_cons_succ, List.set_cons_zero]
           refine tkk 18 36 (v := ?_) ?_ ?_
           rotate_left 1
           ·intro w hSw
            obtain ⟨q0, q1, q2, q3, q4, q5⟩ := hSw
            go_simp <;> with_reducible rfl
           simp only [Act.put, List.setIfInBounds_toArray]
           dsimp only [List.set_cons_succ, List.set_cons_zero]
           refine tkk 19 37 (v := ?_) ?_ ?_
           rotate_left 1
           ·intro w hSw
            obtain ⟨q0, q1, q2, q3, q4, q5⟩ := hSw
            go_simp <;> with_reducible rfl
           simp only [Act.put, List.setIfInBounds_toArray]
           dsimp only [List.set_cons_succ, List.set_cons_zero]
           refine tkk 20 38 (v := ?_) ?_ ?_
           rotate_left 1
           ·intro w hSw
            obtain ⟨q0, q1, q2, q3, q4, q5⟩ := hSw
            go_simp <;> with_reducible rfl
           simp only [Act.put, List.setIfInBounds_toArray]
           dsimp only [List.set_cons_succ, List.set_cons_zero]
           refine tkk 21 39 (v := ?_) ?_ ?_
           rotate_left 1
           ·intro w hSw
            obtain ⟨q0, q1, q2, q3, q4, q5⟩ := hSw
            go_simp <;> with_reducible rfl
           simp only [Act.put, List.setIfInBounds_toArray]
           dsimp only [List.set_cons_succ, List.set_cons_zero]
           refine wpAnyH_ready (rs := [22]) (by kernel_rfl) (by simp) ?_
           refine AllReadyH.cons rfl (fun KK hKK => ?_) AllReadyH.nil
           go_simp
           refine (l1In_any x.c 1 3 _).mono ?_
           rintro e9 w9 ⟨rfl, rfl⟩
           simp only [hb1]
           go_simp
           refine hKK.out _ _ (HSF.out _ BD.out) (fun hHeld2 => ?_)
           clear hKK KK hHeld
           have hHeld := hHeld2
           clear hHeld2
           refine tkk 23 41 (v := ?_) ?_ ?_
           rotate_left 1
           ·intro w hSw
            obtain ⟨q0, q1, q2, q3, q4, q5⟩ := hSw
            go_simp <;> with_reducible rfl
           simp only [Act.put, List.setIfInBounds_toArray]
           dsimp only [List.set_cons_succ, List.set_cons_zero]
           refine tkk 24 42 (v := ?_) ?_ ?_
           rotate_left 1
           ·intro w hSw
            obtain ⟨q0, q1, q2, q3, q4, q5⟩ := hSw
            go_simp <;> with_reducible rfl
           simp only [Act.put, List.setIfInBounds_toArray]
           dsimp only [List.set_cons_succ, List.set_cons_zero]
           refine tkk 25 43 (v := ?_) ?_ ?_
           rotate_left 1
           ·intro w hSw
            obtain ⟨q0, q1, q2, q3, q4, q5⟩ := hSw
            go_simp <;> with_reducible rfl
           simp only [Act.put, List.setIfInBounds_toArray]
           dsimp only [List.set_cons_succ, List.set_cons_zero]
           refine tkk 26 44 (v := ?_) ?_ ?_
           rotate_left 1
           ·intro w hSw
            obtain ⟨q0, q1, q2, q3, q4, q5⟩ := hSw
            go_simp <;> with_reducible rfl
           simp only [Act.put, List.setIfInBounds_toArray]
           dsimp only [List.set_cons_succ, List.set_cons_zero]
           refine tkk 27 45 (v := ?_) ?_ ?_
           rotate_left 1
           ·intro w hSw
            obtain ⟨q0, q1, q2, q3, q4, q5⟩ := hSw
            go_simp <;> with_reducible rfl
           simp only [Act.put, List.setIfInBounds_toArray]
           dsimp only [List.set_cons_succ, List.set_cons_zero]
           refine wpAnyH_ready (rs := [28]) (by kernel_rfl) (by simp) ?_
           refine AllReadyH.cons rfl (fun KK hKK => ?_) AllReadyH.nil
           go_simp
           refine (l1In_any x.s 1 1000000 _).mono ?_
           rintro e9 w9 ⟨rfl, rfl⟩
           simp only [hb2]
           go_simp
           refine hKK.out _ _ (HSF.out _ BD.out) (fun hHeld2 => ?_)
           clear hKK KK hHeld
           have hHeld := hHeld2
           clear hHeld2
           refine tkk 29 47 (v := ?_) ?_ ?_
           rotate_left 1
           ·intro w hSw
            obtain ⟨q0, q1, q2, q3, q4, q5⟩ := hSw
            go_simp <;> with_reducible rfl
           simp only [Act.put, List.setIfInBounds_toArray]
           dsimp only [List.set_cons_succ, List.set_cons_zero]
           refine tkk 30 48 (v := ?_) ?_ ?_
           rotate_left 1
           ·intro w hSw
            obtain ⟨q0, q1, q2, q3, q4, q5⟩ := hSw
            go_simp <;> with_reducible rfl
           simp only [Act.put, List.setIfInBounds_toArray]
           dsimp only [List.set_cons_succ, List.set_cons_zero]
           refine tkk 31 49 (v := ?_) ?_ ?_
           rotate_left 1
           ·intro w hSw
            obtain ⟨q0, q1, q2, q3, q4, q5⟩ := hSw
            go_simp <;> with_reducible rfl
           simp only [Act.put, List.setIfInBounds_toArray]
           dsimp only [List.set_cons_succ, List.set_cons_zero]
           refine tkk 32 50 (v := ?_) ?_ ?_
           rotate_left 1
           ·intro w hSw
            obtain ⟨q0, q1, q2, q3, q4, q5⟩ := hSw
            go_simp <;> with_reducible rfl
           simp only [Act.put, List.setIfInBounds_toArray]
           dsimp only [List.set_cons_succ, List.set_cons_zero]
           refine tkk 33 51 (v := ?_) ?_ ?_
           rotate_left 1
           ·intro w hSw
            obtain ⟨q0, q1, q2, q3, q4, q5⟩ := hSw
            go_simp <;> with_reducible rfl
           simp only [Act.put, List.setIfInBounds_toArray]
           dsimp only [List.set_cons_succ, List.set_cons_zero]
           refine wpAnyH_ready (rs := [34]) (by kernel_rfl) (by simp) ?_
           refine AllReadyH.cons rfl (fun KK hKK => ?_) AllReadyH.nil
           go_simp
           refine (l1In_any x.k 1 22 _).mono ?_
           rintro e9 w9 ⟨rfl, rfl⟩
           simp only [hb3]
           go_simp
           refine hKK.out _ _ (HSF.out _ BD.out) (fun hHeld2 => ?_)
           clear hKK KK hHeld
           have hHeld := hHeld2
           clear hHeld2
           refine tkk 35 53 (v := ?_) ?_ ?_
           rotate_left 1
           ·intro w hSw
            obtain ⟨q0, q1, q2, q3, q4, q5⟩ := hSw
            go_simp <;> with_reducible rfl
           simp only [Act.put, List.setIfInBounds_toArray]
           dsimp only [List.set_cons_succ, List.set_cons_zero]
           refine tkk 36 54 (v := ?_) ?_ ?_
           rotate_left 1
           ·intro w hSw
            obtain ⟨q0, q1, q2, q3, q4, q5⟩ := hSw
            go_simp <;> with_reducible rfl
           simp only [Act.put, List.setIfInBounds_toArray]
           dsimp only [List.set_cons_succ, List.set_cons_zero]
           refine tkk 37 55 (v := ?_) ?_ ?_
           rotate_left 1
           ·intro w hSw
            obtain ⟨q0, q1, q2, q3, q4, q5⟩ := hSw
            go_simp <;> with_reducible rfl
           simp only [Act.put, List.setIfInBounds_toArray]
           dsimp only [List.set_cons_succ, List.set_cons_zero]
           refine skk 38 56 ?_
           simp only [Act.put, List.setIfInBounds_toArray]
           dsimp only [List.set_cons_succ, List.set_cons_zero]
           refine skk 39 57 ?_
           simp only [Act.put, List.setIfInBounds_toArray]
           dsimp only [List.set_cons_succ, List.set_cons_zero]
           refine skk 40 58 ?_
           simp only [Act.put, List.setIfInBounds_toArray]
           dsimp only [List.set_cons_succ, List.set_cons_zero]
           refine skk 41 59 ?_
           simp only [Act.put, List.setIfInBounds_toArray]
           dsimp only [List.set_cons_succ, List.set_cons_zero]
           refine tkk 42 60 (v := ?_) ?_ ?_
           rotate_left 1
           ·intro w hSw
            obtain ⟨q0, q1, q2, q3, q4, q5⟩ := hSw
            go_simp <;> with_reducible rfl
           simp only [Act.put, List.setIfInBounds_toArray]
           dsimp only [List.set_cons_succ, List.set_cons_zero]
           refine wpAnyH_done (by kernel_rfl) ?_ _
           go_wp2_with fail
           go_meet
           case rel => exact ⟨by rw [HW.out] <;> rfl, BD⟩
          | true =>
           cases hb4 : inB x.d 0 200 with
           | false =>
            have HW : Hid ((inB x.i M 100000 && noteB x) = false) := by unfold Hid; simp [noteB, hb1, hb2, hb3, hb4]
            refine wp_region_held_drew (S := NIn wr.heap.size x pn b2 (o2 + k * 5)) (by kernel_rfl) (HSF.out _ (Below.refl _ _).drew) (fun hHeld => ?_)
            have BD : Hid (Below X.heap.size X X.drew) := (Below.refl _ _).drew
            generalize X.drew = D at BD hHeld ⊢
            refine tkk 0 18 (v := ?_) ?_ ?_
            rotate_left 1
            ·intro w hSw
             obtain ⟨q0, q1, q2, q3, q4, q5⟩ := hSw
             go_simp <;> with_reducible rfl
            simp only [Act.put, List.setIfInBounds_toArray]
            dsimp only [List.set_cons_succ, List.set_cons_zero]
            refine tkk 1 19 (v := ?_) ?_ ?_
            rotate_left 1
            ·intro w hSw
             obtain ⟨q0, q1, q2, q3, q4, q5⟩ := hSw
             go_simp <;> with_reducible rfl
            simp only [Act.put, List.setIfInBounds_toArray]
            dsimp only [List.set_cons_succ, List.set_cons_zero]
            refine wpAnyH_ready (rs := [2]) (by kernel_rfl) (by simp) ?_
            refine AllReadyH.cons rfl (fun KK hKK => ?_) AllReadyH.nil
            go_simp
            refine (l1In_any x.i 1 100000 _).mono ?_
            rintro e9 w9 ⟨rfl, rfl⟩
            simp only [hb0]
            go_simp
            refine hKK.out _ _ (HSF.out _ BD.out) (fun hHeld2 => ?_)
            clear hKK KK hHeld
            have hHeld := hHeld2
            clear hHeld2
            refine tkk 3 21 (v := ?_) ?_ ?_
            rotate_left 1
            ·intro w hSw
             obtain ⟨q0, q1, q2, q3, q4, q5⟩ := hSw
             go_simp <;> with_reducible rfl
            simp only [Act.put, List.setIfInBounds_toArray]
            dsimp only [List.set_cons_succ, List.set_cons_zero]
            refine tkk 4 22 (v := ?_) ?_ ?_
            rotate_left 1
            ·intro w hSw
             obtain ⟨q0, q1, q2, q3, q4, q5⟩ := hSw
             go_simp <;> with_reducible rfl
            simp only [Act.put, List.setIfInBounds_toArray]
            dsimp only [List.set_cons_succ, List.set_cons_zero]
            refine tkk 5 23 (v := ?_) ?_ ?_
            rotate_left 1
            ·intro w hSw
             obtain ⟨q0, q1, q2, q3, q4, q5⟩ := hSw
             go_simp <;> with_reducible rfl
            simp only [Act.put, List.setIfInBounds_toArray]
            dsimp only [List.set_cons_succ, List.set_cons_zero]
            refine tkk 6 24 (v := ?_) ?_ ?_
            rotate_left 1
            ·intro w hSw
             obtain ⟨q0, q1, q2, q3, q4, q5⟩ := hSw
             go_simp <;> with_reducible rfl
            simp only [Act.put, List.setIfInBounds_toArray]
            dsimp only [List.set_cons_succ, List.set_cons_zero]
            first | simp only [h00] | simp only [h00'] | skip
            refine tkk 7 25 (v := ?_) ?_ ?_
            rotate_left 1
            ·intro w hSw
             obtain ⟨q0, q1, q2, q3, q4, q5⟩ := hSw
             go_simp <;> with_reducible rfl
            simp only [Act.put, List.setIfInBounds_toArray]
            dsimp only [List.set_cons_succ, List.set_cons_zero]
            refine tkk 8 26 (v := ?_) ?_ ?_
            rotate_left 1
            ·intro w hSw
             obtain ⟨q0, q1, q2, q3, q4, q5⟩ := hSw
             go_simp <;> with_reducible rfl
            simp only [Act.put, List.setIfInBounds_toArray]
            dsimp only [List.set_cons_succ, List.set_cons_zero]
            refine tkk 9 27 (v := ?_) ?_ ?_
            rotate_left 1
            ·intro w hSw
             obtain ⟨q0, q1, q2, q3, q4, q5⟩ := hSw
             go_simp <;> with_reducible rfl
            simp only [Act.put, List.setIfInBounds_toArray]
            dsimp only [List.set_cons_succ, List.set_cons_zero]
            refine tkk 10 28 (v := ?_) ?_ ?_
            rotate_left 1
            ·intro w hSw
             obtain ⟨q0, q1, q2, q3, q4, q5⟩ := hSw
             go_simp <;> with_reducible rfl
            simp only [Act.put, List.setIfInBounds_toArray]
            dsimp only [List.set_cons_succ, List.set_cons_zero]
            first | simp only [hsub3] | simp only [hsub] | simp only [hsub2] | skip
            refine tkk 11 29 (v := ?_) ?_ ?_
            rotate_left 1
            ·intro w hSw
             obtain ⟨q0, q1, q2, q3, q4, q5⟩ := hSw
             go_simp <;> with_reducible rfl
            simp only [Act.put, List.setIfInBounds_toArray]
            dsimp only [List.set_cons_succ, List.set_cons_zero]
            refine tkk 12 30 (v := ?_) ?_ ?_
            rotate_left 1
            ·intro w hSw
             obtain ⟨q0, q1, q2, q3, q4, q5⟩ := hSw
             go_simp <;> with_reducible rfl
            simp only [Act.put, List.setIfInBounds_toArray]
            dsimp only [List.set_cons_succ, List.set_cons_zero]
            refine tkk 13 31 (v := ?_) ?_ ?_
            rotate_left 1
            ·intro w hSw
             obtain ⟨q0, q1, q2, q3, q4, q5⟩ := hSw
             go_simp <;> with_reducible rfl
            simp only [Act.put, List.setIfInBounds_toArray]
            dsimp only [List.set_cons_succ, List.set_cons_zero]
            refine tkk 14 32 (v := ?_) ?_ ?_
            rotate_left 1
            ·intro w hSw
             obtain ⟨q0, q1, q2, q3, q4, q5⟩ := hSw
             go_simp <;> with_reducible rfl
            simp only [Act.put, List.setIfInBounds_toArray]
            dsimp only [List.set_cons_succ, List.set_cons_zero]
            refine tkk 15 33 (v := ?_) ?_ ?_
            rotate_left 1
            ·intro w hSw
             obtain ⟨q0, q1, q2, q3, q4, q5⟩ := hSw
             go_simp <;> with_reducible rfl
            simp only [Act.put, List.setIfInBounds_toArray]
            dsimp only [List.set_cons_succ, List.set_cons_zero]
            refine tkk 16 34 (v := ?_) ?_ ?_
            rotate_left 1
            ·intro w hSw
             obtain ⟨q0, q1, q2, q3, q4, q5⟩ := hSw
             go_simp <;> with_reducible rfl
            simp only [Act.put, List.setIfInBounds_toArray]
            dsimp only [List.set_cons_succ, List.set_cons_zero]
            try simp only [hgt]
            refine tkk 17 35 (v := ?_) ?_ ?_
            rotate_left 1
            ·intro w hSw
             obtain ⟨q0, q1, q2, q3, q4, q5⟩ := hSw
             go_simp <;> with_reducible rfl
            simp only [Act.put, List.setIfInBounds_toArray]
            dsimp only [List.set_cons_succ, List.set_cons_zero]
            refine tkk 18 36 (v := ?_) ?_ ?_
            rotate_left 1
            ·intro w hSw
             obtain ⟨q0, q1, q2, q3, q4, q5⟩ := hSw
             go_simp <;> with_reducible rfl
            simp only [Act.put, List.setIfInBounds_toArray]
            dsimp only [List.set_cons_succ, List.set_cons_zero]
            refine tkk 19 37 (v := ?_) ?_ ?_
            rotate_left 1
            ·intro w hSw
             obtain ⟨q0, q1, q2, q3, q4, q5⟩ := hSw
             go_simp <;> with_reducible rfl
            simp only [Act.put, List.setIfInBounds_toArray]
            dsimp only [List.set_cons_succ, List.set_cons_zero]
            refine tkk 20 38 (v := ?_) ?_ ?_
            rotate_left 1
            ·intro w hSw
             obtain ⟨q0, q1, q2, q3, q4, q5⟩ := hSw
             go_simp <;> with_reducible rfl
            simp only [Act.put, List.setIfInBounds_toArray]
            dsimp only [List.set_cons_succ, List.set_cons_zero]
            refine tkk 21 39 (v := ?_) ?_ ?_
            rotate_left 1
            ·intro w hSw
             obtain ⟨q0, q1, q2, q3, q4, q5⟩ := hSw
             go_simp <;> with_reducible rfl
            simp only [Act.put, List.setIfInBounds_toArray]
            dsimp only [List.set_cons_succ, List.set_cons_zero]
            refine wpAnyH_ready (rs := [22]) (by kernel_rfl) (by simp) ?_
            refine AllReadyH.cons rfl (fun KK hKK => ?_) AllReadyH.nil
            go_simp
            refine (l1In_any x.c 1 3 _).mono ?_
            rintro e9 w9 ⟨rfl, rfl⟩
            simp only [hb1]
            go_simp
            refine hKK.out _ _ (HSF.out _ BD.out) (fun hHeld2 => ?_)
            clear hKK KK hHeld
            have hHeld := hHeld2
            clear hHeld2
            refine tkk 23 41 (v := ?_) ?_ ?_
            rotate_left 1
            ·intro w hSw
             obtain ⟨q0, q1, q2, q3, q4, q5⟩ := hSw
             go_simp <;> with_reducible rfl
            simp only [Act.put, List.setIfInBounds_toArray]
            dsimp only [List.set_cons_succ, List.set_cons_zero]
            refine tkk 24 42 (v := ?_) ?_ ?_
            rotate_left 1
            ·intro w hSw
             obtain ⟨q0, q1, q2, q3, q4, q5⟩ := hSw
             go_simp <;> with_reducible rfl
            simp only [Act.put, List.setIfInBounds_toArray]
            dsimp only [List.set_cons_succ, List.set_cons_zero]
            refine tkk 25 43 (v := ?_) ?_ ?_
            rotate_left 1
            ·intro w hSw
             obtain ⟨q0, q1, q2, q3, q4, q5⟩ := hSw
             go_simp <;> with_reducible rfl
            simp only [Act.put, List.setIfInBounds_toArray]
            dsimp only [List.set_cons_succ, List.set_cons_zero]
            refine tkk 26 44 (v := ?_) ?_ ?_
            rotate_left 1
            ·intro w hSw
             obtain ⟨q0, q1, q2, q3, q4, q5⟩ := hSw
             go_simp <;> with_reducible rfl
            simp only [Act.put, List.setIfInBounds_toArray]
            dsimp only [List.set_cons_succ, List.set_cons_zero]
            refine tkk 27 45 (v := ?_) ?_ ?_
            rotate_left 1
            ·intro w hSw
             obtain ⟨q0, q1, q2, q3, q4, q5⟩ := hSw
             go_simp <;> with_reducible rfl
            simp only [Act.put, List.setIfInBounds_toArray]
            dsimp only [List.set_cons_succ, List.set_cons_zero]
            refine wpAnyH_ready (rs := [28]) (by kernel_rfl) (by simp) ?_
            refine AllReadyH.cons rfl (fun KK hKK => ?_) AllReadyH.nil
            go_simp
            refine (l1In_any x.s 1 1000000 _).mono ?_
            rintro e9 w9 ⟨rfl, rfl⟩
            simp only [hb2]
            go_simp
            refine hKK.out _ _ (HSF.out _ BD.out) (fun hHeld2 => ?_)
            clear hKK KK hHeld
            have hHeld := hHeld2
            clear hHeld2
            refine tkk 29 47 (v := ?_) ?_ ?_
            rotate_left 1
            ·intro w hSw
             obtain ⟨q0, q1, q2, q3, q4, q5⟩ := hSw
             go_simp <;> with_reducible rfl
            simp only [Act.put, List.setIfInBounds_toArray]
            dsimp only [List.set_cons_succ, List.set_cons_zero]
            refine tkk 30 48 (v := ?_) ?_ ?_
            rotate_left 1
            ·intro w hSw
             obtain ⟨q0, q1, q2, q3, q4, q5⟩ := hSw
             go_simp <;> with_reducible rfl
            simp only [Act.put, List.setIfInBounds_toArray]
            dsimp only [List.set_cons_succ, List.set_cons_zero]
            refine tkk 31 49 (v := ?_) ?_ ?_
            rotate_left 1
            ·intro w hSw
             obtain ⟨q0, q1, q2, q3, q4, q5⟩ := hSw
             go_simp <;> with_reducible rfl
            simp only [Act.put, List.setIfInBounds_toArray]
            dsimp only [List.set_cons_succ, List.set_cons_zero]
            refine tkk 32 50 (v := ?_) ?_ ?_
            rotate_left 1
            ·intro w hSw
             obtain ⟨q0, q1, q2, q3, q4, q5⟩ := hSw
             go_simp <;> with_reducible rfl
            simp only [Act.put, List.setIfInBounds_toArray]
            dsimp only [List.set_cons_succ, List.set_cons_zero]
            refine tkk 33 51 (v := ?_) ?_ ?_
            rotate_left 1
            ·intro w hSw
             obtain ⟨q0, q1, q2, q3, q4, q5⟩ := hSw
             go_simp <;> with_reducible rfl
            simp only [Act.put, List.setIfInBounds_toArray]
            dsimp only [List.set_cons_succ, List.set_cons_zero]
            refine wpAnyH_ready (rs := [34]) (by kernel_rfl) (by simp) ?_
            refine AllReadyH.cons rfl (fun KK hKK => ?_) AllReadyH.nil
            go_simp
            refine (l1In_any x.k 1 22 _).mono ?_
            rintro e9 w9 ⟨rfl, rfl⟩
            simp only [hb3]
            go_simp
            refine hKK.out _ _ (HSF.out _ BD.out) (fun hHeld2 => ?_)
            clear hKK KK hHeld
            have hHeld := hHeld2
            clear hHeld2
            refine tkk 35 53 (v := ?_) ?_ ?_
            rotate_left 1
            ·intro w hSw
             obtain ⟨q0, q1, q2, q3, q4, q5⟩ := hSw
             go_simp <;> with_reducible rfl
            simp only [Act.put, List.setIfInBounds_toArray]
            dsimp only [List.set_cons_succ, List.set_cons_zero]
            refine tkk 36 54 (v := ?_) ?_ ?_
            rotate_left 1
            ·intro w hSw
             obtain ⟨q0, q1, q2, q3, q4, q5⟩ := hSw
             go_simp <;> with_reducible rfl
            simp only [Act.put, List.setIfInBounds_toArray]
            dsimp only [List.set_cons_succ, List.set_cons_zero]
            refine tkk 37 55 (v := ?_) ?_ ?_
            rotate_left 1
            ·intro w hSw
             obtain ⟨q0, q1, q2, q3, q4, q5⟩ := hSw
             go_simp <;> with_reducible rfl
            simp only [Act.put, List.setIfInBounds_toArray]
            dsimp only [List.set_cons_succ, List.set_cons_zero]
            refine tkk 38 56 (v := ?_) ?_ ?_
            rotate_left 1
            ·intro w hSw
             obtain ⟨q0, q1, q2, q3, q4, q5⟩ := hSw
             go_simp <;> with_reducible rfl
            simp only [Act.put, List.setIfInBounds_toArray]
            dsimp only [List.set_cons_succ, List.set_cons_zero]
            refine tkk 39 57 (v := ?_) ?_ ?_
            rotate_left 1
            ·intro w hSw
             obtain ⟨q0, q1, q2, q3, q4, q5⟩ := hSw
             go_simp <;> with_reducible rfl
            simp only [Act.put, List.setIfInBounds_toArray]
            dsimp only [List.set_cons_succ, List.set_cons_zero]
            refine wpAnyH_ready (rs := [40]) (by kernel_rfl) (by simp) ?_
            refine AllReadyH.cons rfl (fun KK hKK => ?_) AllReadyH.nil
            go_simp
            refine (l1In_any x.d 0 200 _).mono ?_
            rintro e9 w9 ⟨rfl, rfl⟩
            simp only [hb4]
            go_simp
            refine hKK.out _ _ (HSF.out _ BD.out) (fun hHeld2 => ?_)
            clear hKK KK hHeld
            have hHeld := hHeld2
            clear hHeld2
            refine tkk 41 59 (v := ?_) ?_ ?_
            rotate_left 1
            ·intro w hSw
             obtain ⟨q0, q1, q2, q3, q4, q5⟩ := hSw
             go_simp <;> with_reducible rfl
            simp only [Act.put, List.setIfInBounds_toArray]
            dsimp only [List.set_cons_succ, List.set_cons_zero]
            refine tkk 42 60 (v := ?_) ?_ ?_
            rotate_left 1
            ·intro w hSw
             obtain ⟨q0, q1, q2, q3, q4, q5⟩ := hSw
             go_simp <;> with_reducible rfl
            simp only [Act.put, List.setIfInBounds_toArray]
            dsimp only [List.set_cons_succ, List.set_cons_zero]
            refine wpAnyH_done (by kernel_rfl) ?_ _
            go_wp2_with fail
            go_meet
            case rel => exact ⟨by rw [HW.out] <;> rfl, BD⟩
           | true =>
            have HW : Hid ((inB x.i M 100000 && noteB x) = true) := by unfold Hid; simp [noteB, HLE.out, hb1, hb2, hb3, hb4]
            refine wp_region_held_drew (S := NIn wr.heap.size x pn b2 (o2 + k * 5)) (by kernel_rfl) (HSF.out _ (Below.refl _ _).drew) (fun hHeld => ?_)
            have BD : Hid (Below X.heap.size X X.drew) := (Below.refl _ _).drew
            generalize X.drew = D at BD hHeld ⊢
            refine tkk 0 18 (v := ?_) ?_ ?_
            rotate_left 1
            ·intro w hSw
             obtain ⟨q0, q1, q2, q3, q4, q5⟩ := hSw
             go_simp <;> with_reducible rfl
            simp only [Act.put, List.setIfInBounds_toArray]
            dsimp only [List.set_cons_succ, List.set_cons_zero]
            refine tkk 1 19 (v := ?_) ?_ ?_
            rotate_left 1
            ·intro w hSw
             obtain ⟨q0, q1, q2, q3, q4, q5⟩ := hSw
             go_simp <;> with_reducible rfl
            simp only [Act.put, List.setIfInBounds_toArray]
            dsimp only [List.set_cons_succ, List.set_cons_zero]
            refine wpAnyH_ready (rs := [2]) (by kernel_rfl) (by simp) ?_
            refine AllReadyH.cons rfl (fun KK hKK => ?_) AllReadyH.nil
            go_simp
            refine (l1In_any x.i 1 100000 _).mono ?_
            rintro e9 w9 ⟨rfl, rfl⟩
            simp only [hb0]
            go_simp
            refine hKK.out _ _ (HSF.out _ BD.out) (fun hHeld2 => ?_)
            clear hKK KK hHeld
            have hHeld := hHeld2
            clear hHeld2
            refine tkk 3 21 (v := ?_) ?_ ?_
            rotate_left 1
            ·intro w hSw
             obtain ⟨q0, q1, q2, q3, q4, q5⟩ := hSw
             go_simp <;> with_reducible rfl
            simp only [Act.put, List.setIfInBounds_toArray]
            dsimp only [List.set_cons_succ, List.set_cons_zero]
            refine tkk 4 22 (v := ?_) ?_ ?_
            rotate_left 1
            ·intro w hSw
             obtain ⟨q0, q1, q2, q3, q4, q5⟩ := hSw
             go_simp <;> with_reducible rfl
            simp only [Act.put, List.setIfInBounds_toArray]
            dsimp only [List.set_cons_succ, List.set_cons_zero]
            refine tkk 5 23 (v := ?_) ?_ ?_
            rotate_left 1
            ·intro w hSw
             obtain ⟨q0, q1, q2, q3, q4, q5⟩ := hSw
             go_simp <;> with_reducible rfl
            simp only [Act.put, List.setIfInBounds_toArray]
            dsimp only [List.set_cons_succ, List.set_cons_zero]
            refine tkk 6 24 (v := ?_) ?_ ?_
            rotate_left 1
            ·intro w hSw
             obtain ⟨q0, q1, q2, q3, q4, q5⟩ := hSw
             go_simp <;> with_reducible rfl
            simp only [Act.put, List.setIfInBounds_toArray]
            dsimp only [List.set_cons_succ, List.set_cons_zero]
            first | simp only [h00] | simp only [h00'] | skip
            refine tkk 7 25 (v := ?_) ?_ ?_
            rotate_left 1
            ·intro w hSw
             obtain ⟨q0, q1, q2, q3, q4, q5⟩ := hSw
             go_simp <;> with_reducible rfl
            simp only [Act.put, List.setIfInBounds_toArray]
            dsimp only [List.set_cons_succ, List.set_cons_zero]
            refine tkk 8 26 (v := ?_) ?_ ?_
            rotate_left 1
            ·intro w hSw
             obtain ⟨q0, q1, q2, q3, q4, q5⟩ := hSw
             go_simp <;> with_reducible rfl
            simp only [Act.put, List.setIfInBounds_toArray]
            dsimp only [List.set_cons_succ, List.set_cons_zero]
            refine tkk 9 27 (v := ?_) ?_ ?_
            rotate_left 1
            ·intro w hSw
             obtain ⟨q0, q1, q2, q3, q4, q5⟩ := hSw
             go_simp <;> with_reducible rfl
            simp only [Act.put, List.setIfInBounds_toArray]
            dsimp only [List.set_cons_succ, List.set_cons_zero]
            refine tkk 10 28 (v := ?_) ?_ ?_
            rotate_left 1
            ·intro w hSw
             obtain ⟨q0, q1, q2, q3, q4, q5⟩ := hSw
             go_simp <;> with_reducible rfl
            simp only [Act.put, List.setIfInBounds_toArray]
            dsimp only [List.set_cons_succ, List.set_cons_zero]
            first | simp only [hsub3] | simp only [hsub] | simp only [hsub2] | skip
            refine tkk 11 29 (v := ?_) ?_ ?_
            rotate_left 1
            ·intro w hSw
             obtain ⟨q0, q1, q2, q3, q4, q5⟩ := hSw
             go_simp <;> with_reducible rfl
            simp only [Act.put, List.setIfInBounds_toArray]
            dsimp only [List.set_cons_succ, List.set_cons_zero]
            refine tkk 12 30 (v := ?_) ?_ ?_
            rotate_left 1
            ·intro w hSw
             obtain ⟨q0, q1, q2, q3, q4, q5⟩ := hSw
             go_simp <;> with_reducible rfl
            simp only [Act.put, List.setIfInBounds_toArray]
            dsimp only [List.set_cons_succ, List.set_cons_zero]
            refine tkk 13 31 (v := ?_) ?_ ?_
            rotate_left 1
            ·intro w hSw
             obtain ⟨q0, q1, q2, q3, q4, q5⟩ := hSw
             go_simp <;> with_reducible rfl
            simp only [Act.put, List.setIfInBounds_toArray]
            dsimp only [List.set_cons_succ, List.set_cons_zero]
            refine tkk 14 32 (v := ?_) ?_ ?_
            rotate_left 1
            ·intro w hSw
             obtain ⟨q0, q1, q2, q3, q4, q5⟩ := hSw
             go_simp <;> with_reducible rfl
            simp only [Act.put, List.setIfInBounds_toArray]
            dsimp only [List.set_cons_succ, List.set_cons_zero]
            refine tkk 15 33 (v := ?_) ?_ ?_
            rotate_left 1
            ·intro w hSw
             obtain ⟨q0, q1, q2, q3, q4, q5⟩ := hSw
             go_simp <;> with_reducible rfl
            simp only [Act.put, List.setIfInBounds_toArray]
            dsimp only [List.set_cons_succ, List.set_cons_zero]
            refine tkk 16 34 (v := ?_) ?_ ?_
            rotate_left 1
            ·intro w hSw
             obtain ⟨q0, q1, q2, q3, q4, q5⟩ := hSw
             go_simp <;> with_reducible rfl
            simp only [Act.put, List.setIfInBounds_toArray]
            dsimp only [List.set_cons_succ, List.set_cons_zero]
            try simp only [hgt]
            refine tkk 17 35 (v := ?_) ?_ ?_
            rotate_left 1
            ·intro w hSw
             obtain ⟨q0, q1, q2, q3, q4, q5⟩ := hSw
             go_simp <;> with_reducible rfl
            simp only [Act.put, List.setIfInBounds_toArray]
            dsimp only [List.set_cons_succ, List.set_cons_zero]
            refine tkk 18 36 (v := ?_) ?_ ?_
            rotate_left 1
            ·intro w hSw
             obtain ⟨q0, q1, q2, q3, q4, q5⟩ := hSw
             go_simp <;> with_reducible rfl
            simp only [Act.put, List.setIfInBounds_toArray]
            dsimp only [List.set_cons_succ, List.set_cons_zero]
            refine tkk 19 37 (v := ?_) ?_ ?_
            rotate_left 1
            ·intro w hSw
             obtain ⟨q0, q1, q2, q3, q4, q5⟩ := hSw
             go_simp <;> with_reducible rfl
            simp only [Act.put, List.setIfInBounds_toArray]
            dsimp only [List.set_cons_succ, List.set_cons_zero]
            refine tkk 20 38 (v := ?_) ?_ ?_
            rotate_left 1
            ·intro w hSw
             obtain ⟨q0, q1, q2, q3, q4, q5⟩ := hSw
             go_simp <;> with_reducible rfl
            simp only [Act.put, List.setIfInBounds_toArray]
            dsimp only [List.set_cons_succ, List.set_cons_zero]
            refine tkk 21 39 (v := ?_) ?_ ?_
            rotate_left 1
            ·intro w hSw
             obtain ⟨q0, q1, q2, q3, q4, q5⟩ := hSw
             go_simp <;> with_reducible rfl
            simp only [Act.put, List.setIfInBounds_toArray]
            dsimp only [List.set_cons_succ, List.set_cons_zero]
            refine wpAnyH_ready (rs := [22]) (by kernel_rfl) (by simp) ?_
            refine AllReadyH.cons rfl (fun KK hKK => ?_) AllReadyH.nil
            go_simp
            refine (l1In_any x.c 1 3 _).mono ?_
            rintro e9 w9 ⟨rfl, rfl⟩
            simp only [hb1]
            go_simp
            refine hKK.out _ _ (HSF.out _ BD.out) (fun hHeld2 => ?_)
            clear hKK KK hHeld
            have hHeld := hHeld2
            clear hHeld2
            refine tkk 23 41 (v := ?_) ?_ ?_
            rotate_left 1
            ·intro w hSw
             obtain ⟨q0, q1, q2, q3, q4, q5⟩ := hSw
             go_simp <;> with_reducible rfl
            simp only [Act.put, List.setIfInBounds_toArray]
            dsimp only [List.set_cons_succ, List.set_cons_zero]
            refine tkk 24 42 (v := ?_) ?_ ?_
            rotate_left 1
            ·intro w hSw
             obtain ⟨q0, q1, q2, q3, q4, q5⟩ := hSw
             go_simp <;> with_reducible rfl
            simp only [Act.put, List.setIfInBounds_toArray]
            dsimp only [List.set_cons_succ, List.set_cons_zero]
            refine tkk 25 43 (v := ?_) ?_ ?_
            rotate_left 1
            ·intro w hSw
             obtain ⟨q0, q1, q2, q3, q4, q5⟩ := hSw
             go_simp <;> with_reducible rfl
            simp only [Act.put, List.setIfInBounds_toArray]
            dsimp only [List.set_cons_succ, List.set_cons_zero]
            refine tkk 26 44 (v := ?_) ?_ ?_
            rotate_left 1
            ·intro w hSw
             obtain ⟨q0, q1, q2, q3, q4, q5⟩ := hSw
             go_simp <;> with_reducible rfl
            simp only [Act.put, List.setIfInBounds_toArray]
            dsimp only [List.set_cons_succ, List.set_cons_zero]
            refine tkk 27 45 (v := ?_) ?_ ?_
            rotate_left 1
            ·intro w hSw
             obtain ⟨q0, q1, q2, q3, q4, q5⟩ := hSw
             go_simp <;> with_reducible rfl
            simp only [Act.put, List.setIfInBounds_toArray]
            dsimp only [List.set_cons_succ, List.set_cons_zero]
            refine wpAnyH_ready (rs := [28]) (by kernel_rfl) (by simp) ?_
            refine AllReadyH.cons rfl (fun KK hKK => ?_) AllReadyH.nil
            go_simp
            refine (l1In_any x.s 1 1000000 _).mono ?_
            rintro e9 w9 ⟨rfl, rfl⟩
            simp only [hb2]
            go_simp
            refine hKK.out _ _ (HSF.out _ BD.out) (fun hHeld2 => ?_)
            clear hKK KK hHeld
            have hHeld := hHeld2
            clear hHeld2
            refine tkk 29 47 (v := ?_) ?_ ?_
            rotate_left 1
            ·intro w hSw
             obtain ⟨q0, q1, q2, q3, q4, q5⟩ := hSw
             go_simp <;> with_reducible rfl
            simp only [Act.put, List.setIfInBounds_toArray]
            dsimp only [List.set_cons_succ, List.set_cons_zero]
            refine tkk 30 48 (v := ?_) ?_ ?_
            rotate_left 1
            ·intro w hSw
             obtain ⟨q0, q1, q2, q3, q4, q5⟩ := hSw
             go_simp <;> with_reducible rfl
            simp only [Act.put, List.setIfInBounds_toArray]
            dsimp only [List.set_cons_succ, List.set_cons_zero]
            refine tkk 31 49 (v := ?_) ?_ ?_
            rotate_left 1
            ·intro w hSw
             obtain ⟨q0, q1, q2, q3, q4, q5⟩ := hSw
             go_simp <;> with_reducible rfl
            simp only [Act.put, List.setIfInBounds_toArray]
            dsimp only [List.set_cons_succ, List.set_cons_zero]
            refine tkk 32 50 (v := ?_) ?_ ?_
            rotate_left 1
            ·intro w hSw
             obtain ⟨q0, q1, q2, q3, q4, q5⟩ := hSw
             go_simp <;> with_reducible rfl
            simp only [Act.put, List.setIfInBounds_toArray]
            dsimp only [List.set_cons_succ, List.set_cons_zero]
            refine tkk 33 51 (v := ?_) ?_ ?_
            rotate_left 1
            ·intro w hSw
             obtain ⟨q0, q1, q2, q3, q4, q5⟩ := hSw
             go_simp <;> with_reducible rfl
            simp only [Act.put, List.setIfInBounds_toArray]
            dsimp only [List.set_cons_succ, List.set_cons_zero]
            refine wpAnyH_ready (rs := [34]) (by kernel_rfl) (by simp) ?_
            refine AllReadyH.cons rfl (fun KK hKK => ?_) AllReadyH.nil
            go_simp
            refine (l1In_any x.k 1 22 _).mono ?_
            rintro e9 w9 ⟨rfl, rfl⟩
            simp only [hb3]
            go_simp
            refine hKK.out _ _ (HSF.out _ BD.out) (fun hHeld2 => ?_)
            clear hKK KK hHeld
            have hHeld := hHeld2
            clear hHeld2
            refine tkk 35 53 (v := ?_) ?_ ?_
            rotate_left 1
            ·intro w hSw
             obtain ⟨q0, q1, q2, q3, q4, q5⟩ := hSw
             go_simp <;> with_reducible rfl
            simp only [Act.put, List.setIfInBounds_toArray]
            dsimp only [List.set_cons_succ, List.set_cons_zero]
            refine tkk 36 54 (v := ?_) ?_ ?_
            rotate_left 1
            ·intro w hSw
             obtain ⟨q0, q1, q2, q3, q4, q5⟩ := hSw
             go_simp <;> with_reducible rfl
            simp only [Act.put, List.setIfInBounds_toArray]
            dsimp only [List.set_cons_succ, List.set_cons_zero]
            refine tkk 37 55 (v := ?_) ?_ ?_
            rotate_left 1
            ·intro w hSw
             obtain ⟨q0, q1, q2, q3, q4, q5⟩ := hSw
             go_simp <;> with_reducible rfl
            simp only [Act.put, List.setIfInBounds_toArray]
            dsimp only [List.set_cons_succ, List.set_cons_zero]
            refine tkk 38 56 (v := ?_) ?_ ?_
            rotate_left 1
            ·intro w hSw
             obtain ⟨q0, q1, q2, q3, q4, q5⟩ := hSw
             go_simp <;> with_reducible rfl
            simp only [Act.put, List.setIfInBounds_toArray]
            dsimp only [List.set_cons_succ, List.set_cons_zero]
            refine tkk 39 57 (v := ?_) ?_ ?_
            rotate_left 1
            ·intro w hSw
             obtain ⟨q0, q1, q2, q3, q4, q5⟩ := hSw
             go_simp <;> with_reducible rfl
            simp only [Act.put, List.setIfInBounds_toArray]
            dsimp only [List.set_cons_succ, List.set_cons_zero]
            refine wpAnyH_ready (rs := [40]) (by kernel_rfl) (by simp) ?_
            refine AllReadyH.cons rfl (fun KK hKK => ?_) AllReadyH.nil
            go_simp
            refine (l1In_any x.d 0 200 _).mono ?_
            rintro e9 w9 ⟨rfl, rfl⟩
            simp only [hb4]
            go_simp
            refine hKK.out _ _ (HSF.out _ BD.out) (fun hHeld2 => ?_)
            clear hKK KK hHeld
            have hHeld := hHeld2
            clear hHeld2
            refine tkk 41 59 (v := ?_) ?_ ?_
            rotate_left 1
            ·intro w hSw
             obtain ⟨q0, q1, q2, q3, q4, q5⟩ := hSw
             go_simp <;> with_reducible rfl
            simp only [Act.put, List.setIfInBounds_toArray]
            dsimp only [List.set_cons_succ, List.set_cons_zero]
            refine tkk 42 60 (v := ?_) ?_ ?_
            rotate_left 1
            ·intro w hSw
             obtain ⟨q0, q1, q2, q3, q4, q5⟩ := hSw
             go_simp <;> with_reducible rfl
            simp only [Act.put, List.setIfInBounds_toArray]
            dsimp only [List.set_cons_succ, List.set_cons_zero]
            refine wpAnyH_done (by kernel_rfl) ?_ _
            go_wp2_with fail
            go_meet
            case rel => exact ⟨by rw [HW.out] <;> rfl, BD⟩
    case rest =>
    obtain ⟨rfl, HBC⟩ := hcut
    have HBF : Hid (Below w.heap.size w wc) := HBX.out.trans (HBC.out.mono (by omega))
    cases hall : (inB x.i M 100000 && noteB x) with
    | false =>
     have HFF : Hid (auditB L = false) := by unfold Hid; rw [HJ.out, HMA.out, HST.out, hall]; rfl
     go_wp2_with fail
     go_ret
     exact ⟨ret_bool HFF.out.symm, HBF.out⟩
    | true =>
     have HFF : Hid (auditB L = auditFrom (aheadQ L (j + 1)) (L.drop (j + 1))) := by unfold Hid; rw [HJ.out, HMA.out, HST.out, hall]; rfl
     have HM2 : Hid (1 ≤ aheadQ L (j + 1)) := by
      have h1 := HM1.out
      have h2 : inB x.i M 100000 = true := by
       cases h3 : inB x.i M 100000 with
       | true => rfl
       | false => rw [h3] at hall; cases hall
      have h4 := inB_of' h2
      unfold Hid; rw [HSU.out]; omega
     go_wp2_with fail
     go_roundw
     case rel => exact ⟨j + 1, by go_num, by omega, HFF, HM2, HBF⟩
     case measure => simp [intOf]; omega
   ·obtain rfl : j = L.length := by omega
    have HFF : Hid (auditB L = true) := by unfold Hid; rw [HJ.out, auditFrom_end]
    go_wp2_with fail
    go_ret
    exact ⟨ret_bool HFF.out.symm, HBW.out⟩
 ·have h20' : (20 : Int) < (L.length : Int) := by omega
  have hA := auditB_long h20
  go_enter Tryz.func61, Tryz.ntmps61
  go_wp2
  go_ret
  first | exact ⟨rfl, Below.refl _ _⟩ | exact ⟨ret_bool hA.symm, Below.refl _ _⟩
end Go.Proofs.YtknckbedddeijaaGreat
