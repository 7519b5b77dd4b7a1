/- The sentence's TenantOk. -/
import Derived.Test.YtknckbedddeijaaGreatXTenOkI
import Derived.Test.YtknckbedddeijaaGreatXAudS
import Derived.Test.YtknckbedddeijaaGreatTCurP
import Derived.Deep.CutRange
import Derived.Deep.CutBlock
import Derived.OwnWalk
namespace Go.Proofs.YtknckbedddeijaaGreat
open Go.RowKit
set_option linter.unusedVariables false
/-- The least client that the session at place j may have. -/
def aheadC (l : List Se) (j : Nat) : Int := if j = 0 then 1 else ((l[j - 1]?).map (fun a => a.c + 1)).getD 0
theorem aheadC_succ {l : List Se} {j : Nat} (h : j < l.length) : aheadC l (j + 1) = l[j].c + 1 := by simp [aheadC, List.getElem?_eq_getElem h]
theorem sessFrom_step {l : List Se} {j : Nat} (h : j < l.length) : sessFrom (aheadC l j) (l.drop j) = (inB l[j].c (aheadC l j) 3 && sesB l[j] && sessFrom (aheadC l (j + 1)) (l.drop (j + 1))) := by
 rw [sessFrom_drop _ _ _ h, aheadC_succ h]
def SeIn (eb : Nat) (x : Se) (tb : Nat) (vs : Value) (pn : Int) (b2 op : Nat) (w' : World) : Prop := w'.cell? ⟨eb, 0, none⟩ = some (.int .i64 x.c) ∧ w'.cell? ⟨eb, 1, none⟩ = some (.int .i64 x.s) ∧ w'.cell? ⟨eb, 2, none⟩ = some (.int .i64 x.i) ∧ w'.cell? ⟨eb, 3, none⟩ = some (.int .i64 x.r.c) ∧ w'.cell? ⟨eb, 4, none⟩ = some (.string x.r.d) ∧ w'.cell? ⟨tb, 4, none⟩ = some vs ∧ w'.cell? ⟨b2, op, none⟩ = some (.int .i64 pn)
set_option maxRecDepth 100000 in
set_option maxHeartbeats 40000000 in
theorem specTenantOk_any (t : Ten) (N : Nat) (w : World) (hN : N ≤ w.heap.size) (hr : TenR w N t) (hz : TenW t) :
  Calls Tryz.prog 42 #[t.v] w fun e w' => e = .returned (.bool (tenB t.key)) ∧ Below w.heap.size w w' := by
 obtain ⟨nx, L, ua, uc, tk, A, aa, ac, Ss, sa, sc⟩ := t
 have HRV : Hid (VolR w N (.slice ua L.length uc) L) := hr.vol
 have HRA : Hid (Row ntE w N (.slice aa A.length ac) A) := hr.aud
 have HRS : Hid (Row seE w N (.slice sa Ss.length sc) Ss) := hr.ses
 have HZN : Hid (∀ p ∈ L, NdSz p.n) := fun p hp => (hz.nod p hp).1
 obtain ⟨ans, hans⟩ : ∃ ans, tenB (Ten.key ⟨nx, L, ua, uc, tk, A, aa, ac, Ss, sa, sc⟩) = ans := ⟨_, rfl⟩
 rw [hans]
 have HK : Hid (ans = (volB nx (L.map Np.n) && (inB tk 0 30 && (auditB A && sessFrom 1 Ss)))) := by unfold Hid; rw [← hans]; rfl
 clear hr hz hans
 show Calls Tryz.prog 42 #[.agg #[.int .i64 nx, .slice ua L.length uc, .int .i64 tk, .slice aa A.length ac, .slice sa Ss.length sc]] w _
 go_enter Tryz.func42, Tryz.ntmps42
 go_wp2_with fail
 obtain ⟨W, hW, bW, zW, c1, f1⟩ := boxed w #[.int .i64 nx, .slice ua L.length uc, .int .i64 tk, .slice aa A.length ac, .slice sa Ss.length sc] 36
 try simp only [hW]
 refine (specVolOk_any nx L (.slice ua L.length uc) N W (by omega) (HRV.out.kept (bW.mono hN)) HZN.out).mono ?_
 rintro e w1 ⟨rfl, b1⟩
 have z1 := b1.size
 replace c1 := keepC b1 (by omega) c1
 have HB := Hid.intro (bW.trans (b1.mono (by omega)))
 have hz1 : w.heap.size < w1.heap.size := by omega
 clear hW bW b1 f1
 cases hv : volB nx (L.map Np.n) with
 | false =>
  have HF : Hid (ans = false) := by unfold Hid; rw [HK.out, hv]; rfl
  go_wp2_with fail
  go_ret
  exact ⟨ret_bool HF.out.symm, HB.out⟩
 | true =>
  cases hb : inB tk 0 30 with
  | false =>
   have HF : Hid (ans = false) := by unfold Hid; rw [HK.out, hv, hb]; rfl
   go_wp2_with (go_at_call 60; refine (l1In_any _ _ _ _).mono ?_; rintro e w9 ⟨rfl, rfl⟩; simp only [hb])
   go_ret
   exact ⟨ret_bool HF.out.symm, HB.out⟩
  | true =>
   go_wp2_with (first | (go_at_call 60; refine (l1In_any _ _ _ _).mono ?_; rintro e w9 ⟨rfl, rfl⟩; simp only [hb]) | fail)
   refine (specAuditOk_any A (.slice aa A.length ac) N w1 (by omega) (HRA.out.kept (HB.out.mono hN))).mono ?_
   rintro e w2 ⟨rfl, b2⟩
   have z2 := b2.size
   replace c1 := keepC b2 (by omega) c1
   have HB2 := Hid.intro (HB.out.trans (b2.mono (by omega)))
   have hz2 : w.heap.size < w2.heap.size := by omega
   clear b2
   cases ha : auditB A with
   | false =>
    have HF : Hid (ans = false) := by unfold Hid; rw [HK.out, hv, hb, ha]; rfl
    go_wp2_with fail
    go_ret
    exact ⟨ret_bool HF.out.symm, HB2.out⟩
   | true =>
    have HF0 : Hid (ans = sessFrom 1 Ss) := by unfold Hid; rw [HK.out, hv, hb, ha]; rfl
    by_cases h3 : Ss.length ≤ 3
    ·have h3' : ¬ (3 : Int) < (Ss.length : Int) := by omega
     clear h3
     obtain ⟨a0, cap0, hsv, hl, hm, hcells⟩ := seE_cell (HRS.out.kept (HB2.out.mono hN))
     simp only [Value.slice.injEq, true_and] at hsv
     obtain ⟨rfl, rfl⟩ := hsv
     have HC := Hid.intro hcells
     clear hcells hl hm HRS
     have HJ0 : Hid (ans = sessFrom (aheadC Ss 0) (Ss.drop 0)) := HF0.out
     have C1 := Hid.intro c1
     go_wp2_with fail
     go_loopw [3] (fun i wr => ∃ (j : Nat), i = .int .i64 j ∧ j ≤ Ss.length ∧ Hid (ans = sessFrom (aheadC Ss j) (Ss.drop j)) ∧ Hid (1 ≤ aheadC Ss j) ∧ Hid (Below w2.heap.size w2 wr)) (fun i _ => Ss.length - (intOf i).toNat)
     case atStart => exact ⟨0, rfl, Nat.zero_le _, HJ0, (by unfold Hid; simp [aheadC]), Below.refl _ _⟩
     case round =>
      obtain ⟨j, rfl, hj, HJ, HM, HBW⟩ := hrel
      have hzr := HBW.out.size
      have c3 := keepC HBW.out hz2 C1.out
      by_cases hlt : j < Ss.length
      ·obtain ⟨b2, o2, rfl, hb2, hdd⟩ := HC.out (by intro h; rw [h] at hlt; simp at hlt)
       obtain ⟨d0, d1, d2, d3, d4⟩ := hdd j hlt
       have hst := sessFrom_step hlt
       have hsu := aheadC_succ hlt
       obtain ⟨M, hMA⟩ : ∃ M, aheadC Ss j = M := ⟨_, rfl⟩
       have HMA := Hid.intro hMA
       have HM1 : Hid (1 ≤ M) := by have := HM.out; rw [hMA] at this; exact this
       rw [hMA] at hst
       clear hMA HM
       generalize Ss[j] = x at d0 d1 d2 d3 d4 hst hsu
       replace d0 := atCell HBW.out d0 (by omega)
       replace d1 := atCell HBW.out d1 (by omega)
       replace d2 := atCell HBW.out d2 (by omega)
       replace d3 := atCell HBW.out d3 (by omega)
       replace d4 := atCell HBW.out d4 (by omega)
       have hjl : (j : Int) < (Ss.length : Int) := by omega
       have i1 : (0 : Int) ≤ (j : Int) ∧ (j : Int) < (Ss.length : Int) := by omega
       have HST := Hid.intro hst
       have HSU := Hid.intro hsu
       have HDD := Hid.intro hdd
       clear hst hdd hsu
       go_upto_region 7 with fail
       obtain ⟨X, hX, bX, zX, cX, fX⟩ := boxed wr (seA x) 61
       simp only [hX]
       have D0 := Hid.intro d0
       have c4 : wr.cell? ⟨w.heap.size, 4, none⟩ = some (.slice (some ⟨b2, o2, none⟩) Ss.length sc) := c3 4
       have HSG : Hid (∀ y, Below X.heap.size X y → ∀ (pn : Int) (op : Nat), wr.cell? ⟨b2, op, none⟩ = some (.int .i64 pn) → SeIn wr.heap.size x w.heap.size (.slice (some ⟨b2, o2, none⟩) Ss.length sc) pn b2 op y) := fun y hy pn op hpn => by
        have h1 := bX.trans (hy.mono (by omega))
        have kX := keepC hy (by omega) cX
        exact ⟨by rw [kX]; rfl, by rw [kX]; rfl, by rw [kX]; rfl, by rw [kX]; rfl, by rw [kX]; rfl, atCell h1 c4 (by omega), atCell h1 hpn (by omega)⟩
       have HBX : Hid (Below w2.heap.size w2 X) := HBW.out.trans (bX.mono hzr)
       clear hX fX d0 d1 d2 d3 d4 cX bX c3 c4
       go_cut [76] from 27 to 76 (fun s wc => s = .bool (!(inB x.c M 3 && sesB x)) ∧ Hid (Below X.heap.size X wc))
       case first =>
        cases hb0 : inB x.c 1 3 with
        | false =>
         have HSF : Hid (∀ y, Below X.heap.size X y → SeIn wr.heap.size x w.heap.size (.slice (some ⟨b2, o2, none⟩) Ss.length sc) x.c b2 (o2 + j * 5) y) := fun y hy => HSG.out y hy x.c _ D0.out
         have HW : Hid ((inB x.c M 3 && sesB x) = false) := by unfold Hid; rw [show inB x.c M 3 = false from inB_false (by have := inB_not hb0; have := HM1.out; omega)]; rfl
         refine wp_region_held_drew (S := SeIn wr.heap.size x w.heap.size (.slice (some ⟨b2, o2, none⟩) Ss.length sc) x.c b2 (o2 + j * 5)) (by kernel_rfl) (HSF.out _ (Below.refl _ _).drew) (fun hHeld => ?_)
         have BD : Hid (Below X.heap.size X X.drew) := (Below.refl _ _).drew
         generalize X.drew = D at BD hHeld ⊢
         refine tkk 0 39 (v := ?_) ?_ ?_
         rotate_left 1
         ·intro w hSw
          obtain ⟨q0, q1, q2, q3, q4, q5, q6⟩ := hSw
          go_simp <;> with_reducible rfl
         simp only [Act.put, List.setIfInBounds_toArray]
         dsimp only [List.set_cons_succ, List.set_cons_zero]
         refine tkk 1 40 (v := ?_) ?_ ?_
         rotate_left 1
         ·intro w hSw
          obtain ⟨q0, q1, q2, q3, q4, q5, q6⟩ := hSw
          go_simp <;> with_reducible rfl
         simp only [Act.put, List.setIfInBounds_toArray]
         dsimp only [List.set_cons_succ, List.set_cons_zero]
         refine wpAnyH_ready (rs := [2]) (by kernel_rfl) (by simp) ?_
         refine AllReadyH.cons rfl (fun KK hKK => ?_) AllReadyH.nil
         go_simp
         refine (l1In_any x.c 1 3 _).mono ?_
         rintro e9 w9 ⟨rfl, rfl⟩
         simp only [hb0]
         go_simp
         refine hKK.out _ _ (HSF.out _ BD.out) (fun hHeld2 => ?_)
         clear hKK KK hHeld
         have hHeld := hHeld2
         clear hHeld2
         refine tkk 3 42 (v := ?_) ?_ ?_
         rotate_left 1
         ·intro w hSw
          obtain ⟨q0, q1, q2, q3, q4, q5, q6⟩ := hSw
          go_simp <;> with_reducible rfl
         simp only [Act.put, List.setIfInBounds_toArray]
         dsimp only [List.set_cons_succ, List.set_cons_zero]
         refine tkk 4 43 (v := ?_) ?_ ?_
         rotate_left 1
         ·intro w hSw
          obtain ⟨q0, q1, q2, q3, q4, q5, q6⟩ := hSw
          go_simp <;> with_reducible rfl
         simp only [Act.put, List.setIfInBounds_toArray]
         dsimp only [List.set_cons_succ, List.set_cons_zero]
         refine skk 5 44 ?_
         simp only [Act.put, List.setIfInBounds_toArray]
         dsimp only [List.set_cons_succ, List.set_cons_zero]
         refine skk 6 45 ?_
         simp only [Act.put, List.setIfInBounds_toArray]
         dsimp only [List.set_cons_succ, List.set_cons_zero]
         refine skk 7 46 ?_
         simp only [Act.put, List.setIfInBounds_toArray]
         dsimp only [List.set_cons_succ, List.set_cons_zero]
         refine skk 8 47 ?_
         simp only [Act.put, List.setIfInBounds_toArray]
         dsimp only [List.set_cons_succ, List.set_cons_zero]
         refine skk 9 48 ?_
         simp only [Act.put, List.setIfInBounds_toArray]
         dsimp only [List.set_cons_succ, List.set_cons_zero]
         refine skk 10 49 ?_
         simp only [Act.put, List.setIfInBounds_toArray]
         dsimp only [List.set_cons_succ, List.set_cons_zero]
         refine skk 11 50 ?_
         simp only [Act.put, List.setIfInBounds_toArray]
         dsimp only [List.set_cons_succ, List.set_cons_zero]
         refine skk 12 51 ?_
         simp only [Act.put, List.setIfInBounds_toArray]
         dsimp only [List.set_cons_succ, List.set_cons_zero]
         refine skk 13 52 ?_
         simp only [Act.put, List.setIfInBounds_toArray]
         dsimp only [List.set_cons_succ, List.set_cons_zero]
         refine skk 14 53 ?_
         simp only [Act.put, List.setIfInBounds_toArray]
         dsimp only [List.set_cons_succ, List.set_cons_zero]
         refine skk 15 54 ?_
         simp only [Act.put, List.setIfInBounds_toArray]
         dsimp only [List.set_cons_succ, List.set_cons_zero]
         refine skk 16 55 ?_
         simp only [Act.put, List.setIfInBounds_toArray]
         dsimp only [List.set_cons_succ, List.set_cons_zero]
         refine skk 17 56 ?_
         simp only [Act.put, List.setIfInBounds_toArray]
         dsimp only [List.set_cons_succ, List.set_cons_zero]
         refine skk 18 57 ?_
         simp only [Act.put, List.setIfInBounds_toArray]
         dsimp only [List.set_cons_succ, List.set_cons_zero]
         refine tkk 19 58 (v := ?_) ?_ ?_
         rotate_left 1
         ·intro w hSw
          obtain ⟨q0, q1, q2, q3, q4, q5, q6⟩ := hSw
          go_simp <;> with_reducible rfl
         simp only [Act.put, List.setIfInBounds_toArray]
         dsimp only [List.set_cons_succ, List.set_cons_zero]
         refine tkk 20 59 (v := ?_) ?_ ?_
         rotate_left 1
         ·intro w hSw
          obtain ⟨q0, q1, q2, q3, q4, q5, q6⟩ := hSw
          go_simp <;> with_reducible rfl
         simp only [Act.put, List.setIfInBounds_toArray]
         dsimp only [List.set_cons_succ, List.set_cons_zero]
         refine skk 21 60 ?_
         simp only [Act.put, List.setIfInBounds_toArray]
         dsimp only [List.set_cons_succ, List.set_cons_zero]
         refine skk 22 61 ?_
         simp only [Act.put, List.setIfInBounds_toArray]
         dsimp only [List.set_cons_succ, List.set_cons_zero]
         refine skk 23 62 ?_
         simp only [Act.put, List.setIfInBounds_toArray]
         dsimp only [List.set_cons_succ, List.set_cons_zero]
         refine skk 24 63 ?_
         simp only [Act.put, List.setIfInBounds_toArray]
         dsimp only [List.set_cons_succ, List.set_cons_zero]
         refine tkk 25 64 (v := ?_) ?_ ?_
         rotate_left 1
         ·intro w hSw
          obtain ⟨q0, q1, q2, q3, q4, q5, q6⟩ := hSw
          go_simp <;> with_reducible rfl
         simp only [Act.put, List.setIfInBounds_toArray]
         dsimp only [List.set_cons_succ, List.set_cons_zero]
         refine tkk 26 65 (v := ?_) ?_ ?_
         rotate_left 1
         ·intro w hSw
          obtain ⟨q0, q1, q2, q3, q4, q5, q6⟩ := hSw
          go_simp <;> with_reducible rfl
         simp only [Act.put, List.setIfInBounds_toArray]
         dsimp only [List.set_cons_succ, List.set_cons_zero]
         refine skk 27 66 ?_
         simp only [Act.put, List.setIfInBounds_toArray]
         dsimp only [List.set_cons_succ, List.set_cons_zero]
         refine skk 28 67 ?_
         simp only [Act.put, List.setIfInBounds_toArray]
         dsimp only [List.set_cons_succ, List.set_cons_zero]
         refine skk 29 68 ?_
         simp only [Act.put, List.setIfInBounds_toArray]
         dsimp only [List.set_cons_succ, List.set_cons_zero]
         refine skk 30 69 ?_
         simp only [Act.put, List.setIfInBounds_toArray]
         dsimp only [List.set_cons_succ, List.set_cons_zero]
         refine tkk 31 70 (v := ?_) ?_ ?_
         rotate_left 1
         ·intro w hSw
          obtain ⟨q0, q1, q2, q3, q4, q5, q6⟩ := hSw
          go_simp <;> with_reducible rfl
         simp only [Act.put, List.setIfInBounds_toArray]
         dsimp only [List.set_cons_succ, List.set_cons_zero]
         refine tkk 32 71 (v := ?_) ?_ ?_
         rotate_left 1
         ·intro w hSw
          obtain ⟨q0, q1, q2, q3, q4, q5, q6⟩ := hSw
          go_simp <;> with_reducible rfl
         simp only [Act.put, List.setIfInBounds_toArray]
         dsimp only [List.set_cons_succ, List.set_cons_zero]
         refine skk 33 72 ?_
         simp only [Act.put, List.setIfInBounds_toArray]
         dsimp only [List.set_cons_succ, List.set_cons_zero]
         refine skk 34 73 ?_
         simp only [Act.put, List.setIfInBounds_toArray]
         dsimp only [List.set_cons_succ, List.set_cons_zero]
         refine skk 35 74 ?_
         simp only [Act.put, List.setIfInBounds_toArray]
         dsimp only [List.set_cons_succ, List.set_cons_zero]
         refine skk 36 75 ?_
         simp only [Act.put, List.setIfInBounds_toArray]
         dsimp only [List.set_cons_succ, List.set_cons_zero]
         refine tkk 37 76 (v := ?_) ?_ ?_
         rotate_left 1
         ·intro w hSw
          obtain ⟨q0, q1, q2, q3, q4, q5, q6⟩ := hSw
          go_simp <;> with_reducible rfl
         simp only [Act.put, List.setIfInBounds_toArray]
         dsimp only [List.set_cons_succ, List.set_cons_zero]
         refine wpAnyH_done (by kernel_rfl) ?_ _
         go_wp2_with fail
         go_meet
         case rel => exact ⟨by rw [HW.out] <;> rfl, BD⟩
        | true =>
         have hx := inB_of' hb0
         rcases Nat.eq_zero_or_pos j with hj0 | hj0
         ·subst hj0
          have HSF : Hid (∀ y, Below X.heap.size X y → SeIn wr.heap.size x w.heap.size (.slice (some ⟨b2, o2, none⟩) Ss.length sc) x.c b2 (o2 + 0 * 5) y) := fun y hy => HSG.out y hy x.c _ D0.out
          have h00 : decide ((0 : Int) < ((0 : Nat) : Int)) = false := by decide
          have hM : M = 1 := by rw [← HMA.out]; rfl
          have HLE : Hid (inB x.c M 3 = true) := by unfold Hid; rw [hM]; exact hb0
          clear hM hx
          cases hb1 : inB x.s 1 1000000 with
          | false =>
           have HW : Hid ((inB x.c M 3 && sesB x) = false) := by unfold Hid; simp [sesB, hb1]
           refine wp_region_held_drew (S := SeIn wr.heap.size x w.heap.size (.slice (some ⟨b2, o2, none⟩) Ss.length sc) x.c b2 (o2 + 0 * 5)) (by kernel_rfl) (HSF.out _ (Below.refl _ _).drew) (fun hHeld => ?_)
           have BD : Hid (Below X.heap.size X X.drew) := (Below.refl _ _).drew
           generalize X.drew = D at BD hHeld ⊢
           refine tkk 0 39 (v := ?_) ?_ ?_
           rotate_left 1
           ·intro w hSw
            obtain ⟨q0, q1, q2, q3, q4, q5, q6⟩ := hSw
            go_simp <;> with_reducible rfl
           simp only [Act.put, List.setIfInBounds_toArray]
           dsimp only [List.set_cons_succ, List.set_cons_zero]
           refine tkk 1 40 (v := ?_) ?_ ?_
           rotate_left 1
           ·intro w hSw
            obtain ⟨q0, q1, q2, q3, q4, q5, q6⟩ := hSw
            go_simp <;> with_reducible rfl
           simp only [Act.put, List.setIfInBounds_toArray]
           dsimp only [List.set_cons_succ, List.set_cons_zero]
           refine wpAnyH_ready (rs := [2]) (by kernel_rfl) (by simp) ?_
           refine AllReadyH.cons rfl (fun KK hKK => ?_) AllReadyH.nil
           go_simp
           refine (l1In_any x.c 1 3 _).mono ?_
           rintro e9 w9 ⟨rfl, rfl⟩
           simp only [hb0]
           go_simp
           refine hKK.out _ _ (HSF.out _ BD.out) (fun hHeld2 => ?_)
           clear hKK KK hHeld
           have hHeld := hHeld2
           clear hHeld2
           refine tkk 3 42 (v := ?_) ?_ ?_
           rotate_left 1
           ·intro w hSw
            obtain ⟨q0, q1, q2, q3, q4, q5, q6⟩ := hSw
            go_simp <;> with_reducible rfl
           simp only [Act.put, List.setIfInBounds_toArray]
           dsimp only [List.set_cons_succ, List.set_cons_zero]
           refine tkk 4 43 (v := ?_) ?_ ?_
           rotate_left 1
           ·intro w hSw
            obtain ⟨q0, q1, q2, q3, q4, q5, q6⟩ := hSw
            go_simp <;> with_reducible rfl
           simp only [Act.put, List.setIfInBounds_toArray]
           dsimp only [List.set_cons_succ, List.set_cons_zero]
           refine tkk 5 44 (v := ?_) ?_ ?_
           rotate_left 1
           ·intro w hSw
            obtain ⟨q0, q1, q2, q3, q4, q5, q6⟩ := hSw
            go_simp <;> with_reducible rfl
           simp only [Act.put, List.setIfInBounds_toArray]
           dsimp only [List.set_cons_succ, List.set_cons_zero]
           refine tkk 6 45 (v := ?_) ?_ ?_
           rotate_left 1
           ·intro w hSw
            obtain ⟨q0, q1, q2, q3, q4, q5, q6⟩ := hSw
            go_simp <;> with_reducible rfl
           simp only [Act.put, List.setIfInBounds_toArray]
           dsimp only [List.set_cons_succ, List.set_cons_zero]
           try simp only [h00]
           refine tkk 7 46 (v := ?_) ?_ ?_
           rotate_left 1
           ·intro w hSw
            obtain ⟨q0, q1, q2, q3, q4, q5, q6⟩ := hSw
            go_simp <;> with_reducible rfl
           simp only [Act.put, List.setIfInBounds_toArray]
           dsimp only [List.set_cons_succ, List.set_cons_zero]
           refine skk 8 47 ?_
           simp only [Act.put, List.setIfInBounds_toArray]
           dsimp only [List.set_cons_succ, List.set_cons_zero]
           refine skk 9 48 ?_
           simp only [Act.put, List.setIfInBounds_toArray]
           dsimp only [List.set_cons_succ, List.set_cons_zero]
           refine skk 10 49 ?_
           simp only [Act.put, List.setIfInBounds_toArray]
           dsimp only [List.set_cons_succ, List.set_cons_zero]
           refine skk 11 50 ?_
           simp only [Act.put, List.setIfInBounds_toArray]
           dsimp only [List.set_cons_succ, List.set_cons_zero]
           refine skk 12 51 ?_
           simp only [Act.put, List.setIfInBounds_toArray]
           dsimp only [List.set_cons_succ, List.set_cons_zero]
           refine skk 13 52 ?_
           simp only [Act.put, List.setIfInBounds_toArray]
           dsimp only [List.set_cons_succ, List.set_cons_zero]
           refine skk 14 53 ?_
           simp only [Act.put, List.setIfInBounds_toArray]
           dsimp only [List.set_cons_succ, List.set_cons_zero]
           refine skk 15 54 ?_
           simp only [Act.put, List.setIfInBounds_toArray]
           dsimp only [List.set_cons_succ, List.set_cons_zero]
           refine skk 16 55 ?_
           simp only [Act.put, List.setIfInBounds_toArray]
           dsimp only [List.set_cons_succ, List.set_cons_zero]
           refine skk 17 56 ?_
           simp only [Act.put, List.setIfInBounds_toArray]
           dsimp only [List.set_cons_succ, List.set_cons_zero]
           refine tkk 18 57 (v := ?_) ?_ ?_
           rotate_left 1
           ·intro w hSw
            obtain ⟨q0, q1, q2, q3, q4, q5, q6⟩ := hSw
            go_simp <;> with_reducible rfl
           simp only [Act.put, List.setIfInBounds_toArray]
           dsimp only [List.set_cons_succ, List.set_cons_zero]
           refine tkk 19 58 (v := ?_) ?_ ?_
           rotate_left 1
           ·intro w hSw
            obtain ⟨q0, q1, q2, q3, q4, q5, q6⟩ := hSw
            go_simp <;> with_reducible rfl
           simp only [Act.put, List.setIfInBounds_toArray]
           dsimp only [List.set_cons_succ, List.set_cons_zero]
           refine tkk 20 59 (v := ?_) ?_ ?_
           rotate_left 1
           ·intro w hSw
            obtain ⟨q0, q1, q2, q3, q4, q5, q6⟩ := hSw
            go_simp <;> with_reducible rfl
           simp only [Act.put, List.setIfInBounds_toArray]
           dsimp only [List.set_cons_succ, List.set_cons_zero]
           refine tkk 21 60 (v := ?_) ?_ ?_
           rotate_left 1
           ·intro w hSw
            obtain ⟨q0, q1, q2, q3, q4, q5, q6⟩ := hSw
            go_simp <;> with_reducible rfl
           simp only [Act.put, List.setIfInBounds_toArray]
           dsimp only [List.set_cons_succ, List.set_cons_zero]
           refine tkk 22 61 (v := ?_) ?_ ?_
           rotate_left 1
           ·intro w hSw
            obtain ⟨q0, q1, q2, q3, q4, q5, q6⟩ := hSw
            go_simp <;> with_reducible rfl
           simp only [Act.put, List.setIfInBounds_toArray]
           dsimp only [List.set_cons_succ, List.set_cons_zero]
           refine wpAnyH_ready (rs := [23]) (by kernel_rfl) (by simp) ?_
           refine AllReadyH.cons rfl (fun KK hKK => ?_) AllReadyH.nil
           go_simp
           refine (l1In_any x.s 1 1000000 _).mono ?_
           rintro e9 w9 ⟨rfl, rfl⟩
           simp only [hb1]
           go_simp
           refine hKK.out _ _ (HSF.out _ BD.out) (fun hHeld2 => ?_)
           clear hKK KK hHeld
           have hHeld := hHeld2
           clear hHeld2
           refine tkk 24 63 (v := ?_) ?_ ?_
           rotate_left 1
           ·intro w hSw
            obtain ⟨q0, q1, q2, q3, q4, q5, q6⟩ := hSw
            go_simp <;> with_reducible rfl
           simp only [Act.put, List.setIfInBounds_toArray]
           dsimp only [List.set_cons_succ, List.set_cons_zero]
           refine tkk 25 64 (v := ?_) ?_ ?_
           rotate_left 1
           ·intro w hSw
            obtain ⟨q0, q1, q2, q3, q4, q5, q6⟩ := hSw
            go_simp <;> with_reducible rfl
           simp only [Act.put, List.setIfInBounds_toArray]
           dsimp only [List.set_cons_succ, List.set_cons_zero]
           refine tkk 26 65 (v := ?_) ?_ ?_
           rotate_left 1
           ·intro w hSw
            obtain ⟨q0, q1, q2, q3, q4, q5, q6⟩ := hSw
            go_simp <;> with_reducible rfl
           simp only [Act.put, List.setIfInBounds_toArray]
           dsimp only [List.set_cons_succ, List.set_cons_zero]
           refine skk 27 66 ?_
           simp only [Act.put, List.setIfInBounds_toArray]
           dsimp only [List.set_cons_succ, List.set_cons_zero]
           refine skk 28 67 ?_
           simp only [Act.put, List.setIfInBounds_toArray]
           dsimp only [List.set_cons_succ, List.set_cons_zero]
           refine skk 29 68 ?_
           simp only [Act.put, List.setIfInBounds_toArray]
           dsimp only [List.set_cons_succ, List.set_cons_zero]
           refine skk 30 69 ?_
           simp only [Act.put, List.setIfInBounds_toArray]
           dsimp only [List.set_cons_succ, List.set_cons_zero]
           refine tkk 31 70 (v := ?_) ?_ ?_
           rotate_left 1
           ·intro w hSw
            obtain ⟨q0, q1, q2, q3, q4, q5, q6⟩ := hSw
            go_simp <;> with_reducible rfl
           simp only [Act.put, List.setIfInBounds_toArray]
           dsimp only [List.set_cons_succ, List.set_cons_zero]
           refine tkk 32 71 (v := ?_) ?_ ?_
           rotate_left 1
           ·intro w hSw
            obtain ⟨q0, q1, q2, q3, q4, q5, q6⟩ := hSw
            go_simp <;> with_reducible rfl
           simp only [Act.put, List.setIfInBounds_toArray]
           dsimp only [List.set_cons_succ, List.set_cons_zero]
           refine skk 33 72 ?_
           simp only [Act.put, List.setIfInBounds_toArray]
           dsimp only [List.set_cons_succ, List.set_cons_zero]
           refine skk 34 73 ?_
           simp only [Act.put, List.setIfInBounds_toArray]
           dsimp only [List.set_cons_succ, List.set_cons_zero]
           refine skk 35 74 ?_
           simp only [Act.put, List.setIfInBounds_toArray]
           dsimp only [List.set_cons_succ, List.set_cons_zero]
           refine skk 36 75 ?_
           simp only [Act.put, List.setIfInBounds_toArray]
           dsimp only [List.set_cons_succ, List.set_cons_zero]
           refine tkk 37 76 (v := ?_) ?_ ?_
           rotate_left 1
           ·intro w hSw
            obtain ⟨q0, q1, q2, q3, q4, q5, q6⟩ := hSw
            go_simp <;> with_reducible rfl
           simp only [Act.put, List.setIfInBounds_toArray]
           dsimp only [List.set_cons_succ, List.set_cons_zero]
           refine wpAnyH_done (by kernel_rfl) ?_ _
           go_wp2_with fail
           go_meet
           case rel => exact ⟨by rw [HW.out] <;> rfl, BD⟩
          | true =>
           cases hb2 : inB x.i 1 100000 with
           | false =>
            have HW : Hid ((inB x.c M 3 && sesB x) = false) := by unfold Hid; simp [sesB, hb1, hb2]
            refine wp_region_held_drew (S := SeIn wr.heap.size x w.heap.size (.slice (some ⟨b2, o2, none⟩) Ss.length sc) x.c b2 (o2 + 0 * 5)) (by kernel_rfl) (HSF.out _ (Below.refl _ _).drew) (fun hHeld => ?_)
            have BD : Hid (Below X.heap.size X X.drew) := (Below.refl _ _).drew
            generalize X.drew = D at BD hHeld ⊢
            refine tkk 0 39 (v := ?_) ?_ ?_
            rotate_left 1
            ·intro w hSw
             obtain ⟨q0, q1, q2, q3, q4, q5, q6⟩ := hSw
             go_simp <;> with_reducible rfl
            simp only [Act.put, List.setIfInBounds_toArray]
            dsimp only [List.set_cons_succ, List.set_cons_zero]
            refine tkk 1 40 (v := ?_) ?_ ?_
            rotate_left 1
            ·intro w hSw
             obtain ⟨q0, q1, q2, q3, q4, q5, q6⟩ := hSw
             go_simp <;> with_reducible rfl
            simp only [Act.put, List.setIfInBounds_toArray]
            dsimp only [List.set_cons_succ, List.set_cons_zero]
            refine wpAnyH_ready (rs := [2]) (by kernel_rfl) (by simp) ?_
            refine AllReadyH.cons rfl (fun KK hKK => ?_) AllReadyH.nil
            go_simp
            refine (l1In_any x.c 1 3 _).mono ?_
            rintro e9 w9 ⟨rfl, rfl⟩
            simp only [hb0]
            go_simp
            refine hKK.out _ _ (HSF.out _ BD.out) (fun hHeld2 => ?_)
            clear hKK KK hHeld
            have hHeld := hHeld2
            clear hHeld2
            refine tkk 3 42 (v := ?_) ?_ ?_
            rotate_left 1
            ·intro w hSw
             obtain ⟨q0, q1, q2, q3, q4, q5, q6⟩ := hSw
             go_simp <;> with_reducible rfl
            simp only [Act.put, List.setIfInBounds_toArray]
            dsimp only [List.set_cons_succ, List.set_cons_zero]
            refine tkk 4 43 (v := ?_) ?_ ?_
            rotate_left 1
            ·intro w hSw
             obtain ⟨q0, q1, q2, q3, q4, q5, q6⟩ := hSw
             go_simp <;> with_reducible rfl
            simp only [Act.put, List.setIfInBounds_toArray]
            dsimp only [List.set_cons_succ, List.set_cons_zero]
            refine tkk 5 44 (v := ?_) ?_ ?_
            rotate_left 1
            ·intro w hSw
             obtain ⟨q0, q1, q2, q3, q4, q5, q6⟩ := hSw
             go_simp <;> with_reducible rfl
            simp only [Act.put, List.setIfInBounds_toArray]
            dsimp only [List.set_cons_succ, List.set_cons_zero]
            refine tkk 6 45 (v := ?_) ?_ ?_
            rotate_left 1
            ·intro w hSw
             obtain ⟨q0, q1, q2, q3, q4, q5, q6⟩ := hSw
             go_simp <;> with_reducible rfl
            simp only [Act.put, List.setIfInBounds_toArray]
            dsimp only [List.set_cons_succ, List.set_cons_zero]
            try simp only [h00]
            refine tkk 7 46 (v := ?_) ?_ ?_
            rotate_left 1
            ·intro w hSw
             obtain ⟨q0, q1, q2, q3, q4, q5, q6⟩ := hSw
             go_simp <;> with_reducible rfl
            simp only [Act.put, List.setIfInBounds_toArray]
            dsimp only [List.set_cons_succ, List.set_cons_zero]
            refine skk 8 47 ?_
            simp only [Act.put, List.setIfInBounds_toArray]
            dsimp only [List.set_cons_succ, List.set_cons_zero]
            refine skk 9 48 ?_
            simp only [Act.put, List.setIfInBounds_toArray]
            dsimp only [List.set_cons_succ, List.set_cons_zero]
            refine skk 10 49 ?_
            simp only [Act.put, List.setIfInBounds_toArray]
            dsimp only [List.set_cons_succ, List.set_cons_zero]
            refine skk 11 50 ?_
            simp only [Act.put, List.setIfInBounds_toArray]
            dsimp only [List.set_cons_succ, List.set_cons_zero]
            refine skk 12 51 ?_
            simp only [Act.put, List.setIfInBounds_toArray]
            dsimp only [List.set_cons_succ, List.set_cons_zero]
            refine skk 13 52 ?_
            simp only [Act.put, List.setIfInBounds_toArray]
            dsimp only [List.set_cons_succ, List.set_cons_zero]
            refine skk 14 53 ?_
            simp only [Act.put, List.setIfInBounds_toArray]
            dsimp only [List.set_cons_succ, List.set_cons_zero]
            refine skk 15 54 ?_
            simp only [Act.put, List.setIfInBounds_toArray]
            dsimp only [List.set_cons_succ, List.set_cons_zero]
            refine skk 16 55 ?_
            simp only [Act.put, List.setIfInBounds_toArray]
            dsimp only [List.set_cons_succ, List.set_cons_zero]
            refine skk 17 56 ?_
            simp only [Act.put, List.setIfInBounds_toArray]
            dsimp only [List.set_cons_succ, List.set_cons_zero]
            refine tkk 18 57 (v := ?_) ?_ ?_
            rotate_left 1
            ·intro w hSw
             obtain ⟨q0, q1, q2, q3, q4, q5, q6⟩ := hSw
             go_simp <;> with_reducible rfl
            simp only [Act.put, List.setIfInBounds_toArray]
            dsimp only [List.set_cons_succ, List.set_cons_zero]
            refine tkk 19 58 (v := ?_) ?_ ?_
            rotate_left 1
            ·intro w hSw
             obtain ⟨q0, q1, q2, q3, q4, q5, q6⟩ := hSw
             go_simp <;> with_reducible rfl
            simp only [Act.put, List.setIfInBounds_toArray]
            dsimp only [List.set_cons_succ, List.set_cons_zero]
            refine tkk 20 59 (v := ?_) ?_ ?_
            rotate_left 1
            ·intro w hSw
             obtain ⟨q0, q1, q2, q3, q4, q5, q6⟩ := hSw
             go_simp <;> with_reducible rfl
            simp only [Act.put, List.setIfInBounds_toArray]
            dsimp only [List.set_cons_succ, List.set_cons_zero]
            refine tkk 21 60 (v := ?_) ?_ ?_
            rotate_left 1
            ·intro w hSw
             obtain ⟨q0, q1, q2, q3, q4, q5, q6⟩ := hSw
             go_simp <;> with_reducible rfl
            simp only [Act.put, List.setIfInBounds_toArray]
            dsimp only [List.set_cons_succ, List.set_cons_zero]
            refine tkk 22 61 (v := ?_) ?_ ?_
            rotate_left 1
            ·intro w hSw
             obtain ⟨q0, q1, q2, q3, q4, q5, q6⟩ := hSw
             go_simp <;> with_reducible rfl
            simp only [Act.put, List.setIfInBounds_toArray]
            dsimp only [List.set_cons_succ, List.set_cons_zero]
            refine wpAnyH_ready (rs := [23]) (by kernel_rfl) (by simp) ?_
            refine AllReadyH.cons rfl (fun KK hKK => ?_) AllReadyH.nil
            go_simp
            refine (l1In_any x.s 1 1000000 _).mono ?_
            rintro e9 w9 ⟨rfl, rfl⟩
            simp only [hb1]
            go_simp
            refine hKK.out _ _ (HSF.out _ BD.out) (fun hHeld2 => ?_)
            clear hKK KK hHeld
            have hHeld := hHeld2
            clear hHeld2
            refine tkk 24 63 (v := ?_) ?_ ?_
            rotate_left 1
            ·intro w hSw
             obtain ⟨q0, q1, q2, q3, q4, q5, q6⟩ := hSw
             go_simp <;> with_reducible rfl
            simp only [Act.put, List.setIfInBounds_toArray]
            dsimp only [List.set_cons_succ, List.set_cons_zero]
            refine tkk 25 64 (v := ?_) ?_ ?_
            rotate_left 1
            ·intro w hSw
             obtain ⟨q0, q1, q2, q3, q4, q5, q6⟩ := hSw
             go_simp <;> with_reducible rfl
            simp only [Act.put, List.setIfInBounds_toArray]
            dsimp only [List.set_cons_succ, List.set_cons_zero]
            refine tkk 26 65 (v := ?_) ?_ ?_
            rotate_left 1
            ·intro w hSw
             obtain ⟨q0, q1, q2, q3, q4, q5, q6⟩ := hSw
             go_simp <;> with_reducible rfl
            simp only [Act.put, List.setIfInBounds_toArray]
            dsimp only [List.set_cons_succ, List.set_cons_zero]
            refine tkk 27 66 (v := ?_) ?_ ?_
            rotate_left 1
            ·intro w hSw
             obtain ⟨q0, q1, q2, q3, q4, q5, q6⟩ := hSw
             go_simp <;> with_reducible rfl
            simp only [Act.put, List.setIfInBounds_toArray]
            dsimp only [List.set_cons_succ, List.set_cons_zero]
            refine tkk 28 67 (v := ?_) ?_ ?_
            rotate_left 1
            ·intro w hSw
             obtain ⟨q0, q1, q2, q3, q4, q5, q6⟩ := hSw
             go_simp <;> with_reducible rfl
            simp only [Act.put, List.setIfInBounds_toArray]
            dsimp only [List.set_cons_succ, List.set_cons_zero]
            refine wpAnyH_ready (rs := [29]) (by kernel_rfl) (by simp) ?_
            refine AllReadyH.cons rfl (fun KK hKK => ?_) AllReadyH.nil
            go_simp
            refine (l1In_any x.i 1 100000 _).mono ?_
            rintro e9 w9 ⟨rfl, rfl⟩
            simp only [hb2]
            go_simp
            refine hKK.out _ _ (HSF.out _ BD.out) (fun hHeld2 => ?_)
            clear hKK KK hHeld
            have hHeld := hHeld2
            clear hHeld2
            refine tkk 30 69 (v := ?_) ?_ ?_
            rotate_left 1
            ·intro w hSw
             obtain ⟨q0, q1, q2, q3, q4, q5, q6⟩ := hSw
             go_simp <;> with_reducible rfl
            simp only [Act.put, List.setIfInBounds_toArray]
            dsimp only [List.set_cons_succ, List.set_cons_zero]
            refine tkk 31 70 (v := ?_) ?_ ?_
            rotate_left 1
            ·intro w hSw
             obtain ⟨q0, q1, q2, q3, q4, q5, q6⟩ := hSw
             go_simp <;> with_reducible rfl
            simp only [Act.put, List.setIfInBounds_toArray]
            dsimp only [List.set_cons_succ, List.set_cons_zero]
            refine tkk 32 71 (v := ?_) ?_ ?_
            rotate_left 1
            ·intro w hSw
             obtain ⟨q0, q1, q2, q3, q4, q5, q6⟩ := hSw
             go_simp <;> with_reducible rfl
            simp only [Act.put, List.setIfInBounds_toArray]
            dsimp only [List.set_cons_succ, List.set_cons_zero]
            refine skk 33 72 ?_
            simp only [Act.put, List.setIfInBounds_toArray]
            dsimp only [List.set_cons_succ, List.set_cons_zero]
            refine skk 34 73 ?_
            simp only [Act.put, List.setIfInBounds_toArray]
            dsimp only [List.set_cons_succ, List.set_cons_zero]
            refine skk 35 74 ?_
            simp only [Act.put, List.setIfInBounds_toArray]
            dsimp only [List.set_cons_succ, List.set_cons_zero]
            refine skk 36 75 ?_
            simp only [Act.put, List.setIfInBounds_toArray]
            dsimp only [List.set_cons_succ, List.set_cons_zero]
            refine tkk 37 76 (v := ?_) ?_ ?_
            rotate_left 1
            ·intro w hSw
             obtain ⟨q0, q1, q2, q3, q4, q5, q6⟩ := hSw
             go_simp <;> with_reducible rfl
            simp only [Act.put, List.setIfInBounds_toArray]
            dsimp only [List.set_cons_succ, List.set_cons_zero]
            refine wpAnyH_done (by kernel_rfl) ?_ _
            go_wp2_with fail
            go_meet
            case rel => exact ⟨by rw [HW.out] <;> rfl, BD⟩
           | true =>
            cases hb3 : resB x.r with
            | false =>
             have HW : Hid ((inB x.c M 3 && sesB x) = false) := by unfold Hid; simp [sesB, hb1, hb2, hb3]
             refine wp_region_held_drew (S := SeIn wr.heap.size x w.heap.size (.slice (some ⟨b2, o2, none⟩) Ss.length sc) x.c b2 (o2 + 0 * 5)) (by kernel_rfl) (HSF.out _ (Below.refl _ _).drew) (fun hHeld => ?_)
             have BD : Hid (Below X.heap.size X X.drew) := (Below.refl _ _).drew
             generalize X.drew = D at BD hHeld ⊢
             refine tkk 0 39 (v := ?_) ?_ ?_
             rotate_left 1
             ·intro w hSw
              obtain ⟨q0, q1, q2, q3, q4, q5, q6⟩ := hSw
              go_simp <;> with_reducible rfl
             simp only [Act.put, List.setIfInBounds_toArray]
             dsimp only [List.set_cons_succ, List.set_cons_zero]
             refine tkk 1 40 (v := ?_) ?_ ?_
             rotate_left 1
             ·intro w hSw
              obtain ⟨q0, q1, q2, q3, q4, q5, q6⟩ := hSw
              go_simp <;> with_reducible rfl
             simp only [Act.put, List.setIfInBounds_toArray]
             dsimp only [List.set_cons_succ, List.set_cons_zero]
             refine wpAnyH_ready (rs := [2]) (by kernel_rfl) (by simp) ?_
             refine AllReadyH.cons rfl (fun KK hKK => ?_) AllReadyH.nil
             go_simp
             refine (l1In_any x.c 1 3 _).mono ?_
             rintro e9 w9 ⟨rfl, rfl⟩
             simp only [hb0]
             go_simp
             refine hKK.out _ _ (HSF.out _ BD.out) (fun hHeld2 => ?_)
             clear hKK KK hHeld
             have hHeld := hHeld2
             clear hHeld2
             refine tkk 3 42 (v := ?_) ?_ ?_
             rotate_left 1
             ·intro w hSw
              obtain ⟨q0, q1, q2, q3, q4, q5, q6⟩ := hSw
              go_simp <;> with_reducible rfl
             simp only [Act.put, List.setIfInBounds_toArray]
             dsimp only [List.set_cons_succ, List.set_cons_zero]
             refine tkk 4 43 (v := ?_) ?_ ?_
             rotate_left 1
             ·intro w hSw
              obtain ⟨q0, q1, q2, q3, q4, q5, q6⟩ := hSw
              go_simp <;> with_reducible rfl
             simp only [Act.put, List.setIfInBounds_toArray]
             dsimp only [List.set_cons_succ, List.set_cons_zero]
             refine tkk 5 44 (v := ?_) ?_ ?_
             rotate_left 1
             ·intro w hSw
              obtain ⟨q0, q1, q2, q3, q4, q5, q6⟩ := hSw
              go_simp <;> with_reducible rfl
             simp only [Act.put, List.setIfInBounds_toArray]
             dsimp only [List.set_cons_succ, List.set_cons_zero]
             refine tkk 6 45 (v := ?_) ?_ ?_
             rotate_left 1
             ·intro w hSw
              obtain ⟨q0, q1, q2, q3, q4, q5, q6⟩ := hSw
              go_simp <;> with_reducible rfl
             simp only [Act.put, List.setIfInBounds_toArray]
             dsimp only [List.set_cons_succ, List.set_cons_zero]
             try simp only [h00]
             refine tkk 7 46 (v := ?_) ?_ ?_
             rotate_left 1
             ·intro w hSw
              obtain ⟨q0, q1, q2, q3, q4, q5, q6⟩ := hSw
              go_simp <;> with_reducible rfl
             simp only [Act.put, List.setIfInBounds_toArray]
             dsimp only [List.set_cons_succ, List.set_cons_zero]
             refine skk 8 47 ?_
             simp only [Act.put, List.setIfInBounds_toArray]
             dsimp only [List.set_cons_succ, List.set_cons_zero]
             refine skk 9 48 ?_
             simp only [Act.put, List.setIfInBounds_toArray]
             dsimp only [List.set_cons_succ, List.set_cons_zero]
             refine skk 10 49 ?_
             simp only [Act.put, List.setIfInBounds_toArray]
             dsimp only [List.set_cons_succ, List.set_cons_zero]
             refine skk 11 50 ?_
             simp only [Act.put, List.setIfInBounds_toArray]
             dsimp only [List.set_cons_succ, List.set_cons_zero]
             refine skk 12 51 ?_
             simp only [Act.put, List.setIfInBounds_toArray]
             dsimp only [List.set_cons_succ, List.set_cons_zero]
             refine skk 13 52 ?_
             simp only [Act.put, List.setIfInBounds_toArray]
             dsimp only [List.set_cons_succ, List.set_cons_zero]
             refine skk 14 53 ?_
             simp only [Act.put, List.setIfInBounds_toArray]
             dsimp only [List.set_cons_succ, List.set_cons_zero]
             refine skk 15 54 ?_
             simp only [Act.put, List.setIfInBounds_toArray]
             dsimp only [List.set_cons_succ, List.set_cons_zero]
             refine skk 16 55 ?_
             simp only [Act.put, List.setIfInBounds_toArray]
             dsimp only [List.set_cons_succ, List.set_cons_zero]
             refine skk 17 56 ?_
             simp only [Act.put, List.setIfInBounds_toArray]
             dsimp only [List.set_cons_succ, List.set_cons_zero]
             refine tkk 18 57 (v := ?_) ?_ ?_
             rotate_left 1
             ·intro w hSw
              obtain ⟨q0, q1, q2, q3, q4, q5, q6⟩ := hSw
              go_simp <;> with_reducible rfl
             simp only [Act.put, List.setIfInBounds_toArray]
             dsimp only [List.set_cons_succ, List.set_cons_zero]
             refine tkk 19 58 (v := ?_) ?_ ?_
             rotate_left 1
             ·intro w hSw
              obtain ⟨q0, q1, q2, q3, q4, q5, q6⟩ := hSw
              go_simp <;> with_reducible rfl
             simp only [Act.put, List.setIfInBounds_toArray]
             dsimp only [List.set_cons_succ, List.set_cons_zero]
             refine tkk 20 59 (v := ?_) ?_ ?_
             rotate_left 1
             ·intro w hSw
              obtain ⟨q0, q1, q2, q3, q4, q5, q6⟩ := hSw
              go_simp <;> with_reducible rfl
             simp only [Act.put, List.setIfInBounds_toArray]
             dsimp only [List.set_cons_succ, List.set_cons_zero]
             refine tkk 21 60 (v := ?_) ?_ ?_
             rotate_left 1
             ·intro w hSw
              obtain ⟨q0, q1, q2, q3, q4, q5, q6⟩ := hSw
              go_simp <;> with_reducible rfl
             simp only [Act.put, List.setIfInBounds_toArray]
             dsimp only [List.set_cons_succ, List.set_cons_zero]
             refine tkk 22 61 (v := ?_) ?_ ?_
             rotate_left 1
             ·intro w hSw
              obtain ⟨q0, q1, q2, q3, q4, q5, q6⟩ := hSw
              go_simp <;> with_reducible rfl
             simp only [Act.put, List.setIfInBounds_toArray]
             dsimp only [List.set_cons_succ, List.set_cons_zero]
             refine wpAnyH_ready (rs := [23]) (by kernel_rfl) (by simp) ?_
             refine AllReadyH.cons rfl (fun KK hKK => ?_) AllReadyH.nil
             go_simp
             refine (l1In_any x.s 1 1000000 _).mono ?_
             rintro e9 w9 ⟨rfl, rfl⟩
             simp only [hb1]
             go_simp
             refine hKK.out _ _ (HSF.out _ BD.out) (fun hHeld2 => ?_)
             clear hKK KK hHeld
             have hHeld := hHeld2
             clear hHeld2
             refine tkk 24 63 (v := ?_) ?_ ?_
             rotate_left 1
             ·intro w hSw
              obtain ⟨q0, q1, q2, q3, q4, q5, q6⟩ := hSw
              go_simp <;> with_reducible rfl
             simp only [Act.put, List.setIfInBounds_toArray]
             dsimp only [List.set_cons_succ, List.set_cons_zero]
             refine tkk 25 64 (v := ?_) ?_ ?_
             rotate_left 1
             ·intro w hSw
              obtain ⟨q0, q1, q2, q3, q4, q5, q6⟩ := hSw
              go_simp <;> with_reducible rfl
             simp only [Act.put, List.setIfInBounds_toArray]
             dsimp only [List.set_cons_succ, List.set_cons_zero]
             refine tkk 26 65 (v := ?_) ?_ ?_
             rotate_left 1
             ·intro w hSw
              obtain ⟨q0, q1, q2, q3, q4, q5, q6⟩ := hSw
              go_simp <;> with_reducible rfl
             simp only [Act.put, List.setIfInBounds_toArray]
             dsimp only [List.set_cons_succ, List.set_cons_zero]
             refine tkk 27 66 (v := ?_) ?_ ?_
             rotate_left 1
             ·intro w hSw
              obtain ⟨q0, q1, q2, q3, q4, q5, q6⟩ := hSw
              go_simp <;> with_reducible rfl
             simp only [Act.put, List.setIfInBounds_toArray]
             dsimp only [List.set_cons_succ, List.set_cons_zero]
             refine tkk 28 67 (v := ?_) ?_ ?_
             rotate_left 1
             ·intro w hSw
              obtain ⟨q0, q1, q2, q3, q4, q5, q6⟩ := hSw
              go_simp <;> with_reducible rfl
             simp only [Act.put, List.setIfInBounds_toArray]
             dsimp only [List.set_cons_succ, List.set_cons_zero]
             refine wpAnyH_ready (rs := [29]) (by kernel_rfl) (by simp) ?_
             refine AllReadyH.cons rfl (fun KK hKK => ?_) AllReadyH.nil
             go_simp
             refine (l1In_any x.i 1 100000 _).mono ?_
             rintro e9 w9 ⟨rfl, rfl⟩
             simp only [hb2]
             go_simp
             refine hKK.out _ _ (HSF.out _ BD.out) (fun hHeld2 => ?_)
             clear hKK KK hHeld
             have hHeld := hHeld2
             clear hHeld2
             refine tkk 30 69 (v := ?_) ?_ ?_
             rotate_left 1
             ·intro w hSw
              obtain ⟨q0, q1, q2, q3, q4, q5, q6⟩ := hSw
              go_simp <;> with_reducible rfl
             simp only [Act.put, List.setIfInBounds_toArray]
             dsimp only [List.set_cons_succ, List.set_cons_zero]
             refine tkk 31 70 (v := ?_) ?_ ?_
             rotate_left 1
             ·intro w hSw
              obtain ⟨q0, q1, q2, q3, q4, q5, q6⟩ := hSw
              go_simp <;> with_reducible rfl
             simp only [Act.put, List.setIfInBounds_toArray]
             dsimp only [List.set_cons_succ, List.set_cons_zero]
             refine tkk 32 71 (v := ?_) ?_ ?_
             rotate_left 1
             ·intro w hSw
              obtain ⟨q0, q1, q2, q3, q4, q5, q6⟩ := hSw
              go_simp <;> with_reducible rfl
             simp only [Act.put, List.setIfInBounds_toArray]
             dsimp only [List.set_cons_succ, List.set_cons_zero]
             refine tkk 33 72 (v := ?_) ?_ ?_
             rotate_left 1
             ·intro w hSw
              obtain ⟨q0, q1, q2, q3, q4, q5, q6⟩ := hSw
              go_simp <;> with_reducible rfl
             simp only [Act.put, List.setIfInBounds_toArray]
             dsimp only [List.set_cons_succ, List.set_cons_zero]
             refine tkk 34 73 (v := ?_) ?_ ?_
             rotate_left 1
             ·intro w hSw
              obtain ⟨q0, q1, q2, q3, q4, q5, q6⟩ := hSw
              go_simp <;> with_reducible rfl
             simp only [Act.put, List.setIfInBounds_toArray]
             dsimp only [List.set_cons_succ, List.set_cons_zero]
             refine wpAnyH_ready (rs := [35]) (by kernel_rfl) (by simp) ?_
             refine AllReadyH.cons rfl (fun KK hKK => ?_) AllReadyH.nil
             go_simp
             refine (specResultOk_any x.r _).mono ?_
             rintro e9 w9 ⟨rfl, b9⟩
             replace BD := Hid.intro (BD.out.trans (b9.mono BD.out.size))
             clear b9
             simp only [hb3]
             go_simp
             refine hKK.out _ _ (HSF.out _ BD.out) (fun hHeld2 => ?_)
             clear hKK KK hHeld
             have hHeld := hHeld2
             clear hHeld2
             refine tkk 36 75 (v := ?_) ?_ ?_
             rotate_left 1
             ·intro w hSw
              obtain ⟨q0, q1, q2, q3, q4, q5, q6⟩ := hSw
              go_simp <;> with_reducible rfl
             simp only [Act.put, List.setIfInBounds_toArray]
             dsimp only [List.set_cons_succ, List.set_cons_zero]
             refine tkk 37 76 (v := ?_) ?_ ?_
             rotate_left 1
             ·intro w hSw
              obtain ⟨q0, q1, q2, q3, q4, q5, q6⟩ := hSw
              go_simp <;> with_reducible rfl
             simp only [Act.put, List.setIfInBounds_toArray]
             dsimp only [List.set_cons_succ, List.set_cons_zero]
             refine wpAnyH_done (by kernel_rfl) ?_ _
             go_wp2_with fail
             go_meet
             case rel => exact ⟨by rw [HW.out] <;> rfl, BD⟩
            | true =>
             have HW : Hid ((inB x.c M 3 && sesB x) = true) := by unfold Hid; simp [sesB, HLE.out, hb1, hb2, hb3]
             refine wp_region_held_drew (S := SeIn wr.heap.size x w.heap.size (.slice (some ⟨b2, o2, none⟩) Ss.length sc) x.c b2 (o2 + 0 * 5)) (by kernel_rfl) (HSF.out _ (Below.refl _ _).drew) (fun hHeld => ?_)
             have BD : Hid (Below X.heap.size X X.drew) := (Below.refl _ _).drew
             generalize X.drew = D at BD hHeld ⊢
             refine tkk 0 39 (v := ?_) ?_ ?_
             rotate_left 1
             ·intro w hSw
              obtain ⟨q0, q1, q2, q3, q4, q5, q6⟩ := hSw
              go_simp <;> with_reducible rfl
             simp only [Act.put, List.setIfInBounds_toArray]
             dsimp only [List.set_cons_succ, List.set_cons_zero]
             refine tkk 1 40 (v := ?_) ?_ ?_
             rotate_left 1
             ·intro w hSw
              obtain ⟨q0, q1, q2, q3, q4, q5, q6⟩ := hSw
              go_simp <;> with_reducible rfl
             simp only [Act.put, List.setIfInBounds_toArray]
             dsimp only [List.set_cons_succ, List.set_cons_zero]
             refine wpAnyH_ready (rs := [2]) (by kernel_rfl) (by simp) ?_
             refine AllReadyH.cons rfl (fun KK hKK => ?_) AllReadyH.nil
             go_simp
             refine (l1In_any x.c 1 3 _).mono ?_
             rintro e9 w9 ⟨rfl, rfl⟩
             simp only [hb0]
             go_simp
             refine hKK.out _ _ (HSF.out _ BD.out) (fun hHeld2 => ?_)
             clear hKK KK hHeld
             have hHeld := hHeld2
             clear hHeld2
             refine tkk 3 42 (v := ?_) ?_ ?_
             rotate_left 1
             ·intro w hSw
              obtain ⟨q0, q1, q2, q3, q4, q5, q6⟩ := hSw
              go_simp <;> with_reducible rfl
             simp only [Act.put, List.setIfInBounds_toArray]
             dsimp only [List.set_cons_succ, List.set_cons_zero]
             refine tkk 4 43 (v := ?_) ?_ ?_
             rotate_left 1
             ·intro w hSw
              obtain ⟨q0, q1, q2, q3, q4, q5, q6⟩ := hSw
              go_simp <;> with_reducible rfl
             simp only [Act.put, List.setIfInBounds_toArray]
             dsimp only [List.set_cons_succ, List.set_cons_zero]
             refine tkk 5 44 (v := ?_) ?_ ?_
             rotate_left 1
             ·intro w hSw
              obtain ⟨q0, q1, q2, q3, q4, q5, q6⟩ := hSw
              go_simp <;> with_reducible rfl
             simp only [Act.put, List.setIfInBounds_toArray]
             dsimp only [List.set_cons_succ, List.set_cons_zero]
             refine tkk 6 45 (v := ?_) ?_ ?_
             rotate_left 1
             ·intro w hSw
              obtain ⟨q0, q1, q2, q3, q4, q5, q6⟩ := hSw
              go_simp <;> with_reducible rfl
             simp only [Act.put, List.setIfInBounds_toArray]
             dsimp only [List.set_cons_succ, List.set_cons_zero]
             try simp only [h00]
             refine tkk 7 46 (v := ?_) ?_ ?_
             rotate_left 1
             ·intro w hSw
              obtain ⟨q0, q1, q2, q3, q4, q5, q6⟩ := hSw
              go_simp <;> with_reducible rfl
             simp only [Act.put, List.setIfInBounds_toArray]
             dsimp only [List.set_cons_succ, List.set_cons_zero]
             refine skk 8 47 ?_
             simp only [Act.put, List.setIfInBounds_toArray]
             dsimp only [List.set_cons_succ, List.set_cons_zero]
             refine skk 9 48 ?_
             simp only [Act.put, List.setIfInBounds_toArray]
             dsimp only [List.set_cons_succ, List.set_cons_zero]
             refine skk 10 49 ?_
             simp only [Act.put, List.setIfInBounds_toArray]
             dsimp only [List.set_cons_succ, List.set_cons_zero]
             refine skk 11 50 ?_
             simp only [Act.put, List.setIfInBounds_toArray]
             dsimp only [List.set_cons_succ, List.set_cons_zero]
             refine skk 12 51 ?_
             simp only [Act.put, List.setIfInBounds_toArray]
             dsimp only [List.set_cons_succ, List.set_cons_zero]
             refine skk 13 52 ?_
             simp only [Act.put, List.setIfInBounds_toArray]
             dsimp only [List.set_cons_succ, List.set_cons_zero]
             refine skk 14 53 ?_
             simp only [Act.put, List.setIfInBounds_toArray]
             dsimp only [List.set_cons_succ, List.set_cons_zero]
             refine skk 15 54 ?_
             simp only [Act.put, List.setIfInBounds_toArray]
             dsimp only [List.set_cons_succ, List.set_cons_zero]
             refine skk 16 55 ?_
             simp only [Act.put, List.setIfInBounds_toArray]
             dsimp only [List.set_cons_succ, List.set_cons_zero]
             refine skk 17 56 ?_
             simp only [Act.put, List.setIfInBounds_toArray]
             dsimp only [List.set_cons_succ, List.set_cons_zero]
             refine tkk 18 57 (v := ?_) ?_ ?_
             rotate_left 1
             ·intro w hSw
              obtain ⟨q0, q1, q2, q3, q4, q5, q6⟩ := hSw
              go_simp <;> with_reducible rfl
             simp only [Act.put, List.setIfInBounds_toArray]
             dsimp only [List.set_cons_succ, List.set_cons_zero]
             refine tkk 19 58 (v := ?_) ?_ ?_
             rotate_left 1
             ·intro w hSw
              obtain ⟨q0, q1, q2, q3, q4, q5, q6⟩ := hSw
              go_simp <;> with_reducible rfl
             simp only [Act.put, List.setIfInBounds_toArray]
             dsimp only [List.set_cons_succ, List.set_cons_zero]
             refine tkk 20 59 (v := ?_) ?_ ?_
             rotate_left 1
             ·intro w hSw
              obtain ⟨q0, q1, q2, q3, q4, q5, q6⟩ := hSw
              go_simp <;> with_reducible rfl
             simp only [Act.put, List.setIfInBounds_toArray]
             dsimp only [List.set_cons_succ, List.set_cons_zero]
             refine tkk 21 60 (v := ?_) ?_ ?_
             rotate_left 1
             ·intro w hSw
              obtain ⟨q0, q1, q2, q3, q4, q5, q6⟩ := hSw
              go_simp <;> with_reducible rfl
             simp only [Act.put, List.setIfInBounds_toArray]
             dsimp only [List.set_cons_succ, List.set_cons_zero]
             refine tkk 22 61 (v := ?_) ?_ ?_
             rotate_left 1
             ·intro w hSw
              obtain ⟨q0, q1, q2, q3, q4, q5, q6⟩ := hSw
              go_simp <;> with_reducible rfl
             simp only [Act.put, List.setIfInBounds_toArray]
             dsimp only [List.set_cons_succ, List.set_cons_zero]
             refine wpAnyH_ready (rs := [23]) (by kernel_rfl) (by simp) ?_
             refine AllReadyH.cons rfl (fun KK hKK => ?_) AllReadyH.nil
             go_simp
             refine (l1In_any x.s 1 1000000 _).mono ?_
             rintro e9 w9 ⟨rfl, rfl⟩
             simp only [hb1]
             go_simp
             refine hKK.out _ _ (HSF.out _ BD.out) (fun hHeld2 => ?_)
             clear hKK KK hHeld
             have hHeld := hHeld2
             clear hHeld2
             refine tkk 24 63 (v := ?_) ?_ ?_
             rotate_left 1
             ·intro w hSw
              obtain ⟨q0, q1, q2, q3, q4, q5, q6⟩ := hSw
              go_simp <;> with_reducible rfl
             simp only [Act.put, List.setIfInBounds_toArray]
             dsimp only [List.set_cons_succ, List.set_cons_zero]
             refine tkk 25 64 (v := ?_) ?_ ?_
             rotate_left 1
             ·intro w hSw
              obtain ⟨q0, q1, q2, q3, q4, q5, q6⟩ := hSw
              go_simp <;> with_reducible rfl
             simp only [Act.put, List.setIfInBounds_toArray]
             dsimp only [List.set_cons_succ, List.set_cons_zero]
             refine tkk 26 65 (v := ?_) ?_ ?_
             rotate_left 1
             ·intro w hSw
              obtain ⟨q0, q1, q2, q3, q4, q5, q6⟩ := hSw
              go_simp <;> with_reducible rfl
             simp only [Act.put, List.setIfInBounds_toArray]
             dsimp only [List.set_cons_succ, List.set_cons_zero]
             refine tkk 27 66 (v := ?_) ?_ ?_
             rotate_left 1
             ·intro w hSw
              obtain ⟨q0, q1, q2, q3, q4, q5, q6⟩ := hSw
              go_simp <;> with_reducible rfl
             simp only [Act.put, List.setIfInBounds_toArray]
             dsimp only [List.set_cons_succ, List.set_cons_zero]
             refine tkk 28 67 (v := ?_) ?_ ?_
             rotate_left 1
             ·intro w hSw
              obtain ⟨q0, q1, q2, q3, q4, q5, q6⟩ := hSw
              go_simp <;> with_reducible rfl
             simp only [Act.put, List.setIfInBounds_toArray]
             dsimp only [List.set_cons_succ, List.set_cons_zero]
             refine wpAnyH_ready (rs := [29]) (by kernel_rfl) (by simp) ?_
             refine AllReadyH.cons rfl (fun KK hKK => ?_) AllReadyH.nil
             go_simp
             refine (l1In_any x.i 1 100000 _).mono ?_
             rintro e9 w9 ⟨rfl, rfl⟩
             simp only [hb2]
             go_simp
             refine hKK.out _ _ (HSF.out _ BD.out) (fun hHeld2 => ?_)
             clear hKK KK hHeld
             have hHeld := hHeld2
             clear hHeld2
             refine tkk 30 69 (v := ?_) ?_ ?_
             rotate_left 1
             ·intro w hSw
              obtain ⟨q0, q1, q2, q3, q4, q5, q6⟩ := hSw
              go_simp <;> with_reducible rfl
             simp only [Act.put, List.setIfInBounds_toArray]
             dsimp only [List.set_cons_succ, List.set_cons_zero]
             refine tkk 31 70 (v := ?_) ?_ ?_
             rotate_left 1
             ·intro w hSw
              obtain ⟨q0, q1, q2, q3, q4, q5, q6⟩ := hSw
              go_simp <;> with_reducible rfl
             simp only [Act.put, List.setIfInBounds_toArray]
             dsimp only [List.set_cons_succ, List.set_cons_zero]
             refine tkk 32 71 (v := ?_) ?_ ?_
             rotate_left 1
             ·intro w hSw
              obtain ⟨q0, q1, q2, q3, q4, q5, q6⟩ := hSw
              go_simp <;> with_reducible rfl
             simp only [Act.put, List.setIfInBounds_toArray]
             dsimp only [List.set_cons_succ, List.set_cons_zero]
             refine tkk 33 72 (v := ?_) ?_ ?_
             rotate_left 1
             ·intro w hSw
              obtain ⟨q0, q1, q2, q3, q4, q5, q6⟩ := hSw
              go_simp <;> with_reducible rfl
             simp only [Act.put, List.setIfInBounds_toArray]
             dsimp only [List.set_cons_succ, List.set_cons_zero]
             refine tkk 34 73 (v := ?_) ?_ ?_
             rotate_left 1
             ·intro w hSw
              obtain ⟨q0, q1, q2, q3, q4, q5, q6⟩ := hSw
              go_simp <;> with_reducible rfl
             simp only [Act.put, List.setIfInBounds_toArray]
             dsimp only [List.set_cons_succ, List.set_cons_zero]
             refine wpAnyH_ready (rs := [35]) (by kernel_rfl) (by simp) ?_
             refine AllReadyH.cons rfl (fun KK hKK => ?_) AllReadyH.nil
             go_simp
             refine (specResultOk_any x.r _).mono ?_
             rintro e9 w9 ⟨rfl, b9⟩
             replace BD := Hid.intro (BD.out.trans (b9.mono BD.out.size))
             clear b9
             simp only [hb3]
             go_simp
             refine hKK.out _ _ (HSF.out _ BD.out) (fun hHeld2 => ?_)
             clear hKK KK hHeld
             have hHeld := hHeld2
             clear hHeld2
             refine tkk 36 75 (v := ?_) ?_ ?_
             rotate_left 1
             ·intro w hSw
              obtain ⟨q0, q1, q2, q3, q4, q5, q6⟩ := hSw
              go_simp <;> with_reducible rfl
             simp only [Act.put, List.setIfInBounds_toArray]
             dsimp only [List.set_cons_succ, List.set_cons_zero]
             refine tkk 37 76 (v := ?_) ?_ ?_
             rotate_left 1
             ·intro w hSw
              obtain ⟨q0, q1, q2, q3, q4, q5, q6⟩ := hSw
              go_simp <;> with_reducible rfl
             simp only [Act.put, List.setIfInBounds_toArray]
             dsimp only [List.set_cons_succ, List.set_cons_zero]
             refine wpAnyH_done (by kernel_rfl) ?_ _
             go_wp2_with fail
             go_meet
             case rel => exact ⟨by rw [HW.out] <;> rfl, BD⟩
         ·obtain ⟨k, rfl⟩ : ∃ k, j = k + 1 := ⟨j - 1, by omega⟩
          have hk : k < Ss.length := by omega
          obtain ⟨d2', _⟩ := HDD.out k hk
          have hah : M = Ss[k].c + 1 := by rw [← HMA.out]; simp [aheadC, List.getElem?_eq_getElem hk]
          generalize Ss[k].c = pn at d2' hah
          replace d2' := atCell HBW.out d2' (by omega)
          have HSF : Hid (∀ y, Below X.heap.size X y → SeIn wr.heap.size x w.heap.size (.slice (some ⟨b2, o2, none⟩) Ss.length sc) pn b2 (o2 + k * 5) y) := fun y hy => HSG.out y hy pn _ d2'
          have h00 : decide ((0 : Int) < ((k + 1 : Nat) : Int)) = true := decide_eq_true (by omega)
          have hsub : IntKind.i64.wrap (((k + 1 : Nat) : Int) - 1) = (k : Int) := by rw [IntKind.wrap_i64]; omega
          have hsub3 : IntKind.i64.wrap (k : Int) = (k : Int) := by rw [IntKind.wrap_i64]; omega
          have hsub2 : IntKind.i64.wrap ((k : Int) + 1 - 1) = (k : Int) := by rw [IntKind.wrap_i64]; omega
          have h00' : decide ((0 : Int) < (k : Int) + 1) = true := decide_eq_true (by omega)
          have i2 : (0 : Int) ≤ (k : Int) ∧ (k : Int) < (Ss.length : Int) := by omega
          have HAH := Hid.intro hah
          clear hah d2'
          by_cases hpx : x.c ≤ pn
          ·have hgt : decide (x.c ≤ pn) = true := decide_eq_true hpx
           have HW : Hid ((inB x.c M 3 && sesB x) = false) := by unfold Hid; rw [show inB x.c M 3 = false from inB_false (by rw [HAH.out]; omega)]; rfl
           clear hx hpx
           refine wp_region_held_drew (S := SeIn wr.heap.size x w.heap.size (.slice (some ⟨b2, o2, none⟩) Ss.length sc) pn b2 (o2 + k * 5)) (by kernel_rfl) (HSF.out _ (Below.refl _ _).drew) (fun hHeld => ?_)
           have BD : Hid (Below X.heap.size X X.drew) := (Below.refl _ _).drew
           generalize X.drew = D at BD hHeld ⊢
           refine tkk 0 39 (v := ?_) ?_ ?_
           rotate_left 1
           ·intro w hSw
            obtain ⟨q0, q1, q2, q3, q4, q5, q6⟩ := hSw
            go_simp <;> with_reducible rfl
           simp only [Act.put, List.setIfInBounds_toArray]
           dsimp only [List.set_cons_succ, List.set_cons_zero]
           refine tkk 1 40 (v := ?_) ?_ ?_
           rotate_left 1
           ·intro w hSw
            obtain ⟨q0, q1, q2, q3, q4, q5, q6⟩ := hSw
            go_simp <;> with_reducible rfl
           simp only [Act.put, List.setIfInBounds_toArray]
           dsimp only [List.set_cons_succ, List.set_cons_zero]
           refine wpAnyH_ready (rs := [2]) (by kernel_rfl) (by simp) ?_
           refine AllReadyH.cons rfl (fun KK hKK => ?_) AllReadyH.nil
           go_simp
           refine (l1In_any x.c 1 3 _).mono ?_
           rintro e9 w9 ⟨rfl, rfl⟩
           simp only [hb0]
           go_simp
           refine hKK.out _ _ (HSF.out _ BD.out) (fun hHeld2 => ?_)
           clear hKK KK hHeld
           have hHeld := hHeld2
           clear hHeld2
           refine tkk 3 42 (v := ?_) ?_ ?_
           rotate_left 1
           ·intro w hSw
            obtain ⟨q0, q1, q2, q3, q4, q5, q6⟩ := hSw
            go_simp <;> with_reducible rfl
           simp only [Act.put, List.setIfInBounds_toArray]
           dsimp only [List.set_cons_succ, List.set_cons_zero]
           refine tkk 4 43 (v := ?_) ?_ ?_
           rotate_left 1
           ·intro w hSw
            obtain ⟨q0, q1, q2, q3, q4, q5, q6⟩ := hSw
            go_simp <;> with_reducible rfl
           simp only [Act.put, List.setIfInBounds_toArray]
           dsimp only [List.set_cons_succ, List.set_cons_zero]
           refine tkk 5 44 (v := ?_) ?_ ?_
           rotate_left 1
           ·intro w hSw
            obtain ⟨q0, q1, q2, q3, q4, q5, q6⟩ := hSw
            go_simp <;> with_reducible rfl
           simp only [Act.put, List.setIfInBounds_toArray]
           dsimp only [List.set_cons_succ, List.set_cons_zero]
           refine tkk 6 45 (v := ?_) ?_ ?_
           rotate_left 1
           ·intro w hSw
            obtain ⟨q0, q1, q2, q3, q4, q5, q6⟩ := hSw
            go_simp <;> with_reducible rfl
           simp only [Act.put, List.setIfInBounds_toArray]
           dsimp only [List.set_cons_succ, List.set_cons_zero]
           first | simp only [h00] | simp only [h00'] | skip
           refine tkk 7 46 (v := ?_) ?_ ?_
           rotate_left 1
           ·intro w hSw
            obtain ⟨q0, q1, q2, q3, q4, q5, q6⟩ := hSw
            go_simp <;> with_reducible rfl
           simp only [Act.put, List.setIfInBounds_toArray]
           dsimp only [List.set_cons_succ, List.set_cons_zero]
           refine tkk 8 47 (v := ?_) ?_ ?_
           rotate_left 1
           ·intro w hSw
            obtain ⟨q0, q1, q2, q3, q4, q5, q6⟩ := hSw
            go_simp <;> with_reducible rfl
           simp only [Act.put, List.setIfInBounds_toArray]
           dsimp only [List.set_cons_succ, List.set_cons_zero]
           refine tkk 9 48 (v := ?_) ?_ ?_
           rotate_left 1
           ·intro w hSw
            obtain ⟨q0, q1, q2, q3, q4, q5, q6⟩ := hSw
            go_simp <;> with_reducible rfl
           simp only [Act.put, List.setIfInBounds_toArray]
           dsimp only [List.set_cons_succ, List.set_cons_zero]
           refine tkk 10 49 (v := ?_) ?_ ?_
           rotate_left 1
           ·intro w hSw
            obtain ⟨q0, q1, q2, q3, q4, q5, q6⟩ := hSw
            go_simp <;> with_reducible rfl
           simp only [Act.put, List.setIfInBounds_toArray]
           dsimp only [List.set_cons_succ, List.set_cons_zero]
           refine tkk 11 50 (v := ?_) ?_ ?_
           rotate_left 1
           ·intro w hSw
            obtain ⟨q0, q1, q2, q3, q4, q5, q6⟩ := hSw
            go_simp <;> with_reducible rfl
           simp only [Act.put, List.setIfInBounds_toArray]
           dsimp only [List.set_cons_succ, List.set_cons_zero]
           first | simp only [hsub3] | simp only [hsub] | simp only [hsub2] | skip
           refine tkk 12 51 (v := ?_) ?_ ?_
           rotate_left 1
           ·intro w hSw
            obtain ⟨q0, q1, q2, q3, q4, q5, q6⟩ := hSw
            go_simp <;> with_reducible rfl
           simp only [Act.put, List.setIfInBounds_toArray]
           dsimp only [List.set_cons_succ, List.set_cons_zero]
           refine tkk 13 52 (v := ?_) ?_ ?_
           rotate_left 1
           ·intro w hSw
            obtain ⟨q0, q1, q2, q3, q4, q5, q6⟩ := hSw
            go_simp <;> with_reducible rfl
           simp only [Act.put, List.setIfInBounds_toArray]
           dsimp only [List.set_cons_succ, List.set_cons_zero]
           refine tkk 14 53 (v := ?_) ?_ ?_
           rotate_left 1
           ·intro w hSw
            obtain ⟨q0, q1, q2, q3, q4, q5, q6⟩ := hSw
            go_simp <;> with_reducible rfl
           simp only [Act.put, List.setIfInBounds_toArray]
           dsimp only [List.set_cons_succ, List.set_cons_zero]
           refine tkk 15 54 (v := ?_) ?_ ?_
           rotate_left 1
           ·intro w hSw
            obtain ⟨q0, q1, q2, q3, q4, q5, q6⟩ := hSw
            go_simp <;> with_reducible rfl
           simp only [Act.put, List.setIfInBounds_toArray]
           dsimp only [List.set_cons_succ, List.set_cons_zero]
           refine tkk 16 55 (v := ?_) ?_ ?_
           rotate_left 1
           ·intro w hSw
            obtain ⟨q0, q1, q2, q3, q4, q5, q6⟩ := hSw
            go_simp <;> with_reducible rfl
           simp only [Act.put, List.setIfInBounds_toArray]
           dsimp only [List.set_cons_succ, List.set_cons_zero]
           refine tkk 17 56 (v := ?_) ?_ ?_
           rotate_left 1
           ·intro w hSw
            obtain ⟨q0, q1, q2, q3, q4, q5, q6⟩ := hSw
            go_simp <;> with_reducible rfl
           simp only [Act.put, List.setIfInBounds_toArray]
           dsimp only [List.set_cons_succ, List.set_cons_zero]
           try simp only [hgt]
           refine tkk 18 57 (v := ?_) ?_ ?_
           rotate_left 1
           ·intro w hSw
            obtain ⟨q0, q1, q2, q3, q4, q5, q6⟩ := hSw
            go_simp <;> with_reducible rfl
           simp only [Act.put, List.setIfInBounds_toArray]
           dsimp only [List.set_cons_succ, List.set_cons_zero]
           refine tkk 19 58 (v := ?_) ?_ ?_
           rotate_left 1
           ·intro w hSw
            obtain ⟨q0, q1, q2, q3, q4, q5, q6⟩ := hSw
            go_simp <;> with_reducible rfl
           simp only [Act.put, List.setIfInBounds_toArray]
           dsimp only [List.set_cons_succ, List.set_cons_zero]
           refine tkk 20 59 (v := ?_) ?_ ?_
           rotate_left 1
           ·intro w hSw
            obtain ⟨q0, q1, q2, q3, q4, q5, q6⟩ := hSw
            go_simp <;> with_reducible rfl
           simp only [Act.put, List.setIfInBounds_toArray]
           dsimp only [List.set_cons_succ, List.set_cons_zero]
           refine skk 21 60 ?_
           simp only [Act.put, List.setIfInBounds_toArray]
           dsimp only [List.set_cons_succ, List.set_cons_zero]
           refine skk 22 61 ?_
           simp only [Act.put, List.setIfInBounds_toArray]
           dsimp only [List.set_cons_succ, List.set_cons_zero]
           refine skk 23 62 ?_
           simp only [Act.put, List.setIfInBounds_toArray]
           dsimp only [List.set_cons_succ, List.set_cons_zero]
           refine skk 24 63 ?_
           simp only [Act.put, List.setIfInBounds_toArray]
           dsimp only [List.set_cons_succ, List.set_cons_zero]
           refine tkk 25 64 (v := ?_) ?_ ?_
           rotate_left 1
           ·intro w hSw
            obtain ⟨q0, q1, q2, q3, q4, q5, q6⟩ := hSw
            go_simp <;> with_reducible rfl
           simp only [Act.put, List.setIfInBounds_toArray]
           dsimp only [List.set_cons_succ, List.set_cons_zero]
           refine tkk 26 65 (v := ?_) ?_ ?_
           rotate_left 1
           ·intro w hSw
            obtain ⟨q0, q1, q2, q3, q4, q5, q6⟩ := hSw
            go_simp <;> with_reducible rfl
           simp only [Act.put, List.setIfInBounds_toArray]
           dsimp only [List.set_cons_succ, List.set_cons_zero]
           refine skk 27 66 ?_
           simp only [Act.put, List.setIfInBounds_toArray]
           dsimp only [List.set_cons_succ, List.set_cons_zero]
           refine skk 28 67 ?_
           simp only [Act.put, List.setIfInBounds_toArray]
           dsimp only [List.set_cons_succ, List.set_cons_zero]
           refine skk 29 68 ?_
           simp only [Act.put, List.setIfInBounds_toArray]
           dsimp only [List.set_cons_succ, List.set_cons_zero]
           refine skk 30 69 ?_
           simp only [Act.put, List.setIfInBounds_toArray]
           dsimp only [List.set_cons_succ, List.set_cons_zero]
           refine tkk 31 70 (v := ?_) ?_ ?_
           rotate_left 1
           ·intro w hSw
            obtain ⟨q0, q1, q2, q3, q4, q5, q6⟩ := hSw
            go_simp <;> with_reducible rfl
           simp only [Act.put, List.setIfInBounds_toArray]
           dsimp only [List.set_cons_succ, List.set_cons_zero]
           refine tkk 32 71 (v := ?_) ?_ ?_
           rotate_left 1
           ·intro w hSw
            obtain ⟨q0, q1, q2, q3, q4, q5, q6⟩ := hSw
            go_simp <;> with_reducible rfl
           simp only [Act.put, List.setIfInBounds_toArray]
           dsimp only [List.set_cons_succ, List.set_cons_zero]
           refine skk 33 72 ?_
           simp only [Act.put, List.setIfInBounds_toArray]
           dsimp only [List.set_cons_succ, List.set_cons_zero]
           refine skk 34 73 ?_
           simp only [Act.put, List.setIfInBounds_toArray]
           dsimp only [List.set_cons_succ, List.set_cons_zero]
           refine skk 35 74 ?_
           simp only [Act.put, List.setIfInBounds_toArray]
           dsimp only [List.set_cons_succ, List.set_cons_zero]
           refine skk 36 75 ?_
           simp only [Act.put, List.setIfInBounds_toArray]
           dsimp only [List.set_cons_succ, List.set_cons_zero]
           refine tkk 37 76 (v := ?_) ?_ ?_
           rotate_left 1
           ·intro w hSw
            obtain ⟨q0, q1, q2, q3, q4, q5, q6⟩ := hSw
            go_simp <;> with_reducible rfl
           simp only [Act.put, List.setIfInBounds_toArray]
           dsimp only [List.set_cons_succ, List.set_cons_zero]
           refine wpAnyH_done (by kernel_rfl) ?_ _
           go_wp2_with fail
           go_meet
           case rel => exact ⟨by rw [HW.out] <;> rfl, BD⟩
          ·have hgt : decide (x.c ≤ pn) = false := decide_eq_false hpx
           have HLE : Hid (inB x.c M 3 = true) := inB_true (by rw [HAH.out]; omega)
           clear hx hpx
           cases hb1 : inB x.s 1 1000000 with
           | false =>
            have HW : Hid ((inB x.c M 3 && sesB x) = false) := by unfold Hid; simp [sesB, hb1]
            refine wp_region_held_drew (S := SeIn wr.heap.size x w.heap.size (.slice (some ⟨b2, o2, none⟩) Ss.length sc) pn b2 (o2 + k * 5)) (by kernel_rfl) (HSF.out _ (Below.refl _ _).drew) (fun hHeld => ?_)
            have BD : Hid (Below X.heap.size X X.drew) := (Below.refl _ _).drew
            generalize X.drew = D at BD hHeld ⊢
            refine tkk 0 39 (v := ?_) ?_ ?_
            rotate_left 1
            ·intro w hSw
             obtain ⟨q0, q1, q2, q3, q4, q5, q6⟩ := hSw
             go_simp <;> with_reducible rfl
            simp only [Act.put, List.setIfInBounds_toArray]
            dsimp only [List.set_cons_succ, List.set_cons_zero]
            refine tkk 1 40 (v := ?_) ?_ ?_
            rotate_left 1
            ·intro w hSw
             obtain ⟨q0, q1, q2, q3, q4, q5, q6⟩ := hSw
             go_simp <;> with_reducible rfl
            simp only [Act.put, List.setIfInBounds_toArray]
            dsimp only [List.set_cons_succ, List.set_cons_zero]
            refine wpAnyH_ready (rs := [2]) (by kernel_rfl) (by simp) ?_
            refine AllReadyH.cons rfl (fun KK hKK => ?_) AllReadyH.nil
            go_simp
            refine (l1In_any x.c 1 3 _).mono ?_
            rintro e9 w9 ⟨rfl, rfl⟩
            simp only [hb0]
            go_simp
            refine hKK.out _ _ (HSF.out _ BD.out) (fun hHeld2 => ?_)
            clear hKK KK hHeld
            have hHeld := hHeld2
            clear hHeld2
            refine tkk 3 42 (v := ?_) ?_ ?_
            rotate_left 1
            ·intro w hSw
             obtain ⟨q0, q1, q2, q3, q4, q5, q6⟩ := hSw
             go_simp <;> with_reducible rfl
            simp only [Act.put, List.setIfInBounds_toArray]
            dsimp only [List.set_cons_succ, List.set_cons_zero]
            refine tkk 4 43 (v := ?_) ?_ ?_
            rotate_left 1
            ·intro w hSw
             obtain ⟨q0, q1, q2, q3, q4, q5, q6⟩ := hSw
             go_simp <;> with_reducible rfl
            simp only [Act.put, List.setIfInBounds_toArray]
            dsimp only [List.set_cons_succ, List.set_cons_zero]
            refine tkk 5 44 (v := ?_) ?_ ?_
            rotate_left 1
            ·intro w hSw
             obtain ⟨q0, q1, q2, q3, q4, q5, q6⟩ := hSw
             go_simp <;> with_reducible rfl
            simp only [Act.put, List.setIfInBounds_toArray]
            dsimp only [List.set_cons_succ, List.set_cons_zero]
            refine tkk 6 45 (v := ?_) ?_ ?_
            rotate_left 1
            ·intro w hSw
             obtain ⟨q0, q1, q2, q3, q4, q5, q6⟩ := hSw
             go_simp <;> with_reducible rfl
            simp only [Act.put, List.setIfInBounds_toArray]
            dsimp only [List.set_cons_succ, List.set_cons_zero]
            first | simp only [h00] | simp only [h00'] | skip
            refine tkk 7 46 (v := ?_) ?_ ?_
            rotate_left 1
            ·intro w hSw
             obtain ⟨q0, q1, q2, q3, q4, q5, q6⟩ := hSw
             go_simp <;> with_reducible rfl
            simp only [Act.put, List.setIfInBounds_toArray]
            dsimp only [List.set_cons_succ, List.set_cons_zero]
            refine tkk 8 47 (v := ?_) ?_ ?_
            rotate_left 1
            ·intro w hSw
             obtain ⟨q0, q1, q2, q3, q4, q5, q6⟩ := hSw
             go_simp <;> with_reducible rfl
            simp only [Act.put, List.setIfInBounds_toArray]
            dsimp only [List.set_cons_succ, List.set_cons_zero]
            refine tkk 9 48 (v := ?_) ?_ ?_
            rotate_left 1
            ·intro w hSw
             obtain ⟨q0, q1, q2, q3, q4, q5, q6⟩ := hSw
             go_simp <;> with_reducible rfl
            simp only [Act.put, List.setIfInBounds_toArray]
            dsimp only [List.set_cons_succ, List.set_cons_zero]
            refine tkk 10 49 (v := ?_) ?_ ?_
            rotate_left 1
            ·intro w hSw
             obtain ⟨q0, q1, q2, q3, q4, q5, q6⟩ := hSw
             go_simp <;> with_reducible rfl
            simp only [Act.put, List.setIfInBounds_toArray]
            dsimp only [List.set_cons_succ, List.set_cons_zero]
            refine tkk 11 50 (v := ?_) ?_ ?_
            rotate_left 1
            ·intro w hSw
             obtain ⟨q0, q1, q2, q3, q4, q5, q6⟩ := hSw
             go_simp <;> with_reducible rfl
            simp only [Act.put, List.setIfInBounds_toArray]
            dsimp only [List.set_cons_succ, List.set_cons_zero]
            first | simp only [hsub3] | simp only [hsub] | simp only [hsub2] | skip
            refine tkk 12 51 (v := ?_) ?_ ?_
            rotate_left 1
            ·intro w hSw
             obtain ⟨q0, q1, q2, q3, q4, q5, q6⟩ := hSw
             go_simp <;> with_reducible rfl
            simp only [Act.put, List.setIfInBounds_toArray]
            dsimp only [List.set_cons_succ, List.set_cons_zero]
            refine tkk 13 52 (v := ?_) ?_ ?_
            rotate_left 1
            ·intro w hSw
             obtain ⟨q0, q1, q2, q3, q4, q5, q6⟩ := hSw
             go_simp <;> with_reducible rfl
            simp only [Act.put, List.setIfInBounds_toArray]
            dsimp only [List.set_cons_succ, List.set_cons_zero]
            refine tkk 14 53 (v := ?_) ?_ ?_
            rotate_left 1
            ·intro w hSw
             obtain ⟨q0, q1, q2, q3, q4, q5, q6⟩ := hSw
             go_simp <;> with_reducible rfl
            simp only [Act.put, List.setIfInBounds_toArray]
            dsimp only [List.set_cons_succ, List.set_cons_zero]
            refine tkk 15 54 (v := ?_) ?_ ?_
            rotate_left 1
            ·intro w hSw
             obtain ⟨q0, q1, q2, q3, q4, q5, q6⟩ := hSw
             go_simp <;> with_reducible rfl
            simp only [Act.put, List.setIfInBounds_toArray]
            dsimp only [List.set_cons_succ, List.set_cons_zero]
            refine tkk 16 55 (v := ?_) ?_ ?_
            rotate_left 1
            ·intro w hSw
             obtain ⟨q0, q1, q2, q3, q4, q5, q6⟩ := hSw
             go_simp <;> with_reducible rfl
            simp only [Act.put, List.setIfInBounds_toArray]
            dsimp only [List.set_cons_succ, List.set_cons_zero]
            refine tkk 17 56 (v := ?_) ?_ ?_
            rotate_left 1
            ·intro w hSw
             obtain ⟨q0, q1, q2, q3, q4, q5, q6⟩ := hSw
             go_simp <;> with_reducible rfl
            simp only [Act.put, List.setIfInBounds_toArray]
            dsimp only [List.set_cons_succ, List.set_cons_zero]
            try simp only [hgt]
            refine tkk 18 57 (v := ?_) ?_ ?_
            rotate_left 1
            ·intro w hSw
             obtain ⟨q0, q1, q2, q3, q4, q5, q6⟩ := hSw
             go_simp <;> with_reducible rfl
            simp only [Act.put, List.setIfInBounds_toArray]
            dsimp only [List.set_cons_succ, List.set_cons_zero]
            refine tkk 19 58 (v := ?_) ?_ ?_
            rotate_left 1
            ·intro w hSw
             obtain ⟨q0, q1, q2, q3, q4, q5, q6⟩ := hSw
             go_simp <;> with_reducible rfl
            simp only [Act.put, List.setIfInBounds_toArray]
            dsimp only [List.set_cons_succ, List.set_cons_zero]
            refine tkk 20 59 (v := ?_) ?_ ?_
            rotate_left 1
            ·intro w hSw
             obtain ⟨q0, q1, q2, q3, q4, q5, q6⟩ := hSw
             go_simp <;> with_reducible rfl
            simp only [Act.put, List.setIfInBounds_toArray]
            dsimp only [List.set_cons_succ, List.set_cons_zero]
            refine tkk 21 60 (v := ?_) ?_ ?_
            rotate_left 1
            ·intro w hSw
             obtain ⟨q0, q1, q2, q3, q4, q5, q6⟩ := hSw
             go_simp <;> with_reducible rfl
            simp only [Act.put, List.setIfInBounds_toArray]
            dsimp only [List.set_cons_succ, List.set_cons_zero]
            refine tkk 22 61 (v := ?_) ?_ ?_
            rotate_left 1
            ·intro w hSw
             obtain ⟨q0, q1, q2, q3, q4, q5, q6⟩ := hSw
             go_simp <;> with_reducible rfl
            simp only [Act.put, List.setIfInBounds_toArray]
            dsimp only [List.set_cons_succ, List.set_cons_zero]
            refine wpAnyH_ready (rs := [23]) (by kernel_rfl) (by simp) ?_
            refine AllReadyH.cons rfl (fun KK hKK => ?_) AllReadyH.nil
            go_simp
            refine (l1In_any x.s 1 1000000 _).mono ?_
            rintro e9 w9 ⟨rfl, rfl⟩
            simp only [hb1]
            go_simp
            refine hKK.out _ _ (HSF.out _ BD.out) (fun hHeld2 => ?_)
            clear hKK KK hHeld
            have hHeld := hHeld2
            clear hHeld2
            refine tkk 24 63 (v := ?_) ?_ ?_
            rotate_left 1
            ·intro w hSw
             obtain ⟨q0, q1, q2, q3, q4, q5, q6⟩ := hSw
             go_simp <;> with_reducible rfl
            simp only [Act.put, List.setIfInBounds_toArray]
            dsimp only [List.set_cons_succ, List.set_cons_zero]
            refine tkk 25 64 (v := ?_) ?_ ?_
            rotate_left 1
            ·intro w hSw
             obtain ⟨q0, q1, q2, q3, q4, q5, q6⟩ := hSw
             go_simp <;> with_reducible rfl
            simp only [Act.put, List.setIfInBounds_toArray]
            dsimp only [List.set_cons_succ, List.set_cons_zero]
            refine tkk 26 65 (v := ?_) ?_ ?_
            rotate_left 1
            ·intro w hSw
             obtain ⟨q0, q1, q2, q3, q4, q5, q6⟩ := hSw
             go_simp <;> with_reducible rfl
            simp only [Act.put, List.setIfInBounds_toArray]
            dsimp only [List.set_cons_succ, List.set_cons_zero]
            refine skk 27 66 ?_
            simp only [Act.put, List.setIfInBounds_toArray]
            dsimp only [List.set_cons_succ, List.set_cons_zero]
            refine skk 28 67 ?_
            simp only [Act.put, List.setIfInBounds_toArray]
            dsimp only [List.set_cons_succ, List.set_cons_zero]
            refine skk 29 68 ?_
            simp only [Act.put, List.setIfInBounds_toArray]
            dsimp only [List.set_cons_succ, List.set_cons_zero]
            refine skk 30 69 ?_
            simp only [Act.put, List.setIfInBounds_toArray]
            dsimp only [List.set_cons_succ, List.set_cons_zero]
            refine tkk 31 70 (v := ?_) ?_ ?_
            rotate_left 1
            ·intro w hSw
             obtain ⟨q0, q1, q2, q3, q4, q5, q6⟩ := hSw
             go_simp <;> with_reducible rfl
            simp only [Act.put, List.setIfInBounds_toArray]
            dsimp only [List.set_cons_succ, List.set_cons_zero]
            refine tkk 32 71 (v := ?_) ?_ ?_
            rotate_left 1
            ·intro w hSw
             obtain ⟨q0, q1, q2, q3, q4, q5, q6⟩ := hSw
             go_simp <;> with_reducible rfl
            simp only [Act.put, List.setIfInBounds_toArray]
            dsimp only [List.set_cons_succ, List.set_cons_zero]
            refine skk 33 72 ?_
            simp only [Act.put, List.setIfInBounds_toArray]
            dsimp only [List.set_cons_succ, List.set_cons_zero]
            refine skk 34 73 ?_
            simp only [Act.put, List.setIfInBounds_toArray]
            dsimp only [List.set_cons_succ, List.set_cons_zero]
            refine skk 35 74 ?_
            simp only [Act.put, List.setIfInBounds_toArray]
            dsimp only [List.set_cons_succ, List.set_cons_zero]
            refine skk 36 75 ?_
            simp only [Act.put, List.setIfInBounds_toArray]
            dsimp only [List.set_cons_succ, List.set_cons_zero]
            refine tkk 37 76 (v := ?_) ?_ ?_
            rotate_left 1
            ·intro w hSw
             obtain ⟨q0, q1, q2, q3, q4, q5, q6⟩ := hSw
             go_simp <;> with_reducible rfl
            simp only [Act.put, List.setIfInBounds_toArray]
            dsimp only [List.set_cons_succ, List.set_cons_zero]
            refine wpAnyH_done (by kernel_rfl) ?_ _
            go_wp2_with fail
            go_meet
            case rel => exact ⟨by rw [HW.out] <;> rfl, BD⟩
           | true =>
            cases hb2 : inB x.i 1 100000 with
            | false =>
             have HW : Hid ((inB x.c M 3 && sesB x) = false) := by unfold Hid; simp [sesB, hb1, hb2]
             refine wp_region_held_drew (S := SeIn wr.heap.size x w.heap.size (.slice (some ⟨b2, o2, none⟩) Ss.length sc) pn b2 (o2 + k * 5)) (by kernel_rfl) (HSF.out _ (Below.refl _ _).drew) (fun hHeld => ?_)
             have BD : Hid (Below X.heap.size X X.drew) := (Below.refl _ _).drew
             generalize X.drew = D at BD hHeld ⊢
             refine tkk 0 39 (v := ?_) ?_ ?_
             rotate_left 1
             ·intro w hSw
              obtain ⟨q0, q1, q2, q3, q4, q5, q6⟩ := hSw
              go_simp <;> with_reducible rfl
             simp only [Act.put, List.setIfInBounds_toArray]
             dsimp only [List.set_cons_succ, List.set_cons_zero]
             refine tkk 1 40 (v := ?_) ?_ ?_
             rotate_left 1
             ·intro w hSw
              obtain ⟨q0, q1, q2, q3, q4, q5, q6⟩ := hSw
              go_simp <;> with_reducible rfl
             simp only [Act.put, List.setIfInBounds_toArray]
             dsimp only [List.set_cons_succ, List.set_cons_zero]
             refine wpAnyH_ready (rs := [2]) (by kernel_rfl) (by simp) ?_
             refine AllReadyH.cons rfl (fun KK hKK => ?_) AllReadyH.nil
             go_simp
             refine (l1In_any x.c 1 3 _).mono ?_
             rintro e9 w9 ⟨rfl, rfl⟩
             simp only [hb0]
             go_simp
             refine hKK.out _ _ (HSF.out _ BD.out) (fun hHeld2 => ?_)
             clear hKK KK hHeld
             have hHeld := hHeld2
             clear hHeld2
             refine tkk 3 42 (v := ?_) ?_ ?_
             rotate_left 1
             ·intro w hSw
              obtain ⟨q0, q1, q2, q3, q4, q5, q6⟩ := hSw
              go_simp <;> with_reducible rfl
             simp only [Act.put, List.setIfInBounds_toArray]
             dsimp only [List.set_cons_succ, List.set_cons_zero]
             refine tkk 4 43 (v := ?_) ?_ ?_
             rotate_left 1
             ·intro w hSw
              obtain ⟨q0, q1, q2, q3, q4, q5, q6⟩ := hSw
              go_simp <;> with_reducible rfl
             simp only [Act.put, List.setIfInBounds_toArray]
             dsimp only [List.set_cons_succ, List.set_cons_zero]
             refine tkk 5 44 (v := ?_) ?_ ?_
             rotate_left 1
             ·intro w hSw
              obtain ⟨q0, q1, q2, q3, q4, q5, q6⟩ := hSw
              go_simp <;> with_reducible rfl
             simp only [Act.put, List.setIfInBounds_toArray]
             dsimp only [List.set_cons_succ, List.set_cons_zero]
             refine tkk 6 45 (v := ?_) ?_ ?_
             rotate_left 1
             ·intro w hSw
              obtain ⟨q0, q1, q2, q3, q4, q5, q6⟩ := hSw
              go_simp <;> with_reducible rfl
             simp only [Act.put, List.setIfInBounds_toArray]
             dsimp only [List.set_cons_succ, List.set_cons_zero]
             first | simp only [h00] | simp only [h00'] | skip
             refine tkk 7 46 (v := ?_) ?_ ?_
             rotate_left 1
             ·intro w hSw
              obtain ⟨q0, q1, q2, q3, q4, q5, q6⟩ := hSw
              go_simp <;> with_reducible rfl
             simp only [Act.put, List.setIfInBounds_toArray]
             dsimp only [List.set_cons_succ, List.set_cons_zero]
             refine tkk 8 47 (v := ?_) ?_ ?_
             rotate_left 1
             ·intro w hSw
              obtain ⟨q0, q1, q2, q3, q4, q5, q6⟩ := hSw
              go_simp <;> with_reducible rfl
             simp only [Act.put, List.setIfInBounds_toArray]
             dsimp only [List.set_cons_succ, List.set_cons_zero]
             refine tkk 9 48 (v := ?_) ?_ ?_
             rotate_left 1
             ·intro w hSw
              obtain ⟨q0, q1, q2, q3, q4, q5, q6⟩ := hSw
              go_simp <;> with_reducible rfl
             simp only [Act.put, List.setIfInBounds_toArray]
             dsimp only [List.set_cons_succ, List.set_cons_zero]
             refine tkk 10 49 (v := ?_) ?_ ?_
             rotate_left 1
             ·intro w hSw
              obtain ⟨q0, q1, q2, q3, q4, q5, q6⟩ := hSw
              go_simp <;> with_reducible rfl
             simp only [Act.put, List.setIfInBounds_toArray]
             dsimp only [List.set_cons_succ, List.set_cons_zero]
             refine tkk 11 50 (v := ?_) ?_ ?_
             rotate_left 1
             ·intro w hSw
              obtain ⟨q0, q1, q2, q3, q4, q5, q6⟩ := hSw
              go_simp <;> with_reducible rfl
             simp only [Act.put, List.setIfInBounds_toArray]
             dsimp only [List.set_cons_succ, List.set_cons_zero]
             first | simp only [hsub3] | simp only [hsub] | simp only [hsub2] | skip
             refine tkk 12 51 (v := ?_) ?_ ?_
             rotate_left 1
             ·intro w hSw
              obtain ⟨q0, q1, q2, q3, q4, q5, q6⟩ := hSw
              go_simp <;> with_reducible rfl
             simp only [Act.put, List.setIfInBounds_toArray]
             dsimp only [List.set_cons_succ, List.set_cons_zero]
             refine tkk 13 52 (v := ?_) ?_ ?_
             rotate_left 1
             ·intro w hSw
              obtain ⟨q0, q1, q2, q3, q4, q5, q6⟩ := hSw
              go_simp <;> with_reducible rfl
             simp only [Act.put, List.setIfInBounds_toArray]
             dsimp only [List.set_cons_succ, List.set_cons_zero]
             refine tkk 14 53 (v := ?_) ?_ ?_
             rotate_left 1
             ·intro w hSw
              obtain ⟨q0, q1, q2, q3, q4, q5, q6⟩ := hSw
              go_simp <;> with_reducible rfl
             simp only [Act.put, List.setIfInBounds_toArray]
             dsimp only [List.set_cons_succ, List.set_cons_zero]
             refine tkk 15 54 (v := ?_) ?_ ?_
             rotate_left 1
             ·intro w hSw
              obtain ⟨q0, q1, q2, q3, q4, q5, q6⟩ := hSw
              go_simp <;> with_reducible rfl
             simp only [Act.put, List.setIfInBounds_toArray]
             dsimp only [List.set_cons_succ, List.set_cons_zero]
             refine tkk 16 55 (v := ?_) ?_ ?_
             rotate_left 1
             ·intro w hSw
              obtain ⟨q0, q1, q2, q3, q4, q5, q6⟩ := hSw
              go_simp <;> with_reducible rfl
             simp only [Act.put, List.setIfInBounds_toArray]
             dsimp only [List.set_cons_succ, List.set_cons_zero]
             refine tkk 17 56 (v := ?_) ?_ ?_
             rotate_left 1
             ·intro w hSw
              obtain ⟨q0, q1, q2, q3, q4, q5, q6⟩ := hSw
              go_simp <;> with_reducible rfl
             simp only [Act.put, List.setIfInBounds_toArray]
             dsimp only [List.set_cons_succ, List.set_cons_zero]
             try simp only [hgt]
             refine tkk 18 57 (v := ?_) ?_ ?_
             rotate_left 1
             ·intro w hSw
              obtain ⟨q0, q1, q2, q3, q4, q5, q6⟩ := hSw
              go_simp <;> with_reducible rfl
             simp only [Act.put, List.setIfInBounds_toArray]
             dsimp only [List.set_cons_succ, List.set_cons_zero]
             refine tkk 19 58 (v := ?_) ?_ ?_
             rotate_left 1
             ·intro w hSw
              obtain ⟨q0, q1, q2, q3, q4, q5, q6⟩ := hSw
              go_simp <;> with_reducible rfl
             simp only [Act.put, List.setIfInBounds_toArray]
             dsimp only [List.set_cons_succ, List.set_cons_zero]
             refine tkk 20 59 (v := ?_) ?_ ?_
             rotate_left 1
             ·intro w hSw
              obtain ⟨q0, q1, q2, q3, q4, q5, q6⟩ := hSw
              go_simp <;> with_reducible rfl
             simp only [Act.put, List.setIfInBounds_toArray]
             dsimp only [List.set_cons_succ, List.set_cons_zero]
             refine tkk 21 60 (v := ?_) ?_ ?_
             rotate_left 1
             ·intro w hSw
              obtain ⟨q0, q1, q2, q3, q4, q5, q6⟩ := hSw
              go_simp <;> with_reducible rfl
             simp only [Act.put, List.setIfInBounds_toArray]
             dsimp only [List.set_cons_succ, List.set_cons_zero]
             refine tkk 22 61 (v := ?_) ?_ ?_
             rotate_left 1
             ·intro w hSw
              obtain ⟨q0, q1, q2, q3, q4, q5, q6⟩ := hSw
              go_simp <;> with_reducible rfl
             simp only [Act.put, List.setIfInBounds_toArray]
             dsimp only [List.set_cons_succ, List.set_cons_zero]
             refine wpAnyH_ready (rs := [23]) (by kernel_rfl) (by simp) ?_
             refine AllReadyH.cons rfl (fun KK hKK => ?_) AllReadyH.nil
             go_simp
             refine (l1In_any x.s 1 1000000 _).mono ?_
             rintro e9 w9 ⟨rfl, rfl⟩
             simp only [hb1]
             go_simp
             refine hKK.out _ _ (HSF.out _ BD.out) (fun hHeld2 => ?_)
             clear hKK KK hHeld
             have hHeld := hHeld2
             clear hHeld2
             refine tkk 24 63 (v := ?_) ?_ ?_
             rotate_left 1
             ·intro w hSw
              obtain ⟨q0, q1, q2, q3, q4, q5, q6⟩ := hSw
              go_simp <;> with_reducible rfl
             simp only [Act.put, List.setIfInBounds_toArray]
             dsimp only [List.set_cons_succ, List.set_cons_zero]
             refine tkk 25 64 (v := ?_) ?_ ?_
             rotate_left 1
             ·intro w hSw
              obtain ⟨q0, q1, q2, q3, q4, q5, q6⟩ := hSw
              go_simp <;> with_reducible rfl
             simp only [Act.put, List.setIfInBounds_toArray]
             dsimp only [List.set_cons_succ, List.set_cons_zero]
             refine tkk 26 65 (v := ?_) ?_ ?_
             rotate_left 1
             ·intro w hSw
              obtain ⟨q0, q1, q2, q3, q4, q5, q6⟩ := hSw
              go_simp <;> with_reducible rfl
             simp only [Act.put, List.setIfInBounds_toArray]
             dsimp only [List.set_cons_succ, List.set_cons_zero]
             refine tkk 27 66 (v := ?_) ?_ ?_
             rotate_left 1
             ·intro w hSw
              obtain ⟨q0, q1, q2, q3, q4, q5, q6⟩ := hSw
              go_simp <;> with_reducible rfl
             simp only [Act.put, List.setIfInBounds_toArray]
             dsimp only [List.set_cons_succ, List.set_cons_zero]
             refine tkk 28 67 (v := ?_) ?_ ?_
             rotate_left 1
             ·intro w hSw
              obtain ⟨q0, q1, q2, q3, q4, q5, q6⟩ := hSw
              go_simp <;> with_reducible rfl
             simp only [Act.put, List.setIfInBounds_toArray]
             dsimp only [List.set_cons_succ, List.set_cons_zero]
             refine wpAnyH_ready (rs := [29]) (by kernel_rfl) (by simp) ?_
             refine AllReadyH.cons rfl (fun KK hKK => ?_) AllReadyH.nil
             go_simp
             refine (l1In_any x.i 1 100000 _).mono ?_
             rintro e9 w9 ⟨rfl, rfl⟩
             simp only [hb2]
             go_simp
             refine hKK.out _ _ (HSF.out _ BD.out) (fun hHeld2 => ?_)
             clear hKK KK hHeld
             have hHeld := hHeld2
             clear hHeld2
             refine tkk 30 69 (v := ?_) ?_ ?_
             rotate_left 1
             ·intro w hSw
              obtain ⟨q0, q1, q2, q3, q4, q5, q6⟩ := hSw
              go_simp <;> with_reducible rfl
             simp only [Act.put, List.setIfInBounds_toArray]
             dsimp only [List.set_cons_succ, List.set_cons_zero]
             refine tkk 31 70 (v := ?_) ?_ ?_
             rotate_left 1
             ·intro w hSw
              obtain ⟨q0, q1, q2, q3, q4, q5, q6⟩ := hSw
              go_simp <;> with_reducible rfl
             simp only [Act.put, List.setIfInBounds_toArray]
             dsimp only [List.set_cons_succ, List.set_cons_zero]
             refine tkk 32 71 (v := ?_) ?_ ?_
             rotate_left 1
             ·intro w hSw
              obtain ⟨q0, q1, q2, q3, q4, q5, q6⟩ := hSw
              go_simp <;> with_reducible rfl
             simp only [Act.put, List.setIfInBounds_toArray]
             dsimp only [List.set_cons_succ, List.set_cons_zero]
             refine skk 33 72 ?_
             simp only [Act.put, List.setIfInBounds_toArray]
             dsimp only [List.set_cons_succ, List.set_cons_zero]
             refine skk 34 73 ?_
             simp only [Act.put, List.setIfInBounds_toArray]
             dsimp only [List.set_cons_succ, List.set_cons_zero]
             refine skk 35 74 ?_
             simp only [Act.put, List.setIfInBounds_toArray]
             dsimp only [List.set_cons_succ, List.set_cons_zero]
             refine skk 36 75 ?_
             simp only [Act.put, List.setIfInBounds_toArray]
             dsimp only [List.set_cons_succ, List.set_cons_zero]
             refine tkk 37 76 (v := ?_) ?_ ?_
             rotate_left 1
             ·intro w hSw
              obtain ⟨q0, q1, q2, q3, q4, q5, q6⟩ := hSw
              go_simp <;> with_reducible rfl
             simp only [Act.put, List.setIfInBounds_toArray]
             dsimp only [List.set_cons_succ, List.set_cons_zero]
             refine wpAnyH_done (by kernel_rfl) ?_ _
             go_wp2_with fail
             go_meet
             case rel => exact ⟨by rw [HW.out] <;> rfl, BD⟩
            | true =>
             cases hb3 : resB x.r with
             | false =>
              have HW : Hid ((inB x.c M 3 && sesB x) = false) := by unfold Hid; simp [sesB, hb1, hb2, hb3]
              refine wp_region_held_drew (S := SeIn wr.heap.size x w.heap.size (.slice (some ⟨b2, o2, none⟩) Ss.length sc) pn b2 (o2 + k * 5)) (by kernel_rfl) (HSF.out _ (Below.refl _ _).drew) (fun hHeld => ?_)
              have BD : Hid (Below X.heap.size X X.drew) := (Below.refl _ _).drew
              generalize X.drew = D at BD hHeld ⊢
              refine tkk 0 39 (v := ?_) ?_ ?_
              rotate_left 1
              ·intro w hSw
               obtain ⟨q0, q1, q2, q3, q4, q5, q6⟩ := hSw
               go_simp <;> with_reducible rfl
              simp only [Act.put, List.setIfInBounds_toArray]
              dsimp only [List.set_cons_succ, List.set_cons_zero]
              refine tkk 1 40 (v := ?_) ?_ ?_
              rotate_left 1
              ·intro w hSw
               obtain ⟨q0, q1, q2, q3, q4, q5, q6⟩ := hSw
               go_simp <;> with_reducible rfl
              simp only [Act.put, List.setIfInBounds_toArray]
              dsimp only [List.set_cons_succ, List.set_cons_zero]
              refine wpAnyH_ready (rs := [2]) (by kernel_rfl) (by simp) ?_
              refine AllReadyH.cons rfl (fun KK hKK => ?_) AllReadyH.nil
              go_simp
              refine (l1In_any x.c 1 3 _).mono ?_
              rintro e9 w9 ⟨rfl, rfl⟩
              simp only [hb0]
              go_simp
              refine hKK.out _ _ (HSF.out _ BD.out) (fun hHeld2 => ?_)
              clear hKK KK hHeld
              have hHeld := hHeld2
              clear hHeld2
              refine tkk 3 42 (v := ?_) ?_ ?_
              rotate_left 1
              ·intro w hSw
               obtain ⟨q0, q1, q2, q3, q4, q5, q6⟩ := hSw
               go_simp <;> with_reducible rfl
              simp only [Act.put, List.setIfInBounds_toArray]
              dsimp only [List.set_cons_succ, List.set_cons_zero]
              refine tkk 4 43 (v := ?_) ?_ ?_
              rotate_left 1
              ·intro w hSw
               obtain ⟨q0, q1, q2, q3, q4, q5, q6⟩ := hSw
               go_simp <;> with_reducible rfl
              simp only [Act.put, List.setIfInBounds_toArray]
              dsimp only [List.set_cons_succ, List.set_cons_zero]
              refine tkk 5 44 (v := ?_) ?_ ?_
              rotate_left 1
              ·intro w hSw
               obtain ⟨q0, q1, q2, q3, q4, q5, q6⟩ := hSw
               go_simp <;> with_reducible rfl
              simp only [Act.put, List.setIfInBounds_toArray]
              dsimp only [List.set_cons_succ, List.set_cons_zero]
              refine tkk 6 45 (v := ?_) ?_ ?_
              rotate_left 1
              ·intro w hSw
               obtain ⟨q0, q1, q2, q3, q4, q5, q6⟩ := hSw
               go_simp <;> with_reducible rfl
              simp only [Act.put, List.setIfInBounds_toArray]
              dsimp only [List.set_cons_succ, List.set_cons_zero]
              first | simp only [h00] | simp only [h00'] | skip
              refine tkk 7 46 (v := ?_) ?_ ?_
              rotate_left 1
              ·intro w hSw
               obtain ⟨q0, q1, q2, q3, q4, q5, q6⟩ := hSw
               go_simp <;> with_reducible rfl
              simp only [Act.put, List.setIfInBounds_toArray]
              dsimp only [List.set_cons_succ, List.set_cons_zero]
              refine tkk 8 47 (v := ?_) ?_ ?_
              rotate_left 1
              ·intro w hSw
               obtain ⟨q0, q1, q2, q3, q4, q5, q6⟩ := hSw
               go_simp <;> with_reducible rfl
              simp only [Act.put, List.setIfInBounds_toArray]
              dsimp only [List.set_cons_succ, List.set_cons_zero]
              refine tkk 9 48 (v := ?_) ?_ ?_
              rotate_left 1
              ·intro w hSw
               obtain ⟨q0, q1, q2, q3, q4, q5, q6⟩ := hSw
               go_simp <;> with_reducible rfl
              simp only [Act.put, List.setIfInBounds_toArray]
              dsimp only [List.set_cons_succ, List.set_cons_zero]
              refine tkk 10 49 (v := ?_) ?_ ?_
              rotate_left 1
              ·intro w hSw
               obtain ⟨q0, q1, q2, q3, q4, q5, q6⟩ := hSw
               go_simp <;> with_reducible rfl
              simp only [Act.put, List.setIfInBounds_toArray]
              dsimp only [List.set_cons_succ, List.set_cons_zero]
              refine tkk 11 50 (v := ?_) ?_ ?_
              rotate_left 1
              ·intro w hSw
               obtain ⟨q0, q1, q2, q3, q4, q5, q6⟩ := hSw
               go_simp <;> with_reducible rfl
              simp only [Act.put, List.setIfInBounds_toArray]
              dsimp only [List.set_cons_succ, List.set_cons_zero]
              first | simp only [hsub3] | simp only [hsub] | simp only [hsub2] | skip
              refine tkk 12 51 (v := ?_) ?_ ?_
              rotate_left 1
              ·intro w hSw
               obtain ⟨q0, q1, q2, q3, q4, q5, q6⟩ := hSw
               go_simp <;> with_reducible rfl
              simp only [Act.put, List.setIfInBounds_toArray]
              dsimp only [List.set_cons_succ, List.set_cons_zero]
              refine tkk 13 52 (v := ?_) ?_ ?_
              rotate_left 1
              ·intro w hSw
               obtain ⟨q0, q1, q2, q3, q4, q5, q6⟩ := hSw
               go_simp <;> with_reducible rfl
              simp only [Act.put, List.setIfInBounds_toArray]
              dsimp only [List.set_cons_succ, List.set_cons_zero]
              refine tkk 14 53 (v := ?_) ?_ ?_
              rotate_left 1
              ·intro w hSw
               obtain ⟨q0, q1, q2, q3, q4, q5, q6⟩ := hSw
               go_simp <;> with_reducible rfl
              simp only [Act.put, List.setIfInBounds_toArray]
              dsimp only [List.set_cons_succ, List.set_cons_zero]
              refine tkk 15 54 (v := ?_) ?_ ?_
              rotate_left 1
              ·intro w hSw
               obtain ⟨q0, q1, q2, q3, q4, q5, q6⟩ := hSw
               go_simp <;> with_reducible rfl
              simp only [Act.put, List.setIfInBounds_toArray]
              dsimp only [List.set_cons_succ, List.set_cons_zero]
              refine tkk 16 55 (v := ?_) ?_ ?_
              rotate_left 1
              ·intro w hSw
               obtain ⟨q0, q1, q2, q3, q4, q5, q6⟩ := hSw
               go_simp <;> with_reducible rfl
              simp only [Act.put, List.setIfInBounds_toArray]
              dsimp only [List.set_cons_succ, List.set_cons_zero]
              refine tkk 17 56 (v := ?_) ?_ ?_
              rotate_left 1
              ·intro w hSw
               obtain ⟨q0, q1, q2, q3, q4, q5, q6⟩ := hSw
               go_simp <;> with_reducible rfl
              simp only [Act.put, List.setIfInBounds_toArray]
              dsimp only [List.set_cons_succ, List.set_cons_zero]
              try simp only [hgt]
              refine tkk 18 57 (v := ?_) ?_ ?_
              rotate_left 1
              ·intro w hSw
               obtain ⟨q0, q1, q2, q3, q4, q5, q6⟩ := hSw
               go_simp <;> with_reducible rfl
              simp only [Act.put, List.setIfInBounds_toArray]
              dsimp only [List.set_cons_succ, List.set_cons_zero]
              refine tkk 19 58 (v := ?_) ?_ ?_
              rotate_left 1
              ·intro w hSw
               obtain ⟨q0, q1, q2, q3, q4, q5, q6⟩ := hSw
               go_simp <;> with_reducible rfl
              simp only [Act.put, List.setIfInBounds_toArray]
              dsimp only [List.set_cons_succ, List.set_cons_zero]
              refine tkk 20 59 (v := ?_) ?_ ?_
              rotate_left 1
              ·intro w hSw
               obtain ⟨q0, q1, q2, q3, q4, q5, q6⟩ := hSw
               go_simp <;> with_reducible rfl
              simp only [Act.put, List.setIfInBounds_toArray]
              dsimp only [List.set_cons_succ, List.set_cons_zero]
              refine tkk 21 60 (v := ?_) ?_ ?_
              rotate_left 1
              ·intro w hSw
               obtain ⟨q0, q1, q2, q3, q4, q5, q6⟩ := hSw
               go_simp <;> with_reducible rfl
              simp only [Act.put, List.setIfInBounds_toArray]
              dsimp only [List.set_cons_succ, List.set_cons_zero]
              refine tkk 22 61 (v := ?_) ?_ ?_
              rotate_left 1
              ·intro w hSw
               obtain ⟨q0, q1, q2, q3, q4, q5, q6⟩ := hSw
               go_simp <;> with_reducible rfl
              simp only [Act.put, List.setIfInBounds_toArray]
              dsimp only [List.set_cons_succ, List.set_cons_zero]
              refine wpAnyH_ready (rs := [23]) (by kernel_rfl) (by simp) ?_
              refine AllReadyH.cons rfl (fun KK hKK => ?_) AllReadyH.nil
              go_simp
              refine (l1In_any x.s 1 1000000 _).mono ?_
              rintro e9 w9 ⟨rfl, rfl⟩
              simp only [hb1]
              go_simp
              refine hKK.out _ _ (HSF.out _ BD.out) (fun hHeld2 => ?_)
              clear hKK KK hHeld
              have hHeld := hHeld2
              clear hHeld2
              refine tkk 24 63 (v := ?_) ?_ ?_
              rotate_left 1
              ·intro w hSw
               obtain ⟨q0, q1, q2, q3, q4, q5, q6⟩ := hSw
               go_simp <;> with_reducible rfl
              simp only [Act.put, List.setIfInBounds_toArray]
              dsimp only [List.set_cons_succ, List.set_cons_zero]
              refine tkk 25 64 (v := ?_) ?_ ?_
              rotate_left 1
              ·intro w hSw
               obtain ⟨q0, q1, q2, q3, q4, q5, q6⟩ := hSw
               go_simp <;> with_reducible rfl
              simp only [Act.put, List.setIfInBounds_toArray]
              dsimp only [List.set_cons_succ, List.set_cons_zero]
              refine tkk 26 65 (v := ?_) ?_ ?_
              rotate_left 1
              ·intro w hSw
               obtain ⟨q0, q1, q2, q3, q4, q5, q6⟩ := hSw
               go_simp <;> with_reducible rfl
              simp only [Act.put, List.setIfInBounds_toArray]
              dsimp only [List.set_cons_succ, List.set_cons_zero]
              refine tkk 27 66 (v := ?_) ?_ ?_
              rotate_left 1
              ·intro w hSw
               obtain ⟨q0, q1, q2, q3, q4, q5, q6⟩ := hSw
               go_simp <;> with_reducible rfl
              simp only [Act.put, List.setIfInBounds_toArray]
              dsimp only [List.set_cons_succ, List.set_cons_zero]
              refine tkk 28 67 (v := ?_) ?_ ?_
              rotate_left 1
              ·intro w hSw
               obtain ⟨q0, q1, q2, q3, q4, q5, q6⟩ := hSw
               go_simp <;> with_reducible rfl
              simp only [Act.put, List.setIfInBounds_toArray]
              dsimp only [List.set_cons_succ, List.set_cons_zero]
              refine wpAnyH_ready (rs := [29]) (by kernel_rfl) (by simp) ?_
              refine AllReadyH.cons rfl (fun KK hKK => ?_) AllReadyH.nil
              go_simp
              refine (l1In_any x.i 1 100000 _).mono ?_
              rintro e9 w9 ⟨rfl, rfl⟩
              simp only [hb2]
              go_simp
              refine hKK.out _ _ (HSF.out _ BD.out) (fun hHeld2 => ?_)
              clear hKK KK hHeld
              have hHeld := hHeld2
              clear hHeld2
              refine tkk 30 69 (v := ?_) ?_ ?_
              rotate_left 1
              ·intro w hSw
               obtain ⟨q0, q1, q2, q3, q4, q5, q6⟩ := hSw
               go_simp <;> with_reducible rfl
              simp only [Act.put, List.setIfInBounds_toArray]
              dsimp only [List.set_cons_succ, List.set_cons_zero]
              refine tkk 31 70 (v := ?_) ?_ ?_
              rotate_left 1
              ·intro w hSw
               obtain ⟨q0, q1, q2, q3, q4, q5, q6⟩ := hSw
               go_simp <;> with_reducible rfl
              simp only [Act.put, List.setIfInBounds_toArray]
              dsimp only [List.set_cons_succ, List.set_cons_zero]
              refine tkk 32 71 (v := ?_) ?_ ?_
              rotate_left 1
              ·intro w hSw
               obtain ⟨q0, q1, q2, q3, q4, q5, q6⟩ := hSw
               go_simp <;> with_reducible rfl
              simp only [Act.put, List.setIfInBounds_toArray]
              dsimp only [List.set_cons_succ, List.set_cons_zero]
              refine tkk 33 72 (v := ?_) ?_ ?_
              rotate_left 1
              ·intro w hSw
               obtain ⟨q0, q1, q2, q3, q4, q5, q6⟩ := hSw
               go_simp <;> with_reducible rfl
              simp only [Act.put, List.setIfInBounds_toArray]
              dsimp only [List.set_cons_succ, List.set_cons_zero]
              refine tkk 34 73 (v := ?_) ?_ ?_
              rotate_left 1
              ·intro w hSw
               obtain ⟨q0, q1, q2, q3, q4, q5, q6⟩ := hSw
               go_simp <;> with_reducible rfl
              simp only [Act.put, List.setIfInBounds_toArray]
              dsimp only [List.set_cons_succ, List.set_cons_zero]
              refine wpAnyH_ready (rs := [35]) (by kernel_rfl) (by simp) ?_
              refine AllReadyH.cons rfl (fun KK hKK => ?_) AllReadyH.nil
              go_simp
              refine (specResultOk_any x.r _).mono ?_
              rintro e9 w9 ⟨rfl, b9⟩
              replace BD := Hid.intro (BD.out.trans (b9.mono BD.out.size))
              clear b9
              simp only [hb3]
              go_simp
              refine hKK.out _ _ (HSF.out _ BD.out) (fun hHeld2 => ?_)
              clear hKK KK hHeld
              have hHeld := hHeld2
              clear hHeld2
              refine tkk 36 75 (v := ?_) ?_ ?_
              rotate_left 1
              ·intro w hSw
               obtain ⟨q0, q1, q2, q3, q4, q5, q6⟩ := hSw
               go_simp <;> with_reducible rfl
              simp only [Act.put, List.setIfInBounds_toArray]
              dsimp only [List.set_cons_succ, List.set_cons_zero]
              refine tkk 37 76 (v := ?_) ?_ ?_
              rotate_left 1
              ·intro w hSw
               obtain ⟨q0, q1, q2, q3, q4, q5, q6⟩ := hSw
               go_simp <;> with_reducible rfl
              simp only [Act.put, List.setIfInBounds_toArray]
              dsimp only [List.set_cons_succ, List.set_cons_zero]
              refine wpAnyH_done (by kernel_rfl) ?_ _
              go_wp2_with fail
              go_meet
              case rel => exact ⟨by rw [HW.out] <;> rfl, BD⟩
             | true =>
              have HW : Hid ((inB x.c M 3 && sesB x) = true) := by unfold Hid; simp [sesB, HLE.out, hb1, hb2, hb3]
              refine wp_region_held_drew (S := SeIn wr.heap.size x w.heap.size (.slice (some ⟨b2, o2, none⟩) Ss.length sc) pn b2 (o2 + k * 5)) (by kernel_rfl) (HSF.out _ (Below.refl _ _).drew) (fun hHeld => ?_)
              have BD : Hid (Below X.heap.size X X.drew) := (Below.refl _ _).drew
              generalize X.drew = D at BD hHeld ⊢
              refine tkk 0 39 (v := ?_) ?_ ?_
              rotate_left 1
              ·intro w hSw
               obtain ⟨q0, q1, q2, q3, q4, q5, q6⟩ := hSw
               go_simp <;> with_reducible rfl
              simp only [Act.put, List.setIfInBounds_toArray]
              dsimp only [List.set_cons_succ, List.set_cons_zero]
              refine tkk 1 40 (v := ?_) ?_ ?_
              rotate_left 1
              ·intro w hSw
               obtain ⟨q0, q1, q2, q3, q4, q5, q6⟩ := hSw
               go_simp <;> with_reducible rfl
              simp only [Act.put, List.setIfInBounds_toArray]
              dsimp only [List.set_cons_succ, List.set_cons_zero]
              refine wpAnyH_ready (rs := [2]) (by kernel_rfl) (by simp) ?_
              refine AllReadyH.cons rfl (fun KK hKK => ?_) AllReadyH.nil
              go_simp
              refine (l1In_any x.c 1 3 _).mono ?_
              rintro e9 w9 ⟨rfl, rfl⟩
              simp only [hb0]
              go_simp
              refine hKK.out _ _ (HSF.out _ BD.out) (fun hHeld2 => ?_)
              clear hKK KK hHeld
              have hHeld := hHeld2
              clear hHeld2
              refine tkk 3 42 (v := ?_) ?_ ?_
              rotate_left 1
              ·intro w hSw
               obtain ⟨q0, q1, q2, q3, q4, q5, q6⟩ := hSw
               go_simp <;> with_reducible rfl
              simp only [Act.put, List.setIfInBounds_toArray]
              dsimp only [List.set_cons_succ, List.set_cons_zero]
              refine tkk 4 43 (v := ?_) ?_ ?_
              rotate_left 1
              ·intro w hSw
               obtain ⟨q0, q1, q2, q3, q4, q5, q6⟩ := hSw
               go_simp <;> with_reducible rfl
              simp only [Act.put, List.setIfInBounds_toArray]
              dsimp only [List.set_cons_succ, List.set_cons_zero]
              refine tkk 5 44 (v := ?_) ?_ ?_
              rotate_left 1
              ·intro w hSw
               obtain ⟨q0, q1, q2, q3, q4, q5, q6⟩ := hSw
               go_simp <;> with_reducible rfl
              simp only [Act.put, List.setIfInBounds_toArray]
              dsimp only [List.set_cons_succ, List.set_cons_zero]
              refine tkk 6 45 (v := ?_) ?_ ?_
              rotate_left 1
              ·intro w hSw
               obtain ⟨q0, q1, q2, q3, q4, q5, q6⟩ := hSw
               go_simp <;> with_reducible rfl
              simp only [Act.put, List.setIfInBounds_toArray]
              dsimp only [List.set_cons_succ, List.set_cons_zero]
              first | simp only [h00] | simp only [h00'] | skip
              refine tkk 7 46 (v := ?_) ?_ ?_
              rotate_left 1
              ·intro w hSw
               obtain ⟨q0, q1, q2, q3, q4, q5, q6⟩ := hSw
               go_simp <;> with_reducible rfl
              simp only [Act.put, List.setIfInBounds_toArray]
              dsimp only [List.set_cons_succ, List.set_cons_zero]
              refine tkk 8 47 (v := ?_) ?_ ?_
              rotate_left 1
              ·intro w hSw
               obtain ⟨q0, q1, q2, q3, q4, q5, q6⟩ := hSw
               go_simp <;> with_reducible rfl
              simp only [Act.put, List.setIfInBounds_toArray]
              dsimp only [List.set_cons_succ, List.set_cons_zero]
              refine tkk 9 48 (v := ?_) ?_ ?_
              rotate_left 1
              ·intro w hSw
               obtain ⟨q0, q1, q2, q3, q4, q5, q6⟩ := hSw
               go_simp <;> with_reducible rfl
              simp only [Act.put, List.setIfInBounds_toArray]
              dsimp only [List.set_cons_succ, List.set_cons_zero]
              refine tkk 10 49 (v := ?_) ?_ ?_
              rotate_left 1
              ·intro w hSw
               obtain ⟨q0, q1, q2, q3, q4, q5, q6⟩ := hSw
               go_simp <;> with_reducible rfl
              simp only [Act.put, List.setIfInBounds_toArray]
              dsimp only [List.set_cons_succ, List.set_cons_zero]
              refine tkk 11 50 (v := ?_) ?_ ?_
              rotate_left 1
              ·intro w hSw
               obtain ⟨q0, q1, q2, q3, q4, q5, q6⟩ := hSw
               go_simp <;> with_reducible rfl
              simp only [Act.put, List.setIfInBounds_toArray]
              dsimp only [List.set_cons_succ, List.set_cons_zero]
              first | simp only [hsub3] | simp only [hsub] | simp only [hsub2] | skip
              refine tkk 12 51 (v := ?_) ?_ ?_
              rotate_left 1
              ·intro w hSw
               obtain ⟨q0, q1, q2, q3, q4, q5, q6⟩ := hSw
               go_simp <;> with_reducible rfl
              simp only [Act.put, List.setIfInBounds_toArray]
              dsimp only [List.set_cons_succ, List.set_cons_zero]
              refine tkk 13 52 (v := ?_) ?_ ?_
              rotate_left 1
              ·intro w hSw
               obtain ⟨q0, q1, q2, q3, q4, q5, q6⟩ := hSw
               go_simp <;> with_reducible rfl
              simp only [Act.put, List.setIfInBounds_toArray]
              dsimp only [List.set_cons_succ, List.set_cons_zero]
              refine tkk 14 53 (v := ?_) ?_ ?_
              rotate_left 1
              ·intro w hSw
               obtain ⟨q0, q1, q2, q3, q4, q5, q6⟩ := hSw
               go_simp <;> with_reducible rfl
              simp only [Act.put, List.setIfInBounds_toArray]
              dsimp only [List.set_cons_succ, List.set_cons_zero]
              refine tkk 15 54 (v := ?_) ?_ ?_
              rotate_left 1
              ·intro w hSw
               obtain ⟨q0, q1, q2, q3, q4, q5, q6⟩ := hSw
               go_simp <;> with_reducible rfl
              simp only [Act.put, List.setIfInBounds_toArray]
              dsimp only [List.set_cons_succ, List.set_cons_zero]
              refine tkk 16 55 (v := ?_) ?_ ?_
              rotate_left 1
              ·intro w hSw
               obtain ⟨q0, q1, q2, q3, q4, q5, q6⟩ := hSw
               go_simp <;> with_reducible rfl
              simp only [Act.put, List.setIfInBounds_toArray]
              dsimp only [List.set_cons_succ, List.set_cons_zero]
              refine tkk 17 56 (v := ?_) ?_ ?_
              rotate_left 1
              ·intro w hSw
               obtain ⟨q0, q1, q2, q3, q4, q5, q6⟩ := hSw
               go_simp <;> with_reducible rfl
              simp only [Act.put, List.setIfInBounds_toArray]
              dsimp only [List.set_cons_succ, List.set_cons_zero]
              try simp only [hgt]
              refine tkk 18 57 (v := ?_) ?_ ?_
              rotate_left 1
              ·intro w hSw
               obtain ⟨q0, q1, q2, q3, q4, q5, q6⟩ := hSw
               go_simp <;> with_reducible rfl
              simp only [Act.put, List.setIfInBounds_toArray]
              dsimp only [List.set_cons_succ, List.set_cons_zero]
              refine tkk 19 58 (v := ?_) ?_ ?_
              rotate_left 1
              ·intro w hSw
               obtain ⟨q0, q1, q2, q3, q4, q5, q6⟩ := hSw
               go_simp <;> with_reducible rfl
              simp only [Act.put, List.setIfInBounds_toArray]
              dsimp only [List.set_cons_succ, List.set_cons_zero]
              refine tkk 20 59 (v := ?_) ?_ ?_
              rotate_left 1
              ·intro w hSw
               obtain ⟨q0, q1, q2, q3, q4, q5, q6⟩ := hSw
               go_simp <;> with_reducible rfl
              simp only [Act.put, List.setIfInBounds_toArray]
              dsimp only [List.set_cons_succ, List.set_cons_zero]
              refine tkk 21 60 (v := ?_) ?_ ?_
              rotate_left 1
              ·intro w hSw
               obtain ⟨q0, q1, q2, q3, q4, q5, q6⟩ := hSw
               go_simp <;> with_reducible rfl
              simp only [Act.put, List.setIfInBounds_toArray]
              dsimp only [List.set_cons_succ, List.set_cons_zero]
              refine tkk 22 61 (v := ?_) ?_ ?_
              rotate_left 1
              ·intro w hSw
               obtain ⟨q0, q1, q2, q3, q4, q5, q6⟩ := hSw
               go_simp <;> with_reducible rfl
              simp only [Act.put, List.setIfInBounds_toArray]
              dsimp only [List.set_cons_succ, List.set_cons_zero]
              refine wpAnyH_ready (rs := [23]) (by kernel_rfl) (by simp) ?_
              refine AllReadyH.cons rfl (fun KK hKK => ?_) AllReadyH.nil
              go_simp
              refine (l1In_any x.s 1 1000000 _).mono ?_
              rintro e9 w9 ⟨rfl, rfl⟩
              simp only [hb1]
              go_simp
              refine hKK.out _ _ (HSF.out _ BD.out) (fun hHeld2 => ?_)
              clear hKK KK hHeld
              have hHeld := hHeld2
              clear hHeld2
              refine tkk 24 63 (v := ?_) ?_ ?_
              rotate_left 1
              ·intro w hSw
               obtain ⟨q0, q1, q2, q3, q4, q5, q6⟩ := hSw
               go_simp <;> with_reducible rfl
              simp only [Act.put, List.setIfInBounds_toArray]
              dsimp only [List.set_cons_succ, List.set_cons_zero]
              refine tkk 25 64 (v := ?_) ?_ ?_
              rotate_left 1
              ·intro w hSw
               obtain ⟨q0, q1, q2, q3, q4, q5, q6⟩ := hSw
               go_simp <;> with_reducible rfl
              simp only [Act.put, List.setIfInBounds_toArray]
              dsimp only [List.set_cons_succ, List.set_cons_zero]
              refine tkk 26 65 (v := ?_) ?_ ?_
              rotate_left 1
              ·intro w hSw
               obtain ⟨q0, q1, q2, q3, q4, q5, q6⟩ := hSw
               go_simp <;> with_reducible rfl
              simp only [Act.put, List.setIfInBounds_toArray]
              dsimp only [List.set_cons_succ, List.set_cons_zero]
              refine tkk 27 66 (v := ?_) ?_ ?_
              rotate_left 1
              ·intro w hSw
               obtain ⟨q0, q1, q2, q3, q4, q5, q6⟩ := hSw
               go_simp <;> with_reducible rfl
              simp only [Act.put, List.setIfInBounds_toArray]
              dsimp only [List.set_cons_succ, List.set_cons_zero]
              refine tkk 28 67 (v := ?_) ?_ ?_
              rotate_left 1
              ·intro w hSw
               obtain ⟨q0, q1, q2, q3, q4, q5, q6⟩ := hSw
               go_simp <;> with_reducible rfl
              simp only [Act.put, List.setIfInBounds_toArray]
              dsimp only [List.set_cons_succ, List.set_cons_zero]
              refine wpAnyH_ready (rs := [29]) (by kernel_rfl) (by simp) ?_
              refine AllReadyH.cons rfl (fun KK hKK => ?_) AllReadyH.nil
              go_simp
              refine (l1In_any x.i 1 100000 _).mono ?_
              rintro e9 w9 ⟨rfl, rfl⟩
              simp only [hb2]
              go_simp
              refine hKK.out _ _ (HSF.out _ BD.out) (fun hHeld2 => ?_)
              clear hKK KK hHeld
              have hHeld := hHeld2
              clear hHeld2
              refine tkk 30 69 (v := ?_) ?_ ?_
              rotate_left 1
              ·intro w hSw
               obtain ⟨q0, q1, q2, q3, q4, q5, q6⟩ := hSw
               go_simp <;> with_reducible rfl
              simp only [Act.put, List.setIfInBounds_toArray]
              dsimp only [List.set_cons_succ, List.set_cons_zero]
              refine tkk 31 70 (v := ?_) ?_ ?_
              rotate_left 1
              ·intro w hSw
               obtain ⟨q0, q1, q2, q3, q4, q5, q6⟩ := hSw
               go_simp <;> with_reducible rfl
              simp only [Act.put, List.setIfInBounds_toArray]
              dsimp only [List.set_cons_succ, List.set_cons_zero]
              refine tkk 32 71 (v := ?_) ?_ ?_
              rotate_left 1
              ·intro w hSw
               obtain ⟨q0, q1, q2, q3, q4, q5, q6⟩ := hSw
               go_simp <;> with_reducible rfl
              simp only [Act.put, List.setIfInBounds_toArray]
              dsimp only [List.set_cons_succ, List.set_cons_zero]
              refine tkk 33 72 (v := ?_) ?_ ?_
              rotate_left 1
              ·intro w hSw
               obtain ⟨q0, q1, q2, q3, q4, q5, q6⟩ := hSw
               go_simp <;> with_reducible rfl
              simp only [Act.put, List.setIfInBounds_toArray]
              dsimp only [List.set_cons_succ, List.set_cons_zero]
              refine tkk 34 73 (v := ?_) ?_ ?_
              rotate_left 1
              ·intro w hSw
               obtain ⟨q0, q1, q2, q3, q4, q5, q6⟩ := hSw
               go_simp <;> with_reducible rfl
              simp only [Act.put, List.setIfInBounds_toArray]
              dsimp only [List.set_cons_succ, List.set_cons_zero]
              refine wpAnyH_ready (rs := [35]) (by kernel_rfl) (by simp) ?_
              refine AllReadyH.cons rfl (fun KK hKK => ?_) AllReadyH.nil
              go_simp
              refine (specResultOk_any x.r _).mono ?_
              rintro e9 w9 ⟨rfl, b9⟩
              replace BD := Hid.intro (BD.out.trans (b9.mono BD.out.size))
              clear b9
              simp only [hb3]
              go_simp
              refine hKK.out _ _ (HSF.out _ BD.out) (fun hHeld2 => ?_)
              clear hKK KK hHeld
              have hHeld := hHeld2
              clear hHeld2
              refine tkk 36 75 (v := ?_) ?_ ?_
              rotate_left 1
              ·intro w hSw
               obtain ⟨q0, q1, q2, q3, q4, q5, q6⟩ := hSw
               go_simp <;> with_reducible rfl
              simp only [Act.put, List.setIfInBounds_toArray]
              dsimp only [List.set_cons_succ, List.set_cons_zero]
              refine tkk 37 76 (v := ?_) ?_ ?_
              rotate_left 1
              ·intro w hSw
               obtain ⟨q0, q1, q2, q3, q4, q5, q6⟩ := hSw
               go_simp <;> with_reducible rfl
              simp only [Act.put, List.setIfInBounds_toArray]
              dsimp only [List.set_cons_succ, List.set_cons_zero]
              refine wpAnyH_done (by kernel_rfl) ?_ _
              go_wp2_with fail
              go_meet
              case rel => exact ⟨by rw [HW.out] <;> rfl, BD⟩
       case rest =>
       obtain ⟨rfl, HBC⟩ := hcut
       have HBF : Hid (Below w2.heap.size w2 wc) := HBX.out.trans (HBC.out.mono (by omega))
       have c5 := keepC HBF.out hz2 C1.out
       cases hall : (inB x.c M 3 && sesB x) with
       | false =>
        have HFF : Hid (ans = false) := by unfold Hid; rw [HJ.out, HMA.out, HST.out, hall]; rfl
        have HBZ := Hid.intro (HB2.out.trans (HBF.out.mono HB2.out.size))
        go_wp2_with fail
        go_ret
        exact ⟨ret_bool HFF.out.symm, HBZ.out⟩
       | true =>
        have HFF : Hid (ans = sessFrom (aheadC Ss (j + 1)) (Ss.drop (j + 1))) := by unfold Hid; rw [HJ.out, HMA.out, HST.out, hall]; rfl
        have HM2 : Hid (1 ≤ aheadC Ss (j + 1)) := by
         have h1 := HM1.out
         have h2 : inB x.c M 3 = true := by
          cases h3 : inB x.c M 3 with
          | true => rfl
          | false => rw [h3] at hall; cases hall
         have h4 := inB_of' h2
         unfold Hid; rw [HSU.out]; omega
        go_wp2_with fail
        go_roundw
        case rel => exact ⟨j + 1, by go_num, by omega, HFF, HM2, HBF⟩
        case measure => simp [intOf]; omega
      ·obtain rfl : j = Ss.length := by omega
       have HFF : Hid (ans = true) := by unfold Hid; rw [HJ.out, sessFrom_end]
       have HBZ := Hid.intro (HB2.out.trans (HBW.out.mono HB2.out.size))
       go_wp2_with fail
       go_ret
       exact ⟨ret_bool HFF.out.symm, HBZ.out⟩
    ·have h3' : (3 : Int) < (Ss.length : Int) := by omega
     have HFF : Hid (ans = false) := by unfold Hid; rw [HF0.out, sessFrom_long h3]
     go_wp2_with fail
     go_ret
     exact ⟨ret_bool HFF.out.symm, HB2.out⟩
end Go.Proofs.YtknckbedddeijaaGreat
