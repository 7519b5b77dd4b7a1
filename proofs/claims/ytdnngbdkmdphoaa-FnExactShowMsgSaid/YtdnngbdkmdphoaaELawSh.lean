/- The law ShowMsg. -/
import Derived.Test.YtdnngbdkmdphoaaELaw
import Derived.Test.YtdnngbdkmdphoaaEShowS
import Derived.Test.YtdnngbdkmdphoaaEShowI
namespace Go.Proofs.Ytdnngbdkmdphoaa
open Go.RowKit
set_option linter.unusedVariables false
set_option maxRecDepth 100000 in
set_option maxHeartbeats 8000000 in
theorem showMsg_law (a : Ms) (v : Value) (w : World) (hr : Row enE w w.heap.size v a.es) (hw : MsW a) :
    Calls Try.prog 4 #[msV a v] w fun e w' => e = .returned (.bool true) ∧ Below w.heap.size w w' := by
  obtain ⟨va, vc, rfl, _, _⟩ := hr.slice
  have HA := Hid.intro hr
  have HW := Hid.intro hw
  clear hr hw
  go_enter Try.func4, Try.ntmps4
  go_wp2_with fail
  obtain ⟨W, hW, bW, zW, c1, f1⟩ := boxed w (msA a (.slice va a.es.length vc)) 24
  simp only [hW]
  have HB := Hid.intro bW
  replace HA := Hid.intro (HA.out.kept bW)
  have z0 : w.heap.size < W.heap.size := by omega
  clear hW f1 bW zW
  refine (szMsg_any a (.slice va a.es.length vc) w.heap.size 1048576 W (by omega) HA.out HW.out (by omega) (by omega)).mono ?_
  rintro e w1 ⟨⟨n, rfl, hn, hS⟩, b1⟩
  have z1 : w.heap.size < w1.heap.size := by have := b1.size; omega
  replace HA := Hid.intro (HA.out.kept (b1.mono (by omega)))
  replace HB := Hid.intro (HB.out.trans (b1.mono (by omega)))
  have HK := Hid.intro (keepC b1 z0 c1)
  clear b1 c1
  by_cases hneg : n < 0
  · have kk := HK.out
    go_wp2
    go_ret
    exact ⟨rfl, HB.out⟩
  · have hS2 := hS.out (by omega)
    have HL : Hid (a.es.length ≤ 1048576) := by unfold Hid; omega
    have HD : Hid (a.d.size ≤ 1048576) := by unfold Hid; omega
    clear hS hS2 hn
    have kk := HK.out
    go_wp2_with fail
    clear kk
    refine (toMsg_any a (.slice va a.es.length vc) w.heap.size w1 (Nat.le_of_lt z1) HA.out HL.out).mono ?_
    rintro e w2 ⟨v2, rfl, o2, b2⟩
    replace HA := Hid.intro (HA.out.kept (b2.mono (Nat.le_of_lt z1)))
    replace HB := Hid.intro (HB.out.trans (b2.mono HB.out.size))
    replace HK := Hid.intro (keepC b2 z1 HK.out)
    have HO2 := Hid.intro o2
    have z2 : w.heap.size < w2.heap.size := by have := b2.size; omega
    clear b2 o2
    have kk := HK.out
    go_wp2_with fail
    clear kk
    refine (specShowMsg_any a v2 w2.heap.size w2 (Nat.le_refl _) HO2.out.rowAll (by have := HL.out; omega)).mono ?_
    rintro e z ⟨rfl, bz⟩
    replace HA := Hid.intro (HA.out.kept (bz.mono (Nat.le_of_lt z2)))
    replace HB := Hid.intro (HB.out.trans (bz.mono HB.out.size))
    replace HK := Hid.intro (keepC bz z2 HK.out)
    have z3 : w.heap.size < z.heap.size := by have := bz.size; omega
    clear bz HO2
    have kk := HK.out
    go_wp2_with fail
    clear kk
    refine (toMsg_any a (.slice va a.es.length vc) w.heap.size z (Nat.le_of_lt z3) HA.out HL.out).mono ?_
    rintro e t0 ⟨v0, rfl, o0, b0⟩
    obtain ⟨ya, yc, rfl⟩ := o0.slice
    replace HA := Hid.intro (HA.out.kept (b0.mono (Nat.le_of_lt z3)))
    replace HB := Hid.intro (HB.out.trans (b0.mono HB.out.size))
    replace HK := Hid.intro (keepC b0 z3 HK.out)
    have HO0 := Hid.intro o0
    have z4 : w.heap.size < t0.heap.size := by have := b0.size; omega
    clear b0 o0
    have kk := HK.out
    go_upto_region 7 with fail
    clear kk
    obtain ⟨X0, hX, bX, zX, kX, fX⟩ := boxed t0 (msA a (.slice ya a.es.length yc)) 29
    try simp only [hX]
    replace HA := Hid.intro (HA.out.kept (bX.mono (Nat.le_of_lt z4)))
    replace HB := Hid.intro (HB.out.trans (bX.mono HB.out.size))
    replace HK := Hid.intro (keepC bX z4 HK.out)
    have HX := Hid.intro kX
    have zx : t0.heap.size < X0.heap.size := by omega
    replace HO0 := Hid.intro (HO0.out.kept bX)
    clear hX bX zX kX fX
    have kk0 := HX.out
    go_wp2_with fail
    clear kk0
    refine (implShowMsg_any a (.slice ya a.es.length yc) X0.heap.size X0 (Nat.le_refl _) HO0.out.rowAll (by have := HL.out; omega)).mono ?_
    rintro e g ⟨rfl, bg⟩
    replace HA := Hid.intro (HA.out.kept (bg.mono (by omega)))
    replace HB := Hid.intro (HB.out.trans (bg.mono HB.out.size))
    replace HK := Hid.intro (keepC bg (by omega) HK.out)
    replace HX := Hid.intro (keepC bg zx HX.out)
    replace HO0 := Hid.intro (HO0.out.kept bg)
    have z5 : w.heap.size < g.heap.size := by have := bg.size; omega
    have z6 : t0.heap.size < g.heap.size := by have := bg.size; omega
    clear bg
    have hne0 : ((shMs a).toList == (shMs a).toList) = true := by simp
    go_upto_region 10 with fail
    have HS : Hid (∀ y, Below g.heap.size g y → (∀ o, y.cell? ⟨t0.heap.size, o, none⟩ = (msA a (.slice ya a.es.length yc))[o]?) ∧ (∀ o, y.cell? ⟨w.heap.size, o, none⟩ = (msA a (.slice va a.es.length vc))[o]?)) := fun y hy => ⟨keepC hy z6 HX.out, keepC hy z5 HK.out⟩
    refine wp_region_held_drew (S := fun y => (∀ o, y.cell? ⟨t0.heap.size, o, none⟩ = (msA a (.slice ya a.es.length yc))[o]?) ∧ (∀ o, y.cell? ⟨w.heap.size, o, none⟩ = (msA a (.slice va a.es.length vc))[o]?)) (by kernel_rfl) (HS.out _ (Below.refl _ _).drew) (fun hHeld => ?_)
    have BD : Hid (Below g.heap.size g g.drew) := (Below.refl _ _).drew
    generalize g.drew = D at BD hHeld ⊢
    refine take1 (i := 0) (d := some 22) (v := ?_) rfl rfl (by kernel_rfl) (by kernel_rfl) (by kernel_rfl) (fun _ _ _ h => h) (Or.inl ⟨by rfl, ?_⟩) (by assumption) ?_
    rotate_left 1
    · intro w hSw
      obtain ⟨q0, q1⟩ := hSw
      go_simp <;> with_reducible rfl
    simp only [Act.put, List.setIfInBounds_toArray]
    dsimp only [List.set_cons_succ, List.set_cons_zero]
    refine take1 (i := 1) (d := some 23) (v := ?_) rfl rfl (by kernel_rfl) (by kernel_rfl) (by kernel_rfl) (fun _ _ _ h => h) (Or.inl ⟨by rfl, ?_⟩) (by assumption) ?_
    rotate_left 1
    · intro w hSw
      obtain ⟨q0, q1⟩ := hSw
      go_simp <;> with_reducible rfl
    simp only [Act.put, List.setIfInBounds_toArray]
    dsimp only [List.set_cons_succ, List.set_cons_zero]
    refine wpAnyH_ready (rs := [2]) (by kernel_rfl) (by simp) ?_
    refine AllReadyH.cons rfl (fun KK hKK => ?_) AllReadyH.nil
    go_simp
    refine (toMsg_any a (.slice va a.es.length vc) w.heap.size D (by have := BD.out.size; omega) (HA.out.kept (BD.out.mono (by omega))) HL.out).mono ?_
    rintro e t1 ⟨v1, rfl, o1, b1⟩
    have HO1 := Hid.intro o1
    have B1 : Hid (Below g.heap.size g t1) := BD.out.trans (b1.mono BD.out.size)
    clear o1 b1
    go_simp
    refine hKK.out _ _ (HS.out _ B1.out) (fun hHeld2 => ?_)
    clear hKK KK hHeld
    have hHeld := hHeld2
    clear hHeld2
    refine wpAnyH_ready (rs := [3]) (by kernel_rfl) (by simp) ?_
    refine AllReadyH.cons rfl (fun KK hKK => ?_) AllReadyH.nil
    go_simp
    refine (eqMsg_any a (.slice ya a.es.length yc) v1 t1.heap.size t1 (Nat.le_refl _) (HO0.out.kept B1.out).rowAll HO1.out.rowAll).mono ?_
    rintro e t2 ⟨rfl, b2⟩
    have B2 : Hid (Below g.heap.size g t2) := B1.out.trans (b2.mono B1.out.size)
    clear b2
    go_simp
    refine hKK.out _ _ (HS.out _ B2.out) (fun hHeld2 => ?_)
    clear hKK KK hHeld
    have hHeld := hHeld2
    clear hHeld2
    refine take1 (i := 4) (d := some 26) (v := ?_) rfl rfl (by kernel_rfl) (by kernel_rfl) (by kernel_rfl) (fun _ _ _ h => h) (Or.inl ⟨by rfl, ?_⟩) (by assumption) ?_
    rotate_left 1
    · intro w hSw
      obtain ⟨q0, q1⟩ := hSw
      go_simp <;> with_reducible rfl
    simp only [Act.put, List.setIfInBounds_toArray]
    dsimp only [List.set_cons_succ, List.set_cons_zero]
    refine wpAnyH_done (by kernel_rfl) ?_ _
    have HBE := Hid.intro (HB.out.trans (B2.out.mono HB.out.size))
    clear hHeld HS
    go_wp2_with fail
    go_ret
    exact ⟨rfl, HBE.out⟩
end Go.Proofs.Ytdnngbdkmdphoaa
