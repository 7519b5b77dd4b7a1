/- FnExactShowTenant. -/
import Derived.Test.YtjfiaoebmdelpaaXShowM
import Derived.Test.YtjfiaoebmdelpaaXShowS
import Derived.Test.YtjfiaoebmdelpaaPReg
import Derived.Deep.RegionHeld3
import Derived.Deep.Cut
namespace Go.Proofs.Ytjfiaoebmdelpaa
open Go.RowKit
set_option linter.unusedVariables false
set_option maxRecDepth 100000 in
set_option maxHeartbeats 8000000 in
theorem showTenant_law (t : Ten) (w : World) (hr : TenR w w.heap.size t) (hw : TenW t) :
    Calls Try.prog 3 #[t.v] w fun e w' => e = .returned (.bool true) ∧ Below w.heap.size w w' := by
  have HR := Hid.intro hr
  have HW := Hid.intro hw
  clear hr hw
  go_enter Try.func3, Try.ntmps3
  go_wp2_with fail
  obtain ⟨U, hU, bU, zU, kc, qc⟩ := boxed w t.arr 28
  try simp only [hU]
  have HA : Hid (TenR U w.heap.size t) := HR.out.kept bU
  have HB := Hid.intro bU
  have hzu : w.heap.size < U.heap.size := by omega
  have HK := Hid.intro kc
  clear hU bU zU kc qc HR
  refine (szTenant_any t w.heap.size _ U (Nat.le_of_lt hzu) HA.out HW.out (by omega) (by omega)).mono ?_
  rintro e w1 ⟨⟨s0, rfl, HN⟩, bb⟩
  replace HA := Hid.intro (HA.out.kept (bb.mono (Nat.le_of_lt hzu)))
  replace HB := Hid.intro (HB.out.trans (bb.mono HB.out.size))
  replace HK := Hid.intro (keepC bb hzu HK.out)
  have z1 : w.heap.size < w1.heap.size := by have := bb.size; omega
  clear bb hzu
  by_cases hneg0 : s0 < 0
  · go_wp2
    go_ret
    exact ⟨rfl, HB.out⟩
  · have HL : Hid (TenL t) := HN.out (by omega)
    clear HN
    have kk := HK.out
    go_wp2_with fail
    clear kk
    refine (toTenant_any t w.heap.size w1 (Nat.le_of_lt z1) HA.out HL.out).mono ?_
    rintro e y0 ⟨t9, rfl, o9, e9, b9⟩
    replace HA := Hid.intro (HA.out.kept (b9.mono (Nat.le_of_lt z1)))
    replace HB := Hid.intro (HB.out.trans (b9.mono HB.out.size))
    replace HK := Hid.intro (keepC b9 z1 HK.out)
    have HO9 := Hid.intro o9
    have HE9 := Hid.intro e9
    have HWM := Hid.intro (HW.out.of_key e9)
    have z2 : w.heap.size < y0.heap.size := by have := b9.size; omega
    clear b9 o9 e9
    have kk := HK.out
    go_wp2_with fail
    clear kk
    refine (specShowTenant_any t9 y0.heap.size y0 (Nat.le_refl _) HO9.out.rowAll HWM.out).mono ?_
    rw [HE9.out]
    rintro e z ⟨rfl, bz⟩
    replace HA := Hid.intro (HA.out.kept (bz.mono (Nat.le_of_lt z2)))
    replace HB := Hid.intro (HB.out.trans (bz.mono HB.out.size))
    replace HK := Hid.intro (keepC bz z2 HK.out)
    have z3 : w.heap.size < z.heap.size := by have := bz.size; omega
    clear bz HO9 HE9 HWM
    have kk := HK.out
    go_wp2_with fail
    clear kk
    refine (toTenant_any t w.heap.size z (Nat.le_of_lt z3) HA.out HL.out).mono ?_
    rintro e t0 ⟨s, rfl, o0, e0, b0⟩
    replace HA := Hid.intro (HA.out.kept (b0.mono (Nat.le_of_lt z3)))
    replace HB := Hid.intro (HB.out.trans (b0.mono HB.out.size))
    replace HK := Hid.intro (keepC b0 z3 HK.out)
    have HO0 := Hid.intro o0
    have HE0 := Hid.intro e0
    have HWM := Hid.intro (HW.out.of_key e0)
    have z4 : w.heap.size < t0.heap.size := by have := b0.size; omega
    clear b0 o0 e0
    have kk := HK.out
    go_upto_region 7 with fail
    clear kk
    obtain ⟨X0, hX, bX, zX, kX, fX⟩ := boxed t0 s.arr 37
    try simp only [hX]
    replace HA := Hid.intro (HA.out.kept (bX.mono (Nat.le_of_lt z4)))
    replace HB := Hid.intro (HB.out.trans (bX.mono HB.out.size))
    replace HK := Hid.intro (keepC bX z4 HK.out)
    have HX := Hid.intro kX
    have zx : t0.heap.size < X0.heap.size := by omega
    replace HO0 := Hid.intro (HO0.out.kept bX)
    clear hX bX zX kX fX
    have kk0 := HX.out
    go_wp2_with fail
    clear kk0
    refine (implShowTenant_any s X0.heap.size X0 (Nat.le_refl _) HO0.out.rowAll HWM.out).mono ?_
    rw [HE0.out]
    rintro e g ⟨rfl, bg⟩
    replace HA := Hid.intro (HA.out.kept (bg.mono (by omega)))
    replace HB := Hid.intro (HB.out.trans (bg.mono HB.out.size))
    replace HK := Hid.intro (keepC bg (by omega) HK.out)
    replace HX := Hid.intro (keepC bg zx HX.out)
    replace HO0 := Hid.intro (HO0.out.kept bg)
    have z5 : w.heap.size < g.heap.size := by have := bg.size; omega
    have z6 : t0.heap.size < g.heap.size := by have := bg.size; omega
    clear bg
    have hne0 : ((shTen t.key).toList != (shTen t.key).toList) = false := by simp
    generalize shTen t.key = rs at hne0 ⊢
    go_upto_region 10 with fail
    have HS : Hid (∀ y, Below g.heap.size g y → (∀ o, y.cell? ⟨t0.heap.size, o, none⟩ = s.arr[o]?) ∧ (∀ o, y.cell? ⟨w.heap.size, o, none⟩ = t.arr[o]?)) := fun y hy => ⟨keepC hy z6 HX.out, keepC hy z5 HK.out⟩
    refine wp_region_held_drew (S := fun y => (∀ o, y.cell? ⟨t0.heap.size, o, none⟩ = s.arr[o]?) ∧ (∀ o, y.cell? ⟨w.heap.size, o, none⟩ = t.arr[o]?)) (by kernel_rfl) (HS.out _ (Below.refl _ _).drew) (fun hHeld => ?_)
    have BD : Hid (Below g.heap.size g g.drew) := (Below.refl _ _).drew
    generalize g.drew = D at BD hHeld ⊢
    refine take1 (i := 0) (d := some 22) (v := ?_) rfl rfl (by kernel_rfl) (by kernel_rfl) (by kernel_rfl) (fun _ _ _ h => h) (Or.inl ⟨by rfl, ?_⟩) (by assumption) ?_
    rotate_left 1
    · intro w hSw
      obtain ⟨q0, q1⟩ := hSw
      go_simp <;> with_reducible rfl
    simp only [Act.put, List.setIfInBounds_toArray]
    dsimp only [List.set_cons_succ, List.set_cons_zero]
    refine take1 (i := 1) (d := some 23) (v := ?_) rfl rfl (by kernel_rfl) (by kernel_rfl) (by kernel_rfl) (fun _ _ _ h => h) (Or.inl ⟨by rfl, ?_⟩) (by assumption) ?_
    rotate_left 1
    · intro w hSw
      obtain ⟨q0, q1⟩ := hSw
      go_simp <;> with_reducible rfl
    simp only [Act.put, List.setIfInBounds_toArray]
    dsimp only [List.set_cons_succ, List.set_cons_zero]
    refine wpAnyH_ready (rs := [2]) (by kernel_rfl) (by simp) ?_
    refine AllReadyH.cons rfl (fun KK hKK => ?_) AllReadyH.nil
    go_simp
    refine (toTenant_any t w.heap.size D (by have := BD.out.size; omega) (HA.out.kept (BD.out.mono (by omega))) HL.out).mono ?_
    rintro e t1 ⟨s1, rfl, o1, e1, b1⟩
    have HO1 := Hid.intro o1
    have HE1 := Hid.intro e1
    have B1 : Hid (Below g.heap.size g t1) := BD.out.trans (b1.mono BD.out.size)
    clear o1 e1 b1
    go_simp
    refine hKK.out _ _ (HS.out _ B1.out) (fun hHeld2 => ?_)
    clear hKK KK hHeld
    have hHeld := hHeld2
    clear hHeld2
    refine wpAnyH_ready (rs := [3]) (by kernel_rfl) (by simp) ?_
    refine AllReadyH.cons rfl (fun KK hKK => ?_) AllReadyH.nil
    go_simp
    refine (eqTenant_any s s1 t1.heap.size t1 (Nat.le_refl _) (HO0.out.kept B1.out).rowAll HO1.out.rowAll (by rw [HE0.out, HE1.out])).mono ?_
    rintro e t2 ⟨rfl, b2⟩
    have B2 : Hid (Below g.heap.size g t2) := B1.out.trans (b2.mono B1.out.size)
    clear b2
    go_simp
    refine hKK.out _ _ (HS.out _ B2.out) (fun hHeld2 => ?_)
    clear hKK KK hHeld
    have hHeld := hHeld2
    clear hHeld2
    refine take1 (i := 4) (d := some 26) (v := ?_) rfl rfl (by kernel_rfl) (by kernel_rfl) (by kernel_rfl) (fun _ _ _ h => h) (Or.inl ⟨by rfl, ?_⟩) (by assumption) ?_
    rotate_left 1
    · intro w hSw
      obtain ⟨q0, q1⟩ := hSw
      go_simp <;> with_reducible rfl
    simp only [Act.put, List.setIfInBounds_toArray]
    dsimp only [List.set_cons_succ, List.set_cons_zero]
    refine wpAnyH_done (by kernel_rfl) ?_ _
    have HBE := Hid.intro (HB.out.trans (B2.out.mono HB.out.size))
    clear hHeld HS
    go_wp2_with fail
    go_ret
    exact ⟨rfl, HBE.out⟩
end Go.Proofs.Ytjfiaoebmdelpaa
