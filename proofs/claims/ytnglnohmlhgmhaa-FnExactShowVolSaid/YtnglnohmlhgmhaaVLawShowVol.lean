/- FnExactShowVol. -/
import Derived.Test.YtnglnohmlhgmhaaTSpecVol
import Derived.Test.YtnglnohmlhgmhaaVLawD
import Derived.Test.YtnglnohmlhgmhaaPReg
import Derived.Deep.RegionHeld3
import Derived.Deep.Cut
namespace Go.Proofs.Ytnglnohmlhgmhaa
open Go.RowKit
set_option linter.unusedVariables false
set_option maxRecDepth 100000 in
set_option maxHeartbeats 8000000 in
theorem showVol_law (next : Int) (u : Value) (L : List Np) (w : World) (hr : VolR w w.heap.size u L) (hw : ∀ p ∈ L, NdW p.n) :
    Calls Try.prog 3 #[volV next u] w fun e w' => e = .returned (.bool true) ∧ Below w.heap.size w w' := by
  have HR := Hid.intro hr
  have HW := Hid.intro hw
  clear hr hw
  go_enter Try.func3, Try.ntmps3
  go_wp2_with fail
  obtain ⟨U, hU, bU, zU, kc, qc⟩ := boxed w #[.int .i64 next, u] 24
  try simp only [hU]
  have HA : Hid (VolR U w.heap.size u L) := HR.out.kept bU
  have HB := Hid.intro bU
  have hzu : w.heap.size < U.heap.size := by omega
  have HK := Hid.intro kc
  clear hU bU zU kc qc HR
  refine (szVol_any next L u w.heap.size _ U (Nat.le_of_lt hzu) HA.out (fun p hp => (HW.out p hp).1) (by omega) (by omega)).mono ?_
  rintro e w1 ⟨⟨s0, rfl, hn, hnm⟩, bb⟩
  replace HA := Hid.intro (HA.out.kept (bb.mono (Nat.le_of_lt hzu)))
  replace HB := Hid.intro (HB.out.trans (bb.mono HB.out.size))
  replace HK := Hid.intro (keepC bb hzu HK.out)
  have gs0 := hn.1
  have HN := Hid.intro hn.2.2
  have HNM := Hid.intro hnm
  have z1 : w.heap.size < w1.heap.size := by have := bb.size; omega
  clear bb hn hnm hzu
  by_cases hneg0 : s0 < 0
  · go_wp2
    go_ret
    exact ⟨rfl, HB.out⟩
  · have HL : Hid (L.length ≤ 1048576) := by have := HN.out (by omega); unfold Hid; omega
    have HNL := Hid.intro (HNM.out (by omega))
    clear HN HNM
    have kk := HK.out
    go_wp2_with fail
    clear kk
    refine (toVol_any next L u w.heap.size w1 (Nat.le_of_lt z1) HA.out HL.out HNL.out).mono ?_
    rintro e y0 ⟨a9, c9, M, rfl, o9, e9, b9⟩
    replace HA := Hid.intro (HA.out.kept (b9.mono (Nat.le_of_lt z1)))
    replace HB := Hid.intro (HB.out.trans (b9.mono HB.out.size))
    replace HK := Hid.intro (keepC b9 z1 HK.out)
    have HO9 := Hid.intro o9
    have HE9 := Hid.intro e9
    have HWM : Hid (∀ p ∈ M, NdW p.n) := fun p hp => by
      have h1 : p.n ∈ M.map Np.n := List.mem_map_of_mem hp
      rw [e9] at h1
      obtain ⟨p', hp', e⟩ := List.mem_map.1 h1
      rw [← e]
      exact HW.out p' hp'
    have z2 : w.heap.size < y0.heap.size := by have := b9.size; omega
    have hlM : M.length = L.length := by have := congrArg List.length e9; simpa using this
    clear b9 o9 e9
    have kk := HK.out
    go_wp2_with fail
    clear kk
    refine (specShowVol_any next M _ y0.heap.size y0 (Nat.le_refl _) HO9.out.rowAll (fun p hp => (HWM.out p hp).1)).mono ?_
    rw [HE9.out]
    rintro e z ⟨rfl, bz⟩
    replace HA := Hid.intro (HA.out.kept (bz.mono (Nat.le_of_lt z2)))
    replace HB := Hid.intro (HB.out.trans (bz.mono HB.out.size))
    replace HK := Hid.intro (keepC bz z2 HK.out)
    have z3 : w.heap.size < z.heap.size := by have := bz.size; omega
    clear bz HO9 HE9 HWM hlM
    have kk := HK.out
    go_wp2_with fail
    clear kk
    refine (toVol_any next L u w.heap.size z (Nat.le_of_lt z3) HA.out HL.out HNL.out).mono ?_
    rintro e t0 ⟨a0, c0, M2, rfl, o0, e0, b0⟩
    replace HA := Hid.intro (HA.out.kept (b0.mono (Nat.le_of_lt z3)))
    replace HB := Hid.intro (HB.out.trans (b0.mono HB.out.size))
    replace HK := Hid.intro (keepC b0 z3 HK.out)
    have HO0 := Hid.intro o0
    have HE0 := Hid.intro e0
    have HWM : Hid (∀ p ∈ M2, NdW p.n) := fun p hp => by
      have h1 : p.n ∈ M2.map Np.n := List.mem_map_of_mem hp
      rw [e0] at h1
      obtain ⟨p', hp', e⟩ := List.mem_map.1 h1
      rw [← e]
      exact HW.out p' hp'
    have z4 : w.heap.size < t0.heap.size := by have := b0.size; omega
    clear b0 o0 e0
    have kk := HK.out
    go_upto_region 7 with fail
    clear kk
    obtain ⟨X0, hX, bX, zX, kX, fX⟩ := boxed t0 #[.int .i64 next, .slice a0 L.length c0] 29
    try simp only [hX]
    replace HA := Hid.intro (HA.out.kept (bX.mono (Nat.le_of_lt z4)))
    replace HB := Hid.intro (HB.out.trans (bX.mono HB.out.size))
    replace HK := Hid.intro (keepC bX z4 HK.out)
    have HX := Hid.intro kX
    have zx : t0.heap.size < X0.heap.size := by omega
    replace HO0 := Hid.intro (HO0.out.kept bX)
    clear hX bX zX kX fX
    have kk0 := HX.out
    go_wp2_with fail
    clear kk0
    refine (implShowVol_any next M2 _ X0.heap.size X0 (Nat.le_refl _) HO0.out.rowAll HWM.out).mono ?_
    rw [HE0.out]
    rintro e g ⟨rfl, bg⟩
    replace HA := Hid.intro (HA.out.kept (bg.mono (by omega)))
    replace HB := Hid.intro (HB.out.trans (bg.mono HB.out.size))
    replace HK := Hid.intro (keepC bg (by omega) HK.out)
    replace HX := Hid.intro (keepC bg zx HX.out)
    replace HO0 := Hid.intro (HO0.out.kept bg)
    have z5 : w.heap.size < g.heap.size := by have := bg.size; omega
    have z6 : t0.heap.size < g.heap.size := by have := bg.size; omega
    clear bg
    have hne0 : ((shV next (L.map Np.n)).toList != (shV next (L.map Np.n)).toList) = false := by simp
    go_upto_region 10 with fail
    have HS : Hid (∀ y, Below g.heap.size g y → (∀ o, y.cell? ⟨t0.heap.size, o, none⟩ = (#[.int .i64 next, .slice a0 L.length c0] : Array Value)[o]?) ∧ (∀ o, y.cell? ⟨w.heap.size, o, none⟩ = (#[.int .i64 next, u] : Array Value)[o]?)) := fun y hy => ⟨keepC hy z6 HX.out, keepC hy z5 HK.out⟩
    refine wp_region_held_drew (S := fun y => (∀ o, y.cell? ⟨t0.heap.size, o, none⟩ = (#[.int .i64 next, .slice a0 L.length c0] : Array Value)[o]?) ∧ (∀ o, y.cell? ⟨w.heap.size, o, none⟩ = (#[.int .i64 next, u] : Array Value)[o]?)) (by kernel_rfl) (HS.out _ (Below.refl _ _).drew) (fun hHeld => ?_)
    have BD : Hid (Below g.heap.size g g.drew) := (Below.refl _ _).drew
    generalize g.drew = D at BD hHeld ⊢
    refine take1 (i := 0) (d := some 22) (v := ?_) rfl rfl (by kernel_rfl) (by kernel_rfl) (by kernel_rfl) (fun _ _ _ h => h) (Or.inl ⟨by rfl, ?_⟩) (by assumption) ?_
    rotate_left 1
    · intro w hSw
      obtain ⟨q0, q1⟩ := hSw
      go_simp <;> with_reducible rfl
    simp only [Act.put, List.setIfInBounds_toArray]
    dsimp only [List.set_cons_succ, List.set_cons_zero]
    refine take1 (i := 1) (d := some 23) (v := ?_) rfl rfl (by kernel_rfl) (by kernel_rfl) (by kernel_rfl) (fun _ _ _ h => h) (Or.inl ⟨by rfl, ?_⟩) (by assumption) ?_
    rotate_left 1
    · intro w hSw
      obtain ⟨q0, q1⟩ := hSw
      go_simp <;> with_reducible rfl
    simp only [Act.put, List.setIfInBounds_toArray]
    dsimp only [List.set_cons_succ, List.set_cons_zero]
    refine wpAnyH_ready (rs := [2]) (by kernel_rfl) (by simp) ?_
    refine AllReadyH.cons rfl (fun KK hKK => ?_) AllReadyH.nil
    go_simp
    refine (toVol_any next L u w.heap.size D (by have := BD.out.size; omega) (HA.out.kept (BD.out.mono (by omega))) HL.out HNL.out).mono ?_
    rintro e t1 ⟨a1, c1, M3, rfl, o1, e1, b1⟩
    have HO1 := Hid.intro o1
    have HE1 := Hid.intro e1
    have B1 : Hid (Below g.heap.size g t1) := BD.out.trans (b1.mono BD.out.size)
    clear o1 e1 b1
    go_simp
    refine hKK.out _ _ (HS.out _ B1.out) (fun hHeld2 => ?_)
    clear hKK KK hHeld
    have hHeld := hHeld2
    clear hHeld2
    refine wpAnyH_ready (rs := [3]) (by kernel_rfl) (by simp) ?_
    refine AllReadyH.cons rfl (fun KK hKK => ?_) AllReadyH.nil
    go_simp
    refine (eqVol_any next M2 M3 _ _ t1.heap.size t1 (Nat.le_refl _) (HO0.out.kept B1.out).rowAll HO1.out.rowAll (by rw [HE0.out, HE1.out])).mono ?_
    rintro e t2 ⟨rfl, b2⟩
    have B2 : Hid (Below g.heap.size g t2) := B1.out.trans (b2.mono B1.out.size)
    clear b2
    go_simp
    refine hKK.out _ _ (HS.out _ B2.out) (fun hHeld2 => ?_)
    clear hKK KK hHeld
    have hHeld := hHeld2
    clear hHeld2
    refine take1 (i := 4) (d := some 26) (v := ?_) rfl rfl (by kernel_rfl) (by kernel_rfl) (by kernel_rfl) (fun _ _ _ h => h) (Or.inl ⟨by rfl, ?_⟩) (by assumption) ?_
    rotate_left 1
    · intro w hSw
      obtain ⟨q0, q1⟩ := hSw
      go_simp <;> with_reducible rfl
    simp only [Act.put, List.setIfInBounds_toArray]
    dsimp only [List.set_cons_succ, List.set_cons_zero]
    refine wpAnyH_done (by kernel_rfl) ?_ _
    have HBE := Hid.intro (HB.out.trans (B2.out.mono HB.out.size))
    clear hHeld HS
    go_wp2_with fail
    go_ret
    exact ⟨rfl, HBE.out⟩
end Go.Proofs.Ytnglnohmlhgmhaa
