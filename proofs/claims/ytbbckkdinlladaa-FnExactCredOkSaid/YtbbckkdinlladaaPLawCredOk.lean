/- FnExactCredOk. -/
import Derived.Test.YtbbckkdinlladaaPVar
import Derived.Test.YtbbckkdinlladaaPLeaf
import Derived.Test.YtbbckkdinlladaaPReg
import Derived.Deep.Cut
import Derived.Deep.RegionHeld3
namespace Go.Proofs.Ytbbckkdinlladaa
open Go.RowKit
set_option linter.unusedVariables false
set_option maxRecDepth 100000 in
set_option maxHeartbeats 8000000 in
theorem credOk_law (c : Cr) (cv : Value) (w : World) (hc : Row intE w w.heap.size cv c.l) :
    Calls Try.prog 4 #[crV c cv] w fun e w' => e = .returned (.bool true) ∧ Below w.heap.size w w' := by
  have HRc := Hid.intro hc
  clear hc
  go_enter Try.func4, Try.ntmps4
  go_wp2_with fail
  obtain ⟨U, hU, bU, zU, kc, qc⟩ := boxed w #[.int .i64 c.u, .int .i64 c.g, cv] 36
  try simp only [hU]
  have HAc : Hid (VC U (w.heap.size) c cv) := ⟨by omega, kc, (HRc.out.kept bU).up (by omega)⟩
  have HB := Hid.intro bU
  clear hU bU zU kc qc HRc
  refine (szCred_any c cv U.heap.size _ U (Nat.le_refl _) HAc.out.row (by omega) (by omega)).mono ?_
  rintro e ws0 ⟨⟨s0, rfl, hn⟩, bb⟩
  replace HAc := Hid.intro (HAc.out.kept bb)
  replace HB := Hid.intro (HB.out.trans (bb.mono HB.out.size))
  have gs0 := hn.1
  have HN := Hid.intro hn.2.2
  clear bb hn
  by_cases hneg0 : s0 < 0
  · go_wp2
    go_ret
    exact ⟨rfl, HB.out⟩
  · have HLc : Hid (c.l.length ≤ 1048576) := by have := HN.out (by omega); unfold Hid; omega
    clear HN
    have kk := HAc.out.cell
    go_wp2_with fail
    clear kk
    refine (toCred_at c cv _ ws0 HAc.out HLc.out).mono ?_
    rintro e y0 ⟨a0, cap0, rfl, r0, b0⟩
    replace HAc := Hid.intro (HAc.out.kept b0)
    replace HB := Hid.intro (HB.out.trans (b0.mono HB.out.size))
    have R0 := Hid.intro r0
    clear r0 b0
    have kk := HAc.out.cell
    go_wp2_with fail
    clear kk
    refine (specCredOk_any c (.slice a0 c.l.length cap0) y0.heap.size y0 (Nat.le_refl _) R0.out).mono ?_
    rintro e z ⟨rfl, bz⟩
    replace HAc := Hid.intro (HAc.out.kept bz)
    replace HB := Hid.intro (HB.out.trans (bz.mono HB.out.size))
    clear bz R0
    have kk := HAc.out.cell
    go_wp2_with fail
    clear kk
    refine (toCred_at c cv _ z HAc.out HLc.out).mono ?_
    rintro e t0 ⟨xa0, xc0, rfl, r, bb⟩
    replace HAc := Hid.intro (HAc.out.kept bb)
    replace HB := Hid.intro (HB.out.trans (bb.mono HB.out.size))
    have RR := Hid.intro r
    clear r bb
    go_upto_region 7 with fail
    obtain ⟨X0, hX, bX, zX, kX, fX⟩ := boxed t0 #[.int .i64 c.u, .int .i64 c.g, .slice xa0 c.l.length xc0] 26
    try simp only [hX]
    replace HAc := Hid.intro (HAc.out.kept bX)
    replace HB := Hid.intro (HB.out.trans (bX.mono HB.out.size))
    have HXc : Hid (VC X0 t0.heap.size c (.slice xa0 c.l.length xc0)) := ⟨by omega, kX, RR.out.on bX⟩
    clear hX bX zX kX fX RR
    have kk0 := HXc.out.cell
    go_wp2_with fail
    clear kk0
    refine (implCredOk_any c (.slice xa0 c.l.length xc0) X0.heap.size X0 (Nat.le_refl _) HXc.out.row).mono ?_
    rintro e g ⟨rfl, bg⟩
    replace HAc := Hid.intro (HAc.out.kept bg)
    replace HXc := Hid.intro (HXc.out.kept bg)
    replace HB := Hid.intro (HB.out.trans (bg.mono HB.out.size))
    clear bg
    have hne : ((credB c) != (credB c)) = false := by simp
    go_upto_region 10 with fail
    have HS : Hid (∀ u', Below g.heap.size g u' → (fun u => (∀ o, u.cell? ⟨w.heap.size, o, none⟩ = (#[.int .i64 c.u, .int .i64 c.g, cv] : Array Value)[o]?) ∧ (∀ o, u.cell? ⟨t0.heap.size, o, none⟩ = (#[.int .i64 c.u, .int .i64 c.g, .slice xa0 c.l.length xc0] : Array Value)[o]?)) u') := fun u' hb => ⟨(HAc.out.kept hb).cell, (HXc.out.kept hb).cell⟩
    go_cut [26] from 22 (fun s wc => s = .bool false ∧ Below g.heap.size g wc)
    case first =>
      refine wp_region_held_drew (S := fun u => (∀ o, u.cell? ⟨w.heap.size, o, none⟩ = (#[.int .i64 c.u, .int .i64 c.g, cv] : Array Value)[o]?) ∧ (∀ o, u.cell? ⟨t0.heap.size, o, none⟩ = (#[.int .i64 c.u, .int .i64 c.g, .slice xa0 c.l.length xc0] : Array Value)[o]?)) (by kernel_rfl) (HS.out _ (Below.refl _ _).drew) (fun hHeld => ?_)
      have BD : Below g.heap.size g g.drew := (Below.refl _ _).drew
      generalize g.drew = D at BD hHeld ⊢
      refine take1 (i := 0) (d := some 22) (v := ?_) rfl rfl (by kernel_rfl) (by kernel_rfl) (by kernel_rfl) (fun _ _ _ h => h) (Or.inl ⟨by rfl, ?_⟩) (by assumption) ?_
      rotate_left 1
      · intro w hSw
        obtain ⟨q0, q1⟩ := hSw
        go_simp <;> with_reducible rfl
      simp only [Act.put, List.setIfInBounds_toArray]
      try simp only [List.set_cons_succ]
      try simp only [List.set_cons_zero]
      refine take1 (i := 1) (d := some 23) (v := ?_) rfl rfl (by kernel_rfl) (by kernel_rfl) (by kernel_rfl) (fun _ _ _ h => h) (Or.inl ⟨by rfl, ?_⟩) (by assumption) ?_
      rotate_left 1
      · intro w hSw
        obtain ⟨q0, q1⟩ := hSw
        go_simp <;> with_reducible rfl
      simp only [Act.put, List.setIfInBounds_toArray]
      try simp only [List.set_cons_succ]
      try simp only [List.set_cons_zero]
      refine wpAnyH_ready (rs := [2]) (by kernel_rfl) (by simp) ?_
      refine AllReadyH.cons rfl (fun KK hKK => ?_) AllReadyH.nil
      go_simp
      refine (toCred_at c cv _ D (HAc.out.kept BD) HLc.out).mono ?_
      rintro e yy ⟨a, cap, rfl, r, byy⟩
      have R := Hid.intro r
      clear r
      have Byy : Below g.heap.size g yy := BD.trans (byy.mono BD.size)
      go_simp
      refine hKK.out _ _ (HS.out _ Byy) (fun hHeld2 => ?_)
      clear hKK KK hHeld
      have hHeld := hHeld2
      clear hHeld2
      refine wpAnyH_ready (rs := [3]) (by kernel_rfl) (by simp) ?_
      refine AllReadyH.cons rfl (fun KK hKK => ?_) AllReadyH.nil
      go_simp
      refine (eqCred_any c _ _ yy.heap.size yy (Nat.le_refl _) (HXc.out.kept Byy).row R.out).mono ?_
      rintro e z ⟨rfl, bz⟩
      have Bz : Below g.heap.size g z := Byy.trans (bz.mono Byy.size)
      go_simp
      refine hKK.out _ _ (HS.out _ Bz) (fun hHeld2 => ?_)
      clear hKK KK hHeld
      have hHeld := hHeld2
      clear hHeld2
      refine wpAnyH_ready (rs := [4]) (by kernel_rfl) (by simp) ?_
      refine AllReadyH.cons rfl (fun KK hKK => ?_) AllReadyH.nil
      go_simp
      refine hKK.out _ _ (HS.out _ Bz) (fun hHeld2 => ?_)
      clear hKK KK hHeld
      have hHeld := hHeld2
      clear hHeld2
      refine wpAnyH_done (by kernel_rfl) ?_ _
      go_wp2_with fail
      go_meet
      case rel => exact ⟨rfl, Bz⟩
    case rest =>
    obtain ⟨we0, hwa⟩ : ∃ wa, wa = wc := ⟨_, rfl⟩
    subst hwa
    obtain ⟨rfl, ba⟩ := hcut
    replace HAc := Hid.intro (HAc.out.kept ba)
    replace HXc := Hid.intro (HXc.out.kept ba)
    replace HB := Hid.intro (HB.out.trans (ba.mono HB.out.size))
    clear HS ba
    go_wp2
    go_ret
    exact ⟨rfl, HB.out⟩
end Go.Proofs.Ytbbckkdinlladaa
