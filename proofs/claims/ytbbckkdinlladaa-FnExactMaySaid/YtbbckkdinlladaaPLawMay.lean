/- FnExactMay. -/
import Derived.Test.YtbbckkdinlladaaPVar
import Derived.Test.YtbbckkdinlladaaPMayS
import Derived.Test.YtbbckkdinlladaaPReg
import Derived.Deep.Cut
import Derived.Deep.RegionHeld3
namespace Go.Proofs.Ytbbckkdinlladaa
open Go.RowKit
set_option linter.unusedVariables false
set_option maxRecDepth 100000 in
set_option maxHeartbeats 8000000 in
theorem may_law (c : Cr) (cv : Value) (n : Nd) (nv : Value) (x : Int) (w : World) (hc : Row intE w w.heap.size cv c.l) (hn : Row diE w w.heap.size nv n.names) (hdn : n.data.size ≤ 9223372036854775807) (hzn : ∀ a ∈ n.names, a.nm.size ≤ 9223372036854775807) :
    Calls Try.prog 6 #[crV c cv, ndV n nv, .int .i64 x] w fun e w' => e = .returned (.bool true) ∧ Below w.heap.size w w' := by
  have HRc := Hid.intro hc
  have HRn := Hid.intro hn
  have HZn := Hid.intro hzn
  have HDn := Hid.intro hdn
  clear hc hn hzn hdn
  go_enter Try.func6, Try.ntmps6
  go_wp2_with fail
  obtain ⟨U, hU, bU, zU, kc, qc, kn, qn⟩ := boxed2 w #[.int .i64 c.u, .int .i64 c.g, cv] (ndA n (nv)) 36 45
  try simp only [hU]
  have HAc : Hid (VC U (w.heap.size) c cv) := ⟨by omega, kc, (HRc.out.kept bU).up (by omega)⟩
  have HAn : Hid (VN U (w.heap.size + 1) n nv) := ⟨by omega, kn, (HRn.out.kept bU).up (by omega)⟩
  have HB := Hid.intro bU
  clear hU bU zU kc qc HRc kn qn HRn
  refine (szCred_any c cv U.heap.size _ U (Nat.le_refl _) HAc.out.row (by omega) (by omega)).mono ?_
  rintro e ws0 ⟨⟨s0, rfl, hn⟩, bb⟩
  replace HAc := Hid.intro (HAc.out.kept bb)
  replace HAn := Hid.intro (HAn.out.kept bb)
  replace HB := Hid.intro (HB.out.trans (bb.mono HB.out.size))
  have gs0 := hn.1
  have HN := Hid.intro hn.2.2
  clear bb hn
  by_cases hneg0 : s0 < 0
  · go_wp2
    go_ret
    exact ⟨rfl, HB.out⟩
  · have HLc : Hid (c.l.length ≤ 1048576) := by have := HN.out (by omega); unfold Hid; omega
    clear HN
    have kk := HAn.out.cell
    go_wp2_with fail
    clear kk
    refine (szInode_any n nv ws0.heap.size _ ws0 (Nat.le_refl _) HDn.out HAn.out.row HZn.out (by omega) (by omega)).mono ?_
    rintro e ws1 ⟨⟨s1, rfl, hn⟩, bb⟩
    replace HAc := Hid.intro (HAc.out.kept bb)
    replace HAn := Hid.intro (HAn.out.kept bb)
    replace HB := Hid.intro (HB.out.trans (bb.mono HB.out.size))
    have gs1 := hn.1
    have HN := Hid.intro hn.2.2
    clear bb hn
    by_cases hneg1 : s1 < 0
    · go_wp2
      go_ret
      exact ⟨rfl, HB.out⟩
    · have HLn : Hid (n.names.length ≤ 1048576) := by have := HN.out (by omega); unfold Hid; omega
      clear HN
      go_upto_region 8 with fail
      have HS : Hid (∀ u', Below ws1.heap.size ws1 u' → (fun u => (∀ o, u.cell? ⟨w.heap.size, o, none⟩ = (#[.int .i64 c.u, .int .i64 c.g, cv] : Array Value)[o]?) ∧ (∀ o, u.cell? ⟨w.heap.size + 1, o, none⟩ = ((ndA n (nv)) : Array Value)[o]?)) u') := fun u' hb => ⟨(HAc.out.kept hb).cell, (HAn.out.kept hb).cell⟩
      go_cut [8] from 22 (fun s wc => s = .bool (mayB c n x) ∧ Below ws1.heap.size ws1 wc)
      case first =>
        refine wp_region_held_drew (S := fun u => (∀ o, u.cell? ⟨w.heap.size, o, none⟩ = (#[.int .i64 c.u, .int .i64 c.g, cv] : Array Value)[o]?) ∧ (∀ o, u.cell? ⟨w.heap.size + 1, o, none⟩ = ((ndA n (nv)) : Array Value)[o]?)) (by kernel_rfl) (HS.out _ (Below.refl _ _).drew) (fun hHeld => ?_)
        have BD : Below ws1.heap.size ws1 ws1.drew := (Below.refl _ _).drew
        generalize ws1.drew = D at BD hHeld ⊢
        refine take1 (i := 0) (d := some 22) (v := ?_) rfl rfl (by kernel_rfl) (by kernel_rfl) (by kernel_rfl) (fun _ _ _ h => h) (Or.inl ⟨by rfl, ?_⟩) (by assumption) ?_
        rotate_left 1
        · intro w hSw
          obtain ⟨q0, q1⟩ := hSw
          go_simp <;> with_reducible rfl
        simp only [Act.put, List.setIfInBounds_toArray]
        try simp only [List.set_cons_succ]
        try simp only [List.set_cons_zero]
        refine take1 (i := 2) (d := some 24) (v := ?_) rfl rfl (by kernel_rfl) (by kernel_rfl) (by kernel_rfl) (fun _ _ _ h => h) (Or.inl ⟨by rfl, ?_⟩) (by assumption) ?_
        rotate_left 1
        · intro w hSw
          obtain ⟨q0, q1⟩ := hSw
          go_simp <;> with_reducible rfl
        simp only [Act.put, List.setIfInBounds_toArray]
        try simp only [List.set_cons_succ]
        try simp only [List.set_cons_zero]
        refine take1 (i := 4) (d := some 26) (v := ?_) rfl rfl (by kernel_rfl) (by kernel_rfl) (by kernel_rfl) (fun _ _ _ h => h) (Or.inl ⟨by rfl, ?_⟩) (by assumption) ?_
        rotate_left 1
        · intro w hSw
          obtain ⟨q0, q1⟩ := hSw
          go_simp <;> with_reducible rfl
        simp only [Act.put, List.setIfInBounds_toArray]
        try simp only [List.set_cons_succ]
        try simp only [List.set_cons_zero]
        refine wpAnyH_ready (rs := [1]) (by kernel_rfl) (by simp) ?_
        refine AllReadyH.cons rfl (fun KK hKK => ?_) AllReadyH.nil
        go_simp
        refine (toCred_at c cv _ D (HAc.out.kept BD) HLc.out).mono ?_
        rintro e y0 ⟨a0, cap0, rfl, r0, by0⟩
        have R0 := Hid.intro r0
        clear r0
        have By0 : Below ws1.heap.size ws1 y0 := BD.trans (by0.mono BD.size)
        go_simp
        refine hKK.out _ _ (HS.out _ By0) (fun hHeld2 => ?_)
        clear hKK KK hHeld
        have hHeld := hHeld2
        clear hHeld2
        refine wpAnyH_ready (rs := [3]) (by kernel_rfl) (by simp) ?_
        refine AllReadyH.cons rfl (fun KK hKK => ?_) AllReadyH.nil
        go_simp
        refine (toInode_at n nv _ y0 (HAn.out.kept By0) HLn.out).mono ?_
        rintro e y1 ⟨a1, cap1, rfl, r1, by1⟩
        replace R0 := Hid.intro (R0.out.on by1)
        have R1 := Hid.intro r1
        clear r1
        have By1 : Below ws1.heap.size ws1 y1 := By0.trans (by1.mono By0.size)
        go_simp
        refine hKK.out _ _ (HS.out _ By1) (fun hHeld2 => ?_)
        clear hKK KK hHeld
        have hHeld := hHeld2
        clear hHeld2
        refine wpAnyH_ready (rs := [5]) (by kernel_rfl) (by simp) ?_
        refine AllReadyH.cons rfl (fun KK hKK => ?_) AllReadyH.nil
        go_simp
        refine (specMay_any c (.slice a0 c.l.length cap0) (.slice a1 n.names.length cap1) n x y1.heap.size y1 (Nat.le_refl _) R0.out).mono ?_
        rintro e z ⟨rfl, bz⟩
        have Bz : Below ws1.heap.size ws1 z := By1.trans (bz.mono By1.size)
        go_simp
        refine hKK.out _ _ (HS.out _ Bz) (fun hHeld2 => ?_)
        clear hKK KK hHeld
        have hHeld := hHeld2
        clear hHeld2
        refine wpAnyH_ready (rs := [6]) (by kernel_rfl) (by simp) ?_
        refine AllReadyH.cons rfl (fun KK hKK => ?_) AllReadyH.nil
        go_simp
        refine hKK.out _ _ (HS.out _ Bz) (fun hHeld2 => ?_)
        clear hKK KK hHeld
        have hHeld := hHeld2
        clear hHeld2
        refine wpAnyH_done (by kernel_rfl) ?_ _
        go_wp2_with fail
        go_meet
        case rel => exact ⟨rfl, Bz⟩
      case rest =>
      obtain ⟨wa, hwa⟩ : ∃ wa, wa = wc := ⟨_, rfl⟩
      subst hwa
      obtain ⟨rfl, ba⟩ := hcut
      replace HAc := Hid.intro (HAc.out.kept ba)
      replace HAn := Hid.intro (HAn.out.kept ba)
      replace HB := Hid.intro (HB.out.trans (ba.mono HB.out.size))
      clear HS ba
      have kk := HAc.out.cell
      go_wp2_with fail
      clear kk
      refine (toCred_at c cv _ wa HAc.out HLc.out).mono ?_
      rintro e t0 ⟨xa0, xc0, rfl, r, bb⟩
      replace HAc := Hid.intro (HAc.out.kept bb)
      replace HAn := Hid.intro (HAn.out.kept bb)
      replace HB := Hid.intro (HB.out.trans (bb.mono HB.out.size))
      have RR := Hid.intro r
      clear r bb
      go_upto_region 10 with fail
      obtain ⟨X0, hX, bX, zX, kX, fX⟩ := boxed t0 #[.int .i64 c.u, .int .i64 c.g, .slice xa0 c.l.length xc0] 26
      try simp only [hX]
      replace HAc := Hid.intro (HAc.out.kept bX)
      replace HAn := Hid.intro (HAn.out.kept bX)
      replace HB := Hid.intro (HB.out.trans (bX.mono HB.out.size))
      have HXc : Hid (VC X0 t0.heap.size c (.slice xa0 c.l.length xc0)) := ⟨by omega, kX, RR.out.on bX⟩
      clear hX bX zX kX fX RR
      have kk := HAn.out.cell
      go_wp2_with fail
      clear kk
      refine (toInode_at n nv _ X0 HAn.out HLn.out).mono ?_
      rintro e t1 ⟨xa1, xc1, rfl, r, bb⟩
      replace HAc := Hid.intro (HAc.out.kept bb)
      replace HAn := Hid.intro (HAn.out.kept bb)
      replace HXc := Hid.intro (HXc.out.kept bb)
      replace HB := Hid.intro (HB.out.trans (bb.mono HB.out.size))
      have RR := Hid.intro r
      clear r bb
      go_upto_region 11 with fail
      obtain ⟨X1, hX, bX, zX, kX, fX⟩ := boxed t1 (ndA n (.slice xa1 n.names.length xc1)) 29
      try simp only [hX]
      replace HAc := Hid.intro (HAc.out.kept bX)
      replace HAn := Hid.intro (HAn.out.kept bX)
      replace HXc := Hid.intro (HXc.out.kept bX)
      replace HB := Hid.intro (HB.out.trans (bX.mono HB.out.size))
      have HXn : Hid (VN X1 t1.heap.size n (.slice xa1 n.names.length xc1)) := ⟨by omega, kX, RR.out.on bX⟩
      clear hX bX zX kX fX RR
      have kk0 := HXc.out.cell
      have kk1 := HXn.out.cell
      go_wp2_with fail
      clear kk0 kk1
      refine (implMay_any c (.slice xa0 c.l.length xc0) (.slice xa1 n.names.length xc1) n x X1.heap.size X1 (Nat.le_refl _) HXc.out.row).mono ?_
      rintro e g ⟨rfl, bg⟩
      replace HAc := Hid.intro (HAc.out.kept bg)
      replace HAn := Hid.intro (HAn.out.kept bg)
      replace HXc := Hid.intro (HXc.out.kept bg)
      replace HXn := Hid.intro (HXn.out.kept bg)
      replace HB := Hid.intro (HB.out.trans (bg.mono HB.out.size))
      clear bg
      have hne : ((mayB c n x) != (mayB c n x)) = false := by simp
      go_upto_region 14 with fail
      have HS : Hid (∀ u', Below g.heap.size g u' → (fun u => (∀ o, u.cell? ⟨w.heap.size, o, none⟩ = (#[.int .i64 c.u, .int .i64 c.g, cv] : Array Value)[o]?) ∧ (∀ o, u.cell? ⟨w.heap.size + 1, o, none⟩ = ((ndA n (nv)) : Array Value)[o]?) ∧ (∀ o, u.cell? ⟨t0.heap.size, o, none⟩ = (#[.int .i64 c.u, .int .i64 c.g, .slice xa0 c.l.length xc0] : Array Value)[o]?) ∧ (∀ o, u.cell? ⟨t1.heap.size, o, none⟩ = ((ndA n (.slice xa1 n.names.length xc1)) : Array Value)[o]?)) u') := fun u' hb => ⟨(HAc.out.kept hb).cell, (HAn.out.kept hb).cell, (HXc.out.kept hb).cell, (HXn.out.kept hb).cell⟩
      go_cut [43] from 39 (fun s wc => s = .bool false ∧ Below g.heap.size g wc)
      case first =>
        refine wp_region_held_drew (S := fun u => (∀ o, u.cell? ⟨w.heap.size, o, none⟩ = (#[.int .i64 c.u, .int .i64 c.g, cv] : Array Value)[o]?) ∧ (∀ o, u.cell? ⟨w.heap.size + 1, o, none⟩ = ((ndA n (nv)) : Array Value)[o]?) ∧ (∀ o, u.cell? ⟨t0.heap.size, o, none⟩ = (#[.int .i64 c.u, .int .i64 c.g, .slice xa0 c.l.length xc0] : Array Value)[o]?) ∧ (∀ o, u.cell? ⟨t1.heap.size, o, none⟩ = ((ndA n (.slice xa1 n.names.length xc1)) : Array Value)[o]?)) (by kernel_rfl) (HS.out _ (Below.refl _ _).drew) (fun hHeld => ?_)
        have BD : Below g.heap.size g g.drew := (Below.refl _ _).drew
        generalize g.drew = D at BD hHeld ⊢
        refine take1 (i := 0) (d := some 39) (v := ?_) rfl rfl (by kernel_rfl) (by kernel_rfl) (by kernel_rfl) (fun _ _ _ h => h) (Or.inl ⟨by rfl, ?_⟩) (by assumption) ?_
        rotate_left 1
        · intro w hSw
          obtain ⟨q0, q1, q2, q3⟩ := hSw
          go_simp <;> with_reducible rfl
        simp only [Act.put, List.setIfInBounds_toArray]
        try simp only [List.set_cons_succ]
        try simp only [List.set_cons_zero]
        refine take1 (i := 1) (d := some 40) (v := ?_) rfl rfl (by kernel_rfl) (by kernel_rfl) (by kernel_rfl) (fun _ _ _ h => h) (Or.inl ⟨by rfl, ?_⟩) (by assumption) ?_
        rotate_left 1
        · intro w hSw
          obtain ⟨q0, q1, q2, q3⟩ := hSw
          go_simp <;> with_reducible rfl
        simp only [Act.put, List.setIfInBounds_toArray]
        try simp only [List.set_cons_succ]
        try simp only [List.set_cons_zero]
        refine wpAnyH_ready (rs := [2]) (by kernel_rfl) (by simp) ?_
        refine AllReadyH.cons rfl (fun KK hKK => ?_) AllReadyH.nil
        go_simp
        refine (toCred_at c cv _ D (HAc.out.kept BD) HLc.out).mono ?_
        rintro e yy ⟨a, cap, rfl, r, byy⟩
        have R := Hid.intro r
        clear r
        have Byy : Below g.heap.size g yy := BD.trans (byy.mono BD.size)
        go_simp
        refine hKK.out _ _ (HS.out _ Byy) (fun hHeld2 => ?_)
        clear hKK KK hHeld
        have hHeld := hHeld2
        clear hHeld2
        refine wpAnyH_ready (rs := [3]) (by kernel_rfl) (by simp) ?_
        refine AllReadyH.cons rfl (fun KK hKK => ?_) AllReadyH.nil
        go_simp
        refine (eqCred_any c _ _ yy.heap.size yy (Nat.le_refl _) (HXc.out.kept Byy).row R.out).mono ?_
        rintro e z ⟨rfl, bz⟩
        have Bz : Below g.heap.size g z := Byy.trans (bz.mono Byy.size)
        go_simp
        refine hKK.out _ _ (HS.out _ Bz) (fun hHeld2 => ?_)
        clear hKK KK hHeld
        have hHeld := hHeld2
        clear hHeld2
        refine wpAnyH_ready (rs := [4]) (by kernel_rfl) (by simp) ?_
        refine AllReadyH.cons rfl (fun KK hKK => ?_) AllReadyH.nil
        go_simp
        refine hKK.out _ _ (HS.out _ Bz) (fun hHeld2 => ?_)
        clear hKK KK hHeld
        have hHeld := hHeld2
        clear hHeld2
        refine wpAnyH_done (by kernel_rfl) ?_ _
        go_wp2_with fail
        go_meet
        case rel => exact ⟨rfl, Bz⟩
      case rest =>
      obtain ⟨we0, hwa⟩ : ∃ wa, wa = wc := ⟨_, rfl⟩
      subst hwa
      obtain ⟨rfl, ba⟩ := hcut
      replace HAc := Hid.intro (HAc.out.kept ba)
      replace HAn := Hid.intro (HAn.out.kept ba)
      replace HXc := Hid.intro (HXc.out.kept ba)
      replace HXn := Hid.intro (HXn.out.kept ba)
      replace HB := Hid.intro (HB.out.trans (ba.mono HB.out.size))
      clear HS ba
      go_upto_region 16 with fail
      have HS : Hid (∀ u', Below we0.heap.size we0 u' → (fun u => (∀ o, u.cell? ⟨w.heap.size, o, none⟩ = (#[.int .i64 c.u, .int .i64 c.g, cv] : Array Value)[o]?) ∧ (∀ o, u.cell? ⟨w.heap.size + 1, o, none⟩ = ((ndA n (nv)) : Array Value)[o]?) ∧ (∀ o, u.cell? ⟨t0.heap.size, o, none⟩ = (#[.int .i64 c.u, .int .i64 c.g, .slice xa0 c.l.length xc0] : Array Value)[o]?) ∧ (∀ o, u.cell? ⟨t1.heap.size, o, none⟩ = ((ndA n (.slice xa1 n.names.length xc1)) : Array Value)[o]?)) u') := fun u' hb => ⟨(HAc.out.kept hb).cell, (HAn.out.kept hb).cell, (HXc.out.kept hb).cell, (HXn.out.kept hb).cell⟩
      go_cut [48] from 44 (fun s wc => s = .bool false ∧ Below we0.heap.size we0 wc)
      case first =>
        refine wp_region_held_drew (S := fun u => (∀ o, u.cell? ⟨w.heap.size, o, none⟩ = (#[.int .i64 c.u, .int .i64 c.g, cv] : Array Value)[o]?) ∧ (∀ o, u.cell? ⟨w.heap.size + 1, o, none⟩ = ((ndA n (nv)) : Array Value)[o]?) ∧ (∀ o, u.cell? ⟨t0.heap.size, o, none⟩ = (#[.int .i64 c.u, .int .i64 c.g, .slice xa0 c.l.length xc0] : Array Value)[o]?) ∧ (∀ o, u.cell? ⟨t1.heap.size, o, none⟩ = ((ndA n (.slice xa1 n.names.length xc1)) : Array Value)[o]?)) (by kernel_rfl) (HS.out _ (Below.refl _ _).drew) (fun hHeld => ?_)
        have BD : Below we0.heap.size we0 we0.drew := (Below.refl _ _).drew
        generalize we0.drew = D at BD hHeld ⊢
        refine take1 (i := 0) (d := some 44) (v := ?_) rfl rfl (by kernel_rfl) (by kernel_rfl) (by kernel_rfl) (fun _ _ _ h => h) (Or.inl ⟨by rfl, ?_⟩) (by assumption) ?_
        rotate_left 1
        · intro w hSw
          obtain ⟨q0, q1, q2, q3⟩ := hSw
          go_simp <;> with_reducible rfl
        simp only [Act.put, List.setIfInBounds_toArray]
        try simp only [List.set_cons_succ]
        try simp only [List.set_cons_zero]
        refine take1 (i := 1) (d := some 45) (v := ?_) rfl rfl (by kernel_rfl) (by kernel_rfl) (by kernel_rfl) (fun _ _ _ h => h) (Or.inl ⟨by rfl, ?_⟩) (by assumption) ?_
        rotate_left 1
        · intro w hSw
          obtain ⟨q0, q1, q2, q3⟩ := hSw
          go_simp <;> with_reducible rfl
        simp only [Act.put, List.setIfInBounds_toArray]
        try simp only [List.set_cons_succ]
        try simp only [List.set_cons_zero]
        refine wpAnyH_ready (rs := [2]) (by kernel_rfl) (by simp) ?_
        refine AllReadyH.cons rfl (fun KK hKK => ?_) AllReadyH.nil
        go_simp
        refine (toInode_at n nv _ D (HAn.out.kept BD) HLn.out).mono ?_
        rintro e yy ⟨a, cap, rfl, r, byy⟩
        have R := Hid.intro r
        clear r
        have Byy : Below we0.heap.size we0 yy := BD.trans (byy.mono BD.size)
        go_simp
        refine hKK.out _ _ (HS.out _ Byy) (fun hHeld2 => ?_)
        clear hKK KK hHeld
        have hHeld := hHeld2
        clear hHeld2
        refine wpAnyH_ready (rs := [3]) (by kernel_rfl) (by simp) ?_
        refine AllReadyH.cons rfl (fun KK hKK => ?_) AllReadyH.nil
        go_simp
        refine (eqInode_any n _ _ yy.heap.size yy (Nat.le_refl _) (HXn.out.kept Byy).row R.out).mono ?_
        rintro e z ⟨rfl, bz⟩
        have Bz : Below we0.heap.size we0 z := Byy.trans (bz.mono Byy.size)
        go_simp
        refine hKK.out _ _ (HS.out _ Bz) (fun hHeld2 => ?_)
        clear hKK KK hHeld
        have hHeld := hHeld2
        clear hHeld2
        refine wpAnyH_ready (rs := [4]) (by kernel_rfl) (by simp) ?_
        refine AllReadyH.cons rfl (fun KK hKK => ?_) AllReadyH.nil
        go_simp
        refine hKK.out _ _ (HS.out _ Bz) (fun hHeld2 => ?_)
        clear hKK KK hHeld
        have hHeld := hHeld2
        clear hHeld2
        refine wpAnyH_done (by kernel_rfl) ?_ _
        go_wp2_with fail
        go_meet
        case rel => exact ⟨rfl, Bz⟩
      case rest =>
      obtain ⟨we1, hwa⟩ : ∃ wa, wa = wc := ⟨_, rfl⟩
      subst hwa
      obtain ⟨rfl, ba⟩ := hcut
      replace HAc := Hid.intro (HAc.out.kept ba)
      replace HAn := Hid.intro (HAn.out.kept ba)
      replace HXc := Hid.intro (HXc.out.kept ba)
      replace HXn := Hid.intro (HXn.out.kept ba)
      replace HB := Hid.intro (HB.out.trans (ba.mono HB.out.size))
      clear HS ba
      go_wp2
      go_ret
      exact ⟨rfl, HB.out⟩
end Go.Proofs.Ytbbckkdinlladaa
