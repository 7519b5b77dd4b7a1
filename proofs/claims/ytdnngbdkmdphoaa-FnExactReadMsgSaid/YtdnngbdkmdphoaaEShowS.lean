/- The sentence's ShowMsg. -/
import Derived.Test.YtdnngbdkmdphoaaEShow
import Derived.Test.YtdnngbdkmdphoaaEMsgM
namespace Go.Proofs.Ytdnngbdkmdphoaa
open Go.RowKit
set_option linter.unusedVariables false
theorem varS_listE (n : Nat) : (varS n).data.toList = varL n := rfl
theorem stepE {w a b : World} (h : Below w.heap.size w a) (k : Below a.heap.size a b) : Below w.heap.size w b := h.trans (k.mono h.size)
set_option maxRecDepth 100000 in
set_option maxHeartbeats 8000000 in
theorem specShowMsg_any (a : Ms) (v : Value) (N : Nat) (w : World) (hN : N ≤ w.heap.size) (hr : Row enE w N v a.es) (hlen : a.es.length ≤ 1000000000000) :
    Calls Try.prog 11 #[msV a v] w fun e w' => e = .returned (.string (shMs a)) ∧ Below w.heap.size w w' := by
  have HR := Hid.intro hr
  have HLE := Hid.intro hlen
  clear hr hlen
  cases hv : msgB a with
  | false =>
    rw [shMs_no hv]
    go_enter Try.func11, Try.ntmps11
    go_wp2_with fail
    obtain ⟨W, hW, bW, zW, c1, f1⟩ := boxed w (msA a v) 29
    simp only [hW]
    refine (specMsgOk_any a v N W (by omega) (HR.out.kept (bW.mono hN)) HLE.out).mono ?_
    rw [hv]
    rintro e w1 ⟨rfl, b1⟩
    have HB := Hid.intro (bW.trans (b1.mono (by omega)))
    clear hW bW b1 f1 c1
    go_wp2
    go_ret
    exact ⟨rfl, HB.out⟩
  | true =>
    rw [shMs_yes hv]
    have hb := msB_of ((msgB_iff a).1 hv)
    obtain ⟨k, f, g, m, i, j, c, y, es, d⟩ := a
    obtain ⟨⟨k0, k1⟩, ⟨f0, f1⟩, ⟨g0, g1⟩, ⟨m0, m1⟩, ⟨i0, i1⟩, ⟨j0, j1⟩, ⟨c0, c1⟩, n1, d1, he⟩ := hb
    simp only at k0 k1 f0 f1 g0 g1 m0 m1 i0 i1 j0 j1 c0 c1 n1 d1 he
    obtain ⟨k, rfl⟩ := Int.eq_ofNat_of_zero_le (show 0 ≤ k by omega)
    obtain ⟨f, rfl⟩ := Int.eq_ofNat_of_zero_le f0
    obtain ⟨g, rfl⟩ := Int.eq_ofNat_of_zero_le g0
    obtain ⟨m, rfl⟩ := Int.eq_ofNat_of_zero_le (show 0 ≤ m by omega)
    obtain ⟨i, rfl⟩ := Int.eq_ofNat_of_zero_le i0
    obtain ⟨j, rfl⟩ := Int.eq_ofNat_of_zero_le j0
    obtain ⟨c, rfl⟩ := Int.eq_ofNat_of_zero_le c0
    have hbi : bi y ≤ 1 := by cases y <;> decide
    have v0 := varS_le k
    have v1 := varS_le f
    have v2 := varS_le g
    have v3 := varS_le m
    have v4 := varS_le i
    have v5 := varS_le j
    have v6 := varS_le c
    have v7 := varS_le (bi y)
    have v8 := varS_le es.length
    have HE := Hid.intro he
    have HV := Hid.intro hv
    clear he hv
    go_enter Try.func11, Try.ntmps11
    go_wp2_with fail
    obtain ⟨W, hW, bW, zW, cW, fW⟩ := boxed w (msA ⟨(k : Nat), (f : Nat), (g : Nat), (m : Nat), (i : Nat), (j : Nat), (c : Nat), y, es, d⟩ v) 29
    simp only [hW]
    have HO := specMsgOk_any ⟨(k : Nat), (f : Nat), (g : Nat), (m : Nat), (i : Nat), (j : Nat), (c : Nat), y, es, d⟩ v N W (by omega) (HR.out.kept (bW.mono hN)) HLE.out
    rw [HV.out] at HO
    refine HO.mono ?_
    clear HO
    rintro e w1 ⟨rfl, b1⟩
    have z1 := b1.size
    have BW := Hid.intro (bW.trans (b1.mono (by omega)))
    have cM := keepC b1 (by omega) cW
    have hlt : w.heap.size < w1.heap.size := by omega
    obtain ⟨ea, cap, hve, hl, hm, hcells⟩ := enE_cell (HR.out.kept (BW.out.mono hN))
    have HCA := Hid.intro hcells
    try simp only at hve hl
    subst hve
    have HCM : Hid (∀ w', Below w1.heap.size w1 w' → (∀ o, w'.cell? ⟨w.heap.size, o, none⟩ = (msA ⟨(k : Nat), (f : Nat), (g : Nat), (m : Nat), (i : Nat), (j : Nat), (c : Nat), y, es, d⟩ (.slice ea es.length cap))[o]?) ∧ True) := fun w' hb => ⟨keepC hb hlt cM, trivial⟩
    clear hW bW zW cW fW b1 hcells HR cM
    have qM := (HCM.out _ (Below.refl _ _)).1
    go_upto_region 3 with fail
    clear qM
    refine wp_region_held_drew (S := fun sw => (∀ o, sw.cell? ⟨w.heap.size, o, none⟩ = (msA ⟨(k : Nat), (f : Nat), (g : Nat), (m : Nat), (i : Nat), (j : Nat), (c : Nat), y, es, d⟩ (.slice ea es.length cap))[o]?) ∧ True) (by kernel_rfl) (HCM.out _ (Below.refl _ _).drew) (fun hHeld => ?_)
    have B0 : Below w1.heap.size w1 w1.drew := (Below.refl _ _).drew
    generalize w1.drew = D at B0 hHeld ⊢
    refine take1 (i := 0) (d := some 8) (v := ?_) rfl rfl (by kernel_rfl) (by kernel_rfl) (by kernel_rfl) (fun _ _ _ h => h) (Or.inl ⟨by rfl, ?_⟩) (by assumption) ?_
    rotate_left 1
    · intro w hSw
      obtain ⟨q0, q1⟩ := hSw
      go_simp <;> with_reducible rfl
    simp only [Act.put, List.setIfInBounds_toArray]
    dsimp only [List.set_cons_succ, List.set_cons_zero]
    refine take1 (i := 1) (d := some 9) (v := ?_) rfl rfl (by kernel_rfl) (by kernel_rfl) (by kernel_rfl) (fun _ _ _ h => h) (Or.inl ⟨by rfl, ?_⟩) (by assumption) ?_
    rotate_left 1
    · intro w hSw
      obtain ⟨q0, q1⟩ := hSw
      go_simp <;> with_reducible rfl
    simp only [Act.put, List.setIfInBounds_toArray]
    dsimp only [List.set_cons_succ, List.set_cons_zero]
    refine take1 (i := 3) (d := some 11) (v := ?_) rfl rfl (by kernel_rfl) (by kernel_rfl) (by kernel_rfl) (fun _ _ _ h => h) (Or.inl ⟨by rfl, ?_⟩) (by assumption) ?_
    rotate_left 1
    · intro w hSw
      obtain ⟨q0, q1⟩ := hSw
      go_simp <;> with_reducible rfl
    simp only [Act.put, List.setIfInBounds_toArray]
    dsimp only [List.set_cons_succ, List.set_cons_zero]
    refine take1 (i := 4) (d := some 12) (v := ?_) rfl rfl (by kernel_rfl) (by kernel_rfl) (by kernel_rfl) (fun _ _ _ h => h) (Or.inl ⟨by rfl, ?_⟩) (by assumption) ?_
    rotate_left 1
    · intro w hSw
      obtain ⟨q0, q1⟩ := hSw
      go_simp <;> with_reducible rfl
    simp only [Act.put, List.setIfInBounds_toArray]
    dsimp only [List.set_cons_succ, List.set_cons_zero]
    refine take1 (i := 7) (d := some 15) (v := ?_) rfl rfl (by kernel_rfl) (by kernel_rfl) (by kernel_rfl) (fun _ _ _ h => h) (Or.inl ⟨by rfl, ?_⟩) (by assumption) ?_
    rotate_left 1
    · intro w hSw
      obtain ⟨q0, q1⟩ := hSw
      go_simp <;> with_reducible rfl
    simp only [Act.put, List.setIfInBounds_toArray]
    dsimp only [List.set_cons_succ, List.set_cons_zero]
    refine take1 (i := 8) (d := some 16) (v := ?_) rfl rfl (by kernel_rfl) (by kernel_rfl) (by kernel_rfl) (fun _ _ _ h => h) (Or.inl ⟨by rfl, ?_⟩) (by assumption) ?_
    rotate_left 1
    · intro w hSw
      obtain ⟨q0, q1⟩ := hSw
      go_simp <;> with_reducible rfl
    simp only [Act.put, List.setIfInBounds_toArray]
    dsimp only [List.set_cons_succ, List.set_cons_zero]
    refine take1 (i := 11) (d := some 19) (v := ?_) rfl rfl (by kernel_rfl) (by kernel_rfl) (by kernel_rfl) (fun _ _ _ h => h) (Or.inl ⟨by rfl, ?_⟩) (by assumption) ?_
    rotate_left 1
    · intro w hSw
      obtain ⟨q0, q1⟩ := hSw
      go_simp <;> with_reducible rfl
    simp only [Act.put, List.setIfInBounds_toArray]
    dsimp only [List.set_cons_succ, List.set_cons_zero]
    refine take1 (i := 12) (d := some 20) (v := ?_) rfl rfl (by kernel_rfl) (by kernel_rfl) (by kernel_rfl) (fun _ _ _ h => h) (Or.inl ⟨by rfl, ?_⟩) (by assumption) ?_
    rotate_left 1
    · intro w hSw
      obtain ⟨q0, q1⟩ := hSw
      go_simp <;> with_reducible rfl
    simp only [Act.put, List.setIfInBounds_toArray]
    dsimp only [List.set_cons_succ, List.set_cons_zero]
    refine take1 (i := 15) (d := some 23) (v := ?_) rfl rfl (by kernel_rfl) (by kernel_rfl) (by kernel_rfl) (fun _ _ _ h => h) (Or.inl ⟨by rfl, ?_⟩) (by assumption) ?_
    rotate_left 1
    · intro w hSw
      obtain ⟨q0, q1⟩ := hSw
      go_simp <;> with_reducible rfl
    simp only [Act.put, List.setIfInBounds_toArray]
    dsimp only [List.set_cons_succ, List.set_cons_zero]
    refine take1 (i := 16) (d := some 24) (v := ?_) rfl rfl (by kernel_rfl) (by kernel_rfl) (by kernel_rfl) (fun _ _ _ h => h) (Or.inl ⟨by rfl, ?_⟩) (by assumption) ?_
    rotate_left 1
    · intro w hSw
      obtain ⟨q0, q1⟩ := hSw
      go_simp <;> with_reducible rfl
    simp only [Act.put, List.setIfInBounds_toArray]
    dsimp only [List.set_cons_succ, List.set_cons_zero]
    refine take1 (i := 19) (d := some 27) (v := ?_) rfl rfl (by kernel_rfl) (by kernel_rfl) (by kernel_rfl) (fun _ _ _ h => h) (Or.inl ⟨by rfl, ?_⟩) (by assumption) ?_
    rotate_left 1
    · intro w hSw
      obtain ⟨q0, q1⟩ := hSw
      go_simp <;> with_reducible rfl
    simp only [Act.put, List.setIfInBounds_toArray]
    dsimp only [List.set_cons_succ, List.set_cons_zero]
    refine take1 (i := 20) (d := some 28) (v := ?_) rfl rfl (by kernel_rfl) (by kernel_rfl) (by kernel_rfl) (fun _ _ _ h => h) (Or.inl ⟨by rfl, ?_⟩) (by assumption) ?_
    rotate_left 1
    · intro w hSw
      obtain ⟨q0, q1⟩ := hSw
      go_simp <;> with_reducible rfl
    simp only [Act.put, List.setIfInBounds_toArray]
    dsimp only [List.set_cons_succ, List.set_cons_zero]
    refine take1 (i := 23) (d := some 31) (v := ?_) rfl rfl (by kernel_rfl) (by kernel_rfl) (by kernel_rfl) (fun _ _ _ h => h) (Or.inl ⟨by rfl, ?_⟩) (by assumption) ?_
    rotate_left 1
    · intro w hSw
      obtain ⟨q0, q1⟩ := hSw
      go_simp <;> with_reducible rfl
    simp only [Act.put, List.setIfInBounds_toArray]
    dsimp only [List.set_cons_succ, List.set_cons_zero]
    refine take1 (i := 24) (d := some 32) (v := ?_) rfl rfl (by kernel_rfl) (by kernel_rfl) (by kernel_rfl) (fun _ _ _ h => h) (Or.inl ⟨by rfl, ?_⟩) (by assumption) ?_
    rotate_left 1
    · intro w hSw
      obtain ⟨q0, q1⟩ := hSw
      go_simp <;> with_reducible rfl
    simp only [Act.put, List.setIfInBounds_toArray]
    dsimp only [List.set_cons_succ, List.set_cons_zero]
    refine take1 (i := 27) (d := some 35) (v := ?_) rfl rfl (by kernel_rfl) (by kernel_rfl) (by kernel_rfl) (fun _ _ _ h => h) (Or.inl ⟨by rfl, ?_⟩) (by assumption) ?_
    rotate_left 1
    · intro w hSw
      obtain ⟨q0, q1⟩ := hSw
      go_simp <;> with_reducible rfl
    simp only [Act.put, List.setIfInBounds_toArray]
    dsimp only [List.set_cons_succ, List.set_cons_zero]
    refine take1 (i := 28) (d := some 36) (v := ?_) rfl rfl (by kernel_rfl) (by kernel_rfl) (by kernel_rfl) (fun _ _ _ h => h) (Or.inl ⟨by rfl, ?_⟩) (by assumption) ?_
    rotate_left 1
    · intro w hSw
      obtain ⟨q0, q1⟩ := hSw
      go_simp <;> with_reducible rfl
    simp only [Act.put, List.setIfInBounds_toArray]
    dsimp only [List.set_cons_succ, List.set_cons_zero]
    refine take1 (i := 32) (d := some 40) (v := ?_) rfl rfl (by kernel_rfl) (by kernel_rfl) (by kernel_rfl) (fun _ _ _ h => h) (Or.inl ⟨by rfl, ?_⟩) (by assumption) ?_
    rotate_left 1
    · intro w hSw
      obtain ⟨q0, q1⟩ := hSw
      go_simp <;> with_reducible rfl
    simp only [Act.put, List.setIfInBounds_toArray]
    dsimp only [List.set_cons_succ, List.set_cons_zero]
    refine take1 (i := 33) (d := some 41) (v := ?_) rfl rfl (by kernel_rfl) (by kernel_rfl) (by kernel_rfl) (fun _ _ _ h => h) (Or.inl ⟨by rfl, ?_⟩) (by assumption) ?_
    rotate_left 1
    · intro w hSw
      obtain ⟨q0, q1⟩ := hSw
      go_simp <;> with_reducible rfl
    simp only [Act.put, List.setIfInBounds_toArray]
    dsimp only [List.set_cons_succ, List.set_cons_zero]
    refine take1 (i := 34) (d := some 42) (v := ?_) rfl rfl (by kernel_rfl) (by kernel_rfl) (by kernel_rfl) (fun _ _ _ h => h) (Or.inl ⟨by rfl, ?_⟩) (by assumption) ?_
    rotate_left 1
    · intro w hSw
      obtain ⟨q0, q1⟩ := hSw
      go_simp <;> with_reducible rfl
    simp only [Act.put, List.setIfInBounds_toArray]
    dsimp only [List.set_cons_succ, List.set_cons_zero]
    refine wpAnyH_ready (rs := [2]) (by kernel_rfl) (by simp) ?_
    refine AllReadyH.cons rfl (fun KK hKK => ?_) AllReadyH.nil
    go_simp
    refine (specVar_yes k _ (by omega)).mono ?_
    rintro e q1w ⟨rfl, b9⟩
    have B1 : Below w1.heap.size w1 q1w := stepE B0 b9
    clear b9 B0
    go_simp
    refine hKK.out _ _ (HCM.out _ B1) (fun hHeld2 => ?_)
    clear hKK KK hHeld
    have hHeld := hHeld2
    clear hHeld2
    refine wpAnyH_ready (rs := [5]) (by kernel_rfl) (by simp) ?_
    refine AllReadyH.cons rfl (fun KK hKK => ?_) AllReadyH.nil
    go_simp
    refine (specVar_yes f _ (by omega)).mono ?_
    rintro e q2w ⟨rfl, b9⟩
    have B2 : Below w1.heap.size w1 q2w := stepE B1 b9
    clear b9 B1
    go_simp
    refine hKK.out _ _ (HCM.out _ B2) (fun hHeld2 => ?_)
    clear hKK KK hHeld
    have hHeld := hHeld2
    clear hHeld2
    refine take1 (i := 6) (d := some 14) (v := .string (varS k ++ varS f)) rfl rfl (by kernel_rfl) (by kernel_rfl) (by kernel_rfl) (fun _ _ _ h => h) (Or.inl ⟨by rfl, ?_⟩) (by assumption) ?_
    · intro w hSw
      go_simp
      omega
    simp only [Act.put, List.setIfInBounds_toArray]
    dsimp only [List.set_cons_succ, List.set_cons_zero]
    refine wpAnyH_ready (rs := [9]) (by kernel_rfl) (by simp) ?_
    refine AllReadyH.cons rfl (fun KK hKK => ?_) AllReadyH.nil
    go_simp
    refine (specVar_yes g _ (by omega)).mono ?_
    rintro e q3w ⟨rfl, b9⟩
    have B3 : Below w1.heap.size w1 q3w := stepE B2 b9
    clear b9 B2
    go_simp
    refine hKK.out _ _ (HCM.out _ B3) (fun hHeld2 => ?_)
    clear hKK KK hHeld
    have hHeld := hHeld2
    clear hHeld2
    refine take1 (i := 10) (d := some 18) (v := .string (varS k ++ varS f ++ varS g)) rfl rfl (by kernel_rfl) (by kernel_rfl) (by kernel_rfl) (fun _ _ _ h => h) (Or.inl ⟨by rfl, ?_⟩) (by assumption) ?_
    · intro w hSw
      go_simp
      omega
    simp only [Act.put, List.setIfInBounds_toArray]
    dsimp only [List.set_cons_succ, List.set_cons_zero]
    refine wpAnyH_ready (rs := [13]) (by kernel_rfl) (by simp) ?_
    refine AllReadyH.cons rfl (fun KK hKK => ?_) AllReadyH.nil
    go_simp
    refine (specVar_yes m _ (by omega)).mono ?_
    rintro e q4w ⟨rfl, b9⟩
    have B4 : Below w1.heap.size w1 q4w := stepE B3 b9
    clear b9 B3
    go_simp
    refine hKK.out _ _ (HCM.out _ B4) (fun hHeld2 => ?_)
    clear hKK KK hHeld
    have hHeld := hHeld2
    clear hHeld2
    refine take1 (i := 14) (d := some 22) (v := .string (varS k ++ varS f ++ varS g ++ varS m)) rfl rfl (by kernel_rfl) (by kernel_rfl) (by kernel_rfl) (fun _ _ _ h => h) (Or.inl ⟨by rfl, ?_⟩) (by assumption) ?_
    · intro w hSw
      go_simp
      omega
    simp only [Act.put, List.setIfInBounds_toArray]
    dsimp only [List.set_cons_succ, List.set_cons_zero]
    refine wpAnyH_ready (rs := [17]) (by kernel_rfl) (by simp) ?_
    refine AllReadyH.cons rfl (fun KK hKK => ?_) AllReadyH.nil
    go_simp
    refine (specVar_yes i _ (by omega)).mono ?_
    rintro e q5w ⟨rfl, b9⟩
    have B5 : Below w1.heap.size w1 q5w := stepE B4 b9
    clear b9 B4
    go_simp
    refine hKK.out _ _ (HCM.out _ B5) (fun hHeld2 => ?_)
    clear hKK KK hHeld
    have hHeld := hHeld2
    clear hHeld2
    refine take1 (i := 18) (d := some 26) (v := .string (varS k ++ varS f ++ varS g ++ varS m ++ varS i)) rfl rfl (by kernel_rfl) (by kernel_rfl) (by kernel_rfl) (fun _ _ _ h => h) (Or.inl ⟨by rfl, ?_⟩) (by assumption) ?_
    · intro w hSw
      go_simp
      omega
    simp only [Act.put, List.setIfInBounds_toArray]
    dsimp only [List.set_cons_succ, List.set_cons_zero]
    refine wpAnyH_ready (rs := [21]) (by kernel_rfl) (by simp) ?_
    refine AllReadyH.cons rfl (fun KK hKK => ?_) AllReadyH.nil
    go_simp
    refine (specVar_yes j _ (by omega)).mono ?_
    rintro e q6w ⟨rfl, b9⟩
    have B6 : Below w1.heap.size w1 q6w := stepE B5 b9
    clear b9 B5
    go_simp
    refine hKK.out _ _ (HCM.out _ B6) (fun hHeld2 => ?_)
    clear hKK KK hHeld
    have hHeld := hHeld2
    clear hHeld2
    refine take1 (i := 22) (d := some 30) (v := .string (varS k ++ varS f ++ varS g ++ varS m ++ varS i ++ varS j)) rfl rfl (by kernel_rfl) (by kernel_rfl) (by kernel_rfl) (fun _ _ _ h => h) (Or.inl ⟨by rfl, ?_⟩) (by assumption) ?_
    · intro w hSw
      go_simp
      omega
    simp only [Act.put, List.setIfInBounds_toArray]
    dsimp only [List.set_cons_succ, List.set_cons_zero]
    refine wpAnyH_ready (rs := [25]) (by kernel_rfl) (by simp) ?_
    refine AllReadyH.cons rfl (fun KK hKK => ?_) AllReadyH.nil
    go_simp
    refine (specVar_yes c _ (by omega)).mono ?_
    rintro e q7w ⟨rfl, b9⟩
    have B7 : Below w1.heap.size w1 q7w := stepE B6 b9
    clear b9 B6
    go_simp
    refine hKK.out _ _ (HCM.out _ B7) (fun hHeld2 => ?_)
    clear hKK KK hHeld
    have hHeld := hHeld2
    clear hHeld2
    refine take1 (i := 26) (d := some 34) (v := .string (varS k ++ varS f ++ varS g ++ varS m ++ varS i ++ varS j ++ varS c)) rfl rfl (by kernel_rfl) (by kernel_rfl) (by kernel_rfl) (fun _ _ _ h => h) (Or.inl ⟨by rfl, ?_⟩) (by assumption) ?_
    · intro w hSw
      go_simp
      omega
    simp only [Act.put, List.setIfInBounds_toArray]
    dsimp only [List.set_cons_succ, List.set_cons_zero]
    refine wpAnyH_ready (rs := [29]) (by kernel_rfl) (by simp) ?_
    refine AllReadyH.cons rfl (fun KK hKK => ?_) AllReadyH.nil
    go_simp
    refine (l12Yes_any y _).mono ?_
    rintro e wq ⟨rfl, rfl⟩
    go_simp
    refine hKK.out _ _ (HCM.out _ B7) (fun hHeld2 => ?_)
    clear hKK KK hHeld
    have hHeld := hHeld2
    clear hHeld2
    refine wpAnyH_ready (rs := [30]) (by kernel_rfl) (by simp) ?_
    refine AllReadyH.cons rfl (fun KK hKK => ?_) AllReadyH.nil
    go_simp
    refine (specVar_yes (bi y) _ (by omega)).mono ?_
    rintro e q8w ⟨rfl, b9⟩
    have B8 : Below w1.heap.size w1 q8w := stepE B7 b9
    clear b9 B7
    go_simp
    refine hKK.out _ _ (HCM.out _ B8) (fun hHeld2 => ?_)
    clear hKK KK hHeld
    have hHeld := hHeld2
    clear hHeld2
    refine take1 (i := 31) (d := some 39) (v := .string (varS k ++ varS f ++ varS g ++ varS m ++ varS i ++ varS j ++ varS c ++ varS (bi y))) rfl rfl (by kernel_rfl) (by kernel_rfl) (by kernel_rfl) (fun _ _ _ h => h) (Or.inl ⟨by rfl, ?_⟩) (by assumption) ?_
    · intro w hSw
      go_simp
      omega
    simp only [Act.put, List.setIfInBounds_toArray]
    dsimp only [List.set_cons_succ, List.set_cons_zero]
    refine wpAnyH_ready (rs := [35]) (by kernel_rfl) (by simp) ?_
    refine AllReadyH.cons rfl (fun KK hKK => ?_) AllReadyH.nil
    go_simp
    refine (specVar_yes es.length _ (by omega)).mono ?_
    rintro e q9w ⟨rfl, b9⟩
    have B9 : Below w1.heap.size w1 q9w := stepE B8 b9
    clear b9 B8
    go_simp
    refine hKK.out _ _ (HCM.out _ B9) (fun hHeld2 => ?_)
    clear hKK KK hHeld
    have hHeld := hHeld2
    clear hHeld2
    refine take1 (i := 36) (d := some 44) (v := .string (varS k ++ varS f ++ varS g ++ varS m ++ varS i ++ varS j ++ varS c ++ varS (bi y) ++ varS es.length)) rfl rfl (by kernel_rfl) (by kernel_rfl) (by kernel_rfl) (fun _ _ _ h => h) (Or.inl ⟨by rfl, ?_⟩) (by assumption) ?_
    · intro w hSw
      go_simp
      omega
    simp only [Act.put, List.setIfInBounds_toArray]
    dsimp only [List.set_cons_succ, List.set_cons_zero]
    refine take1 (i := 37) (d := some 3) (v := ?_) rfl rfl (by kernel_rfl) (by kernel_rfl) (by kernel_rfl) (fun _ _ _ h => h) (Or.inl ⟨by rfl, ?_⟩) (by assumption) ?_
    rotate_left 1
    · intro w hSw
      obtain ⟨q0, q1⟩ := hSw
      go_simp <;> with_reducible rfl
    simp only [Act.put, List.setIfInBounds_toArray]
    dsimp only [List.set_cons_succ, List.set_cons_zero]
    refine wpAnyH_done (by kernel_rfl) ?_ _
    clear hHeld
    have HS0 : Hid ((varS k ++ varS f ++ varS g ++ varS m ++ varS i ++ varS j ++ varS c ++ varS (bi y) ++ varS es.length).data.toList = varsL (mNums ⟨(k : Nat), (f : Nat), (g : Nat), (m : Nat), (i : Nat), (j : Nat), (c : Nat), y, es, d⟩)) := by
      unfold Hid
      simp only [ba_appE, varS_listE, mNums, varsL, List.flatMap_cons, List.flatMap_nil, List.append_nil, List.append_assoc]
      rfl
    have hs0 : (varS k ++ varS f ++ varS g ++ varS m ++ varS i ++ varS j ++ varS c ++ varS (bi y) ++ varS es.length).size ≤ 63 := by simp only [ByteArray.size_append]; omega
    generalize varS k ++ varS f ++ varS g ++ varS m ++ varS i ++ varS j ++ varS c ++ varS (bi y) ++ varS es.length = s0 at HS0 hs0 ⊢
    have HBX := Hid.intro B9
    have qM := (HCM.out _ HBX.out).1
    clear v0 v1 v2 v3 v4 v5 v6 v7 v8 B9
    go_wp2_with fail
    clear qM
    go_loopw [3, 4] (fun x q wr => ∃ (n : Nat) (s : ByteArray), q = .int .i64 n ∧ x = .string s ∧ n ≤ es.length ∧ s.size ≤ 63 + 1614 * n ∧ Hid (s.data.toList = varsL (mNums ⟨(k : Nat), (f : Nat), (g : Nat), (m : Nat), (i : Nat), (j : Nat), (c : Nat), y, es, d⟩) ++ ensL (es.take n)) ∧ Hid (Below w1.heap.size w1 wr)) (fun _ q _ => es.length - (intOf q).toNat)
    case atStart => exact ⟨0, s0, rfl, rfl, Nat.zero_le _, by omega, by unfold Hid; simpa [ensL] using HS0.out, HBX⟩
    case round =>
      obtain ⟨n, s, rfl, rfl, hn, hsn, HP, HB⟩ := hrel
      have hzr := HB.out.size
      have qM := (HCM.out _ HB.out).1
      by_cases hlt2 : n < es.length
      · obtain ⟨b, off, rfl, hbN, hcc⟩ := HCA.out (fun h => by rw [h] at hlt2; simp at hlt2)
        obtain ⟨p0, p1⟩ := hcc n hlt2
        have hst := ensL_snoc es n hlt2
        have hnb := HE.out es[n] (List.getElem_mem hlt2)
        generalize es[n] = x at p0 p1 hst hnb
        obtain ⟨t, xd⟩ := x
        obtain ⟨⟨t0, t1⟩, hxd⟩ := hnb
        simp only at t0 t1 hxd p0 p1
        obtain ⟨t, rfl⟩ := Int.eq_ofNat_of_zero_le t0
        have HSN : Hid (ensL (es.take n) ++ (varL t ++ (varL xd.size ++ xd.data.toList)) = ensL (es.take (n + 1))) := by
          unfold Hid
          simpa [enL] using hst
        have hbl : b < w1.heap.size := by omega
        have hjl : (n : Int) < (es.length : Int) := by omega
        have i1' : (0 : Int) ≤ (n : Int) ∧ (n : Int) < (es.length : Int) := by omega
        have u0 := varS_le t
        have u1 := varS_le xd.size
        have HCS : Hid (∀ w', Below w1.heap.size w1 w' → (∀ o, w'.cell? ⟨w.heap.size, o, none⟩ = (msA ⟨(k : Nat), (f : Nat), (g : Nat), (m : Nat), (i : Nat), (j : Nat), (c : Nat), y, es, d⟩ (.slice (some ⟨b, off, none⟩) es.length cap))[o]?) ∧ w'.cell? ⟨b, off + n * 2, none⟩ = some (.int .i64 (t : Nat)) ∧ w'.cell? ⟨b, off + n * 2 + 1, none⟩ = some (.string xd)) := fun w' hb => ⟨(HCM.out w' hb).1, atCell hb p0 hbl, atCell hb p1 hbl⟩
        clear hst hcc t0 p0 p1
        go_upto_region 7 with fail
        clear qM
        refine wp_region_held_drew (S := fun sw => (∀ o, sw.cell? ⟨w.heap.size, o, none⟩ = (msA ⟨(k : Nat), (f : Nat), (g : Nat), (m : Nat), (i : Nat), (j : Nat), (c : Nat), y, es, d⟩ (.slice (some ⟨b, off, none⟩) es.length cap))[o]?) ∧ sw.cell? ⟨b, off + n * 2, none⟩ = some (.int .i64 (t : Nat)) ∧ sw.cell? ⟨b, off + n * 2 + 1, none⟩ = some (.string xd)) (by kernel_rfl) (HCS.out _ HB.out.drew) (fun hHeld => ?_)
        replace HB := Hid.intro HB.out.drew
        generalize wr.drew = D at HB hHeld ⊢
        refine take1 (i := 0) (d := some 52) (v := ?_) rfl rfl (by kernel_rfl) (by kernel_rfl) (by kernel_rfl) (fun _ _ _ h => h) (Or.inl ⟨by rfl, ?_⟩) (by assumption) ?_
        rotate_left 1
        · intro w hSw
          obtain ⟨q0, q1, q2⟩ := hSw
          go_simp <;> with_reducible rfl
        simp only [Act.put, List.setIfInBounds_toArray]
        dsimp only [List.set_cons_succ, List.set_cons_zero]
        refine take1 (i := 1) (d := some 53) (v := ?_) rfl rfl (by kernel_rfl) (by kernel_rfl) (by kernel_rfl) (fun _ _ _ h => h) (Or.inl ⟨by rfl, ?_⟩) (by assumption) ?_
        rotate_left 1
        · intro w hSw
          obtain ⟨q0, q1, q2⟩ := hSw
          go_simp <;> with_reducible rfl
        simp only [Act.put, List.setIfInBounds_toArray]
        dsimp only [List.set_cons_succ, List.set_cons_zero]
        refine take1 (i := 2) (d := some 54) (v := ?_) rfl rfl (by kernel_rfl) (by kernel_rfl) (by kernel_rfl) (fun _ _ _ h => h) (Or.inl ⟨by rfl, ?_⟩) (by assumption) ?_
        rotate_left 1
        · intro w hSw
          obtain ⟨q0, q1, q2⟩ := hSw
          go_simp <;> with_reducible rfl
        simp only [Act.put, List.setIfInBounds_toArray]
        dsimp only [List.set_cons_succ, List.set_cons_zero]
        refine take1 (i := 3) (d := some 55) (v := ?_) rfl rfl (by kernel_rfl) (by kernel_rfl) (by kernel_rfl) (fun _ _ _ h => h) (Or.inl ⟨by rfl, ?_⟩) (by assumption) ?_
        rotate_left 1
        · intro w hSw
          obtain ⟨q0, q1, q2⟩ := hSw
          go_simp <;> with_reducible rfl
        simp only [Act.put, List.setIfInBounds_toArray]
        dsimp only [List.set_cons_succ, List.set_cons_zero]
        refine take1 (i := 4) (d := some 56) (v := ?_) rfl rfl (by kernel_rfl) (by kernel_rfl) (by kernel_rfl) (fun _ _ _ h => h) (Or.inl ⟨by rfl, ?_⟩) (by assumption) ?_
        rotate_left 1
        · intro w hSw
          obtain ⟨q0, q1, q2⟩ := hSw
          go_simp <;> with_reducible rfl
        simp only [Act.put, List.setIfInBounds_toArray]
        dsimp only [List.set_cons_succ, List.set_cons_zero]
        refine take1 (i := 5) (d := some 57) (v := ?_) rfl rfl (by kernel_rfl) (by kernel_rfl) (by kernel_rfl) (fun _ _ _ h => h) (Or.inl ⟨by rfl, ?_⟩) (by assumption) ?_
        rotate_left 1
        · intro w hSw
          obtain ⟨q0, q1, q2⟩ := hSw
          go_simp <;> with_reducible rfl
        simp only [Act.put, List.setIfInBounds_toArray]
        dsimp only [List.set_cons_succ, List.set_cons_zero]
        refine take1 (i := 6) (d := some 58) (v := ?_) rfl rfl (by kernel_rfl) (by kernel_rfl) (by kernel_rfl) (fun _ _ _ h => h) (Or.inl ⟨by rfl, ?_⟩) (by assumption) ?_
        rotate_left 1
        · intro w hSw
          obtain ⟨q0, q1, q2⟩ := hSw
          go_simp <;> with_reducible rfl
        simp only [Act.put, List.setIfInBounds_toArray]
        dsimp only [List.set_cons_succ, List.set_cons_zero]
        refine take1 (i := 9) (d := some 61) (v := ?_) rfl rfl (by kernel_rfl) (by kernel_rfl) (by kernel_rfl) (fun _ _ _ h => h) (Or.inl ⟨by rfl, ?_⟩) (by assumption) ?_
        rotate_left 1
        · intro w hSw
          obtain ⟨q0, q1, q2⟩ := hSw
          go_simp <;> with_reducible rfl
        simp only [Act.put, List.setIfInBounds_toArray]
        dsimp only [List.set_cons_succ, List.set_cons_zero]
        refine take1 (i := 10) (d := some 62) (v := ?_) rfl rfl (by kernel_rfl) (by kernel_rfl) (by kernel_rfl) (fun _ _ _ h => h) (Or.inl ⟨by rfl, ?_⟩) (by assumption) ?_
        rotate_left 1
        · intro w hSw
          obtain ⟨q0, q1, q2⟩ := hSw
          go_simp <;> with_reducible rfl
        simp only [Act.put, List.setIfInBounds_toArray]
        dsimp only [List.set_cons_succ, List.set_cons_zero]
        refine take1 (i := 11) (d := some 63) (v := ?_) rfl rfl (by kernel_rfl) (by kernel_rfl) (by kernel_rfl) (fun _ _ _ h => h) (Or.inl ⟨by rfl, ?_⟩) (by assumption) ?_
        rotate_left 1
        · intro w hSw
          obtain ⟨q0, q1, q2⟩ := hSw
          go_simp <;> with_reducible rfl
        simp only [Act.put, List.setIfInBounds_toArray]
        dsimp only [List.set_cons_succ, List.set_cons_zero]
        refine take1 (i := 12) (d := some 64) (v := ?_) rfl rfl (by kernel_rfl) (by kernel_rfl) (by kernel_rfl) (fun _ _ _ h => h) (Or.inl ⟨by rfl, ?_⟩) (by assumption) ?_
        rotate_left 1
        · intro w hSw
          obtain ⟨q0, q1, q2⟩ := hSw
          go_simp <;> with_reducible rfl
        simp only [Act.put, List.setIfInBounds_toArray]
        dsimp only [List.set_cons_succ, List.set_cons_zero]
        refine take1 (i := 13) (d := some 65) (v := ?_) rfl rfl (by kernel_rfl) (by kernel_rfl) (by kernel_rfl) (fun _ _ _ h => h) (Or.inl ⟨by rfl, ?_⟩) (by assumption) ?_
        rotate_left 1
        · intro w hSw
          obtain ⟨q0, q1, q2⟩ := hSw
          go_simp <;> with_reducible rfl
        simp only [Act.put, List.setIfInBounds_toArray]
        dsimp only [List.set_cons_succ, List.set_cons_zero]
        refine take1 (i := 14) (d := some 66) (v := ?_) rfl rfl (by kernel_rfl) (by kernel_rfl) (by kernel_rfl) (fun _ _ _ h => h) (Or.inl ⟨by rfl, ?_⟩) (by assumption) ?_
        rotate_left 1
        · intro w hSw
          obtain ⟨q0, q1, q2⟩ := hSw
          go_simp <;> with_reducible rfl
        simp only [Act.put, List.setIfInBounds_toArray]
        dsimp only [List.set_cons_succ, List.set_cons_zero]
        refine take1 (i := 15) (d := some 67) (v := ?_) rfl rfl (by kernel_rfl) (by kernel_rfl) (by kernel_rfl) (fun _ _ _ h => h) (Or.inl ⟨by rfl, ?_⟩) (by assumption) ?_
        rotate_left 1
        · intro w hSw
          obtain ⟨q0, q1, q2⟩ := hSw
          go_simp <;> with_reducible rfl
        simp only [Act.put, List.setIfInBounds_toArray]
        dsimp only [List.set_cons_succ, List.set_cons_zero]
        refine take1 (i := 18) (d := some 70) (v := ?_) rfl rfl (by kernel_rfl) (by kernel_rfl) (by kernel_rfl) (fun _ _ _ h => h) (Or.inl ⟨by rfl, ?_⟩) (by assumption) ?_
        rotate_left 1
        · intro w hSw
          obtain ⟨q0, q1, q2⟩ := hSw
          go_simp <;> with_reducible rfl
        simp only [Act.put, List.setIfInBounds_toArray]
        dsimp only [List.set_cons_succ, List.set_cons_zero]
        refine take1 (i := 19) (d := some 71) (v := ?_) rfl rfl (by kernel_rfl) (by kernel_rfl) (by kernel_rfl) (fun _ _ _ h => h) (Or.inl ⟨by rfl, ?_⟩) (by assumption) ?_
        rotate_left 1
        · intro w hSw
          obtain ⟨q0, q1, q2⟩ := hSw
          go_simp <;> with_reducible rfl
        simp only [Act.put, List.setIfInBounds_toArray]
        dsimp only [List.set_cons_succ, List.set_cons_zero]
        refine take1 (i := 20) (d := some 72) (v := ?_) rfl rfl (by kernel_rfl) (by kernel_rfl) (by kernel_rfl) (fun _ _ _ h => h) (Or.inl ⟨by rfl, ?_⟩) (by assumption) ?_
        rotate_left 1
        · intro w hSw
          obtain ⟨q0, q1, q2⟩ := hSw
          go_simp <;> with_reducible rfl
        simp only [Act.put, List.setIfInBounds_toArray]
        dsimp only [List.set_cons_succ, List.set_cons_zero]
        refine take1 (i := 21) (d := some 73) (v := ?_) rfl rfl (by kernel_rfl) (by kernel_rfl) (by kernel_rfl) (fun _ _ _ h => h) (Or.inl ⟨by rfl, ?_⟩) (by assumption) ?_
        rotate_left 1
        · intro w hSw
          obtain ⟨q0, q1, q2⟩ := hSw
          go_simp <;> with_reducible rfl
        simp only [Act.put, List.setIfInBounds_toArray]
        dsimp only [List.set_cons_succ, List.set_cons_zero]
        refine take1 (i := 22) (d := some 74) (v := ?_) rfl rfl (by kernel_rfl) (by kernel_rfl) (by kernel_rfl) (fun _ _ _ h => h) (Or.inl ⟨by rfl, ?_⟩) (by assumption) ?_
        rotate_left 1
        · intro w hSw
          obtain ⟨q0, q1, q2⟩ := hSw
          go_simp <;> with_reducible rfl
        simp only [Act.put, List.setIfInBounds_toArray]
        dsimp only [List.set_cons_succ, List.set_cons_zero]
        refine take1 (i := 23) (d := some 75) (v := ?_) rfl rfl (by kernel_rfl) (by kernel_rfl) (by kernel_rfl) (fun _ _ _ h => h) (Or.inl ⟨by rfl, ?_⟩) (by assumption) ?_
        rotate_left 1
        · intro w hSw
          obtain ⟨q0, q1, q2⟩ := hSw
          go_simp <;> with_reducible rfl
        simp only [Act.put, List.setIfInBounds_toArray]
        dsimp only [List.set_cons_succ, List.set_cons_zero]
        refine wpAnyH_ready (rs := [7]) (by kernel_rfl) (by simp) ?_
        refine AllReadyH.cons rfl (fun KK hKK => ?_) AllReadyH.nil
        go_simp
        refine (specVar_yes t _ (by omega)).mono ?_
        rintro e E1 ⟨rfl, b9⟩
        replace HB := Hid.intro (HB.out.trans (b9.mono HB.out.size))
        clear b9
        go_simp
        refine hKK.out _ _ (HCS.out _ HB.out) (fun hHeld2 => ?_)
        clear hKK KK hHeld
        have hHeld := hHeld2
        clear hHeld2
        refine take1 (i := 8) (d := some 60) (v := .string (s ++ varS t)) rfl rfl (by kernel_rfl) (by kernel_rfl) (by kernel_rfl) (fun _ _ _ h => h) (Or.inl ⟨by rfl, ?_⟩) (by assumption) ?_
        · intro w hSw
          go_simp
          omega
        simp only [Act.put, List.setIfInBounds_toArray]
        dsimp only [List.set_cons_succ, List.set_cons_zero]
        refine wpAnyH_ready (rs := [16]) (by kernel_rfl) (by simp) ?_
        refine AllReadyH.cons rfl (fun KK hKK => ?_) AllReadyH.nil
        go_simp
        refine (specVar_yes xd.size _ (by omega)).mono ?_
        rintro e E2 ⟨rfl, b9⟩
        replace HB := Hid.intro (HB.out.trans (b9.mono HB.out.size))
        clear b9
        go_simp
        refine hKK.out _ _ (HCS.out _ HB.out) (fun hHeld2 => ?_)
        clear hKK KK hHeld
        have hHeld := hHeld2
        clear hHeld2
        refine take1 (i := 17) (d := some 69) (v := .string (s ++ varS t ++ varS xd.size)) rfl rfl (by kernel_rfl) (by kernel_rfl) (by kernel_rfl) (fun _ _ _ h => h) (Or.inl ⟨by rfl, ?_⟩) (by assumption) ?_
        · intro w hSw
          go_simp
          omega
        simp only [Act.put, List.setIfInBounds_toArray]
        dsimp only [List.set_cons_succ, List.set_cons_zero]
        refine take1 (i := 24) (d := some 76) (v := .string (s ++ varS t ++ varS xd.size ++ xd)) rfl rfl (by kernel_rfl) (by kernel_rfl) (by kernel_rfl) (fun _ _ _ h => h) (Or.inl ⟨by rfl, ?_⟩) (by assumption) ?_
        · intro w hSw
          go_simp
          omega
        simp only [Act.put, List.setIfInBounds_toArray]
        dsimp only [List.set_cons_succ, List.set_cons_zero]
        refine take1 (i := 25) (d := some 3) (v := ?_) rfl rfl (by kernel_rfl) (by kernel_rfl) (by kernel_rfl) (fun _ _ _ h => h) (Or.inl ⟨by rfl, ?_⟩) (by assumption) ?_
        rotate_left 1
        · intro w hSw
          obtain ⟨q0, q1, q2⟩ := hSw
          go_simp <;> with_reducible rfl
        simp only [Act.put, List.setIfInBounds_toArray]
        dsimp only [List.set_cons_succ, List.set_cons_zero]
        refine wpAnyH_done (by kernel_rfl) ?_ _
        clear hHeld
        have HP2 : Hid ((s ++ varS t ++ varS xd.size ++ xd).data.toList = varsL (mNums ⟨(k : Nat), (f : Nat), (g : Nat), (m : Nat), (i : Nat), (j : Nat), (c : Nat), y, es, d⟩) ++ ensL (es.take (n + 1))) := by
          unfold Hid
          rw [← HSN.out, ← List.append_assoc, ← HP.out]
          simp only [ba_appE, varS_listE, List.append_assoc]
        have hs2 : (s ++ varS t ++ varS xd.size ++ xd).size ≤ 63 + 1614 * (n + 1) := by simp only [ByteArray.size_append]; omega
        generalize s ++ varS t ++ varS xd.size ++ xd = s2 at HP2 hs2 ⊢
        clear u0 u1 HSN HP hsn
        go_wp2
        go_roundw
        case rel => exact ⟨n + 1, s2, by go_num, rfl, by omega, hs2, HP2, HB⟩
        case measure => simp [intOf]; omega
      · obtain rfl : n = es.length := by omega
        rw [List.take_length] at HP
        have HF : Hid ((⟨#[109]⟩ ++ (s ++ d) : ByteArray) = ⟨(msgL ⟨(k : Nat), (f : Nat), (g : Nat), (m : Nat), (i : Nat), (j : Nat), (c : Nat), y, es, d⟩).toArray⟩) := by
          unfold Hid
          refine ba_mk _ _ ?_
          rw [ba_appE, ba_appE, HP.out]
          simp only [msgL, List.append_assoc]
          rfl
        have HBE : Hid (Below w.heap.size w wr) := BW.out.trans (HB.out.mono (by omega))
        have hsz : (s.size : Int) + (d.size : Int) ≤ 281474976710656 := by omega
        have hsz2 : (1 : Int) + ((s ++ d).size : Int) ≤ 281474976710656 := by simp only [ByteArray.size_append]; omega
        go_wp2_with fail
        go_ret
        exact ⟨ret_str (by rw [← HF.out]), HBE.out⟩
end Go.Proofs.Ytdnngbdkmdphoaa
