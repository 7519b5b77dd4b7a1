/- l3CopyStore. -/
import Derived.Test.YtkilepoimocoeabWrM
namespace Go.Proofs.Ytkilepoimocoeab
open Go.RowKit
set_option linter.unusedVariables false
theorem madeR (w : World) (base : Nat) (h : base ≤ w.heap.size) : OwnR (w.alloc (.cells #[] 70)) base (.slice (some ⟨w.heap.size, 0, none⟩) 0 0) [] := World.ownsRow_made w #[] 0 h (by decide) rfl
set_option maxRecDepth 100000 in
set_option maxHeartbeats 8000000 in
theorem l3CopyStore_any (S : Sto) (v u : Value) (N : Nat) (w : World) (hN : N ≤ w.heap.size) (hr : RowE w N v S.k.e) (hu : RowR w N u S.l) (hl : S.k.e.length ≤ 60) (hl2 : S.l.length ≤ 80) :
    Calls Try.prog 45 #[stV S v u] w fun e w' => ∃ v' u', e = .returned (stV S v' u') ∧ NewS w w' v' u' S := by
  have HR := Hid.intro hr
  clear hr
  by_cases h0 : S.l = []
  · obtain ⟨au, cu, rfl, lu, mu, _⟩ := hu
    have hl0 : S.l.length = 0 := by rw [h0]; rfl
    have H0 := Hid.intro h0
    rw [hl0]
    clear h0
    cases au with
    | none =>
      go_enter Try.func45, Try.ntmps45
      go_wp2_with fail
      obtain ⟨w1, hW, B1, zW, c1, f1, c2, f2⟩ := boxed2 w #[.int .i64 S.k.t, .int .i64 S.k.v, .int .i64 S.k.si, .int .i64 S.k.st, .string S.k.sd, v, (.slice none 0 cu)] #[.int .i64 0, .int .i64 0, .int .i64 0, .int .i64 0, .string ⟨#[]⟩, .slice none 0 0, .slice none 0 0] 38 38
      simp only [hW]
      have hz1 : w.heap.size + 1 < w1.heap.size := by omega
      have HC : Hid (∀ w', Below w1.heap.size w1 w' → RowE w' N v S.k.e ∧ True ∧ N ≤ w'.heap.size ∧ (∀ o, w'.cell? ⟨w.heap.size + 1, o, none⟩ = #[.int .i64 0, .int .i64 0, .int .i64 0, .int .i64 0, .string ⟨#[]⟩, .slice none 0 0, .slice none 0 0][o]?) ∧ (∀ o, w'.frozen? ⟨w.heap.size + 1, o, none⟩ = false) ∧ w.heap.size + 1 < w'.heap.size ∧ Below w.heap.size w w') := fun w' hb =>
        ⟨HR.out.kept ((B1.trans (hb.mono (by omega))).mono hN), trivial, by have := hb.size; omega, keepC hb hz1 c2, keepF hb hz1 f2, by have := hb.size; omega, B1.trans (hb.mono (by omega))⟩
      have HS : Hid (∀ w', Below w1.heap.size w1 w' → SLo S v (.slice none 0 cu) w.heap.size w') := fun w' hb => by
        have d1 := keepC hb (by omega) c1
        exact ⟨by rw [d1]; rfl, by rw [d1]; rfl, by rw [d1]; rfl, by rw [d1]; rfl, by rw [d1]; rfl, by rw [d1]; rfl, by rw [d1]; rfl⟩
      have HS2 : Hid (∀ w', Only (fun k => w1.heap.size ≤ k ∨ k = w.heap.size + 1) w1 w' → SLo S v (.slice none 0 cu) w.heap.size w') := fun w' hb => by
        have d1 : ∀ o, w'.cell? ⟨w.heap.size, o, none⟩ = _ := fun o => (hb.cell (show w.heap.size < w1.heap.size by omega) (by omega)).trans (c1 o)
        exact ⟨by rw [d1]; rfl, by rw [d1]; rfl, by rw [d1]; rfl, by rw [d1]; rfl, by rw [d1]; rfl, by rw [d1]; rfl, by rw [d1]; rfl⟩
      clear hW zW c1 c2 f1 f2
      refine wp_region_held_drew (S := SLo S v (.slice none 0 cu) w.heap.size) (by kernel_rfl) (HS.out _ (Below.refl _ _).drew) (fun hHeld => ?_)
      have BWD : Below w1.heap.size w1 w1.drew := (Below.refl _ _).drew
      generalize w1.drew = D at BWD hHeld ⊢
      refine take1s (i := 0) (d := some 3) (v := ?_) rfl rfl (by kernel_rfl) (by kernel_rfl) (by kernel_rfl) (fun _ _ _ h => h) (Or.inl ⟨by rfl, ?_⟩) (by assumption) ?_
      rotate_left 1
      · intro w hSw
        obtain ⟨q0, q1, q2, q3, q4, q5, q6⟩ := hSw
        go_simp <;> with_reducible rfl
      simp only [Act.put, List.setIfInBounds_toArray]
      try simp only [List.set_cons_succ]
      try simp only [List.set_cons_zero]
      refine take1s (i := 1) (d := some 4) (v := ?_) rfl rfl (by kernel_rfl) (by kernel_rfl) (by kernel_rfl) (fun _ _ _ h => h) (Or.inl ⟨by rfl, ?_⟩) (by assumption) ?_
      rotate_left 1
      · intro w hSw
        obtain ⟨q0, q1, q2, q3, q4, q5, q6⟩ := hSw
        go_simp <;> with_reducible rfl
      simp only [Act.put, List.setIfInBounds_toArray]
      try simp only [List.set_cons_succ]
      try simp only [List.set_cons_zero]
      refine take1s (i := 4) (d := some 7) (v := ?_) rfl rfl (by kernel_rfl) (by kernel_rfl) (by kernel_rfl) (fun _ _ _ h => h) (Or.inl ⟨by rfl, ?_⟩) (by assumption) ?_
      rotate_left 1
      · intro w hSw
        obtain ⟨q0, q1, q2, q3, q4, q5, q6⟩ := hSw
        go_simp <;> with_reducible rfl
      simp only [Act.put, List.setIfInBounds_toArray]
      try simp only [List.set_cons_succ]
      try simp only [List.set_cons_zero]
      refine take1s (i := 5) (d := some 8) (v := ?_) rfl rfl (by kernel_rfl) (by kernel_rfl) (by kernel_rfl) (fun _ _ _ h => h) (Or.inl ⟨by rfl, ?_⟩) (by assumption) ?_
      rotate_left 1
      · intro w hSw
        obtain ⟨q0, q1, q2, q3, q4, q5, q6⟩ := hSw
        go_simp <;> with_reducible rfl
      simp only [Act.put, List.setIfInBounds_toArray]
      try simp only [List.set_cons_succ]
      try simp only [List.set_cons_zero]
      refine wpAnyH_ready (rs := [2, 3]) (by kernel_rfl) (by simp) ?_
      refine AllReadyH.cons rfl (fun KK hKK => ?_) (AllReadyH.cons rfl (fun KK hKK => ?_) AllReadyH.nil)
      · skip
        go_simp
        refine (l3Copy_any S.k v N D (HC.out _ BWD).2.2.1 (HC.out _ BWD).1 (by omega)).mono ?_
        rintro e wA ⟨vA, rfl, oA, bA⟩
        obtain ⟨aA, capA, rfl⟩ := oA.slice
        have BWwA : Below w1.heap.size w1 wA := BWD.trans (bA.mono BWD.size)
        have HOA := Hid.intro (OwnE.lower oA BWD.size)
        have HLA : Hid (∀ k, (Value.slice aA S.k.e.length capA).ownBlock = some k → k < wA.heap.size) := fun k hk => (oA.lt k hk).2
        clear oA bA
        go_simp
        refine hKK.out _ _ (HS.out _ BWwA) (fun hHeld2 => ?_)
        clear hKK KK hHeld
        have hHeld := hHeld2
        clear hHeld2
        refine wpAnyH_ready (rs := [3]) (by kernel_rfl) (by simp) ?_
        refine AllReadyH.cons rfl (fun KK hKK => ?_) AllReadyH.nil
        go_simp
        have bX := (Below.refl wA.heap.size wA).alloc (Nat.le_refl _) (.cells #[] 70)
        have zX : (wA.alloc (.cells #[] 70)).heap.size = wA.heap.size + 1 := by simp
        have mX : OwnR (wA.alloc (.cells #[] 70)) w1.heap.size (.slice (some ⟨wA.heap.size, 0, none⟩) 0 0) [] := madeR wA _ BWwA.size
        generalize wA.alloc (.cells #[] 70) = X at bX zX mX ⊢
        have BWX : Below w1.heap.size w1 X := BWwA.trans (bX.mono BWwA.size)
        have HMX := Hid.intro mX
        refine hKK.out _ _ (HS.out _ BWX) (fun hHeld2 => ?_)
        clear hKK KK hHeld
        have hHeld := hHeld2
        clear hHeld2
        replace HOA := Hid.intro (HOA.out.kept bX)
        have HM := HMX
        have HAM : Hid (∀ k, (Value.slice aA S.k.e.length capA).ownBlock = some k → ¬ k = wA.heap.size) := fun k hk h => by have := HLA.out k hk; omega
        refine wpAnyH_ready (rs := [6]) (by kernel_rfl) (by simp) ?_
        refine AllReadyH.cons rfl (fun KK hKK => ?_) AllReadyH.nil
        go_simp
        refine hKK.out _ _ (HS.out _ BWX) (fun hHeld2 => ?_)
        clear hKK KK hHeld
        have hHeld := hHeld2
        clear hHeld2
        have HR9 := Hid.intro HM.out
        have HA9 := Hid.intro HOA.out
        have BW9 := BWX
        have HD9 : Hid (∀ k, (Value.slice aA S.k.e.length capA).ownBlock = some k → ¬ (Value.slice (some ⟨wA.heap.size, 0, none⟩) 0 0).ownBlock = some k) := fun k hk h => by simp only [Value.ownBlock, Option.some.injEq] at h; exact HAM.out k hk h.symm
        refine take1s (i := 7) (d := some 10) (v := ?_) rfl rfl (by kernel_rfl) (by kernel_rfl) (by kernel_rfl) (fun _ _ _ h => h) (Or.inl ⟨by rfl, ?_⟩) (by assumption) ?_
        rotate_left 1
        · intro w hSw
          obtain ⟨q0, q1, q2, q3, q4, q5, q6⟩ := hSw
          go_simp <;> with_reducible rfl
        simp only [Act.put, List.setIfInBounds_toArray]
        try simp only [List.set_cons_succ]
        try simp only [List.set_cons_zero]
        refine wpAnyH_ready (rs := [8]) (by kernel_rfl) (by simp) ?_
        refine AllReadyH.cons rfl (fun KK hKK => ?_) AllReadyH.nil
        obtain ⟨_, _, _, d2, g2, hz2, _⟩ := HC.out _ BW9
        go_simp
        obtain ⟨V, hV⟩ : ∃ V, ((((((X.setCell ⟨w.heap.size + 1, 0, none⟩ (.int .i64 S.k.t)).setCell ⟨w.heap.size + 1, 1, none⟩ (.int .i64 S.k.v)).setCell ⟨w.heap.size + 1, 2, none⟩ (.int .i64 S.k.si)).setCell ⟨w.heap.size + 1, 3, none⟩ (.int .i64 S.k.st)).setCell ⟨w.heap.size + 1, 4, none⟩ (.string S.k.sd)).setCell ⟨w.heap.size + 1, 5, none⟩ (.slice aA S.k.e.length capA)).setCell ⟨w.heap.size + 1, 6, none⟩ (.slice (some ⟨wA.heap.size, 0, none⟩) 0 0) = V := ⟨_, rfl⟩
        have eV : setC X (w.heap.size + 1) 0 [.int .i64 S.k.t, .int .i64 S.k.v, .int .i64 S.k.si, .int .i64 S.k.st, .string S.k.sd, .slice aA S.k.e.length capA, (.slice (some ⟨wA.heap.size, 0, none⟩) 0 0)] = V := by rw [← hV]; rfl
        have oV : Only (fun k => k = w.heap.size + 1) X V := by rw [← eV]; exact only_setC _ _ _ _
        have kV : Blk V (w.heap.size + 1) #[.int .i64 S.k.t, .int .i64 S.k.v, .int .i64 S.k.si, .int .i64 S.k.st, .string S.k.sd, .slice aA S.k.e.length capA, (.slice (some ⟨wA.heap.size, 0, none⟩) 0 0)] := by rw [← eV]; exact (Blk.mk hz2 d2 g2).all _ rfl
        clear eV
        simp only [hV]
        have O9 : Only (fun k => w1.heap.size ≤ k ∨ k = w.heap.size + 1) w1 V := Only.then ((Below.only BW9).mono (fun k _ h => .inl h)) oV (fun k _ h => .inr h)
        refine hKK.out _ _ (HS2.out _ O9) (fun hHeld2 => ?_)
        clear hKK KK hHeld hV
        have hHeld := hHeld2
        clear hHeld2
        refine wpAnyH_done (by kernel_rfl) ?_ _
        have HB9 := Hid.intro ((B1.trans (BW9.mono B1.size)).trans (oV.below (show w.heap.size ≤ X.heap.size by omega) (fun k hk h => by omega)))
        have HA10 := Hid.intro (HA9.out.only oV (fun k hk h => by have := (HA9.out.lt k hk).1; omega))
        have HR10 := Hid.intro (HR9.out.only oV (fun k hk h => by have := (HR9.out.lt k hk).1; omega))
        have HZ9 := Hid.intro hz1
        have k9 := kV.cell
        clear HC HS HS2 hHeld BW9 kV oV O9 HA9 HR9 d2 g2
        go_wp2
        exact bodyPost_ret (v := stV S (.slice aA S.k.e.length capA) (.slice (some ⟨wA.heap.size, 0, none⟩) 0 0)) (by simp [results, Try.results45, go_sem, k9]) rfl ⟨_, _, rfl, OwnE.lower HA10.out (show w.heap.size ≤ w1.heap.size by have := HZ9.out; omega), by rw [H0.out]; exact OwnR.lower HR10.out (show w.heap.size ≤ w1.heap.size by have := HZ9.out; omega), HD9.out, HB9.out⟩
      · skip
        go_simp
        have bX := (Below.refl D.heap.size D).alloc (Nat.le_refl _) (.cells #[] 70)
        have zX : (D.alloc (.cells #[] 70)).heap.size = D.heap.size + 1 := by simp
        have mX : OwnR (D.alloc (.cells #[] 70)) w1.heap.size (.slice (some ⟨D.heap.size, 0, none⟩) 0 0) [] := madeR D _ BWD.size
        generalize D.alloc (.cells #[] 70) = X at bX zX mX ⊢
        have BWX : Below w1.heap.size w1 X := BWD.trans (bX.mono BWD.size)
        have HMX := Hid.intro mX
        refine hKK.out _ _ (HS.out _ BWX) (fun hHeld2 => ?_)
        clear hKK KK hHeld
        have hHeld := hHeld2
        clear hHeld2
        refine wpAnyH_ready (rs := [2]) (by kernel_rfl) (by simp) ?_
        refine AllReadyH.cons rfl (fun KK hKK => ?_) AllReadyH.nil
        go_simp
        refine (l3Copy_any S.k v N X (HC.out _ BWX).2.2.1 (HC.out _ BWX).1 (by omega)).mono ?_
        rintro e wA ⟨vA, rfl, oA, bA⟩
        obtain ⟨aA, capA, rfl⟩ := oA.slice
        have BWwA : Below w1.heap.size w1 wA := BWX.trans (bA.mono BWX.size)
        have HOA := Hid.intro (OwnE.lower oA BWX.size)
        have HM := Hid.intro (HMX.out.kept bA)
        have HAM : Hid (∀ k, (Value.slice aA S.k.e.length capA).ownBlock = some k → ¬ k = D.heap.size) := fun k hk h => by have := (oA.lt k hk).1; omega
        clear oA bA
        go_simp
        refine hKK.out _ _ (HS.out _ BWwA) (fun hHeld2 => ?_)
        clear hKK KK hHeld
        have hHeld := hHeld2
        clear hHeld2
        refine wpAnyH_ready (rs := [6]) (by kernel_rfl) (by simp) ?_
        refine AllReadyH.cons rfl (fun KK hKK => ?_) AllReadyH.nil
        go_simp
        refine hKK.out _ _ (HS.out _ BWwA) (fun hHeld2 => ?_)
        clear hKK KK hHeld
        have hHeld := hHeld2
        clear hHeld2
        have HR9 := Hid.intro HM.out
        have HA9 := Hid.intro HOA.out
        have BW9 := BWwA
        have HD9 : Hid (∀ k, (Value.slice aA S.k.e.length capA).ownBlock = some k → ¬ (Value.slice (some ⟨D.heap.size, 0, none⟩) 0 0).ownBlock = some k) := fun k hk h => by simp only [Value.ownBlock, Option.some.injEq] at h; exact HAM.out k hk h.symm
        refine take1s (i := 7) (d := some 10) (v := ?_) rfl rfl (by kernel_rfl) (by kernel_rfl) (by kernel_rfl) (fun _ _ _ h => h) (Or.inl ⟨by rfl, ?_⟩) (by assumption) ?_
        rotate_left 1
        · intro w hSw
          obtain ⟨q0, q1, q2, q3, q4, q5, q6⟩ := hSw
          go_simp <;> with_reducible rfl
        simp only [Act.put, List.setIfInBounds_toArray]
        try simp only [List.set_cons_succ]
        try simp only [List.set_cons_zero]
        refine wpAnyH_ready (rs := [8]) (by kernel_rfl) (by simp) ?_
        refine AllReadyH.cons rfl (fun KK hKK => ?_) AllReadyH.nil
        obtain ⟨_, _, _, d2, g2, hz2, _⟩ := HC.out _ BW9
        go_simp
        obtain ⟨V, hV⟩ : ∃ V, ((((((wA.setCell ⟨w.heap.size + 1, 0, none⟩ (.int .i64 S.k.t)).setCell ⟨w.heap.size + 1, 1, none⟩ (.int .i64 S.k.v)).setCell ⟨w.heap.size + 1, 2, none⟩ (.int .i64 S.k.si)).setCell ⟨w.heap.size + 1, 3, none⟩ (.int .i64 S.k.st)).setCell ⟨w.heap.size + 1, 4, none⟩ (.string S.k.sd)).setCell ⟨w.heap.size + 1, 5, none⟩ (.slice aA S.k.e.length capA)).setCell ⟨w.heap.size + 1, 6, none⟩ (.slice (some ⟨D.heap.size, 0, none⟩) 0 0) = V := ⟨_, rfl⟩
        have eV : setC wA (w.heap.size + 1) 0 [.int .i64 S.k.t, .int .i64 S.k.v, .int .i64 S.k.si, .int .i64 S.k.st, .string S.k.sd, .slice aA S.k.e.length capA, (.slice (some ⟨D.heap.size, 0, none⟩) 0 0)] = V := by rw [← hV]; rfl
        have oV : Only (fun k => k = w.heap.size + 1) wA V := by rw [← eV]; exact only_setC _ _ _ _
        have kV : Blk V (w.heap.size + 1) #[.int .i64 S.k.t, .int .i64 S.k.v, .int .i64 S.k.si, .int .i64 S.k.st, .string S.k.sd, .slice aA S.k.e.length capA, (.slice (some ⟨D.heap.size, 0, none⟩) 0 0)] := by rw [← eV]; exact (Blk.mk hz2 d2 g2).all _ rfl
        clear eV
        simp only [hV]
        have O9 : Only (fun k => w1.heap.size ≤ k ∨ k = w.heap.size + 1) w1 V := Only.then ((Below.only BW9).mono (fun k _ h => .inl h)) oV (fun k _ h => .inr h)
        refine hKK.out _ _ (HS2.out _ O9) (fun hHeld2 => ?_)
        clear hKK KK hHeld hV
        have hHeld := hHeld2
        clear hHeld2
        refine wpAnyH_done (by kernel_rfl) ?_ _
        have HB9 := Hid.intro ((B1.trans (BW9.mono B1.size)).trans (oV.below (show w.heap.size ≤ wA.heap.size by omega) (fun k hk h => by omega)))
        have HA10 := Hid.intro (HA9.out.only oV (fun k hk h => by have := (HA9.out.lt k hk).1; omega))
        have HR10 := Hid.intro (HR9.out.only oV (fun k hk h => by have := (HR9.out.lt k hk).1; omega))
        have HZ9 := Hid.intro hz1
        have k9 := kV.cell
        clear HC HS HS2 hHeld BW9 kV oV O9 HA9 HR9 d2 g2
        go_wp2
        exact bodyPost_ret (v := stV S (.slice aA S.k.e.length capA) (.slice (some ⟨D.heap.size, 0, none⟩) 0 0)) (by simp [results, Try.results45, go_sem, k9]) rfl ⟨_, _, rfl, OwnE.lower HA10.out (show w.heap.size ≤ w1.heap.size by have := HZ9.out; omega), by rw [H0.out]; exact OwnR.lower HR10.out (show w.heap.size ≤ w1.heap.size by have := HZ9.out; omega), HD9.out, HB9.out⟩
    | some ad =>
      go_enter Try.func45, Try.ntmps45
      go_wp2_with fail
      obtain ⟨w1, hW, B1, zW, c1, f1, c2, f2⟩ := boxed2 w #[.int .i64 S.k.t, .int .i64 S.k.v, .int .i64 S.k.si, .int .i64 S.k.st, .string S.k.sd, v, (.slice (some ad) 0 cu)] #[.int .i64 0, .int .i64 0, .int .i64 0, .int .i64 0, .string ⟨#[]⟩, .slice none 0 0, .slice none 0 0] 38 38
      simp only [hW]
      have hz1 : w.heap.size + 1 < w1.heap.size := by omega
      have HC : Hid (∀ w', Below w1.heap.size w1 w' → RowE w' N v S.k.e ∧ True ∧ N ≤ w'.heap.size ∧ (∀ o, w'.cell? ⟨w.heap.size + 1, o, none⟩ = #[.int .i64 0, .int .i64 0, .int .i64 0, .int .i64 0, .string ⟨#[]⟩, .slice none 0 0, .slice none 0 0][o]?) ∧ (∀ o, w'.frozen? ⟨w.heap.size + 1, o, none⟩ = false) ∧ w.heap.size + 1 < w'.heap.size ∧ Below w.heap.size w w') := fun w' hb =>
        ⟨HR.out.kept ((B1.trans (hb.mono (by omega))).mono hN), trivial, by have := hb.size; omega, keepC hb hz1 c2, keepF hb hz1 f2, by have := hb.size; omega, B1.trans (hb.mono (by omega))⟩
      have HS : Hid (∀ w', Below w1.heap.size w1 w' → SLo S v (.slice (some ad) 0 cu) w.heap.size w') := fun w' hb => by
        have d1 := keepC hb (by omega) c1
        exact ⟨by rw [d1]; rfl, by rw [d1]; rfl, by rw [d1]; rfl, by rw [d1]; rfl, by rw [d1]; rfl, by rw [d1]; rfl, by rw [d1]; rfl⟩
      have HS2 : Hid (∀ w', Only (fun k => w1.heap.size ≤ k ∨ k = w.heap.size + 1) w1 w' → SLo S v (.slice (some ad) 0 cu) w.heap.size w') := fun w' hb => by
        have d1 : ∀ o, w'.cell? ⟨w.heap.size, o, none⟩ = _ := fun o => (hb.cell (show w.heap.size < w1.heap.size by omega) (by omega)).trans (c1 o)
        exact ⟨by rw [d1]; rfl, by rw [d1]; rfl, by rw [d1]; rfl, by rw [d1]; rfl, by rw [d1]; rfl, by rw [d1]; rfl, by rw [d1]; rfl⟩
      clear hW zW c1 c2 f1 f2
      refine wp_region_held_drew (S := SLo S v (.slice (some ad) 0 cu) w.heap.size) (by kernel_rfl) (HS.out _ (Below.refl _ _).drew) (fun hHeld => ?_)
      have BWD : Below w1.heap.size w1 w1.drew := (Below.refl _ _).drew
      generalize w1.drew = D at BWD hHeld ⊢
      refine take1s (i := 0) (d := some 3) (v := ?_) rfl rfl (by kernel_rfl) (by kernel_rfl) (by kernel_rfl) (fun _ _ _ h => h) (Or.inl ⟨by rfl, ?_⟩) (by assumption) ?_
      rotate_left 1
      · intro w hSw
        obtain ⟨q0, q1, q2, q3, q4, q5, q6⟩ := hSw
        go_simp <;> with_reducible rfl
      simp only [Act.put, List.setIfInBounds_toArray]
      try simp only [List.set_cons_succ]
      try simp only [List.set_cons_zero]
      refine take1s (i := 1) (d := some 4) (v := ?_) rfl rfl (by kernel_rfl) (by kernel_rfl) (by kernel_rfl) (fun _ _ _ h => h) (Or.inl ⟨by rfl, ?_⟩) (by assumption) ?_
      rotate_left 1
      · intro w hSw
        obtain ⟨q0, q1, q2, q3, q4, q5, q6⟩ := hSw
        go_simp <;> with_reducible rfl
      simp only [Act.put, List.setIfInBounds_toArray]
      try simp only [List.set_cons_succ]
      try simp only [List.set_cons_zero]
      refine take1s (i := 4) (d := some 7) (v := ?_) rfl rfl (by kernel_rfl) (by kernel_rfl) (by kernel_rfl) (fun _ _ _ h => h) (Or.inl ⟨by rfl, ?_⟩) (by assumption) ?_
      rotate_left 1
      · intro w hSw
        obtain ⟨q0, q1, q2, q3, q4, q5, q6⟩ := hSw
        go_simp <;> with_reducible rfl
      simp only [Act.put, List.setIfInBounds_toArray]
      try simp only [List.set_cons_succ]
      try simp only [List.set_cons_zero]
      refine take1s (i := 5) (d := some 8) (v := ?_) rfl rfl (by kernel_rfl) (by kernel_rfl) (by kernel_rfl) (fun _ _ _ h => h) (Or.inl ⟨by rfl, ?_⟩) (by assumption) ?_
      rotate_left 1
      · intro w hSw
        obtain ⟨q0, q1, q2, q3, q4, q5, q6⟩ := hSw
        go_simp <;> with_reducible rfl
      simp only [Act.put, List.setIfInBounds_toArray]
      try simp only [List.set_cons_succ]
      try simp only [List.set_cons_zero]
      refine wpAnyH_ready (rs := [2, 3]) (by kernel_rfl) (by simp) ?_
      refine AllReadyH.cons rfl (fun KK hKK => ?_) (AllReadyH.cons rfl (fun KK hKK => ?_) AllReadyH.nil)
      · skip
        go_simp
        refine (l3Copy_any S.k v N D (HC.out _ BWD).2.2.1 (HC.out _ BWD).1 (by omega)).mono ?_
        rintro e wA ⟨vA, rfl, oA, bA⟩
        obtain ⟨aA, capA, rfl⟩ := oA.slice
        have BWwA : Below w1.heap.size w1 wA := BWD.trans (bA.mono BWD.size)
        have HOA := Hid.intro (OwnE.lower oA BWD.size)
        have HLA : Hid (∀ k, (Value.slice aA S.k.e.length capA).ownBlock = some k → k < wA.heap.size) := fun k hk => (oA.lt k hk).2
        clear oA bA
        go_simp
        refine hKK.out _ _ (HS.out _ BWwA) (fun hHeld2 => ?_)
        clear hKK KK hHeld
        have hHeld := hHeld2
        clear hHeld2
        refine wpAnyH_ready (rs := [3]) (by kernel_rfl) (by simp) ?_
        refine AllReadyH.cons rfl (fun KK hKK => ?_) AllReadyH.nil
        go_simp
        have bX := (Below.refl wA.heap.size wA).alloc (Nat.le_refl _) (.cells #[] 70)
        have zX : (wA.alloc (.cells #[] 70)).heap.size = wA.heap.size + 1 := by simp
        have mX : OwnR (wA.alloc (.cells #[] 70)) w1.heap.size (.slice (some ⟨wA.heap.size, 0, none⟩) 0 0) [] := madeR wA _ BWwA.size
        generalize wA.alloc (.cells #[] 70) = X at bX zX mX ⊢
        have BWX : Below w1.heap.size w1 X := BWwA.trans (bX.mono BWwA.size)
        have HMX := Hid.intro mX
        refine hKK.out _ _ (HS.out _ BWX) (fun hHeld2 => ?_)
        clear hKK KK hHeld
        have hHeld := hHeld2
        clear hHeld2
        replace HOA := Hid.intro (HOA.out.kept bX)
        have HM := HMX
        have HAM : Hid (∀ k, (Value.slice aA S.k.e.length capA).ownBlock = some k → ¬ k = wA.heap.size) := fun k hk h => by have := HLA.out k hk; omega
        refine wpAnyH_ready (rs := [6]) (by kernel_rfl) (by simp) ?_
        refine AllReadyH.cons rfl (fun KK hKK => ?_) AllReadyH.nil
        go_simp
        refine hKK.out _ _ (HS.out _ BWX) (fun hHeld2 => ?_)
        clear hKK KK hHeld
        have hHeld := hHeld2
        clear hHeld2
        have HR9 := Hid.intro HM.out
        have HA9 := Hid.intro HOA.out
        have BW9 := BWX
        have HD9 : Hid (∀ k, (Value.slice aA S.k.e.length capA).ownBlock = some k → ¬ (Value.slice (some ⟨wA.heap.size, 0, none⟩) 0 0).ownBlock = some k) := fun k hk h => by simp only [Value.ownBlock, Option.some.injEq] at h; exact HAM.out k hk h.symm
        refine take1s (i := 7) (d := some 10) (v := ?_) rfl rfl (by kernel_rfl) (by kernel_rfl) (by kernel_rfl) (fun _ _ _ h => h) (Or.inl ⟨by rfl, ?_⟩) (by assumption) ?_
        rotate_left 1
        · intro w hSw
          obtain ⟨q0, q1, q2, q3, q4, q5, q6⟩ := hSw
          go_simp <;> with_reducible rfl
        simp only [Act.put, List.setIfInBounds_toArray]
        try simp only [List.set_cons_succ]
        try simp only [List.set_cons_zero]
        refine wpAnyH_ready (rs := [8]) (by kernel_rfl) (by simp) ?_
        refine AllReadyH.cons rfl (fun KK hKK => ?_) AllReadyH.nil
        obtain ⟨_, _, _, d2, g2, hz2, _⟩ := HC.out _ BW9
        go_simp
        obtain ⟨V, hV⟩ : ∃ V, ((((((X.setCell ⟨w.heap.size + 1, 0, none⟩ (.int .i64 S.k.t)).setCell ⟨w.heap.size + 1, 1, none⟩ (.int .i64 S.k.v)).setCell ⟨w.heap.size + 1, 2, none⟩ (.int .i64 S.k.si)).setCell ⟨w.heap.size + 1, 3, none⟩ (.int .i64 S.k.st)).setCell ⟨w.heap.size + 1, 4, none⟩ (.string S.k.sd)).setCell ⟨w.heap.size + 1, 5, none⟩ (.slice aA S.k.e.length capA)).setCell ⟨w.heap.size + 1, 6, none⟩ (.slice (some ⟨wA.heap.size, 0, none⟩) 0 0) = V := ⟨_, rfl⟩
        have eV : setC X (w.heap.size + 1) 0 [.int .i64 S.k.t, .int .i64 S.k.v, .int .i64 S.k.si, .int .i64 S.k.st, .string S.k.sd, .slice aA S.k.e.length capA, (.slice (some ⟨wA.heap.size, 0, none⟩) 0 0)] = V := by rw [← hV]; rfl
        have oV : Only (fun k => k = w.heap.size + 1) X V := by rw [← eV]; exact only_setC _ _ _ _
        have kV : Blk V (w.heap.size + 1) #[.int .i64 S.k.t, .int .i64 S.k.v, .int .i64 S.k.si, .int .i64 S.k.st, .string S.k.sd, .slice aA S.k.e.length capA, (.slice (some ⟨wA.heap.size, 0, none⟩) 0 0)] := by rw [← eV]; exact (Blk.mk hz2 d2 g2).all _ rfl
        clear eV
        simp only [hV]
        have O9 : Only (fun k => w1.heap.size ≤ k ∨ k = w.heap.size + 1) w1 V := Only.then ((Below.only BW9).mono (fun k _ h => .inl h)) oV (fun k _ h => .inr h)
        refine hKK.out _ _ (HS2.out _ O9) (fun hHeld2 => ?_)
        clear hKK KK hHeld hV
        have hHeld := hHeld2
        clear hHeld2
        refine wpAnyH_done (by kernel_rfl) ?_ _
        have HB9 := Hid.intro ((B1.trans (BW9.mono B1.size)).trans (oV.below (show w.heap.size ≤ X.heap.size by omega) (fun k hk h => by omega)))
        have HA10 := Hid.intro (HA9.out.only oV (fun k hk h => by have := (HA9.out.lt k hk).1; omega))
        have HR10 := Hid.intro (HR9.out.only oV (fun k hk h => by have := (HR9.out.lt k hk).1; omega))
        have HZ9 := Hid.intro hz1
        have k9 := kV.cell
        clear HC HS HS2 hHeld BW9 kV oV O9 HA9 HR9 d2 g2
        go_wp2
        exact bodyPost_ret (v := stV S (.slice aA S.k.e.length capA) (.slice (some ⟨wA.heap.size, 0, none⟩) 0 0)) (by simp [results, Try.results45, go_sem, k9]) rfl ⟨_, _, rfl, OwnE.lower HA10.out (show w.heap.size ≤ w1.heap.size by have := HZ9.out; omega), by rw [H0.out]; exact OwnR.lower HR10.out (show w.heap.size ≤ w1.heap.size by have := HZ9.out; omega), HD9.out, HB9.out⟩
      · skip
        go_simp
        have bX := (Below.refl D.heap.size D).alloc (Nat.le_refl _) (.cells #[] 70)
        have zX : (D.alloc (.cells #[] 70)).heap.size = D.heap.size + 1 := by simp
        have mX : OwnR (D.alloc (.cells #[] 70)) w1.heap.size (.slice (some ⟨D.heap.size, 0, none⟩) 0 0) [] := madeR D _ BWD.size
        generalize D.alloc (.cells #[] 70) = X at bX zX mX ⊢
        have BWX : Below w1.heap.size w1 X := BWD.trans (bX.mono BWD.size)
        have HMX := Hid.intro mX
        refine hKK.out _ _ (HS.out _ BWX) (fun hHeld2 => ?_)
        clear hKK KK hHeld
        have hHeld := hHeld2
        clear hHeld2
        refine wpAnyH_ready (rs := [2]) (by kernel_rfl) (by simp) ?_
        refine AllReadyH.cons rfl (fun KK hKK => ?_) AllReadyH.nil
        go_simp
        refine (l3Copy_any S.k v N X (HC.out _ BWX).2.2.1 (HC.out _ BWX).1 (by omega)).mono ?_
        rintro e wA ⟨vA, rfl, oA, bA⟩
        obtain ⟨aA, capA, rfl⟩ := oA.slice
        have BWwA : Below w1.heap.size w1 wA := BWX.trans (bA.mono BWX.size)
        have HOA := Hid.intro (OwnE.lower oA BWX.size)
        have HM := Hid.intro (HMX.out.kept bA)
        have HAM : Hid (∀ k, (Value.slice aA S.k.e.length capA).ownBlock = some k → ¬ k = D.heap.size) := fun k hk h => by have := (oA.lt k hk).1; omega
        clear oA bA
        go_simp
        refine hKK.out _ _ (HS.out _ BWwA) (fun hHeld2 => ?_)
        clear hKK KK hHeld
        have hHeld := hHeld2
        clear hHeld2
        refine wpAnyH_ready (rs := [6]) (by kernel_rfl) (by simp) ?_
        refine AllReadyH.cons rfl (fun KK hKK => ?_) AllReadyH.nil
        go_simp
        refine hKK.out _ _ (HS.out _ BWwA) (fun hHeld2 => ?_)
        clear hKK KK hHeld
        have hHeld := hHeld2
        clear hHeld2
        have HR9 := Hid.intro HM.out
        have HA9 := Hid.intro HOA.out
        have BW9 := BWwA
        have HD9 : Hid (∀ k, (Value.slice aA S.k.e.length capA).ownBlock = some k → ¬ (Value.slice (some ⟨D.heap.size, 0, none⟩) 0 0).ownBlock = some k) := fun k hk h => by simp only [Value.ownBlock, Option.some.injEq] at h; exact HAM.out k hk h.symm
        refine take1s (i := 7) (d := some 10) (v := ?_) rfl rfl (by kernel_rfl) (by kernel_rfl) (by kernel_rfl) (fun _ _ _ h => h) (Or.inl ⟨by rfl, ?_⟩) (by assumption) ?_
        rotate_left 1
        · intro w hSw
          obtain ⟨q0, q1, q2, q3, q4, q5, q6⟩ := hSw
          go_simp <;> with_reducible rfl
        simp only [Act.put, List.setIfInBounds_toArray]
        try simp only [List.set_cons_succ]
        try simp only [List.set_cons_zero]
        refine wpAnyH_ready (rs := [8]) (by kernel_rfl) (by simp) ?_
        refine AllReadyH.cons rfl (fun KK hKK => ?_) AllReadyH.nil
        obtain ⟨_, _, _, d2, g2, hz2, _⟩ := HC.out _ BW9
        go_simp
        obtain ⟨V, hV⟩ : ∃ V, ((((((wA.setCell ⟨w.heap.size + 1, 0, none⟩ (.int .i64 S.k.t)).setCell ⟨w.heap.size + 1, 1, none⟩ (.int .i64 S.k.v)).setCell ⟨w.heap.size + 1, 2, none⟩ (.int .i64 S.k.si)).setCell ⟨w.heap.size + 1, 3, none⟩ (.int .i64 S.k.st)).setCell ⟨w.heap.size + 1, 4, none⟩ (.string S.k.sd)).setCell ⟨w.heap.size + 1, 5, none⟩ (.slice aA S.k.e.length capA)).setCell ⟨w.heap.size + 1, 6, none⟩ (.slice (some ⟨D.heap.size, 0, none⟩) 0 0) = V := ⟨_, rfl⟩
        have eV : setC wA (w.heap.size + 1) 0 [.int .i64 S.k.t, .int .i64 S.k.v, .int .i64 S.k.si, .int .i64 S.k.st, .string S.k.sd, .slice aA S.k.e.length capA, (.slice (some ⟨D.heap.size, 0, none⟩) 0 0)] = V := by rw [← hV]; rfl
        have oV : Only (fun k => k = w.heap.size + 1) wA V := by rw [← eV]; exact only_setC _ _ _ _
        have kV : Blk V (w.heap.size + 1) #[.int .i64 S.k.t, .int .i64 S.k.v, .int .i64 S.k.si, .int .i64 S.k.st, .string S.k.sd, .slice aA S.k.e.length capA, (.slice (some ⟨D.heap.size, 0, none⟩) 0 0)] := by rw [← eV]; exact (Blk.mk hz2 d2 g2).all _ rfl
        clear eV
        simp only [hV]
        have O9 : Only (fun k => w1.heap.size ≤ k ∨ k = w.heap.size + 1) w1 V := Only.then ((Below.only BW9).mono (fun k _ h => .inl h)) oV (fun k _ h => .inr h)
        refine hKK.out _ _ (HS2.out _ O9) (fun hHeld2 => ?_)
        clear hKK KK hHeld hV
        have hHeld := hHeld2
        clear hHeld2
        refine wpAnyH_done (by kernel_rfl) ?_ _
        have HB9 := Hid.intro ((B1.trans (BW9.mono B1.size)).trans (oV.below (show w.heap.size ≤ wA.heap.size by omega) (fun k hk h => by omega)))
        have HA10 := Hid.intro (HA9.out.only oV (fun k hk h => by have := (HA9.out.lt k hk).1; omega))
        have HR10 := Hid.intro (HR9.out.only oV (fun k hk h => by have := (HR9.out.lt k hk).1; omega))
        have HZ9 := Hid.intro hz1
        have k9 := kV.cell
        clear HC HS HS2 hHeld BW9 kV oV O9 HA9 HR9 d2 g2
        go_wp2
        exact bodyPost_ret (v := stV S (.slice aA S.k.e.length capA) (.slice (some ⟨D.heap.size, 0, none⟩) 0 0)) (by simp [results, Try.results45, go_sem, k9]) rfl ⟨_, _, rfl, OwnE.lower HA10.out (show w.heap.size ≤ w1.heap.size by have := HZ9.out; omega), by rw [H0.out]; exact OwnR.lower HR10.out (show w.heap.size ≤ w1.heap.size by have := HZ9.out; omega), HD9.out, HB9.out⟩
  · obtain ⟨au, cu, rfl, lu, mu, h3⟩ := id hu
    obtain ⟨b, off, rfl, hbN, h4⟩ := h3 h0
    have HCL := Hid.intro (hu.cells h0).2
    have hpos : 0 < S.l.length := List.length_pos_iff.2 h0
    have hbw : b < w.heap.size := by omega
    clear h3 h4 hu h0
    go_enter Try.func45, Try.ntmps45
    go_wp2_with fail
    obtain ⟨w1, hW, B1, zW, c1, f1, c2, f2⟩ := boxed2 w #[.int .i64 S.k.t, .int .i64 S.k.v, .int .i64 S.k.si, .int .i64 S.k.st, .string S.k.sd, v, (.slice (some ⟨b, off, none⟩) S.l.length cu)] #[.int .i64 0, .int .i64 0, .int .i64 0, .int .i64 0, .string ⟨#[]⟩, .slice none 0 0, .slice none 0 0] 38 38
    simp only [hW]
    have hz1 : w.heap.size + 1 < w1.heap.size := by omega
    have HC : Hid (∀ w', Below w1.heap.size w1 w' → RowE w' N v S.k.e ∧ True ∧ N ≤ w'.heap.size ∧ (∀ o, w'.cell? ⟨w.heap.size + 1, o, none⟩ = #[.int .i64 0, .int .i64 0, .int .i64 0, .int .i64 0, .string ⟨#[]⟩, .slice none 0 0, .slice none 0 0][o]?) ∧ (∀ o, w'.frozen? ⟨w.heap.size + 1, o, none⟩ = false) ∧ w.heap.size + 1 < w'.heap.size ∧ Below w.heap.size w w') := fun w' hb =>
      ⟨HR.out.kept ((B1.trans (hb.mono (by omega))).mono hN), trivial, by have := hb.size; omega, keepC hb hz1 c2, keepF hb hz1 f2, by have := hb.size; omega, B1.trans (hb.mono (by omega))⟩
    have HS : Hid (∀ w', Below w1.heap.size w1 w' → SLo S v (.slice (some ⟨b, off, none⟩) S.l.length cu) w.heap.size w') := fun w' hb => by
      have d1 := keepC hb (by omega) c1
      exact ⟨by rw [d1]; rfl, by rw [d1]; rfl, by rw [d1]; rfl, by rw [d1]; rfl, by rw [d1]; rfl, by rw [d1]; rfl, by rw [d1]; rfl⟩
    have HS2 : Hid (∀ w', Only (fun k => w1.heap.size ≤ k ∨ k = w.heap.size + 1) w1 w' → SLo S v (.slice (some ⟨b, off, none⟩) S.l.length cu) w.heap.size w') := fun w' hb => by
      have d1 : ∀ o, w'.cell? ⟨w.heap.size, o, none⟩ = _ := fun o => (hb.cell (show w.heap.size < w1.heap.size by omega) (by omega)).trans (c1 o)
      exact ⟨by rw [d1]; rfl, by rw [d1]; rfl, by rw [d1]; rfl, by rw [d1]; rfl, by rw [d1]; rfl, by rw [d1]; rfl, by rw [d1]; rfl⟩
    clear hW zW c1 c2 f1 f2
    refine wp_region_held_drew (S := SLo S v (.slice (some ⟨b, off, none⟩) S.l.length cu) w.heap.size) (by kernel_rfl) (HS.out _ (Below.refl _ _).drew) (fun hHeld => ?_)
    have BWD : Below w1.heap.size w1 w1.drew := (Below.refl _ _).drew
    generalize w1.drew = D at BWD hHeld ⊢
    refine take1s (i := 0) (d := some 3) (v := ?_) rfl rfl (by kernel_rfl) (by kernel_rfl) (by kernel_rfl) (fun _ _ _ h => h) (Or.inl ⟨by rfl, ?_⟩) (by assumption) ?_
    rotate_left 1
    · intro w hSw
      obtain ⟨q0, q1, q2, q3, q4, q5, q6⟩ := hSw
      go_simp <;> with_reducible rfl
    simp only [Act.put, List.setIfInBounds_toArray]
    try simp only [List.set_cons_succ]
    try simp only [List.set_cons_zero]
    refine take1s (i := 1) (d := some 4) (v := ?_) rfl rfl (by kernel_rfl) (by kernel_rfl) (by kernel_rfl) (fun _ _ _ h => h) (Or.inl ⟨by rfl, ?_⟩) (by assumption) ?_
    rotate_left 1
    · intro w hSw
      obtain ⟨q0, q1, q2, q3, q4, q5, q6⟩ := hSw
      go_simp <;> with_reducible rfl
    simp only [Act.put, List.setIfInBounds_toArray]
    try simp only [List.set_cons_succ]
    try simp only [List.set_cons_zero]
    refine take1s (i := 4) (d := some 7) (v := ?_) rfl rfl (by kernel_rfl) (by kernel_rfl) (by kernel_rfl) (fun _ _ _ h => h) (Or.inl ⟨by rfl, ?_⟩) (by assumption) ?_
    rotate_left 1
    · intro w hSw
      obtain ⟨q0, q1, q2, q3, q4, q5, q6⟩ := hSw
      go_simp <;> with_reducible rfl
    simp only [Act.put, List.setIfInBounds_toArray]
    try simp only [List.set_cons_succ]
    try simp only [List.set_cons_zero]
    refine take1s (i := 5) (d := some 8) (v := ?_) rfl rfl (by kernel_rfl) (by kernel_rfl) (by kernel_rfl) (fun _ _ _ h => h) (Or.inl ⟨by rfl, ?_⟩) (by assumption) ?_
    rotate_left 1
    · intro w hSw
      obtain ⟨q0, q1, q2, q3, q4, q5, q6⟩ := hSw
      go_simp <;> with_reducible rfl
    simp only [Act.put, List.setIfInBounds_toArray]
    try simp only [List.set_cons_succ]
    try simp only [List.set_cons_zero]
    refine wpAnyH_ready (rs := [2, 3]) (by kernel_rfl) (by simp) ?_
    refine AllReadyH.cons rfl (fun KK hKK => ?_) (AllReadyH.cons rfl (fun KK hKK => ?_) AllReadyH.nil)
    · skip
      go_simp
      refine (l3Copy_any S.k v N D (HC.out _ BWD).2.2.1 (HC.out _ BWD).1 (by omega)).mono ?_
      rintro e wA ⟨vA, rfl, oA, bA⟩
      obtain ⟨aA, capA, rfl⟩ := oA.slice
      have BWwA : Below w1.heap.size w1 wA := BWD.trans (bA.mono BWD.size)
      have HOA := Hid.intro (OwnE.lower oA BWD.size)
      have HLA : Hid (∀ k, (Value.slice aA S.k.e.length capA).ownBlock = some k → k < wA.heap.size) := fun k hk => (oA.lt k hk).2
      clear oA bA
      go_simp
      refine hKK.out _ _ (HS.out _ BWwA) (fun hHeld2 => ?_)
      clear hKK KK hHeld
      have hHeld := hHeld2
      clear hHeld2
      refine wpAnyH_ready (rs := [3]) (by kernel_rfl) (by simp) ?_
      refine AllReadyH.cons rfl (fun KK hKK => ?_) AllReadyH.nil
      go_simp
      have bX := (Below.refl wA.heap.size wA).alloc (Nat.le_refl _) (.cells #[] 70)
      have zX : (wA.alloc (.cells #[] 70)).heap.size = wA.heap.size + 1 := by simp
      have mX : OwnR (wA.alloc (.cells #[] 70)) w1.heap.size (.slice (some ⟨wA.heap.size, 0, none⟩) 0 0) [] := madeR wA _ BWwA.size
      generalize wA.alloc (.cells #[] 70) = X at bX zX mX ⊢
      have BWX : Below w1.heap.size w1 X := BWwA.trans (bX.mono BWwA.size)
      have HMX := Hid.intro mX
      refine hKK.out _ _ (HS.out _ BWX) (fun hHeld2 => ?_)
      clear hKK KK hHeld
      have hHeld := hHeld2
      clear hHeld2
      replace HOA := Hid.intro (HOA.out.kept bX)
      have HM := HMX
      have HAM : Hid (∀ k, (Value.slice aA S.k.e.length capA).ownBlock = some k → ¬ k = wA.heap.size) := fun k hk h => by have := HLA.out k hk; omega
      refine wpAnyH_ready (rs := [6]) (by kernel_rfl) (by simp) ?_
      refine AllReadyH.cons rfl (fun KK hKK => ?_) AllReadyH.nil
      refine step_R rfl _ _ rfl w1.heap.size (.slice (some ⟨wA.heap.size, 0, none⟩) 0 0) [] S.l rfl HM.out ⟨b, off, none⟩ S.l.length cu rfl rfl (cells_later (HC.out _ BWX).2.2.2.2.2.2 hbw HCL.out) (by simp; omega) BWX.size hpos ?_
      intro g cap9 w9 o9 hO9 hloc9 hg9
      simp only [List.length_nil, Nat.zero_add, List.nil_append] at o9 ⊢
      have BWw9 : Below w1.heap.size w1 w9 := BWX.trans (hO9.below BWX.size (fun k hk h => by simp only [Value.ownBlock, Option.some.injEq] at h; have := BWwA.size; omega))
      have HR9 := Hid.intro o9
      have HA9 := Hid.intro (HOA.out.only hO9 (fun k hk h => by simp only [Value.ownBlock, Option.some.injEq] at h; exact HAM.out k hk h))
      have HD9 : Hid (∀ k, (Value.slice aA S.k.e.length capA).ownBlock = some k → ¬ (Value.slice (some ⟨g, 0, none⟩) S.l.length cap9).ownBlock = some k) := fun k hk h => by
        simp only [Value.ownBlock, Option.some.injEq] at h
        rcases hloc9 with h9 | h9
        · simp only [Value.ownBlock, Option.some.injEq] at h9; exact HAM.out k hk (by omega)
        · have := (HOA.out.lt k hk).2; omega
      clear o9 hO9 hloc9 hg9
      go_simp
      refine hKK.out _ _ (HS.out _ BWw9) (fun hHeld2 => ?_)
      clear hKK KK hHeld
      have hHeld := hHeld2
      clear hHeld2
      have BW9 := BWw9
      refine take1s (i := 7) (d := some 10) (v := ?_) rfl rfl (by kernel_rfl) (by kernel_rfl) (by kernel_rfl) (fun _ _ _ h => h) (Or.inl ⟨by rfl, ?_⟩) (by assumption) ?_
      rotate_left 1
      · intro w hSw
        obtain ⟨q0, q1, q2, q3, q4, q5, q6⟩ := hSw
        go_simp <;> with_reducible rfl
      simp only [Act.put, List.setIfInBounds_toArray]
      try simp only [List.set_cons_succ]
      try simp only [List.set_cons_zero]
      refine wpAnyH_ready (rs := [8]) (by kernel_rfl) (by simp) ?_
      refine AllReadyH.cons rfl (fun KK hKK => ?_) AllReadyH.nil
      obtain ⟨_, _, _, d2, g2, hz2, _⟩ := HC.out _ BW9
      go_simp
      obtain ⟨V, hV⟩ : ∃ V, ((((((w9.setCell ⟨w.heap.size + 1, 0, none⟩ (.int .i64 S.k.t)).setCell ⟨w.heap.size + 1, 1, none⟩ (.int .i64 S.k.v)).setCell ⟨w.heap.size + 1, 2, none⟩ (.int .i64 S.k.si)).setCell ⟨w.heap.size + 1, 3, none⟩ (.int .i64 S.k.st)).setCell ⟨w.heap.size + 1, 4, none⟩ (.string S.k.sd)).setCell ⟨w.heap.size + 1, 5, none⟩ (.slice aA S.k.e.length capA)).setCell ⟨w.heap.size + 1, 6, none⟩ (.slice (some ⟨g, 0, none⟩) S.l.length cap9) = V := ⟨_, rfl⟩
      have eV : setC w9 (w.heap.size + 1) 0 [.int .i64 S.k.t, .int .i64 S.k.v, .int .i64 S.k.si, .int .i64 S.k.st, .string S.k.sd, .slice aA S.k.e.length capA, (.slice (some ⟨g, 0, none⟩) S.l.length cap9)] = V := by rw [← hV]; rfl
      have oV : Only (fun k => k = w.heap.size + 1) w9 V := by rw [← eV]; exact only_setC _ _ _ _
      have kV : Blk V (w.heap.size + 1) #[.int .i64 S.k.t, .int .i64 S.k.v, .int .i64 S.k.si, .int .i64 S.k.st, .string S.k.sd, .slice aA S.k.e.length capA, (.slice (some ⟨g, 0, none⟩) S.l.length cap9)] := by rw [← eV]; exact (Blk.mk hz2 d2 g2).all _ rfl
      clear eV
      simp only [hV]
      have O9 : Only (fun k => w1.heap.size ≤ k ∨ k = w.heap.size + 1) w1 V := Only.then ((Below.only BW9).mono (fun k _ h => .inl h)) oV (fun k _ h => .inr h)
      refine hKK.out _ _ (HS2.out _ O9) (fun hHeld2 => ?_)
      clear hKK KK hHeld hV
      have hHeld := hHeld2
      clear hHeld2
      refine wpAnyH_done (by kernel_rfl) ?_ _
      have HB9 := Hid.intro ((B1.trans (BW9.mono B1.size)).trans (oV.below (show w.heap.size ≤ w9.heap.size by omega) (fun k hk h => by omega)))
      have HA10 := Hid.intro (HA9.out.only oV (fun k hk h => by have := (HA9.out.lt k hk).1; omega))
      have HR10 := Hid.intro (HR9.out.only oV (fun k hk h => by have := (HR9.out.lt k hk).1; omega))
      have HZ9 := Hid.intro hz1
      have k9 := kV.cell
      clear HC HS HS2 hHeld BW9 kV oV O9 HA9 HR9 d2 g2
      go_wp2
      exact bodyPost_ret (v := stV S (.slice aA S.k.e.length capA) (.slice (some ⟨g, 0, none⟩) S.l.length cap9)) (by simp [results, Try.results45, go_sem, k9]) rfl ⟨_, _, rfl, OwnE.lower HA10.out (show w.heap.size ≤ w1.heap.size by have := HZ9.out; omega),  OwnR.lower HR10.out (show w.heap.size ≤ w1.heap.size by have := HZ9.out; omega), HD9.out, HB9.out⟩
    · skip
      go_simp
      have bX := (Below.refl D.heap.size D).alloc (Nat.le_refl _) (.cells #[] 70)
      have zX : (D.alloc (.cells #[] 70)).heap.size = D.heap.size + 1 := by simp
      have mX : OwnR (D.alloc (.cells #[] 70)) w1.heap.size (.slice (some ⟨D.heap.size, 0, none⟩) 0 0) [] := madeR D _ BWD.size
      generalize D.alloc (.cells #[] 70) = X at bX zX mX ⊢
      have BWX : Below w1.heap.size w1 X := BWD.trans (bX.mono BWD.size)
      have HMX := Hid.intro mX
      refine hKK.out _ _ (HS.out _ BWX) (fun hHeld2 => ?_)
      clear hKK KK hHeld
      have hHeld := hHeld2
      clear hHeld2
      refine wpAnyH_ready (rs := [2]) (by kernel_rfl) (by simp) ?_
      refine AllReadyH.cons rfl (fun KK hKK => ?_) AllReadyH.nil
      go_simp
      refine (l3Copy_any S.k v N X (HC.out _ BWX).2.2.1 (HC.out _ BWX).1 (by omega)).mono ?_
      rintro e wA ⟨vA, rfl, oA, bA⟩
      obtain ⟨aA, capA, rfl⟩ := oA.slice
      have BWwA : Below w1.heap.size w1 wA := BWX.trans (bA.mono BWX.size)
      have HOA := Hid.intro (OwnE.lower oA BWX.size)
      have HM := Hid.intro (HMX.out.kept bA)
      have HAM : Hid (∀ k, (Value.slice aA S.k.e.length capA).ownBlock = some k → ¬ k = D.heap.size) := fun k hk h => by have := (oA.lt k hk).1; omega
      clear oA bA
      go_simp
      refine hKK.out _ _ (HS.out _ BWwA) (fun hHeld2 => ?_)
      clear hKK KK hHeld
      have hHeld := hHeld2
      clear hHeld2
      refine wpAnyH_ready (rs := [6]) (by kernel_rfl) (by simp) ?_
      refine AllReadyH.cons rfl (fun KK hKK => ?_) AllReadyH.nil
      refine step_R rfl _ _ rfl w1.heap.size (.slice (some ⟨D.heap.size, 0, none⟩) 0 0) [] S.l rfl HM.out ⟨b, off, none⟩ S.l.length cu rfl rfl (cells_later (HC.out _ BWwA).2.2.2.2.2.2 hbw HCL.out) (by simp; omega) BWwA.size hpos ?_
      intro g cap9 w9 o9 hO9 hloc9 hg9
      simp only [List.length_nil, Nat.zero_add, List.nil_append] at o9 ⊢
      have BWw9 : Below w1.heap.size w1 w9 := BWwA.trans (hO9.below BWwA.size (fun k hk h => by simp only [Value.ownBlock, Option.some.injEq] at h; have := BWD.size; omega))
      have HR9 := Hid.intro o9
      have HA9 := Hid.intro (HOA.out.only hO9 (fun k hk h => by simp only [Value.ownBlock, Option.some.injEq] at h; exact HAM.out k hk h))
      have HD9 : Hid (∀ k, (Value.slice aA S.k.e.length capA).ownBlock = some k → ¬ (Value.slice (some ⟨g, 0, none⟩) S.l.length cap9).ownBlock = some k) := fun k hk h => by
        simp only [Value.ownBlock, Option.some.injEq] at h
        rcases hloc9 with h9 | h9
        · simp only [Value.ownBlock, Option.some.injEq] at h9; exact HAM.out k hk (by omega)
        · have := (HOA.out.lt k hk).2; omega
      clear o9 hO9 hloc9 hg9
      go_simp
      refine hKK.out _ _ (HS.out _ BWw9) (fun hHeld2 => ?_)
      clear hKK KK hHeld
      have hHeld := hHeld2
      clear hHeld2
      have BW9 := BWw9
      refine take1s (i := 7) (d := some 10) (v := ?_) rfl rfl (by kernel_rfl) (by kernel_rfl) (by kernel_rfl) (fun _ _ _ h => h) (Or.inl ⟨by rfl, ?_⟩) (by assumption) ?_
      rotate_left 1
      · intro w hSw
        obtain ⟨q0, q1, q2, q3, q4, q5, q6⟩ := hSw
        go_simp <;> with_reducible rfl
      simp only [Act.put, List.setIfInBounds_toArray]
      try simp only [List.set_cons_succ]
      try simp only [List.set_cons_zero]
      refine wpAnyH_ready (rs := [8]) (by kernel_rfl) (by simp) ?_
      refine AllReadyH.cons rfl (fun KK hKK => ?_) AllReadyH.nil
      obtain ⟨_, _, _, d2, g2, hz2, _⟩ := HC.out _ BW9
      go_simp
      obtain ⟨V, hV⟩ : ∃ V, ((((((w9.setCell ⟨w.heap.size + 1, 0, none⟩ (.int .i64 S.k.t)).setCell ⟨w.heap.size + 1, 1, none⟩ (.int .i64 S.k.v)).setCell ⟨w.heap.size + 1, 2, none⟩ (.int .i64 S.k.si)).setCell ⟨w.heap.size + 1, 3, none⟩ (.int .i64 S.k.st)).setCell ⟨w.heap.size + 1, 4, none⟩ (.string S.k.sd)).setCell ⟨w.heap.size + 1, 5, none⟩ (.slice aA S.k.e.length capA)).setCell ⟨w.heap.size + 1, 6, none⟩ (.slice (some ⟨g, 0, none⟩) S.l.length cap9) = V := ⟨_, rfl⟩
      have eV : setC w9 (w.heap.size + 1) 0 [.int .i64 S.k.t, .int .i64 S.k.v, .int .i64 S.k.si, .int .i64 S.k.st, .string S.k.sd, .slice aA S.k.e.length capA, (.slice (some ⟨g, 0, none⟩) S.l.length cap9)] = V := by rw [← hV]; rfl
      have oV : Only (fun k => k = w.heap.size + 1) w9 V := by rw [← eV]; exact only_setC _ _ _ _
      have kV : Blk V (w.heap.size + 1) #[.int .i64 S.k.t, .int .i64 S.k.v, .int .i64 S.k.si, .int .i64 S.k.st, .string S.k.sd, .slice aA S.k.e.length capA, (.slice (some ⟨g, 0, none⟩) S.l.length cap9)] := by rw [← eV]; exact (Blk.mk hz2 d2 g2).all _ rfl
      clear eV
      simp only [hV]
      have O9 : Only (fun k => w1.heap.size ≤ k ∨ k = w.heap.size + 1) w1 V := Only.then ((Below.only BW9).mono (fun k _ h => .inl h)) oV (fun k _ h => .inr h)
      refine hKK.out _ _ (HS2.out _ O9) (fun hHeld2 => ?_)
      clear hKK KK hHeld hV
      have hHeld := hHeld2
      clear hHeld2
      refine wpAnyH_done (by kernel_rfl) ?_ _
      have HB9 := Hid.intro ((B1.trans (BW9.mono B1.size)).trans (oV.below (show w.heap.size ≤ w9.heap.size by omega) (fun k hk h => by omega)))
      have HA10 := Hid.intro (HA9.out.only oV (fun k hk h => by have := (HA9.out.lt k hk).1; omega))
      have HR10 := Hid.intro (HR9.out.only oV (fun k hk h => by have := (HR9.out.lt k hk).1; omega))
      have HZ9 := Hid.intro hz1
      have k9 := kV.cell
      clear HC HS HS2 hHeld BW9 kV oV O9 HA9 HR9 d2 g2
      go_wp2
      exact bodyPost_ret (v := stV S (.slice aA S.k.e.length capA) (.slice (some ⟨g, 0, none⟩) S.l.length cap9)) (by simp [results, Try.results45, go_sem, k9]) rfl ⟨_, _, rfl, OwnE.lower HA10.out (show w.heap.size ≤ w1.heap.size by have := HZ9.out; omega),  OwnR.lower HR10.out (show w.heap.size ≤ w1.heap.size by have := HZ9.out; omega), HD9.out, HB9.out⟩
end Go.Proofs.Ytkilepoimocoeab
