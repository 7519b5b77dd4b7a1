/- KeptStep of the model. -/
import Derived.Test.YtkilepoimocoeaaStepT
import Derived.Test.YtkilepoimocoeaaKStepI
import Derived.Test.YtkilepoimocoeaaKeptS
import Derived.Deep.RegionHeld3
namespace Go.Proofs.Ytkilepoimocoeaa
open Go.RowKit
set_option linter.unusedVariables false
theorem set6 {w : World} {b : Nat} {x0 x1 x2 x3 x4 x5 y0 y1 y2 y3 y4 y5 : Value} (h : ∀ o, w.cell? ⟨b, o, none⟩ = #[y0, y1, y2, y3, y4, y5][o]?) :
    ∃ X, (((((w.setCell ⟨b, 0, none⟩ x0).setCell ⟨b, 1, none⟩ x1).setCell ⟨b, 2, none⟩ x2).setCell ⟨b, 3, none⟩ x3).setCell ⟨b, 4, none⟩ x4).setCell ⟨b, 5, none⟩ x5 = X ∧ X.cell? ⟨b, 0, none⟩ = some x0 ∧ X.cell? ⟨b, 1, none⟩ = some x1 ∧ X.cell? ⟨b, 2, none⟩ = some x2 ∧ X.cell? ⟨b, 3, none⟩ = some x3 ∧ X.cell? ⟨b, 4, none⟩ = some x4 ∧ X.cell? ⟨b, 5, none⟩ = some x5 ∧ Only (fun k => k = b) w X ∧ X.heap.size = w.heap.size := by
  have h0 : w.cell? ⟨b, 0, none⟩ = some y0 := by rw [h]; rfl
  have h1 : w.cell? ⟨b, 1, none⟩ = some y1 := by rw [h]; rfl
  have h2 : w.cell? ⟨b, 2, none⟩ = some y2 := by rw [h]; rfl
  have h3 : w.cell? ⟨b, 3, none⟩ = some y3 := by rw [h]; rfl
  have h4 : w.cell? ⟨b, 4, none⟩ = some y4 := by rw [h]; rfl
  have h5 : w.cell? ⟨b, 5, none⟩ = some y5 := by rw [h]; rfl
  refine ⟨_, rfl, ?_, ?_, ?_, ?_, ?_, ?_, ?_, by simp⟩
  · exact set_other (set_other (set_other (set_other (set_other (set_same h0) (by omega)) (by omega)) (by omega)) (by omega)) (by omega)
  · exact set_other (set_other (set_other (set_other (set_same (set_other h1 (by omega))) (by omega)) (by omega)) (by omega)) (by omega)
  · exact set_other (set_other (set_other (set_same (set_other (set_other h2 (by omega)) (by omega))) (by omega)) (by omega)) (by omega)
  · exact set_other (set_other (set_same (set_other (set_other (set_other h3 (by omega)) (by omega)) (by omega))) (by omega)) (by omega)
  · exact set_other (set_same (set_other (set_other (set_other (set_other h4 (by omega)) (by omega)) (by omega)) (by omega))) (by omega)
  · exact set_same (set_other (set_other (set_other (set_other (set_other h5 (by omega)) (by omega)) (by omega)) (by omega)) (by omega))
  · repeat (refine Only.setCell ?_ (by simp) _)
    exact Only.refl _ _
def SK2 (K : Kp) (v : Value) (r : Rc) (B : Nat) (w' : World) : Prop := w'.cell? ⟨B, 0, none⟩ = some (.int .i64 K.t) ∧ w'.cell? ⟨B, 1, none⟩ = some (.int .i64 K.v) ∧ w'.cell? ⟨B, 2, none⟩ = some (.int .i64 K.si) ∧ w'.cell? ⟨B, 3, none⟩ = some (.int .i64 K.st) ∧ w'.cell? ⟨B, 4, none⟩ = some (.string K.sd) ∧ w'.cell? ⟨B, 5, none⟩ = some v ∧ w'.cell? ⟨B + 1, 0, none⟩ = some (.int .i64 r.k) ∧ w'.cell? ⟨B + 1, 1, none⟩ = some (.int .i64 r.t) ∧ w'.cell? ⟨B + 1, 2, none⟩ = some (.int .i64 r.i) ∧ w'.cell? ⟨B + 1, 3, none⟩ = some (.int .i64 r.v) ∧ w'.cell? ⟨B + 1, 4, none⟩ = some (.string r.d)
set_option maxRecDepth 100000 in
set_option maxHeartbeats 4000000 in
theorem specKeptStep_any (K : Kp) (v : Value) (N : Nat) (r : Rc) (w : World) (hN : N ≤ w.heap.size) (hr : RowE w N v K.e) :
    Calls Try.prog 16 #[kpV K v, rcV r] w fun e w' => ∃ v', e = .returned (.tuple #[kpV (ksK K r) v', .bool (ksB K r)]) ∧ NewE w w' v' (ksK K r).e := by
  have HR := Hid.intro hr
  clear hr
  cases hkb : keptB K with
  | false =>
    rw [ksK_no hkb, ksB_no hkb]
    go_enter Try.func16, Try.ntmps16
    go_wp2_with fail
    obtain ⟨W, hW, bW, zW, c1, f1, c2, f2, c3, f3⟩ := boxed3 w #[.int .i64 K.t, .int .i64 K.v, .int .i64 K.si, .int .i64 K.st, .string K.sd, v] #[.int .i64 r.k, .int .i64 r.t, .int .i64 r.i, .int .i64 r.v, .string r.d] #[.int .i64 0, .int .i64 0, .int .i64 0, .int .i64 0, .string ⟨#[]⟩, .slice none 0 0] 28 43 28
    simp only [hW]
    refine (specKeptOk_any K v N W (by omega) (HR.out.kept (bW.mono hN))).mono ?_
    rintro e w1 ⟨rfl, b1⟩
    replace c3 := keepC b1 (by omega) c3
    replace f3 := keepF b1 (by omega) f3
    have z1 := b1.size
    have HB := Hid.intro (bW.trans (b1.mono (by omega)))
    have hz1 : w.heap.size + 1 + 1 < w1.heap.size := by omega
    clear hW bW zW b1 f1 f2 c1 c2 z1
    go_wp2
    refine bodyPost_ret (v := .tuple #[kpV kpZ (.slice none 0 0), .bool false]) (by simp [results, Try.results16, go_sem, c3, kpZ]) rfl ⟨_, rfl, OwnE.nil _ _, ?_⟩
    repeat (refine Below.setCell ?_ (by simp <;> omega) _)
    exact HB.out
  | true =>
    have hs := Sm.of hkb
    have hle : K.e.length ≤ 60 := hs.2.2
    have HS := Hid.intro hs
    rw [ksK_yes hkb, ksB_yes hkb]
    clear hs
    go_enter Try.func16, Try.ntmps16
    go_wp2_with fail
    obtain ⟨W, hW, bW, zW, c1, f1, c2, f2, c3, f3⟩ := boxed3 w #[.int .i64 K.t, .int .i64 K.v, .int .i64 K.si, .int .i64 K.st, .string K.sd, v] #[.int .i64 r.k, .int .i64 r.t, .int .i64 r.i, .int .i64 r.v, .string r.d] #[.int .i64 0, .int .i64 0, .int .i64 0, .int .i64 0, .string ⟨#[]⟩, .slice none 0 0] 28 43 28
    simp only [hW]
    refine (specKeptOk_any K v N W (by omega) (HR.out.kept (bW.mono hN))).mono ?_
    rintro e w1 ⟨rfl, b1⟩
    have z1 := b1.size
    have B1 := bW.trans (b1.mono (by omega))
    have hz1 : w.heap.size + 1 + 1 < w1.heap.size := by omega
    have hz1b : w.heap.size + 1 < w1.heap.size := by omega
    have hz1c : w.heap.size < w1.heap.size := by omega
    replace c1 := keepC b1 (by omega) c1
    replace c2 := keepC b1 (by omega) c2
    replace c3 := keepC b1 (by omega) c3
    replace f3 := keepF b1 (by omega) f3
    have HC : Hid (∀ w', Below w1.heap.size w1 w' → (∀ o, w'.cell? ⟨w.heap.size, o, none⟩ = #[.int .i64 K.t, .int .i64 K.v, .int .i64 K.si, .int .i64 K.st, .string K.sd, v][o]?) ∧ (∀ o, w'.cell? ⟨w.heap.size + 1, o, none⟩ = #[.int .i64 r.k, .int .i64 r.t, .int .i64 r.i, .int .i64 r.v, .string r.d][o]?) ∧ (∀ o, w'.cell? ⟨w.heap.size + 1 + 1, o, none⟩ = #[.int .i64 0, .int .i64 0, .int .i64 0, .int .i64 0, .string ⟨#[]⟩, .slice none 0 0][o]?) ∧ (∀ o, w'.frozen? ⟨w.heap.size + 1 + 1, o, none⟩ = false) ∧ RowE w' N v K.e ∧ N ≤ w'.heap.size ∧ Below w.heap.size w w' ∧ w.heap.size + 1 + 1 < w'.heap.size) :=
      fun w' hb => ⟨keepC hb (by omega) c1, keepC hb (by omega) c2, keepC hb (by omega) c3, keepF hb (by omega) f3, HR.out.kept ((B1.trans (hb.mono (by omega))).mono hN), by have := hb.size; omega, B1.trans (hb.mono (by omega)), by have := hb.size; omega⟩
    clear hW bW zW b1 f1 f2 z1 c3 f3 B1
    go_wp2
    have HS2 : Hid (∀ w', Below w1.heap.size w1 w' → SK2 K v r w.heap.size w') := fun w' hb => by
      obtain ⟨d1, d2, _⟩ := HC.out w' hb
      exact ⟨by rw [d1]; rfl, by rw [d1]; rfl, by rw [d1]; rfl, by rw [d1]; rfl, by rw [d1]; rfl, by rw [d1]; rfl, by rw [d2]; rfl, by rw [d2]; rfl, by rw [d2]; rfl, by rw [d2]; rfl, by rw [d2]; rfl⟩
    refine wp_region_held_drew (S := SK2 K v r w.heap.size) (by kernel_rfl) (HS2.out _ (Below.refl _ _).drew) (fun hHeld => ?_)
    refine take1 (i := 0) (d := some 13) (v := ?_) rfl rfl (by kernel_rfl) (by kernel_rfl) (by kernel_rfl) (fun _ _ _ h => h) (Or.inl ⟨by rfl, ?_⟩) (by assumption) ?_
    rotate_left 1
    · intro w hSw
      obtain ⟨q0, q1, q2, q3, q4, q5, q6, q7, q8, q9, q10⟩ := hSw
      go_simp <;> with_reducible rfl
    simp only [Act.put, List.setIfInBounds_toArray]
    try simp only [List.set_cons_succ]
    try simp only [List.set_cons_zero]
    refine take1 (i := 2) (d := some 15) (v := ?_) rfl rfl (by kernel_rfl) (by kernel_rfl) (by kernel_rfl) (fun _ _ _ h => h) (Or.inl ⟨by rfl, ?_⟩) (by assumption) ?_
    rotate_left 1
    · intro w hSw
      obtain ⟨q0, q1, q2, q3, q4, q5, q6, q7, q8, q9, q10⟩ := hSw
      go_simp <;> with_reducible rfl
    simp only [Act.put, List.setIfInBounds_toArray]
    try simp only [List.set_cons_succ]
    try simp only [List.set_cons_zero]
    refine wpAnyH_ready (rs := [1, 7]) (by kernel_rfl) (by simp) ?_
    refine AllReadyH.cons rfl (fun KK hKK => ?_) (AllReadyH.cons rfl (fun KK hKK => ?_) AllReadyH.nil)
    · -- the copy first
      go_simp
      refine (l3Copy_any K v N _ (HC.out _ ((Below.refl _ _).drew)).2.2.2.2.2.1 (HC.out _ ((Below.refl _ _).drew)).2.2.2.2.1 (by omega)).mono ?_
      rintro e w2 ⟨v2, rfl, o2, b2⟩
      have BW2 : Below w1.heap.size w1 w2 := Below.trans ((Below.refl _ _).drew) (b2.mono (by simp))
      have HO2 := Hid.intro o2
      have HZ2 := Hid.intro b2
      clear o2 b2
      go_simp
      refine hKK.out _ _ (HS2.out _ BW2) (fun hHeld2 => ?_)
      clear hKK KK hHeld
      have hHeld := hHeld2
      clear hHeld2
      refine wpAnyH_ready (rs := [3, 7]) (by kernel_rfl) (by simp) ?_
      refine AllReadyH.cons rfl (fun KK hKK => ?_) (AllReadyH.cons rfl (fun KK hKK => ?_) AllReadyH.nil)
      · -- then the step
        go_simp
        refine (l3Step_any K v2 w1.heap.size r _ BW2.size (OwnE.lower HO2.out (by simp)) HS.out).mono ?_
        rintro e w3 ⟨v3, rfl, o3, l3, q3⟩
        obtain ⟨a3, cap3, rfl⟩ := o3.slice
        have HV2 : Hid (∀ k, v2.ownBlock = some k → w1.heap.size ≤ k ∧ k < w2.heap.size) := fun k hk => ⟨Nat.le_trans (by simp) (HO2.out.lt k hk).1, (HO2.out.lt k hk).2⟩
        have BW3 : Below w1.heap.size w1 w3 := BW2.trans (q3.below BW2.size (fun k hk h => by have := (HV2.out k h.symm).1; omega))
        have HN3 : Hid (∀ k, (Value.slice a3 (nextK K r).e.length cap3).ownBlock = some k → ¬ (k = w.heap.size + 1 + 1)) := fun k hk h => by
          have h3 := o3.lt k hk
          have h4 := l3 k hk
          omega
        have HO3 := Hid.intro o3
        clear o3 l3 q3
        go_simp
        refine hKK.out _ _ (HS2.out _ BW3) (fun hHeld2 => ?_)
        clear hKK KK hHeld
        have hHeld := hHeld2
        clear hHeld2
        refine take1 (i := 4) (d := some 12) (v := ?_) rfl rfl (by kernel_rfl) (by kernel_rfl) (by kernel_rfl) (fun _ _ _ h => h) (Or.inl ⟨by rfl, ?_⟩) (by assumption) ?_
        rotate_left 1
        · intro w hSw
          obtain ⟨q0, q1, q2, q3, q4, q5, q6, q7, q8, q9, q10⟩ := hSw
          go_simp <;> with_reducible rfl
        simp only [Act.put, List.setIfInBounds_toArray]
        try simp only [List.set_cons_succ]
        try simp only [List.set_cons_zero]
        refine take1 (i := 5) (d := some 17) (v := ?_) rfl rfl (by kernel_rfl) (by kernel_rfl) (by kernel_rfl) (fun _ _ _ h => h) (Or.inl ⟨by rfl, ?_⟩) (by assumption) ?_
        rotate_left 1
        · intro w hSw
          obtain ⟨q0, q1, q2, q3, q4, q5, q6, q7, q8, q9, q10⟩ := hSw
          go_simp <;> with_reducible rfl
        simp only [Act.put, List.setIfInBounds_toArray]
        try simp only [List.set_cons_succ]
        try simp only [List.set_cons_zero]
        refine take1 (i := 6) (d := some 18) (v := ?_) rfl rfl (by kernel_rfl) (by kernel_rfl) (by kernel_rfl) (fun _ _ _ h => h) (Or.inl ⟨by rfl, ?_⟩) (by assumption) ?_
        rotate_left 1
        · intro w hSw
          obtain ⟨q0, q1, q2, q3, q4, q5, q6, q7, q8, q9, q10⟩ := hSw
          go_simp <;> with_reducible rfl
        simp only [Act.put, List.setIfInBounds_toArray]
        try simp only [List.set_cons_succ]
        try simp only [List.set_cons_zero]
        refine wpAnyH_ready (rs := [7]) (by kernel_rfl) (by simp) ?_
        refine AllReadyH.cons rfl (fun KK hKK => ?_) AllReadyH.nil
        go_simp
        refine hKK.out _ _ (HS2.out _ (BW3.alloc BW3.size _)) (fun hHeld2 => ?_)
        clear hKK KK hHeld
        have hHeld := hHeld2
        clear hHeld2
        refine wpAnyH_ready (rs := [8]) (by kernel_rfl) (by simp) ?_
        refine AllReadyH.cons rfl (fun KK hKK => ?_) AllReadyH.nil
        go_simp
        refine hKK.out _ _ (HS2.out _ (BW3.alloc BW3.size _)) (fun hHeld2 => ?_)
        clear hKK KK hHeld
        have hHeld := hHeld2
        clear hHeld2
        refine take1 (i := 9) (d := some 7) (v := ?_) rfl rfl (by kernel_rfl) (by kernel_rfl) (by kernel_rfl) (fun _ _ _ h => h) (Or.inl ⟨by rfl, ?_⟩) (by assumption) ?_
        rotate_left 1
        · intro w hSw
          obtain ⟨q0, q1, q2, q3, q4, q5, q6, q7, q8, q9, q10⟩ := hSw
          go_simp <;> with_reducible rfl
        simp only [Act.put, List.setIfInBounds_toArray]
        try simp only [List.set_cons_succ]
        try simp only [List.set_cons_zero]
        refine wpAnyH_done (by kernel_rfl) ?_ _
        obtain ⟨_, _, d3, g3, _, _, B3, z3⟩ := HC.out _ BW3
        have HB3 := Hid.intro B3
        have z3b := BW3.size
        obtain ⟨X, hX, bX, zX, cX, fX⟩ := boxed w3 #[.int .i64 (nextK K r).t, .int .i64 (nextK K r).v, .int .i64 (nextK K r).si, .int .i64 (nextK K r).st, .string (nextK K r).sd, .slice a3 (nextK K r).e.length cap3] 28
        simp only [hX]
        have x0 := cX 0
        have x1 := cX 1
        have x2 := cX 2
        have x3 := cX 3
        have x4 := cX 4
        have x5 := cX 5
        simp at x0 x1 x2 x3 x4 x5
        replace d3 := keepC bX z3 d3
        replace g3 := keepF bX z3 g3
        have HOX := Hid.intro (HO3.out.kept bX)
        have HBX := Hid.intro (HB3.out.trans (bX.mono (by omega)))
        have zX2 : w.heap.size + 1 + 1 < X.heap.size := by omega
        clear hX bX zX cX fX
        clear HC HS2 B3 c1 c2 hHeld BW3 BW2 HB3 HO3 HZ2 HO2 z3 z3b
        go_wp2
        refine bodyPost_ret (v := .tuple #[kpV (nextK K r) (.slice a3 (nextK K r).e.length cap3), .bool (goB K r)]) (by simp [results, Try.results16, go_sem, d3]) rfl ⟨_, rfl, ?_, ?_⟩
        · refine OwnE.lower (OwnE.only HOX.out (S := fun k => k = w.heap.size + 1 + 1) ?_ (fun k hk h => HN3.out k hk h)) (show w.heap.size ≤ w1.heap.size by omega)
          repeat (refine Only.setCell ?_ (by simp) _)
          exact Only.refl _ _
        · repeat (refine Below.setCell ?_ (by simp <;> omega) _)
          exact HBX.out
      · -- then the new variable
        go_simp
        refine hKK.out _ _ (HS2.out _ (BW2.alloc BW2.size _)) (fun hHeld2 => ?_)
        clear hKK KK hHeld
        have hHeld := hHeld2
        clear hHeld2
        refine wpAnyH_ready (rs := [3]) (by kernel_rfl) (by simp) ?_
        refine AllReadyH.cons rfl (fun KK hKK => ?_) AllReadyH.nil
        go_simp
        refine (l3Step_any K v2 w1.heap.size r _ (by simp; have := BW2.size; omega) ((OwnE.lower HO2.out (by simp)).kept ((Below.refl _ _).alloc (Nat.le_refl _) _)) HS.out).mono ?_
        rintro e w3 ⟨v3, rfl, o3, l3, q3⟩
        obtain ⟨a3, cap3, rfl⟩ := o3.slice
        have HV2 : Hid (∀ k, v2.ownBlock = some k → w1.heap.size ≤ k ∧ k < w2.heap.size) := fun k hk => ⟨Nat.le_trans (by simp) (HO2.out.lt k hk).1, (HO2.out.lt k hk).2⟩
        have BW3 : Below w1.heap.size w1 w3 := (BW2.alloc BW2.size _).trans (q3.below (by simp; have := BW2.size; omega) (fun k hk h => by have := (HV2.out k h.symm).1; omega))
        have k6 : ∀ o, w3.cell? ⟨w2.heap.size, o, none⟩ = #[.int .i64 0, .int .i64 0, .int .i64 0, .int .i64 0, .string ⟨#[]⟩, .slice none 0 0][o]? := fun o => (q3.cell (by simp) (fun h => by have := (HV2.out _ h.symm).2; omega)).trans (World.cell?_alloc_at _ _ _ _ rfl)
        have g6 : ∀ o, w3.frozen? ⟨w2.heap.size, o, none⟩ = false := fun o => (q3.frozen (by simp) (fun h => by have := (HV2.out _ h.symm).2; omega)).trans (World.frozen?_alloc_at _ _ _ _ rfl)
        have zk6 : w2.heap.size < w3.heap.size := by have := q3.size; simp at this; omega
        have n6 : ¬ w.heap.size + 1 + 1 = w2.heap.size := by have := BW2.size; omega
        have HN3 : Hid (∀ k, (Value.slice a3 (nextK K r).e.length cap3).ownBlock = some k → ¬ (k = w.heap.size + 1 + 1 ∨ k = w2.heap.size)) := fun k hk h => by
          have h3 := o3.lt k hk
          have h4 := l3 k hk
          have := BW2.size; rcases h4 with h5 | h5
          · have := HV2.out k h5; omega
          · simp at h5; omega
        have HO3 := Hid.intro o3
        clear o3 l3 q3
        go_simp
        refine hKK.out _ _ (HS2.out _ BW3) (fun hHeld2 => ?_)
        clear hKK KK hHeld
        have hHeld := hHeld2
        clear hHeld2
        refine take1 (i := 4) (d := some 12) (v := ?_) rfl rfl (by kernel_rfl) (by kernel_rfl) (by kernel_rfl) (fun _ _ _ h => h) (Or.inl ⟨by rfl, ?_⟩) (by assumption) ?_
        rotate_left 1
        · intro w hSw
          obtain ⟨q0, q1, q2, q3, q4, q5, q6, q7, q8, q9, q10⟩ := hSw
          go_simp <;> with_reducible rfl
        simp only [Act.put, List.setIfInBounds_toArray]
        try simp only [List.set_cons_succ]
        try simp only [List.set_cons_zero]
        refine take1 (i := 5) (d := some 17) (v := ?_) rfl rfl (by kernel_rfl) (by kernel_rfl) (by kernel_rfl) (fun _ _ _ h => h) (Or.inl ⟨by rfl, ?_⟩) (by assumption) ?_
        rotate_left 1
        · intro w hSw
          obtain ⟨q0, q1, q2, q3, q4, q5, q6, q7, q8, q9, q10⟩ := hSw
          go_simp <;> with_reducible rfl
        simp only [Act.put, List.setIfInBounds_toArray]
        try simp only [List.set_cons_succ]
        try simp only [List.set_cons_zero]
        refine take1 (i := 6) (d := some 18) (v := ?_) rfl rfl (by kernel_rfl) (by kernel_rfl) (by kernel_rfl) (fun _ _ _ h => h) (Or.inl ⟨by rfl, ?_⟩) (by assumption) ?_
        rotate_left 1
        · intro w hSw
          obtain ⟨q0, q1, q2, q3, q4, q5, q6, q7, q8, q9, q10⟩ := hSw
          go_simp <;> with_reducible rfl
        simp only [Act.put, List.setIfInBounds_toArray]
        try simp only [List.set_cons_succ]
        try simp only [List.set_cons_zero]
        refine wpAnyH_ready (rs := [8]) (by kernel_rfl) (by simp) ?_
        refine AllReadyH.cons rfl (fun KK hKK => ?_) AllReadyH.nil
        go_simp
        refine hKK.out _ _ (HS2.out _ (by (repeat (refine Below.setCell ?_ (by first | (simp; done) | exact BW2.size) _)); exact BW3)) (fun hHeld2 => ?_)
        clear hKK KK hHeld
        have hHeld := hHeld2
        clear hHeld2
        refine take1 (i := 9) (d := some 7) (v := ?_) rfl rfl (by kernel_rfl) (by kernel_rfl) (by kernel_rfl) (fun _ _ _ h => h) (Or.inl ⟨by rfl, ?_⟩) (by assumption) ?_
        rotate_left 1
        · intro w hSw
          obtain ⟨q0, q1, q2, q3, q4, q5, q6, q7, q8, q9, q10⟩ := hSw
          go_simp <;> with_reducible rfl
        simp only [Act.put, List.setIfInBounds_toArray]
        try simp only [List.set_cons_succ]
        try simp only [List.set_cons_zero]
        refine wpAnyH_done (by kernel_rfl) ?_ _
        obtain ⟨_, _, d3, g3, _, _, B3, z3⟩ := HC.out _ BW3
        have HB3 := Hid.intro B3
        have z3b := BW3.size
        obtain ⟨X, hX, x0, x1, x2, x3, x4, x5, oX, zX⟩ := set6 (x0 := .int .i64 (nextK K r).t) (x1 := .int .i64 (nextK K r).v) (x2 := .int .i64 (nextK K r).si) (x3 := .int .i64 (nextK K r).st) (x4 := .string (nextK K r).sd) (x5 := .slice a3 (nextK K r).e.length cap3) k6
        simp only [hX]
        replace d3 : ∀ o, X.cell? ⟨w.heap.size + 1 + 1, o, none⟩ = #[.int .i64 0, .int .i64 0, .int .i64 0, .int .i64 0, .string ⟨#[]⟩, .slice none 0 0][o]? := fun o => (oX.cell z3 n6).trans (d3 o)
        replace g3 : ∀ o, X.frozen? ⟨w.heap.size + 1 + 1, o, none⟩ = false := fun o => (oX.frozen z3 n6).trans (g3 o)
        have HOX := Hid.intro (HO3.out.only oX (fun k hk h => HN3.out k hk (.inr h)))
        have HBX := Hid.intro (HB3.out.trans (oX.below HB3.out.size (fun k hk h => by have := BW2.size; omega)))
        have zX2 : w.heap.size + 1 + 1 < X.heap.size := by omega
        clear hX oX zX k6 g6 zk6
        clear HC HS2 B3 c1 c2 hHeld BW3 BW2 HB3 HO3 HZ2 HO2 z3 z3b
        go_wp2
        refine bodyPost_ret (v := .tuple #[kpV (nextK K r) (.slice a3 (nextK K r).e.length cap3), .bool (goB K r)]) (by simp [results, Try.results16, go_sem, d3]) rfl ⟨_, rfl, ?_, ?_⟩
        · refine OwnE.lower (OwnE.only HOX.out (S := fun k => k = w.heap.size + 1 + 1) ?_ (fun k hk h => HN3.out k hk (.inl h))) (show w.heap.size ≤ w1.heap.size by omega)
          repeat (refine Only.setCell ?_ (by simp) _)
          exact Only.refl _ _
        · repeat (refine Below.setCell ?_ (by simp <;> omega) _)
          exact HBX.out
    · -- the new variable first
      go_simp
      refine hKK.out _ _ (HS2.out _ ((Below.refl _ _).drew.alloc (Nat.le_refl _) _)) (fun hHeld2 => ?_)
      clear hKK KK hHeld
      have hHeld := hHeld2
      clear hHeld2
      refine wpAnyH_ready (rs := [1]) (by kernel_rfl) (by simp) ?_
      refine AllReadyH.cons rfl (fun KK hKK => ?_) AllReadyH.nil
      go_simp
      refine (l3Copy_any K v N _ (HC.out _ ((Below.refl _ _).drew.alloc (Nat.le_refl _) _)).2.2.2.2.2.1 (HC.out _ ((Below.refl _ _).drew.alloc (Nat.le_refl _) _)).2.2.2.2.1 (by omega)).mono ?_
      rintro e w2 ⟨v2, rfl, o2, b2⟩
      have BW2 : Below w1.heap.size w1 w2 := Below.trans ((Below.refl _ _).drew.alloc (Nat.le_refl _) _) (b2.mono (by simp))
      have HO2 := Hid.intro o2
      have HZ2 := Hid.intro b2
      clear o2 b2
      go_simp
      refine hKK.out _ _ (HS2.out _ BW2) (fun hHeld2 => ?_)
      clear hKK KK hHeld
      have hHeld := hHeld2
      clear hHeld2
      refine wpAnyH_ready (rs := [3]) (by kernel_rfl) (by simp) ?_
      refine AllReadyH.cons rfl (fun KK hKK => ?_) AllReadyH.nil
      go_simp
      refine (l3Step_any K v2 w1.heap.size r _ BW2.size (OwnE.lower HO2.out (by simp)) HS.out).mono ?_
      rintro e w3 ⟨v3, rfl, o3, l3, q3⟩
      obtain ⟨a3, cap3, rfl⟩ := o3.slice
      have HV2 : Hid (∀ k, v2.ownBlock = some k → w1.heap.size ≤ k ∧ k < w2.heap.size) := fun k hk => ⟨Nat.le_trans (by simp) (HO2.out.lt k hk).1, (HO2.out.lt k hk).2⟩
      have BW3 : Below w1.heap.size w1 w3 := BW2.trans (q3.below BW2.size (fun k hk h => by have := (HV2.out k h.symm).1; omega))
      have k6 : ∀ o, w3.cell? ⟨w1.heap.size, o, none⟩ = #[.int .i64 0, .int .i64 0, .int .i64 0, .int .i64 0, .string ⟨#[]⟩, .slice none 0 0][o]? := fun o => (q3.cell (by have := HZ2.out.size; simp at this; omega) (fun h => by have := (HO2.out.lt _ h.symm).1; simp at this; omega)).trans ((HZ2.out.cell (p := ⟨w1.heap.size, o, none⟩) (by simp)).trans (World.cell?_alloc_at _ _ _ _ rfl))
      have g6 : ∀ o, w3.frozen? ⟨w1.heap.size, o, none⟩ = false := fun o => (q3.frozen (by have := HZ2.out.size; simp at this; omega) (fun h => by have := (HO2.out.lt _ h.symm).1; simp at this; omega)).trans ((HZ2.out.frozen (p := ⟨w1.heap.size, o, none⟩) (by simp)).trans (World.frozen?_alloc_at _ _ _ _ rfl))
      have zk6 : w1.heap.size < w3.heap.size := by have := q3.size; have := HZ2.out.size; simp at this; omega
      have n6 : ¬ w.heap.size + 1 + 1 = w1.heap.size := by omega
      have HN3 : Hid (∀ k, (Value.slice a3 (nextK K r).e.length cap3).ownBlock = some k → ¬ (k = w.heap.size + 1 + 1 ∨ k = w1.heap.size)) := fun k hk h => by
        have h3 := o3.lt k hk
        have h4 := l3 k hk
        rcases h4 with h5 | h5
        · have := (HO2.out.lt k h5).1; simp at this; omega
        · have := HZ2.out.size; simp at this; omega
      have HO3 := Hid.intro o3
      clear o3 l3 q3
      go_simp
      refine hKK.out _ _ (HS2.out _ BW3) (fun hHeld2 => ?_)
      clear hKK KK hHeld
      have hHeld := hHeld2
      clear hHeld2
      refine take1 (i := 4) (d := some 12) (v := ?_) rfl rfl (by kernel_rfl) (by kernel_rfl) (by kernel_rfl) (fun _ _ _ h => h) (Or.inl ⟨by rfl, ?_⟩) (by assumption) ?_
      rotate_left 1
      · intro w hSw
        obtain ⟨q0, q1, q2, q3, q4, q5, q6, q7, q8, q9, q10⟩ := hSw
        go_simp <;> with_reducible rfl
      simp only [Act.put, List.setIfInBounds_toArray]
      try simp only [List.set_cons_succ]
      try simp only [List.set_cons_zero]
      refine take1 (i := 5) (d := some 17) (v := ?_) rfl rfl (by kernel_rfl) (by kernel_rfl) (by kernel_rfl) (fun _ _ _ h => h) (Or.inl ⟨by rfl, ?_⟩) (by assumption) ?_
      rotate_left 1
      · intro w hSw
        obtain ⟨q0, q1, q2, q3, q4, q5, q6, q7, q8, q9, q10⟩ := hSw
        go_simp <;> with_reducible rfl
      simp only [Act.put, List.setIfInBounds_toArray]
      try simp only [List.set_cons_succ]
      try simp only [List.set_cons_zero]
      refine take1 (i := 6) (d := some 18) (v := ?_) rfl rfl (by kernel_rfl) (by kernel_rfl) (by kernel_rfl) (fun _ _ _ h => h) (Or.inl ⟨by rfl, ?_⟩) (by assumption) ?_
      rotate_left 1
      · intro w hSw
        obtain ⟨q0, q1, q2, q3, q4, q5, q6, q7, q8, q9, q10⟩ := hSw
        go_simp <;> with_reducible rfl
      simp only [Act.put, List.setIfInBounds_toArray]
      try simp only [List.set_cons_succ]
      try simp only [List.set_cons_zero]
      refine wpAnyH_ready (rs := [8]) (by kernel_rfl) (by simp) ?_
      refine AllReadyH.cons rfl (fun KK hKK => ?_) AllReadyH.nil
      go_simp
      refine hKK.out _ _ (HS2.out _ (by (repeat (refine Below.setCell ?_ (by first | (simp; done) | exact BW2.size) _)); exact BW3)) (fun hHeld2 => ?_)
      clear hKK KK hHeld
      have hHeld := hHeld2
      clear hHeld2
      refine take1 (i := 9) (d := some 7) (v := ?_) rfl rfl (by kernel_rfl) (by kernel_rfl) (by kernel_rfl) (fun _ _ _ h => h) (Or.inl ⟨by rfl, ?_⟩) (by assumption) ?_
      rotate_left 1
      · intro w hSw
        obtain ⟨q0, q1, q2, q3, q4, q5, q6, q7, q8, q9, q10⟩ := hSw
        go_simp <;> with_reducible rfl
      simp only [Act.put, List.setIfInBounds_toArray]
      try simp only [List.set_cons_succ]
      try simp only [List.set_cons_zero]
      refine wpAnyH_done (by kernel_rfl) ?_ _
      obtain ⟨_, _, d3, g3, _, _, B3, z3⟩ := HC.out _ BW3
      have HB3 := Hid.intro B3
      have z3b := BW3.size
      obtain ⟨X, hX, x0, x1, x2, x3, x4, x5, oX, zX⟩ := set6 (x0 := .int .i64 (nextK K r).t) (x1 := .int .i64 (nextK K r).v) (x2 := .int .i64 (nextK K r).si) (x3 := .int .i64 (nextK K r).st) (x4 := .string (nextK K r).sd) (x5 := .slice a3 (nextK K r).e.length cap3) k6
      simp only [hX]
      replace d3 : ∀ o, X.cell? ⟨w.heap.size + 1 + 1, o, none⟩ = #[.int .i64 0, .int .i64 0, .int .i64 0, .int .i64 0, .string ⟨#[]⟩, .slice none 0 0][o]? := fun o => (oX.cell z3 n6).trans (d3 o)
      replace g3 : ∀ o, X.frozen? ⟨w.heap.size + 1 + 1, o, none⟩ = false := fun o => (oX.frozen z3 n6).trans (g3 o)
      have HOX := Hid.intro (HO3.out.only oX (fun k hk h => HN3.out k hk (.inr h)))
      have HBX := Hid.intro (HB3.out.trans (oX.below HB3.out.size (fun k hk h => by have := BW2.size; omega)))
      have zX2 : w.heap.size + 1 + 1 < X.heap.size := by omega
      clear hX oX zX k6 g6 zk6
      clear HC HS2 B3 c1 c2 hHeld BW3 BW2 HB3 HO3 HZ2 HO2 z3 z3b
      go_wp2
      refine bodyPost_ret (v := .tuple #[kpV (nextK K r) (.slice a3 (nextK K r).e.length cap3), .bool (goB K r)]) (by simp [results, Try.results16, go_sem, d3]) rfl ⟨_, rfl, ?_, ?_⟩
      · refine OwnE.lower (OwnE.only HOX.out (S := fun k => k = w.heap.size + 1 + 1) ?_ (fun k hk h => HN3.out k hk (.inl h))) (show w.heap.size ≤ w1.heap.size by omega)
        repeat (refine Only.setCell ?_ (by simp) _)
        exact Only.refl _ _
      · repeat (refine Below.setCell ?_ (by simp <;> omega) _)
        exact HBX.out
end Go.Proofs.Ytkilepoimocoeaa
