/- FnChanges. -/
import Derived.Test.YtkilepoimocoeaaCDrawCh
import Derived.Test.YtkilepoimocoeaaCStep
import Derived.Test.YtkilepoimocoeaaCSame
import Derived.Test.YtkilepoimocoeaaChI
import Derived.Test.YtkilepoimocoeaaChU
import Derived.Test.YtkilepoimocoeaaRecI
namespace Go.Proofs.Ytkilepoimocoeaa
open Go.RowKit
set_option linter.unusedVariables false
theorem big_no (a : Option Addr) (len cap : Nat) (w : World) (hl : (len : Int) ≤ 1048576) :
    Calls Try.prog 9 #[.slice a len cap] w fun e w' => e = .returned (.bool false) ∧ w = w' := by
  go_enter Try.func9, Try.ntmps9
  go_wp2
  go_ret
  exact ⟨by first | (simp; done) | (simp; omega), rfl⟩
theorem big_yes (a : Option Addr) (len cap : Nat) (w : World) (hl : ¬ (len : Int) ≤ 1048576) (hm : len ≤ 9223372036854775807) :
    Calls Try.prog 9 #[.slice a len cap] w fun e w' => e = .returned (.bool true) ∧ w = w' := by
  go_enter Try.func9, Try.ntmps9
  go_wp2
  go_ret
  exact ⟨by first | (simp; done) | (simp; omega), rfl⟩
/-- What chB says. -/
theorem chB_out {A B : Kp} (h : chB A B = true) : keptB A = true ∧ keptB B = true ∧ foldK A (chL A B) = some B := by
  simp only [chB, Bool.and_eq_true] at h
  obtain ⟨⟨h1, h2⟩, h3⟩ := h
  refine ⟨h1, h2, ?_⟩
  obtain ⟨K, hK⟩ := Option.isSome_iff_exists.1 h3
  rw [hK, ch_end hK]
def SCh (K : Kp) (v : Value) (r : Rc) (kb b o : Nat) (w' : World) : Prop := w'.cell? ⟨kb, 0, none⟩ = some (.int .i64 K.t) ∧ w'.cell? ⟨kb, 1, none⟩ = some (.int .i64 K.v) ∧ w'.cell? ⟨kb, 2, none⟩ = some (.int .i64 K.si) ∧ w'.cell? ⟨kb, 3, none⟩ = some (.int .i64 K.st) ∧ w'.cell? ⟨kb, 4, none⟩ = some (.string K.sd) ∧ w'.cell? ⟨kb, 5, none⟩ = some v ∧ w'.cell? ⟨b, o, none⟩ = some (.int .i64 r.k) ∧ w'.cell? ⟨b, o + 1, none⟩ = some (.int .i64 r.t) ∧ w'.cell? ⟨b, o + 2, none⟩ = some (.int .i64 r.i) ∧ w'.cell? ⟨b, o + 3, none⟩ = some (.int .i64 r.v) ∧ w'.cell? ⟨b, o + 4, none⟩ = some (.string r.d)
set_option maxRecDepth 100000 in
set_option maxHeartbeats 8000000 in
theorem fnChanges_law (zs : List Int) (len cap : Nat) (a : Option Addr) (w : World) (hm : len ≤ 9223372036854775807) (hr : RowOk w w.heap.size a len zs) :
    Calls Try.prog 4 #[.slice a len cap] w fun e w' => e = .returned (.bool true) ∧ Below w.heap.size w w' := by
  have HR := Hid.intro hr
  clear hr
  by_cases hl : (len : Int) ≤ 1048576
  · go_enter Try.func4, Try.ntmps4
    go_wp2_with (go_at_call 9; refine (big_no _ _ _ _ hl).mono ?_; rintro e w' ⟨rfl, rfl⟩)
    refine (drawChanges_any zs len w.heap.size cap a w (by omega) (Nat.le_refl _) HR.out).mono ?_
    rintro e w1 ⟨KA, va, KB, vb, rfl, ra, rb, b1⟩
    have HB := Hid.intro b1
    have RA := Hid.intro ra
    have RB := Hid.intro rb
    have z1 := b1.size
    obtain ⟨aa, ca, rfl, _, _, _⟩ := ra
    obtain ⟨ab, cb, rfl, _, _, _⟩ := rb
    clear b1 HR
    go_upto_region 4 with fail
    obtain ⟨U, hU, bU, zU, k3, f3, k4, f4⟩ := boxed2 w1 #[.int .i64 KA.t, .int .i64 KA.v, .int .i64 KA.si, .int .i64 KA.st, .string KA.sd, .slice aa KA.e.length ca] #[.int .i64 KB.t, .int .i64 KB.v, .int .i64 KB.si, .int .i64 KB.st, .string KB.sd, .slice ab KB.e.length cb] 28 28
    try simp only [hU]
    replace HB := Hid.intro (HB.out.trans (bU.mono HB.out.size))
    replace RA := Hid.intro (RA.out.kept bU)
    replace RB := Hid.intro (RB.out.kept bU)
    have B3 : Hid (Blk U w1.heap.size #[.int .i64 KA.t, .int .i64 KA.v, .int .i64 KA.si, .int .i64 KA.st, .string KA.sd, .slice aa KA.e.length ca]) := ⟨by omega, k3, f3⟩
    have B4 : Hid (Blk U (w1.heap.size + 1) #[.int .i64 KB.t, .int .i64 KB.v, .int .i64 KB.si, .int .i64 KB.st, .string KB.sd, .slice ab KB.e.length cb]) := ⟨by omega, k4, f4⟩
    clear hU bU
    go_wp2_with fail
    refine (implChanges_any KA KB _ _ w1.heap.size U (by omega) RA.out RB.out).mono ?_
    rintro e w2 ⟨vl, rfl, ol, b2⟩
    have z2 := b2.size
    obtain ⟨al, cl, rfl⟩ := ol.slice
    have OL := Hid.intro ol
    replace HB := Hid.intro (HB.out.trans (b2.mono HB.out.size))
    replace RA := Hid.intro (RA.out.kept (b2.mono (by omega)))
    replace RB := Hid.intro (RB.out.kept (b2.mono (by omega)))
    replace B3 := Hid.intro (B3.out.kept b2)
    replace B4 := Hid.intro (B4.out.kept b2)
    replace k3 := B3.out.cell
    replace k4 := B4.out.cell
    clear ol b2 f3 f4
    go_wp2_with fail
    refine (specChanges_any KA KB _ _ w1.heap.size w2 (by omega) RA.out RB.out).mono ?_
    rintro e w3 ⟨vs, rfl, os, b3⟩
    have z3 := b3.size
    replace HB := Hid.intro (HB.out.trans (b3.mono HB.out.size))
    replace RA := Hid.intro (RA.out.kept (b3.mono (by omega)))
    replace RB := Hid.intro (RB.out.kept (b3.mono (by omega)))
    replace B3 := Hid.intro (B3.out.kept b3)
    replace B4 := Hid.intro (B4.out.kept b3)
    replace OL := Hid.intro (OL.out.kept b3)
    replace k3 := B3.out.cell
    clear os b3 k4
    cases hcb : chB KA KB with
    | false =>
      have hl0 : (chR KA KB).length = 0 := by rw [chR_no hcb]; rfl
      rw [hl0]
      go_wp2
      go_ret
      exact ⟨by first | rfl | simp, HB.out⟩
    | true =>
      obtain ⟨hkA, hkB, hfo⟩ := chB_out hcb
      have hR : chR KA KB = chL KA KB := by simp [chR, hcb]
      rw [hR] at OL ⊢
      have HFO := Hid.intro hfo
      clear hR hcb hfo
      generalize chL KA KB = R at OL HFO ⊢
      go_upto_region 11 with fail
      obtain ⟨X, hX, bX, zX, k9, f9⟩ := boxed w3 #[.int .i64 KA.t, .int .i64 KA.v, .int .i64 KA.si, .int .i64 KA.st, .string KA.sd, .slice aa KA.e.length ca] 28
      try simp only [hX]
      have X9 : Hid (Blk X w3.heap.size #[.int .i64 KA.t, .int .i64 KA.v, .int .i64 KA.si, .int .i64 KA.st, .string KA.sd, .slice aa KA.e.length ca]) := ⟨by omega, k9, f9⟩
      have NL : Hid (∀ k, (Value.slice al R.length cl).ownBlock = some k → k ≠ w3.heap.size) := fun k hk => by have := (OL.out.lt k hk).2; omega
      replace HB := Hid.intro (HB.out.trans (bX.mono HB.out.size))
      replace RA := Hid.intro (RA.out.kept (bX.mono (by omega)))
      replace RB := Hid.intro (RB.out.kept (bX.mono (by omega)))
      replace B4 := Hid.intro (B4.out.kept bX)
      replace OL := Hid.intro (OL.out.kept bX)
      have hwx : w.heap.size ≤ w3.heap.size := by omega
      have hw13 : w1.heap.size + 1 < w3.heap.size := by omega
      have hx9 : w3.heap.size < X.heap.size := by omega
      have RV0 := Hid.intro (RA.out.up (show w1.heap.size ≤ X.heap.size by omega))
      clear hX bX k9 f9 k3 B3 RA
      generalize w3.heap.size = b9 at *
      obtain ⟨_, _, hvR, hRl, hRm, _⟩ := id OL.out.rowAll
      simp only [Value.slice.injEq, true_and] at hvR
      obtain ⟨rfl, rfl⟩ := hvR
      go_wp2_with fail
      go_loopw [10] (fun s wr => ∃ (j : Nat) (K : Kp) (v : Value), s = .int .i64 j ∧ j ≤ R.length ∧ foldK KA (R.take j) = some K ∧ keptB K = true ∧ Blk wr b9 #[.int .i64 K.t, .int .i64 K.v, .int .i64 K.si, .int .i64 K.st, .string K.sd, v] ∧ RowE wr wr.heap.size v K.e ∧ Only (fun k => k = b9) X wr) (fun s _ => R.length - (intOf s).toNat)
      case atStart => exact ⟨0, KA, _, rfl, Nat.zero_le _, by simp [foldK], hkA, X9.out, RV0.out, Only.refl _ _⟩
      case round =>
        obtain ⟨j, K, v, rfl, hj, hf, hkK, x9, rv, ho⟩ := hrel
        have X9 := Hid.intro x9
        have RV := Hid.intro rv
        have HO := Hid.intro ho
        have hzr := ho.size
        obtain ⟨av2, cv2, rfl, _, _, _⟩ := rv
        clear x9 ho
        by_cases hlt : j < R.length
        · obtain ⟨s1, s2, s3, s4⟩ := fold_at hlt hkK HFO.out hf
          obtain ⟨_, _, hv3, _, _, hcc⟩ := (OL.out.only HO.out (fun k hk e => NL.out k hk e)).rowAll
          simp only [Value.slice.injEq, true_and] at hv3
          obtain ⟨rfl, rfl⟩ := hv3
          obtain ⟨b, off, rfl, hb, hc5⟩ := hcc (by intro h; rw [h] at hlt; simp at hlt)
          obtain ⟨p0, p1, p2, p3, p4⟩ := hc5 j hlt
          generalize R[j] = r at s1 s2 s3 s4 p0 p1 p2 p3 p4
          have HKS := Hid.intro s1
          have HRC := Hid.intro s2
          have HF2 := Hid.intro s3
          have HK2 := Hid.intro s4
          have hb9r := X9.out.hi
          have HS : Hid (∀ w', Below wr.heap.size wr w' → SCh K (.slice av2 K.e.length cv2) r b9 b (off + j * 5) w') := fun w' hw => by
            have c := (X9.out.kept hw).cell
            exact ⟨by rw [c]; rfl, by rw [c]; rfl, by rw [c]; rfl, by rw [c]; rfl, by rw [c]; rfl, by rw [c]; rfl, atCell hw p0 hb, atCell hw p1 hb, atCell hw p2 hb, atCell hw p3 hb, atCell hw p4 hb⟩
          have hjl : (j : Int) < (R.length : Int) := by omega
          have i1 : (0 : Int) ≤ (j : Int) ∧ (j : Int) < (R.length : Int) := by omega
          clear s1 s2 s3 s4 hcc hc5 p0 p1 p2 p3 p4
          go_upto_region 14 with fail
          refine wp_region_held_drew (S := SCh K (.slice av2 K.e.length cv2) r b9 b (off + j * 5)) (by kernel_rfl) (HS.out _ (Below.refl _ _).drew) (fun hHeld => ?_)
          have BWD : Below wr.heap.size wr wr.drew := (Below.refl _ _).drew
          generalize wr.drew = D at BWD hHeld ⊢
          refine take1 (i := 0) (d := some 50) (v := ?_) rfl rfl (by kernel_rfl) (by kernel_rfl) (by kernel_rfl) (fun _ _ _ h => h) (Or.inl ⟨by rfl, ?_⟩) (by assumption) ?_
          rotate_left 1
          · intro w hSw
            obtain ⟨q0, q1, q2, q3, q4, q5, q6, q7, q8, q9, q10⟩ := hSw
            go_simp <;> with_reducible rfl
          simp only [Act.put, List.setIfInBounds_toArray]
          try simp only [List.set_cons_succ]
          try simp only [List.set_cons_zero]
          refine take1 (i := 1) (d := some 51) (v := ?_) rfl rfl (by kernel_rfl) (by kernel_rfl) (by kernel_rfl) (fun _ _ _ h => h) (Or.inl ⟨by rfl, ?_⟩) (by assumption) ?_
          rotate_left 1
          · intro w hSw
            obtain ⟨q0, q1, q2, q3, q4, q5, q6, q7, q8, q9, q10⟩ := hSw
            go_simp <;> with_reducible rfl
          simp only [Act.put, List.setIfInBounds_toArray]
          try simp only [List.set_cons_succ]
          try simp only [List.set_cons_zero]
          refine take1 (i := 2) (d := some 52) (v := ?_) rfl rfl (by kernel_rfl) (by kernel_rfl) (by kernel_rfl) (fun _ _ _ h => h) (Or.inl ⟨by rfl, ?_⟩) (by assumption) ?_
          rotate_left 1
          · intro w hSw
            obtain ⟨q0, q1, q2, q3, q4, q5, q6, q7, q8, q9, q10⟩ := hSw
            go_simp <;> with_reducible rfl
          simp only [Act.put, List.setIfInBounds_toArray]
          try simp only [List.set_cons_succ]
          try simp only [List.set_cons_zero]
          refine take1 (i := 3) (d := some 53) (v := ?_) rfl rfl (by kernel_rfl) (by kernel_rfl) (by kernel_rfl) (fun _ _ _ h => h) (Or.inl ⟨by rfl, ?_⟩) (by assumption) ?_
          rotate_left 1
          · intro w hSw
            obtain ⟨q0, q1, q2, q3, q4, q5, q6, q7, q8, q9, q10⟩ := hSw
            go_simp <;> with_reducible rfl
          simp only [Act.put, List.setIfInBounds_toArray]
          try simp only [List.set_cons_succ]
          try simp only [List.set_cons_zero]
          refine take1 (i := 4) (d := some 54) (v := ?_) rfl rfl (by kernel_rfl) (by kernel_rfl) (by kernel_rfl) (fun _ _ _ h => h) (Or.inl ⟨by rfl, ?_⟩) (by assumption) ?_
          rotate_left 1
          · intro w hSw
            obtain ⟨q0, q1, q2, q3, q4, q5, q6, q7, q8, q9, q10⟩ := hSw
            go_simp <;> with_reducible rfl
          simp only [Act.put, List.setIfInBounds_toArray]
          try simp only [List.set_cons_succ]
          try simp only [List.set_cons_zero]
          refine wpAnyH_ready (rs := [5, 9]) (by kernel_rfl) (by simp) ?_
          refine AllReadyH.cons rfl (fun KK hKK => ?_) (AllReadyH.cons rfl (fun KK hKK => ?_) AllReadyH.nil)
          · skip
            go_simp
            refine (implKeptStep_any K (.slice av2 K.e.length cv2) wr.heap.size r _ BWD.size (RV.out.kept BWD)).mono ?_
            rintro e wC ⟨vC, rfl, oC, bwC⟩
            obtain ⟨aC, capC, rfl⟩ := oC.slice
            try rw [HKS.out]
            have HN : Hid (∀ k, (Value.slice aC (ksK K r).e.length capC).ownBlock = some k → ¬ k = wC.heap.size) := fun k hk h => by have := (oC.lt k hk).2; omega
            have HOC := Hid.intro (OwnE.lower oC BWD.size)
            clear oC
            have BWwC : Below wr.heap.size wr wC := BWD.trans (bwC.mono BWD.size)
            go_simp
            refine hKK.out _ _ (HS.out _ BWwC) (fun hHeld2 => ?_)
            clear hKK KK hHeld
            have hHeld := hHeld2
            clear hHeld2
            refine take1 (i := 6) (d := some 49) (v := ?_) rfl rfl (by kernel_rfl) (by kernel_rfl) (by kernel_rfl) (fun _ _ _ h => h) (Or.inl ⟨by rfl, ?_⟩) (by assumption) ?_
            rotate_left 1
            · intro w hSw
              obtain ⟨q0, q1, q2, q3, q4, q5, q6, q7, q8, q9, q10⟩ := hSw
              go_simp <;> with_reducible rfl
            simp only [Act.put, List.setIfInBounds_toArray]
            try simp only [List.set_cons_succ]
            try simp only [List.set_cons_zero]
            refine take1 (i := 7) (d := some 56) (v := ?_) rfl rfl (by kernel_rfl) (by kernel_rfl) (by kernel_rfl) (fun _ _ _ h => h) (Or.inl ⟨by rfl, ?_⟩) (by assumption) ?_
            rotate_left 1
            · intro w hSw
              obtain ⟨q0, q1, q2, q3, q4, q5, q6, q7, q8, q9, q10⟩ := hSw
              go_simp <;> with_reducible rfl
            simp only [Act.put, List.setIfInBounds_toArray]
            try simp only [List.set_cons_succ]
            try simp only [List.set_cons_zero]
            refine take1 (i := 8) (d := some 57) (v := ?_) rfl rfl (by kernel_rfl) (by kernel_rfl) (by kernel_rfl) (fun _ _ _ h => h) (Or.inl ⟨by rfl, ?_⟩) (by assumption) ?_
            rotate_left 1
            · intro w hSw
              obtain ⟨q0, q1, q2, q3, q4, q5, q6, q7, q8, q9, q10⟩ := hSw
              go_simp <;> with_reducible rfl
            simp only [Act.put, List.setIfInBounds_toArray]
            try simp only [List.set_cons_succ]
            try simp only [List.set_cons_zero]
            refine wpAnyH_ready (rs := [9]) (by kernel_rfl) (by simp) ?_
            refine AllReadyH.cons rfl (fun KK hKK => ?_) AllReadyH.nil
            go_simp
            have bX := (Below.refl wC.heap.size wC).alloc (Nat.le_refl _) (.cells #[.int .i64 0, .int .i64 0, .int .i64 0, .int .i64 0, .string ⟨#[]⟩, .slice none 0 0] 28)
            have zk6 : wC.heap.size < (wC.alloc (.cells #[.int .i64 0, .int .i64 0, .int .i64 0, .int .i64 0, .string ⟨#[]⟩, .slice none 0 0] 28)).heap.size := by simp
            have k6 : ∀ o, (wC.alloc (.cells #[.int .i64 0, .int .i64 0, .int .i64 0, .int .i64 0, .string ⟨#[]⟩, .slice none 0 0] 28)).cell? ⟨wC.heap.size, o, none⟩ = #[.int .i64 0, .int .i64 0, .int .i64 0, .int .i64 0, .string ⟨#[]⟩, .slice none 0 0][o]? := fun o => World.cell?_alloc_at _ _ _ _ rfl
            have g6 : ∀ o, (wC.alloc (.cells #[.int .i64 0, .int .i64 0, .int .i64 0, .int .i64 0, .string ⟨#[]⟩, .slice none 0 0] 28)).frozen? ⟨wC.heap.size, o, none⟩ = false := fun o => World.frozen?_alloc_at _ _ _ _ rfl
            generalize wC.alloc (.cells #[.int .i64 0, .int .i64 0, .int .i64 0, .int .i64 0, .string ⟨#[]⟩, .slice none 0 0] 28) = X at bX zk6 k6 g6 ⊢
            have BWX : Below wr.heap.size wr X := BWwC.trans (bX.mono BWwC.size)
            replace HOC := Hid.intro (HOC.out.kept bX)
            refine hKK.out _ _ (HS.out _ BWX) (fun hHeld2 => ?_)
            clear hKK KK hHeld
            have hHeld := hHeld2
            clear hHeld2
            refine wpAnyH_ready (rs := [10]) (by kernel_rfl) (by simp) ?_
            refine AllReadyH.cons rfl (fun KK hKK => ?_) AllReadyH.nil
            go_simp
            obtain ⟨Y, hY, cY, oY, zY, fY⟩ := put6 (x0 := .int .i64 (ksK K r).t) (x1 := .int .i64 (ksK K r).v) (x2 := .int .i64 (ksK K r).si) (x3 := .int .i64 (ksK K r).st) (x4 := .string (ksK K r).sd) (x5 := .slice aC (ksK K r).e.length capC) k6
            simp only [hY]
            have BWY := BWX.trans (oY.below BWX.size (fun k hk h => by have := BWwC.size; omega))
            refine hKK.out _ _ (HS.out _ BWY) (fun hHeld2 => ?_)
            clear hKK KK hHeld
            have hHeld := hHeld2
            clear hHeld2
            refine take1 (i := 11) (d := some 12) (v := ?_) rfl rfl (by kernel_rfl) (by kernel_rfl) (by kernel_rfl) (fun _ _ _ h => h) (Or.inl ⟨by rfl, ?_⟩) (by assumption) ?_
            rotate_left 1
            · intro w hSw
              obtain ⟨q0, q1, q2, q3, q4, q5, q6, q7, q8, q9, q10⟩ := hSw
              go_simp <;> with_reducible rfl
            simp only [Act.put, List.setIfInBounds_toArray]
            try simp only [List.set_cons_succ]
            try simp only [List.set_cons_zero]
            refine wpAnyH_done (by kernel_rfl) ?_ _
            have HOY := Hid.intro (HOC.out.only oY (fun k hk h => HN.out k hk h))
            have hiy : wC.heap.size < Y.heap.size := by omega
            have hyw : wr.heap.size ≤ wC.heap.size := BWwC.size
            have X9Y := Hid.intro (X9.out.kept BWY)
            have hzY := BWY.size
            obtain ⟨q0, q1, q2, q3, q4, q5, q6, q7, q8, q9, q10⟩ := HS.out _ BWY
            go_upto_region 17 with (go_at_call 24; refine (recOk_any r _).mono ?_; rintro e w7 ⟨rfl, b7⟩; have HB7 := Hid.intro b7; clear b7; rw [HRC.out])
            clear q0 q1 q2 q3 q4 q5 q6 q7 q8 q9 q10
            have cy := keepC HB7.out hiy cY
            have X97 := Hid.intro (X9Y.out.kept HB7.out)
            have HO7 := Hid.intro (HOY.out.kept HB7.out)
            obtain ⟨V, hV, kV, oV⟩ := X97.out.all6 (.int .i64 (ksK K r).t) (.int .i64 (ksK K r).v) (.int .i64 (ksK K r).si) (.int .i64 (ksK K r).st) (.string (ksK K r).sd) (.slice aC (ksK K r).e.length capC)
            have k9 := X97.out.cell
            have f9 := X97.out.fro
            go_wp2_with fail
            try simp only [hV]
            go_roundw
            case rel =>
              refine ⟨j + 1, ksK K r, _, by go_num, by omega, HF2.out, HK2.out, kV, ?_, ?_⟩
              · exact (HO7.out.only oV (fun k hk e => by have := (HO7.out.lt k hk).1; omega)).rowAll
              · exact ((HO.out.trans (Below.any BWY)).trans (Below.any HB7.out)).trans oV
            case measure => simp [intOf]; omega
          · skip
            go_simp
            have bX := (Below.refl D.heap.size D).alloc (Nat.le_refl _) (.cells #[.int .i64 0, .int .i64 0, .int .i64 0, .int .i64 0, .string ⟨#[]⟩, .slice none 0 0] 28)
            have zk6 : D.heap.size < (D.alloc (.cells #[.int .i64 0, .int .i64 0, .int .i64 0, .int .i64 0, .string ⟨#[]⟩, .slice none 0 0] 28)).heap.size := by simp
            have k6 : ∀ o, (D.alloc (.cells #[.int .i64 0, .int .i64 0, .int .i64 0, .int .i64 0, .string ⟨#[]⟩, .slice none 0 0] 28)).cell? ⟨D.heap.size, o, none⟩ = #[.int .i64 0, .int .i64 0, .int .i64 0, .int .i64 0, .string ⟨#[]⟩, .slice none 0 0][o]? := fun o => World.cell?_alloc_at _ _ _ _ rfl
            have g6 : ∀ o, (D.alloc (.cells #[.int .i64 0, .int .i64 0, .int .i64 0, .int .i64 0, .string ⟨#[]⟩, .slice none 0 0] 28)).frozen? ⟨D.heap.size, o, none⟩ = false := fun o => World.frozen?_alloc_at _ _ _ _ rfl
            generalize D.alloc (.cells #[.int .i64 0, .int .i64 0, .int .i64 0, .int .i64 0, .string ⟨#[]⟩, .slice none 0 0] 28) = X at bX zk6 k6 g6 ⊢
            have BWX : Below wr.heap.size wr X := BWD.trans (bX.mono BWD.size)
            refine hKK.out _ _ (HS.out _ BWX) (fun hHeld2 => ?_)
            clear hKK KK hHeld
            have hHeld := hHeld2
            clear hHeld2
            refine wpAnyH_ready (rs := [5]) (by kernel_rfl) (by simp) ?_
            refine AllReadyH.cons rfl (fun KK hKK => ?_) AllReadyH.nil
            go_simp
            refine (implKeptStep_any K (.slice av2 K.e.length cv2) wr.heap.size r _ BWX.size (RV.out.kept BWX)).mono ?_
            rintro e wC ⟨vC, rfl, oC, bwC⟩
            obtain ⟨aC, capC, rfl⟩ := oC.slice
            try rw [HKS.out]
            have HN : Hid (∀ k, (Value.slice aC (ksK K r).e.length capC).ownBlock = some k → ¬ k = D.heap.size) := fun k hk h => by have := (oC.lt k hk).1; omega
            have HOC := Hid.intro (OwnE.lower oC BWX.size)
            clear oC
            have BWwC : Below wr.heap.size wr wC := BWX.trans (bwC.mono BWX.size)
            replace k6 := keepC bwC zk6 k6
            replace g6 := keepF bwC zk6 g6
            replace zk6 : D.heap.size < wC.heap.size := Nat.lt_of_lt_of_le zk6 bwC.size
            go_simp
            refine hKK.out _ _ (HS.out _ BWwC) (fun hHeld2 => ?_)
            clear hKK KK hHeld
            have hHeld := hHeld2
            clear hHeld2
            refine take1 (i := 6) (d := some 49) (v := ?_) rfl rfl (by kernel_rfl) (by kernel_rfl) (by kernel_rfl) (fun _ _ _ h => h) (Or.inl ⟨by rfl, ?_⟩) (by assumption) ?_
            rotate_left 1
            · intro w hSw
              obtain ⟨q0, q1, q2, q3, q4, q5, q6, q7, q8, q9, q10⟩ := hSw
              go_simp <;> with_reducible rfl
            simp only [Act.put, List.setIfInBounds_toArray]
            try simp only [List.set_cons_succ]
            try simp only [List.set_cons_zero]
            refine take1 (i := 7) (d := some 56) (v := ?_) rfl rfl (by kernel_rfl) (by kernel_rfl) (by kernel_rfl) (fun _ _ _ h => h) (Or.inl ⟨by rfl, ?_⟩) (by assumption) ?_
            rotate_left 1
            · intro w hSw
              obtain ⟨q0, q1, q2, q3, q4, q5, q6, q7, q8, q9, q10⟩ := hSw
              go_simp <;> with_reducible rfl
            simp only [Act.put, List.setIfInBounds_toArray]
            try simp only [List.set_cons_succ]
            try simp only [List.set_cons_zero]
            refine take1 (i := 8) (d := some 57) (v := ?_) rfl rfl (by kernel_rfl) (by kernel_rfl) (by kernel_rfl) (fun _ _ _ h => h) (Or.inl ⟨by rfl, ?_⟩) (by assumption) ?_
            rotate_left 1
            · intro w hSw
              obtain ⟨q0, q1, q2, q3, q4, q5, q6, q7, q8, q9, q10⟩ := hSw
              go_simp <;> with_reducible rfl
            simp only [Act.put, List.setIfInBounds_toArray]
            try simp only [List.set_cons_succ]
            try simp only [List.set_cons_zero]
            refine wpAnyH_ready (rs := [10]) (by kernel_rfl) (by simp) ?_
            refine AllReadyH.cons rfl (fun KK hKK => ?_) AllReadyH.nil
            go_simp
            obtain ⟨Y, hY, cY, oY, zY, fY⟩ := put6 (x0 := .int .i64 (ksK K r).t) (x1 := .int .i64 (ksK K r).v) (x2 := .int .i64 (ksK K r).si) (x3 := .int .i64 (ksK K r).st) (x4 := .string (ksK K r).sd) (x5 := .slice aC (ksK K r).e.length capC) k6
            simp only [hY]
            have BWY := BWwC.trans (oY.below BWwC.size (fun k hk h => by have := BWD.size; omega))
            refine hKK.out _ _ (HS.out _ BWY) (fun hHeld2 => ?_)
            clear hKK KK hHeld
            have hHeld := hHeld2
            clear hHeld2
            refine take1 (i := 11) (d := some 12) (v := ?_) rfl rfl (by kernel_rfl) (by kernel_rfl) (by kernel_rfl) (fun _ _ _ h => h) (Or.inl ⟨by rfl, ?_⟩) (by assumption) ?_
            rotate_left 1
            · intro w hSw
              obtain ⟨q0, q1, q2, q3, q4, q5, q6, q7, q8, q9, q10⟩ := hSw
              go_simp <;> with_reducible rfl
            simp only [Act.put, List.setIfInBounds_toArray]
            try simp only [List.set_cons_succ]
            try simp only [List.set_cons_zero]
            refine wpAnyH_done (by kernel_rfl) ?_ _
            have HOY := Hid.intro (HOC.out.only oY (fun k hk h => HN.out k hk h))
            have hiy : D.heap.size < Y.heap.size := by omega
            have hyw : wr.heap.size ≤ D.heap.size := BWD.size
            have X9Y := Hid.intro (X9.out.kept BWY)
            have hzY := BWY.size
            obtain ⟨q0, q1, q2, q3, q4, q5, q6, q7, q8, q9, q10⟩ := HS.out _ BWY
            go_upto_region 17 with (go_at_call 24; refine (recOk_any r _).mono ?_; rintro e w7 ⟨rfl, b7⟩; have HB7 := Hid.intro b7; clear b7; rw [HRC.out])
            clear q0 q1 q2 q3 q4 q5 q6 q7 q8 q9 q10
            have cy := keepC HB7.out hiy cY
            have X97 := Hid.intro (X9Y.out.kept HB7.out)
            have HO7 := Hid.intro (HOY.out.kept HB7.out)
            obtain ⟨V, hV, kV, oV⟩ := X97.out.all6 (.int .i64 (ksK K r).t) (.int .i64 (ksK K r).v) (.int .i64 (ksK K r).si) (.int .i64 (ksK K r).st) (.string (ksK K r).sd) (.slice aC (ksK K r).e.length capC)
            have k9 := X97.out.cell
            have f9 := X97.out.fro
            go_wp2_with fail
            try simp only [hV]
            go_roundw
            case rel =>
              refine ⟨j + 1, ksK K r, _, by go_num, by omega, HF2.out, HK2.out, kV, ?_, ?_⟩
              · exact (HO7.out.only oV (fun k hk e => by have := (HO7.out.lt k hk).1; omega)).rowAll
              · exact ((HO.out.trans (Below.any BWY)).trans (Below.any HB7.out)).trans oV
            case measure => simp [intOf]; omega
        · obtain rfl : j = R.length := by omega
          rw [List.take_length, HFO.out] at hf
          obtain rfl := Option.some.inj hf
          have B4r := Hid.intro (B4.out.only HO.out (by omega))
          have RBr := Hid.intro (RB.out.kept (HO.out.below (by omega) (fun k hk e => by omega)))
          have HBr := Hid.intro (HB.out.trans (HO.out.below HB.out.size (fun k hk e => by omega)))
          have k4 := B4r.out.cell
          go_wp2_with fail
          refine (implChanges_any KB KB _ _ w1.heap.size wr (by omega) RBr.out RBr.out).mono ?_
          rintro e w6 ⟨vn, rfl, on, b6⟩
          obtain ⟨an, cn, rfl⟩ := on.slice
          have hb1 : chB KB KB = true := by rw [chB_self]; exact hkB
          have hn0 : (chR KB KB).length = 0 := by simp [chR, chL_self]
          rw [hb1, hn0]
          have z6 := b6.size
          replace B4r := Hid.intro (B4r.out.kept b6)
          have X96 := Hid.intro (X9.out.kept b6)
          have RB6 := Hid.intro ((RBr.out.kept (b6.mono (by omega))).up (show w1.heap.size ≤ w6.heap.size by omega))
          have RV6 := Hid.intro ((RV.out.kept b6).up (show wr.heap.size ≤ w6.heap.size by omega))
          replace HBr := Hid.intro (HBr.out.trans (b6.mono HBr.out.size))
          replace k4 := B4r.out.cell
          have k9 := X96.out.cell
          clear on b6 hb1 hn0
          go_wp2_with fail
          refine (sameKept_same KB _ _ w6.heap.size w6 (Nat.le_refl _) RV6.out RB6.out).mono ?_
          rintro e w7 ⟨rfl, b7⟩
          have HBE := Hid.intro (HBr.out.trans (b7.mono HBr.out.size))
          clear b7
          go_wp2
          go_ret
          exact ⟨by first | rfl | simp, HBE.out⟩
  · go_enter Try.func4, Try.ntmps4
    go_wp2_with (go_at_call 9; refine (big_yes _ _ _ _ hl hm).mono ?_; rintro e w' ⟨rfl, rfl⟩)
    go_ret
    exact ⟨rfl, Below.refl _ _⟩
end Go.Proofs.Ytkilepoimocoeaa
