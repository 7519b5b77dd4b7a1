/- FnExactKeptStep. -/
import Derived.Test.YtkilepoimocoeaaSit
import Derived.Deep.Cut
import Derived.Deep.RegionWith
namespace Go.Proofs.Ytkilepoimocoeaa
open Go.RowKit
set_option linter.unusedVariables false
set_option maxRecDepth 100000 in
set_option maxHeartbeats 8000000 in
theorem keptStep_law (K : Kp) (v : Value) (r : Rc) (w : World) (hs : K.sd.size ≤ 9223372036854775807) (hr : RowE w w.heap.size v K.e) (hz : ∀ e ∈ K.e, e.d.size ≤ 9223372036854775807) (hd : r.d.size ≤ 9223372036854775807) :
    Calls Try.prog 7 #[kpV K v, rcV r] w fun e w' => e = .returned (.bool true) ∧ Below w.heap.size w w' := by
  have HR := Hid.intro hr
  have HZ := Hid.intro hz
  clear hr hz
  go_enter Try.func7, Try.ntmps7
  go_wp2_with fail
  obtain ⟨W, hW, bW, zW, c1, f1, c2, f2⟩ := boxed2 w #[.int .i64 K.t, .int .i64 K.v, .int .i64 K.si, .int .i64 K.st, .string K.sd, v] #[.int .i64 r.k, .int .i64 r.t, .int .i64 r.i, .int .i64 r.v, .string r.d] 54 59
  simp only [hW]
  have HB := Hid.intro (show Base w K v r W from ⟨c1, c2, HR.out.kept bW, by omega, bW⟩)
  refine (szKept_any K v w.heap.size _ _ (by omega) hs (HR.out.kept bW) HZ.out (by omega) (by omega)).mono ?_
  rintro e w1 ⟨⟨n, rfl, hn⟩, b1⟩
  replace c1 := keepC b1 (by omega) c1
  replace c2 := keepC b1 (by omega) c2
  replace HB := Hid.intro (HB.out.kept b1 HB.out.sz)
  obtain ⟨n1, n2, n3⟩ := hn
  clear hW f1 f2 bW zW b1 HR HZ hs
  by_cases hneg : n < 0
  · clear n3
    go_wp2
    go_ret
    exact ⟨rfl, HB.out.bel⟩
  have hlen : K.e.length ≤ 1048576 := by have := n3 (by omega); omega
  have HL := Hid.intro hlen
  clear hlen
  have n4 : n ≤ 1048576 := by omega
  have n5 : 0 ≤ n := by omega
  clear n1 n2 n3 hneg
  go_wp2_with fail
  refine (szRec_any r n _ n5 n4 hd).mono ?_
  rintro e w2 ⟨⟨m, rfl, hm⟩, b2⟩
  replace c1 := keepC b2 (by have := HB.out.sz; omega) c1
  replace c2 := keepC b2 (by have := HB.out.sz; omega) c2
  replace HB := Hid.intro (HB.out.kept b2 HB.out.sz)
  obtain ⟨m1, m2, m3⟩ := hm
  clear b2 m3 hd n4
  by_cases hneg : m < 0
  · go_wp2
    go_ret
    exact ⟨rfl, HB.out.bel⟩
  clear m1 m2
  have HS : Hid (∀ w', Below w2.heap.size w2 w' → SK2 K v r w.heap.size w') := fun w' hb => (HB.out.kept hb HB.out.sz).sk
  have HC : Hid (∀ w', Below w2.heap.size w2 w' → True ∧ RowE w' w.heap.size v K.e ∧ w.heap.size ≤ w'.heap.size) := fun w' hb => ⟨trivial, (HB.out.kept hb HB.out.sz).row, Nat.le_trans (by have := HB.out.sz; omega) hb.size⟩
  clear c1 c2
  go_upto_region 8 with fail
  go_cut [6, 7] from 26 (fun s6 s7 wc => ∃ b v, s6 = .pointer (some ⟨b, 0, none⟩) ∧ s7 = .bool (ksB K r) ∧ Res w2 wc b (ksK K r) v)
  case first =>
    clear n5 hneg
    refine wp_region_held_drew (S := SK2 K v r w.heap.size) (by kernel_rfl) (HS.out _ (Below.refl _ _).drew) (fun hHeld => ?_)
    have BWD : Below w2.heap.size w2 w2.drew := (Below.refl _ _).drew
    generalize w2.drew = D at BWD hHeld ⊢
    refine take1 (i := 0) (d := some 27) (v := ?_) rfl rfl (by kernel_rfl) (by kernel_rfl) (by kernel_rfl) (fun _ _ _ h => h) (Or.inl ⟨by rfl, ?_⟩) (by assumption) ?_
    rotate_left 1
    · intro w hSw
      obtain ⟨q0, q1, q2, q3, q4, q5, q6, q7, q8, q9, q10⟩ := hSw
      go_simp <;> with_reducible rfl
    simp only [Act.put, List.setIfInBounds_toArray]
    try simp only [List.set_cons_succ]
    try simp only [List.set_cons_zero]
    refine take1 (i := 2) (d := some 29) (v := ?_) rfl rfl (by kernel_rfl) (by kernel_rfl) (by kernel_rfl) (fun _ _ _ h => h) (Or.inl ⟨by rfl, ?_⟩) (by assumption) ?_
    rotate_left 1
    · intro w hSw
      obtain ⟨q0, q1, q2, q3, q4, q5, q6, q7, q8, q9, q10⟩ := hSw
      go_simp <;> with_reducible rfl
    simp only [Act.put, List.setIfInBounds_toArray]
    try simp only [List.set_cons_succ]
    try simp only [List.set_cons_zero]
    refine wpAnyH_ready (rs := [1, 8]) (by kernel_rfl) (by simp) ?_
    refine AllReadyH.cons rfl (fun KK hKK => ?_) (AllReadyH.cons rfl (fun KK hKK => ?_) AllReadyH.nil)
    · skip
      go_simp
      refine (toKept_any K v w.heap.size _ (HC.out _ BWD).2.2 (HC.out _ BWD).2.1 HL.out).mono ?_
      rintro e wA ⟨vA, rfl, oA, bwA⟩
      have HOA := Hid.intro oA
      clear oA
      have BWwA : Below w2.heap.size w2 wA := BWD.trans (bwA.mono BWD.size)
      go_simp
      refine hKK.out _ _ (HS.out _ BWwA) (fun hHeld2 => ?_)
      clear hKK KK hHeld
      have hHeld := hHeld2
      clear hHeld2
      refine wpAnyH_ready (rs := [3, 8]) (by kernel_rfl) (by simp) ?_
      refine AllReadyH.cons rfl (fun KK hKK => ?_) (AllReadyH.cons rfl (fun KK hKK => ?_) AllReadyH.nil)
      · skip
        go_simp
        refine (toRec_any r _).mono ?_
        rintro e wB ⟨rfl, bwB⟩
        have BWwB : Below w2.heap.size w2 wB := BWwA.trans (bwB.mono BWwA.size)
        replace HOA := Hid.intro (HOA.out.kept bwB)
        go_simp
        refine hKK.out _ _ (HS.out _ BWwB) (fun hHeld2 => ?_)
        clear hKK KK hHeld
        have hHeld := hHeld2
        clear hHeld2
        refine wpAnyH_ready (rs := [4, 8]) (by kernel_rfl) (by simp) ?_
        refine AllReadyH.cons rfl (fun KK hKK => ?_) (AllReadyH.cons rfl (fun KK hKK => ?_) AllReadyH.nil)
        · skip
          go_simp
          refine (specKeptStep_any K vA wB.heap.size r _ (Nat.le_refl _) HOA.out.rowAll).mono ?_
          rintro e wC ⟨vC, rfl, oC, bwC⟩
          obtain ⟨aC, capC, rfl⟩ := oC.slice
          have HN : Hid (∀ k, (Value.slice aC (ksK K r).e.length capC).ownBlock = some k → ¬ k = wC.heap.size) := fun k hk h => by have := (oC.lt k hk).2; omega
          have HOC := Hid.intro (OwnE.lower oC BWwB.size)
          clear oC
          have BWwC : Below w2.heap.size w2 wC := BWwB.trans (bwC.mono BWwB.size)
          replace HOA := Hid.intro (HOA.out.kept bwC)
          go_simp
          refine hKK.out _ _ (HS.out _ BWwC) (fun hHeld2 => ?_)
          clear hKK KK hHeld
          have hHeld := hHeld2
          clear hHeld2
          refine take1 (i := 5) (d := some 26) (v := ?_) rfl rfl (by kernel_rfl) (by kernel_rfl) (by kernel_rfl) (fun _ _ _ h => h) (Or.inl ⟨by rfl, ?_⟩) (by assumption) ?_
          rotate_left 1
          · intro w hSw
            obtain ⟨q0, q1, q2, q3, q4, q5, q6, q7, q8, q9, q10⟩ := hSw
            go_simp <;> with_reducible rfl
          simp only [Act.put, List.setIfInBounds_toArray]
          try simp only [List.set_cons_succ]
          try simp only [List.set_cons_zero]
          refine take1 (i := 6) (d := some 32) (v := ?_) rfl rfl (by kernel_rfl) (by kernel_rfl) (by kernel_rfl) (fun _ _ _ h => h) (Or.inl ⟨by rfl, ?_⟩) (by assumption) ?_
          rotate_left 1
          · intro w hSw
            obtain ⟨q0, q1, q2, q3, q4, q5, q6, q7, q8, q9, q10⟩ := hSw
            go_simp <;> with_reducible rfl
          simp only [Act.put, List.setIfInBounds_toArray]
          try simp only [List.set_cons_succ]
          try simp only [List.set_cons_zero]
          refine take1 (i := 7) (d := some 33) (v := ?_) rfl rfl (by kernel_rfl) (by kernel_rfl) (by kernel_rfl) (fun _ _ _ h => h) (Or.inl ⟨by rfl, ?_⟩) (by assumption) ?_
          rotate_left 1
          · intro w hSw
            obtain ⟨q0, q1, q2, q3, q4, q5, q6, q7, q8, q9, q10⟩ := hSw
            go_simp <;> with_reducible rfl
          simp only [Act.put, List.setIfInBounds_toArray]
          try simp only [List.set_cons_succ]
          try simp only [List.set_cons_zero]
          refine wpAnyH_ready (rs := [8]) (by kernel_rfl) (by simp) ?_
          refine AllReadyH.cons rfl (fun KK hKK => ?_) AllReadyH.nil
          go_simp
          have bX := (Below.refl wC.heap.size wC).alloc (Nat.le_refl _) (.cells #[.int .i64 0, .int .i64 0, .int .i64 0, .int .i64 0, .string ⟨#[]⟩, .slice none 0 0] 28)
          have zk6 : wC.heap.size < (wC.alloc (.cells #[.int .i64 0, .int .i64 0, .int .i64 0, .int .i64 0, .string ⟨#[]⟩, .slice none 0 0] 28)).heap.size := by simp
          have k6 : ∀ o, (wC.alloc (.cells #[.int .i64 0, .int .i64 0, .int .i64 0, .int .i64 0, .string ⟨#[]⟩, .slice none 0 0] 28)).cell? ⟨wC.heap.size, o, none⟩ = #[.int .i64 0, .int .i64 0, .int .i64 0, .int .i64 0, .string ⟨#[]⟩, .slice none 0 0][o]? := fun o => World.cell?_alloc_at _ _ _ _ rfl
          have g6 : ∀ o, (wC.alloc (.cells #[.int .i64 0, .int .i64 0, .int .i64 0, .int .i64 0, .string ⟨#[]⟩, .slice none 0 0] 28)).frozen? ⟨wC.heap.size, o, none⟩ = false := fun o => World.frozen?_alloc_at _ _ _ _ rfl
          generalize wC.alloc (.cells #[.int .i64 0, .int .i64 0, .int .i64 0, .int .i64 0, .string ⟨#[]⟩, .slice none 0 0] 28) = X at bX zk6 k6 g6 ⊢
          have BWX : Below w2.heap.size w2 X := BWwC.trans (bX.mono BWwC.size)
          replace HOA := Hid.intro (HOA.out.kept bX)
          replace HOC := Hid.intro (HOC.out.kept bX)
          refine hKK.out _ _ (HS.out _ BWX) (fun hHeld2 => ?_)
          clear hKK KK hHeld
          have hHeld := hHeld2
          clear hHeld2
          refine wpAnyH_ready (rs := [9]) (by kernel_rfl) (by simp) ?_
          refine AllReadyH.cons rfl (fun KK hKK => ?_) AllReadyH.nil
          go_simp
          obtain ⟨Y, hY, cY, oY, zY⟩ := set6a (x0 := .int .i64 (ksK K r).t) (x1 := .int .i64 (ksK K r).v) (x2 := .int .i64 (ksK K r).si) (x3 := .int .i64 (ksK K r).st) (x4 := .string (ksK K r).sd) (x5 := .slice aC (ksK K r).e.length capC) k6
          simp only [hY]
          have BWY := BWX.trans (oY.below BWX.size (fun k hk h => by have := BWwC.size; omega))
          refine hKK.out _ _ (HS.out _ BWY) (fun hHeld2 => ?_)
          clear hKK KK hHeld
          have hHeld := hHeld2
          clear hHeld2
          refine take1 (i := 10) (d := some 7) (v := ?_) rfl rfl (by kernel_rfl) (by kernel_rfl) (by kernel_rfl) (fun _ _ _ h => h) (Or.inl ⟨by rfl, ?_⟩) (by assumption) ?_
          rotate_left 1
          · intro w hSw
            obtain ⟨q0, q1, q2, q3, q4, q5, q6, q7, q8, q9, q10⟩ := hSw
            go_simp <;> with_reducible rfl
          simp only [Act.put, List.setIfInBounds_toArray]
          try simp only [List.set_cons_succ]
          try simp only [List.set_cons_zero]
          refine wpAnyH_done (by kernel_rfl) ?_ _
          have HOY := HOC.out.only oY (fun k hk h => HN.out k hk h)
          have hi : wC.heap.size < Y.heap.size := by omega
          go_wp2_with fail
          go_meet
          case rel => exact ⟨_, _, rfl, rfl, ⟨BWwC.size, hi, cY, HOY, HN.out, BWY⟩⟩
        · skip
          go_simp
          have bX := (Below.refl wB.heap.size wB).alloc (Nat.le_refl _) (.cells #[.int .i64 0, .int .i64 0, .int .i64 0, .int .i64 0, .string ⟨#[]⟩, .slice none 0 0] 28)
          have zk6 : wB.heap.size < (wB.alloc (.cells #[.int .i64 0, .int .i64 0, .int .i64 0, .int .i64 0, .string ⟨#[]⟩, .slice none 0 0] 28)).heap.size := by simp
          have k6 : ∀ o, (wB.alloc (.cells #[.int .i64 0, .int .i64 0, .int .i64 0, .int .i64 0, .string ⟨#[]⟩, .slice none 0 0] 28)).cell? ⟨wB.heap.size, o, none⟩ = #[.int .i64 0, .int .i64 0, .int .i64 0, .int .i64 0, .string ⟨#[]⟩, .slice none 0 0][o]? := fun o => World.cell?_alloc_at _ _ _ _ rfl
          have g6 : ∀ o, (wB.alloc (.cells #[.int .i64 0, .int .i64 0, .int .i64 0, .int .i64 0, .string ⟨#[]⟩, .slice none 0 0] 28)).frozen? ⟨wB.heap.size, o, none⟩ = false := fun o => World.frozen?_alloc_at _ _ _ _ rfl
          generalize wB.alloc (.cells #[.int .i64 0, .int .i64 0, .int .i64 0, .int .i64 0, .string ⟨#[]⟩, .slice none 0 0] 28) = X at bX zk6 k6 g6 ⊢
          have BWX : Below w2.heap.size w2 X := BWwB.trans (bX.mono BWwB.size)
          replace HOA := Hid.intro (HOA.out.kept bX)
          refine hKK.out _ _ (HS.out _ BWX) (fun hHeld2 => ?_)
          clear hKK KK hHeld
          have hHeld := hHeld2
          clear hHeld2
          refine wpAnyH_ready (rs := [4]) (by kernel_rfl) (by simp) ?_
          refine AllReadyH.cons rfl (fun KK hKK => ?_) AllReadyH.nil
          go_simp
          refine (specKeptStep_any K vA X.heap.size r _ (Nat.le_refl _) HOA.out.rowAll).mono ?_
          rintro e wC ⟨vC, rfl, oC, bwC⟩
          obtain ⟨aC, capC, rfl⟩ := oC.slice
          have HN : Hid (∀ k, (Value.slice aC (ksK K r).e.length capC).ownBlock = some k → ¬ k = wB.heap.size) := fun k hk h => by have := (oC.lt k hk).1; omega
          have HOC := Hid.intro (OwnE.lower oC BWX.size)
          clear oC
          have BWwC : Below w2.heap.size w2 wC := BWX.trans (bwC.mono BWX.size)
          replace HOA := Hid.intro (HOA.out.kept bwC)
          replace k6 := keepC bwC zk6 k6
          replace g6 := keepF bwC zk6 g6
          replace zk6 : wB.heap.size < wC.heap.size := Nat.lt_of_lt_of_le zk6 bwC.size
          go_simp
          refine hKK.out _ _ (HS.out _ BWwC) (fun hHeld2 => ?_)
          clear hKK KK hHeld
          have hHeld := hHeld2
          clear hHeld2
          refine take1 (i := 5) (d := some 26) (v := ?_) rfl rfl (by kernel_rfl) (by kernel_rfl) (by kernel_rfl) (fun _ _ _ h => h) (Or.inl ⟨by rfl, ?_⟩) (by assumption) ?_
          rotate_left 1
          · intro w hSw
            obtain ⟨q0, q1, q2, q3, q4, q5, q6, q7, q8, q9, q10⟩ := hSw
            go_simp <;> with_reducible rfl
          simp only [Act.put, List.setIfInBounds_toArray]
          try simp only [List.set_cons_succ]
          try simp only [List.set_cons_zero]
          refine take1 (i := 6) (d := some 32) (v := ?_) rfl rfl (by kernel_rfl) (by kernel_rfl) (by kernel_rfl) (fun _ _ _ h => h) (Or.inl ⟨by rfl, ?_⟩) (by assumption) ?_
          rotate_left 1
          · intro w hSw
            obtain ⟨q0, q1, q2, q3, q4, q5, q6, q7, q8, q9, q10⟩ := hSw
            go_simp <;> with_reducible rfl
          simp only [Act.put, List.setIfInBounds_toArray]
          try simp only [List.set_cons_succ]
          try simp only [List.set_cons_zero]
          refine take1 (i := 7) (d := some 33) (v := ?_) rfl rfl (by kernel_rfl) (by kernel_rfl) (by kernel_rfl) (fun _ _ _ h => h) (Or.inl ⟨by rfl, ?_⟩) (by assumption) ?_
          rotate_left 1
          · intro w hSw
            obtain ⟨q0, q1, q2, q3, q4, q5, q6, q7, q8, q9, q10⟩ := hSw
            go_simp <;> with_reducible rfl
          simp only [Act.put, List.setIfInBounds_toArray]
          try simp only [List.set_cons_succ]
          try simp only [List.set_cons_zero]
          refine wpAnyH_ready (rs := [9]) (by kernel_rfl) (by simp) ?_
          refine AllReadyH.cons rfl (fun KK hKK => ?_) AllReadyH.nil
          go_simp
          obtain ⟨Y, hY, cY, oY, zY⟩ := set6a (x0 := .int .i64 (ksK K r).t) (x1 := .int .i64 (ksK K r).v) (x2 := .int .i64 (ksK K r).si) (x3 := .int .i64 (ksK K r).st) (x4 := .string (ksK K r).sd) (x5 := .slice aC (ksK K r).e.length capC) k6
          simp only [hY]
          have BWY := BWwC.trans (oY.below BWwC.size (fun k hk h => by have := BWwB.size; omega))
          refine hKK.out _ _ (HS.out _ BWY) (fun hHeld2 => ?_)
          clear hKK KK hHeld
          have hHeld := hHeld2
          clear hHeld2
          refine take1 (i := 10) (d := some 7) (v := ?_) rfl rfl (by kernel_rfl) (by kernel_rfl) (by kernel_rfl) (fun _ _ _ h => h) (Or.inl ⟨by rfl, ?_⟩) (by assumption) ?_
          rotate_left 1
          · intro w hSw
            obtain ⟨q0, q1, q2, q3, q4, q5, q6, q7, q8, q9, q10⟩ := hSw
            go_simp <;> with_reducible rfl
          simp only [Act.put, List.setIfInBounds_toArray]
          try simp only [List.set_cons_succ]
          try simp only [List.set_cons_zero]
          refine wpAnyH_done (by kernel_rfl) ?_ _
          have HOY := HOC.out.only oY (fun k hk h => HN.out k hk h)
          have hi : wB.heap.size < Y.heap.size := by omega
          go_wp2_with fail
          go_meet
          case rel => exact ⟨_, _, rfl, rfl, ⟨BWwB.size, hi, cY, HOY, HN.out, BWY⟩⟩
      · skip
        go_simp
        have bX := (Below.refl wA.heap.size wA).alloc (Nat.le_refl _) (.cells #[.int .i64 0, .int .i64 0, .int .i64 0, .int .i64 0, .string ⟨#[]⟩, .slice none 0 0] 28)
        have zk6 : wA.heap.size < (wA.alloc (.cells #[.int .i64 0, .int .i64 0, .int .i64 0, .int .i64 0, .string ⟨#[]⟩, .slice none 0 0] 28)).heap.size := by simp
        have k6 : ∀ o, (wA.alloc (.cells #[.int .i64 0, .int .i64 0, .int .i64 0, .int .i64 0, .string ⟨#[]⟩, .slice none 0 0] 28)).cell? ⟨wA.heap.size, o, none⟩ = #[.int .i64 0, .int .i64 0, .int .i64 0, .int .i64 0, .string ⟨#[]⟩, .slice none 0 0][o]? := fun o => World.cell?_alloc_at _ _ _ _ rfl
        have g6 : ∀ o, (wA.alloc (.cells #[.int .i64 0, .int .i64 0, .int .i64 0, .int .i64 0, .string ⟨#[]⟩, .slice none 0 0] 28)).frozen? ⟨wA.heap.size, o, none⟩ = false := fun o => World.frozen?_alloc_at _ _ _ _ rfl
        generalize wA.alloc (.cells #[.int .i64 0, .int .i64 0, .int .i64 0, .int .i64 0, .string ⟨#[]⟩, .slice none 0 0] 28) = X at bX zk6 k6 g6 ⊢
        have BWX : Below w2.heap.size w2 X := BWwA.trans (bX.mono BWwA.size)
        replace HOA := Hid.intro (HOA.out.kept bX)
        refine hKK.out _ _ (HS.out _ BWX) (fun hHeld2 => ?_)
        clear hKK KK hHeld
        have hHeld := hHeld2
        clear hHeld2
        refine wpAnyH_ready (rs := [3]) (by kernel_rfl) (by simp) ?_
        refine AllReadyH.cons rfl (fun KK hKK => ?_) AllReadyH.nil
        go_simp
        refine (toRec_any r _).mono ?_
        rintro e wB ⟨rfl, bwB⟩
        have BWwB : Below w2.heap.size w2 wB := BWX.trans (bwB.mono BWX.size)
        replace HOA := Hid.intro (HOA.out.kept bwB)
        replace k6 := keepC bwB zk6 k6
        replace g6 := keepF bwB zk6 g6
        replace zk6 : wA.heap.size < wB.heap.size := Nat.lt_of_lt_of_le zk6 bwB.size
        go_simp
        refine hKK.out _ _ (HS.out _ BWwB) (fun hHeld2 => ?_)
        clear hKK KK hHeld
        have hHeld := hHeld2
        clear hHeld2
        refine wpAnyH_ready (rs := [4]) (by kernel_rfl) (by simp) ?_
        refine AllReadyH.cons rfl (fun KK hKK => ?_) AllReadyH.nil
        go_simp
        refine (specKeptStep_any K vA wB.heap.size r _ (Nat.le_refl _) HOA.out.rowAll).mono ?_
        rintro e wC ⟨vC, rfl, oC, bwC⟩
        obtain ⟨aC, capC, rfl⟩ := oC.slice
        have HN : Hid (∀ k, (Value.slice aC (ksK K r).e.length capC).ownBlock = some k → ¬ k = wA.heap.size) := fun k hk h => by have := (oC.lt k hk).1; omega
        have HOC := Hid.intro (OwnE.lower oC BWwB.size)
        clear oC
        have BWwC : Below w2.heap.size w2 wC := BWwB.trans (bwC.mono BWwB.size)
        replace HOA := Hid.intro (HOA.out.kept bwC)
        replace k6 := keepC bwC zk6 k6
        replace g6 := keepF bwC zk6 g6
        replace zk6 : wA.heap.size < wC.heap.size := Nat.lt_of_lt_of_le zk6 bwC.size
        go_simp
        refine hKK.out _ _ (HS.out _ BWwC) (fun hHeld2 => ?_)
        clear hKK KK hHeld
        have hHeld := hHeld2
        clear hHeld2
        refine take1 (i := 5) (d := some 26) (v := ?_) rfl rfl (by kernel_rfl) (by kernel_rfl) (by kernel_rfl) (fun _ _ _ h => h) (Or.inl ⟨by rfl, ?_⟩) (by assumption) ?_
        rotate_left 1
        · intro w hSw
          obtain ⟨q0, q1, q2, q3, q4, q5, q6, q7, q8, q9, q10⟩ := hSw
          go_simp <;> with_reducible rfl
        simp only [Act.put, List.setIfInBounds_toArray]
        try simp only [List.set_cons_succ]
        try simp only [List.set_cons_zero]
        refine take1 (i := 6) (d := some 32) (v := ?_) rfl rfl (by kernel_rfl) (by kernel_rfl) (by kernel_rfl) (fun _ _ _ h => h) (Or.inl ⟨by rfl, ?_⟩) (by assumption) ?_
        rotate_left 1
        · intro w hSw
          obtain ⟨q0, q1, q2, q3, q4, q5, q6, q7, q8, q9, q10⟩ := hSw
          go_simp <;> with_reducible rfl
        simp only [Act.put, List.setIfInBounds_toArray]
        try simp only [List.set_cons_succ]
        try simp only [List.set_cons_zero]
        refine take1 (i := 7) (d := some 33) (v := ?_) rfl rfl (by kernel_rfl) (by kernel_rfl) (by kernel_rfl) (fun _ _ _ h => h) (Or.inl ⟨by rfl, ?_⟩) (by assumption) ?_
        rotate_left 1
        · intro w hSw
          obtain ⟨q0, q1, q2, q3, q4, q5, q6, q7, q8, q9, q10⟩ := hSw
          go_simp <;> with_reducible rfl
        simp only [Act.put, List.setIfInBounds_toArray]
        try simp only [List.set_cons_succ]
        try simp only [List.set_cons_zero]
        refine wpAnyH_ready (rs := [9]) (by kernel_rfl) (by simp) ?_
        refine AllReadyH.cons rfl (fun KK hKK => ?_) AllReadyH.nil
        go_simp
        obtain ⟨Y, hY, cY, oY, zY⟩ := set6a (x0 := .int .i64 (ksK K r).t) (x1 := .int .i64 (ksK K r).v) (x2 := .int .i64 (ksK K r).si) (x3 := .int .i64 (ksK K r).st) (x4 := .string (ksK K r).sd) (x5 := .slice aC (ksK K r).e.length capC) k6
        simp only [hY]
        have BWY := BWwC.trans (oY.below BWwC.size (fun k hk h => by have := BWwA.size; omega))
        refine hKK.out _ _ (HS.out _ BWY) (fun hHeld2 => ?_)
        clear hKK KK hHeld
        have hHeld := hHeld2
        clear hHeld2
        refine take1 (i := 10) (d := some 7) (v := ?_) rfl rfl (by kernel_rfl) (by kernel_rfl) (by kernel_rfl) (fun _ _ _ h => h) (Or.inl ⟨by rfl, ?_⟩) (by assumption) ?_
        rotate_left 1
        · intro w hSw
          obtain ⟨q0, q1, q2, q3, q4, q5, q6, q7, q8, q9, q10⟩ := hSw
          go_simp <;> with_reducible rfl
        simp only [Act.put, List.setIfInBounds_toArray]
        try simp only [List.set_cons_succ]
        try simp only [List.set_cons_zero]
        refine wpAnyH_done (by kernel_rfl) ?_ _
        have HOY := HOC.out.only oY (fun k hk h => HN.out k hk h)
        have hi : wA.heap.size < Y.heap.size := by omega
        go_wp2_with fail
        go_meet
        case rel => exact ⟨_, _, rfl, rfl, ⟨BWwA.size, hi, cY, HOY, HN.out, BWY⟩⟩
    · skip
      go_simp
      have bX := (Below.refl D.heap.size D).alloc (Nat.le_refl _) (.cells #[.int .i64 0, .int .i64 0, .int .i64 0, .int .i64 0, .string ⟨#[]⟩, .slice none 0 0] 28)
      have zk6 : D.heap.size < (D.alloc (.cells #[.int .i64 0, .int .i64 0, .int .i64 0, .int .i64 0, .string ⟨#[]⟩, .slice none 0 0] 28)).heap.size := by simp
      have k6 : ∀ o, (D.alloc (.cells #[.int .i64 0, .int .i64 0, .int .i64 0, .int .i64 0, .string ⟨#[]⟩, .slice none 0 0] 28)).cell? ⟨D.heap.size, o, none⟩ = #[.int .i64 0, .int .i64 0, .int .i64 0, .int .i64 0, .string ⟨#[]⟩, .slice none 0 0][o]? := fun o => World.cell?_alloc_at _ _ _ _ rfl
      have g6 : ∀ o, (D.alloc (.cells #[.int .i64 0, .int .i64 0, .int .i64 0, .int .i64 0, .string ⟨#[]⟩, .slice none 0 0] 28)).frozen? ⟨D.heap.size, o, none⟩ = false := fun o => World.frozen?_alloc_at _ _ _ _ rfl
      generalize D.alloc (.cells #[.int .i64 0, .int .i64 0, .int .i64 0, .int .i64 0, .string ⟨#[]⟩, .slice none 0 0] 28) = X at bX zk6 k6 g6 ⊢
      have BWX : Below w2.heap.size w2 X := BWD.trans (bX.mono BWD.size)
      refine hKK.out _ _ (HS.out _ BWX) (fun hHeld2 => ?_)
      clear hKK KK hHeld
      have hHeld := hHeld2
      clear hHeld2
      refine wpAnyH_ready (rs := [1]) (by kernel_rfl) (by simp) ?_
      refine AllReadyH.cons rfl (fun KK hKK => ?_) AllReadyH.nil
      go_simp
      refine (toKept_any K v w.heap.size _ (HC.out _ BWX).2.2 (HC.out _ BWX).2.1 HL.out).mono ?_
      rintro e wA ⟨vA, rfl, oA, bwA⟩
      have HOA := Hid.intro oA
      clear oA
      have BWwA : Below w2.heap.size w2 wA := BWX.trans (bwA.mono BWX.size)
      replace k6 := keepC bwA zk6 k6
      replace g6 := keepF bwA zk6 g6
      replace zk6 : D.heap.size < wA.heap.size := Nat.lt_of_lt_of_le zk6 bwA.size
      go_simp
      refine hKK.out _ _ (HS.out _ BWwA) (fun hHeld2 => ?_)
      clear hKK KK hHeld
      have hHeld := hHeld2
      clear hHeld2
      refine wpAnyH_ready (rs := [3]) (by kernel_rfl) (by simp) ?_
      refine AllReadyH.cons rfl (fun KK hKK => ?_) AllReadyH.nil
      go_simp
      refine (toRec_any r _).mono ?_
      rintro e wB ⟨rfl, bwB⟩
      have BWwB : Below w2.heap.size w2 wB := BWwA.trans (bwB.mono BWwA.size)
      replace HOA := Hid.intro (HOA.out.kept bwB)
      replace k6 := keepC bwB zk6 k6
      replace g6 := keepF bwB zk6 g6
      replace zk6 : D.heap.size < wB.heap.size := Nat.lt_of_lt_of_le zk6 bwB.size
      go_simp
      refine hKK.out _ _ (HS.out _ BWwB) (fun hHeld2 => ?_)
      clear hKK KK hHeld
      have hHeld := hHeld2
      clear hHeld2
      refine wpAnyH_ready (rs := [4]) (by kernel_rfl) (by simp) ?_
      refine AllReadyH.cons rfl (fun KK hKK => ?_) AllReadyH.nil
      go_simp
      refine (specKeptStep_any K vA wB.heap.size r _ (Nat.le_refl _) HOA.out.rowAll).mono ?_
      rintro e wC ⟨vC, rfl, oC, bwC⟩
      obtain ⟨aC, capC, rfl⟩ := oC.slice
      have HN : Hid (∀ k, (Value.slice aC (ksK K r).e.length capC).ownBlock = some k → ¬ k = D.heap.size) := fun k hk h => by have := (oC.lt k hk).1; omega
      have HOC := Hid.intro (OwnE.lower oC BWwB.size)
      clear oC
      have BWwC : Below w2.heap.size w2 wC := BWwB.trans (bwC.mono BWwB.size)
      replace HOA := Hid.intro (HOA.out.kept bwC)
      replace k6 := keepC bwC zk6 k6
      replace g6 := keepF bwC zk6 g6
      replace zk6 : D.heap.size < wC.heap.size := Nat.lt_of_lt_of_le zk6 bwC.size
      go_simp
      refine hKK.out _ _ (HS.out _ BWwC) (fun hHeld2 => ?_)
      clear hKK KK hHeld
      have hHeld := hHeld2
      clear hHeld2
      refine take1 (i := 5) (d := some 26) (v := ?_) rfl rfl (by kernel_rfl) (by kernel_rfl) (by kernel_rfl) (fun _ _ _ h => h) (Or.inl ⟨by rfl, ?_⟩) (by assumption) ?_
      rotate_left 1
      · intro w hSw
        obtain ⟨q0, q1, q2, q3, q4, q5, q6, q7, q8, q9, q10⟩ := hSw
        go_simp <;> with_reducible rfl
      simp only [Act.put, List.setIfInBounds_toArray]
      try simp only [List.set_cons_succ]
      try simp only [List.set_cons_zero]
      refine take1 (i := 6) (d := some 32) (v := ?_) rfl rfl (by kernel_rfl) (by kernel_rfl) (by kernel_rfl) (fun _ _ _ h => h) (Or.inl ⟨by rfl, ?_⟩) (by assumption) ?_
      rotate_left 1
      · intro w hSw
        obtain ⟨q0, q1, q2, q3, q4, q5, q6, q7, q8, q9, q10⟩ := hSw
        go_simp <;> with_reducible rfl
      simp only [Act.put, List.setIfInBounds_toArray]
      try simp only [List.set_cons_succ]
      try simp only [List.set_cons_zero]
      refine take1 (i := 7) (d := some 33) (v := ?_) rfl rfl (by kernel_rfl) (by kernel_rfl) (by kernel_rfl) (fun _ _ _ h => h) (Or.inl ⟨by rfl, ?_⟩) (by assumption) ?_
      rotate_left 1
      · intro w hSw
        obtain ⟨q0, q1, q2, q3, q4, q5, q6, q7, q8, q9, q10⟩ := hSw
        go_simp <;> with_reducible rfl
      simp only [Act.put, List.setIfInBounds_toArray]
      try simp only [List.set_cons_succ]
      try simp only [List.set_cons_zero]
      refine wpAnyH_ready (rs := [9]) (by kernel_rfl) (by simp) ?_
      refine AllReadyH.cons rfl (fun KK hKK => ?_) AllReadyH.nil
      go_simp
      obtain ⟨Y, hY, cY, oY, zY⟩ := set6a (x0 := .int .i64 (ksK K r).t) (x1 := .int .i64 (ksK K r).v) (x2 := .int .i64 (ksK K r).si) (x3 := .int .i64 (ksK K r).st) (x4 := .string (ksK K r).sd) (x5 := .slice aC (ksK K r).e.length capC) k6
      simp only [hY]
      have BWY := BWwC.trans (oY.below BWwC.size (fun k hk h => by have := BWD.size; omega))
      refine hKK.out _ _ (HS.out _ BWY) (fun hHeld2 => ?_)
      clear hKK KK hHeld
      have hHeld := hHeld2
      clear hHeld2
      refine take1 (i := 10) (d := some 7) (v := ?_) rfl rfl (by kernel_rfl) (by kernel_rfl) (by kernel_rfl) (fun _ _ _ h => h) (Or.inl ⟨by rfl, ?_⟩) (by assumption) ?_
      rotate_left 1
      · intro w hSw
        obtain ⟨q0, q1, q2, q3, q4, q5, q6, q7, q8, q9, q10⟩ := hSw
        go_simp <;> with_reducible rfl
      simp only [Act.put, List.setIfInBounds_toArray]
      try simp only [List.set_cons_succ]
      try simp only [List.set_cons_zero]
      refine wpAnyH_done (by kernel_rfl) ?_ _
      have HOY := HOC.out.only oY (fun k hk h => HN.out k hk h)
      have hi : D.heap.size < Y.heap.size := by omega
      go_wp2_with fail
      go_meet
      case rel => exact ⟨_, _, rfl, rfl, ⟨BWD.size, hi, cY, HOY, HN.out, BWY⟩⟩
  case rest =>
  obtain ⟨w3, hw3⟩ : ∃ w3, w3 = wc := ⟨_, rfl⟩
  subst hw3
  obtain ⟨b6, v6, rfl, rfl, h6⟩ := hcut
  have H6 := Hid.intro h6.kv
  have s6 := h6.hi
  have HN6 : Hid (∀ k, v6.ownBlock = some k → k < w3.heap.size) := fun k hk => (h6.own.lt k hk).2
  replace HB := Hid.intro (HB.out.kept h6.below HB.out.sz)
  have hz3 : w.heap.size + 1 < w3.heap.size := HB.out.sz
  clear HS HC h6 hneg n5
  have c1 := HB.out.a
  go_wp2_with fail
  refine (toKept_any K v w.heap.size _ (by omega) HB.out.row HL.out).mono ?_
  rintro e w4 ⟨v4, rfl, o4, b4⟩
  obtain ⟨a4, cap4, rfl⟩ := o4.slice
  replace HB := Hid.intro (HB.out.kept b4 hz3)
  replace H6 := Hid.intro (H6.out.kept b4)
  have z4 := b4.size
  clear c1 b4
  go_upto_region 10 with fail
  obtain ⟨U, hX, bX, zX, cX, fX⟩ := boxed w4 #[.int .i64 K.t, .int .i64 K.v, .int .i64 K.si, .int .i64 K.st, .string K.sd, .slice a4 K.e.length cap4] 28
  simp only [hX]
  replace HB := Hid.intro (HB.out.kept bX HB.out.sz)
  replace H6 := Hid.intro (H6.out.kept bX)
  have H8 := Hid.intro (show KV U w4.heap.size w3.heap.size K (.slice a4 K.e.length cap4) from ⟨by omega, cX, o4.kept bX⟩)
  have HN8 : Hid (∀ k, (Value.slice a4 K.e.length cap4).ownBlock = some k → w3.heap.size ≤ k ∧ k < w4.heap.size) := o4.lt
  clear hX fX cX bX o4
  have HS : Hid (∀ w', Below U.heap.size U w' → SK3 K (.slice a4 K.e.length cap4) r w4.heap.size (w.heap.size + 1) w') := fun w' hb => sk3_of (HB.out.kept hb HB.out.sz) (H8.out.kept hb)
  go_cut [9, 10] from 36 (fun s9 s10 wc => ∃ b v, s9 = .pointer (some ⟨b, 0, none⟩) ∧ s10 = .bool (ksB K r) ∧ Res U wc b (ksK K r) v)
  case first =>
    refine wp_region_held_drew (S := SK3 K (.slice a4 K.e.length cap4) r w4.heap.size (w.heap.size + 1)) (by kernel_rfl) (HS.out _ (Below.refl _ _).drew) (fun hHeld => ?_)
    have BWD : Below U.heap.size U U.drew := (Below.refl _ _).drew
    generalize U.drew = D at BWD hHeld ⊢
    refine take1 (i := 0) (d := some 37) (v := ?_) rfl rfl (by kernel_rfl) (by kernel_rfl) (by kernel_rfl) (fun _ _ _ h => h) (Or.inl ⟨by rfl, ?_⟩) (by assumption) ?_
    rotate_left 1
    · intro w hSw
      obtain ⟨q0, q1, q2, q3, q4, q5, q6, q7, q8, q9, q10⟩ := hSw
      go_simp <;> with_reducible rfl
    simp only [Act.put, List.setIfInBounds_toArray]
    try simp only [List.set_cons_succ]
    try simp only [List.set_cons_zero]
    refine take1 (i := 1) (d := some 38) (v := ?_) rfl rfl (by kernel_rfl) (by kernel_rfl) (by kernel_rfl) (fun _ _ _ h => h) (Or.inl ⟨by rfl, ?_⟩) (by assumption) ?_
    rotate_left 1
    · intro w hSw
      obtain ⟨q0, q1, q2, q3, q4, q5, q6, q7, q8, q9, q10⟩ := hSw
      go_simp <;> with_reducible rfl
    simp only [Act.put, List.setIfInBounds_toArray]
    try simp only [List.set_cons_succ]
    try simp only [List.set_cons_zero]
    refine wpAnyH_ready (rs := [2, 7]) (by kernel_rfl) (by simp) ?_
    refine AllReadyH.cons rfl (fun KK hKK => ?_) (AllReadyH.cons rfl (fun KK hKK => ?_) AllReadyH.nil)
    · skip
      go_simp
      refine (toRec_any r _).mono ?_
      rintro e wB ⟨rfl, bwB⟩
      have BWwB : Below U.heap.size U wB := BWD.trans (bwB.mono BWD.size)
      go_simp
      refine hKK.out _ _ (HS.out _ BWwB) (fun hHeld2 => ?_)
      clear hKK KK hHeld
      have hHeld := hHeld2
      clear hHeld2
      refine wpAnyH_ready (rs := [3, 7]) (by kernel_rfl) (by simp) ?_
      refine AllReadyH.cons rfl (fun KK hKK => ?_) (AllReadyH.cons rfl (fun KK hKK => ?_) AllReadyH.nil)
      · skip
        go_simp
        refine (implKeptStep_any K _ wB.heap.size r _ (Nat.le_refl _) (H8.out.kept BWwB).own.rowAll).mono ?_
        rintro e wC ⟨vC, rfl, oC, bwC⟩
        obtain ⟨aC, capC, rfl⟩ := oC.slice
        have HN : Hid (∀ k, (Value.slice aC (ksK K r).e.length capC).ownBlock = some k → ¬ k = wC.heap.size) := fun k hk h => by have := (oC.lt k hk).2; omega
        have HOC := Hid.intro (OwnE.lower oC BWwB.size)
        clear oC
        have BWwC : Below U.heap.size U wC := BWwB.trans (bwC.mono BWwB.size)
        go_simp
        refine hKK.out _ _ (HS.out _ BWwC) (fun hHeld2 => ?_)
        clear hKK KK hHeld
        have hHeld := hHeld2
        clear hHeld2
        refine take1 (i := 4) (d := some 36) (v := ?_) rfl rfl (by kernel_rfl) (by kernel_rfl) (by kernel_rfl) (fun _ _ _ h => h) (Or.inl ⟨by rfl, ?_⟩) (by assumption) ?_
        rotate_left 1
        · intro w hSw
          obtain ⟨q0, q1, q2, q3, q4, q5, q6, q7, q8, q9, q10⟩ := hSw
          go_simp <;> with_reducible rfl
        simp only [Act.put, List.setIfInBounds_toArray]
        try simp only [List.set_cons_succ]
        try simp only [List.set_cons_zero]
        refine take1 (i := 5) (d := some 41) (v := ?_) rfl rfl (by kernel_rfl) (by kernel_rfl) (by kernel_rfl) (fun _ _ _ h => h) (Or.inl ⟨by rfl, ?_⟩) (by assumption) ?_
        rotate_left 1
        · intro w hSw
          obtain ⟨q0, q1, q2, q3, q4, q5, q6, q7, q8, q9, q10⟩ := hSw
          go_simp <;> with_reducible rfl
        simp only [Act.put, List.setIfInBounds_toArray]
        try simp only [List.set_cons_succ]
        try simp only [List.set_cons_zero]
        refine take1 (i := 6) (d := some 42) (v := ?_) rfl rfl (by kernel_rfl) (by kernel_rfl) (by kernel_rfl) (fun _ _ _ h => h) (Or.inl ⟨by rfl, ?_⟩) (by assumption) ?_
        rotate_left 1
        · intro w hSw
          obtain ⟨q0, q1, q2, q3, q4, q5, q6, q7, q8, q9, q10⟩ := hSw
          go_simp <;> with_reducible rfl
        simp only [Act.put, List.setIfInBounds_toArray]
        try simp only [List.set_cons_succ]
        try simp only [List.set_cons_zero]
        refine wpAnyH_ready (rs := [7]) (by kernel_rfl) (by simp) ?_
        refine AllReadyH.cons rfl (fun KK hKK => ?_) AllReadyH.nil
        go_simp
        have bX := (Below.refl wC.heap.size wC).alloc (Nat.le_refl _) (.cells #[.int .i64 0, .int .i64 0, .int .i64 0, .int .i64 0, .string ⟨#[]⟩, .slice none 0 0] 28)
        have zk6 : wC.heap.size < (wC.alloc (.cells #[.int .i64 0, .int .i64 0, .int .i64 0, .int .i64 0, .string ⟨#[]⟩, .slice none 0 0] 28)).heap.size := by simp
        have k6 : ∀ o, (wC.alloc (.cells #[.int .i64 0, .int .i64 0, .int .i64 0, .int .i64 0, .string ⟨#[]⟩, .slice none 0 0] 28)).cell? ⟨wC.heap.size, o, none⟩ = #[.int .i64 0, .int .i64 0, .int .i64 0, .int .i64 0, .string ⟨#[]⟩, .slice none 0 0][o]? := fun o => World.cell?_alloc_at _ _ _ _ rfl
        have g6 : ∀ o, (wC.alloc (.cells #[.int .i64 0, .int .i64 0, .int .i64 0, .int .i64 0, .string ⟨#[]⟩, .slice none 0 0] 28)).frozen? ⟨wC.heap.size, o, none⟩ = false := fun o => World.frozen?_alloc_at _ _ _ _ rfl
        generalize wC.alloc (.cells #[.int .i64 0, .int .i64 0, .int .i64 0, .int .i64 0, .string ⟨#[]⟩, .slice none 0 0] 28) = X at bX zk6 k6 g6 ⊢
        have BWX : Below U.heap.size U X := BWwC.trans (bX.mono BWwC.size)
        replace HOC := Hid.intro (HOC.out.kept bX)
        refine hKK.out _ _ (HS.out _ BWX) (fun hHeld2 => ?_)
        clear hKK KK hHeld
        have hHeld := hHeld2
        clear hHeld2
        refine wpAnyH_ready (rs := [8]) (by kernel_rfl) (by simp) ?_
        refine AllReadyH.cons rfl (fun KK hKK => ?_) AllReadyH.nil
        go_simp
        obtain ⟨Y, hY, cY, oY, zY⟩ := set6a (x0 := .int .i64 (ksK K r).t) (x1 := .int .i64 (ksK K r).v) (x2 := .int .i64 (ksK K r).si) (x3 := .int .i64 (ksK K r).st) (x4 := .string (ksK K r).sd) (x5 := .slice aC (ksK K r).e.length capC) k6
        simp only [hY]
        have BWY := BWX.trans (oY.below BWX.size (fun k hk h => by have := BWwC.size; omega))
        refine hKK.out _ _ (HS.out _ BWY) (fun hHeld2 => ?_)
        clear hKK KK hHeld
        have hHeld := hHeld2
        clear hHeld2
        refine take1 (i := 9) (d := some 10) (v := ?_) rfl rfl (by kernel_rfl) (by kernel_rfl) (by kernel_rfl) (fun _ _ _ h => h) (Or.inl ⟨by rfl, ?_⟩) (by assumption) ?_
        rotate_left 1
        · intro w hSw
          obtain ⟨q0, q1, q2, q3, q4, q5, q6, q7, q8, q9, q10⟩ := hSw
          go_simp <;> with_reducible rfl
        simp only [Act.put, List.setIfInBounds_toArray]
        try simp only [List.set_cons_succ]
        try simp only [List.set_cons_zero]
        refine wpAnyH_done (by kernel_rfl) ?_ _
        have HOY := HOC.out.only oY (fun k hk h => HN.out k hk h)
        have hi : wC.heap.size < Y.heap.size := by omega
        go_wp2_with fail
        go_meet
        case rel => exact ⟨_, _, rfl, rfl, ⟨BWwC.size, hi, cY, HOY, HN.out, BWY⟩⟩
      · skip
        go_simp
        have bX := (Below.refl wB.heap.size wB).alloc (Nat.le_refl _) (.cells #[.int .i64 0, .int .i64 0, .int .i64 0, .int .i64 0, .string ⟨#[]⟩, .slice none 0 0] 28)
        have zk6 : wB.heap.size < (wB.alloc (.cells #[.int .i64 0, .int .i64 0, .int .i64 0, .int .i64 0, .string ⟨#[]⟩, .slice none 0 0] 28)).heap.size := by simp
        have k6 : ∀ o, (wB.alloc (.cells #[.int .i64 0, .int .i64 0, .int .i64 0, .int .i64 0, .string ⟨#[]⟩, .slice none 0 0] 28)).cell? ⟨wB.heap.size, o, none⟩ = #[.int .i64 0, .int .i64 0, .int .i64 0, .int .i64 0, .string ⟨#[]⟩, .slice none 0 0][o]? := fun o => World.cell?_alloc_at _ _ _ _ rfl
        have g6 : ∀ o, (wB.alloc (.cells #[.int .i64 0, .int .i64 0, .int .i64 0, .int .i64 0, .string ⟨#[]⟩, .slice none 0 0] 28)).frozen? ⟨wB.heap.size, o, none⟩ = false := fun o => World.frozen?_alloc_at _ _ _ _ rfl
        generalize wB.alloc (.cells #[.int .i64 0, .int .i64 0, .int .i64 0, .int .i64 0, .string ⟨#[]⟩, .slice none 0 0] 28) = X at bX zk6 k6 g6 ⊢
        have BWX : Below U.heap.size U X := BWwB.trans (bX.mono BWwB.size)
        refine hKK.out _ _ (HS.out _ BWX) (fun hHeld2 => ?_)
        clear hKK KK hHeld
        have hHeld := hHeld2
        clear hHeld2
        refine wpAnyH_ready (rs := [3]) (by kernel_rfl) (by simp) ?_
        refine AllReadyH.cons rfl (fun KK hKK => ?_) AllReadyH.nil
        go_simp
        refine (implKeptStep_any K _ X.heap.size r _ (Nat.le_refl _) (H8.out.kept BWX).own.rowAll).mono ?_
        rintro e wC ⟨vC, rfl, oC, bwC⟩
        obtain ⟨aC, capC, rfl⟩ := oC.slice
        have HN : Hid (∀ k, (Value.slice aC (ksK K r).e.length capC).ownBlock = some k → ¬ k = wB.heap.size) := fun k hk h => by have := (oC.lt k hk).1; omega
        have HOC := Hid.intro (OwnE.lower oC BWX.size)
        clear oC
        have BWwC : Below U.heap.size U wC := BWX.trans (bwC.mono BWX.size)
        replace k6 := keepC bwC zk6 k6
        replace g6 := keepF bwC zk6 g6
        replace zk6 : wB.heap.size < wC.heap.size := Nat.lt_of_lt_of_le zk6 bwC.size
        go_simp
        refine hKK.out _ _ (HS.out _ BWwC) (fun hHeld2 => ?_)
        clear hKK KK hHeld
        have hHeld := hHeld2
        clear hHeld2
        refine take1 (i := 4) (d := some 36) (v := ?_) rfl rfl (by kernel_rfl) (by kernel_rfl) (by kernel_rfl) (fun _ _ _ h => h) (Or.inl ⟨by rfl, ?_⟩) (by assumption) ?_
        rotate_left 1
        · intro w hSw
          obtain ⟨q0, q1, q2, q3, q4, q5, q6, q7, q8, q9, q10⟩ := hSw
          go_simp <;> with_reducible rfl
        simp only [Act.put, List.setIfInBounds_toArray]
        try simp only [List.set_cons_succ]
        try simp only [List.set_cons_zero]
        refine take1 (i := 5) (d := some 41) (v := ?_) rfl rfl (by kernel_rfl) (by kernel_rfl) (by kernel_rfl) (fun _ _ _ h => h) (Or.inl ⟨by rfl, ?_⟩) (by assumption) ?_
        rotate_left 1
        · intro w hSw
          obtain ⟨q0, q1, q2, q3, q4, q5, q6, q7, q8, q9, q10⟩ := hSw
          go_simp <;> with_reducible rfl
        simp only [Act.put, List.setIfInBounds_toArray]
        try simp only [List.set_cons_succ]
        try simp only [List.set_cons_zero]
        refine take1 (i := 6) (d := some 42) (v := ?_) rfl rfl (by kernel_rfl) (by kernel_rfl) (by kernel_rfl) (fun _ _ _ h => h) (Or.inl ⟨by rfl, ?_⟩) (by assumption) ?_
        rotate_left 1
        · intro w hSw
          obtain ⟨q0, q1, q2, q3, q4, q5, q6, q7, q8, q9, q10⟩ := hSw
          go_simp <;> with_reducible rfl
        simp only [Act.put, List.setIfInBounds_toArray]
        try simp only [List.set_cons_succ]
        try simp only [List.set_cons_zero]
        refine wpAnyH_ready (rs := [8]) (by kernel_rfl) (by simp) ?_
        refine AllReadyH.cons rfl (fun KK hKK => ?_) AllReadyH.nil
        go_simp
        obtain ⟨Y, hY, cY, oY, zY⟩ := set6a (x0 := .int .i64 (ksK K r).t) (x1 := .int .i64 (ksK K r).v) (x2 := .int .i64 (ksK K r).si) (x3 := .int .i64 (ksK K r).st) (x4 := .string (ksK K r).sd) (x5 := .slice aC (ksK K r).e.length capC) k6
        simp only [hY]
        have BWY := BWwC.trans (oY.below BWwC.size (fun k hk h => by have := BWwB.size; omega))
        refine hKK.out _ _ (HS.out _ BWY) (fun hHeld2 => ?_)
        clear hKK KK hHeld
        have hHeld := hHeld2
        clear hHeld2
        refine take1 (i := 9) (d := some 10) (v := ?_) rfl rfl (by kernel_rfl) (by kernel_rfl) (by kernel_rfl) (fun _ _ _ h => h) (Or.inl ⟨by rfl, ?_⟩) (by assumption) ?_
        rotate_left 1
        · intro w hSw
          obtain ⟨q0, q1, q2, q3, q4, q5, q6, q7, q8, q9, q10⟩ := hSw
          go_simp <;> with_reducible rfl
        simp only [Act.put, List.setIfInBounds_toArray]
        try simp only [List.set_cons_succ]
        try simp only [List.set_cons_zero]
        refine wpAnyH_done (by kernel_rfl) ?_ _
        have HOY := HOC.out.only oY (fun k hk h => HN.out k hk h)
        have hi : wB.heap.size < Y.heap.size := by omega
        go_wp2_with fail
        go_meet
        case rel => exact ⟨_, _, rfl, rfl, ⟨BWwB.size, hi, cY, HOY, HN.out, BWY⟩⟩
    · skip
      go_simp
      have bX := (Below.refl D.heap.size D).alloc (Nat.le_refl _) (.cells #[.int .i64 0, .int .i64 0, .int .i64 0, .int .i64 0, .string ⟨#[]⟩, .slice none 0 0] 28)
      have zk6 : D.heap.size < (D.alloc (.cells #[.int .i64 0, .int .i64 0, .int .i64 0, .int .i64 0, .string ⟨#[]⟩, .slice none 0 0] 28)).heap.size := by simp
      have k6 : ∀ o, (D.alloc (.cells #[.int .i64 0, .int .i64 0, .int .i64 0, .int .i64 0, .string ⟨#[]⟩, .slice none 0 0] 28)).cell? ⟨D.heap.size, o, none⟩ = #[.int .i64 0, .int .i64 0, .int .i64 0, .int .i64 0, .string ⟨#[]⟩, .slice none 0 0][o]? := fun o => World.cell?_alloc_at _ _ _ _ rfl
      have g6 : ∀ o, (D.alloc (.cells #[.int .i64 0, .int .i64 0, .int .i64 0, .int .i64 0, .string ⟨#[]⟩, .slice none 0 0] 28)).frozen? ⟨D.heap.size, o, none⟩ = false := fun o => World.frozen?_alloc_at _ _ _ _ rfl
      generalize D.alloc (.cells #[.int .i64 0, .int .i64 0, .int .i64 0, .int .i64 0, .string ⟨#[]⟩, .slice none 0 0] 28) = X at bX zk6 k6 g6 ⊢
      have BWX : Below U.heap.size U X := BWD.trans (bX.mono BWD.size)
      refine hKK.out _ _ (HS.out _ BWX) (fun hHeld2 => ?_)
      clear hKK KK hHeld
      have hHeld := hHeld2
      clear hHeld2
      refine wpAnyH_ready (rs := [2]) (by kernel_rfl) (by simp) ?_
      refine AllReadyH.cons rfl (fun KK hKK => ?_) AllReadyH.nil
      go_simp
      refine (toRec_any r _).mono ?_
      rintro e wB ⟨rfl, bwB⟩
      have BWwB : Below U.heap.size U wB := BWX.trans (bwB.mono BWX.size)
      replace k6 := keepC bwB zk6 k6
      replace g6 := keepF bwB zk6 g6
      replace zk6 : D.heap.size < wB.heap.size := Nat.lt_of_lt_of_le zk6 bwB.size
      go_simp
      refine hKK.out _ _ (HS.out _ BWwB) (fun hHeld2 => ?_)
      clear hKK KK hHeld
      have hHeld := hHeld2
      clear hHeld2
      refine wpAnyH_ready (rs := [3]) (by kernel_rfl) (by simp) ?_
      refine AllReadyH.cons rfl (fun KK hKK => ?_) AllReadyH.nil
      go_simp
      refine (implKeptStep_any K _ wB.heap.size r _ (Nat.le_refl _) (H8.out.kept BWwB).own.rowAll).mono ?_
      rintro e wC ⟨vC, rfl, oC, bwC⟩
      obtain ⟨aC, capC, rfl⟩ := oC.slice
      have HN : Hid (∀ k, (Value.slice aC (ksK K r).e.length capC).ownBlock = some k → ¬ k = D.heap.size) := fun k hk h => by have := (oC.lt k hk).1; omega
      have HOC := Hid.intro (OwnE.lower oC BWwB.size)
      clear oC
      have BWwC : Below U.heap.size U wC := BWwB.trans (bwC.mono BWwB.size)
      replace k6 := keepC bwC zk6 k6
      replace g6 := keepF bwC zk6 g6
      replace zk6 : D.heap.size < wC.heap.size := Nat.lt_of_lt_of_le zk6 bwC.size
      go_simp
      refine hKK.out _ _ (HS.out _ BWwC) (fun hHeld2 => ?_)
      clear hKK KK hHeld
      have hHeld := hHeld2
      clear hHeld2
      refine take1 (i := 4) (d := some 36) (v := ?_) rfl rfl (by kernel_rfl) (by kernel_rfl) (by kernel_rfl) (fun _ _ _ h => h) (Or.inl ⟨by rfl, ?_⟩) (by assumption) ?_
      rotate_left 1
      · intro w hSw
        obtain ⟨q0, q1, q2, q3, q4, q5, q6, q7, q8, q9, q10⟩ := hSw
        go_simp <;> with_reducible rfl
      simp only [Act.put, List.setIfInBounds_toArray]
      try simp only [List.set_cons_succ]
      try simp only [List.set_cons_zero]
      refine take1 (i := 5) (d := some 41) (v := ?_) rfl rfl (by kernel_rfl) (by kernel_rfl) (by kernel_rfl) (fun _ _ _ h => h) (Or.inl ⟨by rfl, ?_⟩) (by assumption) ?_
      rotate_left 1
      · intro w hSw
        obtain ⟨q0, q1, q2, q3, q4, q5, q6, q7, q8, q9, q10⟩ := hSw
        go_simp <;> with_reducible rfl
      simp only [Act.put, List.setIfInBounds_toArray]
      try simp only [List.set_cons_succ]
      try simp only [List.set_cons_zero]
      refine take1 (i := 6) (d := some 42) (v := ?_) rfl rfl (by kernel_rfl) (by kernel_rfl) (by kernel_rfl) (fun _ _ _ h => h) (Or.inl ⟨by rfl, ?_⟩) (by assumption) ?_
      rotate_left 1
      · intro w hSw
        obtain ⟨q0, q1, q2, q3, q4, q5, q6, q7, q8, q9, q10⟩ := hSw
        go_simp <;> with_reducible rfl
      simp only [Act.put, List.setIfInBounds_toArray]
      try simp only [List.set_cons_succ]
      try simp only [List.set_cons_zero]
      refine wpAnyH_ready (rs := [8]) (by kernel_rfl) (by simp) ?_
      refine AllReadyH.cons rfl (fun KK hKK => ?_) AllReadyH.nil
      go_simp
      obtain ⟨Y, hY, cY, oY, zY⟩ := set6a (x0 := .int .i64 (ksK K r).t) (x1 := .int .i64 (ksK K r).v) (x2 := .int .i64 (ksK K r).si) (x3 := .int .i64 (ksK K r).st) (x4 := .string (ksK K r).sd) (x5 := .slice aC (ksK K r).e.length capC) k6
      simp only [hY]
      have BWY := BWwC.trans (oY.below BWwC.size (fun k hk h => by have := BWD.size; omega))
      refine hKK.out _ _ (HS.out _ BWY) (fun hHeld2 => ?_)
      clear hKK KK hHeld
      have hHeld := hHeld2
      clear hHeld2
      refine take1 (i := 9) (d := some 10) (v := ?_) rfl rfl (by kernel_rfl) (by kernel_rfl) (by kernel_rfl) (fun _ _ _ h => h) (Or.inl ⟨by rfl, ?_⟩) (by assumption) ?_
      rotate_left 1
      · intro w hSw
        obtain ⟨q0, q1, q2, q3, q4, q5, q6, q7, q8, q9, q10⟩ := hSw
        go_simp <;> with_reducible rfl
      simp only [Act.put, List.setIfInBounds_toArray]
      try simp only [List.set_cons_succ]
      try simp only [List.set_cons_zero]
      refine wpAnyH_done (by kernel_rfl) ?_ _
      have HOY := HOC.out.only oY (fun k hk h => HN.out k hk h)
      have hi : D.heap.size < Y.heap.size := by omega
      go_wp2_with fail
      go_meet
      case rel => exact ⟨_, _, rfl, rfl, ⟨BWD.size, hi, cY, HOY, HN.out, BWY⟩⟩
  case rest =>
  obtain ⟨w5, hw5⟩ : ∃ w5, w5 = wc := ⟨_, rfl⟩
  subst hw5
  obtain ⟨b9, v9, rfl, rfl, h9⟩ := hcut
  have H9 := Hid.intro h9.kv
  have s9 := h9.lo
  have HN9 : Hid (∀ k, v9.ownBlock = some k → U.heap.size ≤ k) := fun k hk => (h9.own.lt k hk).1
  have HE9 := Hid.intro h9.ne
  replace HB := Hid.intro (HB.out.kept h9.below HB.out.sz)
  replace H6 := Hid.intro (H6.out.kept h9.below)
  replace H8 := Hid.intro (H8.out.kept h9.below)
  clear HS h9
  have c9 := H9.out.cell
  have c6 := H6.out.cell
  go_wp2_with fail
  refine (eqKept_any (ksK K r) v9 v6 w5.heap.size w5 (Nat.le_refl _) H9.out.own.rowAll H6.out.own.rowAll).mono ?_
  rintro e w6 ⟨rfl, b66⟩
  replace HB := Hid.intro (HB.out.kept b66 HB.out.sz)
  replace H6 := Hid.intro (H6.out.kept b66)
  replace H8 := Hid.intro (H8.out.kept b66)
  replace H9 := Hid.intro (H9.out.kept b66)
  clear c9 c6 b66
  go_upto_region 13 with fail
  have HC : Hid (∀ w', Below w6.heap.size w6 w' → (∀ o, w'.cell? ⟨w4.heap.size, o, none⟩ = #[.int .i64 K.t, .int .i64 K.v, .int .i64 K.si, .int .i64 K.st, .string K.sd, .slice a4 K.e.length cap4][o]?) ∧ OwnE w' w3.heap.size (.slice a4 K.e.length cap4) K.e ∧ RowE w' w.heap.size v K.e ∧ w.heap.size ≤ w'.heap.size ∧ w4.heap.size < w'.heap.size ∧ Below w6.heap.size w6 w') := fun w' hb => ⟨(H8.out.kept hb).cell, (H8.out.kept hb).own, (HB.out.kept hb HB.out.sz).row, Nat.le_trans (by have := HB.out.sz; omega) hb.size, (H8.out.kept hb).hi, hb⟩
  go_cut [56] from 52 (fun s wc => s = .bool false ∧ Below w6.heap.size w6 wc)
  case first =>
    have c1 := HB.out.a
    have cX := H8.out.cell
    have z81 := H8.out.hi
    have z82 := HB.out.sz
    go_region_with (first
      | (go_at_call 27; refine (toKept_any K v w.heap.size _ (HC.out _ (by first | exact (Below.refl _ _).drew | exact Below.refl _ _ | exact (Below.refl _ _).drew.drew)).2.2.2.1 (HC.out _ (by first | exact (Below.refl _ _).drew | exact Below.refl _ _ | exact (Below.refl _ _).drew.drew)).2.2.1 HL.out).mono ?_; rintro e w7 ⟨v7, rfl, o7, b7⟩; obtain ⟨a7, cap7, rfl⟩ := o7.slice; obtain ⟨cY, oY, _, _, zY, B7⟩ := HC.out w7 (by first | exact b7 | exact ((Below.refl _ _).drew).trans b7 | exact ((Below.refl _ _).drew.drew).trans b7); have HY := Hid.intro oY; have H7 := Hid.intro o7; clear b7 o7 oY)
      | (go_at_call 29; refine (eqKept_any K _ _ w7.heap.size w7 (Nat.le_refl _) HY.out.rowAll H7.out.rowAll).mono ?_; rintro e w8 ⟨rfl, b8⟩; have B8 := B7.trans (b8.mono (by have := B7.size; omega)); clear b8))
    all_goals
      clear HC c1 cX
      go_wp2_with fail
      go_meet
      case rel => exact ⟨rfl, B8⟩
  case rest =>
  obtain ⟨wa, hwa⟩ : ∃ wa, wa = wc := ⟨_, rfl⟩
  subst hwa
  obtain ⟨rfl, ba⟩ := hcut
  replace HB := Hid.intro (HB.out.kept ba HB.out.sz)
  replace H6 := Hid.intro (H6.out.kept ba)
  replace H8 := Hid.intro (H8.out.kept ba)
  replace H9 := Hid.intro (H9.out.kept ba)
  clear HC ba
  have c8 := H8.out.cell
  go_wp2_with fail
  refine (markKept_any K _ w3.heap.size 1 wa (by have := H8.out.hi; omega) H8.out.own (by have := HL.out; omega) (by omega) (by omega)).mono ?_
  rintro e wb ⟨rfl, _, qb⟩
  have bb : Below w3.heap.size wa wb := qb.below (by have := H8.out.hi; omega) (fun k hk h => by have := (HN8.out k h.symm).1; omega)
  replace HB := Hid.intro (HB.out.kept bb hz3)
  replace H6 := Hid.intro (H6.out.keptB bb s6 HN6.out)
  replace H9 := Hid.intro (H9.out.only qb (fun h => by have := (HN8.out _ h.symm).2; omega) (fun k hk h => by have := (HN8.out k h.symm).2; have := HN9.out k hk; omega))
  obtain ⟨kk, hkk, hk0⟩ : ∃ kk : Int, 1 + 2 * ((K.e.length : Nat) : Int) = kk ∧ 0 ≤ kk := ⟨_, rfl, by omega⟩
  simp only [hkk]
  clear hkk c8 qb bb H8 HN8
  have c9 := H9.out.cell
  have c6 := H6.out.cell
  go_wp2_with fail
  refine (eqKept_any (ksK K r) v9 v6 wb.heap.size wb (Nat.le_refl _) H9.out.own.rowAll H6.out.own.rowAll).mono ?_
  rintro e wd ⟨rfl, bd⟩
  replace HB := Hid.intro (HB.out.kept bd HB.out.sz)
  replace H6 := Hid.intro (H6.out.kept bd)
  replace H9 := Hid.intro (H9.out.kept bd)
  replace c9 := H9.out.cell
  clear c6 bd
  have hl9 : (ksK K r).e.length ≤ 2000000 := by have := ksK_len K r; have := HL.out; omega
  have z9 := H9.out.hi
  have hXd : U.heap.size ≤ wd.heap.size := by omega
  go_wp2_with fail
  refine (markKept_any (ksK K r) _ U.heap.size 1 wd hXd H9.out.own hl9 (by omega) (by omega)).mono ?_
  rintro e we ⟨rfl, oe, qe⟩
  have be : Below U.heap.size wd we := qe.below hXd (fun k hk h => by have := HN9.out k h.symm; omega)
  have hX3 : w3.heap.size < U.heap.size := by omega
  replace HB := Hid.intro (HB.out.kept be (by omega))
  replace H6 := Hid.intro (H6.out.keptB be (by omega) (fun k hk => by have := HN6.out k hk; omega))
  have ce : ∀ o, we.cell? ⟨b9, o, none⟩ = #[.int .i64 (ksK K r).t, .int .i64 (ksK K r).v, .int .i64 (ksK K r).si, .int .i64 (ksK K r).st, .string (ksK K r).sd, v9][o]? := fun o => (qe.cell z9 (fun h => HE9.out b9 h.symm rfl)).trans (c9 o)
  have hm9 : (markEL 1 (ksK K r).e (ksK K r).e.length).length = (ksK K r).e.length := markEL_len _ _ _
  have HO := Hid.intro oe
  have ze : b9 < we.heap.size := Nat.lt_of_lt_of_le z9 qe.size
  clear c9 qe be oe H9
  go_wp2_with fail
  refine (heldKept_any (ksK K r) (markEL 1 (ksK K r).e (ksK K r).e.length) v9 we.heap.size 1 we (Nat.le_refl _) HO.out.rowAll (fun i h => markEL_get _ _ _ _ (by rw [hm9] at h; exact h) h) (by rw [hm9]; exact hl9) (by omega) (by omega)).mono ?_
  rintro e wf ⟨rfl, bf⟩
  rw [hm9]
  obtain ⟨mm, hmm, hm0⟩ : ∃ mm : Int, 1 + 2 * (((ksK K r).e.length : Nat) : Int) = mm ∧ 0 ≤ mm := ⟨_, rfl, by omega⟩
  simp only [hmm]
  replace HB := Hid.intro (HB.out.kept bf HB.out.sz)
  replace H6 := Hid.intro (H6.out.kept bf)
  replace HO := Hid.intro (HO.out.kept bf)
  replace ce := keepC bf ze ce
  replace ze : b9 < wf.heap.size := Nat.lt_of_lt_of_le ze bf.size
  clear bf z9 hXd
  go_upto_region 27 with fail
  have HS : Hid (∀ w', Below wf.heap.size wf w' → SK2 K v r w.heap.size w') := fun w' hb => (HB.out.kept hb HB.out.sz).sk
  have HC : Hid (∀ w', Below wf.heap.size wf w' → True ∧ RowE w' w.heap.size v K.e ∧ w.heap.size ≤ w'.heap.size) := fun w' hb => ⟨trivial, (HB.out.kept hb HB.out.sz).row, Nat.le_trans (by have := HB.out.sz; omega) hb.size⟩
  go_cut [14, 15] from 84 (fun s s' wc => ∃ b v, s = .pointer (some ⟨b, 0, none⟩) ∧ s' = .bool (ksB K r) ∧ Res wf wc b (ksK K r) v)
  case first =>
    clear ce
    refine wp_region_held_drew (S := SK2 K v r w.heap.size) (by kernel_rfl) (HS.out _ (Below.refl _ _).drew) (fun hHeld => ?_)
    have BWD : Below wf.heap.size wf wf.drew := (Below.refl _ _).drew
    generalize wf.drew = D at BWD hHeld ⊢
    refine take1 (i := 0) (d := some 85) (v := ?_) rfl rfl (by kernel_rfl) (by kernel_rfl) (by kernel_rfl) (fun _ _ _ h => h) (Or.inl ⟨by rfl, ?_⟩) (by assumption) ?_
    rotate_left 1
    · intro w hSw
      obtain ⟨q0, q1, q2, q3, q4, q5, q6, q7, q8, q9, q10⟩ := hSw
      go_simp <;> with_reducible rfl
    simp only [Act.put, List.setIfInBounds_toArray]
    try simp only [List.set_cons_succ]
    try simp only [List.set_cons_zero]
    refine take1 (i := 2) (d := some 87) (v := ?_) rfl rfl (by kernel_rfl) (by kernel_rfl) (by kernel_rfl) (fun _ _ _ h => h) (Or.inl ⟨by rfl, ?_⟩) (by assumption) ?_
    rotate_left 1
    · intro w hSw
      obtain ⟨q0, q1, q2, q3, q4, q5, q6, q7, q8, q9, q10⟩ := hSw
      go_simp <;> with_reducible rfl
    simp only [Act.put, List.setIfInBounds_toArray]
    try simp only [List.set_cons_succ]
    try simp only [List.set_cons_zero]
    refine wpAnyH_ready (rs := [1, 8]) (by kernel_rfl) (by simp) ?_
    refine AllReadyH.cons rfl (fun KK hKK => ?_) (AllReadyH.cons rfl (fun KK hKK => ?_) AllReadyH.nil)
    · skip
      go_simp
      refine (toKept_any K v w.heap.size _ (HC.out _ BWD).2.2 (HC.out _ BWD).2.1 HL.out).mono ?_
      rintro e wA ⟨vA, rfl, oA, bwA⟩
      have HOA := Hid.intro oA
      clear oA
      have BWwA : Below wf.heap.size wf wA := BWD.trans (bwA.mono BWD.size)
      go_simp
      refine hKK.out _ _ (HS.out _ BWwA) (fun hHeld2 => ?_)
      clear hKK KK hHeld
      have hHeld := hHeld2
      clear hHeld2
      refine wpAnyH_ready (rs := [3, 8]) (by kernel_rfl) (by simp) ?_
      refine AllReadyH.cons rfl (fun KK hKK => ?_) (AllReadyH.cons rfl (fun KK hKK => ?_) AllReadyH.nil)
      · skip
        go_simp
        refine (toRec_any r _).mono ?_
        rintro e wB ⟨rfl, bwB⟩
        have BWwB : Below wf.heap.size wf wB := BWwA.trans (bwB.mono BWwA.size)
        replace HOA := Hid.intro (HOA.out.kept bwB)
        go_simp
        refine hKK.out _ _ (HS.out _ BWwB) (fun hHeld2 => ?_)
        clear hKK KK hHeld
        have hHeld := hHeld2
        clear hHeld2
        refine wpAnyH_ready (rs := [4, 8]) (by kernel_rfl) (by simp) ?_
        refine AllReadyH.cons rfl (fun KK hKK => ?_) (AllReadyH.cons rfl (fun KK hKK => ?_) AllReadyH.nil)
        · skip
          go_simp
          refine (implKeptStep_any K vA wB.heap.size r _ (Nat.le_refl _) HOA.out.rowAll).mono ?_
          rintro e wC ⟨vC, rfl, oC, bwC⟩
          obtain ⟨aC, capC, rfl⟩ := oC.slice
          have HN : Hid (∀ k, (Value.slice aC (ksK K r).e.length capC).ownBlock = some k → ¬ k = wC.heap.size) := fun k hk h => by have := (oC.lt k hk).2; omega
          have HOC := Hid.intro (OwnE.lower oC BWwB.size)
          clear oC
          have BWwC : Below wf.heap.size wf wC := BWwB.trans (bwC.mono BWwB.size)
          replace HOA := Hid.intro (HOA.out.kept bwC)
          go_simp
          refine hKK.out _ _ (HS.out _ BWwC) (fun hHeld2 => ?_)
          clear hKK KK hHeld
          have hHeld := hHeld2
          clear hHeld2
          refine take1 (i := 5) (d := some 84) (v := ?_) rfl rfl (by kernel_rfl) (by kernel_rfl) (by kernel_rfl) (fun _ _ _ h => h) (Or.inl ⟨by rfl, ?_⟩) (by assumption) ?_
          rotate_left 1
          · intro w hSw
            obtain ⟨q0, q1, q2, q3, q4, q5, q6, q7, q8, q9, q10⟩ := hSw
            go_simp <;> with_reducible rfl
          simp only [Act.put, List.setIfInBounds_toArray]
          try simp only [List.set_cons_succ]
          try simp only [List.set_cons_zero]
          refine take1 (i := 6) (d := some 90) (v := ?_) rfl rfl (by kernel_rfl) (by kernel_rfl) (by kernel_rfl) (fun _ _ _ h => h) (Or.inl ⟨by rfl, ?_⟩) (by assumption) ?_
          rotate_left 1
          · intro w hSw
            obtain ⟨q0, q1, q2, q3, q4, q5, q6, q7, q8, q9, q10⟩ := hSw
            go_simp <;> with_reducible rfl
          simp only [Act.put, List.setIfInBounds_toArray]
          try simp only [List.set_cons_succ]
          try simp only [List.set_cons_zero]
          refine take1 (i := 7) (d := some 91) (v := ?_) rfl rfl (by kernel_rfl) (by kernel_rfl) (by kernel_rfl) (fun _ _ _ h => h) (Or.inl ⟨by rfl, ?_⟩) (by assumption) ?_
          rotate_left 1
          · intro w hSw
            obtain ⟨q0, q1, q2, q3, q4, q5, q6, q7, q8, q9, q10⟩ := hSw
            go_simp <;> with_reducible rfl
          simp only [Act.put, List.setIfInBounds_toArray]
          try simp only [List.set_cons_succ]
          try simp only [List.set_cons_zero]
          refine wpAnyH_ready (rs := [8]) (by kernel_rfl) (by simp) ?_
          refine AllReadyH.cons rfl (fun KK hKK => ?_) AllReadyH.nil
          go_simp
          have bX := (Below.refl wC.heap.size wC).alloc (Nat.le_refl _) (.cells #[.int .i64 0, .int .i64 0, .int .i64 0, .int .i64 0, .string ⟨#[]⟩, .slice none 0 0] 28)
          have zk6 : wC.heap.size < (wC.alloc (.cells #[.int .i64 0, .int .i64 0, .int .i64 0, .int .i64 0, .string ⟨#[]⟩, .slice none 0 0] 28)).heap.size := by simp
          have k6 : ∀ o, (wC.alloc (.cells #[.int .i64 0, .int .i64 0, .int .i64 0, .int .i64 0, .string ⟨#[]⟩, .slice none 0 0] 28)).cell? ⟨wC.heap.size, o, none⟩ = #[.int .i64 0, .int .i64 0, .int .i64 0, .int .i64 0, .string ⟨#[]⟩, .slice none 0 0][o]? := fun o => World.cell?_alloc_at _ _ _ _ rfl
          have g6 : ∀ o, (wC.alloc (.cells #[.int .i64 0, .int .i64 0, .int .i64 0, .int .i64 0, .string ⟨#[]⟩, .slice none 0 0] 28)).frozen? ⟨wC.heap.size, o, none⟩ = false := fun o => World.frozen?_alloc_at _ _ _ _ rfl
          generalize wC.alloc (.cells #[.int .i64 0, .int .i64 0, .int .i64 0, .int .i64 0, .string ⟨#[]⟩, .slice none 0 0] 28) = X at bX zk6 k6 g6 ⊢
          have BWX : Below wf.heap.size wf X := BWwC.trans (bX.mono BWwC.size)
          replace HOA := Hid.intro (HOA.out.kept bX)
          replace HOC := Hid.intro (HOC.out.kept bX)
          refine hKK.out _ _ (HS.out _ BWX) (fun hHeld2 => ?_)
          clear hKK KK hHeld
          have hHeld := hHeld2
          clear hHeld2
          refine wpAnyH_ready (rs := [9]) (by kernel_rfl) (by simp) ?_
          refine AllReadyH.cons rfl (fun KK hKK => ?_) AllReadyH.nil
          go_simp
          obtain ⟨Y, hY, cY, oY, zY⟩ := set6a (x0 := .int .i64 (ksK K r).t) (x1 := .int .i64 (ksK K r).v) (x2 := .int .i64 (ksK K r).si) (x3 := .int .i64 (ksK K r).st) (x4 := .string (ksK K r).sd) (x5 := .slice aC (ksK K r).e.length capC) k6
          simp only [hY]
          have BWY := BWX.trans (oY.below BWX.size (fun k hk h => by have := BWwC.size; omega))
          refine hKK.out _ _ (HS.out _ BWY) (fun hHeld2 => ?_)
          clear hKK KK hHeld
          have hHeld := hHeld2
          clear hHeld2
          refine take1 (i := 10) (d := some 15) (v := ?_) rfl rfl (by kernel_rfl) (by kernel_rfl) (by kernel_rfl) (fun _ _ _ h => h) (Or.inl ⟨by rfl, ?_⟩) (by assumption) ?_
          rotate_left 1
          · intro w hSw
            obtain ⟨q0, q1, q2, q3, q4, q5, q6, q7, q8, q9, q10⟩ := hSw
            go_simp <;> with_reducible rfl
          simp only [Act.put, List.setIfInBounds_toArray]
          try simp only [List.set_cons_succ]
          try simp only [List.set_cons_zero]
          refine wpAnyH_done (by kernel_rfl) ?_ _
          have HOY := HOC.out.only oY (fun k hk h => HN.out k hk h)
          have hi : wC.heap.size < Y.heap.size := by omega
          go_wp2_with fail
          go_meet
          case rel => exact ⟨_, _, rfl, rfl, ⟨BWwC.size, hi, cY, HOY, HN.out, BWY⟩⟩
        · skip
          go_simp
          have bX := (Below.refl wB.heap.size wB).alloc (Nat.le_refl _) (.cells #[.int .i64 0, .int .i64 0, .int .i64 0, .int .i64 0, .string ⟨#[]⟩, .slice none 0 0] 28)
          have zk6 : wB.heap.size < (wB.alloc (.cells #[.int .i64 0, .int .i64 0, .int .i64 0, .int .i64 0, .string ⟨#[]⟩, .slice none 0 0] 28)).heap.size := by simp
          have k6 : ∀ o, (wB.alloc (.cells #[.int .i64 0, .int .i64 0, .int .i64 0, .int .i64 0, .string ⟨#[]⟩, .slice none 0 0] 28)).cell? ⟨wB.heap.size, o, none⟩ = #[.int .i64 0, .int .i64 0, .int .i64 0, .int .i64 0, .string ⟨#[]⟩, .slice none 0 0][o]? := fun o => World.cell?_alloc_at _ _ _ _ rfl
          have g6 : ∀ o, (wB.alloc (.cells #[.int .i64 0, .int .i64 0, .int .i64 0, .int .i64 0, .string ⟨#[]⟩, .slice none 0 0] 28)).frozen? ⟨wB.heap.size, o, none⟩ = false := fun o => World.frozen?_alloc_at _ _ _ _ rfl
          generalize wB.alloc (.cells #[.int .i64 0, .int .i64 0, .int .i64 0, .int .i64 0, .string ⟨#[]⟩, .slice none 0 0] 28) = X at bX zk6 k6 g6 ⊢
          have BWX : Below wf.heap.size wf X := BWwB.trans (bX.mono BWwB.size)
          replace HOA := Hid.intro (HOA.out.kept bX)
          refine hKK.out _ _ (HS.out _ BWX) (fun hHeld2 => ?_)
          clear hKK KK hHeld
          have hHeld := hHeld2
          clear hHeld2
          refine wpAnyH_ready (rs := [4]) (by kernel_rfl) (by simp) ?_
          refine AllReadyH.cons rfl (fun KK hKK => ?_) AllReadyH.nil
          go_simp
          refine (implKeptStep_any K vA X.heap.size r _ (Nat.le_refl _) HOA.out.rowAll).mono ?_
          rintro e wC ⟨vC, rfl, oC, bwC⟩
          obtain ⟨aC, capC, rfl⟩ := oC.slice
          have HN : Hid (∀ k, (Value.slice aC (ksK K r).e.length capC).ownBlock = some k → ¬ k = wB.heap.size) := fun k hk h => by have := (oC.lt k hk).1; omega
          have HOC := Hid.intro (OwnE.lower oC BWX.size)
          clear oC
          have BWwC : Below wf.heap.size wf wC := BWX.trans (bwC.mono BWX.size)
          replace HOA := Hid.intro (HOA.out.kept bwC)
          replace k6 := keepC bwC zk6 k6
          replace g6 := keepF bwC zk6 g6
          replace zk6 : wB.heap.size < wC.heap.size := Nat.lt_of_lt_of_le zk6 bwC.size
          go_simp
          refine hKK.out _ _ (HS.out _ BWwC) (fun hHeld2 => ?_)
          clear hKK KK hHeld
          have hHeld := hHeld2
          clear hHeld2
          refine take1 (i := 5) (d := some 84) (v := ?_) rfl rfl (by kernel_rfl) (by kernel_rfl) (by kernel_rfl) (fun _ _ _ h => h) (Or.inl ⟨by rfl, ?_⟩) (by assumption) ?_
          rotate_left 1
          · intro w hSw
            obtain ⟨q0, q1, q2, q3, q4, q5, q6, q7, q8, q9, q10⟩ := hSw
            go_simp <;> with_reducible rfl
          simp only [Act.put, List.setIfInBounds_toArray]
          try simp only [List.set_cons_succ]
          try simp only [List.set_cons_zero]
          refine take1 (i := 6) (d := some 90) (v := ?_) rfl rfl (by kernel_rfl) (by kernel_rfl) (by kernel_rfl) (fun _ _ _ h => h) (Or.inl ⟨by rfl, ?_⟩) (by assumption) ?_
          rotate_left 1
          · intro w hSw
            obtain ⟨q0, q1, q2, q3, q4, q5, q6, q7, q8, q9, q10⟩ := hSw
            go_simp <;> with_reducible rfl
          simp only [Act.put, List.setIfInBounds_toArray]
          try simp only [List.set_cons_succ]
          try simp only [List.set_cons_zero]
          refine take1 (i := 7) (d := some 91) (v := ?_) rfl rfl (by kernel_rfl) (by kernel_rfl) (by kernel_rfl) (fun _ _ _ h => h) (Or.inl ⟨by rfl, ?_⟩) (by assumption) ?_
          rotate_left 1
          · intro w hSw
            obtain ⟨q0, q1, q2, q3, q4, q5, q6, q7, q8, q9, q10⟩ := hSw
            go_simp <;> with_reducible rfl
          simp only [Act.put, List.setIfInBounds_toArray]
          try simp only [List.set_cons_succ]
          try simp only [List.set_cons_zero]
          refine wpAnyH_ready (rs := [9]) (by kernel_rfl) (by simp) ?_
          refine AllReadyH.cons rfl (fun KK hKK => ?_) AllReadyH.nil
          go_simp
          obtain ⟨Y, hY, cY, oY, zY⟩ := set6a (x0 := .int .i64 (ksK K r).t) (x1 := .int .i64 (ksK K r).v) (x2 := .int .i64 (ksK K r).si) (x3 := .int .i64 (ksK K r).st) (x4 := .string (ksK K r).sd) (x5 := .slice aC (ksK K r).e.length capC) k6
          simp only [hY]
          have BWY := BWwC.trans (oY.below BWwC.size (fun k hk h => by have := BWwB.size; omega))
          refine hKK.out _ _ (HS.out _ BWY) (fun hHeld2 => ?_)
          clear hKK KK hHeld
          have hHeld := hHeld2
          clear hHeld2
          refine take1 (i := 10) (d := some 15) (v := ?_) rfl rfl (by kernel_rfl) (by kernel_rfl) (by kernel_rfl) (fun _ _ _ h => h) (Or.inl ⟨by rfl, ?_⟩) (by assumption) ?_
          rotate_left 1
          · intro w hSw
            obtain ⟨q0, q1, q2, q3, q4, q5, q6, q7, q8, q9, q10⟩ := hSw
            go_simp <;> with_reducible rfl
          simp only [Act.put, List.setIfInBounds_toArray]
          try simp only [List.set_cons_succ]
          try simp only [List.set_cons_zero]
          refine wpAnyH_done (by kernel_rfl) ?_ _
          have HOY := HOC.out.only oY (fun k hk h => HN.out k hk h)
          have hi : wB.heap.size < Y.heap.size := by omega
          go_wp2_with fail
          go_meet
          case rel => exact ⟨_, _, rfl, rfl, ⟨BWwB.size, hi, cY, HOY, HN.out, BWY⟩⟩
      · skip
        go_simp
        have bX := (Below.refl wA.heap.size wA).alloc (Nat.le_refl _) (.cells #[.int .i64 0, .int .i64 0, .int .i64 0, .int .i64 0, .string ⟨#[]⟩, .slice none 0 0] 28)
        have zk6 : wA.heap.size < (wA.alloc (.cells #[.int .i64 0, .int .i64 0, .int .i64 0, .int .i64 0, .string ⟨#[]⟩, .slice none 0 0] 28)).heap.size := by simp
        have k6 : ∀ o, (wA.alloc (.cells #[.int .i64 0, .int .i64 0, .int .i64 0, .int .i64 0, .string ⟨#[]⟩, .slice none 0 0] 28)).cell? ⟨wA.heap.size, o, none⟩ = #[.int .i64 0, .int .i64 0, .int .i64 0, .int .i64 0, .string ⟨#[]⟩, .slice none 0 0][o]? := fun o => World.cell?_alloc_at _ _ _ _ rfl
        have g6 : ∀ o, (wA.alloc (.cells #[.int .i64 0, .int .i64 0, .int .i64 0, .int .i64 0, .string ⟨#[]⟩, .slice none 0 0] 28)).frozen? ⟨wA.heap.size, o, none⟩ = false := fun o => World.frozen?_alloc_at _ _ _ _ rfl
        generalize wA.alloc (.cells #[.int .i64 0, .int .i64 0, .int .i64 0, .int .i64 0, .string ⟨#[]⟩, .slice none 0 0] 28) = X at bX zk6 k6 g6 ⊢
        have BWX : Below wf.heap.size wf X := BWwA.trans (bX.mono BWwA.size)
        replace HOA := Hid.intro (HOA.out.kept bX)
        refine hKK.out _ _ (HS.out _ BWX) (fun hHeld2 => ?_)
        clear hKK KK hHeld
        have hHeld := hHeld2
        clear hHeld2
        refine wpAnyH_ready (rs := [3]) (by kernel_rfl) (by simp) ?_
        refine AllReadyH.cons rfl (fun KK hKK => ?_) AllReadyH.nil
        go_simp
        refine (toRec_any r _).mono ?_
        rintro e wB ⟨rfl, bwB⟩
        have BWwB : Below wf.heap.size wf wB := BWX.trans (bwB.mono BWX.size)
        replace HOA := Hid.intro (HOA.out.kept bwB)
        replace k6 := keepC bwB zk6 k6
        replace g6 := keepF bwB zk6 g6
        replace zk6 : wA.heap.size < wB.heap.size := Nat.lt_of_lt_of_le zk6 bwB.size
        go_simp
        refine hKK.out _ _ (HS.out _ BWwB) (fun hHeld2 => ?_)
        clear hKK KK hHeld
        have hHeld := hHeld2
        clear hHeld2
        refine wpAnyH_ready (rs := [4]) (by kernel_rfl) (by simp) ?_
        refine AllReadyH.cons rfl (fun KK hKK => ?_) AllReadyH.nil
        go_simp
        refine (implKeptStep_any K vA wB.heap.size r _ (Nat.le_refl _) HOA.out.rowAll).mono ?_
        rintro e wC ⟨vC, rfl, oC, bwC⟩
        obtain ⟨aC, capC, rfl⟩ := oC.slice
        have HN : Hid (∀ k, (Value.slice aC (ksK K r).e.length capC).ownBlock = some k → ¬ k = wA.heap.size) := fun k hk h => by have := (oC.lt k hk).1; omega
        have HOC := Hid.intro (OwnE.lower oC BWwB.size)
        clear oC
        have BWwC : Below wf.heap.size wf wC := BWwB.trans (bwC.mono BWwB.size)
        replace HOA := Hid.intro (HOA.out.kept bwC)
        replace k6 := keepC bwC zk6 k6
        replace g6 := keepF bwC zk6 g6
        replace zk6 : wA.heap.size < wC.heap.size := Nat.lt_of_lt_of_le zk6 bwC.size
        go_simp
        refine hKK.out _ _ (HS.out _ BWwC) (fun hHeld2 => ?_)
        clear hKK KK hHeld
        have hHeld := hHeld2
        clear hHeld2
        refine take1 (i := 5) (d := some 84) (v := ?_) rfl rfl (by kernel_rfl) (by kernel_rfl) (by kernel_rfl) (fun _ _ _ h => h) (Or.inl ⟨by rfl, ?_⟩) (by assumption) ?_
        rotate_left 1
        · intro w hSw
          obtain ⟨q0, q1, q2, q3, q4, q5, q6, q7, q8, q9, q10⟩ := hSw
          go_simp <;> with_reducible rfl
        simp only [Act.put, List.setIfInBounds_toArray]
        try simp only [List.set_cons_succ]
        try simp only [List.set_cons_zero]
        refine take1 (i := 6) (d := some 90) (v := ?_) rfl rfl (by kernel_rfl) (by kernel_rfl) (by kernel_rfl) (fun _ _ _ h => h) (Or.inl ⟨by rfl, ?_⟩) (by assumption) ?_
        rotate_left 1
        · intro w hSw
          obtain ⟨q0, q1, q2, q3, q4, q5, q6, q7, q8, q9, q10⟩ := hSw
          go_simp <;> with_reducible rfl
        simp only [Act.put, List.setIfInBounds_toArray]
        try simp only [List.set_cons_succ]
        try simp only [List.set_cons_zero]
        refine take1 (i := 7) (d := some 91) (v := ?_) rfl rfl (by kernel_rfl) (by kernel_rfl) (by kernel_rfl) (fun _ _ _ h => h) (Or.inl ⟨by rfl, ?_⟩) (by assumption) ?_
        rotate_left 1
        · intro w hSw
          obtain ⟨q0, q1, q2, q3, q4, q5, q6, q7, q8, q9, q10⟩ := hSw
          go_simp <;> with_reducible rfl
        simp only [Act.put, List.setIfInBounds_toArray]
        try simp only [List.set_cons_succ]
        try simp only [List.set_cons_zero]
        refine wpAnyH_ready (rs := [9]) (by kernel_rfl) (by simp) ?_
        refine AllReadyH.cons rfl (fun KK hKK => ?_) AllReadyH.nil
        go_simp
        obtain ⟨Y, hY, cY, oY, zY⟩ := set6a (x0 := .int .i64 (ksK K r).t) (x1 := .int .i64 (ksK K r).v) (x2 := .int .i64 (ksK K r).si) (x3 := .int .i64 (ksK K r).st) (x4 := .string (ksK K r).sd) (x5 := .slice aC (ksK K r).e.length capC) k6
        simp only [hY]
        have BWY := BWwC.trans (oY.below BWwC.size (fun k hk h => by have := BWwA.size; omega))
        refine hKK.out _ _ (HS.out _ BWY) (fun hHeld2 => ?_)
        clear hKK KK hHeld
        have hHeld := hHeld2
        clear hHeld2
        refine take1 (i := 10) (d := some 15) (v := ?_) rfl rfl (by kernel_rfl) (by kernel_rfl) (by kernel_rfl) (fun _ _ _ h => h) (Or.inl ⟨by rfl, ?_⟩) (by assumption) ?_
        rotate_left 1
        · intro w hSw
          obtain ⟨q0, q1, q2, q3, q4, q5, q6, q7, q8, q9, q10⟩ := hSw
          go_simp <;> with_reducible rfl
        simp only [Act.put, List.setIfInBounds_toArray]
        try simp only [List.set_cons_succ]
        try simp only [List.set_cons_zero]
        refine wpAnyH_done (by kernel_rfl) ?_ _
        have HOY := HOC.out.only oY (fun k hk h => HN.out k hk h)
        have hi : wA.heap.size < Y.heap.size := by omega
        go_wp2_with fail
        go_meet
        case rel => exact ⟨_, _, rfl, rfl, ⟨BWwA.size, hi, cY, HOY, HN.out, BWY⟩⟩
    · skip
      go_simp
      have bX := (Below.refl D.heap.size D).alloc (Nat.le_refl _) (.cells #[.int .i64 0, .int .i64 0, .int .i64 0, .int .i64 0, .string ⟨#[]⟩, .slice none 0 0] 28)
      have zk6 : D.heap.size < (D.alloc (.cells #[.int .i64 0, .int .i64 0, .int .i64 0, .int .i64 0, .string ⟨#[]⟩, .slice none 0 0] 28)).heap.size := by simp
      have k6 : ∀ o, (D.alloc (.cells #[.int .i64 0, .int .i64 0, .int .i64 0, .int .i64 0, .string ⟨#[]⟩, .slice none 0 0] 28)).cell? ⟨D.heap.size, o, none⟩ = #[.int .i64 0, .int .i64 0, .int .i64 0, .int .i64 0, .string ⟨#[]⟩, .slice none 0 0][o]? := fun o => World.cell?_alloc_at _ _ _ _ rfl
      have g6 : ∀ o, (D.alloc (.cells #[.int .i64 0, .int .i64 0, .int .i64 0, .int .i64 0, .string ⟨#[]⟩, .slice none 0 0] 28)).frozen? ⟨D.heap.size, o, none⟩ = false := fun o => World.frozen?_alloc_at _ _ _ _ rfl
      generalize D.alloc (.cells #[.int .i64 0, .int .i64 0, .int .i64 0, .int .i64 0, .string ⟨#[]⟩, .slice none 0 0] 28) = X at bX zk6 k6 g6 ⊢
      have BWX : Below wf.heap.size wf X := BWD.trans (bX.mono BWD.size)
      refine hKK.out _ _ (HS.out _ BWX) (fun hHeld2 => ?_)
      clear hKK KK hHeld
      have hHeld := hHeld2
      clear hHeld2
      refine wpAnyH_ready (rs := [1]) (by kernel_rfl) (by simp) ?_
      refine AllReadyH.cons rfl (fun KK hKK => ?_) AllReadyH.nil
      go_simp
      refine (toKept_any K v w.heap.size _ (HC.out _ BWX).2.2 (HC.out _ BWX).2.1 HL.out).mono ?_
      rintro e wA ⟨vA, rfl, oA, bwA⟩
      have HOA := Hid.intro oA
      clear oA
      have BWwA : Below wf.heap.size wf wA := BWX.trans (bwA.mono BWX.size)
      replace k6 := keepC bwA zk6 k6
      replace g6 := keepF bwA zk6 g6
      replace zk6 : D.heap.size < wA.heap.size := Nat.lt_of_lt_of_le zk6 bwA.size
      go_simp
      refine hKK.out _ _ (HS.out _ BWwA) (fun hHeld2 => ?_)
      clear hKK KK hHeld
      have hHeld := hHeld2
      clear hHeld2
      refine wpAnyH_ready (rs := [3]) (by kernel_rfl) (by simp) ?_
      refine AllReadyH.cons rfl (fun KK hKK => ?_) AllReadyH.nil
      go_simp
      refine (toRec_any r _).mono ?_
      rintro e wB ⟨rfl, bwB⟩
      have BWwB : Below wf.heap.size wf wB := BWwA.trans (bwB.mono BWwA.size)
      replace HOA := Hid.intro (HOA.out.kept bwB)
      replace k6 := keepC bwB zk6 k6
      replace g6 := keepF bwB zk6 g6
      replace zk6 : D.heap.size < wB.heap.size := Nat.lt_of_lt_of_le zk6 bwB.size
      go_simp
      refine hKK.out _ _ (HS.out _ BWwB) (fun hHeld2 => ?_)
      clear hKK KK hHeld
      have hHeld := hHeld2
      clear hHeld2
      refine wpAnyH_ready (rs := [4]) (by kernel_rfl) (by simp) ?_
      refine AllReadyH.cons rfl (fun KK hKK => ?_) AllReadyH.nil
      go_simp
      refine (implKeptStep_any K vA wB.heap.size r _ (Nat.le_refl _) HOA.out.rowAll).mono ?_
      rintro e wC ⟨vC, rfl, oC, bwC⟩
      obtain ⟨aC, capC, rfl⟩ := oC.slice
      have HN : Hid (∀ k, (Value.slice aC (ksK K r).e.length capC).ownBlock = some k → ¬ k = D.heap.size) := fun k hk h => by have := (oC.lt k hk).1; omega
      have HOC := Hid.intro (OwnE.lower oC BWwB.size)
      clear oC
      have BWwC : Below wf.heap.size wf wC := BWwB.trans (bwC.mono BWwB.size)
      replace HOA := Hid.intro (HOA.out.kept bwC)
      replace k6 := keepC bwC zk6 k6
      replace g6 := keepF bwC zk6 g6
      replace zk6 : D.heap.size < wC.heap.size := Nat.lt_of_lt_of_le zk6 bwC.size
      go_simp
      refine hKK.out _ _ (HS.out _ BWwC) (fun hHeld2 => ?_)
      clear hKK KK hHeld
      have hHeld := hHeld2
      clear hHeld2
      refine take1 (i := 5) (d := some 84) (v := ?_) rfl rfl (by kernel_rfl) (by kernel_rfl) (by kernel_rfl) (fun _ _ _ h => h) (Or.inl ⟨by rfl, ?_⟩) (by assumption) ?_
      rotate_left 1
      · intro w hSw
        obtain ⟨q0, q1, q2, q3, q4, q5, q6, q7, q8, q9, q10⟩ := hSw
        go_simp <;> with_reducible rfl
      simp only [Act.put, List.setIfInBounds_toArray]
      try simp only [List.set_cons_succ]
      try simp only [List.set_cons_zero]
      refine take1 (i := 6) (d := some 90) (v := ?_) rfl rfl (by kernel_rfl) (by kernel_rfl) (by kernel_rfl) (fun _ _ _ h => h) (Or.inl ⟨by rfl, ?_⟩) (by assumption) ?_
      rotate_left 1
      · intro w hSw
        obtain ⟨q0, q1, q2, q3, q4, q5, q6, q7, q8, q9, q10⟩ := hSw
        go_simp <;> with_reducible rfl
      simp only [Act.put, List.setIfInBounds_toArray]
      try simp only [List.set_cons_succ]
      try simp only [List.set_cons_zero]
      refine take1 (i := 7) (d := some 91) (v := ?_) rfl rfl (by kernel_rfl) (by kernel_rfl) (by kernel_rfl) (fun _ _ _ h => h) (Or.inl ⟨by rfl, ?_⟩) (by assumption) ?_
      rotate_left 1
      · intro w hSw
        obtain ⟨q0, q1, q2, q3, q4, q5, q6, q7, q8, q9, q10⟩ := hSw
        go_simp <;> with_reducible rfl
      simp only [Act.put, List.setIfInBounds_toArray]
      try simp only [List.set_cons_succ]
      try simp only [List.set_cons_zero]
      refine wpAnyH_ready (rs := [9]) (by kernel_rfl) (by simp) ?_
      refine AllReadyH.cons rfl (fun KK hKK => ?_) AllReadyH.nil
      go_simp
      obtain ⟨Y, hY, cY, oY, zY⟩ := set6a (x0 := .int .i64 (ksK K r).t) (x1 := .int .i64 (ksK K r).v) (x2 := .int .i64 (ksK K r).si) (x3 := .int .i64 (ksK K r).st) (x4 := .string (ksK K r).sd) (x5 := .slice aC (ksK K r).e.length capC) k6
      simp only [hY]
      have BWY := BWwC.trans (oY.below BWwC.size (fun k hk h => by have := BWD.size; omega))
      refine hKK.out _ _ (HS.out _ BWY) (fun hHeld2 => ?_)
      clear hKK KK hHeld
      have hHeld := hHeld2
      clear hHeld2
      refine take1 (i := 10) (d := some 15) (v := ?_) rfl rfl (by kernel_rfl) (by kernel_rfl) (by kernel_rfl) (fun _ _ _ h => h) (Or.inl ⟨by rfl, ?_⟩) (by assumption) ?_
      rotate_left 1
      · intro w hSw
        obtain ⟨q0, q1, q2, q3, q4, q5, q6, q7, q8, q9, q10⟩ := hSw
        go_simp <;> with_reducible rfl
      simp only [Act.put, List.setIfInBounds_toArray]
      try simp only [List.set_cons_succ]
      try simp only [List.set_cons_zero]
      refine wpAnyH_done (by kernel_rfl) ?_ _
      have HOY := HOC.out.only oY (fun k hk h => HN.out k hk h)
      have hi : D.heap.size < Y.heap.size := by omega
      go_wp2_with fail
      go_meet
      case rel => exact ⟨_, _, rfl, rfl, ⟨BWD.size, hi, cY, HOY, HN.out, BWY⟩⟩
  case rest =>
  obtain ⟨wg, hwg⟩ : ∃ wg, wg = wc := ⟨_, rfl⟩
  subst hwg
  obtain ⟨b14, v14, rfl, rfl, h14⟩ := hcut
  replace HB := Hid.intro (HB.out.kept h14.below HB.out.sz)
  replace H6 := Hid.intro (H6.out.kept h14.below)
  replace HO := Hid.intro (HO.out.kept h14.below)
  replace ce := keepC h14.below ze ce
  replace ze : b9 < wg.heap.size := Nat.lt_of_lt_of_le ze h14.below.size
  have H14 := Hid.intro h14.kv
  clear h14 HS HC
  have c14 := H14.out.cell
  have c6 := H6.out.cell
  go_wp2_with fail
  refine (eqKept_any (ksK K r) v14 v6 wg.heap.size wg (Nat.le_refl _) H14.out.own.rowAll H6.out.own.rowAll).mono ?_
  rintro e wh ⟨rfl, bh⟩
  replace HB := Hid.intro (HB.out.kept bh HB.out.sz)
  replace HO := Hid.intro (HO.out.kept bh)
  replace ce := keepC bh ze ce
  clear c14 c6 bh H14 H6
  go_wp2_with fail
  refine (heldKept_any (ksK K r) (markEL 1 (ksK K r).e (ksK K r).e.length) v9 wh.heap.size 1 wh (Nat.le_refl _) HO.out.rowAll (fun i h => markEL_get _ _ _ _ (by rw [hm9] at h; exact h) h) (by rw [hm9]; exact hl9) (by omega) (by omega)).mono ?_
  rintro e wi ⟨rfl, bi⟩
  rw [hm9]
  simp only [hmm]
  replace HB := Hid.intro (HB.out.kept bi HB.out.sz)
  clear ce bi
  go_wp2
  go_ret
  exact ⟨rfl, HB.out.bel⟩
end Go.Proofs.Ytkilepoimocoeaa
