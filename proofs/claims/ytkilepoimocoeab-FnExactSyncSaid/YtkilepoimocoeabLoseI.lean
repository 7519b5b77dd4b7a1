/- Sync and Lose of both sides. -/
import Derived.Test.YtkilepoimocoeabSitB
import Derived.Deep.RegionHeld3
namespace Go.Proofs.Ytkilepoimocoeab
open Go.RowKit
set_option linter.unusedVariables false
def clampN (n : Int) (m : Nat) : Nat := (max 0 (min n (m : Int))).toNat
theorem clampN_le (n : Int) (m : Nat) : clampN n m ≤ m := by unfold clampN; omega
theorem firstN_clamp (n : Int) (l : List Rc) : firstN n l = l.take (clampN n l.length) := by
  unfold firstN clampN
  by_cases h : n.toNat ≤ l.length
  · congr 1; omega
  · rw [List.take_of_length_le (by omega), List.take_of_length_le (by omega)]
theorem clamp_any (n : Int) (m : Nat) (w : World) : Calls Try.prog 48 #[.int .i64 n, .int .i64 m] w fun e w' => e = .returned (.int .i64 ((clampN n m : Nat) : Int)) ∧ Below w.heap.size w w' := by
  go_enter Try.func48, Try.ntmps48
  go_wp2
  all_goals go_ret
  all_goals exact ⟨ret_int (by unfold clampN; omega), Below.refl _ _⟩
def loseS (S : Sto) (n : Int) : Sto := if storeB S = true then ⟨afterK S.k (firstN n S.l), []⟩ else ⟨kpZ, []⟩
theorem loseS_no {S : Sto} {n : Int} (h : storeB S = false) : loseS S n = ⟨kpZ, []⟩ := by simp [loseS, h]
theorem loseS_yes {S : Sto} {n : Int} (h : storeB S = true) : loseS S n = ⟨afterK S.k (firstN n S.l), []⟩ := by simp [loseS, h]
theorem loseS_l (S : Sto) (n : Int) : (loseS S n).l = [] := by unfold loseS; split <;> rfl
theorem loseS_len (S : Sto) (n : Int) : (loseS S n).k.e.length ≤ 60 := by
  cases h : storeB S with
  | false => rw [loseS_no h]; simp [kpZ]
  | true =>
    obtain ⟨hk, _, K, hf⟩ := storeB_out h
    obtain ⟨K1, h1⟩ := foldK_take hf n.toNat
    rw [loseS_yes h]
    have e : foldK S.k (firstN n S.l) = some K1 := h1
    simp only [afterK_some e]
    exact ((Sm.of hk).fold e).2.2
def syncS (S : Sto) : Sto := loseS S ((S.l.length : Nat) : Int)
theorem syncS_l (S : Sto) : (syncS S).l = [] := loseS_l _ _
theorem syncS_len (S : Sto) : (syncS S).k.e.length ≤ 60 := loseS_len _ _
def SLo (S : Sto) (v u : Value) (b : Nat) (w' : World) : Prop := w'.cell? ⟨b, 0, none⟩ = some (.int .i64 S.k.t) ∧ w'.cell? ⟨b, 1, none⟩ = some (.int .i64 S.k.v) ∧ w'.cell? ⟨b, 2, none⟩ = some (.int .i64 S.k.si) ∧ w'.cell? ⟨b, 3, none⟩ = some (.int .i64 S.k.st) ∧ w'.cell? ⟨b, 4, none⟩ = some (.string S.k.sd) ∧ w'.cell? ⟨b, 5, none⟩ = some v ∧ w'.cell? ⟨b, 6, none⟩ = some u
set_option maxRecDepth 100000 in
set_option maxHeartbeats 8000000 in
theorem implLose_any (S : Sto) (v u : Value) (N : Nat) (n : Int) (w : World) (hN : N ≤ w.heap.size) (hr : RowE w N v S.k.e) (hu : RowR w N u S.l) :
    Calls Try.prog 32 #[stV S v u, .int .i64 n] w fun e w' => ∃ v' u', e = .returned (stV (loseS S n) v' u') ∧ NewS w w' v' u' (loseS S n) := by
  have HR := Hid.intro hr
  have HU := Hid.intro hu
  obtain ⟨au, cu, rfl, lu, mu, _⟩ := hu
  clear hr
  cases hsb : storeB S with
  | false =>
    rw [loseS_no hsb]
    go_enter Try.func32, Try.ntmps32
    go_wp2_with fail
    obtain ⟨W, hW, bW, zW, c1, f1, c2, f2⟩ := boxed2 w #[.int .i64 S.k.t, .int .i64 S.k.v, .int .i64 S.k.si, .int .i64 S.k.st, .string S.k.sd, v, .slice au S.l.length cu] #[.int .i64 0, .int .i64 0, .int .i64 0, .int .i64 0, .string ⟨#[]⟩, .slice none 0 0, .slice none 0 0] 38 38
    simp only [hW]
    refine (implStoreOk_any S v _ N W (by omega) (HR.out.kept (bW.mono hN)) (HU.out.kept (bW.mono hN))).mono ?_
    rintro e w1 ⟨rfl, b1⟩
    rw [hsb]
    replace c2 := keepC b1 (by omega) c2
    replace f2 := keepF b1 (by omega) f2
    have hz1 : w.heap.size + 1 < w1.heap.size := by have := b1.size; omega
    have HB := Hid.intro (bW.trans (b1.mono (by omega)))
    clear hW bW zW b1 f1 c1
    go_wp2
    refine bodyPost_ret (v := stV ⟨kpZ, []⟩ (.slice none 0 0) (.slice none 0 0)) (by simp [results, Try.results32, go_sem, c2, kpZ]) rfl ⟨_, _, rfl, OwnE.nil _ _, OwnR.nil _ _, (fun k hk h => by cases h), ?_⟩
    repeat (refine Below.setCell ?_ (by simp <;> omega) _)
    exact HB.out
  | true =>
    obtain ⟨hkb, h80, K0, hf0⟩ := storeB_out hsb
    rw [loseS_yes hsb, firstN_clamp]
    have HSM := Hid.intro (Sm.of hkb)
    have hcl := clampN_le n S.l.length
    have hcc : clampN n S.l.length ≤ cu := by omega
    clear hkb hf0
    go_enter Try.func32, Try.ntmps32
    go_wp2_with fail
    obtain ⟨W, hW, bW, zW, c1, f1, c2, f2⟩ := boxed2 w #[.int .i64 S.k.t, .int .i64 S.k.v, .int .i64 S.k.si, .int .i64 S.k.st, .string S.k.sd, v, .slice au S.l.length cu] #[.int .i64 0, .int .i64 0, .int .i64 0, .int .i64 0, .string ⟨#[]⟩, .slice none 0 0, .slice none 0 0] 38 38
    simp only [hW]
    refine (implStoreOk_any S v _ N W (by omega) (HR.out.kept (bW.mono hN)) (HU.out.kept (bW.mono hN))).mono ?_
    rintro e w1 ⟨rfl, b1⟩
    rw [hsb]
    have hz1 : w.heap.size + 1 < w1.heap.size := by have := b1.size; omega
    have B1 := bW.trans (b1.mono (by omega))
    have HC : Hid (∀ w', Below w1.heap.size w1 w' → RowE w' N v S.k.e ∧ RowR w' N (.slice au S.l.length cu) S.l ∧ w.heap.size ≤ w'.heap.size ∧ (∀ o, w'.cell? ⟨w.heap.size + 1, o, none⟩ = #[.int .i64 0, .int .i64 0, .int .i64 0, .int .i64 0, .string ⟨#[]⟩, .slice none 0 0, .slice none 0 0][o]?) ∧ (∀ o, w'.frozen? ⟨w.heap.size + 1, o, none⟩ = false) ∧ w.heap.size + 1 < w'.heap.size) := fun w' hb =>
      ⟨HR.out.kept ((B1.trans (hb.mono (by omega))).mono hN), HU.out.kept ((B1.trans (hb.mono (by omega))).mono hN), by have := hb.size; omega, keepC hb hz1 (keepC b1 (by omega) c2), keepF hb hz1 (keepF b1 (by omega) f2), by have := hb.size; omega⟩
    replace c1 := keepC b1 (by omega) c1
    have HS : Hid (∀ w', Below w1.heap.size w1 w' → SLo S v (.slice au S.l.length cu) w.heap.size w') := fun w' hb => by
      have d1 := keepC hb (by omega) c1
      exact ⟨by rw [d1]; rfl, by rw [d1]; rfl, by rw [d1]; rfl, by rw [d1]; rfl, by rw [d1]; rfl, by rw [d1]; rfl, by rw [d1]; rfl⟩
    clear hW bW zW b1 f1 c1 c2 f2 hsb
    go_wp2_with fail
    refine wp_region_held_drew (S := SLo S v (.slice au S.l.length cu) w.heap.size) (by kernel_rfl) (HS.out _ (Below.refl _ _).drew) (fun hHeld => ?_)
    have BWD : Below w1.heap.size w1 w1.drew := (Below.refl _ _).drew
    generalize w1.drew = D at BWD hHeld ⊢
    refine take1s (i := 0) (d := some 12) (v := ?_) rfl rfl (by kernel_rfl) (by kernel_rfl) (by kernel_rfl) (fun _ _ _ h => h) (Or.inl ⟨by rfl, ?_⟩) (by assumption) ?_
    rotate_left 1
    · intro w hSw
      obtain ⟨q0, q1, q2, q3, q4, q5, q6⟩ := hSw
      go_simp <;> with_reducible rfl
    simp only [Act.put, List.setIfInBounds_toArray]
    try simp only [List.set_cons_succ]
    try simp only [List.set_cons_zero]
    refine take1s (i := 1) (d := some 13) (v := ?_) rfl rfl (by kernel_rfl) (by kernel_rfl) (by kernel_rfl) (fun _ _ _ h => h) (Or.inl ⟨by rfl, ?_⟩) (by assumption) ?_
    rotate_left 1
    · intro w hSw
      obtain ⟨q0, q1, q2, q3, q4, q5, q6⟩ := hSw
      go_simp <;> with_reducible rfl
    simp only [Act.put, List.setIfInBounds_toArray]
    try simp only [List.set_cons_succ]
    try simp only [List.set_cons_zero]
    refine take1s (i := 2) (d := some 14) (v := ?_) rfl rfl (by kernel_rfl) (by kernel_rfl) (by kernel_rfl) (fun _ _ _ h => h) (Or.inl ⟨by rfl, ?_⟩) (by assumption) ?_
    rotate_left 1
    · intro w hSw
      obtain ⟨q0, q1, q2, q3, q4, q5, q6⟩ := hSw
      go_simp <;> with_reducible rfl
    simp only [Act.put, List.setIfInBounds_toArray]
    try simp only [List.set_cons_succ]
    try simp only [List.set_cons_zero]
    refine take1s (i := 3) (d := some 15) (v := ?_) rfl rfl (by kernel_rfl) (by kernel_rfl) (by kernel_rfl) (fun _ _ _ h => h) (Or.inl ⟨by rfl, ?_⟩) (by assumption) ?_
    rotate_left 1
    · intro w hSw
      obtain ⟨q0, q1, q2, q3, q4, q5, q6⟩ := hSw
      go_simp <;> with_reducible rfl
    simp only [Act.put, List.setIfInBounds_toArray]
    try simp only [List.set_cons_succ]
    try simp only [List.set_cons_zero]
    refine take1s (i := 4) (d := some 16) (v := ?_) rfl rfl (by kernel_rfl) (by kernel_rfl) (by kernel_rfl) (fun _ _ _ h => h) (Or.inl ⟨by rfl, ?_⟩) (by assumption) ?_
    rotate_left 1
    · intro w hSw
      obtain ⟨q0, q1, q2, q3, q4, q5, q6⟩ := hSw
      go_simp <;> with_reducible rfl
    simp only [Act.put, List.setIfInBounds_toArray]
    try simp only [List.set_cons_succ]
    try simp only [List.set_cons_zero]
    refine take1s (i := 5) (d := some 17) (v := ?_) rfl rfl (by kernel_rfl) (by kernel_rfl) (by kernel_rfl) (fun _ _ _ h => h) (Or.inl ⟨by rfl, ?_⟩) (by assumption) ?_
    rotate_left 1
    · intro w hSw
      obtain ⟨q0, q1, q2, q3, q4, q5, q6⟩ := hSw
      go_simp <;> with_reducible rfl
    simp only [Act.put, List.setIfInBounds_toArray]
    try simp only [List.set_cons_succ]
    try simp only [List.set_cons_zero]
    refine take1s (i := 6) (d := some 18) (v := ?_) rfl rfl (by kernel_rfl) (by kernel_rfl) (by kernel_rfl) (fun _ _ _ h => h) (Or.inl ⟨by rfl, ?_⟩) (by assumption) ?_
    rotate_left 1
    · intro w hSw
      obtain ⟨q0, q1, q2, q3, q4, q5, q6⟩ := hSw
      go_simp <;> with_reducible rfl
    simp only [Act.put, List.setIfInBounds_toArray]
    try simp only [List.set_cons_succ]
    try simp only [List.set_cons_zero]
    refine take1s (i := 7) (d := some 19) (v := ?_) rfl rfl (by kernel_rfl) (by kernel_rfl) (by kernel_rfl) (fun _ _ _ h => h) (Or.inl ⟨by rfl, ?_⟩) (by assumption) ?_
    rotate_left 1
    · intro w hSw
      obtain ⟨q0, q1, q2, q3, q4, q5, q6⟩ := hSw
      go_simp <;> with_reducible rfl
    simp only [Act.put, List.setIfInBounds_toArray]
    try simp only [List.set_cons_succ]
    try simp only [List.set_cons_zero]
    refine wpAnyH_ready (rs := [8, 14]) (by kernel_rfl) (by simp) ?_
    refine AllReadyH.cons rfl (fun KK hKK => ?_) (AllReadyH.cons rfl (fun KK hKK => ?_) AllReadyH.nil)
    · skip
      go_simp
      refine (clamp_any n S.l.length _).mono ?_
      rintro e wA ⟨rfl, bwA⟩
      have BWwA : Below w1.heap.size w1 wA := BWD.trans (bwA.mono BWD.size)
      go_simp
      refine hKK.out _ _ (HS.out _ BWwA) (fun hHeld2 => ?_)
      clear hKK KK hHeld
      have hHeld := hHeld2
      clear hHeld2
      refine take1s (i := 9) (d := some 21) (v := ?_) rfl rfl (by kernel_rfl) (by kernel_rfl) (by kernel_rfl) (fun _ _ _ h => h) (Or.inl ⟨by rfl, ?_⟩) (by assumption) ?_
      rotate_left 1
      · intro w hSw
        obtain ⟨q0, q1, q2, q3, q4, q5, q6⟩ := hSw
        go_simp <;> with_reducible rfl
      simp only [Act.put, List.setIfInBounds_toArray]
      try simp only [List.set_cons_succ]
      try simp only [List.set_cons_zero]
      refine wpAnyH_ready (rs := [10, 14]) (by kernel_rfl) (by simp) ?_
      refine AllReadyH.cons rfl (fun KK hKK => ?_) (AllReadyH.cons rfl (fun KK hKK => ?_) AllReadyH.nil)
      · skip
        go_simp
        refine (after_any S.k v N (S.l.take (clampN n S.l.length)) _ wA (Nat.le_trans hN (HC.out _ BWwA).2.2.1) (HC.out _ BWwA).1 ((HC.out _ BWwA).2.1.take hcl) HSM.out (by simp; omega)).mono ?_
        rintro e wB ⟨vB, rfl, oB, bwB⟩
        obtain ⟨aB, capB, rfl⟩ := oB.slice
        have HN : Hid (∀ k, (Value.slice aB (afterK S.k (S.l.take (clampN n S.l.length))).e.length capB).ownBlock = some k → ¬ k = wB.heap.size ∧ w1.heap.size ≤ k) := fun k hk => ⟨fun h => by have := (oB.lt k hk).2; omega, Nat.le_trans BWwA.size (oB.lt k hk).1⟩
        have HOB := Hid.intro (OwnE.lower oB BWwA.size)
        clear oB
        have BWwB : Below w1.heap.size w1 wB := BWwA.trans (bwB.mono BWwA.size)
        go_simp
        refine hKK.out _ _ (HS.out _ BWwB) (fun hHeld2 => ?_)
        clear hKK KK hHeld
        have hHeld := hHeld2
        clear hHeld2
        refine take1s (i := 11) (d := some 11) (v := ?_) rfl rfl (by kernel_rfl) (by kernel_rfl) (by kernel_rfl) (fun _ _ _ h => h) (Or.inl ⟨by rfl, ?_⟩) (by assumption) ?_
        rotate_left 1
        · intro w hSw
          obtain ⟨q0, q1, q2, q3, q4, q5, q6⟩ := hSw
          go_simp <;> with_reducible rfl
        simp only [Act.put, List.setIfInBounds_toArray]
        try simp only [List.set_cons_succ]
        try simp only [List.set_cons_zero]
        refine take1s (i := 12) (d := some 23) (v := ?_) rfl rfl (by kernel_rfl) (by kernel_rfl) (by kernel_rfl) (fun _ _ _ h => h) (Or.inl ⟨by rfl, ?_⟩) (by assumption) ?_
        rotate_left 1
        · intro w hSw
          obtain ⟨q0, q1, q2, q3, q4, q5, q6⟩ := hSw
          go_simp <;> with_reducible rfl
        simp only [Act.put, List.setIfInBounds_toArray]
        try simp only [List.set_cons_succ]
        try simp only [List.set_cons_zero]
        refine take1s (i := 13) (d := some 24) (v := ?_) rfl rfl (by kernel_rfl) (by kernel_rfl) (by kernel_rfl) (fun _ _ _ h => h) (Or.inl ⟨by rfl, ?_⟩) (by assumption) ?_
        rotate_left 1
        · intro w hSw
          obtain ⟨q0, q1, q2, q3, q4, q5, q6⟩ := hSw
          go_simp <;> with_reducible rfl
        simp only [Act.put, List.setIfInBounds_toArray]
        try simp only [List.set_cons_succ]
        try simp only [List.set_cons_zero]
        refine wpAnyH_ready (rs := [14]) (by kernel_rfl) (by simp) ?_
        refine AllReadyH.cons rfl (fun KK hKK => ?_) AllReadyH.nil
        go_simp
        have bX := (Below.refl wB.heap.size wB).alloc (Nat.le_refl _) (.cells #[.int .i64 0, .int .i64 0, .int .i64 0, .int .i64 0, .string ⟨#[]⟩, .slice none 0 0] 35)
        have zk6 : wB.heap.size < (wB.alloc (.cells #[.int .i64 0, .int .i64 0, .int .i64 0, .int .i64 0, .string ⟨#[]⟩, .slice none 0 0] 35)).heap.size := by simp
        have k6 : ∀ o, (wB.alloc (.cells #[.int .i64 0, .int .i64 0, .int .i64 0, .int .i64 0, .string ⟨#[]⟩, .slice none 0 0] 35)).cell? ⟨wB.heap.size, o, none⟩ = #[.int .i64 0, .int .i64 0, .int .i64 0, .int .i64 0, .string ⟨#[]⟩, .slice none 0 0][o]? := fun o => World.cell?_alloc_at _ _ _ _ rfl
        have g6 : ∀ o, (wB.alloc (.cells #[.int .i64 0, .int .i64 0, .int .i64 0, .int .i64 0, .string ⟨#[]⟩, .slice none 0 0] 35)).frozen? ⟨wB.heap.size, o, none⟩ = false := fun o => World.frozen?_alloc_at _ _ _ _ rfl
        generalize wB.alloc (.cells #[.int .i64 0, .int .i64 0, .int .i64 0, .int .i64 0, .string ⟨#[]⟩, .slice none 0 0] 35) = X at bX zk6 k6 g6 ⊢
        have BWX : Below w1.heap.size w1 X := BWwB.trans (bX.mono BWwB.size)
        replace HOB := Hid.intro (HOB.out.kept bX)
        refine hKK.out _ _ (HS.out _ BWX) (fun hHeld2 => ?_)
        clear hKK KK hHeld
        have hHeld := hHeld2
        clear hHeld2
        refine wpAnyH_ready (rs := [15]) (by kernel_rfl) (by simp) ?_
        refine AllReadyH.cons rfl (fun KK hKK => ?_) AllReadyH.nil
        go_simp
        obtain ⟨Y, hY, cY, oY, zY, _⟩ := put6 (x0 := .int .i64 (afterK S.k (S.l.take (clampN n S.l.length))).t) (x1 := .int .i64 (afterK S.k (S.l.take (clampN n S.l.length))).v) (x2 := .int .i64 (afterK S.k (S.l.take (clampN n S.l.length))).si) (x3 := .int .i64 (afterK S.k (S.l.take (clampN n S.l.length))).st) (x4 := .string (afterK S.k (S.l.take (clampN n S.l.length))).sd) (x5 := .slice aB (afterK S.k (S.l.take (clampN n S.l.length))).e.length capB) k6
        simp only [hY]
        have BWY := BWX.trans (oY.below BWX.size (fun k hk h => by have := BWwB.size; omega))
        refine hKK.out _ _ (HS.out _ BWY) (fun hHeld2 => ?_)
        clear hKK KK hHeld
        have hHeld := hHeld2
        clear hHeld2
        refine take1s (i := 16) (d := some 6) (v := ?_) rfl rfl (by kernel_rfl) (by kernel_rfl) (by kernel_rfl) (fun _ _ _ h => h) (Or.inl ⟨by rfl, ?_⟩) (by assumption) ?_
        rotate_left 1
        · intro w hSw
          obtain ⟨q0, q1, q2, q3, q4, q5, q6⟩ := hSw
          go_simp <;> with_reducible rfl
        simp only [Act.put, List.setIfInBounds_toArray]
        try simp only [List.set_cons_succ]
        try simp only [List.set_cons_zero]
        refine wpAnyH_done (by kernel_rfl) ?_ _
        have HOY := Hid.intro (HOB.out.only oY (fun k hk h => (HN.out k hk).1 h))
        obtain ⟨_, _, _, c2, f2, hz⟩ := HC.out _ BWY
        have HB := Hid.intro (B1.trans (BWY.mono B1.size))
        have hkb : ¬ w.heap.size + 1 = wB.heap.size := by have := BWwB.size; omega
        have HZ := Hid.intro hz1
        have hi : wB.heap.size < Y.heap.size := by have := zk6; omega
        clear HC HS hHeld k6 g6 zk6 oY hY zY HOB
        go_wp2
        refine bodyPost_ret (v := stV ⟨(afterK S.k (S.l.take (clampN n S.l.length))), []⟩ (.slice aB (afterK S.k (S.l.take (clampN n S.l.length))).e.length capB) (.slice none 0 0)) (by simp [results, Try.results32, go_sem, c2]) rfl ⟨_, _, rfl, ?_, OwnR.nil _ _, (fun k hk h => by cases h), ?_⟩
        · refine OwnE.lower (OwnE.only HOY.out (S := fun k => k = w.heap.size + 1) ?_ (fun k hk h => by have := (HN.out k hk).2; have := HZ.out; omega)) (show w.heap.size ≤ w1.heap.size by omega)
          repeat (refine Only.setCell ?_ (by simp) _)
          exact Only.refl _ _
        · repeat (refine Below.setCell ?_ (by simp <;> omega) _)
          exact HB.out
      · skip
        go_simp
        have bX := (Below.refl wA.heap.size wA).alloc (Nat.le_refl _) (.cells #[.int .i64 0, .int .i64 0, .int .i64 0, .int .i64 0, .string ⟨#[]⟩, .slice none 0 0] 35)
        have zk6 : wA.heap.size < (wA.alloc (.cells #[.int .i64 0, .int .i64 0, .int .i64 0, .int .i64 0, .string ⟨#[]⟩, .slice none 0 0] 35)).heap.size := by simp
        have k6 : ∀ o, (wA.alloc (.cells #[.int .i64 0, .int .i64 0, .int .i64 0, .int .i64 0, .string ⟨#[]⟩, .slice none 0 0] 35)).cell? ⟨wA.heap.size, o, none⟩ = #[.int .i64 0, .int .i64 0, .int .i64 0, .int .i64 0, .string ⟨#[]⟩, .slice none 0 0][o]? := fun o => World.cell?_alloc_at _ _ _ _ rfl
        have g6 : ∀ o, (wA.alloc (.cells #[.int .i64 0, .int .i64 0, .int .i64 0, .int .i64 0, .string ⟨#[]⟩, .slice none 0 0] 35)).frozen? ⟨wA.heap.size, o, none⟩ = false := fun o => World.frozen?_alloc_at _ _ _ _ rfl
        generalize wA.alloc (.cells #[.int .i64 0, .int .i64 0, .int .i64 0, .int .i64 0, .string ⟨#[]⟩, .slice none 0 0] 35) = X at bX zk6 k6 g6 ⊢
        have BWX : Below w1.heap.size w1 X := BWwA.trans (bX.mono BWwA.size)
        refine hKK.out _ _ (HS.out _ BWX) (fun hHeld2 => ?_)
        clear hKK KK hHeld
        have hHeld := hHeld2
        clear hHeld2
        refine wpAnyH_ready (rs := [10]) (by kernel_rfl) (by simp) ?_
        refine AllReadyH.cons rfl (fun KK hKK => ?_) AllReadyH.nil
        go_simp
        refine (after_any S.k v N (S.l.take (clampN n S.l.length)) _ X (Nat.le_trans hN (HC.out _ BWX).2.2.1) (HC.out _ BWX).1 ((HC.out _ BWX).2.1.take hcl) HSM.out (by simp; omega)).mono ?_
        rintro e wB ⟨vB, rfl, oB, bwB⟩
        obtain ⟨aB, capB, rfl⟩ := oB.slice
        have HN : Hid (∀ k, (Value.slice aB (afterK S.k (S.l.take (clampN n S.l.length))).e.length capB).ownBlock = some k → ¬ k = wA.heap.size ∧ w1.heap.size ≤ k) := fun k hk => ⟨fun h => by have := (oB.lt k hk).1; omega, Nat.le_trans BWX.size (oB.lt k hk).1⟩
        have HOB := Hid.intro (OwnE.lower oB BWX.size)
        clear oB
        have BWwB : Below w1.heap.size w1 wB := BWX.trans (bwB.mono BWX.size)
        replace k6 := keepC bwB zk6 k6
        replace g6 := keepF bwB zk6 g6
        replace zk6 : wA.heap.size < wB.heap.size := Nat.lt_of_lt_of_le zk6 bwB.size
        go_simp
        refine hKK.out _ _ (HS.out _ BWwB) (fun hHeld2 => ?_)
        clear hKK KK hHeld
        have hHeld := hHeld2
        clear hHeld2
        refine take1s (i := 11) (d := some 11) (v := ?_) rfl rfl (by kernel_rfl) (by kernel_rfl) (by kernel_rfl) (fun _ _ _ h => h) (Or.inl ⟨by rfl, ?_⟩) (by assumption) ?_
        rotate_left 1
        · intro w hSw
          obtain ⟨q0, q1, q2, q3, q4, q5, q6⟩ := hSw
          go_simp <;> with_reducible rfl
        simp only [Act.put, List.setIfInBounds_toArray]
        try simp only [List.set_cons_succ]
        try simp only [List.set_cons_zero]
        refine take1s (i := 12) (d := some 23) (v := ?_) rfl rfl (by kernel_rfl) (by kernel_rfl) (by kernel_rfl) (fun _ _ _ h => h) (Or.inl ⟨by rfl, ?_⟩) (by assumption) ?_
        rotate_left 1
        · intro w hSw
          obtain ⟨q0, q1, q2, q3, q4, q5, q6⟩ := hSw
          go_simp <;> with_reducible rfl
        simp only [Act.put, List.setIfInBounds_toArray]
        try simp only [List.set_cons_succ]
        try simp only [List.set_cons_zero]
        refine take1s (i := 13) (d := some 24) (v := ?_) rfl rfl (by kernel_rfl) (by kernel_rfl) (by kernel_rfl) (fun _ _ _ h => h) (Or.inl ⟨by rfl, ?_⟩) (by assumption) ?_
        rotate_left 1
        · intro w hSw
          obtain ⟨q0, q1, q2, q3, q4, q5, q6⟩ := hSw
          go_simp <;> with_reducible rfl
        simp only [Act.put, List.setIfInBounds_toArray]
        try simp only [List.set_cons_succ]
        try simp only [List.set_cons_zero]
        refine wpAnyH_ready (rs := [15]) (by kernel_rfl) (by simp) ?_
        refine AllReadyH.cons rfl (fun KK hKK => ?_) AllReadyH.nil
        go_simp
        obtain ⟨Y, hY, cY, oY, zY, _⟩ := put6 (x0 := .int .i64 (afterK S.k (S.l.take (clampN n S.l.length))).t) (x1 := .int .i64 (afterK S.k (S.l.take (clampN n S.l.length))).v) (x2 := .int .i64 (afterK S.k (S.l.take (clampN n S.l.length))).si) (x3 := .int .i64 (afterK S.k (S.l.take (clampN n S.l.length))).st) (x4 := .string (afterK S.k (S.l.take (clampN n S.l.length))).sd) (x5 := .slice aB (afterK S.k (S.l.take (clampN n S.l.length))).e.length capB) k6
        simp only [hY]
        have BWY := BWwB.trans (oY.below BWwB.size (fun k hk h => by have := BWwA.size; omega))
        refine hKK.out _ _ (HS.out _ BWY) (fun hHeld2 => ?_)
        clear hKK KK hHeld
        have hHeld := hHeld2
        clear hHeld2
        refine take1s (i := 16) (d := some 6) (v := ?_) rfl rfl (by kernel_rfl) (by kernel_rfl) (by kernel_rfl) (fun _ _ _ h => h) (Or.inl ⟨by rfl, ?_⟩) (by assumption) ?_
        rotate_left 1
        · intro w hSw
          obtain ⟨q0, q1, q2, q3, q4, q5, q6⟩ := hSw
          go_simp <;> with_reducible rfl
        simp only [Act.put, List.setIfInBounds_toArray]
        try simp only [List.set_cons_succ]
        try simp only [List.set_cons_zero]
        refine wpAnyH_done (by kernel_rfl) ?_ _
        have HOY := Hid.intro (HOB.out.only oY (fun k hk h => (HN.out k hk).1 h))
        obtain ⟨_, _, _, c2, f2, hz⟩ := HC.out _ BWY
        have HB := Hid.intro (B1.trans (BWY.mono B1.size))
        have hkb : ¬ w.heap.size + 1 = wA.heap.size := by have := BWwA.size; omega
        have HZ := Hid.intro hz1
        have hi : wA.heap.size < Y.heap.size := by have := zk6; omega
        clear HC HS hHeld k6 g6 zk6 oY hY zY HOB
        go_wp2
        refine bodyPost_ret (v := stV ⟨(afterK S.k (S.l.take (clampN n S.l.length))), []⟩ (.slice aB (afterK S.k (S.l.take (clampN n S.l.length))).e.length capB) (.slice none 0 0)) (by simp [results, Try.results32, go_sem, c2]) rfl ⟨_, _, rfl, ?_, OwnR.nil _ _, (fun k hk h => by cases h), ?_⟩
        · refine OwnE.lower (OwnE.only HOY.out (S := fun k => k = w.heap.size + 1) ?_ (fun k hk h => by have := (HN.out k hk).2; have := HZ.out; omega)) (show w.heap.size ≤ w1.heap.size by omega)
          repeat (refine Only.setCell ?_ (by simp) _)
          exact Only.refl _ _
        · repeat (refine Below.setCell ?_ (by simp <;> omega) _)
          exact HB.out
    · skip
      go_simp
      have bX := (Below.refl D.heap.size D).alloc (Nat.le_refl _) (.cells #[.int .i64 0, .int .i64 0, .int .i64 0, .int .i64 0, .string ⟨#[]⟩, .slice none 0 0] 35)
      have zk6 : D.heap.size < (D.alloc (.cells #[.int .i64 0, .int .i64 0, .int .i64 0, .int .i64 0, .string ⟨#[]⟩, .slice none 0 0] 35)).heap.size := by simp
      have k6 : ∀ o, (D.alloc (.cells #[.int .i64 0, .int .i64 0, .int .i64 0, .int .i64 0, .string ⟨#[]⟩, .slice none 0 0] 35)).cell? ⟨D.heap.size, o, none⟩ = #[.int .i64 0, .int .i64 0, .int .i64 0, .int .i64 0, .string ⟨#[]⟩, .slice none 0 0][o]? := fun o => World.cell?_alloc_at _ _ _ _ rfl
      have g6 : ∀ o, (D.alloc (.cells #[.int .i64 0, .int .i64 0, .int .i64 0, .int .i64 0, .string ⟨#[]⟩, .slice none 0 0] 35)).frozen? ⟨D.heap.size, o, none⟩ = false := fun o => World.frozen?_alloc_at _ _ _ _ rfl
      generalize D.alloc (.cells #[.int .i64 0, .int .i64 0, .int .i64 0, .int .i64 0, .string ⟨#[]⟩, .slice none 0 0] 35) = X at bX zk6 k6 g6 ⊢
      have BWX : Below w1.heap.size w1 X := BWD.trans (bX.mono BWD.size)
      refine hKK.out _ _ (HS.out _ BWX) (fun hHeld2 => ?_)
      clear hKK KK hHeld
      have hHeld := hHeld2
      clear hHeld2
      refine wpAnyH_ready (rs := [8]) (by kernel_rfl) (by simp) ?_
      refine AllReadyH.cons rfl (fun KK hKK => ?_) AllReadyH.nil
      go_simp
      refine (clamp_any n S.l.length _).mono ?_
      rintro e wA ⟨rfl, bwA⟩
      have BWwA : Below w1.heap.size w1 wA := BWX.trans (bwA.mono BWX.size)
      replace k6 := keepC bwA zk6 k6
      replace g6 := keepF bwA zk6 g6
      replace zk6 : D.heap.size < wA.heap.size := Nat.lt_of_lt_of_le zk6 bwA.size
      go_simp
      refine hKK.out _ _ (HS.out _ BWwA) (fun hHeld2 => ?_)
      clear hKK KK hHeld
      have hHeld := hHeld2
      clear hHeld2
      refine take1s (i := 9) (d := some 21) (v := ?_) rfl rfl (by kernel_rfl) (by kernel_rfl) (by kernel_rfl) (fun _ _ _ h => h) (Or.inl ⟨by rfl, ?_⟩) (by assumption) ?_
      rotate_left 1
      · intro w hSw
        obtain ⟨q0, q1, q2, q3, q4, q5, q6⟩ := hSw
        go_simp <;> with_reducible rfl
      simp only [Act.put, List.setIfInBounds_toArray]
      try simp only [List.set_cons_succ]
      try simp only [List.set_cons_zero]
      refine wpAnyH_ready (rs := [10]) (by kernel_rfl) (by simp) ?_
      refine AllReadyH.cons rfl (fun KK hKK => ?_) AllReadyH.nil
      go_simp
      refine (after_any S.k v N (S.l.take (clampN n S.l.length)) _ wA (Nat.le_trans hN (HC.out _ BWwA).2.2.1) (HC.out _ BWwA).1 ((HC.out _ BWwA).2.1.take hcl) HSM.out (by simp; omega)).mono ?_
      rintro e wB ⟨vB, rfl, oB, bwB⟩
      obtain ⟨aB, capB, rfl⟩ := oB.slice
      have HN : Hid (∀ k, (Value.slice aB (afterK S.k (S.l.take (clampN n S.l.length))).e.length capB).ownBlock = some k → ¬ k = D.heap.size ∧ w1.heap.size ≤ k) := fun k hk => ⟨fun h => by have := (oB.lt k hk).1; omega, Nat.le_trans BWwA.size (oB.lt k hk).1⟩
      have HOB := Hid.intro (OwnE.lower oB BWwA.size)
      clear oB
      have BWwB : Below w1.heap.size w1 wB := BWwA.trans (bwB.mono BWwA.size)
      replace k6 := keepC bwB zk6 k6
      replace g6 := keepF bwB zk6 g6
      replace zk6 : D.heap.size < wB.heap.size := Nat.lt_of_lt_of_le zk6 bwB.size
      go_simp
      refine hKK.out _ _ (HS.out _ BWwB) (fun hHeld2 => ?_)
      clear hKK KK hHeld
      have hHeld := hHeld2
      clear hHeld2
      refine take1s (i := 11) (d := some 11) (v := ?_) rfl rfl (by kernel_rfl) (by kernel_rfl) (by kernel_rfl) (fun _ _ _ h => h) (Or.inl ⟨by rfl, ?_⟩) (by assumption) ?_
      rotate_left 1
      · intro w hSw
        obtain ⟨q0, q1, q2, q3, q4, q5, q6⟩ := hSw
        go_simp <;> with_reducible rfl
      simp only [Act.put, List.setIfInBounds_toArray]
      try simp only [List.set_cons_succ]
      try simp only [List.set_cons_zero]
      refine take1s (i := 12) (d := some 23) (v := ?_) rfl rfl (by kernel_rfl) (by kernel_rfl) (by kernel_rfl) (fun _ _ _ h => h) (Or.inl ⟨by rfl, ?_⟩) (by assumption) ?_
      rotate_left 1
      · intro w hSw
        obtain ⟨q0, q1, q2, q3, q4, q5, q6⟩ := hSw
        go_simp <;> with_reducible rfl
      simp only [Act.put, List.setIfInBounds_toArray]
      try simp only [List.set_cons_succ]
      try simp only [List.set_cons_zero]
      refine take1s (i := 13) (d := some 24) (v := ?_) rfl rfl (by kernel_rfl) (by kernel_rfl) (by kernel_rfl) (fun _ _ _ h => h) (Or.inl ⟨by rfl, ?_⟩) (by assumption) ?_
      rotate_left 1
      · intro w hSw
        obtain ⟨q0, q1, q2, q3, q4, q5, q6⟩ := hSw
        go_simp <;> with_reducible rfl
      simp only [Act.put, List.setIfInBounds_toArray]
      try simp only [List.set_cons_succ]
      try simp only [List.set_cons_zero]
      refine wpAnyH_ready (rs := [15]) (by kernel_rfl) (by simp) ?_
      refine AllReadyH.cons rfl (fun KK hKK => ?_) AllReadyH.nil
      go_simp
      obtain ⟨Y, hY, cY, oY, zY, _⟩ := put6 (x0 := .int .i64 (afterK S.k (S.l.take (clampN n S.l.length))).t) (x1 := .int .i64 (afterK S.k (S.l.take (clampN n S.l.length))).v) (x2 := .int .i64 (afterK S.k (S.l.take (clampN n S.l.length))).si) (x3 := .int .i64 (afterK S.k (S.l.take (clampN n S.l.length))).st) (x4 := .string (afterK S.k (S.l.take (clampN n S.l.length))).sd) (x5 := .slice aB (afterK S.k (S.l.take (clampN n S.l.length))).e.length capB) k6
      simp only [hY]
      have BWY := BWwB.trans (oY.below BWwB.size (fun k hk h => by have := BWD.size; omega))
      refine hKK.out _ _ (HS.out _ BWY) (fun hHeld2 => ?_)
      clear hKK KK hHeld
      have hHeld := hHeld2
      clear hHeld2
      refine take1s (i := 16) (d := some 6) (v := ?_) rfl rfl (by kernel_rfl) (by kernel_rfl) (by kernel_rfl) (fun _ _ _ h => h) (Or.inl ⟨by rfl, ?_⟩) (by assumption) ?_
      rotate_left 1
      · intro w hSw
        obtain ⟨q0, q1, q2, q3, q4, q5, q6⟩ := hSw
        go_simp <;> with_reducible rfl
      simp only [Act.put, List.setIfInBounds_toArray]
      try simp only [List.set_cons_succ]
      try simp only [List.set_cons_zero]
      refine wpAnyH_done (by kernel_rfl) ?_ _
      have HOY := Hid.intro (HOB.out.only oY (fun k hk h => (HN.out k hk).1 h))
      obtain ⟨_, _, _, c2, f2, hz⟩ := HC.out _ BWY
      have HB := Hid.intro (B1.trans (BWY.mono B1.size))
      have hkb : ¬ w.heap.size + 1 = D.heap.size := by have := BWD.size; omega
      have HZ := Hid.intro hz1
      have hi : D.heap.size < Y.heap.size := by have := zk6; omega
      clear HC HS hHeld k6 g6 zk6 oY hY zY HOB
      go_wp2
      refine bodyPost_ret (v := stV ⟨(afterK S.k (S.l.take (clampN n S.l.length))), []⟩ (.slice aB (afterK S.k (S.l.take (clampN n S.l.length))).e.length capB) (.slice none 0 0)) (by simp [results, Try.results32, go_sem, c2]) rfl ⟨_, _, rfl, ?_, OwnR.nil _ _, (fun k hk h => by cases h), ?_⟩
      · refine OwnE.lower (OwnE.only HOY.out (S := fun k => k = w.heap.size + 1) ?_ (fun k hk h => by have := (HN.out k hk).2; have := HZ.out; omega)) (show w.heap.size ≤ w1.heap.size by omega)
        repeat (refine Only.setCell ?_ (by simp) _)
        exact Only.refl _ _
      · repeat (refine Below.setCell ?_ (by simp <;> omega) _)
        exact HB.out
set_option maxRecDepth 100000 in
set_option maxHeartbeats 4000000 in
theorem implSync_any (S : Sto) (v u : Value) (N : Nat) (w : World) (hN : N ≤ w.heap.size) (hr : RowE w N v S.k.e) (hu : RowR w N u S.l) :
    Calls Try.prog 30 #[stV S v u] w fun e w' => ∃ v' u', e = .returned (stV (syncS S) v' u') ∧ NewS w w' v' u' (syncS S) := by
  have HR := Hid.intro hr
  have HU := Hid.intro hu
  obtain ⟨au, cu, rfl, lu, mu, _⟩ := hu
  clear hr
  go_enter Try.func30, Try.ntmps30
  go_wp2_with fail
  obtain ⟨W, hW, bW, zW, c1, f1, c2, f2⟩ := boxed2 w #[.int .i64 S.k.t, .int .i64 S.k.v, .int .i64 S.k.si, .int .i64 S.k.st, .string S.k.sd, v, .slice au S.l.length cu] #[.int .i64 0, .int .i64 0, .int .i64 0, .int .i64 0, .string ⟨#[]⟩, .slice none 0 0, .slice none 0 0] 38 38
  simp only [hW]
  refine (implLose_any S v _ N ((S.l.length : Nat) : Int) W (by omega) (HR.out.kept (bW.mono hN)) (HU.out.kept (bW.mono hN))).mono ?_
  rintro e w1 ⟨v1, u1, rfl, n1⟩
  obtain ⟨a1, cap1, rfl⟩ := n1.e.slice
  obtain ⟨au1, cu1, rfl⟩ := n1.r.slice
  replace c2 := keepC n1.bel (by omega) c2
  replace f2 := keepF n1.bel (by omega) f2
  have hz1 : w.heap.size + 1 < w1.heap.size := by have := n1.bel.size; omega
  have HB := Hid.intro (bW.trans (n1.bel.mono (by omega)))
  have HN := Hid.intro n1
  have HZ : Hid (W.heap.size = w.heap.size + 1 + 1) := zW
  clear hW bW zW c1 f1 n1
  go_wp2
  refine bodyPost_ret (v := stV (syncS S) (.slice a1 (syncS S).k.e.length cap1) (.slice au1 (syncS S).l.length cu1)) (by simp [results, Try.results30, go_sem, c2, syncS]) rfl ⟨_, _, rfl, ?_, ?_, HN.out.dis, ?_⟩
  · refine OwnE.lower (OwnE.only HN.out.e (S := fun k => k = w.heap.size + 1) ?_ (fun k hk h => by have := (HN.out.e.lt k hk).1; have := HZ.out; omega)) (show w.heap.size ≤ W.heap.size by have := HZ.out; omega)
    repeat (refine Only.setCell ?_ (by simp) _)
    exact Only.refl _ _
  · refine OwnR.lower (OwnR.only HN.out.r (S := fun k => k = w.heap.size + 1) ?_ (fun k hk h => by have := (HN.out.r.lt k hk).1; have := HZ.out; omega)) (show w.heap.size ≤ W.heap.size by have := HZ.out; omega)
    repeat (refine Only.setCell ?_ (by simp) _)
    exact Only.refl _ _
  · repeat (refine Below.setCell ?_ (by simp <;> omega) _)
    exact HB.out
set_option maxRecDepth 100000 in
set_option maxHeartbeats 4000000 in
theorem specLose_any (S : Sto) (v u : Value) (N : Nat) (n : Int) (w : World) (hN : N ≤ w.heap.size) (hr : RowE w N v S.k.e) (hu : RowR w N u S.l) :
    Calls Try.prog 31 #[stV S v u, .int .i64 n] w fun e w' => ∃ v' u', e = .returned (stV (loseS S n) v' u') ∧ NewS w w' v' u' (loseS S n) := by
  have HR := Hid.intro hr
  have HU := Hid.intro hu
  obtain ⟨au, cu, rfl, lu, mu, _⟩ := hu
  clear hr
  skip
  cases hsb : storeB S with
  | false =>
    rw [loseS_no hsb]
    go_enter Try.func31, Try.ntmps31
    go_wp2_with fail
    obtain ⟨W, hW, bW, zW, c1, f1, c2, f2⟩ := boxed2 w #[.int .i64 S.k.t, .int .i64 S.k.v, .int .i64 S.k.si, .int .i64 S.k.st, .string S.k.sd, v, .slice au S.l.length cu] #[.int .i64 0, .int .i64 0, .int .i64 0, .int .i64 0, .string ⟨#[]⟩, .slice none 0 0, .slice none 0 0] 38 38
    simp only [hW]
    refine (specStoreOk_any S v _ N W (by omega) (HR.out.kept (bW.mono hN)) (HU.out.kept (bW.mono hN))).mono ?_
    rintro e w1 ⟨rfl, b1⟩
    rw [hsb]
    replace c2 := keepC b1 (by omega) c2
    replace f2 := keepF b1 (by omega) f2
    have hz1 : w.heap.size + 1 < w1.heap.size := by have := b1.size; omega
    have HB := Hid.intro (bW.trans (b1.mono (by omega)))
    clear hW bW zW c1 f1 b1
    go_wp2
    refine bodyPost_ret (v := stV ⟨kpZ, []⟩ (.slice none 0 0) (.slice none 0 0)) (by simp [results, Try.results31, go_sem, c2, kpZ]) rfl ⟨_, _, rfl, OwnE.nil _ _, OwnR.nil _ _, (fun k hk h => by cases h), ?_⟩
    repeat (refine Below.setCell ?_ (by simp <;> omega) _)
    exact HB.out
  | true =>
    obtain ⟨hkb, h80, K0, hf0⟩ := storeB_out hsb
    obtain ⟨K1, hf1⟩ := foldK_take hf0 (n).toNat
    have hf : foldK S.k (firstN (n) S.l) = some K1 := hf1
    rw [loseS_yes hsb, afterK_some hf]
    have HSM := Hid.intro (Sm.of hkb)
    have HF := Hid.intro hf
    clear hf hf1 hf0 hkb
    go_enter Try.func31, Try.ntmps31
    go_wp2_with fail
    obtain ⟨W, hW, bW, zW, c1, f1, c2, f2⟩ := boxed2 w #[.int .i64 S.k.t, .int .i64 S.k.v, .int .i64 S.k.si, .int .i64 S.k.st, .string S.k.sd, v, .slice au S.l.length cu] #[.int .i64 0, .int .i64 0, .int .i64 0, .int .i64 0, .string ⟨#[]⟩, .slice none 0 0, .slice none 0 0] 38 38
    simp only [hW]
    refine (specStoreOk_any S v _ N W (by omega) (HR.out.kept (bW.mono hN)) (HU.out.kept (bW.mono hN))).mono ?_
    rintro e w1 ⟨rfl, b1⟩
    rw [hsb]
    replace c1 := keepC b1 (by omega) c1
    replace c2 := keepC b1 (by omega) c2
    replace f2 := keepF b1 (by omega) f2
    have hz1 : w.heap.size + 1 < w1.heap.size := by have := b1.size; omega
    have HB := Hid.intro (bW.trans (b1.mono (by omega)))
    clear hW bW zW f1 b1 hsb
    go_wp2_with fail
    refine (l3Fold_any S v _ N (n) w1 (Nat.le_trans hN (by omega)) (HR.out.kept (HB.out.mono hN)) (HU.out.kept (HB.out.mono hN)) HSM.out (by omega)).mono ?_
    rintro e w2 (⟨K2, v', hf, rfl, o2, b2⟩ | ⟨hf, K2, a2, m2, cap2, rfl, b2⟩)
    · obtain ⟨a2, cap2, rfl⟩ := o2.slice
      rw [HF.out] at hf
      cases hf
      replace c2 := keepC b2 hz1 c2
      replace f2 := keepF b2 hz1 f2
      have z2 : w1.heap.size ≤ w2.heap.size := b2.size
      have hz2 : w.heap.size + 1 < w2.heap.size := by omega
      have HO := Hid.intro o2
      have HB2 := Hid.intro (HB.out.trans (b2.mono HB.out.size))
      clear o2 b2 c1
      go_wp2
      refine bodyPost_ret (v := stV ⟨K1, []⟩ (.slice a2 K1.e.length cap2) (.slice none 0 0)) (by simp [results, Try.results31, go_sem, c2, hz2]) rfl ⟨_, _, rfl, ?_, OwnR.nil _ _, (fun k hk h => by cases h), ?_⟩
      · refine OwnE.lower (OwnE.only HO.out (S := fun k => k = w.heap.size + 1) ?_ (fun k hk h => by have := (HO.out.lt k hk).1; omega)) (show w.heap.size ≤ w1.heap.size by omega)
        refine Only.alloc ?_ _
        repeat (refine Only.setCell ?_ (by simp) _)
        exact Only.refl _ _
      · refine Below.alloc ?_ (by simp; omega) _
        repeat (refine Below.setCell ?_ (by simp <;> omega) _)
        exact HB2.out
    · rw [HF.out] at hf
      cases hf
set_option maxRecDepth 100000 in
set_option maxHeartbeats 4000000 in
theorem specSync_any (S : Sto) (v u : Value) (N : Nat) (w : World) (hN : N ≤ w.heap.size) (hr : RowE w N v S.k.e) (hu : RowR w N u S.l) :
    Calls Try.prog 29 #[stV S v u] w fun e w' => ∃ v' u', e = .returned (stV (syncS S) v' u') ∧ NewS w w' v' u' (syncS S) := by
  have HR := Hid.intro hr
  have HU := Hid.intro hu
  obtain ⟨au, cu, rfl, lu, mu, _⟩ := hu
  clear hr
  unfold syncS
  cases hsb : storeB S with
  | false =>
    rw [loseS_no hsb]
    go_enter Try.func29, Try.ntmps29
    go_wp2_with fail
    obtain ⟨W, hW, bW, zW, c1, f1, c2, f2⟩ := boxed2 w #[.int .i64 S.k.t, .int .i64 S.k.v, .int .i64 S.k.si, .int .i64 S.k.st, .string S.k.sd, v, .slice au S.l.length cu] #[.int .i64 0, .int .i64 0, .int .i64 0, .int .i64 0, .string ⟨#[]⟩, .slice none 0 0, .slice none 0 0] 38 38
    simp only [hW]
    refine (specStoreOk_any S v _ N W (by omega) (HR.out.kept (bW.mono hN)) (HU.out.kept (bW.mono hN))).mono ?_
    rintro e w1 ⟨rfl, b1⟩
    rw [hsb]
    replace c2 := keepC b1 (by omega) c2
    replace f2 := keepF b1 (by omega) f2
    have hz1 : w.heap.size + 1 < w1.heap.size := by have := b1.size; omega
    have HB := Hid.intro (bW.trans (b1.mono (by omega)))
    clear hW bW zW c1 f1 b1
    go_wp2
    refine bodyPost_ret (v := stV ⟨kpZ, []⟩ (.slice none 0 0) (.slice none 0 0)) (by simp [results, Try.results29, go_sem, c2, kpZ]) rfl ⟨_, _, rfl, OwnE.nil _ _, OwnR.nil _ _, (fun k hk h => by cases h), ?_⟩
    repeat (refine Below.setCell ?_ (by simp <;> omega) _)
    exact HB.out
  | true =>
    obtain ⟨hkb, h80, K0, hf0⟩ := storeB_out hsb
    obtain ⟨K1, hf1⟩ := foldK_take hf0 (((S.l.length : Nat) : Int)).toNat
    have hf : foldK S.k (firstN (((S.l.length : Nat) : Int)) S.l) = some K1 := hf1
    rw [loseS_yes hsb, afterK_some hf]
    have HSM := Hid.intro (Sm.of hkb)
    have HF := Hid.intro hf
    clear hf hf1 hf0 hkb
    go_enter Try.func29, Try.ntmps29
    go_wp2_with fail
    obtain ⟨W, hW, bW, zW, c1, f1, c2, f2⟩ := boxed2 w #[.int .i64 S.k.t, .int .i64 S.k.v, .int .i64 S.k.si, .int .i64 S.k.st, .string S.k.sd, v, .slice au S.l.length cu] #[.int .i64 0, .int .i64 0, .int .i64 0, .int .i64 0, .string ⟨#[]⟩, .slice none 0 0, .slice none 0 0] 38 38
    simp only [hW]
    refine (specStoreOk_any S v _ N W (by omega) (HR.out.kept (bW.mono hN)) (HU.out.kept (bW.mono hN))).mono ?_
    rintro e w1 ⟨rfl, b1⟩
    rw [hsb]
    replace c1 := keepC b1 (by omega) c1
    replace c2 := keepC b1 (by omega) c2
    replace f2 := keepF b1 (by omega) f2
    have hz1 : w.heap.size + 1 < w1.heap.size := by have := b1.size; omega
    have HB := Hid.intro (bW.trans (b1.mono (by omega)))
    clear hW bW zW f1 b1 hsb
    go_wp2_with fail
    refine (l3Fold_any S v _ N (((S.l.length : Nat) : Int)) w1 (Nat.le_trans hN (by omega)) (HR.out.kept (HB.out.mono hN)) (HU.out.kept (HB.out.mono hN)) HSM.out (by omega)).mono ?_
    rintro e w2 (⟨K2, v', hf, rfl, o2, b2⟩ | ⟨hf, K2, a2, m2, cap2, rfl, b2⟩)
    · obtain ⟨a2, cap2, rfl⟩ := o2.slice
      rw [HF.out] at hf
      cases hf
      replace c2 := keepC b2 hz1 c2
      replace f2 := keepF b2 hz1 f2
      have z2 : w1.heap.size ≤ w2.heap.size := b2.size
      have hz2 : w.heap.size + 1 < w2.heap.size := by omega
      have HO := Hid.intro o2
      have HB2 := Hid.intro (HB.out.trans (b2.mono HB.out.size))
      clear o2 b2 c1
      go_wp2
      refine bodyPost_ret (v := stV ⟨K1, []⟩ (.slice a2 K1.e.length cap2) (.slice none 0 0)) (by simp [results, Try.results29, go_sem, c2, hz2]) rfl ⟨_, _, rfl, ?_, OwnR.nil _ _, (fun k hk h => by cases h), ?_⟩
      · refine OwnE.lower (OwnE.only HO.out (S := fun k => k = w.heap.size + 1) ?_ (fun k hk h => by have := (HO.out.lt k hk).1; omega)) (show w.heap.size ≤ w1.heap.size by omega)
        refine Only.alloc ?_ _
        repeat (refine Only.setCell ?_ (by simp) _)
        exact Only.refl _ _
      · refine Below.alloc ?_ (by simp; omega) _
        repeat (refine Below.setCell ?_ (by simp <;> omega) _)
        exact HB2.out
    · rw [HF.out] at hf
      cases hf
end Go.Proofs.Ytkilepoimocoeab
