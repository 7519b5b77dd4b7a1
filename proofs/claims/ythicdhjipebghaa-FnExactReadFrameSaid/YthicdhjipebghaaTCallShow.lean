/- What is shown of a call, on both sides. -/
import Derived.Test.YthicdhjipebghaaTCall
import Derived.Test.YthicdhjipebghaaTShow
import Derived.Test.YthicdhjipebghaaPReg
namespace Go.Proofs.Ythicdhjipebghaa
open Go.RowKit
set_option linter.unusedVariables false
/-- What is shown of a call. -/
def shC (c : Ca) : ByteArray := if callP c then varS c.k.toNat ++ piece c.p ++ piece c.to ++ varS (foldN c.n) ++ varS (foldN c.m) ++ piece c.d else ByteArray.empty
theorem shC_yes {c : Ca} (h : callP c) : shC c = varS c.k.toNat ++ piece c.p ++ piece c.to ++ varS (foldN c.n) ++ varS (foldN c.m) ++ piece c.d := if_pos h
theorem shC_no {c : Ca} (h : ¬ callP c) : shC c = ByteArray.empty := if_neg h
theorem stepB {w a b : World} (h : Below w.heap.size w a) (k : Below a.heap.size a b) : Below w.heap.size w b := h.trans (k.mono h.size)
def SC (n : Nat) (p to : ByteArray) (x y : Int) (d : ByteArray) (b : Nat) (w' : World) : Prop := w'.cell? ⟨b, 0, none⟩ = some (.int .i64 n) ∧ w'.cell? ⟨b, 1, none⟩ = some (.string p) ∧ w'.cell? ⟨b, 2, none⟩ = some (.string to) ∧ w'.cell? ⟨b, 3, none⟩ = some (.int .i64 x) ∧ w'.cell? ⟨b, 4, none⟩ = some (.int .i64 y) ∧ w'.cell? ⟨b, 5, none⟩ = some (.string d)
theorem two_vars (a b : Nat) : (⟨(varsL [a, b]).toArray⟩ : ByteArray) = varS a ++ varS b := by
  unfold varS
  show _ = (ByteArray.mk (varL a).toArray ++ ByteArray.mk (varL b).toArray)
  rw [ByteArray.mk_append_mk]
  congr 1
  simp [varsL]
theorem varsL2_le (a b : Nat) : (⟨(varsL [a, b]).toArray⟩ : ByteArray).size ≤ 14 := by
  have h1 := varS_le a
  have h2 := varS_le b
  rw [two_vars, ByteArray.size_append]; omega
theorem two_at {a b : Nat} (p : Nat → Prop) (ha : p a) (hb : p b) (j : Nat) (h : j < [a, b].length) : p [a, b][j] := by
  match j, h with
  | 0, _ => exact ha
  | 1, _ => exact hb
theorem two_cells {w : World} {g : Nat} {a b : Nat} (hc : ∀ o, w.cell? ⟨g, o, none⟩ = #[Value.int .i64 (a : Nat), .int .i64 (b : Nat)][o]?) (j : Nat) (h : j < [a, b].length) : w.cell? ⟨g, 0 + j, none⟩ = some (.int .i64 ([a, b][j] : Nat)) := by
  rw [Nat.zero_add, hc]
  match j, h with
  | 0, _ => rfl
  | 1, _ => rfl
set_option maxRecDepth 100000 in
set_option maxHeartbeats 4000000 in
theorem specShowCall_any (c : Ca) (w : World) :
    Calls Try.prog 34 #[caV c] w fun e w' => e = .returned (.string (shC c)) ∧ Below w.heap.size w w' := by
  by_cases h : callP c
  · have hb : callB c = true := (callB_yes h).symm
    rw [shC_yes h]
    obtain ⟨k, p, to, x, y, d⟩ := c
    obtain ⟨⟨hk, hp, ht, hd, hx, hy⟩, _, _⟩ := h
    simp only at hk hp ht hd hx hy
    obtain ⟨n, rfl⟩ := Int.eq_ofNat_of_zero_le (show 0 ≤ k by omega)
    have hn : n ≤ 22 := by omega
    have v0 := varS_le n
    have v1 := piece_le p
    have v2 := piece_le to
    have v3 := varS_le (foldN x)
    have v4 := varS_le (foldN y)
    have v5 := piece_le d
    simp only [Int.toNat_natCast]
    go_enter Try.func34, Try.ntmps34
    go_wp2_with fail
    obtain ⟨W, hW, bW, zW, cW, fW⟩ := boxed w #[.int .i64 n, .string p, .string to, .int .i64 x, .int .i64 y, .string d] 45
    simp only [hW]
    refine (specCallOk_any ⟨n, p, to, x, y, d⟩ _).mono ?_
    rintro e w1 ⟨rfl, b1⟩
    have hS1 : SC n p to x y d w.heap.size w1 := by
      have c1 := keepC b1 (by omega) cW
      exact ⟨by rw [c1]; rfl, by rw [c1]; rfl, by rw [c1]; rfl, by rw [c1]; rfl, by rw [c1]; rfl, by rw [c1]; rfl⟩
    have z1 := b1.size
    have B1 := bW.trans (b1.mono (by omega))
    have hlt : w.heap.size < w1.heap.size := by omega
    clear hW bW zW cW fW b1
    have HC : Hid (∀ w', Below w1.heap.size w1 w' → SC n p to x y d w.heap.size w') := fun w' hb => by
      obtain ⟨e0, e1, e2, e3, e4, e5⟩ := hS1
      exact ⟨(hb.cell (p := ⟨_, _, none⟩) hlt).trans e0, (hb.cell (p := ⟨_, _, none⟩) hlt).trans e1, (hb.cell (p := ⟨_, _, none⟩) hlt).trans e2, (hb.cell (p := ⟨_, _, none⟩) hlt).trans e3, (hb.cell (p := ⟨_, _, none⟩) hlt).trans e4, (hb.cell (p := ⟨_, _, none⟩) hlt).trans e5⟩
    clear hS1
    go_upto_region 3 with fail
    refine wp_region_held_drew (S := SC n p to x y d w.heap.size) (by kernel_rfl) (HC.out _ (Below.refl _ _).drew) (fun hHeld => ?_)
    have BWD : Below w1.heap.size w1 w1.drew := (Below.refl _ _).drew
    generalize w1.drew = D at BWD hHeld ⊢
    refine take1 (i := 0) (d := some 6) (v := ?_) rfl rfl (by kernel_rfl) (by kernel_rfl) (by kernel_rfl) (fun _ _ _ h => h) (Or.inl ⟨by rfl, ?_⟩) (by assumption) ?_
    rotate_left 1
    · intro w hSw
      obtain ⟨q0, q1, q2, q3, q4, q5⟩ := hSw
      go_simp <;> with_reducible rfl
    simp only [Act.put, List.setIfInBounds_toArray]
    try simp only [List.set_cons_succ]
    try simp only [List.set_cons_zero]
    refine take1 (i := 1) (d := some 7) (v := ?_) rfl rfl (by kernel_rfl) (by kernel_rfl) (by kernel_rfl) (fun _ _ _ h => h) (Or.inl ⟨by rfl, ?_⟩) (by assumption) ?_
    rotate_left 1
    · intro w hSw
      obtain ⟨q0, q1, q2, q3, q4, q5⟩ := hSw
      go_simp <;> with_reducible rfl
    simp only [Act.put, List.setIfInBounds_toArray]
    try simp only [List.set_cons_succ]
    try simp only [List.set_cons_zero]
    refine take1 (i := 3) (d := some 9) (v := ?_) rfl rfl (by kernel_rfl) (by kernel_rfl) (by kernel_rfl) (fun _ _ _ h => h) (Or.inl ⟨by rfl, ?_⟩) (by assumption) ?_
    rotate_left 1
    · intro w hSw
      obtain ⟨q0, q1, q2, q3, q4, q5⟩ := hSw
      go_simp <;> with_reducible rfl
    simp only [Act.put, List.setIfInBounds_toArray]
    try simp only [List.set_cons_succ]
    try simp only [List.set_cons_zero]
    refine take1 (i := 4) (d := some 10) (v := ?_) rfl rfl (by kernel_rfl) (by kernel_rfl) (by kernel_rfl) (fun _ _ _ h => h) (Or.inl ⟨by rfl, ?_⟩) (by assumption) ?_
    rotate_left 1
    · intro w hSw
      obtain ⟨q0, q1, q2, q3, q4, q5⟩ := hSw
      go_simp <;> with_reducible rfl
    simp only [Act.put, List.setIfInBounds_toArray]
    try simp only [List.set_cons_succ]
    try simp only [List.set_cons_zero]
    refine take1 (i := 7) (d := some 13) (v := ?_) rfl rfl (by kernel_rfl) (by kernel_rfl) (by kernel_rfl) (fun _ _ _ h => h) (Or.inl ⟨by rfl, ?_⟩) (by assumption) ?_
    rotate_left 1
    · intro w hSw
      obtain ⟨q0, q1, q2, q3, q4, q5⟩ := hSw
      go_simp <;> with_reducible rfl
    simp only [Act.put, List.setIfInBounds_toArray]
    try simp only [List.set_cons_succ]
    try simp only [List.set_cons_zero]
    refine take1 (i := 8) (d := some 14) (v := ?_) rfl rfl (by kernel_rfl) (by kernel_rfl) (by kernel_rfl) (fun _ _ _ h => h) (Or.inl ⟨by rfl, ?_⟩) (by assumption) ?_
    rotate_left 1
    · intro w hSw
      obtain ⟨q0, q1, q2, q3, q4, q5⟩ := hSw
      go_simp <;> with_reducible rfl
    simp only [Act.put, List.setIfInBounds_toArray]
    try simp only [List.set_cons_succ]
    try simp only [List.set_cons_zero]
    refine take1 (i := 11) (d := some 17) (v := ?_) rfl rfl (by kernel_rfl) (by kernel_rfl) (by kernel_rfl) (fun _ _ _ h => h) (Or.inl ⟨by rfl, ?_⟩) (by assumption) ?_
    rotate_left 1
    · intro w hSw
      obtain ⟨q0, q1, q2, q3, q4, q5⟩ := hSw
      go_simp <;> with_reducible rfl
    simp only [Act.put, List.setIfInBounds_toArray]
    try simp only [List.set_cons_succ]
    try simp only [List.set_cons_zero]
    refine take1 (i := 12) (d := some 18) (v := ?_) rfl rfl (by kernel_rfl) (by kernel_rfl) (by kernel_rfl) (fun _ _ _ h => h) (Or.inl ⟨by rfl, ?_⟩) (by assumption) ?_
    rotate_left 1
    · intro w hSw
      obtain ⟨q0, q1, q2, q3, q4, q5⟩ := hSw
      go_simp <;> with_reducible rfl
    simp only [Act.put, List.setIfInBounds_toArray]
    try simp only [List.set_cons_succ]
    try simp only [List.set_cons_zero]
    refine take1 (i := 15) (d := some 21) (v := ?_) rfl rfl (by kernel_rfl) (by kernel_rfl) (by kernel_rfl) (fun _ _ _ h => h) (Or.inl ⟨by rfl, ?_⟩) (by assumption) ?_
    rotate_left 1
    · intro w hSw
      obtain ⟨q0, q1, q2, q3, q4, q5⟩ := hSw
      go_simp <;> with_reducible rfl
    simp only [Act.put, List.setIfInBounds_toArray]
    try simp only [List.set_cons_succ]
    try simp only [List.set_cons_zero]
    refine take1 (i := 16) (d := some 22) (v := ?_) rfl rfl (by kernel_rfl) (by kernel_rfl) (by kernel_rfl) (fun _ _ _ h => h) (Or.inl ⟨by rfl, ?_⟩) (by assumption) ?_
    rotate_left 1
    · intro w hSw
      obtain ⟨q0, q1, q2, q3, q4, q5⟩ := hSw
      go_simp <;> with_reducible rfl
    simp only [Act.put, List.setIfInBounds_toArray]
    try simp only [List.set_cons_succ]
    try simp only [List.set_cons_zero]
    refine take1 (i := 19) (d := some 25) (v := ?_) rfl rfl (by kernel_rfl) (by kernel_rfl) (by kernel_rfl) (fun _ _ _ h => h) (Or.inl ⟨by rfl, ?_⟩) (by assumption) ?_
    rotate_left 1
    · intro w hSw
      obtain ⟨q0, q1, q2, q3, q4, q5⟩ := hSw
      go_simp <;> with_reducible rfl
    simp only [Act.put, List.setIfInBounds_toArray]
    try simp only [List.set_cons_succ]
    try simp only [List.set_cons_zero]
    refine take1 (i := 20) (d := some 26) (v := ?_) rfl rfl (by kernel_rfl) (by kernel_rfl) (by kernel_rfl) (fun _ _ _ h => h) (Or.inl ⟨by rfl, ?_⟩) (by assumption) ?_
    rotate_left 1
    · intro w hSw
      obtain ⟨q0, q1, q2, q3, q4, q5⟩ := hSw
      go_simp <;> with_reducible rfl
    simp only [Act.put, List.setIfInBounds_toArray]
    try simp only [List.set_cons_succ]
    try simp only [List.set_cons_zero]
    refine wpAnyH_ready (rs := [2]) (by kernel_rfl) (by simp) ?_
    refine AllReadyH.cons rfl (fun KK hKK => ?_) AllReadyH.nil
    go_simp
    refine (specVar_yes n _ (by omega)).mono ?_
    rintro e A ⟨rfl, bA⟩
    have BWA : Below w1.heap.size w1 A := stepB BWD bA
    clear bA
    go_simp
    refine hKK.out _ _ (HC.out _ BWA) (fun hHeld2 => ?_)
    clear hKK KK hHeld
    have hHeld := hHeld2
    clear hHeld2
    refine wpAnyH_ready (rs := [5]) (by kernel_rfl) (by simp) ?_
    refine AllReadyH.cons rfl (fun KK hKK => ?_) AllReadyH.nil
    go_simp
    refine (specPiece_any p _ (by omega)).mono ?_
    rintro e B ⟨rfl, bB⟩
    have BWB : Below w1.heap.size w1 B := stepB BWA bB
    clear bB
    go_simp
    refine hKK.out _ _ (HC.out _ BWB) (fun hHeld2 => ?_)
    clear hKK KK hHeld
    have hHeld := hHeld2
    clear hHeld2
    refine take1 (i := 6) (d := some 12) (v := .string (varS n ++ piece p)) rfl rfl (by kernel_rfl) (by kernel_rfl) (by kernel_rfl) (fun _ _ _ h => h) (Or.inl ⟨by rfl, ?_⟩) (by assumption) ?_
    · intro w hSw
      go_simp
      omega
    simp only [Act.put, List.setIfInBounds_toArray]
    try simp only [List.set_cons_succ]
    try simp only [List.set_cons_zero]
    refine wpAnyH_ready (rs := [9]) (by kernel_rfl) (by simp) ?_
    refine AllReadyH.cons rfl (fun KK hKK => ?_) AllReadyH.nil
    go_simp
    refine (specPiece_any to _ (by omega)).mono ?_
    rintro e C ⟨rfl, bC⟩
    have BWC : Below w1.heap.size w1 C := stepB BWB bC
    clear bC
    go_simp
    refine hKK.out _ _ (HC.out _ BWC) (fun hHeld2 => ?_)
    clear hKK KK hHeld
    have hHeld := hHeld2
    clear hHeld2
    refine take1 (i := 10) (d := some 16) (v := .string (varS n ++ piece p ++ piece to)) rfl rfl (by kernel_rfl) (by kernel_rfl) (by kernel_rfl) (fun _ _ _ h => h) (Or.inl ⟨by rfl, ?_⟩) (by assumption) ?_
    · intro w hSw
      go_simp
      omega
    simp only [Act.put, List.setIfInBounds_toArray]
    try simp only [List.set_cons_succ]
    try simp only [List.set_cons_zero]
    refine wpAnyH_ready (rs := [13]) (by kernel_rfl) (by simp) ?_
    refine AllReadyH.cons rfl (fun KK hKK => ?_) AllReadyH.nil
    go_simp
    refine (specSigned_any x _ hx).mono ?_
    rintro e E ⟨rfl, bE⟩
    have BWE : Below w1.heap.size w1 E := stepB BWC bE
    clear bE
    go_simp
    refine hKK.out _ _ (HC.out _ BWE) (fun hHeld2 => ?_)
    clear hKK KK hHeld
    have hHeld := hHeld2
    clear hHeld2
    refine take1 (i := 14) (d := some 20) (v := .string (varS n ++ piece p ++ piece to ++ varS (foldN x))) rfl rfl (by kernel_rfl) (by kernel_rfl) (by kernel_rfl) (fun _ _ _ h => h) (Or.inl ⟨by rfl, ?_⟩) (by assumption) ?_
    · intro w hSw
      go_simp
      omega
    simp only [Act.put, List.setIfInBounds_toArray]
    try simp only [List.set_cons_succ]
    try simp only [List.set_cons_zero]
    refine wpAnyH_ready (rs := [17]) (by kernel_rfl) (by simp) ?_
    refine AllReadyH.cons rfl (fun KK hKK => ?_) AllReadyH.nil
    go_simp
    refine (specSigned_any y _ hy).mono ?_
    rintro e G ⟨rfl, bG⟩
    have BWG : Below w1.heap.size w1 G := stepB BWE bG
    clear bG
    go_simp
    refine hKK.out _ _ (HC.out _ BWG) (fun hHeld2 => ?_)
    clear hKK KK hHeld
    have hHeld := hHeld2
    clear hHeld2
    refine take1 (i := 18) (d := some 24) (v := .string (varS n ++ piece p ++ piece to ++ varS (foldN x) ++ varS (foldN y))) rfl rfl (by kernel_rfl) (by kernel_rfl) (by kernel_rfl) (fun _ _ _ h => h) (Or.inl ⟨by rfl, ?_⟩) (by assumption) ?_
    · intro w hSw
      go_simp
      omega
    simp only [Act.put, List.setIfInBounds_toArray]
    try simp only [List.set_cons_succ]
    try simp only [List.set_cons_zero]
    refine wpAnyH_ready (rs := [21]) (by kernel_rfl) (by simp) ?_
    refine AllReadyH.cons rfl (fun KK hKK => ?_) AllReadyH.nil
    go_simp
    refine (specPiece_any d _ (by omega)).mono ?_
    rintro e H ⟨rfl, bH⟩
    have BWH : Below w1.heap.size w1 H := stepB BWG bH
    clear bH
    go_simp
    refine hKK.out _ _ (HC.out _ BWH) (fun hHeld2 => ?_)
    clear hKK KK hHeld
    have hHeld := hHeld2
    clear hHeld2
    refine take1 (i := 22) (d := some 28) (v := .string (varS n ++ piece p ++ piece to ++ varS (foldN x) ++ varS (foldN y) ++ piece d)) rfl rfl (by kernel_rfl) (by kernel_rfl) (by kernel_rfl) (fun _ _ _ h => h) (Or.inl ⟨by rfl, ?_⟩) (by assumption) ?_
    · intro w hSw
      go_simp
      omega
    simp only [Act.put, List.setIfInBounds_toArray]
    try simp only [List.set_cons_succ]
    try simp only [List.set_cons_zero]
    refine take1 (i := 23) (d := some 2) (v := ?_) rfl rfl (by kernel_rfl) (by kernel_rfl) (by kernel_rfl) (fun _ _ _ h => h) (Or.inl ⟨by rfl, ?_⟩) (by assumption) ?_
    rotate_left 1
    · intro w hSw
      go_simp <;> with_reducible rfl
    simp only [Act.put, List.setIfInBounds_toArray]
    try simp only [List.set_cons_succ]
    try simp only [List.set_cons_zero]
    refine wpAnyH_done (by kernel_rfl) ?_ _
    clear HC
    go_wp2
    go_ret
    exact ⟨rfl, B1.trans (BWH.mono (by omega))⟩
  · have hb : callB c = false := (callB_no h).symm
    rw [shC_no h]
    go_enter Try.func34, Try.ntmps34
    go_wp2_with fail
    refine (specCallOk_any c _).mono ?_
    rintro e w1 ⟨rfl, b1⟩
    have B1 := (one_below w _).trans (b1.mono (by simp))
    go_wp2
    go_ret
    exact ⟨rfl, B1⟩
end Go.Proofs.Ythicdhjipebghaa
