/- FnExactChanges. -/
import Derived.Test.YtkilepoimocoeaaChU
import Derived.Test.YtkilepoimocoeaaChR
import Derived.Test.YtkilepoimocoeaaLawKept
import Derived.Deep.RegionHeld3
import Derived.Deep.Cut
import Derived.Deep.RegionWith
namespace Go.Proofs.Ytkilepoimocoeaa
open Go.RowKit
set_option linter.unusedVariables false
/-- The law's own arguments: two Kepts, in the blocks just behind the caller's. -/
structure Base2 (w : World) (A : Kp) (va : Value) (B : Kp) (vb : Value) (u : World) : Prop where
  a : ∀ o, u.cell? ⟨w.heap.size, o, none⟩ = #[.int .i64 A.t, .int .i64 A.v, .int .i64 A.si, .int .i64 A.st, .string A.sd, va][o]?
  b : ∀ o, u.cell? ⟨w.heap.size + 1, o, none⟩ = #[.int .i64 B.t, .int .i64 B.v, .int .i64 B.si, .int .i64 B.st, .string B.sd, vb][o]?
  ra : RowE u w.heap.size va A.e
  rb : RowE u w.heap.size vb B.e
  sz : w.heap.size + 1 < u.heap.size
  bel : Below w.heap.size w u
theorem Base2.kept {w u u' : World} {A B : Kp} {va vb : Value} {N : Nat} (h : Base2 w A va B vb u) (hb : Below N u u') (hB : w.heap.size + 1 < N) : Base2 w A va B vb u' :=
  ⟨keepC hb (by omega) h.a, keepC hb hB h.b, h.ra.kept (hb.mono (by omega)), h.rb.kept (hb.mono (by omega)), Nat.lt_of_lt_of_le h.sz hb.size, h.bel.trans (hb.mono (by omega))⟩
theorem Base2.sz' {w u : World} {A B : Kp} {va vb : Value} (h : Base2 w A va B vb u) : w.heap.size ≤ u.heap.size := by have := h.sz; omega
def SB (A : Kp) (va : Value) (b : Nat) (B : Kp) (vb : Value) (c : Nat) (w' : World) : Prop := w'.cell? ⟨b, 0, none⟩ = some (.int .i64 A.t) ∧ w'.cell? ⟨b, 1, none⟩ = some (.int .i64 A.v) ∧ w'.cell? ⟨b, 2, none⟩ = some (.int .i64 A.si) ∧ w'.cell? ⟨b, 3, none⟩ = some (.int .i64 A.st) ∧ w'.cell? ⟨b, 4, none⟩ = some (.string A.sd) ∧ w'.cell? ⟨b, 5, none⟩ = some va ∧ w'.cell? ⟨c, 0, none⟩ = some (.int .i64 B.t) ∧ w'.cell? ⟨c, 1, none⟩ = some (.int .i64 B.v) ∧ w'.cell? ⟨c, 2, none⟩ = some (.int .i64 B.si) ∧ w'.cell? ⟨c, 3, none⟩ = some (.int .i64 B.st) ∧ w'.cell? ⟨c, 4, none⟩ = some (.string B.sd) ∧ w'.cell? ⟨c, 5, none⟩ = some vb
theorem sb_of {A B : Kp} {va vb : Value} {b c : Nat} {u : World} (d1 : ∀ o, u.cell? ⟨b, o, none⟩ = #[.int .i64 A.t, .int .i64 A.v, .int .i64 A.si, .int .i64 A.st, .string A.sd, va][o]?) (d2 : ∀ o, u.cell? ⟨c, o, none⟩ = #[.int .i64 B.t, .int .i64 B.v, .int .i64 B.si, .int .i64 B.st, .string B.sd, vb][o]?) : SB A va b B vb c u :=
  ⟨by rw [d1]; rfl, by rw [d1]; rfl, by rw [d1]; rfl, by rw [d1]; rfl, by rw [d1]; rfl, by rw [d1]; rfl, by rw [d2]; rfl, by rw [d2]; rfl, by rw [d2]; rfl, by rw [d2]; rfl, by rw [d2]; rfl, by rw [d2]; rfl⟩
theorem Base2.s {w u : World} {A B : Kp} {va vb : Value} (h : Base2 w A va B vb u) : SB A va w.heap.size B vb (w.heap.size + 1) u := sb_of h.a h.b
/-- A variable of type Kept at block b, its row from block base on. -/
structure KW (u : World) (b base : Nat) (K : Kp) (v : Value) : Prop where
  hi : b < u.heap.size
  cell : ∀ o, u.cell? ⟨b, o, none⟩ = #[.int .i64 K.t, .int .i64 K.v, .int .i64 K.si, .int .i64 K.st, .string K.sd, v][o]?
  own : OwnE u base v K.e
theorem KW.kept {u u' : World} {b base : Nat} {K : Kp} {v : Value} (h : KW u b base K v) (hb : Below u.heap.size u u') : KW u' b base K v := ⟨Nat.lt_of_lt_of_le h.hi hb.size, keepC hb h.hi h.cell, h.own.kept hb⟩
theorem KW.only {u u' : World} {b base : Nat} {K : Kp} {v : Value} {S : Nat → Prop} (h : KW u b base K v) (hb : Only S u u') (h1 : ¬ S b) (h2 : ∀ k, v.ownBlock = some k → ¬ S k) : KW u' b base K v :=
  ⟨Nat.lt_of_lt_of_le h.hi hb.size, fun o => (hb.cell h.hi h1).trans (h.cell o), h.own.only hb h2⟩
theorem chR_len (A B : Kp) : (chR A B).length ≤ 63 := by
  unfold chR
  split
  · rename_i h
    have hk : keptB B = true := by
      unfold chB at h
      simp only [Bool.and_eq_true] at h
      exact h.1.2
    rw [chL, List.length_append]
    have h1 := headL_len A B
    have h2 := tailL_len B (haveE A B) (Sm.of hk).2.2
    omega
  · simp
set_option maxRecDepth 100000 in
set_option maxHeartbeats 40000000 in
theorem changes_law (A : Kp) (va : Value) (B : Kp) (vb : Value) (w : World) (hsa : A.sd.size ≤ 9223372036854775807) (hra : RowE w w.heap.size va A.e) (hza : ∀ e ∈ A.e, e.d.size ≤ 9223372036854775807) (hsb : B.sd.size ≤ 9223372036854775807) (hrb : RowE w w.heap.size vb B.e) (hzb : ∀ e ∈ B.e, e.d.size ≤ 9223372036854775807) :
    Calls Try.prog 8 #[kpV A va, kpV B vb] w fun e w' => e = .returned (.bool true) ∧ Below w.heap.size w w' := by
  have HRA := Hid.intro hra
  have HRB := Hid.intro hrb
  have HZA := Hid.intro hza
  have HZB := Hid.intro hzb
  clear hra hrb hza hzb
  go_enter Try.func8, Try.ntmps8
  go_wp2_with fail
  obtain ⟨W, hW, bW, zW, c1, f1, c2, f2⟩ := boxed2 w #[.int .i64 A.t, .int .i64 A.v, .int .i64 A.si, .int .i64 A.st, .string A.sd, va] #[.int .i64 B.t, .int .i64 B.v, .int .i64 B.si, .int .i64 B.st, .string B.sd, vb] 54 54
  simp only [hW]
  have HB := Hid.intro (show Base2 w A va B vb W from ⟨c1, c2, HRA.out.kept bW, HRB.out.kept bW, by omega, bW⟩)
  clear hW f1 f2 bW zW
  refine (szKept_any A va w.heap.size _ _ HB.out.sz' hsa HB.out.ra HZA.out (by omega) (by omega)).mono ?_
  rintro e w1 ⟨⟨n, rfl, hn⟩, b1⟩
  replace c1 := keepC b1 (by have := HB.out.sz; omega) c1
  replace c2 := keepC b1 (by have := HB.out.sz; omega) c2
  replace HB := Hid.intro (HB.out.kept b1 HB.out.sz)
  obtain ⟨n1, n2, n3⟩ := hn
  clear b1 HRA HRB HZA hsa
  by_cases hneg : n < 0
  · clear n3
    go_wp2
    go_ret
    exact ⟨rfl, HB.out.bel⟩
  have hla : A.e.length ≤ 1048576 := by have := n3 (by omega); omega
  have HLA := Hid.intro hla
  have n4 : n ≤ 1048576 := by omega
  have n5 : 0 ≤ n := by omega
  clear n1 n2 n3 hneg hla
  go_wp2_with fail
  refine (szKept_any B vb w.heap.size n _ HB.out.sz' hsb HB.out.rb HZB.out n5 n4).mono ?_
  rintro e W2 ⟨⟨m, rfl, hm⟩, b2⟩
  replace c1 := keepC b2 (by have := HB.out.sz; omega) c1
  replace c2 := keepC b2 (by have := HB.out.sz; omega) c2
  replace HB := Hid.intro (HB.out.kept b2 HB.out.sz)
  obtain ⟨m1, m2, m3⟩ := hm
  clear b2 hsb HZB
  by_cases hneg : m < 0
  · clear m3
    go_wp2
    go_ret
    exact ⟨rfl, HB.out.bel⟩
  have hlb : B.e.length ≤ 1048576 := by have := m3 (by omega); omega
  have HLB := Hid.intro hlb
  clear m1 m2 m3 n4 n5 hlb
  have HC : Hid (∀ y, Below W2.heap.size W2 y → Base2 w A va B vb y) := fun y hy => HB.out.kept hy HB.out.sz
  have HS : Hid (∀ y, Below W2.heap.size W2 y → SB A va w.heap.size B vb (w.heap.size + 1) y) := fun y hy => (HC.out y hy).s
  go_upto_region 8 with fail
  clear c1 c2
  go_cut [6, 7] from 27 (fun s6 s7 wc => ∃ a m c, s6 = .slice a m c ∧ s7 = .bool (chB A B) ∧ Hid (OwnR wc W2.heap.size (.slice a m c) (chR A B)) ∧ Hid (Below W2.heap.size W2 wc))
  case first =>
    clear hneg
    refine wp_region_held_drew (S := SB A va w.heap.size B vb (w.heap.size + 1)) (by kernel_rfl) (HS.out _ (Below.refl _ _).drew) (fun hHeld => ?_)
    have BD : Hid (Below W2.heap.size W2 W2.drew) := (Below.refl _ _).drew
    generalize W2.drew = D at BD hHeld ⊢
    refine take1 (i := 0) (d := some 28) (v := ?_) rfl rfl (by kernel_rfl) (by kernel_rfl) (by kernel_rfl) (fun _ _ _ h => h) (Or.inl ⟨by rfl, ?_⟩) (by assumption) ?_
    rotate_left 1
    · intro w hSw
      obtain ⟨q0, q1, q2, q3, q4, q5, q6, q7, q8, q9, q10, q11⟩ := hSw
      go_simp <;> with_reducible rfl
    simp only [Act.put, List.setIfInBounds_toArray]
    dsimp only [List.set_cons_succ, List.set_cons_zero]
    refine take1 (i := 2) (d := some 30) (v := ?_) rfl rfl (by kernel_rfl) (by kernel_rfl) (by kernel_rfl) (fun _ _ _ h => h) (Or.inl ⟨by rfl, ?_⟩) (by assumption) ?_
    rotate_left 1
    · intro w hSw
      obtain ⟨q0, q1, q2, q3, q4, q5, q6, q7, q8, q9, q10, q11⟩ := hSw
      go_simp <;> with_reducible rfl
    simp only [Act.put, List.setIfInBounds_toArray]
    dsimp only [List.set_cons_succ, List.set_cons_zero]
    refine wpAnyH_ready (rs := [1]) (by kernel_rfl) (by simp) ?_
    refine AllReadyH.cons rfl (fun KK hKK => ?_) AllReadyH.nil
    go_simp
    refine (toKept_any A va w.heap.size D (HC.out _ BD.out).sz' (HC.out _ BD.out).ra HLA.out).mono ?_
    rintro e wA ⟨vwA, rfl, owA, bwA⟩
    have HOwA := Hid.intro owA
    have BwA : Hid (Below W2.heap.size W2 wA) := BD.out.trans (bwA.mono BD.out.size)
    clear owA bwA
    go_simp
    refine hKK.out _ _ (HS.out _ BwA.out) (fun hHeld2 => ?_)
    clear hKK KK hHeld
    have hHeld := hHeld2
    clear hHeld2
    refine wpAnyH_ready (rs := [3]) (by kernel_rfl) (by simp) ?_
    refine AllReadyH.cons rfl (fun KK hKK => ?_) AllReadyH.nil
    go_simp
    refine (toKept_any B vb w.heap.size wA (HC.out _ BwA.out).sz' (HC.out _ BwA.out).rb HLB.out).mono ?_
    rintro e wB ⟨vwB, rfl, owB, bwB⟩
    have HOwB := Hid.intro owB
    have BwB : Hid (Below W2.heap.size W2 wB) := BwA.out.trans (bwB.mono BwA.out.size)
    replace HOwA := Hid.intro (HOwA.out.kept bwB)
    clear owB bwB
    go_simp
    refine hKK.out _ _ (HS.out _ BwB.out) (fun hHeld2 => ?_)
    clear hKK KK hHeld
    have hHeld := hHeld2
    clear hHeld2
    refine wpAnyH_ready (rs := [4]) (by kernel_rfl) (by simp) ?_
    refine AllReadyH.cons rfl (fun KK hKK => ?_) AllReadyH.nil
    go_simp
    refine (specChanges_any A B vwA vwB wB.heap.size wB (Nat.le_refl _) HOwA.out.rowAll HOwB.out.rowAll).mono ?_
    rintro e wC ⟨vC, rfl, oC, bC⟩
    obtain ⟨aC, capC, rfl⟩ := OwnR.slice oC
    have HOC := Hid.intro (OwnR.lower oC BwB.out.size)
    have BwC : Hid (Below W2.heap.size W2 wC) := BwB.out.trans (bC.mono BwB.out.size)
    clear oC bC
    go_simp
    refine hKK.out _ _ (HS.out _ BwC.out) (fun hHeld2 => ?_)
    clear hKK KK hHeld
    have hHeld := hHeld2
    clear hHeld2
    refine take1 (i := 5) (d := some 27) (v := ?_) rfl rfl (by kernel_rfl) (by kernel_rfl) (by kernel_rfl) (fun _ _ _ h => h) (Or.inl ⟨by rfl, ?_⟩) (by assumption) ?_
    rotate_left 1
    · intro w hSw
      obtain ⟨q0, q1, q2, q3, q4, q5, q6, q7, q8, q9, q10, q11⟩ := hSw
      go_simp <;> with_reducible rfl
    simp only [Act.put, List.setIfInBounds_toArray]
    dsimp only [List.set_cons_succ, List.set_cons_zero]
    refine take1 (i := 6) (d := some 33) (v := ?_) rfl rfl (by kernel_rfl) (by kernel_rfl) (by kernel_rfl) (fun _ _ _ h => h) (Or.inl ⟨by rfl, ?_⟩) (by assumption) ?_
    rotate_left 1
    · intro w hSw
      obtain ⟨q0, q1, q2, q3, q4, q5, q6, q7, q8, q9, q10, q11⟩ := hSw
      go_simp <;> with_reducible rfl
    simp only [Act.put, List.setIfInBounds_toArray]
    dsimp only [List.set_cons_succ, List.set_cons_zero]
    refine take1 (i := 7) (d := some 34) (v := ?_) rfl rfl (by kernel_rfl) (by kernel_rfl) (by kernel_rfl) (fun _ _ _ h => h) (Or.inl ⟨by rfl, ?_⟩) (by assumption) ?_
    rotate_left 1
    · intro w hSw
      obtain ⟨q0, q1, q2, q3, q4, q5, q6, q7, q8, q9, q10, q11⟩ := hSw
      go_simp <;> with_reducible rfl
    simp only [Act.put, List.setIfInBounds_toArray]
    dsimp only [List.set_cons_succ, List.set_cons_zero]
    refine take1 (i := 8) (d := some 6) (v := ?_) rfl rfl (by kernel_rfl) (by kernel_rfl) (by kernel_rfl) (fun _ _ _ h => h) (Or.inl ⟨by rfl, ?_⟩) (by assumption) ?_
    rotate_left 1
    · intro w hSw
      obtain ⟨q0, q1, q2, q3, q4, q5, q6, q7, q8, q9, q10, q11⟩ := hSw
      go_simp <;> with_reducible rfl
    simp only [Act.put, List.setIfInBounds_toArray]
    dsimp only [List.set_cons_succ, List.set_cons_zero]
    refine take1 (i := 9) (d := some 7) (v := ?_) rfl rfl (by kernel_rfl) (by kernel_rfl) (by kernel_rfl) (fun _ _ _ h => h) (Or.inl ⟨by rfl, ?_⟩) (by assumption) ?_
    rotate_left 1
    · intro w hSw
      obtain ⟨q0, q1, q2, q3, q4, q5, q6, q7, q8, q9, q10, q11⟩ := hSw
      go_simp <;> with_reducible rfl
    simp only [Act.put, List.setIfInBounds_toArray]
    dsimp only [List.set_cons_succ, List.set_cons_zero]
    refine wpAnyH_done (by kernel_rfl) ?_ _
    go_wp2_with fail
    go_meet
    case rel => exact ⟨_, _, _, rfl, rfl, HOC, BwC⟩
  case rest =>
  obtain ⟨a3, m3, c3, rfl, rfl, HO3, HB3⟩ := hcut
  obtain ⟨w3, hw3⟩ : ∃ y, y = wc := ⟨_, rfl⟩
  subst hw3
  have hm3 : m3 = (chR A B).length := by
    obtain ⟨_, _, h⟩ := OwnR.slice HO3.out
    cases h
    rfl
  subst hm3
  replace HB := Hid.intro (HB.out.kept HB3.out HB.out.sz)
  have z23 := HB3.out.size
  clear HC HS
  have zw3 : w.heap.size + 1 < w3.heap.size := HB.out.sz
  have HE3 : Hid (∀ k, (Value.slice a3 (chR A B).length c3).ownBlock = some k → W2.heap.size ≤ k ∧ k < w3.heap.size) := OwnR.lt HO3.out
  have c1 := HB.out.a
  go_wp2_with fail
  clear c1
  refine (toKept_any A va w.heap.size w3 HB.out.sz' HB.out.ra HLA.out).mono ?_
  rintro e w4 ⟨v4, rfl, o4, b4⟩
  obtain ⟨a4, c4, rfl⟩ := o4.slice
  have HE4 : Hid (∀ k, (Value.slice a4 A.e.length c4).ownBlock = some k → w3.heap.size ≤ k ∧ k < w4.heap.size) := o4.lt
  replace HB := Hid.intro (HB.out.kept b4 HB.out.sz)
  replace HO3 := Hid.intro (OwnR.kept HO3.out b4)
  have z4 := b4.size
  have HO4 := Hid.intro o4
  clear b4 o4
  have c2 := HB.out.b
  have zb := HB.out.sz
  go_wp2_with fail
  obtain ⟨X4, hX4, bX, zX4, cX, fX⟩ := boxed w4 #[.int .i64 A.t, .int .i64 A.v, .int .i64 A.si, .int .i64 A.st, .string A.sd, (.slice a4 A.e.length c4)] 28
  simp only [hX4]
  replace HB := Hid.intro (HB.out.kept bX HB.out.sz)
  replace HO3 := Hid.intro (OwnR.kept HO3.out bX)
  have H4 : Hid (KW X4 w4.heap.size w3.heap.size A (.slice a4 A.e.length c4)) := ⟨by omega, cX, HO4.out.kept bX⟩
  clear hX4 bX cX fX HO4 c2 zb
  refine (toKept_any B vb w.heap.size X4 HB.out.sz' HB.out.rb HLB.out).mono ?_
  rintro e w5 ⟨v5, rfl, o5, b5⟩
  obtain ⟨a5, c5, rfl⟩ := o5.slice
  have HE5 : Hid (∀ k, (Value.slice a5 B.e.length c5).ownBlock = some k → X4.heap.size ≤ k ∧ k < w5.heap.size) := o5.lt
  replace HB := Hid.intro (HB.out.kept b5 HB.out.sz)
  replace HO3 := Hid.intro (OwnR.kept HO3.out b5)
  replace H4 := Hid.intro (H4.out.kept b5)
  have z5 := b5.size
  have HO5 := Hid.intro o5
  clear b5 o5
  have d4 := H4.out.cell
  have zd := H4.out.hi
  go_wp2_with fail
  obtain ⟨X5, hX5, bX, zX5, cX, fX⟩ := boxed w5 #[.int .i64 B.t, .int .i64 B.v, .int .i64 B.si, .int .i64 B.st, .string B.sd, (.slice a5 B.e.length c5)] 28
  simp only [hX5]
  replace HB := Hid.intro (HB.out.kept bX HB.out.sz)
  replace HO3 := Hid.intro (OwnR.kept HO3.out bX)
  replace H4 := Hid.intro (H4.out.kept bX)
  have H5 : Hid (KW X5 w5.heap.size X4.heap.size B (.slice a5 B.e.length c5)) := ⟨by omega, cX, HO5.out.kept bX⟩
  clear hX5 bX cX fX HO5 d4 zd
  refine (implChanges_any A B _ _ X5.heap.size X5 (Nat.le_refl _) H4.out.own.rowAll H5.out.own.rowAll).mono ?_
  rintro e w6 ⟨v6, rfl, o6, b6⟩
  obtain ⟨a6, c6, rfl⟩ := OwnR.slice o6
  have HE6 : Hid (∀ k, (Value.slice a6 (chR A B).length c6).ownBlock = some k → X5.heap.size ≤ k ∧ k < w6.heap.size) := OwnR.lt o6
  replace HB := Hid.intro (HB.out.kept b6 HB.out.sz)
  replace HO3 := Hid.intro (OwnR.kept HO3.out b6)
  replace H4 := Hid.intro (H4.out.kept b6)
  replace H5 := Hid.intro (H5.out.kept b6)
  have z6 := b6.size
  have HO6 := Hid.intro o6
  clear b6 o6
  go_wp2_with fail
  refine (eqRecS_any (chR A B) _ _ w6.heap.size w6 (Nat.le_refl _) HO6.out.rowAll HO3.out.rowAll).mono ?_
  rintro e w7 ⟨rfl, b7⟩
  have z7 := b7.size
  replace HB := Hid.intro (HB.out.kept b7 HB.out.sz)
  replace HO3 := Hid.intro (OwnR.kept HO3.out b7)
  replace HO6 := Hid.intro (OwnR.kept HO6.out b7)
  replace H4 := Hid.intro (H4.out.kept b7)
  replace H5 := Hid.intro (H5.out.kept b7)
  clear b7
  have hbb : (chB A B != chB A B) = false := by simp
  go_upto_region 14 with fail
  have HC : Hid (∀ y, Below w7.heap.size w7 y → Base2 w A va B vb y ∧ KW y w4.heap.size w3.heap.size A (.slice a4 A.e.length c4) ∧ SB A (.slice a4 A.e.length c4) w4.heap.size A va w.heap.size y) := fun y hy => ⟨HB.out.kept hy HB.out.sz, H4.out.kept hy, sb_of (H4.out.kept hy).cell (HB.out.kept hy HB.out.sz).a⟩
  refine wp_region_held_drew (S := SB A (.slice a4 A.e.length c4) w4.heap.size A va w.heap.size) (by kernel_rfl) (HC.out _ (Below.refl _ _).drew).2.2 (fun hHeld => ?_)
  have BD : Hid (Below w7.heap.size w7 w7.drew) := (Below.refl _ _).drew
  generalize w7.drew = D at BD hHeld ⊢
  refine take1 (i := 0) (d := some 54) (v := ?_) rfl rfl (by kernel_rfl) (by kernel_rfl) (by kernel_rfl) (fun _ _ _ h => h) (Or.inl ⟨by rfl, ?_⟩) (by assumption) ?_
  rotate_left 1
  · intro w hSw
    obtain ⟨q0, q1, q2, q3, q4, q5, q6, q7, q8, q9, q10, q11⟩ := hSw
    go_simp <;> with_reducible rfl
  simp only [Act.put, List.setIfInBounds_toArray]
  dsimp only [List.set_cons_succ, List.set_cons_zero]
  refine take1 (i := 1) (d := some 55) (v := ?_) rfl rfl (by kernel_rfl) (by kernel_rfl) (by kernel_rfl) (fun _ _ _ h => h) (Or.inl ⟨by rfl, ?_⟩) (by assumption) ?_
  rotate_left 1
  · intro w hSw
    obtain ⟨q0, q1, q2, q3, q4, q5, q6, q7, q8, q9, q10, q11⟩ := hSw
    go_simp <;> with_reducible rfl
  simp only [Act.put, List.setIfInBounds_toArray]
  dsimp only [List.set_cons_succ, List.set_cons_zero]
  refine wpAnyH_ready (rs := [2]) (by kernel_rfl) (by simp) ?_
  refine AllReadyH.cons rfl (fun KK hKK => ?_) AllReadyH.nil
  go_simp
  refine (toKept_any A va w.heap.size D (HC.out _ BD.out).1.sz' (HC.out _ BD.out).1.ra HLA.out).mono ?_
  rintro e wE ⟨vE, rfl, oE, bE⟩
  obtain ⟨aE, cE, rfl⟩ := oE.slice
  have HOE := Hid.intro oE
  have BE : Hid (Below w7.heap.size w7 wE) := BD.out.trans (bE.mono BD.out.size)
  clear oE bE
  go_simp
  refine hKK.out _ _ (HC.out _ BE.out).2.2 (fun hHeld2 => ?_)
  clear hKK KK hHeld
  have hHeld := hHeld2
  clear hHeld2
  refine wpAnyH_ready (rs := [3]) (by kernel_rfl) (by simp) ?_
  refine AllReadyH.cons rfl (fun KK hKK => ?_) AllReadyH.nil
  go_simp
  refine (eqKept_any A _ _ wE.heap.size wE (Nat.le_refl _) (HC.out _ BE.out).2.1.own.rowAll HOE.out.rowAll).mono ?_
  rintro e w8 ⟨rfl, bF⟩
  have BF : Hid (Below w7.heap.size w7 w8) := BE.out.trans (bF.mono BE.out.size)
  clear bF
  go_simp
  refine hKK.out _ _ (HC.out _ BF.out).2.2 (fun hHeld2 => ?_)
  clear hKK KK hHeld
  have hHeld := hHeld2
  clear hHeld2
  refine take1 (i := 4) (d := some 58) (v := ?_) rfl rfl (by kernel_rfl) (by kernel_rfl) (by kernel_rfl) (fun _ _ _ h => h) (Or.inl ⟨by rfl, ?_⟩) (by assumption) ?_
  rotate_left 1
  · intro w hSw
    obtain ⟨q0, q1, q2, q3, q4, q5, q6, q7, q8, q9, q10, q11⟩ := hSw
    go_simp <;> with_reducible rfl
  simp only [Act.put, List.setIfInBounds_toArray]
  dsimp only [List.set_cons_succ, List.set_cons_zero]
  refine wpAnyH_done (by kernel_rfl) ?_ _
  have bG := BF.out
  have z8 := bG.size
  replace HB := Hid.intro (HB.out.kept bG HB.out.sz)
  replace HO3 := Hid.intro (OwnR.kept HO3.out bG)
  replace HO6 := Hid.intro (OwnR.kept HO6.out bG)
  replace H4 := Hid.intro (H4.out.kept bG)
  replace H5 := Hid.intro (H5.out.kept bG)
  clear bG
  clear HC BF BE BD HOE hHeld
  go_upto_region 16 with fail
  have HC : Hid (∀ y, Below w8.heap.size w8 y → Base2 w A va B vb y ∧ KW y w5.heap.size X4.heap.size B (.slice a5 B.e.length c5) ∧ SB B (.slice a5 B.e.length c5) w5.heap.size B vb (w.heap.size + 1) y) := fun y hy => ⟨HB.out.kept hy HB.out.sz, H5.out.kept hy, sb_of (H5.out.kept hy).cell (HB.out.kept hy HB.out.sz).b⟩
  refine wp_region_held_drew (S := SB B (.slice a5 B.e.length c5) w5.heap.size B vb (w.heap.size + 1)) (by kernel_rfl) (HC.out _ (Below.refl _ _).drew).2.2 (fun hHeld => ?_)
  have BD : Hid (Below w8.heap.size w8 w8.drew) := (Below.refl _ _).drew
  generalize w8.drew = D at BD hHeld ⊢
  refine take1 (i := 0) (d := some 59) (v := ?_) rfl rfl (by kernel_rfl) (by kernel_rfl) (by kernel_rfl) (fun _ _ _ h => h) (Or.inl ⟨by rfl, ?_⟩) (by assumption) ?_
  rotate_left 1
  · intro w hSw
    obtain ⟨q0, q1, q2, q3, q4, q5, q6, q7, q8, q9, q10, q11⟩ := hSw
    go_simp <;> with_reducible rfl
  simp only [Act.put, List.setIfInBounds_toArray]
  dsimp only [List.set_cons_succ, List.set_cons_zero]
  refine take1 (i := 1) (d := some 60) (v := ?_) rfl rfl (by kernel_rfl) (by kernel_rfl) (by kernel_rfl) (fun _ _ _ h => h) (Or.inl ⟨by rfl, ?_⟩) (by assumption) ?_
  rotate_left 1
  · intro w hSw
    obtain ⟨q0, q1, q2, q3, q4, q5, q6, q7, q8, q9, q10, q11⟩ := hSw
    go_simp <;> with_reducible rfl
  simp only [Act.put, List.setIfInBounds_toArray]
  dsimp only [List.set_cons_succ, List.set_cons_zero]
  refine wpAnyH_ready (rs := [2]) (by kernel_rfl) (by simp) ?_
  refine AllReadyH.cons rfl (fun KK hKK => ?_) AllReadyH.nil
  go_simp
  refine (toKept_any B vb w.heap.size D (HC.out _ BD.out).1.sz' (HC.out _ BD.out).1.rb HLB.out).mono ?_
  rintro e wE ⟨vE, rfl, oE, bE⟩
  obtain ⟨aE, cE, rfl⟩ := oE.slice
  have HOE := Hid.intro oE
  have BE : Hid (Below w8.heap.size w8 wE) := BD.out.trans (bE.mono BD.out.size)
  clear oE bE
  go_simp
  refine hKK.out _ _ (HC.out _ BE.out).2.2 (fun hHeld2 => ?_)
  clear hKK KK hHeld
  have hHeld := hHeld2
  clear hHeld2
  refine wpAnyH_ready (rs := [3]) (by kernel_rfl) (by simp) ?_
  refine AllReadyH.cons rfl (fun KK hKK => ?_) AllReadyH.nil
  go_simp
  refine (eqKept_any B _ _ wE.heap.size wE (Nat.le_refl _) (HC.out _ BE.out).2.1.own.rowAll HOE.out.rowAll).mono ?_
  rintro e w9 ⟨rfl, bF⟩
  have BF : Hid (Below w8.heap.size w8 w9) := BE.out.trans (bF.mono BE.out.size)
  clear bF
  go_simp
  refine hKK.out _ _ (HC.out _ BF.out).2.2 (fun hHeld2 => ?_)
  clear hKK KK hHeld
  have hHeld := hHeld2
  clear hHeld2
  refine take1 (i := 4) (d := some 63) (v := ?_) rfl rfl (by kernel_rfl) (by kernel_rfl) (by kernel_rfl) (fun _ _ _ h => h) (Or.inl ⟨by rfl, ?_⟩) (by assumption) ?_
  rotate_left 1
  · intro w hSw
    obtain ⟨q0, q1, q2, q3, q4, q5, q6, q7, q8, q9, q10, q11⟩ := hSw
    go_simp <;> with_reducible rfl
  simp only [Act.put, List.setIfInBounds_toArray]
  dsimp only [List.set_cons_succ, List.set_cons_zero]
  refine wpAnyH_done (by kernel_rfl) ?_ _
  have bG := BF.out
  have z9 := bG.size
  replace HB := Hid.intro (HB.out.kept bG HB.out.sz)
  replace HO3 := Hid.intro (OwnR.kept HO3.out bG)
  replace HO6 := Hid.intro (OwnR.kept HO6.out bG)
  replace H4 := Hid.intro (H4.out.kept bG)
  replace H5 := Hid.intro (H5.out.kept bG)
  clear bG
  clear HC BF BE BD HOE hHeld
  have d4 := H4.out.cell
  have zd := H4.out.hi
  go_wp2_with fail
  clear d4 zd
  refine (markKept_any A _ w3.heap.size 1 w9 (by omega) H4.out.own (by have := HLA.out; omega) (by omega) (by omega)).mono ?_
  rintro e w10 ⟨rfl, _, q10⟩
  replace HB := Hid.intro (HB.out.kept (q10.below (show w3.heap.size ≤ w9.heap.size by omega) (fun k hk h => by have := (HE4.out k h.symm).1; omega)) zw3)
  replace HO3 := Hid.intro (OwnR.only HO3.out q10 (fun k hk h => by have := (HE3.out k hk).2; have := (HE4.out k h.symm).1; omega))
  replace HO6 := Hid.intro (OwnR.only HO6.out q10 (fun k hk h => by have := (HE6.out k hk).1; have := (HE4.out k h.symm).2; omega))
  replace H5 := Hid.intro (H5.out.only q10 (fun h => by have := (HE4.out _ h.symm).2; omega) (fun k hk h => by have := (HE5.out k hk).1; have := (HE4.out k h.symm).2; omega))
  have z10 := q10.size
  obtain ⟨k1, hk1, hk10⟩ : ∃ k1 : Int, 1 + 2 * ((A.e.length : Nat) : Int) = k1 ∧ (1 ≤ k1 ∧ k1 ≤ 100000000) := ⟨_, rfl, by have := HLA.out; omega⟩
  simp only [hk1]
  clear hk1 q10 H4 HE4
  have d5 := H5.out.cell
  have zd := H5.out.hi
  go_wp2_with fail
  clear d5 zd
  refine (markKept_any B _ X4.heap.size k1 w10 (by omega) H5.out.own (by have := HLB.out; omega) hk10.1 hk10.2).mono ?_
  rintro e w11 ⟨rfl, _, q11⟩
  replace HB := Hid.intro (HB.out.kept (q11.below (show X4.heap.size ≤ w10.heap.size by omega) (fun k hk h => by have := (HE5.out k h.symm).1; omega)) (by omega))
  replace HO3 := Hid.intro (OwnR.only HO3.out q11 (fun k hk h => by have := (HE3.out k hk).2; have := (HE5.out k h.symm).1; omega))
  replace HO6 := Hid.intro (OwnR.only HO6.out q11 (fun k hk h => by have := (HE6.out k hk).1; have := (HE5.out k h.symm).2; omega))
  have z11 := q11.size
  obtain ⟨k2, hk2, hk20⟩ : ∃ k2 : Int, k1 + 2 * ((B.e.length : Nat) : Int) = k2 ∧ 0 ≤ k2 := ⟨_, rfl, by omega⟩
  simp only [hk2]
  clear hk2 q11 H5 HE5 hk10
  go_wp2_with fail
  refine (eqRecS_any (chR A B) _ _ w11.heap.size w11 (Nat.le_refl _) HO6.out.rowAll HO3.out.rowAll).mono ?_
  rintro e w12 ⟨rfl, b12⟩
  have z12 := b12.size
  replace HB := Hid.intro (HB.out.kept b12 HB.out.sz)
  replace HO3 := Hid.intro (OwnR.kept HO3.out b12)
  replace HO6 := Hid.intro (OwnR.kept HO6.out b12)
  clear b12
  go_wp2_with fail
  have HLR := Hid.intro (chR_len A B)
  refine (markRecS_any (chR A B) _ X5.heap.size 1 w12 (by omega) HO6.out (by have := HLR.out; omega) (by omega) (by omega)).mono ?_
  rintro e w13 ⟨rfl, o13, q13⟩
  have hML := markRL_len 1 (chR A B) (chR A B).length
  have HMG : Hid (∀ i (h : i < (markRL 1 (chR A B) (chR A B).length).length), (markRL 1 (chR A B) (chR A B).length)[i] = mkR 1 i) := fun i h => markRL_get 1 _ _ i (by rw [hML] at h; exact h) h
  have HO7 := Hid.intro o13
  generalize markRL 1 (chR A B) (chR A B).length = M at hML HMG HO7
  replace HB := Hid.intro (HB.out.kept (q13.below (show X5.heap.size ≤ w12.heap.size by omega) (fun k hk h => by have := (HE6.out k h.symm).1; omega)) (by omega))
  replace HO3 := Hid.intro (OwnR.only HO3.out q13 (fun k hk h => by have := (HE3.out k hk).2; have := (HE6.out k h.symm).1; omega))
  have z13 := q13.size
  clear o13 q13 HO6
  obtain ⟨k3, hk3, hk30⟩ : ∃ k3 : Int, 1 + 5 * (((chR A B).length : Nat) : Int) = k3 ∧ 0 ≤ k3 := ⟨_, rfl, by omega⟩
  have HK3 : Hid (1 + 5 * ((M.length : Nat) : Int) = k3) := by unfold Hid; rw [hML]; exact hk3
  simp only [hk3]
  clear hk3
  go_wp2_with fail
  refine (heldRecS_any M _ w13.heap.size 1 w13 (Nat.le_refl _) HO7.out.rowAll HMG.out (by have := HLR.out; omega) (by omega) (by omega)).mono ?_
  rintro e W2b ⟨rfl, b14⟩
  have z14 := b14.size
  replace HB := Hid.intro (HB.out.kept b14 HB.out.sz)
  replace HO3 := Hid.intro (OwnR.kept HO3.out b14)
  replace HO7 := Hid.intro (OwnR.kept HO7.out b14)
  clear b14
  rw [HK3.out]
  have hk3n : ¬ k3 < 0 := by omega
  have hkk : (k3 != k3) = false := by simp
  have HC : Hid (∀ y, Below W2b.heap.size W2b y → Base2 w A va B vb y) := fun y hy => HB.out.kept hy HB.out.sz
  have HS : Hid (∀ y, Below W2b.heap.size W2b y → SB A va w.heap.size B vb (w.heap.size + 1) y) := fun y hy => (HC.out y hy).s
  go_upto_region 31 with fail
  go_cut [15, 16] from 94 (fun s6 s7 wc => ∃ a m c, s6 = .slice a m c ∧ s7 = .bool (chB A B) ∧ Hid (OwnR wc W2b.heap.size (.slice a m c) (chR A B)) ∧ Hid (Below W2b.heap.size W2b wc))
  case first =>
    clear hk3n hkk
    refine wp_region_held_drew (S := SB A va w.heap.size B vb (w.heap.size + 1)) (by kernel_rfl) (HS.out _ (Below.refl _ _).drew) (fun hHeld => ?_)
    have BD : Hid (Below W2b.heap.size W2b W2b.drew) := (Below.refl _ _).drew
    generalize W2b.drew = D at BD hHeld ⊢
    refine take1 (i := 0) (d := some 95) (v := ?_) rfl rfl (by kernel_rfl) (by kernel_rfl) (by kernel_rfl) (fun _ _ _ h => h) (Or.inl ⟨by rfl, ?_⟩) (by assumption) ?_
    rotate_left 1
    · intro w hSw
      obtain ⟨q0, q1, q2, q3, q4, q5, q6, q7, q8, q9, q10, q11⟩ := hSw
      go_simp <;> with_reducible rfl
    simp only [Act.put, List.setIfInBounds_toArray]
    dsimp only [List.set_cons_succ, List.set_cons_zero]
    refine take1 (i := 2) (d := some 97) (v := ?_) rfl rfl (by kernel_rfl) (by kernel_rfl) (by kernel_rfl) (fun _ _ _ h => h) (Or.inl ⟨by rfl, ?_⟩) (by assumption) ?_
    rotate_left 1
    · intro w hSw
      obtain ⟨q0, q1, q2, q3, q4, q5, q6, q7, q8, q9, q10, q11⟩ := hSw
      go_simp <;> with_reducible rfl
    simp only [Act.put, List.setIfInBounds_toArray]
    dsimp only [List.set_cons_succ, List.set_cons_zero]
    refine wpAnyH_ready (rs := [1]) (by kernel_rfl) (by simp) ?_
    refine AllReadyH.cons rfl (fun KK hKK => ?_) AllReadyH.nil
    go_simp
    refine (toKept_any A va w.heap.size D (HC.out _ BD.out).sz' (HC.out _ BD.out).ra HLA.out).mono ?_
    rintro e wA ⟨vwA, rfl, owA, bwA⟩
    have HOwA := Hid.intro owA
    have BwA : Hid (Below W2b.heap.size W2b wA) := BD.out.trans (bwA.mono BD.out.size)
    clear owA bwA
    go_simp
    refine hKK.out _ _ (HS.out _ BwA.out) (fun hHeld2 => ?_)
    clear hKK KK hHeld
    have hHeld := hHeld2
    clear hHeld2
    refine wpAnyH_ready (rs := [3]) (by kernel_rfl) (by simp) ?_
    refine AllReadyH.cons rfl (fun KK hKK => ?_) AllReadyH.nil
    go_simp
    refine (toKept_any B vb w.heap.size wA (HC.out _ BwA.out).sz' (HC.out _ BwA.out).rb HLB.out).mono ?_
    rintro e wB ⟨vwB, rfl, owB, bwB⟩
    have HOwB := Hid.intro owB
    have BwB : Hid (Below W2b.heap.size W2b wB) := BwA.out.trans (bwB.mono BwA.out.size)
    replace HOwA := Hid.intro (HOwA.out.kept bwB)
    clear owB bwB
    go_simp
    refine hKK.out _ _ (HS.out _ BwB.out) (fun hHeld2 => ?_)
    clear hKK KK hHeld
    have hHeld := hHeld2
    clear hHeld2
    refine wpAnyH_ready (rs := [4]) (by kernel_rfl) (by simp) ?_
    refine AllReadyH.cons rfl (fun KK hKK => ?_) AllReadyH.nil
    go_simp
    refine (implChanges_any A B vwA vwB wB.heap.size wB (Nat.le_refl _) HOwA.out.rowAll HOwB.out.rowAll).mono ?_
    rintro e wC ⟨vC, rfl, oC, bC⟩
    obtain ⟨aC, capC, rfl⟩ := OwnR.slice oC
    have HOC := Hid.intro (OwnR.lower oC BwB.out.size)
    have BwC : Hid (Below W2b.heap.size W2b wC) := BwB.out.trans (bC.mono BwB.out.size)
    clear oC bC
    go_simp
    refine hKK.out _ _ (HS.out _ BwC.out) (fun hHeld2 => ?_)
    clear hKK KK hHeld
    have hHeld := hHeld2
    clear hHeld2
    refine take1 (i := 5) (d := some 94) (v := ?_) rfl rfl (by kernel_rfl) (by kernel_rfl) (by kernel_rfl) (fun _ _ _ h => h) (Or.inl ⟨by rfl, ?_⟩) (by assumption) ?_
    rotate_left 1
    · intro w hSw
      obtain ⟨q0, q1, q2, q3, q4, q5, q6, q7, q8, q9, q10, q11⟩ := hSw
      go_simp <;> with_reducible rfl
    simp only [Act.put, List.setIfInBounds_toArray]
    dsimp only [List.set_cons_succ, List.set_cons_zero]
    refine take1 (i := 6) (d := some 100) (v := ?_) rfl rfl (by kernel_rfl) (by kernel_rfl) (by kernel_rfl) (fun _ _ _ h => h) (Or.inl ⟨by rfl, ?_⟩) (by assumption) ?_
    rotate_left 1
    · intro w hSw
      obtain ⟨q0, q1, q2, q3, q4, q5, q6, q7, q8, q9, q10, q11⟩ := hSw
      go_simp <;> with_reducible rfl
    simp only [Act.put, List.setIfInBounds_toArray]
    dsimp only [List.set_cons_succ, List.set_cons_zero]
    refine take1 (i := 7) (d := some 101) (v := ?_) rfl rfl (by kernel_rfl) (by kernel_rfl) (by kernel_rfl) (fun _ _ _ h => h) (Or.inl ⟨by rfl, ?_⟩) (by assumption) ?_
    rotate_left 1
    · intro w hSw
      obtain ⟨q0, q1, q2, q3, q4, q5, q6, q7, q8, q9, q10, q11⟩ := hSw
      go_simp <;> with_reducible rfl
    simp only [Act.put, List.setIfInBounds_toArray]
    dsimp only [List.set_cons_succ, List.set_cons_zero]
    refine take1 (i := 8) (d := some 15) (v := ?_) rfl rfl (by kernel_rfl) (by kernel_rfl) (by kernel_rfl) (fun _ _ _ h => h) (Or.inl ⟨by rfl, ?_⟩) (by assumption) ?_
    rotate_left 1
    · intro w hSw
      obtain ⟨q0, q1, q2, q3, q4, q5, q6, q7, q8, q9, q10, q11⟩ := hSw
      go_simp <;> with_reducible rfl
    simp only [Act.put, List.setIfInBounds_toArray]
    dsimp only [List.set_cons_succ, List.set_cons_zero]
    refine take1 (i := 9) (d := some 16) (v := ?_) rfl rfl (by kernel_rfl) (by kernel_rfl) (by kernel_rfl) (fun _ _ _ h => h) (Or.inl ⟨by rfl, ?_⟩) (by assumption) ?_
    rotate_left 1
    · intro w hSw
      obtain ⟨q0, q1, q2, q3, q4, q5, q6, q7, q8, q9, q10, q11⟩ := hSw
      go_simp <;> with_reducible rfl
    simp only [Act.put, List.setIfInBounds_toArray]
    dsimp only [List.set_cons_succ, List.set_cons_zero]
    refine wpAnyH_done (by kernel_rfl) ?_ _
    go_wp2_with fail
    go_meet
    case rel => exact ⟨_, _, _, rfl, rfl, HOC, BwC⟩
  case rest =>
  obtain ⟨a8, m8, c8, rfl, rfl, HO8, HB8⟩ := hcut
  obtain ⟨w15, hw15⟩ : ∃ y, y = wc := ⟨_, rfl⟩
  subst hw15
  have hm8 : m8 = (chR A B).length := by
    obtain ⟨_, _, h⟩ := OwnR.slice HO8.out
    cases h
    rfl
  subst hm8
  replace HB := Hid.intro (HB.out.kept HB8.out HB.out.sz)
  replace HO3 := Hid.intro (OwnR.kept HO3.out HB8.out)
  replace HO7 := Hid.intro (OwnR.kept HO7.out HB8.out)
  have z15 := HB8.out.size
  clear HC HS HB8
  go_wp2_with fail
  refine (eqRecS_any (chR A B) _ _ w15.heap.size w15 (Nat.le_refl _) HO8.out.rowAll HO3.out.rowAll).mono ?_
  rintro e w16 ⟨rfl, b16⟩
  replace HB := Hid.intro (HB.out.kept b16 HB.out.sz)
  replace HO7 := Hid.intro (OwnR.kept HO7.out b16)
  clear b16 HO8 HO3
  go_wp2_with fail
  refine (heldRecS_any M _ w16.heap.size 1 w16 (Nat.le_refl _) HO7.out.rowAll HMG.out (by have := HLR.out; omega) (by omega) (by omega)).mono ?_
  rintro e w17 ⟨rfl, b17⟩
  replace HB := Hid.intro (HB.out.kept b17 HB.out.sz)
  clear b17
  rw [HK3.out]
  go_wp2_with fail
  go_ret
  exact ⟨rfl, HB.out.bel⟩
end Go.Proofs.Ytkilepoimocoeaa
