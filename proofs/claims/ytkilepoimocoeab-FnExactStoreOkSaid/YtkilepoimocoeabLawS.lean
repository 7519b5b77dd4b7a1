/- The laws' helpers over stores: how great, copies, equal, marks. -/
import Derived.Test.YtkilepoimocoeabMarkR
import Derived.Test.YtkilepoimocoeabBlk
import Derived.Test.YtkilepoimocoeabHeldI
namespace Go.Proofs.Ytkilepoimocoeab
open Go.RowKit
set_option linter.unusedVariables false
/-- A store that was just made. -/
structure NewS (w w' : World) (v u : Value) (S : Sto) : Prop where
  e : OwnE w' w.heap.size v S.k.e
  r : OwnR w' w.heap.size u S.l
  dis : ∀ k, v.ownBlock = some k → ¬ u.ownBlock = some k
  bel : Below w.heap.size w w'
set_option maxHeartbeats 2000000 in
theorem szStore_any (S : Sto) (v u : Value) (N : Nat) (left : Int) (w : World) (hN : N ≤ w.heap.size) (hs : S.k.sd.size ≤ 9223372036854775807) (hr : RowE w N v S.k.e) (hz : ∀ e ∈ S.k.e, e.d.size ≤ 9223372036854775807) (hu : RowR w N u S.l) (hy : ∀ e ∈ S.l, e.d.size ≤ 9223372036854775807) (h0 : 0 ≤ left) (h1 : left ≤ 1048576) :
    Calls Try.prog 9 #[stV S v u, .int .i64 left] w fun e w' => (∃ n, e = .returned (.int .i64 n) ∧ SzP left n S.k.e.length ∧ SzP left n S.l.length) ∧ Below w.heap.size w w' := by
  have HR := Hid.intro hr
  have HZ := Hid.intro hz
  have HU := Hid.intro hu
  have HY := Hid.intro hy
  clear hr hz hu hy
  go_enter Try.func9, Try.ntmps9
  go_wp2_with fail
  obtain ⟨W, hW, bW, zW, c1, f1⟩ := boxed w #[.int .i64 S.k.t, .int .i64 S.k.v, .int .i64 S.k.si, .int .i64 S.k.st, .string S.k.sd, v, u] 29
  simp only [hW]
  refine (szKept_any S.k v N _ _ (by omega) hs (HR.out.kept (bW.mono hN)) HZ.out h0 h1).mono ?_
  rintro e w1 ⟨⟨n, rfl, hn⟩, b1⟩
  replace c1 := keepC b1 (by omega) c1
  have z1 := b1.size
  have B1 := bW.trans (b1.mono (by omega))
  have hz1 : w.heap.size < w1.heap.size := by omega
  obtain ⟨n1, n2, n3⟩ := hn
  have N3 := Hid.intro n3
  clear hW bW zW b1 n3 f1 z1
  by_cases hneg : n < 0
  · go_wp2
    go_ret
    exact ⟨⟨_, rfl, by unfold SzP; omega, by unfold SzP; omega⟩, B1⟩
  · go_wp2_with fail
    refine (szRecS_any S.l u N n _ (by omega) (HU.out.kept (B1.mono hN)) HY.out (by omega) (by omega)).mono ?_
    rintro e w2 ⟨⟨m, rfl, hm⟩, b2⟩
    obtain ⟨m1, m2, m3⟩ := hm
    have B2 := B1.trans (b2.mono (by omega))
    clear c1 b2
    by_cases hneg2 : m < 0
    · clear m3
      go_wp2
      go_ret
      exact ⟨⟨_, rfl, by unfold SzP; omega, by unfold SzP; omega⟩, B2⟩
    · have m4 := m3 (by omega)
      have n4 := N3.out (by omega)
      clear m3
      go_wp2
      go_ret
      exact ⟨⟨_, rfl, by unfold SzP; omega, by unfold SzP; omega⟩, B2⟩
set_option maxRecDepth 100000 in
set_option maxHeartbeats 2000000 in
theorem toStore_any (S : Sto) (v u : Value) (N : Nat) (w : World) (hN : N ≤ w.heap.size) (hr : RowE w N v S.k.e) (hu : RowR w N u S.l) (hl : S.k.e.length ≤ 1048576) (hl2 : S.l.length ≤ 1048576) :
    Calls Try.prog 11 #[stV S v u] w fun e w' => ∃ v' u', e = .returned (stV S v' u') ∧ NewS w w' v' u' S := by
  have HR := Hid.intro hr
  have HU := Hid.intro hu
  clear hr hu
  go_enter Try.func11, Try.ntmps11
  go_wp2_with fail
  obtain ⟨W, hW, bW, zW, c1, f1, c2, f2, c3, f3⟩ := boxed3 w #[.int .i64 S.k.t, .int .i64 S.k.v, .int .i64 S.k.si, .int .i64 S.k.st, .string S.k.sd, v, u] #[.int .i64 0, .int .i64 0, .int .i64 0, .int .i64 0, .string ⟨#[]⟩, .slice none 0 0, .slice none 0 0] #[.int .i64 0, .int .i64 0, .int .i64 0, .int .i64 0, .string ⟨#[]⟩, .slice none 0 0, .slice none 0 0] 29 38 38
  simp only [hW]
  have H2 := Hid.intro (show Blk W (w.heap.size + 1) #[.int .i64 0, .int .i64 0, .int .i64 0, .int .i64 0, .string ⟨#[]⟩, .slice none 0 0, .slice none 0 0] from ⟨by omega, c2, f2⟩)
  have H3 := Hid.intro (show Blk W (w.heap.size + 1 + 1) #[.int .i64 0, .int .i64 0, .int .i64 0, .int .i64 0, .string ⟨#[]⟩, .slice none 0 0, .slice none 0 0] from ⟨by omega, c3, f3⟩)
  refine (toKept_any S.k v N W (by omega) (HR.out.kept (bW.mono hN)) hl).mono ?_
  rintro e w1 ⟨v1, rfl, o1, b1⟩
  obtain ⟨a1, cap1, rfl⟩ := o1.slice
  replace c1 := keepC b1 (by omega) c1
  replace H2 := Hid.intro (H2.out.kept b1)
  replace H3 := Hid.intro (H3.out.kept b1)
  have B1 := bW.trans (b1.mono (by omega))
  have hz1 := b1.size
  have HO1 := Hid.intro o1
  have hz2 : w.heap.size + 1 + 1 < w1.heap.size := H3.out.hi
  clear hW c2 f2 c3 f3 f1 o1 b1 bW
  have c3 := H3.out.cell
  have f3 := H3.out.fro
  go_wp2_with fail
  obtain ⟨X, hX, hX3, oX, zX⟩ := H3.out.six (.int .i64 S.k.t) (.int .i64 S.k.v) (.int .i64 S.k.si) (.int .i64 S.k.st) (.string S.k.sd) (.slice a1 S.k.e.length cap1)
  simp only [hX]
  have HX3 := Hid.intro hX3
  replace H2 := Hid.intro (H2.out.only oX (by omega))
  have HO2 := Hid.intro (HO1.out.only oX (fun k hk h => by have := (HO1.out.lt k hk).1; omega))
  have B2 : Below w.heap.size w X := B1.trans (oX.below (by omega) (fun k hk h => by omega))
  clear hX hX3 oX c3 f3 H3 HO1 B1 c1
  refine (toRecS_any S.l u N X (by omega) (HU.out.kept (B2.mono hN)) hl2).mono ?_
  rintro e w2 ⟨u2, rfl, o2, b2⟩
  obtain ⟨au, capu, rfl⟩ := o2.slice
  replace H2 := Hid.intro (H2.out.kept b2)
  replace HX3 := Hid.intro (HX3.out.kept b2)
  have HD : Hid (∀ k, (Value.slice a1 S.k.e.length cap1).ownBlock = some k → ¬ (Value.slice au S.l.length capu).ownBlock = some k) := fun k hk h => by
    have := (HO2.out.lt k hk).2
    have := (o2.lt k h).1
    omega
  have HE1 : Hid (∀ k, (Value.slice a1 S.k.e.length cap1).ownBlock = some k → w.heap.size + 1 + 1 < k) := fun k hk => by have := (HO2.out.lt k hk).1; omega
  have HE2 : Hid (∀ k, (Value.slice au S.l.length capu).ownBlock = some k → w.heap.size + 1 + 1 < k) := fun k hk => by have := (o2.lt k hk).1; omega
  have HO3 := Hid.intro (HO2.out.kept b2)
  have HP := Hid.intro o2
  have HB := Hid.intro (B2.trans (b2.mono B2.size))
  have z2 := H2.out.hi
  have z3 := HX3.out.hi
  have c2 := H2.out.cell
  have f2 := H2.out.fro
  have c3 := HX3.out.cell
  have f3 := HX3.out.fro
  clear o2 b2 B2 HO2 H2 HX3
  go_wp2
  refine bodyPost_ret (v := stV S (.slice a1 S.k.e.length cap1) (.slice au S.l.length capu)) (by simp [results, Try.results11, go_sem, c2]) rfl ⟨_, _, rfl, ?_, ?_, HD.out, ?_⟩
  · refine OwnE.lower (OwnE.only HO3.out (S := fun k => k = w.heap.size + 1 ∨ k = w.heap.size + 1 + 1) ?_ (fun k hk h => by have := HE1.out k hk; omega)) (show w.heap.size ≤ W.heap.size by omega)
    repeat (refine Only.setCell ?_ (by simp) _)
    exact Only.refl _ _
  · refine OwnR.lower (OwnR.only HP.out (S := fun k => k = w.heap.size + 1 ∨ k = w.heap.size + 1 + 1) ?_ (fun k hk h => by have := HE2.out k hk; omega)) (show w.heap.size ≤ X.heap.size by omega)
    repeat (refine Only.setCell ?_ (by simp) _)
    exact Only.refl _ _
  · repeat (refine Below.setCell ?_ (by simp <;> omega) _)
    exact HB.out
set_option maxRecDepth 100000 in
set_option maxHeartbeats 2000000 in
theorem eqStore_any (S : Sto) (v1 v2 u1 u2 : Value) (N : Nat) (w : World) (hN : N ≤ w.heap.size) (h1 : RowE w N v1 S.k.e) (h2 : RowE w N v2 S.k.e) (g1 : RowR w N u1 S.l) (g2 : RowR w N u2 S.l) :
    Calls Try.prog 13 #[stV S v1 u1, stV S v2 u2] w fun e w' => e = .returned (.bool true) ∧ Below w.heap.size w w' := by
  have H1 := Hid.intro h1
  have H2 := Hid.intro h2
  have G1 := Hid.intro g1
  have G2 := Hid.intro g2
  clear h1 h2 g1 g2
  go_enter Try.func13, Try.ntmps13
  go_wp2_with fail
  obtain ⟨W, hW, bW, zW, c1, f1, c2, f2⟩ := boxed2 w #[.int .i64 S.k.t, .int .i64 S.k.v, .int .i64 S.k.si, .int .i64 S.k.st, .string S.k.sd, v1, u1] #[.int .i64 S.k.t, .int .i64 S.k.v, .int .i64 S.k.si, .int .i64 S.k.st, .string S.k.sd, v2, u2] 38 38
  simp only [hW]
  refine (eqKept_any S.k v1 v2 N W (by omega) (H1.out.kept (bW.mono hN)) (H2.out.kept (bW.mono hN))).mono ?_
  rintro e w1 ⟨rfl, b1⟩
  replace c1 := keepC b1 (by omega) c1
  replace c2 := keepC b1 (by omega) c2
  have z1 := b1.size
  have B1 := bW.trans (b1.mono (by omega))
  have hz1 : w.heap.size + 1 < w1.heap.size := by omega
  clear hW bW zW b1 f1 f2
  go_wp2_with fail
  refine (eqRecS_any S.l u1 u2 N w1 (by omega) (G1.out.kept (B1.mono hN)) (G2.out.kept (B1.mono hN))).mono ?_
  rintro e w2 ⟨rfl, b2⟩
  clear c1 c2
  go_wp2
  go_ret
  exact ⟨rfl, B1.trans (b2.mono (by omega))⟩
set_option maxRecDepth 100000 in
set_option maxHeartbeats 2000000 in
theorem markStore_any (S : Sto) (v u : Value) (base : Nat) (q : Int) (w : World) (hb : base ≤ w.heap.size) (ho : OwnE w base v S.k.e) (hp : OwnR w base u S.l) (hd : ∀ k, v.ownBlock = some k → ¬ u.ownBlock = some k) (hl : S.k.e.length ≤ 2000000) (hl2 : S.l.length ≤ 2000000) (h1 : 1 ≤ q) (h2 : q ≤ 10000000) :
    Calls Try.prog 16 #[stV S v u, .int .i64 q] w fun e w' => e = .returned (.int .i64 (q + 2 * (S.k.e.length : Nat) + 5 * (S.l.length : Nat))) ∧ OwnE w' base v (markEL q S.k.e S.k.e.length) ∧ OwnR w' base u (markRL (q + 2 * (S.k.e.length : Nat)) S.l S.l.length) ∧ Only (fun k => some k = v.ownBlock ∨ some k = u.ownBlock) w w' := by
  have HO := Hid.intro ho
  have HP := Hid.intro hp
  have HD := Hid.intro hd
  clear ho hp hd
  go_enter Try.func16, Try.ntmps16
  go_wp2_with fail
  obtain ⟨W, hW, bW, zW, c1, f1⟩ := boxed w #[.int .i64 S.k.t, .int .i64 S.k.v, .int .i64 S.k.si, .int .i64 S.k.st, .string S.k.sd, v, u] 38
  simp only [hW]
  refine (markKept_any S.k v base q W (by omega) (HO.out.kept bW) hl h1 (by omega)).mono ?_
  rintro e w1 ⟨rfl, o1, q1⟩
  have hne : ¬ some w.heap.size = v.ownBlock := fun h => by have := (HO.out.lt _ h.symm).2; omega
  replace c1 : ∀ o, w1.cell? ⟨w.heap.size, o, none⟩ = #[.int .i64 S.k.t, .int .i64 S.k.v, .int .i64 S.k.si, .int .i64 S.k.st, .string S.k.sd, v, u][o]? := fun o => (q1.cell (by omega) hne).trans (c1 o)
  have z1 := q1.size
  have hz1 : w.heap.size < w1.heap.size := by omega
  have HO1 := Hid.intro o1
  have HP1 := Hid.intro ((HP.out.kept bW).only q1 (fun k hk h => HD.out k h.symm hk))
  have HQ1 : Hid (Only (fun k => some k = v.ownBlock ∨ some k = u.ownBlock) w w1) := (Below.any bW).trans (q1.mono (fun k _ h => .inl h))
  obtain ⟨qq, hqq⟩ : ∃ qq : Int, q + 2 * ((S.k.e.length : Nat) : Int) = qq := ⟨_, rfl⟩
  have hq1 : 1 ≤ qq := by omega
  have hq2 : qq ≤ 100000000 := by omega
  simp only [hqq]
  have HQQ := Hid.intro hqq
  clear hW bW zW f1 o1 q1 HO HP hqq
  go_wp2_with fail
  refine (markRecS_any S.l u base qq w1 (by omega) HP1.out hl2 hq1 hq2).mono ?_
  rintro e w2 ⟨rfl, o2, q2⟩
  have HO2 := Hid.intro (HO1.out.only q2 (fun k hk h => HD.out k hk h.symm))
  have HP2 := Hid.intro o2
  have HQ2 := Hid.intro (HQ1.out.trans (q2.mono (fun k _ h => .inr h)))
  clear c1 o2 q2
  go_wp2
  go_ret
  have hqq := HQQ.out
  subst hqq
  exact ⟨rfl, HO2.out, HP2.out, HQ2.out⟩
set_option maxRecDepth 100000 in
set_option maxHeartbeats 2000000 in
theorem heldStore_any (S : Sto) (M : List En) (R : List Rc) (v u : Value) (N : Nat) (q : Int) (w : World) (hN : N ≤ w.heap.size) (hr : RowE w N v M) (hM : ∀ i (h : i < M.length), M[i] = mkE q i) (hu : RowR w N u R) (hR : ∀ i (h : i < R.length), R[i] = mkR (q + 2 * (M.length : Nat)) i) (hl : M.length ≤ 2000000) (hl2 : R.length ≤ 2000000) (h1 : 1 ≤ q) (h2 : q ≤ 10000000) :
    Calls Try.prog 17 #[stV S v u, .int .i64 q] w fun e w' => e = .returned (.int .i64 (q + 2 * (M.length : Nat) + 5 * (R.length : Nat))) ∧ Below w.heap.size w w' := by
  have HR := Hid.intro hr
  have HM := Hid.intro hM
  have HU := Hid.intro hu
  clear hr hM hu
  go_enter Try.func17, Try.ntmps17
  go_wp2_with fail
  obtain ⟨W, hW, bW, zW, c1, f1⟩ := boxed w #[.int .i64 S.k.t, .int .i64 S.k.v, .int .i64 S.k.si, .int .i64 S.k.st, .string S.k.sd, v, u] 38
  simp only [hW]
  refine (heldKept_any S.k M v N q W (by omega) (HR.out.kept (bW.mono hN)) HM.out hl h1 (by omega)).mono ?_
  rintro e w1 ⟨rfl, b1⟩
  replace c1 := keepC b1 (by omega) c1
  have z1 := b1.size
  have B1 := bW.trans (b1.mono (by omega))
  have hz1 : w.heap.size < w1.heap.size := by omega
  obtain ⟨qq, hqq⟩ : ∃ qq : Int, q + 2 * ((M.length : Nat) : Int) = qq := ⟨_, rfl⟩
  have hq1 : 1 ≤ qq := by omega
  have hq2 : qq ≤ 100000000 := by omega
  simp only [hqq] at hR
  rw [hqq]
  have HRR := Hid.intro hR
  have HQQ := Hid.intro hqq
  clear hW bW zW f1 b1 hqq hR
  go_wp2_with fail
  refine (heldRecS_any R u N qq w1 (by omega) (HU.out.kept (B1.mono hN)) HRR.out hl2 hq1 hq2).mono ?_
  rintro e w2 ⟨rfl, b2⟩
  have HB := Hid.intro (B1.trans (b2.mono (by omega)))
  obtain ⟨rr, hrr, hr0⟩ : ∃ rr : Int, qq + 5 * ((R.length : Nat) : Int) = rr ∧ 0 ≤ rr := ⟨_, rfl, by omega⟩
  simp only [hrr]
  have HRE := Hid.intro hrr
  clear c1 b2 B1 hrr
  go_wp2
  go_ret
  have hrr := HRE.out
  subst hrr
  have hqq := HQQ.out
  subst hqq
  exact ⟨rfl, HB.out⟩
end Go.Proofs.Ytkilepoimocoeab
