/- after: what records come to, in a copy. -/
import Derived.Test.YtkilepoimocoeaaTake2
namespace Go.Proofs.Ytkilepoimocoeaa
open Go.RowKit
set_option linter.unusedVariables false
def afterK (K : Kp) (l : List Rc) : Kp := (foldK K l).getD kpZ
def afterB (K : Kp) (l : List Rc) : Bool := (foldK K l).isSome
theorem afterK_some {K K' : Kp} {l : List Rc} (h : foldK K l = some K') : afterK K l = K' := by simp [afterK, h]
theorem afterB_some {K K' : Kp} {l : List Rc} (h : foldK K l = some K') : afterB K l = true := by simp [afterB, h]
theorem afterK_none {K : Kp} {l : List Rc} (h : foldK K l = none) : afterK K l = kpZ := by simp [afterK, h]
theorem afterB_none {K : Kp} {l : List Rc} (h : foldK K l = none) : afterB K l = false := by simp [afterB, h]
theorem foldK_at {K K' : Kp} {l : List Rc} {j : Nat} (h : j < l.length) (hf : foldK K (l.take j) = some K') (hg : goB K' l[j] = true) : foldK K (l.take (j + 1)) = some (stepK K' l[j]) := by
  rw [List.take_succ_eq_append_getElem h, foldK_snoc, hf]
  simp [hg]
theorem foldK_stop {K K' : Kp} {l : List Rc} {j : Nat} (h : j < l.length) (hf : foldK K (l.take j) = some K') (hg : goB K' l[j] = false) : foldK K l = none := by
  have e : l = l.take j ++ l[j] :: l.drop (j + 1) := by rw [← List.drop_eq_getElem_cons h, List.take_append_drop]
  rw [e]
  exact foldK_none hf hg
set_option maxRecDepth 100000 in
set_option maxHeartbeats 4000000 in
theorem after_any (K : Kp) (v : Value) (N : Nat) (l : List Rc) (u : Value) (w : World) (hN : N ≤ w.heap.size) (hr : RowE w N v K.e) (hu : RowR w N u l) (hs : Sm K) (hl : l.length ≤ 1048576) :
    Calls Try.prog 52 #[kpV K v, u] w fun e w' => ∃ v', e = .returned (.tuple #[kpV (afterK K l) v', .bool (afterB K l)]) ∧ NewE w w' v' (afterK K l).e := by
  have HR := Hid.intro hr
  have hle : K.e.length ≤ 60 := hs.2.2
  have HS := Hid.intro hs
  obtain ⟨a, cap, rfl, lc, hm, hcells⟩ := hu
  have HU := Hid.intro hcells
  clear hr hs hcells
  go_enter Try.func52, Try.ntmps52
  go_wp2_with fail
  obtain ⟨W, hW, bW, zW, c1, f1, c2, f2⟩ := boxed2 w #[.int .i64 K.t, .int .i64 K.v, .int .i64 K.si, .int .i64 K.st, .string K.sd, v] #[.int .i64 0, .int .i64 0, .int .i64 0, .int .i64 0, .string ⟨#[]⟩, .slice none 0 0] 28 28
  simp only [hW]
  refine (copied_any K v N W (by omega) (HR.out.kept (bW.mono hN)) (by omega)).mono ?_
  rintro e w1 ⟨v1, rfl, o1, b1⟩
  obtain ⟨a1, cap1, rfl⟩ := o1.slice
  replace c2 := keepC b1 (by omega) c2
  replace f2 := keepF b1 (by omega) f2
  have z1 := b1.size
  have B1 := bW.trans (b1.mono (by omega))
  have hz1 : w.heap.size + 1 < w1.heap.size := by omega
  have HO1 : Hid (OwnE w1 (w.heap.size + 1 + 1) (.slice a1 K.e.length cap1) K.e) := by
    have := o1
    rw [zW] at this
    exact this
  clear hW bW zW c1 f1 b1 z1 o1
  go_wp2
  obtain ⟨X, hX, bX, zX, cX, fX⟩ := boxed w1 #[.int .i64 K.t, .int .i64 K.v, .int .i64 K.si, .int .i64 K.st, .string K.sd, .slice a1 K.e.length cap1] 28
  simp only [hX]
  have HKX : Hid (KOwn X w1.heap.size (w.heap.size + 1 + 1) K (.slice a1 K.e.length cap1)) :=
    ⟨⟨by omega, by rw [cX]; rfl, by rw [cX]; rfl, by rw [cX]; rfl, by rw [cX]; rfl, by rw [cX]; rfl, by rw [cX]; rfl, fX⟩, HO1.out.kept bX, fun k hk e => by have := (HO1.out.lt k hk).2; omega⟩
  replace c2 := keepC bX hz1 c2
  replace f2 := keepF bX hz1 f2
  have BX := B1.trans (bX.mono (by omega))
  have hzX : w.heap.size + 1 < X.heap.size := by omega
  have hkX : w1.heap.size < X.heap.size := by omega
  clear hX bX zX cX fX HO1 B1
  go_loopw [13] (fun i wr => ∃ (j : Nat) (K' : Kp) (v' : Value), i = .int .i64 j ∧ j ≤ l.length ∧ Hid (foldK K (l.take j) = some K') ∧ Hid (KOwn wr w1.heap.size (w.heap.size + 1 + 1) K' v') ∧ Below (w.heap.size + 1 + 1) X wr) (fun i _ => l.length - (intOf i).toNat)
  case atStart => exact ⟨0, K, _, rfl, Nat.zero_le _, by unfold Hid; simp [foldK], HKX, Below.refl _ _⟩
  case round =>
    obtain ⟨j, K', v', rfl, hj, HF, HK, hbel⟩ := hrel
    have hs2 := hbel.size
    by_cases hlt : j < l.length
    · obtain ⟨b, off, rfl, hbN, hcc⟩ := HU.out (by intro h; rw [h] at hlt; simp at hlt)
      obtain ⟨p0, p1, p2, p3, p4⟩ := hcc j hlt
      have hat := @foldK_at K K' l j hlt HF.out
      have hst := @foldK_stop K K' l j hlt HF.out
      generalize l[j] = r at p0 p1 p2 p3 p4 hat hst
      have HAT := Hid.intro hat
      have HST := Hid.intro hst
      have HBW : Hid (Below w.heap.size w wr) := BX.trans (hbel.mono (by omega))
      have g0 := atCell HBW.out p0 (by omega)
      have g1 := atCell HBW.out p1 (by omega)
      have g2 := atCell HBW.out p2 (by omega)
      have g3 := atCell HBW.out p3 (by omega)
      have g4 := atCell HBW.out p4 (by omega)
      have d2 := keepC hbel (by omega) c2
      have h2 := keepF hbel (by omega) f2
      have hzr : w.heap.size + 1 < wr.heap.size := by omega
      have hsm : Sm K' := HS.out.fold HF.out
      have HSM := Hid.intro hsm
      clear hcc p0 p1 p2 p3 p4 hat hst c2 f2 hsm
      go_wp2_with fail
      obtain ⟨Y, hY, bY, zY, cY, fY⟩ := boxed wr #[.int .i64 r.k, .int .i64 r.t, .int .i64 r.i, .int .i64 r.v, .string r.d] 43
      simp only [hY]
      replace d2 := keepC bY hzr d2
      replace h2 := keepF bY hzr h2
      have HBY : Hid (Below (w.heap.size + 1 + 1) X Y) := hbel.trans (bY.mono (by omega))
      have hzY : w.heap.size + 1 < Y.heap.size := by omega
      have hbase : w.heap.size + 1 + 1 ≤ Y.heap.size := by omega
      have HKY : Hid (KOwn Y w1.heap.size (w.heap.size + 1 + 1) K' v') := HK.out.stay bY
      clear hY bY zY cY fY g0 g1 g2 g3 g4 HK
      refine (take_any K' v' w1.heap.size (w.heap.size + 1 + 1) r Y hbase HKY.out HSM.out).mono ?_
      rintro e w4 ⟨rfl, v4, hk4, hl4, ht4⟩
      have hS : ¬ (w.heap.size + 1 = w1.heap.size ∨ some (w.heap.size + 1) = v'.ownBlock) := by
        rintro (h | h)
        · omega
        · have := (HKY.out.2.1.lt _ h.symm).1; omega
      have q2 : ∀ o, w4.cell? ⟨w.heap.size + 1, o, none⟩ = #[.int .i64 0, .int .i64 0, .int .i64 0, .int .i64 0, .string ⟨#[]⟩, .slice none 0 0][o]? := fun o => (ht4.only.cell hzY hS).trans (d2 o)
      have m2 : ∀ o, w4.frozen? ⟨w.heap.size + 1, o, none⟩ = false := fun o => (ht4.only.frozen hzY hS).trans (h2 o)
      have hz4 : w.heap.size + 1 < w4.heap.size := Nat.lt_of_lt_of_le hzY ht4.only.size
      have HB4 : Hid (Below (w.heap.size + 1 + 1) X w4) := HBY.out.trans (ht4.only.below hbase (fun k hk h => by
        rcases h with h | h
        · omega
        · have := (HKY.out.2.1.lt _ h.symm).1; omega))
      have HK4 := Hid.intro hk4
      clear d2 h2 hS hk4 hl4 ht4 HKY
      cases hgo : goB K' r with
      | true =>
        go_wp2
        go_roundw
        case rel => exact ⟨j + 1, stepK K' r, v4, by go_num, by omega, HAT.out hgo, by have := HK4.out; rw [nextK_yes hgo] at this; exact this, HB4.out⟩
        case measure => simp [intOf]; omega
      | false =>
        have HN := Hid.intro (HST.out hgo)
        go_wp2
        refine bodyPost_ret (v := .tuple #[kpV kpZ (.slice none 0 0), .bool false]) (by simp [results, Try.results52, go_sem, q2, kpZ]) rfl ⟨_, by rw [afterK_none HN.out, afterB_none HN.out], ?_, ?_⟩
        · rw [afterK_none HN.out]
          exact OwnE.nil _ _
        · repeat (refine Below.setCell ?_ (by simp <;> omega) _)
          exact BX.trans (HB4.out.mono (by omega))
    · obtain rfl : j = l.length := by omega
      have hfl : foldK K l = some K' := by have := HF.out; rwa [List.take_of_length_le (Nat.le_refl _)] at this
      have HFL := Hid.intro hfl
      obtain ⟨a', cap', rfl⟩ := HK.out.2.1.slice
      obtain ⟨x9, y0, y1, y2, y3, y4, y5, yf⟩ := HK.out.1
      have d2 := keepC hbel (by omega) c2
      have g2 := keepF hbel (by omega) f2
      have hzr : w.heap.size + 1 < wr.heap.size := by omega
      clear c2 f2 hfl
      go_wp2
      refine bodyPost_ret (v := .tuple #[kpV K' (.slice a' K'.e.length cap'), .bool true]) (by simp [results, Try.results52, go_sem, d2]) rfl ⟨_, by rw [afterK_some HFL.out, afterB_some HFL.out], ?_, ?_⟩
      · rw [afterK_some HFL.out]
        refine OwnE.lower (OwnE.only HK.out.2.1 (S := fun k => k = w.heap.size + 1) ?_ (fun k hk h => by have := (HK.out.2.1.lt k hk).1; omega)) (show w.heap.size ≤ w.heap.size + 1 + 1 by omega)
        repeat (refine Only.setCell ?_ (by simp) _)
        exact Only.refl _ _
      · repeat (refine Below.setCell ?_ (by simp <;> omega) _)
        exact BX.trans (hbel.mono (by omega))
end Go.Proofs.Ytkilepoimocoeaa
