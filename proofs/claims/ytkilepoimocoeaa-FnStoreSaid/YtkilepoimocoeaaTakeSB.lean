/- takeSnap. -/
import Derived.Test.YtkilepoimocoeaaTakeS
namespace Go.Proofs.Ytkilepoimocoeaa
open Go.RowKit
set_option linter.unusedVariables false
set_option maxRecDepth 100000 in
set_option maxHeartbeats 8000000 in
theorem takeSnap_same (K : Kp) (a : Option Addr) (cap kb : Nat) (i t : Int) (b off n : Nat) (d : ByteArray) (w : World) (hk : KAt w kb K (.slice a K.e.length cap)) (hs : Sm K) (hi : K.si < i ∧ i ≤ 100000) (ht : t ≤ K.t) (ha : a = some ⟨b, off, none⟩) (hbw : b < w.heap.size) (hn : i = K.si + (n + 1)) (hnl : n < K.e.length) (c0 : w.cell? ⟨b, off + n * 2, none⟩ = some (.int .i64 t)) (N : Nat) (hN : N ≤ w.heap.size) (hr : RowE w N (.slice a K.e.length cap) K.e) (M : List En) (hM : M = K.e.drop (n + 1)) :
    Calls Try.prog 83 #[.pointer (some ⟨kb, 0, none⟩), .agg #[.int .i64 i, .int .i64 t, .string d]] w fun e w' => ∃ v', e = .returned (.bool true) ∧ KAt w' kb { K with si := i, st := t, sd := d, e := M } v' ∧ OwnE w' w.heap.size v' (M) ∧ Took kb (.slice a K.e.length cap) w w' := by
  have HK := Hid.intro hk
  have HS := Hid.intro hs
  obtain ⟨klt, k0, k1, k2, k3, k4, k5, kf⟩ := hk
  obtain ⟨s1, s2, s3⟩ := hs
  obtain ⟨i1, i2⟩ := hi
  have hne : ¬ kb = w.heap.size := by omega
  have h2 : decide (i ≤ K.si) = false := decide_eq_false (by omega)
  have h3 : decide (K.t < t) = false := decide_eq_false (by omega)
  have h4 : ¬ K.t < t := by omega
  have h5 : ¬ i ≤ K.si := by omega
  subst ha
  have HR := Hid.intro hr
  have HM := Hid.intro hM
  obtain ⟨a', cap', hv, q1', q2', q3'⟩ := hr
  simp only [Value.slice.injEq, true_and] at hv
  obtain ⟨rfl, rfl⟩ := hv
  clear q3' hM
  have e1 : i - K.si = (n : Int) + 1 := by omega
  have e2 : IntKind.i64.wrap ((n : Int) + 1) = (n : Int) + 1 := wraps_i64 _ (by omega) (by omega)
  have e3 : IntKind.i64.wrap ((n : Int) + 1 - 1) = (n : Int) := by rw [show (n : Int) + 1 - 1 = n by omega]; exact wraps_i64 _ (by omega) (by omega)
  have e4 : IntKind.i64.wrap ((n : Int)) = (n : Int) := wraps_i64 _ (by omega) (by omega)
  have e5 : (0 : Int) ≤ (n : Int) ∧ (n : Int) < (K.e.length : Int) := by omega
  have e6 : (n : Int) < (K.e.length : Int) := by omega
  have hin : inB i (K.si + 1) (K.si + K.e.length) = true := inB_true (by omega)
  clear hn
  go_enter Try.func83, Try.ntmps83
  go_wp2
  obtain ⟨W, hW, bW, zW, cW, fW⟩ := boxed w #[.int .i64 i, .int .i64 t, .string d] 91
  simp only [hW]
  have j0 := atCell bW k0 klt
  have j2 := atCell bW k2 klt
  have HC : Hid (∀ w', Below W.heap.size W w' → SN K (.slice (some ⟨b, off, none⟩) K.e.length cap) kb w.heap.size b (off + n * 2) i t t w') :=
    fun w' hb => by
      have q := (HK.out.below bW klt).below hb (by omega)
      exact ⟨q.c0, q.c1, q.c2, q.c3, q.c4, q.c5, atCell hb (by rw [cW]; rfl) (by omega), atCell hb (by rw [cW]; rfl) (by omega), atCell hb (atCell bW c0 hbw) (by omega)⟩
  have HB : Hid (∀ w', Below W.heap.size W w' → Below w.heap.size w w' ∧ w.heap.size < w'.heap.size ∧ (∀ o, w'.cell? ⟨w.heap.size, o, none⟩ = #[.int .i64 i, .int .i64 t, .string d][o]?)) := fun w' hb => ⟨bW.trans (hb.mono (by omega)), by have := hb.size; omega, keepC hb (by omega) cW⟩
  clear hW k0 k1 k2 k3 k4 k5 kf zW bW
  go_quiet (fail)
  go_wp2
  go_quiet (fail)
  go_wp2
  refine wp_region_held_drew (S := SN K (.slice (some ⟨b, off, none⟩) K.e.length cap) kb w.heap.size b (off + n * 2) i t t) (by kernel_rfl) (HC.out _ ((drewN_below _ _ _).trans (drewN_below _ _ _)).drew) (fun hHeld => ?_)
  refine take1 (i := 0) (d := some 34) (v := ?_) rfl rfl (by kernel_rfl) (by kernel_rfl) (by kernel_rfl) (fun _ _ _ h => h) (Or.inl ⟨by rfl, ?_⟩) (by assumption) ?_
  rotate_left 1
  · intro w hSw
    obtain ⟨q0, q1, q2, q3, q4, q5, q6, q7, q8⟩ := hSw
    go_simp <;> with_reducible rfl
  simp only [Act.put, List.setIfInBounds_toArray]
  try simp only [List.set_cons_succ]
  try simp only [List.set_cons_zero]
  refine take1 (i := 1) (d := some 35) (v := ?_) rfl rfl (by kernel_rfl) (by kernel_rfl) (by kernel_rfl) (fun _ _ _ h => h) (Or.inl ⟨by rfl, ?_⟩) (by assumption) ?_
  rotate_left 1
  · intro w hSw
    obtain ⟨q0, q1, q2, q3, q4, q5, q6, q7, q8⟩ := hSw
    go_simp <;> with_reducible rfl
  simp only [Act.put, List.setIfInBounds_toArray]
  try simp only [List.set_cons_succ]
  try simp only [List.set_cons_zero]
  refine take1 (i := 2) (d := some 36) (v := ?_) rfl rfl (by kernel_rfl) (by kernel_rfl) (by kernel_rfl) (fun _ _ _ h => h) (Or.inl ⟨by rfl, ?_⟩) (by assumption) ?_
  rotate_left 1
  · intro w hSw
    obtain ⟨q0, q1, q2, q3, q4, q5, q6, q7, q8⟩ := hSw
    go_simp <;> with_reducible rfl
  simp only [Act.put, List.setIfInBounds_toArray]
  try simp only [List.set_cons_succ]
  try simp only [List.set_cons_zero]
  refine take1 (i := 3) (d := some 37) (v := ?_) rfl rfl (by kernel_rfl) (by kernel_rfl) (by kernel_rfl) (fun _ _ _ h => h) (Or.inl ⟨by rfl, ?_⟩) (by assumption) ?_
  rotate_left 1
  · intro w hSw
    obtain ⟨q0, q1, q2, q3, q4, q5, q6, q7, q8⟩ := hSw
    go_simp <;> with_reducible rfl
  simp only [Act.put, List.setIfInBounds_toArray]
  try simp only [List.set_cons_succ]
  try simp only [List.set_cons_zero]
  refine take1 (i := 4) (d := some 38) (v := ?_) rfl rfl (by kernel_rfl) (by kernel_rfl) (by kernel_rfl) (fun _ _ _ h => h) (Or.inl ⟨by rfl, ?_⟩) (by assumption) ?_
  rotate_left 1
  · intro w hSw
    obtain ⟨q0, q1, q2, q3, q4, q5, q6, q7, q8⟩ := hSw
    go_simp <;> with_reducible rfl
  simp only [Act.put, List.setIfInBounds_toArray]
  try simp only [List.set_cons_succ]
  try simp only [List.set_cons_zero]
  refine take1 (i := 5) (d := some 39) (v := ?_) rfl rfl (by kernel_rfl) (by kernel_rfl) (by kernel_rfl) (fun _ _ _ h => h) (Or.inl ⟨by rfl, ?_⟩) (by assumption) ?_
  rotate_left 1
  · intro w hSw
    obtain ⟨q0, q1, q2, q3, q4, q5, q6, q7, q8⟩ := hSw
    go_simp <;> with_reducible rfl
  simp only [Act.put, List.setIfInBounds_toArray]
  try simp only [List.set_cons_succ]
  try simp only [List.set_cons_zero]
  refine wpAnyH_ready (rs := [6]) (by kernel_rfl) (by simp) ?_
  refine AllReadyH.cons rfl (fun KK hKK => ?_) AllReadyH.nil
  go_simp
  refine (has_any K _ _ _ _ _ rfl HS.out).mono ?_
  rintro e w2 ⟨rfl, b2⟩
  have BW : Below W.heap.size W w2 := (drewN_below _ _ _).trans b2
  go_simp
  refine hKK.out _ _ (HC.out _ BW) (fun hHeld2 => ?_)
  clear hKK KK hHeld
  have hHeld := hHeld2
  clear hHeld2
  refine take1 (i := 7) (d := some 41) (v := ?_) rfl rfl (by kernel_rfl) (by kernel_rfl) (by kernel_rfl) (fun _ _ _ h => h) (Or.inl ⟨by rfl, ?_⟩) (by assumption) ?_
  rotate_left 1
  · intro w hSw
    obtain ⟨q0, q1, q2, q3, q4, q5, q6, q7, q8⟩ := hSw
    go_simp <;> with_reducible rfl
  simp only [Act.put, List.setIfInBounds_toArray]
  try simp only [List.set_cons_succ]
  try simp only [List.set_cons_zero]
  refine take1 (i := 8) (d := some 42) (v := ?_) rfl rfl (by kernel_rfl) (by kernel_rfl) (by kernel_rfl) (fun _ _ _ h => h) (Or.inl ⟨by rfl, ?_⟩) (by assumption) ?_
  rotate_left 1
  · intro w hSw
    obtain ⟨q0, q1, q2, q3, q4, q5, q6, q7, q8⟩ := hSw
    go_simp <;> with_reducible rfl
  simp only [Act.put, List.setIfInBounds_toArray]
  try simp only [List.set_cons_succ]
  try simp only [List.set_cons_zero]
  refine take1 (i := 9) (d := some 43) (v := ?_) rfl rfl (by kernel_rfl) (by kernel_rfl) (by kernel_rfl) (fun _ _ _ h => h) (Or.inl ⟨by rfl, ?_⟩) (by assumption) ?_
  rotate_left 1
  · intro w hSw
    obtain ⟨q0, q1, q2, q3, q4, q5, q6, q7, q8⟩ := hSw
    go_simp <;> with_reducible rfl
  simp only [Act.put, List.setIfInBounds_toArray]
  try simp only [List.set_cons_succ]
  try simp only [List.set_cons_zero]
  refine take1 (i := 10) (d := some 44) (v := ?_) rfl rfl (by kernel_rfl) (by kernel_rfl) (by kernel_rfl) (fun _ _ _ h => h) (Or.inl ⟨by rfl, ?_⟩) (by assumption) ?_
  rotate_left 1
  · intro w hSw
    obtain ⟨q0, q1, q2, q3, q4, q5, q6, q7, q8⟩ := hSw
    go_simp <;> with_reducible rfl
  simp only [Act.put, List.setIfInBounds_toArray]
  try simp only [List.set_cons_succ]
  try simp only [List.set_cons_zero]
  refine take1 (i := 11) (d := some 45) (v := ?_) rfl rfl (by kernel_rfl) (by kernel_rfl) (by kernel_rfl) (fun _ _ _ h => h) (Or.inl ⟨by rfl, ?_⟩) (by assumption) ?_
  rotate_left 1
  · intro w hSw
    obtain ⟨q0, q1, q2, q3, q4, q5, q6, q7, q8⟩ := hSw
    go_simp <;> with_reducible rfl
  simp only [Act.put, List.setIfInBounds_toArray]
  try simp only [List.set_cons_succ]
  try simp only [List.set_cons_zero]
  refine take1 (i := 12) (d := some 46) (v := ?_) rfl rfl (by kernel_rfl) (by kernel_rfl) (by kernel_rfl) (fun _ _ _ h => h) (Or.inl ⟨by rfl, ?_⟩) (by assumption) ?_
  rotate_left 1
  · intro w hSw
    obtain ⟨q0, q1, q2, q3, q4, q5, q6, q7, q8⟩ := hSw
    go_simp <;> with_reducible rfl
  simp only [Act.put, List.setIfInBounds_toArray]
  try simp only [List.set_cons_succ]
  try simp only [List.set_cons_zero]
  refine take1 (i := 13) (d := some 47) (v := ?_) rfl rfl (by kernel_rfl) (by kernel_rfl) (by kernel_rfl) (fun _ _ _ h => h) (Or.inl ⟨by rfl, ?_⟩) (by assumption) ?_
  rotate_left 1
  · intro w hSw
    obtain ⟨q0, q1, q2, q3, q4, q5, q6, q7, q8⟩ := hSw
    go_simp <;> with_reducible rfl
  simp only [Act.put, List.setIfInBounds_toArray]
  try simp only [List.set_cons_succ]
  try simp only [List.set_cons_zero]
  refine take1 (i := 14) (d := some 48) (v := ?_) rfl rfl (by kernel_rfl) (by kernel_rfl) (by kernel_rfl) (fun _ _ _ h => h) (Or.inl ⟨by rfl, ?_⟩) (by assumption) ?_
  rotate_left 1
  · intro w hSw
    obtain ⟨q0, q1, q2, q3, q4, q5, q6, q7, q8⟩ := hSw
    go_simp <;> with_reducible rfl
  simp only [Act.put, List.setIfInBounds_toArray]
  try simp only [List.set_cons_succ]
  try simp only [List.set_cons_zero]
  refine take1 (i := 15) (d := some 49) (v := ?_) rfl rfl (by kernel_rfl) (by kernel_rfl) (by kernel_rfl) (fun _ _ _ h => h) (Or.inl ⟨by rfl, ?_⟩) (by assumption) ?_
  rotate_left 1
  · intro w hSw
    obtain ⟨q0, q1, q2, q3, q4, q5, q6, q7, q8⟩ := hSw
    go_simp <;> with_reducible rfl
  simp only [Act.put, List.setIfInBounds_toArray]
  try simp only [List.set_cons_succ]
  try simp only [List.set_cons_zero]
  refine take1 (i := 16) (d := some 50) (v := ?_) rfl rfl (by kernel_rfl) (by kernel_rfl) (by kernel_rfl) (fun _ _ _ h => h) (Or.inl ⟨by rfl, ?_⟩) (by assumption) ?_
  rotate_left 1
  · intro w hSw
    obtain ⟨q0, q1, q2, q3, q4, q5, q6, q7, q8⟩ := hSw
    go_simp <;> with_reducible rfl
  simp only [Act.put, List.setIfInBounds_toArray]
  try simp only [List.set_cons_succ]
  try simp only [List.set_cons_zero]
  refine take1 (i := 17) (d := some 51) (v := ?_) rfl rfl (by kernel_rfl) (by kernel_rfl) (by kernel_rfl) (fun _ _ _ h => h) (Or.inl ⟨by rfl, ?_⟩) (by assumption) ?_
  rotate_left 1
  · intro w hSw
    obtain ⟨q0, q1, q2, q3, q4, q5, q6, q7, q8⟩ := hSw
    go_simp <;> with_reducible rfl
  simp only [Act.put, List.setIfInBounds_toArray]
  try simp only [List.set_cons_succ]
  try simp only [List.set_cons_zero]
  refine take1 (i := 18) (d := some 52) (v := ?_) rfl rfl (by kernel_rfl) (by kernel_rfl) (by kernel_rfl) (fun _ _ _ h => h) (Or.inl ⟨by rfl, ?_⟩) (by assumption) ?_
  rotate_left 1
  · intro w hSw
    obtain ⟨q0, q1, q2, q3, q4, q5, q6, q7, q8⟩ := hSw
    go_simp <;> with_reducible rfl
  simp only [Act.put, List.setIfInBounds_toArray]
  try simp only [List.set_cons_succ]
  try simp only [List.set_cons_zero]
  refine take1 (i := 19) (d := some 53) (v := ?_) rfl rfl (by kernel_rfl) (by kernel_rfl) (by kernel_rfl) (fun _ _ _ h => h) (Or.inl ⟨by rfl, ?_⟩) (by assumption) ?_
  rotate_left 1
  · intro w hSw
    obtain ⟨q0, q1, q2, q3, q4, q5, q6, q7, q8⟩ := hSw
    go_simp <;> with_reducible rfl
  simp only [Act.put, List.setIfInBounds_toArray]
  try simp only [List.set_cons_succ]
  try simp only [List.set_cons_zero]
  refine take1 (i := 20) (d := some 54) (v := ?_) rfl rfl (by kernel_rfl) (by kernel_rfl) (by kernel_rfl) (fun _ _ _ h => h) (Or.inl ⟨by rfl, ?_⟩) (by assumption) ?_
  rotate_left 1
  · intro w hSw
    obtain ⟨q0, q1, q2, q3, q4, q5, q6, q7, q8⟩ := hSw
    go_simp <;> with_reducible rfl
  simp only [Act.put, List.setIfInBounds_toArray]
  try simp only [List.set_cons_succ]
  try simp only [List.set_cons_zero]
  refine take1 (i := 21) (d := some 55) (v := ?_) rfl rfl (by kernel_rfl) (by kernel_rfl) (by kernel_rfl) (fun _ _ _ h => h) (Or.inl ⟨by rfl, ?_⟩) (by assumption) ?_
  rotate_left 1
  · intro w hSw
    obtain ⟨q0, q1, q2, q3, q4, q5, q6, q7, q8⟩ := hSw
    go_simp <;> with_reducible rfl
  simp only [Act.put, List.setIfInBounds_toArray]
  try simp only [List.set_cons_succ]
  try simp only [List.set_cons_zero]
  refine wpAnyH_done (by kernel_rfl) ?_ _
  obtain ⟨B2, z2, c2⟩ := HB.out _ BW
  have K2 := Hid.intro (HK.out.below B2 klt)
  obtain ⟨klt2, y0, y1, y2, y3, y4, y5, yf⟩ := K2.out
  clear HC HB hHeld cW fW j0 j2
  have R2 : Hid (RowE w2 N (.slice (some ⟨b, off, none⟩) K.e.length cap) K.e) := HR.out.kept (B2.mono hN)
  have HCP : Hid (∀ w', Below w2.heap.size w2 w' → KAt w' kb K (.slice (some ⟨b, off, none⟩) K.e.length cap) ∧ Below w.heap.size w w' ∧ (∀ o, w'.cell? ⟨w.heap.size, o, none⟩ = #[.int .i64 i, .int .i64 t, .string d][o]?) ∧ w.heap.size < w'.heap.size) := fun w' hb => ⟨K2.out.below hb klt2, B2.trans (hb.mono (by omega)), keepC hb z2 c2, by have := hb.size; omega⟩
  have hMl : M.length ≤ 2000000 := by rw [HM.out]; simp; omega
  have HML := Hid.intro hMl
  clear hMl
  by_cases hc : cap = n + 1
  · have hl : K.e.length = n + 1 := by omega
    have hM0 : M = [] := by rw [HM.out]; exact List.drop_eq_nil_of_le (by omega)
    have HM0 := Hid.intro hM0
    clear hM0
    go_wp2_with fail
    refine (copiedEntries_any M _ N w2 (by omega) (by rw [HM0.out]; exact ⟨_, _, rfl, by simp, by simp, fun h => absurd rfl h⟩) HML.out).mono ?_
    rintro e w5 ⟨v5, rfl, o5, b5⟩
    obtain ⟨a5, cap5, rfl⟩ := o5.slice
    obtain ⟨K5, B5, c5, z5⟩ := HCP.out w5 b5
    have HK5 := Hid.intro K5
    have HO5 := Hid.intro o5
    obtain ⟨klt5, x0, x1, x2, x3, x4, x5, xf⟩ := K5
    clear HCP b5 o5 y0 y1 y2 y3 y4 y5 yf c2
    go_wp2
    go_ret
    exact ⟨_, rfl, fin_snap klt B5 HK5.out (HO5.out.lower (by omega))⟩
  · go_wp2_with fail
    refine (copiedEntries_any M _ N w2 (by omega) (by rw [HM.out]; exact R2.out.drop (by omega)) HML.out).mono ?_
    rintro e w5 ⟨v5, rfl, o5, b5⟩
    obtain ⟨a5, cap5, rfl⟩ := o5.slice
    obtain ⟨K5, B5, c5, z5⟩ := HCP.out w5 b5
    have HK5 := Hid.intro K5
    have HO5 := Hid.intro o5
    obtain ⟨klt5, x0, x1, x2, x3, x4, x5, xf⟩ := K5
    clear HCP b5 o5 y0 y1 y2 y3 y4 y5 yf c2
    go_wp2
    go_ret
    exact ⟨_, rfl, fin_snap klt B5 HK5.out (HO5.out.lower (by omega))⟩
end Go.Proofs.Ytkilepoimocoeaa
