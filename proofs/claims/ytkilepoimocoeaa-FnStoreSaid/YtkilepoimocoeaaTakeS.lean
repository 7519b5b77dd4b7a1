/- takeSnap. -/
import Derived.Test.YtkilepoimocoeaaTakeEC
namespace Go.Proofs.Ytkilepoimocoeaa
open Go.RowKit
set_option linter.unusedVariables false
set_option maxRecDepth 100000 in
set_option maxHeartbeats 8000000 in
theorem takeSnap_no (K : Kp) (a : Option Addr) (cap kb : Nat) (i t : Int) (d : ByteArray) (w : World) (hk : KAt w kb K (.slice a K.e.length cap)) (hs : Sm K) (h : ¬ (K.si < i ∧ t ≤ K.t)) :
    Calls Try.prog 83 #[.pointer (some ⟨kb, 0, none⟩), .agg #[.int .i64 i, .int .i64 t, .string d]] w fun e w' => e = .returned (.bool false) ∧ Below w.heap.size w w' := by
  obtain ⟨klt, k0, k1, k2, k3, k4, k5, kf⟩ := hk
  have hne : ¬ kb = w.heap.size := by omega
  by_cases h1 : i ≤ K.si
  · have h2 : decide (i ≤ K.si) = true := decide_eq_true h1
    go_enter Try.func83, Try.ntmps83
    go_wp2
    obtain ⟨W, hW, bW, zW, cW, fW⟩ := boxed w #[.int .i64 i, .int .i64 t, .string d] 91
    simp only [hW]
    have j0 := atCell bW k0 klt
    have j2 := atCell bW k2 klt
    clear hW k0 k1 k2 k3 k4 k5 kf zW
    go_quiet (fail)
    all_goals
      go_wp2
      go_ret
      exact ⟨rfl, bW.trans (drewN_below _ _ _)⟩
  · have h2 : decide (i ≤ K.si) = false := decide_eq_false h1
    have h3 : K.t < t := by omega
    have h4 : decide (K.t < t) = true := decide_eq_true h3
    go_enter Try.func83, Try.ntmps83
    go_wp2
    obtain ⟨W, hW, bW, zW, cW, fW⟩ := boxed w #[.int .i64 i, .int .i64 t, .string d] 91
    simp only [hW]
    have j0 := atCell bW k0 klt
    have j2 := atCell bW k2 klt
    clear hW k0 k1 k2 k3 k4 k5 kf zW
    go_quiet (fail)
    all_goals
      go_wp2
      go_ret
      exact ⟨rfl, bW.trans (drewN_below _ _ _)⟩
/-- What takeSnap's second test reads. -/
def SN (K : Kp) (v : Value) (kb B b o : Nat) (i t x : Int) (w' : World) : Prop := w'.cell? ⟨kb, 0, none⟩ = some (.int .i64 K.t) ∧ w'.cell? ⟨kb, 1, none⟩ = some (.int .i64 K.v) ∧ w'.cell? ⟨kb, 2, none⟩ = some (.int .i64 K.si) ∧ w'.cell? ⟨kb, 3, none⟩ = some (.int .i64 K.st) ∧ w'.cell? ⟨kb, 4, none⟩ = some (.string K.sd) ∧ w'.cell? ⟨kb, 5, none⟩ = some v ∧ w'.cell? ⟨B, 0, none⟩ = some (.int .i64 i) ∧ w'.cell? ⟨B, 1, none⟩ = some (.int .i64 t) ∧ w'.cell? ⟨b, o, none⟩ = some (.int .i64 x)
/-- What stands when the entries and the snap were stored. -/
theorem fin_snap {K : Kp} {kb : Nat} {v v' : Value} {L : List En} {i t : Int} {d : ByteArray} {w X : World} (klt : kb < w.heap.size) (BX : Below w.heap.size w X) (KX : KAt X kb K v) (o5 : OwnE X w.heap.size v' L) :
    KAt ((((X.setCell ⟨kb, 5, none⟩ v').setCell ⟨kb, 2, none⟩ (.int .i64 i)).setCell ⟨kb, 3, none⟩ (.int .i64 t)).setCell ⟨kb, 4, none⟩ (.string d)) kb { K with si := i, st := t, sd := d, e := L } v' ∧
    OwnE ((((X.setCell ⟨kb, 5, none⟩ v').setCell ⟨kb, 2, none⟩ (.int .i64 i)).setCell ⟨kb, 3, none⟩ (.int .i64 t)).setCell ⟨kb, 4, none⟩ (.string d)) w.heap.size v' L ∧
    Took kb v w ((((X.setCell ⟨kb, 5, none⟩ v').setCell ⟨kb, 2, none⟩ (.int .i64 i)).setCell ⟨kb, 3, none⟩ (.int .i64 t)).setCell ⟨kb, 4, none⟩ (.string d)) := by
  refine ⟨((((KX.set5 v').set2 i).set3 t).set4 d).ents L, ?_, ((((Took.of_below BX klt).setCell (by omega) _).setCell (by omega) _).setCell (by omega) _).setCell (by omega) _⟩
  refine OwnE.only o5 (S := fun k => k = kb) ?_ (fun k hk h => by have := (o5.lt k hk).1; omega)
  repeat (refine Only.setCell ?_ (by simp) _)
  exact Only.refl _ _
set_option maxRecDepth 100000 in
set_option maxHeartbeats 8000000 in
theorem takeSnap_out (K : Kp) (a : Option Addr) (cap kb : Nat) (i t : Int) (d : ByteArray) (w : World) (hk : KAt w kb K (.slice a K.e.length cap)) (hs : Sm K) (hi : K.si < i ∧ i ≤ 100000) (ht : t ≤ K.t) (ho : (K.e.length : Int) < i - K.si) :
    Calls Try.prog 83 #[.pointer (some ⟨kb, 0, none⟩), .agg #[.int .i64 i, .int .i64 t, .string d]] w fun e w' => ∃ v', e = .returned (.bool true) ∧ KAt w' kb { K with si := i, st := t, sd := d, e := [] } v' ∧ OwnE w' w.heap.size v' ([]) ∧ Took kb (.slice a K.e.length cap) w w' := by
  have HK := Hid.intro hk
  have HS := Hid.intro hs
  obtain ⟨klt, k0, k1, k2, k3, k4, k5, kf⟩ := hk
  obtain ⟨s1, s2, s3⟩ := hs
  obtain ⟨i1, i2⟩ := hi
  have hne : ¬ kb = w.heap.size := by omega
  have h2 : decide (i ≤ K.si) = false := decide_eq_false (by omega)
  have h3 : decide (K.t < t) = false := decide_eq_false (by omega)
  have h4 : ¬ K.t < t := by omega
  have h5 : ¬ i ≤ K.si := by omega
  have e1 : IntKind.i64.wrap (i - K.si) = i - K.si := wraps_i64 _ (by omega) (by omega)
  have hin : inB i (K.si + 1) (K.si + K.e.length) = false := inB_false (by omega)
  go_enter Try.func83, Try.ntmps83
  go_wp2
  obtain ⟨W, hW, bW, zW, cW, fW⟩ := boxed w #[.int .i64 i, .int .i64 t, .string d] 91
  simp only [hW]
  have j0 := atCell bW k0 klt
  have j2 := atCell bW k2 klt
  have HC : Hid (∀ w', Below W.heap.size W w' → SN K (.slice a K.e.length cap) kb w.heap.size kb 2 i t K.si w') :=
    fun w' hb => by
      have q := (HK.out.below bW klt).below hb (by omega)
      exact ⟨q.c0, q.c1, q.c2, q.c3, q.c4, q.c5, atCell hb (by rw [cW]; rfl) (by omega), atCell hb (by rw [cW]; rfl) (by omega), q.c2⟩
  have HB : Hid (∀ w', Below W.heap.size W w' → Below w.heap.size w w' ∧ w.heap.size < w'.heap.size ∧ (∀ o, w'.cell? ⟨w.heap.size, o, none⟩ = #[.int .i64 i, .int .i64 t, .string d][o]?)) := fun w' hb => ⟨bW.trans (hb.mono (by omega)), by have := hb.size; omega, keepC hb (by omega) cW⟩
  clear hW k0 k1 k2 k3 k4 k5 kf zW bW
  go_quiet (fail)
  go_wp2
  go_quiet (fail)
  go_wp2
  refine wp_region_held_drew (S := SN K (.slice a K.e.length cap) kb w.heap.size kb 2 i t K.si) (by kernel_rfl) (HC.out _ ((drewN_below _ _ _).trans (drewN_below _ _ _)).drew) (fun hHeld => ?_)
  refine take1 (i := 0) (d := some 34) (v := ?_) rfl rfl (by kernel_rfl) (by kernel_rfl) (by kernel_rfl) (fun _ _ _ h => h) (Or.inl ⟨by rfl, ?_⟩) (by assumption) ?_
  rotate_left 1
  · intro w hSw
    obtain ⟨q0, q1, q2, q3, q4, q5, q6, q7, q8⟩ := hSw
    go_simp <;> with_reducible rfl
  simp only [Act.put, List.setIfInBounds_toArray]
  try simp only [List.set_cons_succ]
  try simp only [List.set_cons_zero]
  refine take1 (i := 1) (d := some 35) (v := ?_) rfl rfl (by kernel_rfl) (by kernel_rfl) (by kernel_rfl) (fun _ _ _ h => h) (Or.inl ⟨by rfl, ?_⟩) (by assumption) ?_
  rotate_left 1
  · intro w hSw
    obtain ⟨q0, q1, q2, q3, q4, q5, q6, q7, q8⟩ := hSw
    go_simp <;> with_reducible rfl
  simp only [Act.put, List.setIfInBounds_toArray]
  try simp only [List.set_cons_succ]
  try simp only [List.set_cons_zero]
  refine take1 (i := 2) (d := some 36) (v := ?_) rfl rfl (by kernel_rfl) (by kernel_rfl) (by kernel_rfl) (fun _ _ _ h => h) (Or.inl ⟨by rfl, ?_⟩) (by assumption) ?_
  rotate_left 1
  · intro w hSw
    obtain ⟨q0, q1, q2, q3, q4, q5, q6, q7, q8⟩ := hSw
    go_simp <;> with_reducible rfl
  simp only [Act.put, List.setIfInBounds_toArray]
  try simp only [List.set_cons_succ]
  try simp only [List.set_cons_zero]
  refine take1 (i := 3) (d := some 37) (v := ?_) rfl rfl (by kernel_rfl) (by kernel_rfl) (by kernel_rfl) (fun _ _ _ h => h) (Or.inl ⟨by rfl, ?_⟩) (by assumption) ?_
  rotate_left 1
  · intro w hSw
    obtain ⟨q0, q1, q2, q3, q4, q5, q6, q7, q8⟩ := hSw
    go_simp <;> with_reducible rfl
  simp only [Act.put, List.setIfInBounds_toArray]
  try simp only [List.set_cons_succ]
  try simp only [List.set_cons_zero]
  refine take1 (i := 4) (d := some 38) (v := ?_) rfl rfl (by kernel_rfl) (by kernel_rfl) (by kernel_rfl) (fun _ _ _ h => h) (Or.inl ⟨by rfl, ?_⟩) (by assumption) ?_
  rotate_left 1
  · intro w hSw
    obtain ⟨q0, q1, q2, q3, q4, q5, q6, q7, q8⟩ := hSw
    go_simp <;> with_reducible rfl
  simp only [Act.put, List.setIfInBounds_toArray]
  try simp only [List.set_cons_succ]
  try simp only [List.set_cons_zero]
  refine take1 (i := 5) (d := some 39) (v := ?_) rfl rfl (by kernel_rfl) (by kernel_rfl) (by kernel_rfl) (fun _ _ _ h => h) (Or.inl ⟨by rfl, ?_⟩) (by assumption) ?_
  rotate_left 1
  · intro w hSw
    obtain ⟨q0, q1, q2, q3, q4, q5, q6, q7, q8⟩ := hSw
    go_simp <;> with_reducible rfl
  simp only [Act.put, List.setIfInBounds_toArray]
  try simp only [List.set_cons_succ]
  try simp only [List.set_cons_zero]
  refine wpAnyH_ready (rs := [6]) (by kernel_rfl) (by simp) ?_
  refine AllReadyH.cons rfl (fun KK hKK => ?_) AllReadyH.nil
  go_simp
  refine (has_any K _ _ _ _ _ rfl HS.out).mono ?_
  rintro e w2 ⟨rfl, b2⟩
  have BW : Below W.heap.size W w2 := (drewN_below _ _ _).trans b2
  go_simp
  refine hKK.out _ _ (HC.out _ BW) (fun hHeld2 => ?_)
  clear hKK KK hHeld
  have hHeld := hHeld2
  clear hHeld2
  refine take1 (i := 7) (d := some 41) (v := ?_) rfl rfl (by kernel_rfl) (by kernel_rfl) (by kernel_rfl) (fun _ _ _ h => h) (Or.inl ⟨by rfl, ?_⟩) (by assumption) ?_
  rotate_left 1
  · intro w hSw
    obtain ⟨q0, q1, q2, q3, q4, q5, q6, q7, q8⟩ := hSw
    go_simp <;> with_reducible rfl
  simp only [Act.put, List.setIfInBounds_toArray]
  try simp only [List.set_cons_succ]
  try simp only [List.set_cons_zero]
  refine take1 (i := 8) (d := some 42) (v := undef) rfl rfl (by kernel_rfl) (by kernel_rfl) (by kernel_rfl) (fun _ _ _ h => h) (Or.inr ⟨by rfl, rfl⟩) (by assumption) ?_
  simp only [Act.put, List.setIfInBounds_toArray]
  try simp only [List.set_cons_succ]
  try simp only [List.set_cons_zero]
  refine take1 (i := 9) (d := some 43) (v := undef) rfl rfl (by kernel_rfl) (by kernel_rfl) (by kernel_rfl) (fun _ _ _ h => h) (Or.inr ⟨by rfl, rfl⟩) (by assumption) ?_
  simp only [Act.put, List.setIfInBounds_toArray]
  try simp only [List.set_cons_succ]
  try simp only [List.set_cons_zero]
  refine take1 (i := 10) (d := some 44) (v := undef) rfl rfl (by kernel_rfl) (by kernel_rfl) (by kernel_rfl) (fun _ _ _ h => h) (Or.inr ⟨by rfl, rfl⟩) (by assumption) ?_
  simp only [Act.put, List.setIfInBounds_toArray]
  try simp only [List.set_cons_succ]
  try simp only [List.set_cons_zero]
  refine take1 (i := 11) (d := some 45) (v := undef) rfl rfl (by kernel_rfl) (by kernel_rfl) (by kernel_rfl) (fun _ _ _ h => h) (Or.inr ⟨by rfl, rfl⟩) (by assumption) ?_
  simp only [Act.put, List.setIfInBounds_toArray]
  try simp only [List.set_cons_succ]
  try simp only [List.set_cons_zero]
  refine take1 (i := 12) (d := some 46) (v := undef) rfl rfl (by kernel_rfl) (by kernel_rfl) (by kernel_rfl) (fun _ _ _ h => h) (Or.inr ⟨by rfl, rfl⟩) (by assumption) ?_
  simp only [Act.put, List.setIfInBounds_toArray]
  try simp only [List.set_cons_succ]
  try simp only [List.set_cons_zero]
  refine take1 (i := 13) (d := some 47) (v := undef) rfl rfl (by kernel_rfl) (by kernel_rfl) (by kernel_rfl) (fun _ _ _ h => h) (Or.inr ⟨by rfl, rfl⟩) (by assumption) ?_
  simp only [Act.put, List.setIfInBounds_toArray]
  try simp only [List.set_cons_succ]
  try simp only [List.set_cons_zero]
  refine take1 (i := 14) (d := some 48) (v := undef) rfl rfl (by kernel_rfl) (by kernel_rfl) (by kernel_rfl) (fun _ _ _ h => h) (Or.inr ⟨by rfl, rfl⟩) (by assumption) ?_
  simp only [Act.put, List.setIfInBounds_toArray]
  try simp only [List.set_cons_succ]
  try simp only [List.set_cons_zero]
  refine take1 (i := 15) (d := some 49) (v := undef) rfl rfl (by kernel_rfl) (by kernel_rfl) (by kernel_rfl) (fun _ _ _ h => h) (Or.inr ⟨by rfl, rfl⟩) (by assumption) ?_
  simp only [Act.put, List.setIfInBounds_toArray]
  try simp only [List.set_cons_succ]
  try simp only [List.set_cons_zero]
  refine take1 (i := 16) (d := some 50) (v := undef) rfl rfl (by kernel_rfl) (by kernel_rfl) (by kernel_rfl) (fun _ _ _ h => h) (Or.inr ⟨by rfl, rfl⟩) (by assumption) ?_
  simp only [Act.put, List.setIfInBounds_toArray]
  try simp only [List.set_cons_succ]
  try simp only [List.set_cons_zero]
  refine take1 (i := 17) (d := some 51) (v := undef) rfl rfl (by kernel_rfl) (by kernel_rfl) (by kernel_rfl) (fun _ _ _ h => h) (Or.inr ⟨by rfl, rfl⟩) (by assumption) ?_
  simp only [Act.put, List.setIfInBounds_toArray]
  try simp only [List.set_cons_succ]
  try simp only [List.set_cons_zero]
  refine take1 (i := 18) (d := some 52) (v := undef) rfl rfl (by kernel_rfl) (by kernel_rfl) (by kernel_rfl) (fun _ _ _ h => h) (Or.inr ⟨by rfl, rfl⟩) (by assumption) ?_
  simp only [Act.put, List.setIfInBounds_toArray]
  try simp only [List.set_cons_succ]
  try simp only [List.set_cons_zero]
  refine take1 (i := 19) (d := some 53) (v := undef) rfl rfl (by kernel_rfl) (by kernel_rfl) (by kernel_rfl) (fun _ _ _ h => h) (Or.inr ⟨by rfl, rfl⟩) (by assumption) ?_
  simp only [Act.put, List.setIfInBounds_toArray]
  try simp only [List.set_cons_succ]
  try simp only [List.set_cons_zero]
  refine take1 (i := 20) (d := some 54) (v := undef) rfl rfl (by kernel_rfl) (by kernel_rfl) (by kernel_rfl) (fun _ _ _ h => h) (Or.inr ⟨by rfl, rfl⟩) (by assumption) ?_
  simp only [Act.put, List.setIfInBounds_toArray]
  try simp only [List.set_cons_succ]
  try simp only [List.set_cons_zero]
  refine take1 (i := 21) (d := some 55) (v := ?_) rfl rfl (by kernel_rfl) (by kernel_rfl) (by kernel_rfl) (fun _ _ _ h => h) (Or.inl ⟨by rfl, ?_⟩) (by assumption) ?_
  rotate_left 1
  · intro w hSw
    obtain ⟨q0, q1, q2, q3, q4, q5, q6, q7, q8⟩ := hSw
    go_simp <;> with_reducible rfl
  simp only [Act.put, List.setIfInBounds_toArray]
  try simp only [List.set_cons_succ]
  try simp only [List.set_cons_zero]
  refine wpAnyH_done (by kernel_rfl) ?_ _
  obtain ⟨B2, z2, c2⟩ := HB.out _ BW
  have K2 := Hid.intro (HK.out.below B2 klt)
  obtain ⟨klt2, y0, y1, y2, y3, y4, y5, yf⟩ := K2.out
  clear HC HB hHeld cW fW j0 j2
  go_wp2
  go_ret
  exact ⟨_, rfl, fin_snap klt B2 K2.out (OwnE.nil _ _)⟩
set_option maxRecDepth 100000 in
set_option maxHeartbeats 8000000 in
theorem takeSnap_term (K : Kp) (a : Option Addr) (cap kb : Nat) (i t : Int) (b off n : Nat) (x : Int) (d : ByteArray) (w : World) (hk : KAt w kb K (.slice a K.e.length cap)) (hs : Sm K) (hi : K.si < i ∧ i ≤ 100000) (ht : t ≤ K.t) (ha : a = some ⟨b, off, none⟩) (hbw : b < w.heap.size) (hn : i = K.si + (n + 1)) (hnl : n < K.e.length) (c0 : w.cell? ⟨b, off + n * 2, none⟩ = some (.int .i64 x)) (hx : ¬ x = t) :
    Calls Try.prog 83 #[.pointer (some ⟨kb, 0, none⟩), .agg #[.int .i64 i, .int .i64 t, .string d]] w fun e w' => ∃ v', e = .returned (.bool true) ∧ KAt w' kb { K with si := i, st := t, sd := d, e := [] } v' ∧ OwnE w' w.heap.size v' ([]) ∧ Took kb (.slice a K.e.length cap) w w' := by
  have HK := Hid.intro hk
  have HS := Hid.intro hs
  obtain ⟨klt, k0, k1, k2, k3, k4, k5, kf⟩ := hk
  obtain ⟨s1, s2, s3⟩ := hs
  obtain ⟨i1, i2⟩ := hi
  have hne : ¬ kb = w.heap.size := by omega
  have h2 : decide (i ≤ K.si) = false := decide_eq_false (by omega)
  have h3 : decide (K.t < t) = false := decide_eq_false (by omega)
  have h4 : ¬ K.t < t := by omega
  have h5 : ¬ i ≤ K.si := by omega
  subst ha
  have ex : (x == t) = false := by simpa using hx
  have e1 : i - K.si = (n : Int) + 1 := by omega
  have e2 : IntKind.i64.wrap ((n : Int) + 1) = (n : Int) + 1 := wraps_i64 _ (by omega) (by omega)
  have e3 : IntKind.i64.wrap ((n : Int) + 1 - 1) = (n : Int) := by rw [show (n : Int) + 1 - 1 = n by omega]; exact wraps_i64 _ (by omega) (by omega)
  have e4 : IntKind.i64.wrap ((n : Int)) = (n : Int) := wraps_i64 _ (by omega) (by omega)
  have e5 : (0 : Int) ≤ (n : Int) ∧ (n : Int) < (K.e.length : Int) := by omega
  have e6 : (n : Int) < (K.e.length : Int) := by omega
  have hin : inB i (K.si + 1) (K.si + K.e.length) = true := inB_true (by omega)
  clear hn
  go_enter Try.func83, Try.ntmps83
  go_wp2
  obtain ⟨W, hW, bW, zW, cW, fW⟩ := boxed w #[.int .i64 i, .int .i64 t, .string d] 91
  simp only [hW]
  have j0 := atCell bW k0 klt
  have j2 := atCell bW k2 klt
  have HC : Hid (∀ w', Below W.heap.size W w' → SN K (.slice (some ⟨b, off, none⟩) K.e.length cap) kb w.heap.size b (off + n * 2) i t x w') :=
    fun w' hb => by
      have q := (HK.out.below bW klt).below hb (by omega)
      exact ⟨q.c0, q.c1, q.c2, q.c3, q.c4, q.c5, atCell hb (by rw [cW]; rfl) (by omega), atCell hb (by rw [cW]; rfl) (by omega), atCell hb (atCell bW c0 hbw) (by omega)⟩
  have HB : Hid (∀ w', Below W.heap.size W w' → Below w.heap.size w w' ∧ w.heap.size < w'.heap.size ∧ (∀ o, w'.cell? ⟨w.heap.size, o, none⟩ = #[.int .i64 i, .int .i64 t, .string d][o]?)) := fun w' hb => ⟨bW.trans (hb.mono (by omega)), by have := hb.size; omega, keepC hb (by omega) cW⟩
  clear hW k0 k1 k2 k3 k4 k5 kf zW bW
  go_quiet (fail)
  go_wp2
  go_quiet (fail)
  go_wp2
  refine wp_region_held_drew (S := SN K (.slice (some ⟨b, off, none⟩) K.e.length cap) kb w.heap.size b (off + n * 2) i t x) (by kernel_rfl) (HC.out _ ((drewN_below _ _ _).trans (drewN_below _ _ _)).drew) (fun hHeld => ?_)
  refine take1 (i := 0) (d := some 34) (v := ?_) rfl rfl (by kernel_rfl) (by kernel_rfl) (by kernel_rfl) (fun _ _ _ h => h) (Or.inl ⟨by rfl, ?_⟩) (by assumption) ?_
  rotate_left 1
  · intro w hSw
    obtain ⟨q0, q1, q2, q3, q4, q5, q6, q7, q8⟩ := hSw
    go_simp <;> with_reducible rfl
  simp only [Act.put, List.setIfInBounds_toArray]
  try simp only [List.set_cons_succ]
  try simp only [List.set_cons_zero]
  refine take1 (i := 1) (d := some 35) (v := ?_) rfl rfl (by kernel_rfl) (by kernel_rfl) (by kernel_rfl) (fun _ _ _ h => h) (Or.inl ⟨by rfl, ?_⟩) (by assumption) ?_
  rotate_left 1
  · intro w hSw
    obtain ⟨q0, q1, q2, q3, q4, q5, q6, q7, q8⟩ := hSw
    go_simp <;> with_reducible rfl
  simp only [Act.put, List.setIfInBounds_toArray]
  try simp only [List.set_cons_succ]
  try simp only [List.set_cons_zero]
  refine take1 (i := 2) (d := some 36) (v := ?_) rfl rfl (by kernel_rfl) (by kernel_rfl) (by kernel_rfl) (fun _ _ _ h => h) (Or.inl ⟨by rfl, ?_⟩) (by assumption) ?_
  rotate_left 1
  · intro w hSw
    obtain ⟨q0, q1, q2, q3, q4, q5, q6, q7, q8⟩ := hSw
    go_simp <;> with_reducible rfl
  simp only [Act.put, List.setIfInBounds_toArray]
  try simp only [List.set_cons_succ]
  try simp only [List.set_cons_zero]
  refine take1 (i := 3) (d := some 37) (v := ?_) rfl rfl (by kernel_rfl) (by kernel_rfl) (by kernel_rfl) (fun _ _ _ h => h) (Or.inl ⟨by rfl, ?_⟩) (by assumption) ?_
  rotate_left 1
  · intro w hSw
    obtain ⟨q0, q1, q2, q3, q4, q5, q6, q7, q8⟩ := hSw
    go_simp <;> with_reducible rfl
  simp only [Act.put, List.setIfInBounds_toArray]
  try simp only [List.set_cons_succ]
  try simp only [List.set_cons_zero]
  refine take1 (i := 4) (d := some 38) (v := ?_) rfl rfl (by kernel_rfl) (by kernel_rfl) (by kernel_rfl) (fun _ _ _ h => h) (Or.inl ⟨by rfl, ?_⟩) (by assumption) ?_
  rotate_left 1
  · intro w hSw
    obtain ⟨q0, q1, q2, q3, q4, q5, q6, q7, q8⟩ := hSw
    go_simp <;> with_reducible rfl
  simp only [Act.put, List.setIfInBounds_toArray]
  try simp only [List.set_cons_succ]
  try simp only [List.set_cons_zero]
  refine take1 (i := 5) (d := some 39) (v := ?_) rfl rfl (by kernel_rfl) (by kernel_rfl) (by kernel_rfl) (fun _ _ _ h => h) (Or.inl ⟨by rfl, ?_⟩) (by assumption) ?_
  rotate_left 1
  · intro w hSw
    obtain ⟨q0, q1, q2, q3, q4, q5, q6, q7, q8⟩ := hSw
    go_simp <;> with_reducible rfl
  simp only [Act.put, List.setIfInBounds_toArray]
  try simp only [List.set_cons_succ]
  try simp only [List.set_cons_zero]
  refine wpAnyH_ready (rs := [6]) (by kernel_rfl) (by simp) ?_
  refine AllReadyH.cons rfl (fun KK hKK => ?_) AllReadyH.nil
  go_simp
  refine (has_any K _ _ _ _ _ rfl HS.out).mono ?_
  rintro e w2 ⟨rfl, b2⟩
  have BW : Below W.heap.size W w2 := (drewN_below _ _ _).trans b2
  go_simp
  refine hKK.out _ _ (HC.out _ BW) (fun hHeld2 => ?_)
  clear hKK KK hHeld
  have hHeld := hHeld2
  clear hHeld2
  refine take1 (i := 7) (d := some 41) (v := ?_) rfl rfl (by kernel_rfl) (by kernel_rfl) (by kernel_rfl) (fun _ _ _ h => h) (Or.inl ⟨by rfl, ?_⟩) (by assumption) ?_
  rotate_left 1
  · intro w hSw
    obtain ⟨q0, q1, q2, q3, q4, q5, q6, q7, q8⟩ := hSw
    go_simp <;> with_reducible rfl
  simp only [Act.put, List.setIfInBounds_toArray]
  try simp only [List.set_cons_succ]
  try simp only [List.set_cons_zero]
  refine take1 (i := 8) (d := some 42) (v := ?_) rfl rfl (by kernel_rfl) (by kernel_rfl) (by kernel_rfl) (fun _ _ _ h => h) (Or.inl ⟨by rfl, ?_⟩) (by assumption) ?_
  rotate_left 1
  · intro w hSw
    obtain ⟨q0, q1, q2, q3, q4, q5, q6, q7, q8⟩ := hSw
    go_simp <;> with_reducible rfl
  simp only [Act.put, List.setIfInBounds_toArray]
  try simp only [List.set_cons_succ]
  try simp only [List.set_cons_zero]
  refine take1 (i := 9) (d := some 43) (v := ?_) rfl rfl (by kernel_rfl) (by kernel_rfl) (by kernel_rfl) (fun _ _ _ h => h) (Or.inl ⟨by rfl, ?_⟩) (by assumption) ?_
  rotate_left 1
  · intro w hSw
    obtain ⟨q0, q1, q2, q3, q4, q5, q6, q7, q8⟩ := hSw
    go_simp <;> with_reducible rfl
  simp only [Act.put, List.setIfInBounds_toArray]
  try simp only [List.set_cons_succ]
  try simp only [List.set_cons_zero]
  refine take1 (i := 10) (d := some 44) (v := ?_) rfl rfl (by kernel_rfl) (by kernel_rfl) (by kernel_rfl) (fun _ _ _ h => h) (Or.inl ⟨by rfl, ?_⟩) (by assumption) ?_
  rotate_left 1
  · intro w hSw
    obtain ⟨q0, q1, q2, q3, q4, q5, q6, q7, q8⟩ := hSw
    go_simp <;> with_reducible rfl
  simp only [Act.put, List.setIfInBounds_toArray]
  try simp only [List.set_cons_succ]
  try simp only [List.set_cons_zero]
  refine take1 (i := 11) (d := some 45) (v := ?_) rfl rfl (by kernel_rfl) (by kernel_rfl) (by kernel_rfl) (fun _ _ _ h => h) (Or.inl ⟨by rfl, ?_⟩) (by assumption) ?_
  rotate_left 1
  · intro w hSw
    obtain ⟨q0, q1, q2, q3, q4, q5, q6, q7, q8⟩ := hSw
    go_simp <;> with_reducible rfl
  simp only [Act.put, List.setIfInBounds_toArray]
  try simp only [List.set_cons_succ]
  try simp only [List.set_cons_zero]
  refine take1 (i := 12) (d := some 46) (v := ?_) rfl rfl (by kernel_rfl) (by kernel_rfl) (by kernel_rfl) (fun _ _ _ h => h) (Or.inl ⟨by rfl, ?_⟩) (by assumption) ?_
  rotate_left 1
  · intro w hSw
    obtain ⟨q0, q1, q2, q3, q4, q5, q6, q7, q8⟩ := hSw
    go_simp <;> with_reducible rfl
  simp only [Act.put, List.setIfInBounds_toArray]
  try simp only [List.set_cons_succ]
  try simp only [List.set_cons_zero]
  refine take1 (i := 13) (d := some 47) (v := ?_) rfl rfl (by kernel_rfl) (by kernel_rfl) (by kernel_rfl) (fun _ _ _ h => h) (Or.inl ⟨by rfl, ?_⟩) (by assumption) ?_
  rotate_left 1
  · intro w hSw
    obtain ⟨q0, q1, q2, q3, q4, q5, q6, q7, q8⟩ := hSw
    go_simp <;> with_reducible rfl
  simp only [Act.put, List.setIfInBounds_toArray]
  try simp only [List.set_cons_succ]
  try simp only [List.set_cons_zero]
  refine take1 (i := 14) (d := some 48) (v := ?_) rfl rfl (by kernel_rfl) (by kernel_rfl) (by kernel_rfl) (fun _ _ _ h => h) (Or.inl ⟨by rfl, ?_⟩) (by assumption) ?_
  rotate_left 1
  · intro w hSw
    obtain ⟨q0, q1, q2, q3, q4, q5, q6, q7, q8⟩ := hSw
    go_simp <;> with_reducible rfl
  simp only [Act.put, List.setIfInBounds_toArray]
  try simp only [List.set_cons_succ]
  try simp only [List.set_cons_zero]
  refine take1 (i := 15) (d := some 49) (v := ?_) rfl rfl (by kernel_rfl) (by kernel_rfl) (by kernel_rfl) (fun _ _ _ h => h) (Or.inl ⟨by rfl, ?_⟩) (by assumption) ?_
  rotate_left 1
  · intro w hSw
    obtain ⟨q0, q1, q2, q3, q4, q5, q6, q7, q8⟩ := hSw
    go_simp <;> with_reducible rfl
  simp only [Act.put, List.setIfInBounds_toArray]
  try simp only [List.set_cons_succ]
  try simp only [List.set_cons_zero]
  refine take1 (i := 16) (d := some 50) (v := ?_) rfl rfl (by kernel_rfl) (by kernel_rfl) (by kernel_rfl) (fun _ _ _ h => h) (Or.inl ⟨by rfl, ?_⟩) (by assumption) ?_
  rotate_left 1
  · intro w hSw
    obtain ⟨q0, q1, q2, q3, q4, q5, q6, q7, q8⟩ := hSw
    go_simp <;> with_reducible rfl
  simp only [Act.put, List.setIfInBounds_toArray]
  try simp only [List.set_cons_succ]
  try simp only [List.set_cons_zero]
  refine take1 (i := 17) (d := some 51) (v := ?_) rfl rfl (by kernel_rfl) (by kernel_rfl) (by kernel_rfl) (fun _ _ _ h => h) (Or.inl ⟨by rfl, ?_⟩) (by assumption) ?_
  rotate_left 1
  · intro w hSw
    obtain ⟨q0, q1, q2, q3, q4, q5, q6, q7, q8⟩ := hSw
    go_simp <;> with_reducible rfl
  simp only [Act.put, List.setIfInBounds_toArray]
  try simp only [List.set_cons_succ]
  try simp only [List.set_cons_zero]
  refine take1 (i := 18) (d := some 52) (v := ?_) rfl rfl (by kernel_rfl) (by kernel_rfl) (by kernel_rfl) (fun _ _ _ h => h) (Or.inl ⟨by rfl, ?_⟩) (by assumption) ?_
  rotate_left 1
  · intro w hSw
    obtain ⟨q0, q1, q2, q3, q4, q5, q6, q7, q8⟩ := hSw
    go_simp <;> with_reducible rfl
  simp only [Act.put, List.setIfInBounds_toArray]
  try simp only [List.set_cons_succ]
  try simp only [List.set_cons_zero]
  refine take1 (i := 19) (d := some 53) (v := ?_) rfl rfl (by kernel_rfl) (by kernel_rfl) (by kernel_rfl) (fun _ _ _ h => h) (Or.inl ⟨by rfl, ?_⟩) (by assumption) ?_
  rotate_left 1
  · intro w hSw
    obtain ⟨q0, q1, q2, q3, q4, q5, q6, q7, q8⟩ := hSw
    go_simp <;> with_reducible rfl
  simp only [Act.put, List.setIfInBounds_toArray]
  try simp only [List.set_cons_succ]
  try simp only [List.set_cons_zero]
  refine take1 (i := 20) (d := some 54) (v := ?_) rfl rfl (by kernel_rfl) (by kernel_rfl) (by kernel_rfl) (fun _ _ _ h => h) (Or.inl ⟨by rfl, ?_⟩) (by assumption) ?_
  rotate_left 1
  · intro w hSw
    obtain ⟨q0, q1, q2, q3, q4, q5, q6, q7, q8⟩ := hSw
    go_simp <;> with_reducible rfl
  simp only [Act.put, List.setIfInBounds_toArray]
  try simp only [List.set_cons_succ]
  try simp only [List.set_cons_zero]
  refine take1 (i := 21) (d := some 55) (v := ?_) rfl rfl (by kernel_rfl) (by kernel_rfl) (by kernel_rfl) (fun _ _ _ h => h) (Or.inl ⟨by rfl, ?_⟩) (by assumption) ?_
  rotate_left 1
  · intro w hSw
    obtain ⟨q0, q1, q2, q3, q4, q5, q6, q7, q8⟩ := hSw
    go_simp <;> with_reducible rfl
  simp only [Act.put, List.setIfInBounds_toArray]
  try simp only [List.set_cons_succ]
  try simp only [List.set_cons_zero]
  refine wpAnyH_done (by kernel_rfl) ?_ _
  obtain ⟨B2, z2, c2⟩ := HB.out _ BW
  have K2 := Hid.intro (HK.out.below B2 klt)
  obtain ⟨klt2, y0, y1, y2, y3, y4, y5, yf⟩ := K2.out
  clear HC HB hHeld cW fW j0 j2
  go_wp2
  go_ret
  exact ⟨_, rfl, fin_snap klt B2 K2.out (OwnE.nil _ _)⟩
end Go.Proofs.Ytkilepoimocoeaa
