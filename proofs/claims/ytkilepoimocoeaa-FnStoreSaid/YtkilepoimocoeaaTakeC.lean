/- takeCut. -/
import Derived.Test.YtkilepoimocoeaaTakeH
import Derived.Deep.RegionWith
namespace Go.Proofs.Ytkilepoimocoeaa
open Go.RowKit
set_option linter.unusedVariables false
theorem OwnE.sliceN {w : World} {base n : Nat} {v : Value} {L : List En} (h : OwnE w base v L) (hn : L.length = n) : ∃ a cap, v = .slice a n cap := by subst hn; exact h.slice
set_option maxRecDepth 100000 in
set_option maxHeartbeats 4000000 in
theorem takeCut_no (K : Kp) (a : Option Addr) (cap kb : Nat) (i : Int) (w : World) (hk : KAt w kb K (.slice a K.e.length cap)) (hs : Sm K) (h : inB i (K.si + 1) (K.si + K.e.length) = false) :
    Calls Try.prog 82 #[.pointer (some ⟨kb, 0, none⟩), .agg #[.int .i64 i]] w fun e w' => e = .returned (.bool false) ∧ Below w.heap.size w w' := by
  obtain ⟨klt, k0, k1, k2, k3, k4, k5, kf⟩ := hk
  have hne : ¬ kb = w.heap.size := by omega
  go_enter Try.func82, Try.ntmps82
  go_wp2
  obtain ⟨W, hW, bW, zW, cW, fW⟩ := boxed w #[.int .i64 i] 94
  simp only [hW]
  have j0 := atCell bW k0 klt
  have j1 := atCell bW k1 klt
  have j2 := atCell bW k2 klt
  have j3 := atCell bW k3 klt
  have j4 := atCell bW k4 klt
  have j5 := atCell bW k5 klt
  have HC : Hid (∀ w', Below W.heap.size W w' → (∀ o, w'.cell? ⟨w.heap.size, o, none⟩ = #[.int .i64 i][o]?) ∧ Below w.heap.size w w') := fun w' hb => ⟨keepC hb (by omega) cW, bW.trans (hb.mono (by omega))⟩
  clear hW k0 k1 k2 k3 k4 k5 kf zW bW
  go_region_with (go_at_call 93; refine (has_any K _ _ _ _ _ rfl hs).mono ?_; rintro e w2 ⟨rfl, b2⟩; obtain ⟨d1, B2⟩ := HC.out w2 (by first | exact b2 | exact ((Below.refl _ _).drew).trans b2 | exact ((Below.refl _ _).drew.drew).trans b2); clear b2)
  all_goals
    clear HC
    go_wp2
    go_ret
    exact ⟨rfl, B2⟩
set_option maxRecDepth 100000 in
set_option maxHeartbeats 4000000 in
theorem takeCut_yes (K : Kp) (a : Option Addr) (cap kb N n : Nat) (i : Int) (w : World) (hk : KAt w kb K (.slice a K.e.length cap)) (hs : Sm K) (hN : N ≤ w.heap.size) (hr : RowE w N (.slice a K.e.length cap) K.e) (hn : i = K.si + 1 + n) (hnl : n < K.e.length) :
    Calls Try.prog 82 #[.pointer (some ⟨kb, 0, none⟩), .agg #[.int .i64 i]] w fun e w' => ∃ v', e = .returned (.bool true) ∧ KAt w' kb { K with e := K.e.take n } v' ∧ OwnE w' w.heap.size v' (K.e.take n) ∧ Took kb (.slice a K.e.length cap) w w' := by
  have HK := Hid.intro hk
  have HR := Hid.intro hr
  have HS := Hid.intro hs
  obtain ⟨klt, k0, k1, k2, k3, k4, k5, kf⟩ := hk
  obtain ⟨s1, s2, s3⟩ := hs
  obtain ⟨a', cap', hv, q1, q2, q3⟩ := hr
  simp only [Value.slice.injEq, true_and] at hv
  obtain ⟨rfl, rfl⟩ := hv
  obtain ⟨b, off, rfl, hbN, _⟩ := q3 (by intro h; rw [h] at hnl; simp at hnl)
  clear q3
  have hne : ¬ kb = w.heap.size := by omega
  have hin : inB i (K.si + 1) (K.si + K.e.length) = true := inB_true (by omega)
  have e1 : i - K.si = (n : Int) + 1 := by omega
  have e2 : IntKind.i64.wrap ((n : Int) + 1) = (n : Int) + 1 := wraps_i64 _ (by omega) (by omega)
  have e3 : IntKind.i64.wrap ((n : Int) + 1 - 1) = (n : Int) := by rw [show (n : Int) + 1 - 1 = n by omega]; exact wraps_i64 _ (by omega) (by omega)
  have e4 : IntKind.i64.wrap ((n : Int)) = (n : Int) := wraps_i64 _ (by omega) (by omega)
  have e5 : n ≤ cap := by omega
  have hlen : Hid ((K.e.take n).length = n) := by unfold Hid; simp; omega
  have e6 : (n : Int) ≤ (cap : Int) := by omega
  have e7 : (0 : Int) ≤ (n : Int) := by omega
  have e8 : ¬ cap = 0 := by omega
  have e9 : ¬ 0 = cap := by omega
  have e10 : ¬ (n : Int) < 0 := by omega
  have e11 : ¬ cap < n := by omega
  have e12 : ¬ (cap : Int) < (n : Int) := by omega
  have e13 : (n : Int).toNat = n := by omega
  clear hn
  go_enter Try.func82, Try.ntmps82
  go_wp2
  obtain ⟨W, hW, bW, zW, cW, fW⟩ := boxed w #[.int .i64 i] 94
  simp only [hW]
  have j0 := atCell bW k0 klt
  have j1 := atCell bW k1 klt
  have j2 := atCell bW k2 klt
  have j3 := atCell bW k3 klt
  have j4 := atCell bW k4 klt
  have j5 := atCell bW k5 klt
  have HC : Hid (∀ w', Below W.heap.size W w' → (∀ o, w'.cell? ⟨w.heap.size, o, none⟩ = #[.int .i64 i][o]?) ∧ Below w.heap.size w w' ∧ w.heap.size < w'.heap.size) := fun w' hb => ⟨keepC hb (by omega) cW, bW.trans (hb.mono (by omega)), by have := hb.size; omega⟩
  clear hW k0 k1 k2 k3 k4 k5 kf zW bW
  go_region_with (go_at_call 93; refine (has_any K _ _ _ _ _ rfl HS.out).mono ?_; rintro e w2 ⟨rfl, b2⟩; obtain ⟨d1, B2, z2⟩ := HC.out w2 (by first | exact b2 | exact ((Below.refl _ _).drew).trans b2 | exact ((Below.refl _ _).drew.drew).trans b2); clear b2)
  all_goals
    have K2 := Hid.intro (HK.out.below B2 klt)
    have R2 := Hid.intro (HR.out.kept (B2.mono hN))
    clear HC j0 j1 j2 j3 j4 j5 cW fW
    obtain ⟨_, j0, j1, j2, j3, j4, j5, jf⟩ := K2.out
    have klt2 : kb < w2.heap.size := by omega
    have HQ : Hid (∀ w', Below w2.heap.size w2 w' → RowE w' N (.slice (some ⟨b, off, none⟩) n cap) (K.e.take n) ∧ N ≤ w'.heap.size) := fun w' hb => ⟨RowE.take (R2.out.kept (hb.mono (by omega))) (by omega), by have := hb.size; omega⟩
    have HD : Hid (∀ w', Below w2.heap.size w2 w' → KAt w' kb K (.slice (some ⟨b, off, none⟩) K.e.length cap) ∧ Took kb (.slice (some ⟨b, off, none⟩) K.e.length cap) w w' ∧ w.heap.size < w'.heap.size) := fun w' hb => ⟨K2.out.below hb klt2, (Took.of_below B2 klt).below hb klt, by have := hb.size; omega⟩
    go_wp2
    go_simp
    go_region_with (go_at_call 79; refine (copiedEntries_any (K.e.take n) _ N _ (HQ.out _ (by first | exact (Below.refl _ _).drew | exact Below.refl _ _ | exact (Below.refl _ _).drew.drew)).2 (HQ.out _ (by first | exact (Below.refl _ _).drew | exact Below.refl _ _ | exact (Below.refl _ _).drew.drew)).1 (by simp; omega)).mono ?_; rintro e w3 ⟨v', rfl, o3, b3⟩; obtain ⟨a', cap', rfl⟩ := o3.sliceN hlen.out; obtain ⟨K3, T3, z3⟩ := HD.out w3 (by first | exact b3 | exact ((Below.refl _ _).drew).trans b3 | exact ((Below.refl _ _).drew.drew).trans b3); have HO := Hid.intro o3; have HK3 := Hid.intro K3; have HT3 := Hid.intro T3; have x5 := K3.c5; have xf := K3.f; clear b3 o3 K3 T3)
    all_goals
      clear HQ HD
      go_wp2
      go_ret
      refine ⟨_, rfl, (HK3.out.set5 _).ents _, ?_, HT3.out.setCell (by omega) _⟩
      exact OwnE.lower (OwnE.only HO.out ((Only.refl (fun k => k = kb) _).setCell rfl _) (fun k hk h => by have : w2.heap.size ≤ k := (HO.out.lt k hk).1; omega)) (show w.heap.size ≤ w2.heap.size by omega)
end Go.Proofs.Ytkilepoimocoeaa
