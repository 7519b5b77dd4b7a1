/- l3Fits at an entry. -/
import Derived.Test.YtkilepoimocoeaaFitsS
import Derived.Test.YtkilepoimocoeaaRecIC
namespace Go.Proofs.Ytkilepoimocoeaa
open Go.RowKit
set_option linter.unusedVariables false
set_option maxRecDepth 100000 in
set_option maxHeartbeats 4000000 in
theorem l3Fits_2no (K : Kp) (a : Option Addr) (cap : Nat) (t i v : Int) (d : ByteArray) (w : World) (hs : Sx K) (h : ¬ i = K.si + K.e.length + 1 ∨ ¬ K.e.length < 60) :
    Calls Try.prog 78 #[kpV K (.slice a K.e.length cap), rcV ⟨2, t, i, v, d⟩] w fun e w' => e = .returned (.bool false) ∧ Below w.heap.size w w' := by
  obtain ⟨s1, s2, s3⟩ := hs
  have hw : IntKind.i64.wrap (K.si + K.e.length + 1) = K.si + K.e.length + 1 := wraps_i64 _ (by omega) (by omega)
  by_cases h1 : i = K.si + K.e.length + 1
  · subst h1
    have h2 : 60 ≤ (K.e.length : Int) := by omega
    have h3 : ¬ (K.e.length : Int) < 60 := by omega
    have h5 : decide ((K.e.length : Int) < 60) = false := decide_eq_false h3
    go_enter Try.func78, Try.ntmps78
    go_wp2
    obtain ⟨W, hW, bW, zW, c1, f1, c2, f2⟩ := boxed2 w #[.int .i64 K.t, .int .i64 K.v, .int .i64 K.si, .int .i64 K.st, .string K.sd, .slice a K.e.length cap] #[.int .i64 2, .int .i64 t, .int .i64 (K.si + K.e.length + 1), .int .i64 v, .string d] 28 43
    simp only [hW]
    clear hW zW
    go_quiet (fail)
    all_goals
      go_wp2
      go_ret
      exact ⟨rfl, bW.trans (drewN_below _ _ _)⟩
  · have h4 : (i == K.si + K.e.length + 1) = false := by simpa using h1
    go_enter Try.func78, Try.ntmps78
    go_wp2
    obtain ⟨W, hW, bW, zW, c1, f1, c2, f2⟩ := boxed2 w #[.int .i64 K.t, .int .i64 K.v, .int .i64 K.si, .int .i64 K.st, .string K.sd, .slice a K.e.length cap] #[.int .i64 2, .int .i64 t, .int .i64 i, .int .i64 v, .string d] 28 43
    simp only [hW]
    clear hW zW
    go_quiet (fail)
    all_goals
      go_wp2
      go_ret
      exact ⟨rfl, bW.trans (drewN_below _ _ _)⟩
set_option maxRecDepth 100000 in
set_option maxHeartbeats 4000000 in
theorem l3Fits_2yes (K : Kp) (a : Option Addr) (cap N : Nat) (t i v : Int) (d : ByteArray) (w : World) (hN : N ≤ w.heap.size) (hr : RowE w N (.slice a K.e.length cap) K.e) (hs : Sx K) (h1 : i = K.si + K.e.length + 1) (h2 : K.e.length < 60) :
    Calls Try.prog 78 #[kpV K (.slice a K.e.length cap), rcV ⟨2, t, i, v, d⟩] w fun e w' => e = .returned (.bool (decide (lastT K ≤ t) && decide (t ≤ K.t))) ∧ Below w.heap.size w w' := by
  obtain ⟨s1, s2, s3⟩ := hs
  have HR := Hid.intro hr
  clear hr
  have hw : IntKind.i64.wrap (K.si + K.e.length + 1) = K.si + K.e.length + 1 := wraps_i64 _ (by omega) (by omega)
  have h3 : (K.e.length : Int) < 60 := by omega
  have h4 : (i == K.si + K.e.length + 1) = true := by simpa using h1
  have h5 : decide ((K.e.length : Int) < 60) = true := decide_eq_true h3
  subst h1
  cases h6 : decide (lastT K ≤ t) with
  | true =>
    go_enter Try.func78, Try.ntmps78
    go_wp2
    obtain ⟨W, hW, bW, zW, c1, f1, c2, f2⟩ := boxed2 w #[.int .i64 K.t, .int .i64 K.v, .int .i64 K.si, .int .i64 K.st, .string K.sd, .slice a K.e.length cap] #[.int .i64 2, .int .i64 t, .int .i64 (K.si + K.e.length + 1), .int .i64 v, .string d] 28 43
    simp only [hW]
    have HC : Hid (∀ w', Below W.heap.size W w' → (∀ o, w'.cell? ⟨w.heap.size, o, none⟩ = #[.int .i64 K.t, .int .i64 K.v, .int .i64 K.si, .int .i64 K.st, .string K.sd, .slice a K.e.length cap][o]?) ∧ (∀ o, w'.cell? ⟨w.heap.size + 1, o, none⟩ = #[.int .i64 2, .int .i64 t, .int .i64 (K.si + K.e.length + 1), .int .i64 v, .string d][o]?) ∧ Below w.heap.size w w') :=
      fun w' hb => ⟨keepC hb (by omega) c1, keepC hb (by omega) c2, bW.trans (hb.mono (by omega))⟩
    have HQ : Hid (∀ w', Below W.heap.size W w' → RowE w' N (.slice a K.e.length cap) K.e ∧ N ≤ w'.heap.size) := fun w' hb => ⟨HR.out.kept ((bW.trans (hb.mono (by omega))).mono hN), by have := hb.size; omega⟩
    clear hW zW bW
    first | go_region_with (go_at_call 91; refine (l3LastTerm_any K _ N _ (HQ.out _ (by first | exact (Below.refl _ _).drew | exact Below.refl _ _ | exact (Below.refl _ _).drew.drew)).2 (HQ.out _ (by first | exact (Below.refl _ _).drew | exact Below.refl _ _ | exact (Below.refl _ _).drew.drew)).1 (by omega)).mono ?_; rintro e w2 ⟨rfl, b2⟩; obtain ⟨d1, d2, B2⟩ := HC.out w2 (by first | exact b2 | exact ((Below.refl _ _).drew).trans b2 | exact ((Below.refl _ _).drew.drew).trans b2); clear b2) | fail
    all_goals
      clear HC HQ
      go_wp2
      go_ret
      exact ⟨rfl, B2⟩
  | false =>
    have h7 : ¬ lastT K ≤ t := of_decide_eq_false h6
    have h8 : t < lastT K := by omega
    have h9 : decide (t < lastT K) = true := decide_eq_true h8
    go_enter Try.func78, Try.ntmps78
    go_wp2
    obtain ⟨W, hW, bW, zW, c1, f1, c2, f2⟩ := boxed2 w #[.int .i64 K.t, .int .i64 K.v, .int .i64 K.si, .int .i64 K.st, .string K.sd, .slice a K.e.length cap] #[.int .i64 2, .int .i64 t, .int .i64 (K.si + K.e.length + 1), .int .i64 v, .string d] 28 43
    simp only [hW]
    have HC : Hid (∀ w', Below W.heap.size W w' → (∀ o, w'.cell? ⟨w.heap.size, o, none⟩ = #[.int .i64 K.t, .int .i64 K.v, .int .i64 K.si, .int .i64 K.st, .string K.sd, .slice a K.e.length cap][o]?) ∧ (∀ o, w'.cell? ⟨w.heap.size + 1, o, none⟩ = #[.int .i64 2, .int .i64 t, .int .i64 (K.si + K.e.length + 1), .int .i64 v, .string d][o]?) ∧ Below w.heap.size w w') :=
      fun w' hb => ⟨keepC hb (by omega) c1, keepC hb (by omega) c2, bW.trans (hb.mono (by omega))⟩
    have HQ : Hid (∀ w', Below W.heap.size W w' → RowE w' N (.slice a K.e.length cap) K.e ∧ N ≤ w'.heap.size) := fun w' hb => ⟨HR.out.kept ((bW.trans (hb.mono (by omega))).mono hN), by have := hb.size; omega⟩
    clear hW zW bW
    first | go_region_with (go_at_call 91; refine (l3LastTerm_any K _ N _ (HQ.out _ (by first | exact (Below.refl _ _).drew | exact Below.refl _ _ | exact (Below.refl _ _).drew.drew)).2 (HQ.out _ (by first | exact (Below.refl _ _).drew | exact Below.refl _ _ | exact (Below.refl _ _).drew.drew)).1 (by omega)).mono ?_; rintro e w2 ⟨rfl, b2⟩; obtain ⟨d1, d2, B2⟩ := HC.out w2 (by first | exact b2 | exact ((Below.refl _ _).drew).trans b2 | exact ((Below.refl _ _).drew.drew).trans b2); clear b2) | fail
    all_goals
      clear HC HQ
      go_wp2
      go_ret
      exact ⟨rfl, B2⟩
end Go.Proofs.Ytkilepoimocoeaa
