/- FnExactKeptOk. -/
import Derived.Test.YtkilepoimocoeaaLawB
import Derived.Test.YtkilepoimocoeaaKeptS
namespace Go.Proofs.Ytkilepoimocoeaa
open Go.RowKit
set_option linter.unusedVariables false
set_option maxHeartbeats 2000000 in
theorem keptOk_law (K : Kp) (v : Value) (w : World) (hs : K.sd.size ≤ 9223372036854775807) (hr : RowE w w.heap.size v K.e) (hz : ∀ e ∈ K.e, e.d.size ≤ 9223372036854775807) :
    Calls Try.prog 5 #[kpV K v] w fun e w' => e = .returned (.bool true) ∧ Below w.heap.size w w' := by
  have HR := Hid.intro hr
  have HZ := Hid.intro hz
  clear hr hz
  go_enter Try.func5, Try.ntmps5
  go_wp2_with fail
  obtain ⟨W, hW, bW, zW, cW, fW⟩ := boxed w #[.int .i64 K.t, .int .i64 K.v, .int .i64 K.si, .int .i64 K.st, .string K.sd, v] 54
  simp only [hW]
  refine (szKept_any K v w.heap.size _ _ (by omega) hs (HR.out.kept bW) HZ.out (by omega) (by omega)).mono ?_
  rintro e w1 ⟨⟨n, rfl, hn⟩, b1⟩
  have c1 := keepC b1 (by omega) cW
  have z1 := b1.size
  have B1 := bW.trans (b1.mono (by omega))
  have hz1 : w.heap.size < w1.heap.size := by omega
  obtain ⟨n1, n2, n3⟩ := hn
  clear hW cW fW bW zW b1
  by_cases hneg : n < 0
  · clear n3
    go_wp2
    go_ret
    exact ⟨rfl, B1⟩
  · have hlen : K.e.length ≤ 1048576 := by have := n3 (by omega); omega
    have HL := Hid.intro hlen
    clear n1 n2 n3 hlen
    go_wp2_with fail
    refine (toKept_any K v w.heap.size _ (by omega) (HR.out.kept B1) HL.out).mono ?_
    rintro e w2 ⟨v2, rfl, o2, b2⟩
    replace c1 := keepC b2 (by omega) c1
    have B2 := B1.trans (b2.mono (by omega))
    have z2 : w.heap.size < w2.heap.size := by have := b2.size; omega
    clear B1 b2
    go_wp2_with fail
    refine (specKeptOk_any K v2 w2.heap.size w2 (Nat.le_refl _) o2.rowAll).mono ?_
    rintro e w3 ⟨rfl, b3⟩
    replace c1 := keepC b3 (by omega) c1
    have B3 := B2.trans (b3.mono (by omega))
    have z3 : w.heap.size < w3.heap.size := by have := b3.size; omega
    clear B2 b3 o2
    go_wp2_with fail
    refine (toKept_any K v w.heap.size _ (by omega) (HR.out.kept B3) HL.out).mono ?_
    rintro e w4 ⟨v4, rfl, o4, b4⟩
    obtain ⟨a4, cap4, rfl⟩ := o4.slice
    replace c1 := keepC b4 (by omega) c1
    have B4 := B3.trans (b4.mono (by omega))
    have z4 : w.heap.size < w4.heap.size := by have := b4.size; omega
    have HO := Hid.intro o4
    clear B3 b4 o4
    go_wp2_with fail
    obtain ⟨X, hX, bX, zX, cX, fX⟩ := boxed w4 #[.int .i64 K.t, .int .i64 K.v, .int .i64 K.si, .int .i64 K.st, .string K.sd, .slice a4 K.e.length cap4] 28
    simp only [hX]
    have HO5 := Hid.intro (HO.out.kept bX)
    replace c1 := keepC bX (by omega) c1
    have B5 := B4.trans (bX.mono (by omega))
    refine (keptOk_any K _ X.heap.size X (Nat.le_refl _) HO5.out.rowAll).mono ?_
    rintro e w6 ⟨rfl, b6⟩
    have HO6 := Hid.intro (HO5.out.kept b6)
    replace c1 := keepC b6 (by omega) c1
    replace cX := keepC b6 (by omega) cX
    have z6 : w4.heap.size < w6.heap.size := by have := b6.size; omega
    have B6 := B5.trans (b6.mono (by omega))
    have HR6 := Hid.intro (HR.out.kept B6)
    clear hX bX zX fX B4 B5 b6 HO HO5 HR
    have HC : Hid (∀ w', Below w6.heap.size w6 w' → (∀ o, w'.cell? ⟨w4.heap.size, o, none⟩ = #[.int .i64 K.t, .int .i64 K.v, .int .i64 K.si, .int .i64 K.st, .string K.sd, .slice a4 K.e.length cap4][o]?) ∧ OwnE w' w3.heap.size (.slice a4 K.e.length cap4) K.e ∧ RowE w' w.heap.size v K.e ∧ w.heap.size ≤ w'.heap.size ∧ w4.heap.size < w'.heap.size ∧ Below w.heap.size w w') :=
      fun w' hb => ⟨keepC hb (by omega) cX, HO6.out.kept hb, HR6.out.kept (hb.mono (by omega)), by have := hb.size; omega, by have := hb.size; omega, B6.trans (hb.mono (by omega))⟩
    clear B6 HR6 HO6
    cases hb : keptB K with
    | true =>
      go_wp2
      go_region_with (first
        | (go_at_call 27; refine (toKept_any K v w.heap.size _ (HC.out _ (by first | exact (Below.refl _ _).drew | exact Below.refl _ _ | exact (Below.refl _ _).drew.drew)).2.2.2.1 (HC.out _ (by first | exact (Below.refl _ _).drew | exact Below.refl _ _ | exact (Below.refl _ _).drew.drew)).2.2.1 HL.out).mono ?_; rintro e w7 ⟨v7, rfl, o7, b7⟩; obtain ⟨a7, cap7, rfl⟩ := o7.slice; obtain ⟨cY, oY, _, _, zY, B7⟩ := HC.out w7 (by first | exact b7 | exact ((Below.refl _ _).drew).trans b7 | exact ((Below.refl _ _).drew.drew).trans b7); have HY := Hid.intro oY; have H7 := Hid.intro o7; clear b7 o7 oY)
        | (go_at_call 29; refine (eqKept_any K _ _ w7.heap.size w7 (Nat.le_refl _) HY.out.rowAll H7.out.rowAll).mono ?_; rintro e w8 ⟨rfl, b8⟩; have B8 := B7.trans (b8.mono (by have := B7.size; omega)); clear b8))
      all_goals
        clear HC
        go_wp2
        go_ret
        exact ⟨rfl, B8⟩
    | false =>
      go_wp2
      go_region_with (first
        | (go_at_call 27; refine (toKept_any K v w.heap.size _ (HC.out _ (by first | exact (Below.refl _ _).drew | exact Below.refl _ _ | exact (Below.refl _ _).drew.drew)).2.2.2.1 (HC.out _ (by first | exact (Below.refl _ _).drew | exact Below.refl _ _ | exact (Below.refl _ _).drew.drew)).2.2.1 HL.out).mono ?_; rintro e w7 ⟨v7, rfl, o7, b7⟩; obtain ⟨a7, cap7, rfl⟩ := o7.slice; obtain ⟨cY, oY, _, _, zY, B7⟩ := HC.out w7 (by first | exact b7 | exact ((Below.refl _ _).drew).trans b7 | exact ((Below.refl _ _).drew.drew).trans b7); have HY := Hid.intro oY; have H7 := Hid.intro o7; clear b7 o7 oY)
        | (go_at_call 29; refine (eqKept_any K _ _ w7.heap.size w7 (Nat.le_refl _) HY.out.rowAll H7.out.rowAll).mono ?_; rintro e w8 ⟨rfl, b8⟩; have B8 := B7.trans (b8.mono (by have := B7.size; omega)); clear b8))
      all_goals
        clear HC
        go_wp2
        go_ret
        exact ⟨rfl, B8⟩
end Go.Proofs.Ytkilepoimocoeaa
