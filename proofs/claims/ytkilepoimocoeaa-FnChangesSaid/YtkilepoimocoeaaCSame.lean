/- sameEntries, sameKept: what is the same is said to be. -/
import Derived.Test.YtkilepoimocoeaaChA
namespace Go.Proofs.Ytkilepoimocoeaa
open Go.RowKit
set_option linter.unusedVariables false
set_option maxRecDepth 100000 in
set_option maxHeartbeats 1600000 in
theorem sameEntries_same (L : List En) (v u : Value) (N : Nat) (w : World) (hN : N ≤ w.heap.size) (h1 : RowE w N v L) (h2 : RowE w N u L) :
    Calls Try.prog 53 #[v, u] w fun e w' => e = .returned (.bool true) ∧ Below w.heap.size w w' := by
  obtain ⟨a1, cap1, rfl, l1, m1, hc1⟩ := h1
  obtain ⟨a2, cap2, rfl, l2, m2, hc2⟩ := h2
  have H1 := Hid.intro hc1
  have H2 := Hid.intro hc2
  clear hc1 hc2
  go_enter Try.func53, Try.ntmps53
  go_wp2
  go_loopw [5] (fun i wr => ∃ (j : Nat), i = .int .i64 j ∧ j ≤ L.length ∧ Below w.heap.size w wr) (fun i _ => L.length - (intOf i).toNat)
  case atStart => exact ⟨0, rfl, Nat.zero_le _, Below.refl _ _⟩
  case round =>
    obtain ⟨j, rfl, hj1, hbel⟩ := hrel
    have HB := Hid.intro hbel
    clear hbel
    by_cases hl1 : j < L.length
    · have hne1 : L ≠ [] := by intro h; rw [h] at hl1; simp at hl1
      obtain ⟨b1, o1, rfl, hb1, cc1⟩ := H1.out hne1
      obtain ⟨b2, o2, rfl, hb2, cc2⟩ := H2.out hne1
      obtain ⟨p0, p1⟩ := cc1 j hl1
      obtain ⟨q0, q1⟩ := cc2 j hl1
      generalize L[j] = ea at p0 p1 q0 q1
      have hp0 := atCell HB.out p0 (by omega)
      have hp1 := atCell HB.out p1 (by omega)
      have hq0 := atCell HB.out q0 (by omega)
      have hq1 := atCell HB.out q1 (by omega)
      have i1 : (j : Int) < (L.length : Int) := by omega
      clear cc1 cc2 p0 p1 q0 q1 hne1
      obtain ⟨t1, d1⟩ := ea
      simp only at hp0 hp1 hq0 hq1
      go_wp2
      go_quiet (fail)
      go_wp2
      go_roundw
      case rel => exact ⟨j + 1, by go_num, by omega, by first | exact HB.out | exact below_drewN9 HB.out _⟩
      case measure => simp [intOf]; omega
    · have i1 : ¬ (j : Int) < (L.length : Int) := by omega
      go_wp2
      go_ret
      exact ⟨rfl, HB.out⟩
set_option maxRecDepth 100000 in
set_option maxHeartbeats 1600000 in
theorem sameKept_same (K : Kp) (v u : Value) (N : Nat) (w : World) (hN : N ≤ w.heap.size) (h1 : RowE w N v K.e) (h2 : RowE w N u K.e) :
    Calls Try.prog 18 #[kpV K v, kpV K u] w fun e w' => e = .returned (.bool true) ∧ Below w.heap.size w w' := by
  have H1 := Hid.intro h1
  have H2 := Hid.intro h2
  obtain ⟨a1, cap1, rfl, -, -, -⟩ := h1
  obtain ⟨a2, cap2, rfl, -, -, -⟩ := h2
  go_enter Try.func18, Try.ntmps18
  go_wp2_with fail
  have bX := ((Below.refl w.heap.size w).alloc (Nat.le_refl _) (.cells #[.int .i64 K.t, .int .i64 K.v, .int .i64 K.si, .int .i64 K.st, .string K.sd, .slice a1 K.e.length cap1] 28)).alloc (by simp) (.cells #[.int .i64 K.t, .int .i64 K.v, .int .i64 K.si, .int .i64 K.st, .string K.sd, .slice a2 K.e.length cap2] 28)
  refine (sameEntries_same K.e _ _ N _ (by simp; omega) (H1.out.kept (bX.mono hN)) (H2.out.kept (bX.mono hN))).mono ?_
  rintro e w1 ⟨rfl, b1⟩
  have HB := Hid.intro (bX.trans (b1.mono (by simp; omega)))
  clear b1 bX
  go_wp2
  go_ret
  exact ⟨by first | rfl | simp, HB.out⟩
end Go.Proofs.Ytkilepoimocoeaa
