/- The law StateOk. -/
import Derived.Test.YtegdogdlohoheaaXSta
namespace Go.Proofs.Ytegdogdlohoheaa
open Go.RowKit
set_option linter.unusedVariables false
set_option maxRecDepth 100000 in
set_option maxHeartbeats 4000000 in
theorem stateOk_law (L : List Ten) (v : Value) (w : World) (hr : StR w w.heap.size v L) (hd : ∀ t ∈ L, TenW t) :
    Calls Try.prog 4 #[v] w fun e w' => e = .returned (.bool true) ∧ Below w.heap.size w w' := by
  have HR := Hid.intro hr
  have HW := Hid.intro hd
  clear hr hd
  go_enter Try.func4, Try.ntmps4
  go_wp2_with fail
  refine (szTenantS_any L v w.heap.size _ _ (Nat.le_refl _) HR.out HW.out (by omega) (by omega)).mono ?_
  rintro e w1 ⟨⟨n, rfl, hS⟩, b1⟩
  have z1 := b1.size
  have HB := Hid.intro b1
  have HS := Hid.intro hS.out
  clear b1 hS
  by_cases hneg : n < 0
  · go_wp2
    go_ret
    exact ⟨rfl, HB.out⟩
  · have HL : Hid (L.length ≤ 1048576 ∧ ∀ t ∈ L, TenL t) := ⟨by have := (HS.out (by omega)).1; omega, (HS.out (by omega)).2⟩
    clear HS
    go_wp2_with fail
    refine (toTenantS_any L v w.heap.size _ z1 (HR.out.kept HB.out) HL.out.1 HL.out.2).mono ?_
    rintro e w2 ⟨v2, M2, rfl, o2, k2, b2⟩
    have z2 := b2.size
    have HR2 := Hid.intro o2.rowAll
    have HK2 := Hid.intro k2
    replace HB := Hid.intro (HB.out.trans (b2.mono z1))
    clear o2 b2 k2
    go_wp2_with fail
    refine (specStateOk_any M2 v2 w2.heap.size _ (Nat.le_refl _) HR2.out (TenW.of_keys HK2.out HW.out)).mono ?_
    rw [stateB_key HK2.out]
    rintro e w3 ⟨rfl, b3⟩
    have z3 := b3.size
    replace HB := Hid.intro (HB.out.trans (b3.mono (by omega)))
    clear b3 HR2 HK2
    go_wp2_with fail
    refine (toTenantS_any L v w.heap.size _ (by omega) (HR.out.kept HB.out) HL.out.1 HL.out.2).mono ?_
    rintro e w4 ⟨v4, M4, rfl, o4, k4, b4⟩
    have z4 := b4.size
    have HR4 := Hid.intro o4.rowAll
    have HK4 := Hid.intro k4
    replace HB := Hid.intro (HB.out.trans (b4.mono (by omega)))
    clear o4 b4 k4
    go_wp2_with fail
    refine (implStateOk_any M4 v4 w4.heap.size _ (Nat.le_refl _) HR4.out (TenW.of_keys HK4.out HW.out)).mono ?_
    rw [stateB_key HK4.out]
    rintro e w5 ⟨rfl, b5⟩
    have z5 := b5.size
    replace HB := Hid.intro (HB.out.trans (b5.mono (by omega)))
    replace HR4 := Hid.intro (HR4.out.kept b5)
    clear b5
    cases hb : stateB L with
    | true =>
      go_wp2_with fail
      refine (toTenantS_any L v w.heap.size _ (by omega) (HR.out.kept HB.out) HL.out.1 HL.out.2).mono ?_
      rintro e w6 ⟨v6, M6, rfl, o6, k6, b6⟩
      have z6 := b6.size
      have HR6 := Hid.intro o6.rowAll
      have HK6 : Hid (M4.map Ten.key = M6.map Ten.key) := HK4.out.trans k6.symm
      replace HB := Hid.intro (HB.out.trans (b6.mono (by omega)))
      replace HR4 := Hid.intro ((HR4.out.kept (b6.mono z5)).up (by omega : w4.heap.size ≤ w6.heap.size))
      clear o6 b6 k6
      go_wp2_with fail
      refine (eqTenantS_any M4 M6 v4 v6 w6.heap.size _ (Nat.le_refl _) HR4.out HR6.out HK6.out).mono ?_
      rintro e w7 ⟨rfl, b7⟩
      replace HB := Hid.intro (HB.out.trans (b7.mono (by omega)))
      clear b7
      go_wp2
      go_ret
      exact ⟨rfl, HB.out⟩
    | false =>
      go_wp2_with fail
      refine (toTenantS_any L v w.heap.size _ (by omega) (HR.out.kept HB.out) HL.out.1 HL.out.2).mono ?_
      rintro e w6 ⟨v6, M6, rfl, o6, k6, b6⟩
      have z6 := b6.size
      have HR6 := Hid.intro o6.rowAll
      have HK6 : Hid (M4.map Ten.key = M6.map Ten.key) := HK4.out.trans k6.symm
      replace HB := Hid.intro (HB.out.trans (b6.mono (by omega)))
      replace HR4 := Hid.intro ((HR4.out.kept (b6.mono z5)).up (by omega : w4.heap.size ≤ w6.heap.size))
      clear o6 b6 k6
      go_wp2_with fail
      refine (eqTenantS_any M4 M6 v4 v6 w6.heap.size _ (Nat.le_refl _) HR4.out HR6.out HK6.out).mono ?_
      rintro e w7 ⟨rfl, b7⟩
      replace HB := Hid.intro (HB.out.trans (b7.mono (by omega)))
      clear b7
      go_wp2
      go_ret
      exact ⟨rfl, HB.out⟩
end Go.Proofs.Ytegdogdlohoheaa
