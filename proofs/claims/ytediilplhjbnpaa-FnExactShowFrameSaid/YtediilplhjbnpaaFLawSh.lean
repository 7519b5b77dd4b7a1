/- The law ShowFrame. -/
import Derived.Test.YtediilplhjbnpaaFLawS
import Derived.Test.YtediilplhjbnpaaFShow
namespace Go.Proofs.Ytediilplhjbnpaa
open Go.RowKit
set_option linter.unusedVariables false
set_option maxRecDepth 100000 in
set_option maxHeartbeats 4000000 in
theorem showFrame_law (L : List Sl) (v : Value) (w : World) (hr : Row slE w w.heap.size v L) (hd : ∀ a ∈ L, CaW a.x) :
    Calls Try.prog 5 #[v] w fun e w' => e = .returned (.bool true) ∧ Below w.heap.size w w' := by
  have HR := Hid.intro hr
  clear hr
  go_enter Try.func5, Try.ntmps5
  go_wp2_with fail
  refine (szSlotS_any L v w.heap.size _ _ (Nat.le_refl _) HR.out hd (by omega) (by omega)).mono ?_
  rintro e w1 ⟨⟨n, rfl, hn, hS⟩, b1⟩
  have z1 := b1.size
  have HB := Hid.intro b1
  clear b1
  by_cases hneg : n < 0
  · go_wp2
    go_ret
    exact ⟨rfl, HB.out⟩
  · have hlen : L.length ≤ 1048576 := by have := hS (by omega); omega
    have HL := Hid.intro hlen
    clear hn hS hlen
    go_wp2_with fail
    refine (toSlotS_any L v w.heap.size _ z1 (HR.out.kept HB.out) HL.out).mono ?_
    rintro e w2 ⟨v2, rfl, n2⟩
    have z2 := n2.bel.size
    have HR2 := Hid.intro n2.own.rowAll
    replace HB := Hid.intro (HB.out.trans (n2.bel.mono z1))
    clear n2
    go_wp2_with fail
    refine (specShowFrame_any L v2 w2.heap.size _ (Nat.le_refl _) HR2.out).mono ?_
    rintro e w3 ⟨rfl, b3⟩
    have z3 := b3.size
    replace HB := Hid.intro (HB.out.trans (b3.mono (by omega)))
    clear b3 HR2
    go_wp2_with fail
    refine (toSlotS_any L v w.heap.size _ (by omega) (HR.out.kept HB.out) HL.out).mono ?_
    rintro e w4 ⟨v4, rfl, n4⟩
    have z4 := n4.bel.size
    have HR4 := Hid.intro n4.own.rowAll
    replace HB := Hid.intro (HB.out.trans (n4.bel.mono (by omega)))
    clear n4
    go_wp2_with fail
    refine (implShowFrame_any L v4 w4.heap.size _ (Nat.le_refl _) HR4.out).mono ?_
    rintro e w5 ⟨rfl, b5⟩
    have z5 := b5.size
    replace HB := Hid.intro (HB.out.trans (b5.mono (by omega)))
    replace HR4 := Hid.intro (HR4.out.kept b5)
    clear b5
    have hb1 : ((shF L).toList == (shF L).toList) = true := beq_self_eq_true _
    have hb2 : ((shF L).toList != (shF L).toList) = false := by simp
    generalize shF L = sh at hb1 hb2 ⊢
    go_wp2_with fail
    refine (toSlotS_any L v w.heap.size _ (by omega) (HR.out.kept HB.out) HL.out).mono ?_
    rintro e w6 ⟨v6, rfl, n6⟩
    have z6 := n6.bel.size
    have HR6 := Hid.intro n6.own.rowAll
    replace HB := Hid.intro (HB.out.trans (n6.bel.mono (by omega)))
    replace HR4 := Hid.intro ((HR4.out.kept (n6.bel.mono z5)).up (by omega : w4.heap.size ≤ w6.heap.size))
    clear n6
    go_wp2_with fail
    refine (eqSlotS_any L v4 v6 w6.heap.size _ (Nat.le_refl _) HR4.out HR6.out).mono ?_
    rintro e w7 ⟨rfl, b7⟩
    replace HB := Hid.intro (HB.out.trans (b7.mono (by omega)))
    clear b7
    go_wp2
    go_ret
    exact ⟨rfl, HB.out⟩
end Go.Proofs.Ytediilplhjbnpaa
