/- The laws SlotOk and FrameOk. -/
import Derived.Test.YtediilplhjbnpaaFLawS
import Derived.Test.YtediilplhjbnpaaFSlotS
namespace Go.Proofs.Ytediilplhjbnpaa
open Go.RowKit
set_option linter.unusedVariables false
set_option maxRecDepth 100000 in
set_option maxHeartbeats 4000000 in
theorem slotOk_law (a : Sl) (w : World) (hd : CaW a.x) :
    Calls Try.prog 3 #[slV a] w fun e w' => e = .returned (.bool true) ∧ Below w.heap.size w w' := by
  go_enter Try.func3, Try.ntmps3
  go_wp2_with fail
  obtain ⟨W, hW, bW, zW, c1, f1⟩ := boxed w (slA a) 25
  simp only [hW]
  refine (szSlot_any a _ _ (by omega) (by omega) hd).mono ?_
  rintro e w1 ⟨⟨n, rfl, hn, hS⟩, b1⟩
  replace c1 := keepC b1 (by omega) c1
  have z1 := b1.size
  have HB := Hid.intro (bW.trans (b1.mono (by omega)))
  have hz1 : w.heap.size < w1.heap.size := by omega
  clear hW f1 bW zW b1 hS
  by_cases hneg : n < 0
  · go_wp2
    go_ret
    exact ⟨rfl, HB.out⟩
  · clear hn
    go_wp2_with fail
    refine (toSlot_any a _).mono ?_
    rintro e w2 ⟨rfl, b2⟩
    replace c1 := keepC b2 (by omega) c1
    have z2 := b2.size
    replace HB := Hid.intro (HB.out.trans (b2.mono (by omega)))
    have hz2 : w.heap.size < w2.heap.size := by omega
    clear b2
    go_wp2_with fail
    refine (specSlotOk_any a _).mono ?_
    rintro e w3 ⟨rfl, b3⟩
    replace c1 := keepC b3 (by omega) c1
    have z3 := b3.size
    replace HB := Hid.intro (HB.out.trans (b3.mono (by omega)))
    have hz3 : w.heap.size < w3.heap.size := by omega
    clear b3
    go_wp2_with fail
    refine (toSlot_any a _).mono ?_
    rintro e w4 ⟨rfl, b4⟩
    have z4 := b4.size
    replace HB := Hid.intro (HB.out.trans (b4.mono (by omega)))
    clear c1 b4
    go_wp2_with fail
    refine (implSlotOk_any a _).mono ?_
    rintro e w5 ⟨rfl, b5⟩
    replace HB := Hid.intro (HB.out.trans (b5.mono (by omega)))
    clear b5
    cases hb : slotB a with
    | true =>
      go_wp2
      go_ret
      exact ⟨rfl, HB.out⟩
    | false =>
      go_wp2
      go_ret
      exact ⟨rfl, HB.out⟩
set_option maxRecDepth 100000 in
set_option maxHeartbeats 4000000 in
theorem frameOk_law (L : List Sl) (v : Value) (w : World) (hr : Row slE w w.heap.size v L) (hd : ∀ a ∈ L, CaW a.x) :
    Calls Try.prog 4 #[v] w fun e w' => e = .returned (.bool true) ∧ Below w.heap.size w w' := by
  have HR := Hid.intro hr
  clear hr
  go_enter Try.func4, Try.ntmps4
  go_wp2_with fail
  refine (szSlotS_any L v w.heap.size _ _ (Nat.le_refl _) HR.out hd (by omega) (by omega)).mono ?_
  rintro e w1 ⟨⟨n, rfl, hn, hS⟩, b1⟩
  have z1 := b1.size
  have HB := Hid.intro b1
  clear b1
  by_cases hneg : n < 0
  · go_wp2
    go_ret
    exact ⟨rfl, HB.out⟩
  · have hlen : L.length ≤ 1048576 := by have := hS (by omega); omega
    have HL := Hid.intro hlen
    clear hn hS hlen
    go_wp2_with fail
    refine (toSlotS_any L v w.heap.size _ z1 (HR.out.kept HB.out) HL.out).mono ?_
    rintro e w2 ⟨v2, rfl, n2⟩
    have z2 := n2.bel.size
    have HR2 := Hid.intro n2.own.rowAll
    replace HB := Hid.intro (HB.out.trans (n2.bel.mono z1))
    clear n2
    go_wp2_with fail
    refine (specFrameOk_any L v2 w2.heap.size _ (Nat.le_refl _) HR2.out).mono ?_
    rintro e w3 ⟨rfl, b3⟩
    have z3 := b3.size
    replace HB := Hid.intro (HB.out.trans (b3.mono (by omega)))
    clear b3 HR2
    go_wp2_with fail
    refine (toSlotS_any L v w.heap.size _ (by omega) (HR.out.kept HB.out) HL.out).mono ?_
    rintro e w4 ⟨v4, rfl, n4⟩
    have z4 := n4.bel.size
    have HR4 := Hid.intro n4.own.rowAll
    replace HB := Hid.intro (HB.out.trans (n4.bel.mono (by omega)))
    clear n4
    go_wp2_with fail
    refine (implFrameOk_any L v4 w4.heap.size _ (Nat.le_refl _) HR4.out).mono ?_
    rintro e w5 ⟨rfl, b5⟩
    have z5 := b5.size
    replace HB := Hid.intro (HB.out.trans (b5.mono (by omega)))
    replace HR4 := Hid.intro (HR4.out.kept b5)
    clear b5
    cases hb : frameB L with
    | true =>
      go_wp2_with fail
      refine (toSlotS_any L v w.heap.size _ (by omega) (HR.out.kept HB.out) HL.out).mono ?_
      rintro e w6 ⟨v6, rfl, n6⟩
      have z6 := n6.bel.size
      have HR6 := Hid.intro n6.own.rowAll
      replace HB := Hid.intro (HB.out.trans (n6.bel.mono (by omega)))
      replace HR4 := Hid.intro ((HR4.out.kept (n6.bel.mono z5)).up (by omega : w4.heap.size ≤ w6.heap.size))
      clear n6
      go_wp2_with fail
      refine (eqSlotS_any L v4 v6 w6.heap.size _ (Nat.le_refl _) HR4.out HR6.out).mono ?_
      rintro e w7 ⟨rfl, b7⟩
      replace HB := Hid.intro (HB.out.trans (b7.mono (by omega)))
      clear b7
      go_wp2
      go_ret
      exact ⟨rfl, HB.out⟩
    | false =>
      go_wp2_with fail
      refine (toSlotS_any L v w.heap.size _ (by omega) (HR.out.kept HB.out) HL.out).mono ?_
      rintro e w6 ⟨v6, rfl, n6⟩
      have z6 := n6.bel.size
      have HR6 := Hid.intro n6.own.rowAll
      replace HB := Hid.intro (HB.out.trans (n6.bel.mono (by omega)))
      replace HR4 := Hid.intro ((HR4.out.kept (n6.bel.mono z5)).up (by omega : w4.heap.size ≤ w6.heap.size))
      clear n6
      go_wp2_with fail
      refine (eqSlotS_any L v4 v6 w6.heap.size _ (Nat.le_refl _) HR4.out HR6.out).mono ?_
      rintro e w7 ⟨rfl, b7⟩
      replace HB := Hid.intro (HB.out.trans (b7.mono (by omega)))
      clear b7
      go_wp2
      go_ret
      exact ⟨rfl, HB.out⟩
end Go.Proofs.Ytediilplhjbnpaa
