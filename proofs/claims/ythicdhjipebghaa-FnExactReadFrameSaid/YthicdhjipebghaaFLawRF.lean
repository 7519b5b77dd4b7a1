/- The law ReadFrame. -/
import Derived.Test.YthicdhjipebghaaFSpec
import Derived.Test.YthicdhjipebghaaFMark
import Derived.Test.YthicdhjipebghaaFLawS
import Derived.Test.YthicdhjipebghaaGOpen
namespace Go.Proofs.Ythicdhjipebghaa
open Go.ChangeShapes Go.WideShapes Go.ChangeAt Go.RowKit
set_option linter.unusedVariables false
def keyF (o : Option (List Sl)) : List Sl × Bool := match o with | none => ([], false) | some x => (x, true)
structure RfO (l : List UInt8) (B : Nat) (w' : World) (v : Value) (L : List Sl) (b : Bool) : Prop where
  key : (L, b) = keyF (outF l)
  own : Own slE 49 w' B v L
  len : L.length ≤ 6
theorem rfO_of {l : List UInt8} {w w' : World} {e : Ending} (h : RdF l w e w') : (∃ v L b, e = .returned (.tuple #[v, .bool b]) ∧ RfO l w.heap.size w' v L b) ∧ Below w.heap.size w w' := by
  obtain ⟨h, hb⟩ := h
  refine ⟨?_, hb⟩
  rcases h with ⟨v, L, rfl, ho, hv⟩ | ⟨rfl, ho⟩
  · exact ⟨v, L, true, rfl, ⟨by rw [ho.out]; rfl, hv.out, frameB_len (outF_out ho.out).1⟩⟩
  · exact ⟨_, [], false, rfl, ⟨by rw [ho.out]; rfl, Own.nil _ _, by simp⟩⟩
theorem rfS_of {l : List UInt8} {w w' : World} {e : Ending} (h : RdFS l w e w') : (∃ v L b, e = .returned (.tuple #[v, .bool b]) ∧ (L, b) = keyF (outF l) ∧ Row slE w' w'.heap.size v L) ∧ Below w.heap.size w w' := by
  obtain ⟨⟨v, L, b, rfl, hr, hk⟩, hb⟩ := h
  refine ⟨⟨v, L, b, rfl, ?_, hr.out⟩, hb⟩
  rcases hk.out with ⟨h1, rfl, rfl⟩ | ⟨h1, rfl⟩
  · rw [h1]; rfl
  · rw [h1]; rfl
set_option maxRecDepth 100000 in
set_option maxHeartbeats 8000000 in
theorem readFrame_law (s : ByteArray) (w : World) (hs : s.size ≤ maxLen) :
    Calls Try.prog 4 #[.string s] w fun e w' => e = .returned (.bool true) ∧ Below w.heap.size w w' := by
  unfold maxLen at hs
  by_cases hb : (1048576 : Int) < (s.size : Int)
  · go_enter Try.func4, Try.ntmps4
    go_wp2
    go_ret
    exact ⟨rfl, Below.refl _ _⟩
  · go_enter Try.func4, Try.ntmps4
    go_wp2_with fail
    refine (specReadFrame_any s _ (by omega)).mono ?_
    intro e w1 hrd
    obtain ⟨⟨v1, L1, bl, rfl, k1, r1⟩, b1⟩ := rfS_of hrd
    clear hrd
    have HK1 := Hid.intro k1
    have HR1 := Hid.intro r1
    have HB := Hid.intro b1
    have z1 := b1.size
    clear k1 r1 b1
    go_wp2_with fail
    refine (implReadFrame_any s _ (by omega)).mono ?_
    intro e w3 hrd
    obtain ⟨⟨v3, L3, bl3, rfl, R3⟩, b3⟩ := rfO_of hrd
    clear hrd
    have hkey := R3.key.trans HK1.out.symm
    simp only [Prod.mk.injEq] at hkey
    obtain ⟨rfl, rfl⟩ := hkey
    have HO3 := Hid.intro R3.own
    have hl6 := R3.len
    have HV1 : Hid (Row slE w3 w1.heap.size v1 L3) := HR1.out.kept b3
    replace HB := Hid.intro (HB.out.trans (b3.mono z1))
    have z3 := b3.size
    clear R3 b3 HR1
    have hbb : (bl3 != bl3) = false := by simp
    go_wp2_with fail
    refine (eqSlotS_any L3 v3 v1 w3.heap.size w3 (Nat.le_refl _) HO3.out.rowAll (HV1.out.up z3)).mono ?_
    rintro e w5 ⟨rfl, b5⟩
    replace HO3 := Hid.intro (HO3.out.kept b5)
    replace HV1 := Hid.intro (HV1.out.kept (b5.mono z3))
    replace HB := Hid.intro (HB.out.trans (b5.mono HB.out.size))
    have z5 := b5.size
    clear b5
    go_wp2_with fail
    refine (markSlotS_any L3 v3 w1.heap.size 1 w5 (by omega) HO3.out (by omega) (by omega) (by omega)).mono ?_
    rintro e w6 ⟨rfl, r6, n6⟩
    replace HV1 := Hid.intro (HV1.out.kept (n6.below (by omega) (fun k hk e => by have := (HO3.out.lt k e.symm).1; omega)))
    replace HB := Hid.intro (HB.out.trans (n6.below HB.out.size (fun k hk e => by have := (HO3.out.lt k e.symm).1; omega)))
    have HR6 : Hid (Row slE w6 w6.heap.size v3 (markFL 1 L3 L3.length)) := r6.rowAll
    have HMK : Hid (∀ i (h : i < (markFL 1 L3 L3.length).length), (markFL 1 L3 L3.length)[i] = mkSl 1 i) := fun i h => markFL_get 1 L3 L3.length i (by rw [markFL_len] at h; exact h) h
    have HML : Hid ((markFL 1 L3 L3.length).length = L3.length) := markFL_len _ _ _
    have z6 := n6.size
    obtain ⟨mm, hmm⟩ : ∃ mm : Int, (1 : Int) + 9 * (L3.length : Nat) = mm := ⟨_, rfl⟩
    have HMM := Hid.intro hmm
    have hm0 : ¬ mm < 0 := by omega
    have hme : (mm != mm) = false := by simp
    rw [hmm]
    clear HO3 r6 n6 hmm
    go_wp2_with fail
    refine (heldSlotS_any _ v3 w6.heap.size 1 w6 (Nat.le_refl _) HR6.out HMK.out (by rw [HML.out]; omega) (by omega) (by omega)).mono ?_
    rintro e w7 ⟨rfl, b7⟩
    rw [HML.out, HMM.out]
    replace HR6 := Hid.intro ((HR6.out.kept b7).up b7.size)
    replace HV1 := Hid.intro (HV1.out.kept (b7.mono (by omega)))
    replace HB := Hid.intro (HB.out.trans (b7.mono HB.out.size))
    have z7 := b7.size
    clear b7
    go_wp2_with fail
    refine (implReadFrame_any s _ (by omega)).mono ?_
    intro e w8 hrd
    obtain ⟨⟨v8, L8, bl8, rfl, R8⟩, b8⟩ := rfO_of hrd
    clear hrd
    have hkey := R8.key.trans HK1.out.symm
    simp only [Prod.mk.injEq] at hkey
    obtain ⟨rfl, rfl⟩ := hkey
    have HR8 : Hid (Row slE w8 w8.heap.size v8 L8) := R8.own.rowAll
    replace HR6 := Hid.intro ((HR6.out.kept b8).up b8.size)
    replace HV1 := Hid.intro (HV1.out.kept (b8.mono (by omega)))
    replace HB := Hid.intro (HB.out.trans (b8.mono HB.out.size))
    have z8 := b8.size
    clear b8 R8
    go_wp2_with fail
    refine (eqSlotS_any L8 v8 v1 w8.heap.size w8 (Nat.le_refl _) HR8.out (HV1.out.up (by omega))).mono ?_
    rintro e wa ⟨rfl, ba⟩
    replace HR6 := Hid.intro ((HR6.out.kept ba).up ba.size)
    replace HB := Hid.intro (HB.out.trans (ba.mono HB.out.size))
    clear ba HV1 HR8
    go_wp2_with fail
    refine (heldSlotS_any _ v3 wa.heap.size 1 wa (Nat.le_refl _) HR6.out HMK.out (by rw [HML.out]; omega) (by omega) (by omega)).mono ?_
    rintro e wb ⟨rfl, bb⟩
    rw [HML.out, HMM.out]
    replace HB := Hid.intro (HB.out.trans (bb.mono HB.out.size))
    clear bb
    go_wp2
    go_ret
    exact ⟨rfl, HB.out⟩
end Go.Proofs.Ythicdhjipebghaa
