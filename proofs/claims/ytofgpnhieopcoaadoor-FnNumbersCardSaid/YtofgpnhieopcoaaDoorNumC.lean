/- The law FnNumbers: ways A1, A2. -/
import Derived.Test.YtofgpnhieopcoaaDoorNumB
namespace Go.Proofs.YtofgpnhieopcoaaDoor
open Go.RowKit
set_option linter.unusedVariables false

set_option maxHeartbeats 1000000 in
set_option maxRecDepth 100000 in
theorem way_A1 (zs : List Int) (len cap : Nat) (n : Int) (a : Option Addr) (T R : ByteArray) (w : World) (hl : len ≤ 1048576) (hr : RowOk w w.heap.size a len zs) (htab : ∀ w', Below w.heap.size w w' → tabOk w') (d : Told zs len n T R) (h0 : 0 ≤ n) (h1 : n ≤ 999999999) :
    Calls Tryd.prog 3 #[.slice a len cap] w fun e w' => e = .returned (.bool true) ∧ Below w.heap.size w w' := by
  have HR := Hid.intro hr
  have HT := Hid.intro htab
  have DD := Hid.intro d
  have hT := d.t
  have hR := d.r
  obtain ⟨v1, v7⟩ := varS_size n.toNat
  have e1 := toList_ne (show 1 ≤ (varS n.toNat).size from v1)
  have b7 := beS_size n.toNat 7
  have e2 := toList_ne (show 1 ≤ (beS n.toNat 7).size by omega)
  clear hr htab d
  go_enter Tryd.func3, Tryd.ntmps3
  go_wp2_with fail
  refine (big_any a len cap w (by omega)).mono ?_
  rintro e w0 ⟨rfl, rfl⟩
  go_wp2_with fail
  refine (DD.out.d1 w.heap.size a cap w (Nat.le_refl _) HR.out).mono ?_
  rintro e w1 ⟨rfl, b1⟩
  go_wp2_with fail
  refine (DD.out.d2 w.heap.size a cap w1 b1.size (HR.out.below b1)).mono ?_
  rintro e w2 ⟨rfl, b2⟩
  have B2 := b1.trans (b2.mono b1.size)
  go_wp2_with fail
  refine (var_at n w2 (by omega) (by omega)).mono ?_
  rintro e w3 ⟨rfl, b3⟩
  have B3 := B2.trans (b3.mono B2.size)
  go_wp2_with fail
  refine (readVar_varI n (by omega) (by omega) T hT _).mono ?_
  rintro e w4 ⟨rfl, rfl⟩
  go_wp2_with fail
  refine (fixed_atI n (by omega) (by omega) w3).mono ?_
  rintro e w4 ⟨rfl, b4⟩
  have B4 := B3.trans (b4.mono B3.size)
  go_wp2_with fail
  refine (readFixed_fixedI n (by omega) (by omega) T hT w4).mono ?_
  rintro e w5 ⟨rfl, rfl⟩
  go_wp2_with fail
  refine (dec_any n w4 (by omega) (by omega) (HT.out w4 B4)).mono ?_
  rintro e w5 ⟨rfl, b5⟩
  have B5 := B4.trans (b5.mono B4.size)
  go_wp2_with fail
  refine (readDec_at (decS n) (decS_small n) (RD_small n (by omega)) w5).mono ?_
  rintro e w6 ⟨rfl, rfl⟩
  go_wp2_with fail
  refine (implHex_any T w5 (by omega)).mono ?_
  rintro e w6 ⟨rfl, b6⟩
  have B6 := B5.trans (b6.mono B5.size)
  go_wp2_with fail
  refine (unhex_at T (by omega) w6).mono ?_
  rintro e w7 ⟨rfl, b7⟩
  have B7 := B6.trans (b7.mono B6.size)
  go_wp2_with fail
  refine (DD.out.d3 w.heap.size a cap w7 B7.size (HR.out.below B7)).mono ?_
  rintro e w8 ⟨rfl, b8⟩
  have B8 := B7.trans (b8.mono B7.size)
  obtain ⟨x, k, hrv, c⟩ := readVar_all R (by omega)
  go_wp2_with fail
  refine (c w8).mono ?_
  rintro e w9 ⟨rfl, rfl⟩
  by_cases hk : k = 0
  · subst hk
    go_wp2
    go_ret
    exact ⟨rfl, B8⟩
  · obtain ⟨hx, hkl, hv⟩ := RV_back hrv hk
    go_wp2_with fail
    refine (implVar_yes x w8 hx).mono ?_
    rintro e w9 ⟨rfl, b9⟩
    have B9 := B8.trans (b9.mono B8.size)
    go_wp2_with fail
    refine (DD.out.d3 w.heap.size a cap w9 B9.size (HR.out.below B9)).mono ?_
    rintro e w10 ⟨rfl, b10⟩
    have B10 := B9.trans (b10.mono B9.size)
    have hkl2 : k ≤ R.size := by
      have : R.data.toList.length = R.size := by simp
      omega
    have e3 := Hid.intro (front_eq hv)
    clear hv
    go_wp2
    go_ret
    refine ⟨?_, B10⟩
    exact congrArg (fun b => Ending.returned (.bool b)) (or_of e3.out)

set_option maxHeartbeats 1000000 in
set_option maxRecDepth 100000 in
theorem way_A2 (zs : List Int) (len cap : Nat) (n : Int) (a : Option Addr) (T R : ByteArray) (w : World) (hl : len ≤ 1048576) (hr : RowOk w w.heap.size a len zs) (htab : ∀ w', Below w.heap.size w w' → tabOk w') (d : Told zs len n T R) (h0 : 999999999 < n) (h1 : n ≤ 562949953421311) :
    Calls Tryd.prog 3 #[.slice a len cap] w fun e w' => e = .returned (.bool true) ∧ Below w.heap.size w w' := by
  have HR := Hid.intro hr
  have HT := Hid.intro htab
  have DD := Hid.intro d
  have hT := d.t
  have hR := d.r
  obtain ⟨v1, v7⟩ := varS_size n.toNat
  have e1 := toList_ne (show 1 ≤ (varS n.toNat).size from v1)
  have b7 := beS_size n.toNat 7
  have e2 := toList_ne (show 1 ≤ (beS n.toNat 7).size by omega)
  clear hr htab d
  go_enter Tryd.func3, Tryd.ntmps3
  go_wp2_with fail
  refine (big_any a len cap w (by omega)).mono ?_
  rintro e w0 ⟨rfl, rfl⟩
  go_wp2_with fail
  refine (DD.out.d1 w.heap.size a cap w (Nat.le_refl _) HR.out).mono ?_
  rintro e w1 ⟨rfl, b1⟩
  go_wp2_with fail
  refine (DD.out.d2 w.heap.size a cap w1 b1.size (HR.out.below b1)).mono ?_
  rintro e w2 ⟨rfl, b2⟩
  have B2 := b1.trans (b2.mono b1.size)
  go_wp2_with fail
  refine (var_at n w2 (by omega) (by omega)).mono ?_
  rintro e w3 ⟨rfl, b3⟩
  have B3 := B2.trans (b3.mono B2.size)
  go_wp2_with fail
  refine (readVar_varI n (by omega) (by omega) T hT _).mono ?_
  rintro e w4 ⟨rfl, rfl⟩
  go_wp2_with fail
  refine (fixed_atI n (by omega) (by omega) w3).mono ?_
  rintro e w4 ⟨rfl, b4⟩
  have B4 := B3.trans (b4.mono B3.size)
  go_wp2_with fail
  refine (readFixed_fixedI n (by omega) (by omega) T hT w4).mono ?_
  rintro e w5 ⟨rfl, rfl⟩
  go_wp2_with fail
  refine (dec_any n w4 (by omega) (by omega) (HT.out w4 B4)).mono ?_
  rintro e w5 ⟨rfl, b5⟩
  have B5 := B4.trans (b5.mono B4.size)
  go_wp2_with fail
  refine (readDec_at (decS n) (decS_small n) (RD_great n (by omega) (by omega) (by omega)) w5).mono ?_
  rintro e w6 ⟨rfl, rfl⟩
  go_wp2_with fail
  refine (implHex_any T w5 (by omega)).mono ?_
  rintro e w6 ⟨rfl, b6⟩
  have B6 := B5.trans (b6.mono B5.size)
  go_wp2_with fail
  refine (unhex_at T (by omega) w6).mono ?_
  rintro e w7 ⟨rfl, b7⟩
  have B7 := B6.trans (b7.mono B6.size)
  go_wp2_with fail
  refine (DD.out.d3 w.heap.size a cap w7 B7.size (HR.out.below B7)).mono ?_
  rintro e w8 ⟨rfl, b8⟩
  have B8 := B7.trans (b8.mono B7.size)
  obtain ⟨x, k, hrv, c⟩ := readVar_all R (by omega)
  go_wp2_with fail
  refine (c w8).mono ?_
  rintro e w9 ⟨rfl, rfl⟩
  by_cases hk : k = 0
  · subst hk
    go_wp2
    go_ret
    exact ⟨rfl, B8⟩
  · obtain ⟨hx, hkl, hv⟩ := RV_back hrv hk
    go_wp2_with fail
    refine (implVar_yes x w8 hx).mono ?_
    rintro e w9 ⟨rfl, b9⟩
    have B9 := B8.trans (b9.mono B8.size)
    go_wp2_with fail
    refine (DD.out.d3 w.heap.size a cap w9 B9.size (HR.out.below B9)).mono ?_
    rintro e w10 ⟨rfl, b10⟩
    have B10 := B9.trans (b10.mono B9.size)
    have hkl2 : k ≤ R.size := by
      have : R.data.toList.length = R.size := by simp
      omega
    have e3 := Hid.intro (front_eq hv)
    clear hv
    go_wp2
    go_ret
    refine ⟨?_, B10⟩
    exact congrArg (fun b => Ending.returned (.bool b)) (or_of e3.out)

end Go.Proofs.YtofgpnhieopcoaaDoor
