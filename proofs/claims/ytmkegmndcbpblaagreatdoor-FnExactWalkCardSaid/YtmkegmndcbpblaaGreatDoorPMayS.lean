/- May and MayTake of the model. -/
import Derived.Test.YtmkegmndcbpblaaGreatDoorPMayI
namespace Go.Proofs.YtmkegmndcbpblaaGreatDoor
open Go.RowKit
set_option linter.unusedVariables false
set_option maxHeartbeats 2000000 in
theorem specMay_any (c : Cr) (v u : Value) (n : Nd) (want : Int) (N : Nat) (w : World) (hN : N ≤ w.heap.size) (hr : Row intE w N v c.l) :
  Calls Tryz.prog 34 #[crV c v, ndV n u, .int .i64 want] w fun e w' => e = .returned (.bool (mayB c n want)) ∧ Below w.heap.size w w' := by
 obtain ⟨a, cap, rfl, hl, hm⟩ := hr.slice
 have HR := Hid.intro hr
 clear hr
 obtain ⟨W, hW, bW, zW, c1, f1, c2, f2⟩ := boxed2 w #[.int .i64 c.u, .int .i64 c.g, .slice a c.l.length cap] (ndA n u) 37 64
 go_enter Tryz.func34, Tryz.ntmps34
 go_wp2_with fail
 try simp only [hW]
 refine (specCredOk_any c _ N W (by omega) (HR.out.kept (bW.mono hN))).mono ?_
 rintro e w1 ⟨rfl, b1⟩
 have B1 := bW.trans (b1.mono (by omega))
 have HB := Hid.intro B1
 replace c1 := keepC b1 (by omega) c1
 replace c2 := keepC b1 (by omega) c2
 have z1 := b1.size
 clear hW bW b1 f1 f2 B1
 cases hc : credB c with
 | false =>
  go_wp2
  go_ret
  exact ⟨by simp [mayB, hc], HB.out⟩
 | true =>
  cases hw : inB want 0 7 with
  | false =>
   go_wp2_with (go_at_call 26; refine (l1In_any _ _ _ _).mono ?_; rintro e w' ⟨rfl, rfl⟩)
   go_ret
   exact ⟨by simp [mayB, hc, hw], HB.out⟩
  | true =>
   obtain ⟨w0, w7⟩ := inB_of hw
   by_cases hu : c.u = 0
   ·have hb : (c.u == 0) = true := by simpa using hu
    have HU := Hid.intro hu
    clear hu
    by_cases he : want % 2 = 0
    ·have hk : (bits .and .i64 want 1 == 0) = true := by rw [bits1]; simpa using he
     go_wp2_with (go_at_call 26; refine (l1In_any _ _ _ _).mono ?_; rintro e w' ⟨rfl, rfl⟩)
     go_ret
     exact ⟨by simp [mayB, hc, hw, HU.out, rootB, he], HB.out⟩
    ·have hk : (bits .and .i64 want 1 == 0) = false := by rw [bits1]; simpa using he
     have HE := Hid.intro he
     clear he
     by_cases hk1 : n.kind = 1
     ·have hkb : (n.kind == 1) = true := by simpa using hk1
      have hkb' : (n.kind != 1) = false := by simp [hk1]
      have HK := Hid.intro hk1
      clear hk1
      go_wp2_with (go_at_call 26; refine (l1In_any _ _ _ _).mono ?_; rintro e w' ⟨rfl, rfl⟩)
      go_ret
      exact ⟨by simp [mayB, hc, hw, HU.out, rootB, HE.out, HK.out], HB.out⟩
     ·have hkb : (n.kind == 1) = false := by simpa using hk1
      have hkb' : (n.kind != 1) = true := by simpa using hk1
      have HK := Hid.intro hk1
      clear hk1
      go_wp2_with (go_at_call 26; refine (l1In_any _ _ _ _).mono ?_; rintro e w' ⟨rfl, rfl⟩)
      go_ret
      exact ⟨by simp [mayB, hc, hw, HU.out, rootB, HE.out, HK.out], HB.out⟩
   ·have hb : (c.u == 0) = false := by simpa using hu
    go_wp2_with (go_at_call 26; refine (l1In_any _ _ _ _).mono ?_; rintro e w' ⟨rfl, rfl⟩)
    refine (specIn_any c _ _ N _ (by omega) (HR.out.kept (HB.out.mono hN))).mono ?_
    rintro e w2 ⟨rfl, b2⟩
    have B2 := Hid.intro (HB.out.trans (b2.mono (by omega)))
    replace c1 := keepC b2 (by omega) c1
    replace c2 := keepC b2 (by omega) c2
    clear b2 HB
    have HS1 := Hid.intro (bitB1 n.mode want w0 w7)
    have HS8 := Hid.intro (bitB8 n.mode want w0 w7)
    have HS64 := Hid.intro (bitB64 n.mode want w0 w7)
    by_cases h1 : c.u = n.uid
    ·have hb1 : (c.u == n.uid) = true := by simpa using h1
     have HU := Hid.intro h1
     clear h1
     cases hg : inGB c n.gid with
     | true =>
      go_wp2
      go_ret
      exact ⟨ret_bool (HS64.out.trans (by rw [mayB, if_neg hu]; simp [hc, hw, fromB, HU.out])), B2.out⟩
     | false =>
      go_wp2
      go_ret
      exact ⟨ret_bool (HS64.out.trans (by rw [mayB, if_neg hu]; simp [hc, hw, fromB, HU.out])), B2.out⟩
    ·have hb1 : (c.u == n.uid) = false := by simpa using h1
     cases hg : inGB c n.gid with
     | true =>
      go_wp2
      go_ret
      exact ⟨ret_bool (HS8.out.trans (by simp [mayB, hc, hw, hu, fromB, h1, hg])), B2.out⟩
     | false =>
      go_wp2
      go_ret
      exact ⟨ret_bool (HS1.out.trans (by simp [mayB, hc, hw, hu, fromB, h1, hg])), B2.out⟩
end Go.Proofs.YtmkegmndcbpblaaGreatDoor
