/- The program's sessionsOk and TenantOk. -/
import Derived.Test.YtknckbedddeijaaGreatXCurTen
import Derived.Test.YtknckbedddeijaaGreatXAudI
import Derived.Test.YtknckbedddeijaaGreatVImpJ
import Derived.Test.YtknckbedddeijaaGreatVSpecE
import Derived.OwnWalk
import Derived.Deep.CutRange
import Derived.Deep.CutBlock
namespace Go.Proofs.YtknckbedddeijaaGreat
open Go.RowKit
set_option linter.unusedVariables false
/-- Is a tenant right? -/
def tenB (k : Int × List Nd × Int × List Nt × List Se) : Bool := volB k.1 k.2.1 && (inB k.2.2.1 0 30 && (auditB k.2.2.2.1 && sessFrom 1 k.2.2.2.2))
theorem tenB_key (t : Ten) : tenB t.key = (volB t.nx (t.L.map Np.n) && (inB t.tk 0 30 && (auditB t.A && sessFrom 1 t.S))) := rfl
set_option maxRecDepth 100000 in
set_option maxHeartbeats 8000000 in
theorem implSessionsOk_any (L : List Se) (v : Value) (N : Nat) (w : World) (hN : N ≤ w.heap.size) (hr : Row seE w N v L) :
  Calls Tryz.prog 54 #[v] w fun e w' => e = .returned (.bool (sessFrom 1 L)) ∧ Below w.heap.size w w' := by
 obtain ⟨a, cap, rfl, hl, hm, hcells⟩ := seE_cell hr
 have HC := Hid.intro hcells
 clear hcells hr
 have HA : Hid (sessFrom 1 L = sessFrom 1 (L.drop 0)) := rfl
 go_enter Tryz.func54, Tryz.ntmps54
 go_wp2_with fail
 go_loopw [3, 8] (fun m i wr => ∃ (j : Nat) (M : Int), i = .int .i64 j ∧ m = .int .i64 M ∧ j ≤ L.length ∧ 1 ≤ M ∧ M ≤ 4 ∧ Hid (sessFrom 1 L = sessFrom M (L.drop j)) ∧ Hid (Below w.heap.size w wr)) (fun _ i _ => L.length - (intOf i).toNat)
 case atStart => exact ⟨0, 1, rfl, rfl, Nat.zero_le _, by omega, by omega, HA, Below.refl _ _⟩
 case round =>
  obtain ⟨j, M, rfl, rfl, hj, hM1, hM4, HJ, HBW⟩ := hrel
  have hzr := HBW.out.size
  by_cases hlt : j < L.length
  ·obtain ⟨b2, o2, rfl, hb2, hdd⟩ := HC.out (by intro h; rw [h] at hlt; simp at hlt)
   obtain ⟨d0, d1, d2, d3, d4⟩ := hdd j hlt
   have hst := HJ.out.trans (sessFrom_drop M L j hlt)
   generalize L[j] = x at d0 d1 d2 d3 d4 hst
   replace d0 := atCell HBW.out d0 (by omega)
   replace d1 := atCell HBW.out d1 (by omega)
   replace d2 := atCell HBW.out d2 (by omega)
   replace d3 := atCell HBW.out d3 (by omega)
   replace d4 := atCell HBW.out d4 (by omega)
   have hjl : (j : Int) < (L.length : Int) := by omega
   have i1 : (0 : Int) ≤ (j : Int) ∧ (j : Int) < (L.length : Int) := by omega
   have HST := Hid.intro hst
   clear hst hdd HJ
   go_upto_region 5 with fail
   obtain ⟨X, hX, bX, zX, cX, fX⟩ := boxed wr (seA x) 61
   simp only [hX]
   have HBX : Hid (Below w.heap.size w X) := HBW.out.trans (bX.mono hzr)
   clear hX fX d0 d1 d2 d3 d4 bX
   cases hb0 : inB x.c M 3 with
   | false =>
    have HFF : Hid (sessFrom 1 L = false) := by unfold Hid; rw [HST.out, hb0]; rfl
    go_wp2_with (go_at_call 52; refine (within_any _ _ _ _).mono ?_; rintro e w9 ⟨rfl, rfl⟩; simp only [hb0])
    go_ret
    exact ⟨ret_bool HFF.out.symm, HBX.out⟩
   | true =>
    have hc : M ≤ x.c ∧ x.c ≤ 3 := by simpa [inB] using hb0
    have hc1 := hc.1
    have hc2 := hc.2
    clear hc
    cases hb1 : inB x.s 1 1000000 with
    | false =>
     have HFF : Hid (sessFrom 1 L = false) := by unfold Hid; rw [HST.out, hb0, sesB, hb1]; rfl
     go_wp2_with (go_at_call 52; refine (within_any _ _ _ _).mono ?_; rintro e w9 ⟨rfl, rfl⟩; simp only [hb0, hb1])
     go_ret
     exact ⟨ret_bool HFF.out.symm, HBX.out⟩
    | true =>
     cases hb2 : inB x.i 1 100000 with
     | false =>
      have HFF : Hid (sessFrom 1 L = false) := by unfold Hid; rw [HST.out, hb0, sesB, hb1, hb2]; rfl
      go_wp2_with (go_at_call 52; refine (within_any _ _ _ _).mono ?_; rintro e w9 ⟨rfl, rfl⟩; simp only [hb0, hb1, hb2])
      go_ret
      exact ⟨ret_bool HFF.out.symm, HBX.out⟩
     | true =>
      go_wp2_with (first | (go_at_call 52; refine (within_any _ _ _ _).mono ?_; rintro e w9 ⟨rfl, rfl⟩; simp only [hb0, hb1, hb2]) | fail)
      refine (implResultOk_any x.r _).mono ?_
      rintro e w9 ⟨rfl, b9⟩
      have c9 := keepC b9 (by omega) cX
      have HBY : Hid (Below w.heap.size w w9) := HBX.out.trans (b9.mono (by omega))
      clear b9 cX
      cases hb3 : resB x.r with
      | false =>
       have HFF : Hid (sessFrom 1 L = false) := by unfold Hid; rw [HST.out, hb0, sesB, hb1, hb2, hb3]; rfl
       go_wp2_with fail
       go_ret
       exact ⟨ret_bool HFF.out.symm, HBY.out⟩
      | true =>
       have HFF : Hid (sessFrom 1 L = sessFrom (x.c + 1) (L.drop (j + 1))) := by unfold Hid; rw [HST.out, hb0, sesB, hb1, hb2, hb3]; rfl
       go_wp2_with fail
       go_roundw
       case rel => exact ⟨j + 1, x.c + 1, by go_num, by go_num, by omega, by omega, by omega, HFF, HBY⟩
       case measure => simp [intOf]; omega
  ·obtain rfl : j = L.length := by omega
   have HFF : Hid (sessFrom 1 L = true) := by unfold Hid; rw [HJ.out, sessFrom_end]
   go_wp2_with fail
   go_ret
   exact ⟨ret_bool HFF.out.symm, HBW.out⟩
set_option maxRecDepth 100000 in
set_option maxHeartbeats 8000000 in
theorem implTenantOk_any (t : Ten) (N : Nat) (w : World) (hN : N ≤ w.heap.size) (hr : TenR w N t) (hz : TenW t) :
  Calls Tryz.prog 31 #[t.v] w fun e w' => e = .returned (.bool (tenB t.key)) ∧ Below w.heap.size w w' := by
 have HR := Hid.intro hr
 have HZ := Hid.intro hz
 have HK := Hid.intro (tenB_key t)
 generalize tenB t.key = ans at HK ⊢
 clear hr hz
 go_enter Tryz.func31, Tryz.ntmps31
 go_wp2_with fail
 obtain ⟨W, hW, bW, zW, c1, f1⟩ := boxed w t.arr 36
 try simp only [hW]
 refine (implVolOk_any t.nx t.L t.u N W (by omega) (HR.out.vol.kept (bW.mono hN)) HZ.out.nod).mono ?_
 rw [right_vol]
 rintro e w1 ⟨rfl, b1⟩
 have z1 := b1.size
 replace c1 := keepC b1 (by omega) c1
 have HB := Hid.intro (bW.trans (b1.mono (by omega)))
 have hz1 : w.heap.size < w1.heap.size := by omega
 clear hW bW b1 f1
 cases hv : volB t.nx (t.L.map Np.n) with
 | false =>
  have HF : Hid (ans = false) := by unfold Hid; rw [HK.out, hv]; rfl
  go_wp2_with fail
  go_ret
  exact ⟨ret_bool HF.out.symm, HB.out⟩
 | true =>
  cases hb : inB t.tk 0 30 with
  | false =>
   have HF : Hid (ans = false) := by unfold Hid; rw [HK.out, hv, hb]; rfl
   go_wp2_with (go_at_call 52; refine (within_any _ _ _ _).mono ?_; rintro e w9 ⟨rfl, rfl⟩; simp only [hb])
   go_ret
   exact ⟨ret_bool HF.out.symm, HB.out⟩
  | true =>
   go_wp2_with (first | (go_at_call 52; refine (within_any _ _ _ _).mono ?_; rintro e w9 ⟨rfl, rfl⟩; simp only [hb]) | fail)
   refine (implAuditOk_any t.A t.va N w1 (by omega) (HR.out.aud.kept (HB.out.mono hN))).mono ?_
   rintro e w2 ⟨rfl, b2⟩
   have z2 := b2.size
   replace c1 := keepC b2 (by omega) c1
   have HB2 := Hid.intro (HB.out.trans (b2.mono (by omega)))
   clear b2
   cases ha : auditB t.A with
   | false =>
    have HF : Hid (ans = false) := by unfold Hid; rw [HK.out, hv, hb, ha]; rfl
    go_wp2_with fail
    go_ret
    exact ⟨ret_bool HF.out.symm, HB2.out⟩
   | true =>
    go_wp2_with fail
    refine (implSessionsOk_any t.S t.vs N w2 (by omega) (HR.out.ses.kept (HB2.out.mono hN))).mono ?_
    rintro e w3 ⟨rfl, b3⟩
    have HB3 := Hid.intro (HB2.out.trans (b3.mono (by omega)))
    have HF : Hid (ans = sessFrom 1 t.S) := by unfold Hid; rw [HK.out, hv, hb, ha]; rfl
    clear b3 c1
    go_wp2_with fail
    go_ret
    exact ⟨ret_bool HF.out.symm, HB3.out⟩
end Go.Proofs.YtknckbedddeijaaGreat
