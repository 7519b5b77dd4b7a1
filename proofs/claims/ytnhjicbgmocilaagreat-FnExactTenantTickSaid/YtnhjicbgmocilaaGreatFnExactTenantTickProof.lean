/- What is proved: at every argument the law FnExactTenantTick answers true and leaves its arguments as they were (Rows.FnExactTenantTickSaid); no condition. -/
import Derived.Test.YtnhjicbgmocilaaGreatXCopyS
import Derived.Test.YtnhjicbgmocilaaGreatXTick
import Derived.Test.YtnhjicbgmocilaaGreatXTenOkS
import Derived.Test.YtnhjicbgmocilaaGreatPReg
import Derived.Deep.RegionHeld3
import Derived.Deep.Cut
import Derived.Test.YtnhjicbgmocilaaGreatGOpen
import Derived.Test.YtnhjicbgmocilaaGreatVImpF
import Derived.Test.YtnhjicbgmocilaaGreatXNote
import Derived.Test.YtnhjicbgmocilaaGreatXTen
import Derived.Test.YtnhjicbgmocilaaGreatRows
import Derived.WalkKit
import Derived.ProofKit
import Derived.OpenShut
import Derived.ShutString
import Derived.ChangeOld
import Derived.Below
namespace Go.Proofs.YtnhjicbgmocilaaGreat
open Go.RowKit
set_option linter.unusedVariables false
set_option maxRecDepth 100000 in
set_option maxHeartbeats 8000000 in
theorem l10Copy_any (nx : Int) (L : List Np) (ua : Option Addr) (uc : Nat) (tk : Int) (A : List Nt) (aa : Option Addr) (ac : Nat) (Ss : List Se) (sa : Option Addr) (sc : Nat) (N : Nat) (w : World) (hN : N ≤ w.heap.size)
    (hv : VolR w N (.slice ua L.length uc) L) (ha : Row ntE w N (.slice aa A.length ac) A) (hs : Row seE w N (.slice sa Ss.length sc) Ss) (hl : L.length ≤ 1048576) (hm : NmL L 1048576) (hA : A.length ≤ 1048576) (hS : Ss.length ≤ 1048576) :
    Calls Tryz.prog 15 #[.agg #[.int .i64 nx, .slice ua L.length uc, .int .i64 tk, .slice aa A.length ac, .slice sa Ss.length sc]] w fun e w' => ∃ t' : Ten, e = .returned t'.v ∧ TenO w' w.heap.size t' ∧ t'.key = (nx, L.map Np.n, tk, A, Ss) ∧ Below w.heap.size w w' := by
  have HV := Hid.intro hv
  have HA := Hid.intro ha
  have HS := Hid.intro hs
  have HM := Hid.intro hm
  clear hv ha hs hm
  go_enter Tryz.func15, Tryz.ntmps15
  go_wp2_with fail
  obtain ⟨W, hW, bW, zW, c1, f1, c2, f2⟩ := boxed2 w #[.int .i64 nx, .slice ua L.length uc, .int .i64 tk, .slice aa A.length ac, .slice sa Ss.length sc] zeroT 36 36
  try simp only [hW]
  refine (l4Copy_any nx L (.slice ua L.length uc) N W (by omega) (HV.out.kept (bW.mono hN)) hl HM.out).mono ?_
  rintro e w1 ⟨a1, k1, M, rfl, o1, e1, b1⟩
  have z1 := b1.size
  have HE := Hid.intro e1
  have HX0 : Hid (Blk w1 w.heap.size #[.int .i64 nx, .slice ua L.length uc, .int .i64 tk, .slice aa A.length ac, .slice sa Ss.length sc]) := ⟨by omega, keepC b1 (by omega) c1, keepF b1 (by omega) f1⟩
  have HR0 : Hid (Blk w1 (w.heap.size + 1) zeroT) := ⟨by omega, keepC b1 (by omega) c2, keepF b1 (by omega) f2⟩
  have HB0 := Hid.intro (bW.trans (b1.mono (by omega)))
  have HO0 : Hid (VolO w1 (w.heap.size + 1 + 1) (.slice a1 M.length k1) M) := by unfold Hid; rw [← zW]; exact o1
  have hw1 : w.heap.size + 1 < w1.heap.size := by omega
  clear hW bW b1 c1 f1 c2 f2 o1 e1 z1 HV
  have q0 : w1.cell? ⟨w.heap.size, 0, none⟩ = some (.int .i64 nx) := HX0.out.cell 0
  have q1 : w1.cell? ⟨w.heap.size, 1, none⟩ = some (.slice ua L.length uc) := HX0.out.cell 1
  have g0 := HX0.out.fro 0
  have g1 := HX0.out.fro 1
  go_upto_region 2 with fail
  obtain ⟨V1, hV1⟩ : ∃ V, (w1.setCell ⟨w.heap.size, 0, none⟩ (.int .i64 nx)).setCell ⟨w.heap.size, 1, none⟩ (.slice a1 M.length k1) = V := ⟨_, rfl⟩
  simp only [hV1]
  have O1 : Only (fun x => x = w.heap.size) w1 V1 := by rw [← hV1]; exact (setO _ 0 w1 _).setCell (p := ⟨w.heap.size, 1, none⟩) rfl _
  have HX1 : Hid (Blk V1 w.heap.size #[.int .i64 nx, .slice a1 M.length k1, .int .i64 tk, .slice aa A.length ac, .slice sa Ss.length sc]) := by
    unfold Hid
    rw [← hV1]
    exact (HX0.out.putI 0 (by simp) (.int .i64 nx)).putI 1 (by simp) (.slice a1 M.length k1)
  have zV1 : w1.heap.size ≤ V1.heap.size := O1.size
  have hwV1 : w.heap.size + 1 < V1.heap.size := by omega
  have HR1 : Hid (Blk V1 (w.heap.size + 1) zeroT) := HR0.out.only O1 (by omega)
  have HO1 : Hid (VolO V1 (w.heap.size + 1 + 1) (.slice a1 M.length k1) M) := HO0.out.only O1 (fun x hx e => by omega)
  have HB1 : Hid (Below w.heap.size w V1) := HB0.out.trans (O1.below (by omega) (fun x hx e => by omega))
  clear hV1 O1 HX0 HR0 HO0 HB0 q0 q1 g0 g1
  obtain ⟨Z1, hZ1⟩ : ∃ Z, V1.alloc (.cells #[] 81) = Z := ⟨_, rfl⟩
  have bZ1 : Below V1.heap.size V1 Z1 := by rw [← hZ1]; exact one_below _ _
  have zZ1 : Z1.heap.size = V1.heap.size + 1 := by rw [← hZ1]; simp
  have HW1 : Hid (Own ntE 81 Z1 V1.heap.size (.slice (some ⟨V1.heap.size, 0, none⟩) 0 0) []) := by
    unfold Hid
    rw [← hZ1]
    exact World.ownsRow_lit (base := V1.heap.size) (e := 81) (size := 5) V1 #[] 0 (Nat.le_refl _) (by decide) rfl
  have HSR1 := Hid.intro ((HA.out).kept ((HB1.out.trans (bZ1.mono HB1.out.size)).mono hN))
  have kB1 := HX1.out.cell
  have hXh1 := HX1.out.hi
  have HMZ1 := Hid.intro hZ1
  have HBM1 := Hid.intro bZ1
  clear hZ1 bZ1
  obtain ⟨j1, hi, hz0, hz1, hz2⟩ := info_parts infoNt2'
  have HHi1 := Hid.intro hi
  have HZ01 := Hid.intro hz0
  have HZ11 : Hid (j1.size = ntE.n ∧ j1.bytes = 40) := ⟨hz1, hz2⟩
  clear hi hz0 hz1 hz2
  go_upto_region 3 with (at_builtin; (rw [HMZ1.out]; refine wpList_app_all (E := ntE) (T := 81) (TS := 33) rfl _ _ rfl j1 (.agg #[.int .i64 0, .int .i64 0, .int .i64 0, .int .i64 0, .int .i64 0]) 40 Tryz.underlying33 HHi1.out HZ01.out HZ11.out.1 HZ11.out.2 rfl V1.heap.size N (.slice (some ⟨V1.heap.size, 0, none⟩) 0 0) rfl HW1.out (.slice aa A.length ac) A rfl HSR1.out (by omega) (by decide) (by omega) ?_); intro a' c' w5 hown hol; have ho5 : Only (fun x => x = V1.heap.size) Z1 w5 := hol.mono (fun x _ h => (by (have h2 : x = V1.heap.size := (by (simpa [Value.ownBlock] using h)); omega))); have B5 : Below V1.heap.size V1 w5 := HBM1.out.trans (ho5.below (by omega) (fun x hx e => (by omega))); have HXB5 := Hid.intro (HX1.out.kept B5); have e6 : w5.cell? ⟨w.heap.size, 3, none⟩ = some (.slice aa A.length ac) := HXB5.out.cell 3; have f6 : w5.frozen? ⟨w.heap.size, 3, none⟩ = false := HXB5.out.fro 3; have HB5 := Hid.intro B5; have HON := Hid.intro hown; clear hol ho5 B5 hown)
  have z5 : V1.heap.size ≤ w5.heap.size := HB5.out.size
  obtain ⟨V2, hV2⟩ : ∃ V, w5.setCell ⟨w.heap.size, 3, none⟩ (.slice a' A.length c') = V := ⟨_, rfl⟩
  simp only [hV2]
  have O6 : Only (fun x => x = w.heap.size) w5 V2 := by rw [← hV2]; exact setO _ 3 w5 _
  have HX2 : Hid (Blk V2 w.heap.size #[.int .i64 nx, .slice a1 M.length k1, .int .i64 tk, .slice a' A.length c', .slice sa Ss.length sc]) := by
    unfold Hid
    rw [← hV2]
    exact HXB5.out.putI 3 (by simp) (.slice a' A.length c')
  have zV2 : w5.heap.size ≤ V2.heap.size := O6.size
  have hwV2 : w.heap.size + 1 < V2.heap.size := by omega
  have HR2 : Hid (Blk V2 (w.heap.size + 1) zeroT) := (HR1.out.kept HB5.out).only O6 (by omega)
  have HO2 : Hid (VolO V2 (w.heap.size + 1 + 1) (.slice a1 M.length k1) M) := (HO1.out.kept HB5.out).only O6 (fun x hx e => by omega)
  have HN1 : Hid (Own ntE 81 V2 (w.heap.size + 1 + 1) (.slice a' A.length c') A) := (HON.out.only O6 (fun x hx e => by have := (HON.out.lt x hx).1; omega)).lower (by omega)
  have HB2 : Hid (Below w.heap.size w V2) := (HB1.out.trans (HB5.out.mono HB1.out.size)).trans (O6.below (by omega) (fun x hx e => by omega))
  clear hV2 O6 HXB5 e6 f6 HB5 HON HW1 HSR1 kB1 HMZ1 HBM1 HHi1 HZ01 HZ11 HX1 HR1 HO1 HB1 hXh1
  obtain ⟨a2, ha2⟩ : ∃ x, a' = x := ⟨_, rfl⟩
  obtain ⟨c2, hc2⟩ : ∃ x, c' = x := ⟨_, rfl⟩
  rw [ha2, hc2] at HX2 HN1
  simp only [ha2, hc2]
  clear ha2 hc2 a' c' z5 zV2 zZ1
  obtain ⟨Z2, hZ2⟩ : ∃ Z, V2.alloc (.cells #[] 57) = Z := ⟨_, rfl⟩
  have bZ2 : Below V2.heap.size V2 Z2 := by rw [← hZ2]; exact one_below _ _
  have zZ2 : Z2.heap.size = V2.heap.size + 1 := by rw [← hZ2]; simp
  have HW2 : Hid (Own seE 57 Z2 V2.heap.size (.slice (some ⟨V2.heap.size, 0, none⟩) 0 0) []) := by
    unfold Hid
    rw [← hZ2]
    exact World.ownsRow_lit (base := V2.heap.size) (e := 57) (size := 5) V2 #[] 0 (Nat.le_refl _) (by decide) rfl
  have HSR2 := Hid.intro ((HS.out).kept ((HB2.out.trans (bZ2.mono HB2.out.size)).mono hN))
  have kB2 := HX2.out.cell
  have hXh2 := HX2.out.hi
  have HMZ2 := Hid.intro hZ2
  have HBM2 := Hid.intro bZ2
  clear hZ2 bZ2
  obtain ⟨j2, hi, hz0, hz1, hz2⟩ := info_parts infoSe2'
  have HHi2 := Hid.intro hi
  have HZ02 := Hid.intro hz0
  have HZ12 : Hid (j2.size = seE.n ∧ j2.bytes = 48) := ⟨hz1, hz2⟩
  clear hi hz0 hz1 hz2
  go_upto_region 4 with (at_builtin; (rw [HMZ2.out]; refine wpList_app_all (E := seE) (T := 57) (TS := 34) rfl _ _ rfl j2 (.agg #[.int .i64 0, .int .i64 0, .int .i64 0, .int .i64 0, .string ⟨#[]⟩]) 48 Tryz.underlying34 HHi2.out HZ02.out HZ12.out.1 HZ12.out.2 rfl V2.heap.size N (.slice (some ⟨V2.heap.size, 0, none⟩) 0 0) rfl HW2.out (.slice sa Ss.length sc) Ss rfl HSR2.out (by omega) (by decide) (by omega) ?_); intro a' c' w5 hown hol; have ho5 : Only (fun x => x = V2.heap.size) Z2 w5 := hol.mono (fun x _ h => (by (have h2 : x = V2.heap.size := (by (simpa [Value.ownBlock] using h)); omega))); have B5 : Below V2.heap.size V2 w5 := HBM2.out.trans (ho5.below (by omega) (fun x hx e => (by omega))); have HXB5 := Hid.intro (HX2.out.kept B5); have e6 : w5.cell? ⟨w.heap.size, 4, none⟩ = some (.slice sa Ss.length sc) := HXB5.out.cell 4; have f6 : w5.frozen? ⟨w.heap.size, 4, none⟩ = false := HXB5.out.fro 4; have HB5 := Hid.intro B5; have HON := Hid.intro hown; clear hol ho5 B5 hown)
  have z5 : V2.heap.size ≤ w5.heap.size := HB5.out.size
  obtain ⟨V3, hV3⟩ : ∃ V, w5.setCell ⟨w.heap.size, 4, none⟩ (.slice a' Ss.length c') = V := ⟨_, rfl⟩
  simp only [hV3]
  have O6 : Only (fun x => x = w.heap.size) w5 V3 := by rw [← hV3]; exact setO _ 4 w5 _
  have HX3 : Hid (Blk V3 w.heap.size #[.int .i64 nx, .slice a1 M.length k1, .int .i64 tk, .slice a2 A.length c2, .slice a' Ss.length c']) := by
    unfold Hid
    rw [← hV3]
    exact HXB5.out.putI 4 (by simp) (.slice a' Ss.length c')
  have zV3 : w5.heap.size ≤ V3.heap.size := O6.size
  have hwV3 : w.heap.size + 1 < V3.heap.size := by omega
  have HR3 : Hid (Blk V3 (w.heap.size + 1) zeroT) := (HR2.out.kept HB5.out).only O6 (by omega)
  have HO3 : Hid (VolO V3 (w.heap.size + 1 + 1) (.slice a1 M.length k1) M) := (HO2.out.kept HB5.out).only O6 (fun x hx e => by omega)
  have HN2 : Hid (Own seE 57 V3 (w.heap.size + 1 + 1) (.slice a' Ss.length c') Ss) := (HON.out.only O6 (fun x hx e => by have := (HON.out.lt x hx).1; omega)).lower (by omega)
  have HB3 : Hid (Below w.heap.size w V3) := (HB2.out.trans (HB5.out.mono HB2.out.size)).trans (O6.below (by omega) (fun x hx e => by omega))
  have HN1' : Hid (Own ntE 81 V3 (w.heap.size + 1 + 1) (.slice a2 A.length c2) A) := (HN1.out.kept HB5.out).only O6 (fun x hx e => by have := (HN1.out.lt x hx).1; omega)
  clear hV3 O6 HXB5 e6 f6 HB5 HON HW2 HSR2 kB2 HMZ2 HBM2 HHi2 HZ02 HZ12 HX2 HR2 HO2 HB2 hXh2 HN1
  have kx := HX3.out.cell
  have kr := HR3.out.cell
  have fr := HR3.out.fro
  have r0 : V3.cell? ⟨w.heap.size + 1, 0, none⟩ = some (.int .i64 0) := kr 0
  have r1 : V3.cell? ⟨w.heap.size + 1, 1, none⟩ = some (.slice none 0 0) := kr 1
  have r2 : V3.cell? ⟨w.heap.size + 1, 2, none⟩ = some (.int .i64 0) := kr 2
  have r3 : V3.cell? ⟨w.heap.size + 1, 3, none⟩ = some (.slice none 0 0) := kr 3
  have r4 : V3.cell? ⟨w.heap.size + 1, 4, none⟩ = some (.slice none 0 0) := kr 4
  clear kr
  have OE : Hid (∀ Z, Only (fun k => k = w.heap.size + 1) V3 Z → TenO Z w.heap.size ⟨nx, M, a1, k1, tk, A, a2, c2, Ss, a', c'⟩ ∧ Below w.heap.size w Z) := fun Z hZ => ⟨⟨(HO3.out.only hZ (fun k hk e => by omega)).lower (by omega), (HN1'.out.only hZ (fun k hk e => by have := (HN1'.out.lt k hk).1; omega)).lower (by omega), (HN2.out.only hZ (fun k hk e => by have := (HN2.out.lt k hk).1; omega)).lower (by omega)⟩, HB3.out.trans (hZ.below (by omega) (fun k hk e => by omega))⟩
  go_wp2
  refine bodyPost_ret (v := (Ten.mk nx M a1 k1 tk A a2 c2 Ss a' c').v) (by simp [results, Tryz.results15, go_sem, r0, r1, r2, r3, r4]) rfl ⟨⟨nx, M, a1, k1, tk, A, a2, c2, Ss, a', c'⟩, rfl, (OE.out _ ?_).1, ?_, (OE.out _ ?_).2⟩
  · repeat (refine Only.setCell ?_ (by simp) _)
    exact Only.refl _ _
  · simp only [Ten.key, HE.out]
  · repeat (refine Only.setCell ?_ (by simp) _)
    exact Only.refl _ _
set_option maxRecDepth 100000 in
set_option maxHeartbeats 8000000 in
theorem specTick_any (t : Ten) (N : Nat) (w : World) (hN : N ≤ w.heap.size) (hr : TenR w N t) (hz : TenW t) (hl : TenL t) :
    Calls Tryz.prog 5 #[t.v] w fun e w' => ∃ t' : Ten, e = .returned t'.v ∧ t'.key = tickK t.key ∧ TenR w' w'.heap.size t' ∧ Below w.heap.size w w' := by
  have HR := Hid.intro hr
  have HZ := Hid.intro hz
  clear hr hz
  cases hv : tenB t.key with
  | false =>
    rw [tickK_no hv]
    go_enter Tryz.func5, Tryz.ntmps5
    go_wp2_with fail
    obtain ⟨W, hW, bW, zW, c1, f1, c2, f2⟩ := boxed2 w t.arr zeroT 36 36
    try simp only [hW]
    refine (specTenantOk_any t N W (by omega) (HR.out.kept (bW.mono hN)) HZ.out).mono ?_
    rw [hv]
    rintro e w1 ⟨rfl, b1⟩
    have HB1 := Hid.intro (bW.trans (b1.mono (by omega)))
    have z1 := b1.size
    replace c2 := keepC b1 (by omega) c2
    replace f2 := keepF b1 (by omega) f2
    have hlt : w.heap.size + 1 < w1.heap.size := by omega
    clear hW bW b1 c1 f1 zW z1
    go_wp2
    have OE : ∀ Z, Only (fun k => k = w.heap.size + 1) w1 Z → Below w.heap.size w Z := fun Z hZ => HB1.out.trans (hZ.below HB1.out.size (fun k hk e => by omega))
    refine bodyPost_ret (v := ten0.v) (by simp [results, Tryz.results5, go_sem, c2, ten0]) rfl ⟨ten0, rfl, rfl, (ten0_mem (Nat.le_refl _)).own.rowAll, OE _ ?_⟩
    repeat (refine Only.setCell ?_ (by simp) _)
    exact Only.refl _ _
  | true =>
    rw [tickK_yes hv]
    obtain ⟨nx, L, ua, uc, tk, A, aa, ac, Ss, sa, sc⟩ := t
    obtain ⟨hcp, hA20, hSB, hS3, hsf⟩ := tenB_outK hv
    have htk : 0 ≤ tk ∧ tk ≤ 30 := by
      simp only [tenB, Ten.key, Bool.and_eq_true] at hv
      exact inB_outK hv.2.1
    have HRV : Hid (VolR w N (.slice ua L.length uc) L) := HR.out.vol
    have HRA : Hid (Row ntE w N (.slice aa A.length ac) A) := HR.out.aud
    have HRS : Hid (Row seE w N (.slice sa Ss.length sc) Ss) := HR.out.ses
    have HLM : Hid (NmL L 1048576) := hl.m
    have hl24 : L.length ≤ 1048576 := by have h24 : L.length ≤ 24 := hcp.l; omega
    have HV := Hid.intro hv
    clear hv hcp hSB hsf hl
    show Calls Tryz.prog 5 #[.agg #[.int .i64 nx, .slice ua L.length uc, .int .i64 tk, .slice aa A.length ac, .slice sa Ss.length sc]] w _
    go_enter Tryz.func5, Tryz.ntmps5
    go_wp2_with fail
    obtain ⟨W, hW, bW, zW, c1, f1, c2, f2⟩ := boxed2 w #[.int .i64 nx, .slice ua L.length uc, .int .i64 tk, .slice aa A.length ac, .slice sa Ss.length sc] zeroT 36 36
    try simp only [hW]
    refine (specTenantOk_any ⟨nx, L, ua, uc, tk, A, aa, ac, Ss, sa, sc⟩ N W (by omega) (HR.out.kept (bW.mono hN)) HZ.out).mono ?_
    rw [HV.out]
    rintro e w1 ⟨rfl, b1⟩
    have z1 := b1.size
    have HB1 := Hid.intro (bW.trans (b1.mono (by omega)))
    have HX1 : Hid (Blk w1 w.heap.size #[.int .i64 nx, .slice ua L.length uc, .int .i64 tk, .slice aa A.length ac, .slice sa Ss.length sc]) := ⟨by omega, keepC b1 (by omega) c1, keepF b1 (by omega) f1⟩
    have HRS1 : Hid (Blk w1 (w.heap.size + 1) zeroT) := ⟨by omega, keepC b1 (by omega) c2, keepF b1 (by omega) f2⟩
    have c1 := HX1.out.cell
    clear hW bW b1 f1 c2 f2
    go_wp2_with fail
    clear c1
    refine (l10Copy_any nx L ua uc tk A aa ac Ss sa sc N w1 (by omega) (HRV.out.kept (HB1.out.mono hN)) (HRA.out.kept (HB1.out.mono hN)) (HRS.out.kept (HB1.out.mono hN)) hl24 HLM.out (by omega) (by omega)).mono ?_
    rintro e w2 ⟨⟨nx2, M, ua2, uc2, tk2, A2, aa2, ac2, S2, sa2, sc2⟩, rfl, ho, hk, b2⟩
    simp only [Ten.key, Prod.mk.injEq] at hk
    obtain ⟨rfl, hM, rfl, rfl, rfl⟩ := hk
    have z2 := b2.size
    have HMN := Hid.intro hM
    have HO2 := Hid.intro ho
    have HX2 := Hid.intro (HX1.out.kept b2)
    have HRS2 := Hid.intro (HRS1.out.kept b2)
    have HB2 := Hid.intro (HB1.out.trans (b2.mono HB1.out.size))
    clear hM ho b2 HX1 HRS1 HB1 HRV HRA HRS HR HZ
    have x0 : w2.cell? ⟨w.heap.size, 0, none⟩ = some (.int .i64 nx2) := HX2.out.cell 0
    have x1 : w2.cell? ⟨w.heap.size, 1, none⟩ = some (.slice ua L.length uc) := HX2.out.cell 1
    have x2 : w2.cell? ⟨w.heap.size, 2, none⟩ = some (.int .i64 tk2) := HX2.out.cell 2
    have x3 : w2.cell? ⟨w.heap.size, 3, none⟩ = some (.slice aa A2.length ac) := HX2.out.cell 3
    have x4 : w2.cell? ⟨w.heap.size, 4, none⟩ = some (.slice sa S2.length sc) := HX2.out.cell 4
    have xf := HX2.out.fro
    have hx2 := HX2.out.hi
    go_upto_region 4 with fail
    obtain ⟨V, hV⟩ : ∃ V, ((((w2.setCell ⟨w.heap.size, 0, none⟩ (.int .i64 nx2)).setCell ⟨w.heap.size, 1, none⟩ (.slice ua2 M.length uc2)).setCell ⟨w.heap.size, 2, none⟩ (.int .i64 tk2)).setCell ⟨w.heap.size, 3, none⟩ (.slice aa2 A2.length ac2)).setCell ⟨w.heap.size, 4, none⟩ (.slice sa2 S2.length sc2) = V := ⟨_, rfl⟩
    simp only [hV]
    have OV : Only (fun k => k = w.heap.size) w2 V := by
      rw [← hV]
      exact ((((setO _ 0 w2 _).setCell (p := ⟨w.heap.size, 1, none⟩) rfl _).setCell (p := ⟨w.heap.size, 2, none⟩) rfl _).setCell (p := ⟨w.heap.size, 3, none⟩) rfl _).setCell (p := ⟨w.heap.size, 4, none⟩) rfl _
    have HXV : Hid (Blk V w.heap.size #[.int .i64 nx2, .slice ua2 M.length uc2, .int .i64 tk2, .slice aa2 A2.length ac2, .slice sa2 S2.length sc2]) := by
      unfold Hid
      rw [← hV]
      exact ((((HX2.out.putI 0 (by simp) (.int .i64 nx2)).putI 1 (by simp) (.slice ua2 M.length uc2)).putI 2 (by simp) (.int .i64 tk2)).putI 3 (by simp) (.slice aa2 A2.length ac2)).putI 4 (by simp) (.slice sa2 S2.length sc2)
    have zV : w2.heap.size ≤ V.heap.size := OV.size
    have HRSV : Hid (Blk V (w.heap.size + 1) zeroT) := HRS2.out.only OV (by omega)
    have HOV : Hid (TenO V (w.heap.size + 1 + 1) ⟨nx2, M, ua2, uc2, tk2, A2, aa2, ac2, S2, sa2, sc2⟩) := by
      have h := HO2.out
      have hw1 : w.heap.size + 1 + 1 ≤ w1.heap.size := by omega
      exact ⟨(h.vol.only OV (fun k hk e => by omega)).lower hw1, (h.aud.only OV (fun k hk e => by have := (h.aud.lt k hk).1; omega)).lower hw1, (h.ses.only OV (fun k hk e => by have := (h.ses.lt k hk).1; omega)).lower hw1⟩
    have HBV : Hid (Below w.heap.size w V) := HB2.out.trans (OV.below (by omega) (fun k hk e => by omega))
    clear hV OV HX2 HRS2 HO2 HB2 x0 x1 x2 x3 x4 xf
    have x2 : V.cell? ⟨w.heap.size, 2, none⟩ = some (.int .i64 tk2) := HXV.out.cell 2
    have f2 : V.frozen? ⟨w.heap.size, 2, none⟩ = false := HXV.out.fro 2
    go_wp2_with fail
    refine (specRefill_any tk2 V (by omega) (by omega)).mono ?_
    rintro e w9 ⟨rfl, rfl⟩
    obtain ⟨rf, hrf⟩ : ∃ rf, refI tk2 = rf := ⟨_, rfl⟩
    have HRF := Hid.intro hrf
    rw [hrf]
    clear hrf
    go_upto_region 5 with fail
    obtain ⟨Z, hZ⟩ : ∃ Z, V.setCell ⟨w.heap.size, 2, none⟩ (.int .i64 rf) = Z := ⟨_, rfl⟩
    simp only [hZ]
    have OZ : Only (fun k => k = w.heap.size) V Z := by rw [← hZ]; exact setO _ 2 V _
    have HXZ : Hid (Blk Z w.heap.size #[.int .i64 nx2, .slice ua2 M.length uc2, .int .i64 rf, .slice aa2 A2.length ac2, .slice sa2 S2.length sc2]) := by
      unfold Hid
      rw [← hZ]
      exact HXV.out.putI 2 (by simp) (.int .i64 rf)
    have zZ : V.heap.size ≤ Z.heap.size := OZ.size
    have HRSZ : Hid (Blk Z (w.heap.size + 1) zeroT) := HRSV.out.only OZ (by omega)
    have HOZ : Hid (TenO Z (w.heap.size + 1 + 1) ⟨nx2, M, ua2, uc2, rf, A2, aa2, ac2, S2, sa2, sc2⟩) := by
      have h := HOV.out
      exact ⟨h.vol.only OZ (fun k hk e => by omega), h.aud.only OZ (fun k hk e => by have := (h.aud.lt k hk).1; omega), h.ses.only OZ (fun k hk e => by have := (h.ses.lt k hk).1; omega)⟩
    have HBZ : Hid (Below w.heap.size w Z) := HBV.out.trans (OZ.below (by omega) (fun k hk e => by omega))
    have hwZ : w.heap.size + 1 < Z.heap.size := HRSZ.out.hi
    clear hZ OZ HXV HRSV HOV HBV x2 f2
    have kx := HXZ.out.cell
    have kr := HRSZ.out.cell
    have fr := HRSZ.out.fro
    have r0 : Z.cell? ⟨w.heap.size + 1, 0, none⟩ = some (.int .i64 0) := kr 0
    have r1 : Z.cell? ⟨w.heap.size + 1, 1, none⟩ = some (.slice none 0 0) := kr 1
    have r2 : Z.cell? ⟨w.heap.size + 1, 2, none⟩ = some (.int .i64 0) := kr 2
    have r3 : Z.cell? ⟨w.heap.size + 1, 3, none⟩ = some (.slice none 0 0) := kr 3
    have r4 : Z.cell? ⟨w.heap.size + 1, 4, none⟩ = some (.slice none 0 0) := kr 4
    clear kr
    have OE : Hid (∀ Y, Only (fun k => k = w.heap.size + 1) Z Y → TenR Y Y.heap.size ⟨nx2, M, ua2, uc2, rf, A2, aa2, ac2, S2, sa2, sc2⟩ ∧ Below w.heap.size w Y) := fun Y hY => by
      have h := HOZ.out
      have h2 : TenO Y (w.heap.size + 1 + 1) ⟨nx2, M, ua2, uc2, rf, A2, aa2, ac2, S2, sa2, sc2⟩ := ⟨h.vol.only hY (fun k hk e => by omega), h.aud.only hY (fun k hk e => by have := (h.aud.lt k hk).1; omega), h.ses.only hY (fun k hk e => by have := (h.ses.lt k hk).1; omega)⟩
      exact ⟨h2.rowAll, HBZ.out.trans (hY.below (by omega) (fun k hk e => by omega))⟩
    go_wp2
    refine bodyPost_ret (v := (Ten.mk nx2 M ua2 uc2 rf A2 aa2 ac2 S2 sa2 sc2).v) (by simp [results, Tryz.results5, go_sem, r0, r1, r2, r3, r4]) rfl ⟨⟨nx2, M, ua2, uc2, rf, A2, aa2, ac2, S2, sa2, sc2⟩, rfl, ?_, (OE.out _ ?_).1, (OE.out _ ?_).2⟩
    · simp only [Ten.key, HMN.out, HRF.out]
    · repeat (refine Only.setCell ?_ (by simp) _)
      exact Only.refl _ _
    · repeat (refine Only.setCell ?_ (by simp) _)
      exact Only.refl _ _
end Go.Proofs.YtnhjicbgmocilaaGreat
namespace Go.Proofs.YtnhjicbgmocilaaGreat
open Go.RowKit
set_option linter.unusedVariables false
/-- The rows of names lie one behind the other, ahead of the heap's end. -/
structure IncT (M : List Np) (w : World) : Prop where
  inc : Inc M
  top : ∀ x ∈ M, ∀ k, x.v.ownBlock = some k → k < w.heap.size
theorem IncT.nil (w : World) : IncT [] w := ⟨fun i j _ hj => by simp at hj, fun x hx => by cases hx⟩
theorem IncT.size {M : List Np} {w w' : World} (h : IncT M w) (hs : w.heap.size ≤ w'.heap.size ∨ w'.heap.size = w.heap.size) : IncT M w' := ⟨h.inc, fun x hx k hk => by have := h.top x hx k hk; omega⟩
theorem IncT.snoc {M : List Np} {w w' : World} (h : IncT M w) (hs : w.heap.size ≤ w'.heap.size) (p : Np) (hp : ∀ k, p.v.ownBlock = some k → w.heap.size ≤ k ∧ k < w'.heap.size) : IncT (M ++ [p]) w' := by
  refine ⟨h.inc.snoc w.heap.size h.top (fun k hk => (hp k hk).1), fun x hx k hk => ?_⟩
  rcases List.mem_append.1 hx with hx | hx
  · have := h.top x hx k hk; omega
  · rw [List.mem_singleton.1 hx] at hk
    exact (hp k hk).2
set_option maxRecDepth 100000 in
set_option maxHeartbeats 4000000 in
theorem toInodeSI_any (L : List Np) (v : Value) (N : Nat) (w : World) (hN : N ≤ w.heap.size) (hr : VolR w N v L) (hl : L.length ≤ 1048576) (hm : NmL L 1048576) :
    Calls Tryz.prog 40 #[v] w fun e w' => ∃ a cap M, e = .returned (.slice a L.length cap) ∧ VolO w' w.heap.size (.slice a L.length cap) M ∧ M.map Np.n = L.map Np.n ∧ Inc M ∧ Below w.heap.size w w' := by
  obtain ⟨i0, hi, hz0, hz1, hz2⟩ := infoN
  obtain ⟨a, cap, rfl, hlc, hmx, hcells⟩ := ndE_cell hr.row
  have HC := Hid.intro hcells
  have HL := Hid.intro hl
  have HM := Hid.intro hr.nms
  have HNM := Hid.intro hm
  clear hcells hr hm
  go_enter Tryz.func40, Tryz.ntmps40
  go_wp2_with (at_make; refine wpList_make_full _ rfl _ _ 30 rfl w.heap.size 104 i0 (.agg #[.int .i64 0, .int .i64 0, .int .i64 0, .int .i64 0, .int .i64 0, .string ⟨#[]⟩, .slice none 0 0, .int .i64 0, .int .i64 0]) 9 Tryz.underlying30 hi hz0 hz1 .i64 .i64 _ _ L.length rfl rfl rfl rfl (by rw [hz2]; have := HL.out; omega) (by unfold maxLen; have := HL.out; omega) (Nat.le_refl _) ?_; intro w1 hown hgrow; have HO := Hid.intro hown; have HG := Hid.intro hgrow; clear hown hgrow)
  have O1 : Own ndE 104 w1 w.heap.size (.slice (some ⟨w.heap.size, 0, none⟩) L.length L.length) (mixN [] L.length) := by
    rw [mixN_nil]
    exact Own.mk HO.out (by simp) (ndE.rep (.agg #[.int .i64 0, .int .i64 0, .int .i64 0, .int .i64 0, .int .i64 0, .string ⟨#[]⟩, .slice none 0 0, .int .i64 0, .int .i64 0]) rfl L.length)
  have B1 : Below w.heap.size w w1 := (grown_only HG.out).below (Nat.le_refl _) (fun k _ h => by cases h)
  have HO1 : Hid (CpI w1 w.heap.size L.length [] L) := ⟨O1, by simp, Nat.zero_le _, by simp⟩
  clear O1 HO HG hi hz0 hz1 hz2
  go_loopw [4] (fun i wr => ∃ (j : Nat) (M : List Np), i = .int .i64 j ∧ j ≤ L.length ∧ Hid (M.length = j) ∧ Hid (CpI wr w.heap.size L.length M L) ∧ Hid (IncT M wr) ∧ Below w.heap.size w wr) (fun i _ => L.length - (intOf i).toNat)
  case atStart => exact ⟨0, [], rfl, Nat.zero_le _, rfl, HO1, IncT.nil _, B1⟩
  case round =>
    obtain ⟨j, M, rfl, hj, HML, HO, HIT, hbel⟩ := hrel
    by_cases hlt : j < L.length
    · obtain ⟨b, off, rfl, hbN, hcc⟩ := HC.out (by intro h; rw [h] at hlt; simp at hlt)
      have hc := hcc j hlt
      have hnm := HM.out _ (List.getElem_mem hlt)
      have hnl := HNM.out _ (List.getElem_mem hlt)
      have hlj : ∀ p : Np, p.n = L[j].n → p.n = L[j].n := fun p h => h
      generalize hej : L[j] = ej at hc hnm hnl hlj
      have hs := hbel.size
      obtain ⟨g0, g1, g2, g3, g4, g5, g6, g7, g8⟩ := hc.kept hbel (by omega)
      have HR := Hid.intro (hnm.kept (hbel.mono hN))
      have HNL := Hid.intro hnl
      have HEJ := Hid.intro hej
      have hzw : w.heap.size < wr.heap.size := (HO.out.own.lt _ rfl).2
      clear hcc hc hnm hnl hlj hej
      go_wp2_with fail
      refine (toInode_any ej.n ej.v N _ (by omega) HR.out (by have := HNL.out; omega)).mono ?_
      rintro e w2 ⟨v', rfl, o2, b2⟩
      obtain ⟨a2, c2, rfl⟩ := o2.slice
      have HO2 := Hid.intro (HO.out.kept b2)
      have hb2 := hbel.trans (b2.mono (by omega))
      have HI2 : Hid (IncT (M ++ [⟨ej.n, a2, c2⟩]) w2) := HIT.out.snoc b2.size ⟨ej.n, a2, c2⟩ (fun k hk => o2.lt k hk)
      have hml := Hid.intro (mixN_len HO2.out.le)
      have hz2 : w.heap.size < w2.heap.size := (HO2.out.own.lt _ rfl).2
      obtain ⟨y0, q0⟩ := HO2.out.own.has hml.out hlt (i := 0) (by decide)
      obtain ⟨y1, q1⟩ := HO2.out.own.has hml.out hlt (i := 1) (by decide)
      obtain ⟨y2, q2⟩ := HO2.out.own.has hml.out hlt (i := 2) (by decide)
      obtain ⟨y3, q3⟩ := HO2.out.own.has hml.out hlt (i := 3) (by decide)
      obtain ⟨y4, q4⟩ := HO2.out.own.has hml.out hlt (i := 4) (by decide)
      obtain ⟨y5, q5⟩ := HO2.out.own.has hml.out hlt (i := 5) (by decide)
      obtain ⟨y6, q6⟩ := HO2.out.own.has hml.out hlt (i := 6) (by decide)
      obtain ⟨y7, q7⟩ := HO2.out.own.has hml.out hlt (i := 7) (by decide)
      obtain ⟨y8, q8⟩ := HO2.out.own.has hml.out hlt (i := 8) (by decide)
      simp only [Nat.add_zero, show ndE.n = 9 from rfl] at q0 q1 q2 q3 q4 q5 q6 q7 q8
      have f0 := HO2.out.own.frozen hml.out
      have HS : Hid (CpI (setC w2 w.heap.size (j * 9) (ndE.c ⟨ej.n, a2, c2⟩)) w.heap.size L.length (M ++ [⟨ej.n, a2, c2⟩]) L) := HO2.out.next HML.out hlt rfl ⟨ej.n, a2, c2⟩ (o2.raise fun k hk => by have := (o2.lt k hk).1; omega) (by rw [HEJ.out])
      have HBS : Hid (Below w.heap.size w (setC w2 w.heap.size (j * 9) (ndE.c ⟨ej.n, a2, c2⟩))) := Below.setC (Nat.le_refl _) _ _ hb2
      have HI3 : Hid (IncT (M ++ [⟨ej.n, a2, c2⟩]) (setC w2 w.heap.size (j * 9) (ndE.c ⟨ej.n, a2, c2⟩))) := HI2.out.size (Or.inr (by rw [setC_size]))
      have HM2 : Hid ((M ++ [(⟨ej.n, a2, c2⟩ : Np)]).length = j + 1) := by have := HML.out; unfold Hid; simp; omega
      simp only [ndE, setC] at HS HBS HI3
      clear g0 g1 g2 g3 g4 g5 g6 g7 g8 b2 o2 HO HO2 hml HIT HI2
      go_wp2
      go_roundw
      case rel => exact ⟨j + 1, _, by go_num, by omega, HM2, HS, HI3, HBS.out⟩
      case measure => simp [intOf]; omega
    · obtain rfl : j = L.length := by omega
      have HA : Hid (VolO wr w.heap.size (.slice (some ⟨w.heap.size, 0, none⟩) L.length L.length) M ∧ M.map Np.n = L.map Np.n) := by
        have h1 := HO.out.own
        rw [mixN_all HML.out] at h1
        refine ⟨⟨h1, fun p hp => (HO.out.nms p hp).lower (Nat.le_succ _)⟩, ?_⟩
        have h2 := HO.out.same
        rw [HML.out, List.take_length] at h2
        exact h2
      clear HO
      go_wp2
      go_ret
      exact ⟨_, _, M, rfl, HA.out.1, HA.out.2, HIT.out.inc, hbel⟩
set_option maxRecDepth 100000 in
set_option maxHeartbeats 2000000 in
theorem toVolI_any (next : Int) (L : List Np) (v : Value) (N : Nat) (w : World) (hN : N ≤ w.heap.size) (hr : VolR w N v L) (hl : L.length ≤ 1048576) (hm : NmL L 1048576) :
    Calls Tryz.prog 17 #[volV next v] w fun e w' => ∃ a cap M, e = .returned (volV next (.slice a L.length cap)) ∧ VolO w' w.heap.size (.slice a L.length cap) M ∧ M.map Np.n = L.map Np.n ∧ Inc M ∧ Below w.heap.size w w' := by
  have HR := Hid.intro hr
  have HNM := Hid.intro hm
  clear hr hm
  go_enter Tryz.func17, Tryz.ntmps17
  go_wp2_with fail
  obtain ⟨W, hW, bW, zW, c1, f1, c2, f2, c3, f3⟩ := boxed3 w #[.int .i64 next, v] #[.int .i64 0, .slice none 0 0] #[.int .i64 next, .slice none 0 0] 24 32 32
  simp only [hW]
  refine (toInodeSI_any L v N W (by omega) (HR.out.kept (bW.mono hN)) hl HNM.out).mono ?_
  rintro e w1 ⟨a', cap', M, rfl, o1, e1, i1, b1⟩
  replace c2 := keepC b1 (by omega) c2
  replace f2 := keepF b1 (by omega) f2
  replace c3 := keepC b1 (by omega) c3
  replace f3 := keepF b1 (by omega) f3
  have z1 := b1.size
  have HO := Hid.intro o1
  have HE := Hid.intro e1
  have HI := Hid.intro i1
  have HB := Hid.intro (bW.trans (b1.mono (by omega)))
  have HZ := Hid.intro zW
  have hz1 : w.heap.size + 1 + 1 < w1.heap.size := by omega
  clear hW b1 c1 f1 o1 e1 i1 bW zW
  go_wp2
  refine bodyPost_ret (v := volV next (.slice a' L.length cap')) (by simp [results, Tryz.results17, go_sem, c2]) rfl ⟨_, _, M, rfl, ?_, HE.out, HI.out, ?_⟩
  · refine VolO.lower (VolO.only HO.out (S := fun k => k = w.heap.size + 1 ∨ k = w.heap.size + 1 + 1) ?_ ?_) (show w.heap.size ≤ W.heap.size by have := HZ.out; omega)
    · repeat (refine Only.setCell ?_ (by simp) _)
      exact Only.refl _ _
    · intro k hk h
      have := HZ.out
      omega
  · repeat (refine Below.setCell ?_ (by simp <;> omega) _)
    exact HB.out
set_option maxRecDepth 100000 in
set_option maxHeartbeats 4000000 in
theorem toTenantM_any (t : Ten) (N : Nat) (w : World) (hN : N ≤ w.heap.size) (hr : TenR w N t) (hl : TenL t) :
    Calls Tryz.prog 6 #[t.v] w fun e w' => ∃ (t' : Ten) (v0 v1 : Nat), e = .returned t'.v ∧ TenM w' w.heap.size w'.heap.size v0 v1 t' ∧ Gd t' ∧ t'.key = t.key ∧ Below w.heap.size w w' := by
  have HR := Hid.intro hr
  have HL := Hid.intro hl
  clear hr hl
  go_enter Tryz.func6, Tryz.ntmps6
  go_wp2_with fail
  obtain ⟨W, hW, bW, zW, c1, f1, c2, f2, c3, f3⟩ := boxed3 w t.arr #[.int .i64 0, .slice none 0 0, .int .i64 0, .slice none 0 0, .slice none 0 0] #[.int .i64 0, .slice none 0 0, .int .i64 0, .slice none 0 0, .slice none 0 0] 28 36 36
  simp only [hW]
  refine (toVolI_any t.nx t.L t.u N W (by omega) (HR.out.vol.kept (bW.mono hN)) HL.out.l HL.out.m).mono ?_
  rintro e w1 ⟨a1, k1, M, rfl, o1, e1, i1, b1⟩
  have HII := Hid.intro i1
  have HVT : Hid ((∀ k, (Value.slice a1 t.L.length k1).ownBlock = some k → k < w1.heap.size) ∧ ∀ p ∈ M, ∀ k, p.v.ownBlock = some k → k < w1.heap.size) := ⟨fun k hk => (o1.own.lt k hk).2, fun p hp k hk => ((o1.nms p hp).lt k hk).2⟩
  clear i1
  have hlM : M.length = t.L.length := by have := congrArg List.length e1; simpa using this
  replace c1 := keepC b1 (by omega) c1
  replace c2 := keepC b1 (by omega) c2
  replace f2 := keepF b1 (by omega) f2
  replace c3 := keepC b1 (by omega) c3
  replace f3 := keepF b1 (by omega) f3
  have z1 := b1.size
  have HZ : Hid (w.heap.size + 1 + 1 < W.heap.size ∧ W.heap.size ≤ w1.heap.size) := by unfold Hid; omega
  have hz1 : w.heap.size + 1 + 1 < w1.heap.size := by omega
  have hB3 : Blk w1 (w.heap.size + 1 + 1) #[.int .i64 0, .slice none 0 0, .int .i64 0, .slice none 0 0, .slice none 0 0] := ⟨hz1, c3, f3⟩
  have hB2 : Blk w1 (w.heap.size + 1) #[.int .i64 0, .slice none 0 0, .int .i64 0, .slice none 0 0, .slice none 0 0] := ⟨by omega, c2, f2⟩
  obtain ⟨V, hV⟩ : ∃ V, ((w1.setCell ⟨w.heap.size + 1 + 1, 0, none⟩ (.int .i64 t.nx)).setCell ⟨w.heap.size + 1 + 1, 1, none⟩ (.slice a1 t.L.length k1)).setCell ⟨w.heap.size + 1 + 1, 2, none⟩ (.int .i64 t.tk) = V := ⟨_, rfl⟩
  have BV : Blk V (w.heap.size + 1 + 1) #[.int .i64 t.nx, .slice a1 t.L.length k1, .int .i64 t.tk, .slice none 0 0, .slice none 0 0] := by
    rw [← hV]
    have := ((hB3.put 0 (by simp) (.int .i64 t.nx)).put 1 (by simp) (.slice a1 t.L.length k1)).put 2 (by simp) (.int .i64 t.tk)
    simpa only [List.setIfInBounds_toArray, List.set_cons_succ, List.set_cons_zero] using this
  have OV : Only (fun k => k = w.heap.size + 1 + 1) w1 V := by
    rw [← hV]
    exact (((Only.refl (fun k => k = w.heap.size + 1 + 1) w1).setCell (p := ⟨w.heap.size + 1 + 1, 0, none⟩) rfl _).setCell (p := ⟨w.heap.size + 1 + 1, 1, none⟩) rfl _).setCell (p := ⟨w.heap.size + 1 + 1, 2, none⟩) rfl _
  have zV : w1.heap.size ≤ V.heap.size := OV.size
  have HWV : Hid (W.heap.size ≤ w1.heap.size ∧ w1.heap.size ≤ V.heap.size) := ⟨b1.size, zV⟩
  have c1V : ∀ o, V.cell? ⟨w.heap.size, o, none⟩ = t.arr[o]? := fun o => (OV.cell (by omega) (by omega)).trans (c1 o)
  have B2V := Hid.intro (hB2.only OV (by omega))
  have HBV := Hid.intro BV
  have HO1 : Hid (VolO V W.heap.size (.slice a1 t.L.length k1) M) := o1.only OV (fun k hk e => by have := HZ.out; omega)
  have HB : Hid (Below w.heap.size w V) := (bW.trans (b1.mono (by omega))).trans (OV.below (by omega) (fun k hk e => by omega))
  have HE1 := Hid.intro e1
  have HLM := Hid.intro hlM
  have hzV : w.heap.size + 1 + 1 < V.heap.size := by omega
  have HZV : Hid (W.heap.size ≤ V.heap.size) := by have := HZ.out; unfold Hid; omega
  clear hW b1 o1 e1 hlM bW zW f1 hB3 hB2 BV OV zV z1
  go_wp2_with fail
  clear hV c1 c2 c3 f2 f3
  refine (toNoteS_any t.A t.va N V (by omega) (HR.out.aud.kept (HB.out.mono hN)) HL.out.a).mono ?_
  rintro e w2 ⟨v2, rfl, o2, b2⟩
  obtain ⟨a2, k2, rfl⟩ := o2.slice
  have z2 := b2.size
  replace c1V := keepC b2 (by omega) c1V
  have hB3 := HBV.out.kept b2
  replace B2V := Hid.intro (B2V.out.kept b2)
  replace HO1 := Hid.intro (HO1.out.kept b2)
  replace HB := Hid.intro (HB.out.trans (b2.mono (by omega)))
  have c3 := hB3.cell
  have f3 := hB3.fro
  obtain ⟨Y, hY⟩ : ∃ Y, w2.setCell ⟨w.heap.size + 1 + 1, 3, none⟩ (.slice a2 t.A.length k2) = Y := ⟨_, rfl⟩
  have BY : Blk Y (w.heap.size + 1 + 1) #[.int .i64 t.nx, .slice a1 t.L.length k1, .int .i64 t.tk, .slice a2 t.A.length k2, .slice none 0 0] := by
    rw [← hY]
    have := hB3.put 3 (by simp) (.slice a2 t.A.length k2)
    simpa only [List.setIfInBounds_toArray, List.set_cons_succ, List.set_cons_zero] using this
  have OY : Only (fun k => k = w.heap.size + 1 + 1) w2 Y := by
    rw [← hY]
    exact (Only.refl (fun k => k = w.heap.size + 1 + 1) w2).setCell (p := ⟨w.heap.size + 1 + 1, 3, none⟩) rfl _
  have zY : w2.heap.size ≤ Y.heap.size := OY.size
  replace c1V : ∀ o, Y.cell? ⟨w.heap.size, o, none⟩ = t.arr[o]? := fun o => (OY.cell (by omega) (by omega)).trans (c1V o)
  replace B2V := Hid.intro (B2V.out.only OY (by omega))
  replace HBV := Hid.intro BY
  replace HO1 : Hid (VolO Y W.heap.size (.slice a1 t.L.length k1) M) := HO1.out.only OY (fun k hk e => by have := HZ.out; omega)
  have HO2 : Hid (Own ntE 81 Y V.heap.size (.slice a2 t.A.length k2) t.A) := o2.only OY (fun k hk e => by have := (o2.lt k hk).1; omega)
  replace HB : Hid (Below w.heap.size w Y) := HB.out.trans (OY.below (by omega) (fun k hk e => by omega))
  have hzY : w.heap.size + 1 + 1 < Y.heap.size := by omega
  have HZY : Hid (V.heap.size ≤ Y.heap.size) := by unfold Hid; omega
  clear b2 o2 hB3 BY OY zY z2 hzV
  go_wp2_with fail
  clear hY c3 f3
  refine (toSessionS_any t.S t.vs N Y (by omega) (HR.out.ses.kept (HB.out.mono hN)) HL.out.s).mono ?_
  rintro e w3 ⟨v3, rfl, o3, b3⟩
  obtain ⟨a3, k3, rfl⟩ := o3.slice
  have z3 := b3.size
  have hB3 := HBV.out.kept b3
  replace B2V := Hid.intro (B2V.out.kept b3)
  replace HO1 := Hid.intro (HO1.out.kept b3)
  replace HO2 := Hid.intro (HO2.out.kept b3)
  replace HB := Hid.intro (HB.out.trans (b3.mono (by omega)))
  have c3 := hB3.cell
  have f3 := hB3.fro
  obtain ⟨X, hX⟩ : ∃ X, w3.setCell ⟨w.heap.size + 1 + 1, 4, none⟩ (.slice a3 t.S.length k3) = X := ⟨_, rfl⟩
  have BX : Blk X (w.heap.size + 1 + 1) #[.int .i64 t.nx, .slice a1 t.L.length k1, .int .i64 t.tk, .slice a2 t.A.length k2, .slice a3 t.S.length k3] := by
    rw [← hX]
    have := hB3.put 4 (by simp) (.slice a3 t.S.length k3)
    simpa only [List.setIfInBounds_toArray, List.set_cons_succ, List.set_cons_zero] using this
  have OX : Only (fun k => k = w.heap.size + 1 + 1) w3 X := by
    rw [← hX]
    exact (Only.refl (fun k => k = w.heap.size + 1 + 1) w3).setCell (p := ⟨w.heap.size + 1 + 1, 4, none⟩) rfl _
  have zX : w3.heap.size ≤ X.heap.size := OX.size
  have HYX : Hid (Y.heap.size ≤ X.heap.size) := by unfold Hid; omega
  replace B2V := B2V.out.only OX (by omega)
  replace HO1 : Hid (VolO X W.heap.size (.slice a1 t.L.length k1) M) := HO1.out.only OX (fun k hk e => by have := HZ.out; omega)
  replace HO2 : Hid (Own ntE 81 X V.heap.size (.slice a2 t.A.length k2) t.A) := HO2.out.only OX (fun k hk e => by have := (HO2.out.lt k hk).1; have := HZ.out; have := HZV.out; omega)
  have HO3 : Hid (Own seE 57 X Y.heap.size (.slice a3 t.S.length k3) t.S) := o3.only OX (fun k hk e => by have := (o3.lt k hk).1; omega)
  replace HB : Hid (Below w.heap.size w X) := HB.out.trans (OX.below (by omega) (fun k hk e => by omega))
  have c2X := B2V.cell
  have f2X := B2V.fro
  have c3X := BX.cell
  have hzX : w.heap.size + 1 + 1 < X.heap.size := by omega
  have HTY : Hid (w.heap.size + 1 < W.heap.size ∧ w.heap.size + 1 < V.heap.size ∧ w.heap.size + 1 < Y.heap.size) := by have := HZ.out; have := HZV.out; have := HZY.out; unfold Hid; omega
  clear b3 o3 hB3 BX OX zX z3 HBV B2V c1V hzY
  go_wp2
  refine bodyPost_ret (v := (⟨t.nx, M, a1, k1, t.tk, t.A, a2, k2, t.S, a3, k3⟩ : Ten).v) (by simp [results, Tryz.results6, go_sem, c2X, HLM.out]) rfl ⟨⟨t.nx, M, a1, k1, t.tk, t.A, a2, k2, t.S, a3, k3⟩, W.heap.size, w1.heap.size, rfl, ?_, ?_, ?_, ?_⟩
  · have HT := HTY.out
    have hWV := HWV.out
    have hVY := HZY.out
    have hYX := HYX.out
    have ho : ∀ Z : World, Only (fun k => k = w.heap.size + 1) X Z → TenM Z w.heap.size Z.heap.size W.heap.size w1.heap.size ⟨t.nx, M, a1, k1, t.tk, t.A, a2, k2, t.S, a3, k3⟩ := fun Z hZ => by
      have HO1' := HO1.out
      have HV' := HVT.out
      rw [← HLM.out] at HO1' HV'
      have zZ := hZ.size
      have oA : Own ntE 81 Z V.heap.size (.slice a2 t.A.length k2) t.A := HO2.out.only hZ (fun k hk e => by have := (HO2.out.lt k hk).1; omega)
      have oS : Own seE 57 Z Y.heap.size (.slice a3 t.S.length k3) t.S := HO3.out.only hZ (fun k hk e => by have := (HO3.out.lt k hk).1; omega)
      exact ⟨by omega, by omega, by omega, HO1'.only hZ (fun k hk e => by omega), HV'.1, HV'.2, oA.lower (by omega), oS.lower (by omega), fun k hk => by have := oA.lt k hk; omega, fun k hk => by have := oS.lt k hk; omega⟩
    refine ho _ ?_
    repeat (refine Only.setCell ?_ (by simp) _)
    exact Only.refl _ _
  · refine ⟨HII.out, by show M.length ≤ 1048576; rw [HLM.out]; exact HL.out.l, fun p hp => ?_, HL.out.a, HL.out.s⟩
    have h3 : p.n ∈ t.L.map Np.n := by rw [← HE1.out]; exact List.mem_map_of_mem hp
    obtain ⟨p', hp', e⟩ := List.mem_map.1 h3
    rw [← e]
    have := HL.out.m p' hp'; omega
  · simp only [Ten.key, HE1.out]
  · repeat (refine Below.setCell ?_ (by simp <;> omega) _)
    exact HB.out
end Go.Proofs.YtnhjicbgmocilaaGreat
namespace Go.Proofs.YtnhjicbgmocilaaGreat
open Go.RowKit
set_option linter.unusedVariables false
/-- A tenant's box. -/
structure KB (wr : World) (p : Nat) (t : Ten) : Prop where
  c : ∀ o, wr.cell? ⟨p, o, none⟩ = t.arr[o]?
  lt : p < wr.heap.size
theorem KB.kept {wr w2 : World} {p : Nat} {t : Ten} (h : KB wr p t) (hb : Below wr.heap.size wr w2) : KB w2 p t := ⟨keepC hb h.lt h.c, Nat.lt_of_lt_of_le h.lt hb.size⟩
theorem KB.only {S : Nat → Prop} {wr w2 : World} {p : Nat} {t : Ten} (h : KB wr p t) (ho : Only S wr w2) (hs : ¬ S p) : KB w2 p t := ⟨fun o => (ho.cell h.lt hs).trans (h.c o), Nat.lt_of_lt_of_le h.lt ho.size⟩
structure L1 (w wr : World) (t : Ten) : Prop where
  A : TenR wr w.heap.size t
  K : KB wr w.heap.size t
  B : Below w.heap.size w wr
theorem L1.kept {w wr w2 : World} {t : Ten} (h : L1 w wr t) (hb : Below wr.heap.size wr w2) : L1 w w2 t := ⟨h.A.kept (hb.mono (Nat.le_of_lt h.K.lt)), h.K.kept hb, h.B.trans (hb.mono h.B.size)⟩
theorem L1.only {w wr w2 : World} {t : Ten} {a b : Nat} (h : L1 w wr t) (ho : Only (fun k => a ≤ k ∧ k < b) wr w2) (ha : w.heap.size < a) : L1 w w2 t :=
  ⟨h.A.kept (ho.below (Nat.le_of_lt h.K.lt) (fun k hk e => by omega)), h.K.only ho (by omega), h.B.trans (ho.below h.B.size (fun k hk e => by omega))⟩
structure L2 (wr : World) (N p : Nat) (t : Ten) : Prop where
  R : TenR wr N t
  K : KB wr p t
  le : N ≤ wr.heap.size
theorem L2.kept {wr w2 : World} {N p : Nat} {t : Ten} (h : L2 wr N p t) (hb : Below wr.heap.size wr w2) : L2 w2 N p t := ⟨h.R.kept (hb.mono h.le), h.K.kept hb, Nat.le_trans h.le hb.size⟩
theorem L2.only {wr w2 : World} {N p : Nat} {t : Ten} {a b : Nat} (h : L2 wr N p t) (ho : Only (fun k => a ≤ k ∧ k < b) wr w2) (ha : N ≤ a) (hp : ¬ (a ≤ p ∧ p < b)) : L2 w2 N p t :=
  ⟨h.R.kept (ho.below h.le (fun k hk e => by omega)), h.K.only ho hp, Nat.le_trans h.le ho.size⟩
structure L3 (wr : World) (base top v0 v1 p : Nat) (t : Ten) : Prop where
  M : TenM wr base top v0 v1 t
  K : KB wr p t
  le : top ≤ wr.heap.size
theorem L3.kept {wr w2 : World} {base top v0 v1 p : Nat} {t : Ten} (h : L3 wr base top v0 v1 p t) (hb : Below wr.heap.size wr w2) : L3 w2 base top v0 v1 p t := ⟨h.M.kept hb, h.K.kept hb, Nat.le_trans h.le hb.size⟩
theorem L3.only {wr w2 : World} {base top v0 v1 p : Nat} {t : Ten} {a b : Nat} (h : L3 wr base top v0 v1 p t) (ho : Only (fun k => a ≤ k ∧ k < b) wr w2) (hd : b ≤ base) (hp : b ≤ p) : L3 w2 base top v0 v1 p t := by
  have hlo := h.M.lo
  exact ⟨⟨h.M.lo, h.M.mid, h.M.hi, ⟨h.M.vol.own.only ho (fun k hk e => by have := (h.M.vol.own.lt k hk).1; omega), fun q hq => (h.M.vol.nms q hq).only ho (fun k hk e => by have := ((h.M.vol.nms q hq).lt k hk).1; omega)⟩, h.M.vt, h.M.vn,
    h.M.aud.only ho (fun k hk e => by have := (h.M.aud.lt k hk).1; omega), h.M.ses.only ho (fun k hk e => by have := (h.M.ses.lt k hk).1; omega), h.M.at', h.M.st⟩, h.K.only ho (by omega), Nat.le_trans h.le ho.size⟩
structure L4 (wr : World) (N p : Nat) (q : Int) (t : Ten) : Prop where
  R : MkR wr N q t
  K : KB wr p t
  le : N ≤ wr.heap.size
theorem L4.kept {wr w2 : World} {N p : Nat} {q : Int} {t : Ten} (h : L4 wr N p q t) (hb : Below wr.heap.size wr w2) : L4 w2 N p q t := ⟨h.R.kept (hb.mono h.le), h.K.kept hb, Nat.le_trans h.le hb.size⟩
theorem boxKB (w : World) (t : Ten) (T : TypeId) : ∃ W, w.alloc (.cells t.arr T) = W ∧ Below w.heap.size w W ∧ W.heap.size = w.heap.size + 1 ∧ KB W w.heap.size t := by
  obtain ⟨W, h1, h2, h3, h4, _⟩ := boxed w t.arr T
  exact ⟨W, h1, h2, h3, h4, by omega⟩
theorem TenL.of_keyK {t s : Ten} (h : TenL t) (hk : s.key = t.key) : TenL s := by
  simp only [Ten.key, Prod.mk.injEq] at hk
  obtain ⟨_, h1, _, h2, h3⟩ := hk
  have hl : s.L.length = t.L.length := by have := congrArg List.length h1; simpa using this
  refine ⟨by rw [hl]; exact h.l, fun p hp => ?_, by rw [h2]; exact h.a, by rw [h3]; exact h.s⟩
  have h4 : p.n ∈ t.L.map Np.n := by rw [← h1]; exact List.mem_map_of_mem hp
  obtain ⟨p', hp', e⟩ := List.mem_map.1 h4
  rw [← e]
  exact h.m p' hp'
theorem tick_key {a b : Ten} (h : a.key = b.key) : tickK a.key = tickK b.key := by rw [h]
set_option maxRecDepth 100000 in
set_option maxHeartbeats 16000000 in
theorem tick_law (t : Ten) (w : World) (hr : TenR w w.heap.size t) (hw : TenW t) :
    Calls Tryz.prog 3 #[t.v] w fun e w' => e = .returned (.bool true) ∧ Below w.heap.size w w' := by
  have HR := Hid.intro hr
  have HW := Hid.intro hw
  clear hr hw
  go_enter Tryz.func3, Tryz.ntmps3
  go_wp2_with fail
  obtain ⟨U, hU, bU, zU, KU⟩ := boxKB w t 28
  try simp only [hU]
  have H1 : Hid (L1 w U t) := ⟨HR.out.kept bU, KU, bU⟩
  have hzu : w.heap.size < U.heap.size := by omega
  clear hU bU zU KU HR
  refine (szTenant_any t w.heap.size _ U (Nat.le_of_lt hzu) H1.out.A HW.out (by omega) (by omega)).mono ?_
  rintro e w1 ⟨⟨s0, rfl, HN⟩, bb⟩
  replace H1 := Hid.intro (H1.out.kept bb)
  have z1 : w.heap.size < w1.heap.size := H1.out.K.lt
  clear bb hzu
  by_cases hneg0 : s0 < 0
  · go_wp2
    go_ret
    exact ⟨rfl, H1.out.B⟩
  · have HL : Hid (TenL t) := HN.out (by omega)
    clear HN
    -- w0
    have kk := H1.out.K.c
    go_wp2_with fail
    clear kk
    refine (toTenant_any t w.heap.size w1 (Nat.le_of_lt z1) H1.out.A HL.out).mono ?_
    rintro e w2 ⟨t2, rfl, o2, e2, b2⟩
    replace H1 := Hid.intro (H1.out.kept b2)
    have HO2 := Hid.intro o2
    have HE2 := Hid.intro e2
    have HW2 := Hid.intro (HW.out.of_key e2)
    have HL2 : Hid (TenL t2) := HL.out.of_keyK e2
    clear b2 o2 e2
    go_wp2_with fail
    refine (specTick_any t2 w2.heap.size w2 (Nat.le_refl _) HO2.out.rowAll HW2.out HL2.out).mono ?_
    rintro e w3 ⟨tw, rfl, ek, rw3, b3⟩
    replace H1 := Hid.intro (H1.out.kept b3)
    have HEW : Hid (tw.key = tickK t.key) := by unfold Hid; rw [ek, HE2.out]
    have HRW := Hid.intro rw3
    clear b3 ek rw3 HO2 HE2 HW2 HL2
    go_upto_region 6 with fail
    obtain ⟨W4, hW, bW, zW, KW⟩ := boxKB w3 tw 36
    try simp only [hW]
    replace H1 := Hid.intro (H1.out.kept bW)
    have H2 : Hid (L2 W4 w3.heap.size w3.heap.size tw) := ⟨HRW.out.kept bW, KW, bW.size⟩
    have hs4 : w.heap.size < W4.heap.size := H1.out.K.lt
    have hp4 : w3.heap.size < W4.heap.size := KW.lt
    clear hW bW zW KW HRW
    -- x0
    have kk := H1.out.K.c
    go_wp2_with fail
    clear kk
    refine (toTenantM_any t w.heap.size W4 (Nat.le_of_lt hs4) H1.out.A HL.out).mono ?_
    rintro e w5 ⟨tx, x0, x1, rfl, mx, gx, ex, b5⟩
    replace H1 := Hid.intro (H1.out.kept b5)
    replace H2 := Hid.intro (H2.out.kept b5)
    have hs5 := b5.size
    have HGX := Hid.intro gx
    have HEX := Hid.intro ex
    have HMX := Hid.intro mx
    have HWX := Hid.intro (HW.out.of_key ex)
    clear b5 gx ex mx
    go_upto_region 7 with fail
    obtain ⟨W6, hW, bW, zW, KW⟩ := boxKB w5 tx 36
    try simp only [hW]
    replace H1 := Hid.intro (H1.out.kept bW)
    replace H2 := Hid.intro (H2.out.kept bW)
    have H3 : Hid (L3 W6 W4.heap.size w5.heap.size x0 x1 w5.heap.size tx) := ⟨HMX.out.kept bW, KW, bW.size⟩
    have hp6 : w5.heap.size < W6.heap.size := KW.lt
    clear hW bW zW KW HMX
    -- g0
    have kk := H3.out.K.c
    go_wp2_with fail
    clear kk
    refine (implTick_any tx W6.heap.size W6 (Nat.le_refl _) H3.out.M.own.rowAll HWX.out).mono ?_
    rintro e w7 ⟨tg, v0, v1, rfl, ek, mg, gg, b7⟩
    replace H1 := Hid.intro (H1.out.kept b7)
    replace H2 := Hid.intro (H2.out.kept b7)
    replace H3 := Hid.intro (H3.out.kept b7)
    have hs7 := b7.size
    have HGG := Hid.intro gg
    have HMG := Hid.intro mg
    have HEG : Hid (tg.key = tw.key) := by unfold Hid; rw [ek, tick_key HEX.out, HEW.out]
    clear b7 gg mg ek
    go_upto_region 8 with fail
    obtain ⟨W8, hW, bW, zW, KW⟩ := boxKB w7 tg 36
    try simp only [hW]
    replace H1 := Hid.intro (H1.out.kept bW)
    replace H2 := Hid.intro (H2.out.kept bW)
    replace H3 := Hid.intro (H3.out.kept bW)
    have H5 : Hid (L3 W8 W6.heap.size w7.heap.size v0 v1 w7.heap.size tg) := ⟨HMG.out.kept bW, KW, bW.size⟩
    have hp8 : w7.heap.size < W8.heap.size := KW.lt
    clear hW bW zW KW HMG
    have kk := H5.out.K.c
    have kk2 := H2.out.K.c
    go_wp2_with fail
    clear kk kk2
    refine (eqTenant_any tg tw W8.heap.size W8 (Nat.le_refl _) H5.out.M.own.rowAll (H2.out.R.up H2.out.le) HEG.out).mono ?_
    rintro e w9 ⟨rfl, b⟩
    replace H1 := Hid.intro (H1.out.kept b)
    replace H2 := Hid.intro (H2.out.kept b)
    replace H3 := Hid.intro (H3.out.kept b)
    replace H5 := Hid.intro (H5.out.kept b)
    clear b
    have hlz := H1.out.K.lt
    go_upto_region 10 with fail
    have HS : Hid (∀ y, Below w9.heap.size w9 y → (∀ o, y.cell? ⟨w5.heap.size, o, none⟩ = tx.arr[o]?) ∧ (∀ o, y.cell? ⟨w.heap.size, o, none⟩ = t.arr[o]?)) := fun y hy => ⟨(H3.out.K.kept hy).c, (H1.out.K.kept hy).c⟩
    refine wp_region_held_drew (S := fun y => (∀ o, y.cell? ⟨w5.heap.size, o, none⟩ = tx.arr[o]?) ∧ (∀ o, y.cell? ⟨w.heap.size, o, none⟩ = t.arr[o]?)) (by kernel_rfl) (HS.out _ (Below.refl _ _).drew) (fun hHeld => ?_)
    have BD : Hid (Below w9.heap.size w9 w9.drew) := (Below.refl _ _).drew
    generalize w9.drew = D at BD hHeld ⊢
    refine take1 (i := 0) (d := some 27) (v := ?_) rfl rfl (by kernel_rfl) (by kernel_rfl) (by kernel_rfl) (fun _ _ _ h => h) (Or.inl ⟨by rfl, ?_⟩) (by assumption) ?_
    rotate_left 1
    · intro w hSw
      obtain ⟨q0, q1⟩ := hSw
      go_simp <;> with_reducible rfl
    simp only [Act.put, List.setIfInBounds_toArray]
    dsimp only [List.set_cons_succ, List.set_cons_zero]
    refine take1 (i := 1) (d := some 28) (v := ?_) rfl rfl (by kernel_rfl) (by kernel_rfl) (by kernel_rfl) (fun _ _ _ h => h) (Or.inl ⟨by rfl, ?_⟩) (by assumption) ?_
    rotate_left 1
    · intro w hSw
      obtain ⟨q0, q1⟩ := hSw
      go_simp <;> with_reducible rfl
    simp only [Act.put, List.setIfInBounds_toArray]
    dsimp only [List.set_cons_succ, List.set_cons_zero]
    refine wpAnyH_ready (rs := [2]) (by kernel_rfl) (by simp) ?_
    refine AllReadyH.cons rfl (fun KK hKK => ?_) AllReadyH.nil
    go_simp
    refine (toTenant_any t w.heap.size D (by have := BD.out.size; omega) (H1.out.A.kept (BD.out.mono (by omega))) HL.out).mono ?_
    rintro e wa ⟨t3, rfl, o3, e3, b⟩
    have HO3 := Hid.intro o3
    have HE3 : Hid (tx.key = t3.key) := by unfold Hid; rw [e3, HEX.out]
    have B1 : Hid (Below w9.heap.size w9 wa) := BD.out.trans (b.mono BD.out.size)
    clear o3 e3 b
    go_simp
    refine hKK.out _ _ (HS.out _ B1.out) (fun hHeld2 => ?_)
    clear hKK KK hHeld
    have hHeld := hHeld2
    clear hHeld2
    refine wpAnyH_ready (rs := [3]) (by kernel_rfl) (by simp) ?_
    refine AllReadyH.cons rfl (fun KK hKK => ?_) AllReadyH.nil
    go_simp
    refine (eqTenant_any tx t3 wa.heap.size wa (Nat.le_refl _) (H3.out.kept B1.out).M.own.rowAll HO3.out.rowAll HE3.out).mono ?_
    rintro e wb ⟨rfl, b⟩
    have B2 : Hid (Below w9.heap.size w9 wb) := B1.out.trans (b.mono B1.out.size)
    clear b
    go_simp
    refine hKK.out _ _ (HS.out _ B2.out) (fun hHeld2 => ?_)
    clear hKK KK hHeld
    have hHeld := hHeld2
    clear hHeld2
    refine take1 (i := 4) (d := some 31) (v := ?_) rfl rfl (by kernel_rfl) (by kernel_rfl) (by kernel_rfl) (fun _ _ _ h => h) (Or.inl ⟨by rfl, ?_⟩) (by assumption) ?_
    rotate_left 1
    · intro w hSw
      obtain ⟨q0, q1⟩ := hSw
      go_simp <;> with_reducible rfl
    simp only [Act.put, List.setIfInBounds_toArray]
    dsimp only [List.set_cons_succ, List.set_cons_zero]
    refine wpAnyH_done (by kernel_rfl) ?_ _
    replace H1 := Hid.intro (H1.out.kept B2.out)
    replace H2 := Hid.intro (H2.out.kept B2.out)
    replace H3 := Hid.intro (H3.out.kept B2.out)
    replace H5 := Hid.intro (H5.out.kept B2.out)
    clear hHeld HS HO3 HE3 B1 B2 BD hlz
    have kk := H3.out.K.c
    go_wp2_with fail
    clear kk
    refine (markTenant_any tx W4.heap.size w5.heap.size x0 x1 1 wb H3.out.le H3.out.M HGX.out (by omega) (by omega)).mono ?_
    rintro e wc ⟨rfl, -, n⟩
    replace H1 := Hid.intro (H1.out.only n hs4)
    replace H2 := Hid.intro (H2.out.only n (Nat.le_of_lt hp4) (by omega))
    replace H5 := Hid.intro (H5.out.only n (Nat.le_of_lt hp6) (by omega))
    have hbx := (endT_bd (q := 1) HGX.out (by omega) (by omega)).2
    generalize endT 1 tx = mx at hbx ⊢
    have hm0 : ¬ mx < 0 := by omega
    clear n H3 HGX HEX HWX
    have kk := H5.out.K.c
    have kk2 := H2.out.K.c
    go_wp2_with fail
    clear kk kk2
    refine (eqTenant_any tg tw wc.heap.size wc (Nat.le_refl _) H5.out.M.own.rowAll (H2.out.R.up H2.out.le) HEG.out).mono ?_
    rintro e wd ⟨rfl, b⟩
    replace H1 := Hid.intro (H1.out.kept b)
    replace H2 := Hid.intro (H2.out.kept b)
    replace H5 := Hid.intro (H5.out.kept b)
    clear b
    have kk := H5.out.K.c
    go_wp2_with fail
    clear kk
    refine (markTenant_any tg W6.heap.size w7.heap.size v0 v1 1 wd H5.out.le H5.out.M HGG.out (by omega) (by omega)).mono ?_
    rintro e we ⟨rfl, r6, n⟩
    replace H1 := Hid.intro (H1.out.only n (by omega))
    replace H2 := Hid.intro (H2.out.only n (by omega) (by omega))
    have H4 : Hid (L4 we we.heap.size w7.heap.size 1 tg) := ⟨r6, H5.out.K.only n (by omega), Nat.le_refl _⟩
    have hbd := (endT_bd (q := 1) HGG.out (by omega) (by omega)).2
    obtain ⟨mm, hmm⟩ : ∃ mm, endT 1 tg = mm := ⟨_, rfl⟩
    rw [hmm] at hbd ⊢
    have HMM := Hid.intro hmm
    have hm1 : ¬ mm < 0 := by omega
    have hme : (mm != mm) = false := by simp
    clear n H5 r6 hmm
    have kk := H4.out.K.c
    go_wp2_with fail
    clear kk
    refine (heldTenant_any tg we.heap.size 1 we (Nat.le_refl _) H4.out.R HGG.out (by omega) (by omega)).mono ?_
    rintro e wf ⟨rfl, b⟩
    rw [HMM.out]
    replace H1 := Hid.intro (H1.out.kept b)
    replace H2 := Hid.intro (H2.out.kept b)
    replace H4 := Hid.intro (H4.out.kept b)
    clear b
    have kk := H1.out.K.c
    go_wp2_with fail
    clear kk
    refine (toTenant_any t w.heap.size wf (Nat.le_of_lt H1.out.K.lt) H1.out.A HL.out).mono ?_
    rintro e wg ⟨t4, rfl, o4, e4, b⟩
    replace H1 := Hid.intro (H1.out.kept b)
    replace H2 := Hid.intro (H2.out.kept b)
    replace H4 := Hid.intro (H4.out.kept b)
    have HO4 := Hid.intro o4
    have HE4 := Hid.intro e4
    clear b o4 e4
    go_wp2_with fail
    refine (implTick_any t4 wg.heap.size wg (Nat.le_refl _) HO4.out.rowAll (HW.out.of_key HE4.out)).mono ?_
    rintro e wh ⟨th, u0, u1, rfl, ek, mh, -, b⟩
    replace H1 := Hid.intro (H1.out.kept b)
    replace H2 := Hid.intro (H2.out.kept b)
    replace H4 := Hid.intro (H4.out.kept b)
    have HMH : Hid (TenR wh wh.heap.size th) := mh.own.rowAll
    have HEH : Hid (th.key = tw.key) := by unfold Hid; rw [ek, tick_key HE4.out, HEW.out]
    clear b mh ek HO4 HE4
    go_upto_region 25 with fail
    obtain ⟨Wi, hW, bW, zW, KW⟩ := boxKB wh th 36
    try simp only [hW]
    replace H1 := Hid.intro (H1.out.kept bW)
    replace H2 := Hid.intro (H2.out.kept bW)
    replace H4 := Hid.intro (H4.out.kept bW)
    replace HMH := Hid.intro (HMH.out.kept bW)
    have hle := bW.size
    have kk := KW.c
    have kk2 := H2.out.K.c
    clear hW bW zW KW
    go_wp2_with fail
    clear kk kk2
    refine (eqTenant_any th tw Wi.heap.size Wi (Nat.le_refl _) (HMH.out.up hle) (H2.out.R.up H2.out.le) HEH.out).mono ?_
    rintro e wj ⟨rfl, b⟩
    replace H1 := Hid.intro (H1.out.kept b)
    replace H4 := Hid.intro (H4.out.kept b)
    clear b HMH HEH H2
    have kk := H4.out.K.c
    go_wp2_with fail
    clear kk
    refine (heldTenant_any tg we.heap.size 1 wj H4.out.le H4.out.R HGG.out (by omega) (by omega)).mono ?_
    rintro e wk ⟨rfl, b⟩
    rw [HMM.out]
    have HB := Hid.intro (H1.out.kept b).B
    clear b H1 H4
    go_wp2
    go_ret
    exact ⟨rfl, HB.out⟩
end Go.Proofs.YtnhjicbgmocilaaGreat
namespace Go.Proofs.YtnhjicbgmocilaaGreat
open Go.ChangeShapes Go.WideShapes Go.ChangeAt Go.RowKit Go.Joins Go.Deep
set_option linter.unusedVariables false
theorem cells_i : Tryz.prog.cellsOf 3 = 1 := by kernel_rfl
theorem cells_s : Tryz.prog.cellsOf 9 = 1 := by kernel_rfl
theorem cells_Dirent : Tryz.prog.cellsOf 134 = 2 := by kernel_rfl
theorem cells_DirentS : Tryz.prog.cellsOf 98 = 1 := by kernel_rfl
theorem cells_Inode : Tryz.prog.cellsOf 100 = 9 := by kernel_rfl
theorem cells_InodeS : Tryz.prog.cellsOf 22 = 1 := by kernel_rfl
theorem cells_Vol : Tryz.prog.cellsOf 24 = 2 := by kernel_rfl
section
variable {H : Type} {enc : TypeId × Value → H} {W : World} {sp : Nat → Bool} {held : Bool}
theorem dirent_cells {fuel : Nat} {cs : List Value} {x : DataW H × List MemPlace} (h : DataW.trod enc Tryz.prog W 0 sp held fuel 134 cs = some x) : ∃ a : Di, cs = diE.c a ∧ (a.nm.size ≤ 9223372036854775807 ∧ (Lit.int .i64 a.id).wf = true) := by
  obtain ⟨xs, n, _, rfl, hl, hlen, hf⟩ := DataW.trod_struct Tryz.underlying134 h
  rw [cells_Dirent] at hl
  obtain ⟨c0, c1, rfl⟩ := list2 hl
  have hlen' : xs.length = 2 := by simpa using hlen
  obtain ⟨y0, y1, rfl⟩ := list2 hlen'
  have h0 := hf 0 _ rfl
  have h1 := hf 1 _ rfl
  simp [cells_i, cells_s] at h0 h1
  obtain ⟨d, e0, _, hd⟩ := DataW.trod_string Tryz.underlying9 h0
  obtain ⟨t, e1, _, hwf⟩ := DataW.trod_int Tryz.underlying3 h1
  simp only [List.cons.injEq, and_true] at e0 e1
  subst e0 e1
  exact ⟨⟨d, t⟩, rfl, hd, hwf⟩
theorem open_DirentS {fuel : Nat} {c : Value} {x : DataW H × List MemPlace} (h : DataW.trod enc Tryz.prog W 0 sp held fuel 98 [c] = some x) : ∃ L : List Di, Row diE W W.heap.size c L ∧ ∀ a ∈ L, (a.nm.size ≤ 9223372036854775807 ∧ (Lit.int .i64 a.id).wf = true) :=
  open_row diE _ Tryz.underlying98 cells_Dirent (fun _ _ _ h => dirent_cells h) h
theorem inode_cells {fuel : Nat} {cs : List Value} {x : DataW H × List MemPlace} (h : DataW.trod enc Tryz.prog W 0 sp held fuel 100 cs = some x) :
    ∃ p : Np, cs = ndE.c p ∧ (NdW p.n ∧ Row diE W W.heap.size p.v p.n.names) := by
  obtain ⟨xs, n, _, rfl, hl, hlen, hf⟩ := DataW.trod_struct Tryz.underlying100 h
  rw [cells_Inode] at hl
  obtain ⟨c0, c1, c2, c3, c4, c5, c6, c7, c8, rfl⟩ := list9 hl
  have hlen' : xs.length = 9 := by simpa using hlen
  obtain ⟨y0, y1, y2, y3, y4, y5, y6, y7, y8, rfl⟩ := list9 hlen'
  have h0 := hf 0 _ rfl
  have h1 := hf 1 _ rfl
  have h2 := hf 2 _ rfl
  have h3 := hf 3 _ rfl
  have h4 := hf 4 _ rfl
  have h5 := hf 5 _ rfl
  have h6 := hf 6 _ rfl
  have h7 := hf 7 _ rfl
  have h8 := hf 8 _ rfl
  simp [cells_i, cells_s, cells_DirentS] at h0 h1 h2 h3 h4 h5 h6 h7 h8
  obtain ⟨x0, e0, _⟩ := DataW.trod_int Tryz.underlying3 h0
  obtain ⟨x1, e1, _⟩ := DataW.trod_int Tryz.underlying3 h1
  obtain ⟨x2, e2, _⟩ := DataW.trod_int Tryz.underlying3 h2
  obtain ⟨x3, e3, _⟩ := DataW.trod_int Tryz.underlying3 h3
  obtain ⟨x4, e4, _⟩ := DataW.trod_int Tryz.underlying3 h4
  obtain ⟨x5, e5, _, hd⟩ := DataW.trod_string Tryz.underlying9 h5
  obtain ⟨x7, e7, _⟩ := DataW.trod_int Tryz.underlying3 h7
  obtain ⟨x8, e8, _⟩ := DataW.trod_int Tryz.underlying3 h8
  simp only [List.cons.injEq, and_true] at e0 e1 e2 e3 e4 e5 e7 e8
  subst e0 e1 e2 e3 e4 e5 e7 e8
  obtain ⟨L, hL, hz⟩ := open_DirentS h6
  obtain ⟨a, cap, rfl, _⟩ := hL.slice
  exact ⟨⟨⟨x0, x1, x2, x3, x4, x5, L, x7, x8⟩, a, cap⟩, rfl, ⟨⟨hd, fun e he => (hz e he).1⟩, fun e he => (hz e he).2⟩, hL⟩
theorem open_InodeS {fuel : Nat} {c : Value} {x : DataW H × List MemPlace} (h : DataW.trod enc Tryz.prog W 0 sp held fuel 22 [c] = some x) : ∃ L : List Np, VolR W W.heap.size c L ∧ ∀ p ∈ L, NdW p.n := by
  obtain ⟨L, hL, hp⟩ := open_row ndE _ Tryz.underlying22 cells_Inode (fun _ _ _ h => inode_cells h) h
  exact ⟨L, ⟨hL, fun p h => (hp p h).2⟩, fun p h => (hp p h).1⟩
theorem vol_cells {fuel : Nat} {cs : List Value} {x : DataW H × List MemPlace} (h : DataW.trod enc Tryz.prog W 0 sp held fuel 24 cs = some x) :
    ∃ (next : Int) (u : Value) (L : List Np), cs = [.int .i64 next, u] ∧ VolR W W.heap.size u L ∧ ∀ p ∈ L, NdW p.n := by
  obtain ⟨xs, n, _, rfl, hl, hlen, hf⟩ := DataW.trod_struct Tryz.underlying24 h
  rw [cells_Vol] at hl
  obtain ⟨c0, c1, rfl⟩ := list2 hl
  have hlen' : xs.length = 2 := by simpa using hlen
  obtain ⟨y0, y1, rfl⟩ := list2 hlen'
  have h0 := hf 0 _ rfl
  have h1 := hf 1 _ rfl
  simp [cells_i, cells_InodeS] at h0 h1
  obtain ⟨t, e0, _⟩ := DataW.trod_int Tryz.underlying3 h0
  simp only [List.cons.injEq, and_true] at e0
  subst e0
  obtain ⟨L, hL, hz⟩ := open_InodeS h1
  exact ⟨t, c1, L, rfl, hL, hz⟩
set_option maxRecDepth 100000 in
theorem open_Vol {r0 : Go.Reach} {b0 : Nat} {v : Value} {d : DataW H} {p : List MemPlace} (hval : Value.okWide Tryz.prog W r0 b0 24 v) (h : DataW.Trod enc Tryz.prog W 0 sp held 24 v d p) :
    ∃ (next : Int) (u : Value) (L : List Np), v = volV next u ∧ VolR W W.heap.size u L ∧ ∀ p ∈ L, NdW p.n := by
  obtain ⟨cs, rfl, hsz⟩ := okWide_struct Tryz.underlying24 hval
  obtain ⟨fuel, hf⟩ := h
  obtain ⟨next, u, L, hr, h1⟩ := vol_cells hf
  refine ⟨next, u, L, ?_, h1⟩
  have e : cs.toList = [.int .i64 next, u] := by simpa [Value.cells] using hr
  rw [volV, ← Array.toArray_toList (xs := cs), e]
end
end Go.Proofs.YtnhjicbgmocilaaGreat
namespace Go.Proofs.YtnhjicbgmocilaaGreat
open Go.ChangeShapes Go.WideShapes Go.ChangeAt Go.RowKit Go.Joins Go.Deep
set_option linter.unusedVariables false
theorem cells_ni : Tryz.prog.cellsOf 3 = 1 := by kernel_rfl
theorem cells_Note : Tryz.prog.cellsOf 83 = 5 := by kernel_rfl
theorem list5 {α : Type} {cs : List α} (h : cs.length = 5) : ∃ c0 c1 c2 c3 c4, cs = [c0, c1, c2, c3, c4] := by
  match cs, h with
  | [c0, c1, c2, c3, c4], _ => exact ⟨c0, c1, c2, c3, c4, rfl⟩
section
variable {H : Type} {enc : TypeId × Value → H} {W : World} {sp : Nat → Bool} {held : Bool}
theorem note_cells {fuel : Nat} {cs : List Value} {x : DataW H × List MemPlace} (h : DataW.trod enc Tryz.prog W 0 sp held fuel 83 cs = some x) : ∃ a : Nt, cs = ntE.c a ∧ True := by
  obtain ⟨xs, n, _, rfl, hl, hlen, hf⟩ := DataW.trod_struct Tryz.underlying83 h
  rw [cells_Note] at hl
  obtain ⟨c0, c1, c2, c3, c4, rfl⟩ := list5 hl
  have hlen' : xs.length = 5 := by simpa using hlen
  obtain ⟨y0, y1, y2, y3, y4, rfl⟩ := list5 hlen'
  have h0 := hf 0 _ rfl
  have h1 := hf 1 _ rfl
  have h2 := hf 2 _ rfl
  have h3 := hf 3 _ rfl
  have h4 := hf 4 _ rfl
  simp [cells_ni] at h0 h1 h2 h3 h4
  obtain ⟨x0, e0, _⟩ := DataW.trod_int Tryz.underlying3 h0
  obtain ⟨x1, e1, _⟩ := DataW.trod_int Tryz.underlying3 h1
  obtain ⟨x2, e2, _⟩ := DataW.trod_int Tryz.underlying3 h2
  obtain ⟨x3, e3, _⟩ := DataW.trod_int Tryz.underlying3 h3
  obtain ⟨x4, e4, _⟩ := DataW.trod_int Tryz.underlying3 h4
  simp only [List.cons.injEq, and_true] at e0 e1 e2 e3 e4
  subst e0 e1 e2 e3 e4
  exact ⟨⟨x0, x1, x2, x3, x4⟩, rfl, trivial⟩
set_option maxRecDepth 100000 in
theorem open_NoteS {r0 : Go.Reach} {b0 : Nat} {v : Value} {d : DataW H} {p : List MemPlace} (hval : Value.okWide Tryz.prog W r0 b0 25 v) (h : DataW.Trod enc Tryz.prog W 0 sp held 25 v d p) : ∃ L : List Nt, Row ntE W W.heap.size v L := by
  obtain ⟨fuel, hf⟩ := h
  obtain ⟨a, n, cap, rfl⟩ := okWide_slice Tryz.underlying25 hval
  obtain ⟨L, hL, _⟩ := open_row ntE (fun _ => True) Tryz.underlying25 cells_Note (fun _ _ _ h => note_cells h) (c := .slice a n cap) (by simpa [Value.cells] using hf)
  exact ⟨L, hL⟩
end
end Go.Proofs.YtnhjicbgmocilaaGreat
namespace Go.Proofs.YtnhjicbgmocilaaGreat
open Go.ChangeShapes Go.WideShapes Go.ChangeAt Go.RowKit Go.Joins Go.Deep
set_option linter.unusedVariables false
theorem cells_Session : Tryz.prog.cellsOf 73 = 5 := by kernel_rfl
theorem cells_NoteS : Tryz.prog.cellsOf 25 = 1 := by kernel_rfl
theorem cells_SessionS : Tryz.prog.cellsOf 26 = 1 := by kernel_rfl
theorem cells_Tenant : Tryz.prog.cellsOf 28 = 5 := by kernel_rfl
theorem list4 {α : Type} {cs : List α} (h : cs.length = 4) : ∃ c0 c1 c2 c3, cs = [c0, c1, c2, c3] := by
  match cs, h with
  | [c0, c1, c2, c3], _ => exact ⟨c0, c1, c2, c3, rfl⟩
section
variable {H : Type} {enc : TypeId × Value → H} {W : World} {sp : Nat → Bool} {held : Bool}
theorem ses_cells {fuel : Nat} {cs : List Value} {x : DataW H × List MemPlace} (h : DataW.trod enc Tryz.prog W 0 sp held fuel 73 cs = some x) : ∃ a : Se, cs = seE.c a ∧ a.r.d.size ≤ 9223372036854775807 := by
  obtain ⟨xs, n, _, rfl, hl, hlen, hf⟩ := DataW.trod_struct Tryz.underlying73 h
  rw [cells_Session] at hl
  obtain ⟨c0, c1, c2, c3, c4, rfl⟩ := list5 hl
  have hlen' : xs.length = 4 := by simpa using hlen
  obtain ⟨y0, y1, y2, y3, rfl⟩ := list4 hlen'
  have h0 := hf 0 _ rfl
  have h1 := hf 1 _ rfl
  have h2 := hf 2 _ rfl
  have h3 := hf 3 _ rfl
  simp [cells_ni, cells_Result] at h0 h1 h2 h3
  obtain ⟨x0, e0, _⟩ := DataW.trod_int Tryz.underlying3 h0
  obtain ⟨x1, e1, _⟩ := DataW.trod_int Tryz.underlying3 h1
  obtain ⟨x2, e2, _⟩ := DataW.trod_int Tryz.underlying3 h2
  obtain ⟨r, e3, hr⟩ := res_cells h3
  simp only [List.cons.injEq, and_true] at e0 e1 e2 e3
  obtain ⟨e3, e4⟩ := e3
  subst e0 e1 e2 e3 e4
  exact ⟨⟨x0, x1, x2, r⟩, rfl, hr⟩
theorem open_noteRow {fuel : Nat} {c : Value} {x : DataW H × List MemPlace} (h : DataW.trod enc Tryz.prog W 0 sp held fuel 25 [c] = some x) : ∃ L : List Nt, Row ntE W W.heap.size c L ∧ ∀ a ∈ L, True :=
  open_row ntE _ Tryz.underlying25 cells_Note (fun _ _ _ h => note_cells h) h
theorem open_sesRow {fuel : Nat} {c : Value} {x : DataW H × List MemPlace} (h : DataW.trod enc Tryz.prog W 0 sp held fuel 26 [c] = some x) : ∃ L : List Se, Row seE W W.heap.size c L ∧ ∀ a ∈ L, a.r.d.size ≤ 9223372036854775807 :=
  open_row seE _ Tryz.underlying26 cells_Session (fun _ _ _ h => ses_cells h) h
theorem tenant_cells {fuel : Nat} {cs : List Value} {x : DataW H × List MemPlace} (h : DataW.trod enc Tryz.prog W 0 sp held fuel 28 cs = some x) :
    ∃ t : Ten, cs = t.arr.toList ∧ TenR W W.heap.size t ∧ TenW t := by
  obtain ⟨xs, n, _, rfl, hl, hlen, hf⟩ := DataW.trod_struct Tryz.underlying28 h
  rw [cells_Tenant] at hl
  obtain ⟨c0, c1, c2, c3, c4, rfl⟩ := list5 hl
  have hlen' : xs.length = 4 := by simpa using hlen
  obtain ⟨y0, y1, y2, y3, rfl⟩ := list4 hlen'
  have h0 := hf 0 _ rfl
  have h1 := hf 1 _ rfl
  have h2 := hf 2 _ rfl
  have h3 := hf 3 _ rfl
  simp [cells_ni, cells_Vol, cells_NoteS, cells_SessionS] at h0 h1 h2 h3
  obtain ⟨nx, u, L, e0, hL, hw⟩ := vol_cells h0
  obtain ⟨tk, e1, _⟩ := DataW.trod_int Tryz.underlying3 h1
  obtain ⟨A, hA, _⟩ := open_noteRow h2
  obtain ⟨S, hS, hd⟩ := open_sesRow h3
  simp only [List.cons.injEq, and_true] at e0 e1
  obtain ⟨e0, e00⟩ := e0
  subst e0 e00 e1
  obtain ⟨ua, uc, rfl, _⟩ := hL.row.slice
  obtain ⟨aa, ac, rfl, _⟩ := hA.slice
  obtain ⟨sa, sc, rfl, _⟩ := hS.slice
  exact ⟨⟨nx, L, ua, uc, tk, A, aa, ac, S, sa, sc⟩, rfl, ⟨hL, hA, hS⟩, ⟨hw, hd⟩⟩
set_option maxRecDepth 100000 in
theorem open_Tenant {r0 : Go.Reach} {b0 : Nat} {v : Value} {d : DataW H} {p : List MemPlace} (hval : Value.okWide Tryz.prog W r0 b0 28 v) (h : DataW.Trod enc Tryz.prog W 0 sp held 28 v d p) :
    ∃ t : Ten, v = t.v ∧ TenR W W.heap.size t ∧ TenW t := by
  obtain ⟨cs, rfl, hsz⟩ := okWide_struct Tryz.underlying28 hval
  obtain ⟨fuel, hf⟩ := h
  obtain ⟨t, hr, h1⟩ := tenant_cells hf
  refine ⟨t, ?_, h1⟩
  have e : cs.toList = t.arr.toList := by simpa [Value.cells] using hr
  rw [Ten.v, ← Array.toArray_toList (xs := cs), e]
end
end Go.Proofs.YtnhjicbgmocilaaGreat
namespace Go.Proofs.YtnhjicbgmocilaaGreat
open Go.ChangeShapes Go.WideShapes Go.ChangeAt Go.RowKit
open Go.ChangeMaps (open_string shut_string)
set_option linter.unusedVariables false

theorem fnExactTenantTick_own : ownKnob Tryz.prog.godebug = none := by kernel_rfl
theorem fnExactTenantTick_laidOut : laidOutB Tryz.prog = true := by kernel_rfl

set_option maxRecDepth 100000 in
theorem fnExactTenantTick_lifted (os : Os) (started : os.Started) (H : Type) (enc : TypeId × Value → H) :
    ReturnsInHanded {} Tryz.checked os 3 .any (Rows.fnExactTenantTickSpec.pre6 enc Tryz.prog Tryz.f3 Rows.fnExactTenantTickRow.domain false) (Rows.fnExactTenantTickSpec.post enc Tryz.prog Tryz.f3 false true false false) := by
  refine returnsInHanded_of_change (C := Tryz.checked) fnExactTenantTick_own started (by kernel_rfl) Tryz.func3
    (ChangeSpec.witness6 (enc := enc) (C := Tryz.checked) false ⟨#[], #[.agg #[.int .i64 0, .slice none 0 0, .int .i64 0, .slice none 0 0, .slice none 0 0]], []⟩ 8 (by kernel_rfl) (by kernel_rfl) (by kernel_rfl) (by kernel_rfl)) ?_
  intro W base args ds gs before hval0 hW hcnd _
  have hval : ∀ (j : Nat) t v, Tryz.f3.params[j]? = some t → args[j]? = some v → Value.okWide Tryz.prog W .any base t v := hval0
  have hW' := hW
  obtain ⟨p, q, hA0, hV, rfl, hfz, hnd⟩ := hW
  have hA : DataW.TrodAll enc Tryz.prog W 0 (fun _ => true) true Tryz.f3.params.toList args.toList ds p := hA0
  rw [Tryz.params3] at hA hval
  obtain ⟨v0, vs0, d0, ds0, p0, q0, hargs0, rfl, rfl, h0, r0⟩ := trodAll_cons hA
  obtain ⟨rfl, rfl, rfl⟩ := trodAll_nil r0
  obtain rfl : args = #[v0] := by cases args; simp_all
  obtain ⟨rfl, rfl⟩ := trodVars_none hV
  have k0 := h0
  have lt0 : ∀ x ∈ p0, x.block < W.heap.size := by obtain ⟨m, hm⟩ := k0; exact DataW.trod_lt m _ _ _ hm
  obtain ⟨t0, rfl, e0, z0⟩ := open_Tenant (hval 0 28 v0 rfl rfl) h0
  clear hA0 hval0
  refine (tick_law t0 W e0 z0).mono fun e W' ⟨he, bel⟩ => ?_
  subst he
  exact ⟨_, rfl, _, _, _, [], _, [], hW', trodAll_mk1 (shut_bool Tryz.underlying4 _), (trodAll_cons_mk (Below.trod fnExactTenantTick_laidOut (by kernel_rfl) (of_decide_eq_true (by kernel_rfl)) k0 bel lt0) trodAll_mk0), rfl, bel.frame _, fun h => by cases h⟩

theorem fnExactTenantTick_over : Rows.fnExactTenantTickRow.holds Tryz.pinned (OpenSpec.ofChange Rows.fnExactTenantTickSpec) :=
  OpenClaim.holds_of_wide 3 Tryz.f3 rfl rfl rfl rfl rfl rfl rfl ⟨rfl, rfl, rfl, rfl, rfl⟩ rfl rfl rfl rfl rfl (by kernel_rfl) Tryz.func3 (by kernel_rfl)
    (of_decide_eq_true (by kernel_rfl)) (by unfold Func.isWrapper; first | (rw [if_pos (by decide +kernel)]; kernel_rfl) | (rw [if_neg (by decide +kernel)]; exact ⟨rfl, rfl⟩))
    (fun os started H enc _ => fnExactTenantTick_lifted os started H enc)

theorem fnExactTenantTick_proved : Rows.FnExactTenantTickSaid := fnExactTenantTick_over
#print axioms fnExactTenantTick_proved
end Go.Proofs.YtnhjicbgmocilaaGreat
