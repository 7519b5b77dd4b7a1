/- The sentence's ShowTenant. -/
import Derived.Test.YtknckbedddeijaaGreatXShowM
import Derived.Test.YtknckbedddeijaaGreatXTenOkS
import Derived.Test.YtknckbedddeijaaGreatTSpecVol
import Derived.Test.YtknckbedddeijaaGreatTCurP
import Derived.Deep.Cut
namespace Go.Proofs.YtknckbedddeijaaGreat
open Go.RowKit
set_option linter.unusedVariables false
def STn (nx : Int) (u : Value) (tk : Nat) (va vs : Value) (b : Nat) (w' : World) : Prop := w'.cell? ⟨b, 0, none⟩ = some (.int .i64 nx) ∧ w'.cell? ⟨b, 1, none⟩ = some u ∧ w'.cell? ⟨b, 2, none⟩ = some (.int .i64 tk) ∧ w'.cell? ⟨b, 3, none⟩ = some va ∧ w'.cell? ⟨b, 4, none⟩ = some vs
def SNt (i c s k d : Nat) (b : Nat) (w' : World) : Prop := w'.cell? ⟨b, 0, none⟩ = some (.int .i64 i) ∧ w'.cell? ⟨b, 1, none⟩ = some (.int .i64 c) ∧ w'.cell? ⟨b, 2, none⟩ = some (.int .i64 s) ∧ w'.cell? ⟨b, 3, none⟩ = some (.int .i64 k) ∧ w'.cell? ⟨b, 4, none⟩ = some (.int .i64 d)
def SSe (c s i : Nat) (r : Re) (b : Nat) (w' : World) : Prop := w'.cell? ⟨b, 0, none⟩ = some (.int .i64 c) ∧ w'.cell? ⟨b, 1, none⟩ = some (.int .i64 s) ∧ w'.cell? ⟨b, 2, none⟩ = some (.int .i64 i) ∧ w'.cell? ⟨b, 3, none⟩ = some (.int .i64 r.c) ∧ w'.cell? ⟨b, 4, none⟩ = some (.string r.d)
set_option maxRecDepth 100000 in
set_option maxHeartbeats 8000000 in
theorem specShowTenant_any (t : Ten) (N : Nat) (w : World) (hN : N ≤ w.heap.size) (hr : TenR w N t) (hz : TenW t) :
  Calls Tryz.prog 25 #[t.v] w fun e w' => e = .returned (.string (shTen t.key)) ∧ Below w.heap.size w w' := by
 have HR := Hid.intro hr
 have HZ := Hid.intro hz
 clear hr hz
 cases hv : tenB t.key with
 | false =>
  rw [shTen_no hv]
  go_enter Tryz.func25, Tryz.ntmps25
  go_wp2_with fail
  refine (specTenantOk_any t N _ (by simp; omega) (HR.out.kept ((one_below w _).mono hN)) HZ.out).mono ?_
  rw [hv]
  rintro e w1 ⟨rfl, b1⟩
  have B1 := (one_below w _).trans (b1.mono (by simp))
  go_wp2
  go_ret
  exact ⟨rfl, B1⟩
 | true =>
  rw [shTen_yes hv]
  obtain ⟨nx, L, ua, uc, tk, A, aa, ac, Ss, sa, sc⟩ := t
  have HV := Hid.intro hv
  obtain ⟨hvol, ⟨ht0, ht1⟩, hA20, hAB, hS3, hSB⟩ := tenB_of hv
  obtain ⟨tk, rfl⟩ := Int.eq_ofNat_of_zero_le ht0
  have HRV : Hid (VolR w N (.slice ua L.length uc) L) := HR.out.vol
  have HRA : Hid (Row ntE w N (.slice aa A.length ac) A) := HR.out.aud
  have HRS : Hid (Row seE w N (.slice sa Ss.length sc) Ss) := HR.out.ses
  have HZN : Hid (∀ p ∈ L, NdSz p.n) := fun p hp => (HZ.out.nod p hp).1
  have HAB := Hid.intro hAB
  have HSB := Hid.intro hSB
  have hsv := shV_le hvol
  obtain ⟨sv, hsve⟩ : ∃ sv, shV nx (L.map Np.n) = sv := ⟨_, rfl⟩
  rw [hsve] at hsv
  have HSV := Hid.intro hsve
  have HG : Hid (tenL (Ten.key ⟨nx, L, ua, uc, (tk : Int), A, aa, ac, Ss, sa, sc⟩) = varL sv.size ++ sv.data.toList ++ varsL [tk, A.length] ++ notsL A ++ varL Ss.length ++ sessL Ss) := by
   unfold Hid
   rw [← hsve]
   simp [tenL, Ten.key]
  generalize tenL (Ten.key ⟨nx, L, ua, uc, (tk : Int), A, aa, ac, Ss, sa, sc⟩) = ans at HG ⊢
  clear hv hvol hAB hSB hsve ht0
  show Calls Tryz.prog 25 #[.agg #[.int .i64 nx, .slice ua L.length uc, .int .i64 (tk : Nat), .slice aa A.length ac, .slice sa Ss.length sc]] w _
  go_enter Tryz.func25, Tryz.ntmps25
  go_wp2_with fail
  obtain ⟨W, hW, bW, zW, cW, fW⟩ := boxed w #[.int .i64 nx, .slice ua L.length uc, .int .i64 (tk : Nat), .slice aa A.length ac, .slice sa Ss.length sc] 36
  simp only [hW]
  refine (specTenantOk_any ⟨nx, L, ua, uc, (tk : Int), A, aa, ac, Ss, sa, sc⟩ N W (by omega) (HR.out.kept (bW.mono hN)) HZ.out).mono ?_
  rw [HV.out]
  rintro e w1 ⟨rfl, b1⟩
  have z1 := b1.size
  have hX := keepC b1 (by omega) cW
  have BW : Below w.heap.size w w1 := bW.trans (b1.mono (by omega))
  have hlt1 : w.heap.size < w1.heap.size := by omega
  have HXA : Hid (∀ w', Below w1.heap.size w1 w' → ∀ o, w'.cell? ⟨w.heap.size, o, none⟩ = (#[.int .i64 nx, .slice ua L.length uc, .int .i64 (tk : Nat), .slice aa A.length ac, .slice sa Ss.length sc] : Array Value)[o]?) := fun w' hb => keepC hb hlt1 hX
  have HC : Hid (∀ w', Below w1.heap.size w1 w' → STn nx (.slice ua L.length uc) tk (.slice aa A.length ac) (.slice sa Ss.length sc) w.heap.size w') := fun w' hb => ⟨HXA.out w' hb 0, HXA.out w' hb 1, HXA.out w' hb 2, HXA.out w' hb 3, HXA.out w' hb 4⟩
  have v0 := piece_le sv
  have v1 := varS_le tk
  have v2 := varS_le A.length
  clear hW bW zW cW fW b1 z1 HV hX HZ HR
  go_upto_region 3 with fail
  refine wp_region_held_drew (S := STn nx (.slice ua L.length uc) tk (.slice aa A.length ac) (.slice sa Ss.length sc) w.heap.size) (by kernel_rfl) (HC.out _ (Below.refl _ _).drew) (fun hHeld => ?_)
  have BQD : Below w1.heap.size w1 w1.drew := (Below.refl _ _).drew
  generalize w1.drew = D at BQD hHeld ⊢
  refine tkk 0 11 (v := ?_) ?_ ?_
  rotate_left 1
  ·intro w hSw
   obtain ⟨s0, s1, s2, s3, s4⟩ := hSw
   go_simp <;> with_reducible rfl
  simp only [Act.put, List.setIfInBounds_toArray]
  try simp only [List.set_cons_succ]
  try simp only [List.set_cons_zero]
  refine tkk 1 12 (v := ?_) ?_ ?_
  rotate_left 1
  ·intro w hSw
   obtain ⟨s0, s1, s2, s3, s4⟩ := hSw
   go_simp <;> with_reducible rfl
  simp only [Act.put, List.setIfInBounds_toArray]
  try simp only [List.set_cons_succ]
  try simp only [List.set_cons_zero]
  refine tkk 4 15 (v := ?_) ?_ ?_
  rotate_left 1
  ·intro w hSw
   obtain ⟨s0, s1, s2, s3, s4⟩ := hSw
   go_simp <;> with_reducible rfl
  simp only [Act.put, List.setIfInBounds_toArray]
  try simp only [List.set_cons_succ]
  try simp only [List.set_cons_zero]
  refine tkk 5 16 (v := ?_) ?_ ?_
  rotate_left 1
  ·intro w hSw
   obtain ⟨s0, s1, s2, s3, s4⟩ := hSw
   go_simp <;> with_reducible rfl
  simp only [Act.put, List.setIfInBounds_toArray]
  try simp only [List.set_cons_succ]
  try simp only [List.set_cons_zero]
  refine tkk 8 19 (v := ?_) ?_ ?_
  rotate_left 1
  ·intro w hSw
   obtain ⟨s0, s1, s2, s3, s4⟩ := hSw
   go_simp <;> with_reducible rfl
  simp only [Act.put, List.setIfInBounds_toArray]
  try simp only [List.set_cons_succ]
  try simp only [List.set_cons_zero]
  refine tkk 9 20 (v := ?_) ?_ ?_
  rotate_left 1
  ·intro w hSw
   obtain ⟨s0, s1, s2, s3, s4⟩ := hSw
   go_simp <;> with_reducible rfl
  simp only [Act.put, List.setIfInBounds_toArray]
  try simp only [List.set_cons_succ]
  try simp only [List.set_cons_zero]
  refine tkk 10 21 (v := ?_) ?_ ?_
  rotate_left 1
  ·intro w hSw
   obtain ⟨s0, s1, s2, s3, s4⟩ := hSw
   go_simp <;> with_reducible rfl
  simp only [Act.put, List.setIfInBounds_toArray]
  try simp only [List.set_cons_succ]
  try simp only [List.set_cons_zero]
  refine wpAnyH_ready (rs := [2]) (by kernel_rfl) (by simp) ?_
  refine AllReadyH.cons rfl (fun KK hKK => ?_) AllReadyH.nil
  go_simp
  refine (specShowVol_any nx L (.slice ua L.length uc) N D (by have := BQD.size; have := BW.size; omega) (HRV.out.kept ((BW.trans (BQD.mono BW.size)).mono hN)) HZN.out).mono ?_
  rw [HSV.out]
  rintro e q1 ⟨rfl, b9⟩
  have BQq1 : Below w1.heap.size w1 q1 := stepB BQD b9
  clear b9 BQD
  go_simp
  refine hKK.out _ _ (HC.out _ BQq1) (fun hHeld2 => ?_)
  clear hKK KK hHeld
  have hHeld := hHeld2
  clear hHeld2
  refine wpAnyH_ready (rs := [3]) (by kernel_rfl) (by simp) ?_
  refine AllReadyH.cons rfl (fun KK hKK => ?_) AllReadyH.nil
  go_simp
  refine (specPiece_any sv _ (by omega)).mono ?_
  rintro e q2 ⟨rfl, b9⟩
  have BQq2 : Below w1.heap.size w1 q2 := stepB BQq1 b9
  clear b9 BQq1
  go_simp
  refine hKK.out _ _ (HC.out _ BQq2) (fun hHeld2 => ?_)
  clear hKK KK hHeld
  have hHeld := hHeld2
  clear hHeld2
  refine wpAnyH_ready (rs := [6]) (by kernel_rfl) (by simp) ?_
  refine AllReadyH.cons rfl (fun KK hKK => ?_) AllReadyH.nil
  go_simp
  refine (specVar_yes tk _ (by omega)).mono ?_
  rintro e q3 ⟨rfl, b9⟩
  have BQq3 : Below w1.heap.size w1 q3 := stepB BQq2 b9
  clear b9 BQq2
  go_simp
  refine hKK.out _ _ (HC.out _ BQq3) (fun hHeld2 => ?_)
  clear hKK KK hHeld
  have hHeld := hHeld2
  clear hHeld2
  refine take1 (i := 7) (d := some 18) (v := .string (piece sv ++ varS tk)) rfl rfl (by kernel_rfl) (by kernel_rfl) (by kernel_rfl) (fun _ _ _ h => h) (Or.inl ⟨by rfl, ?_⟩) (by assumption) ?_
  ·intro w hSw
   go_simp
   omega
  simp only [Act.put, List.setIfInBounds_toArray]
  try simp only [List.set_cons_succ]
  try simp only [List.set_cons_zero]
  refine wpAnyH_ready (rs := [11]) (by kernel_rfl) (by simp) ?_
  refine AllReadyH.cons rfl (fun KK hKK => ?_) AllReadyH.nil
  go_simp
  refine (specVar_yes A.length _ (by omega)).mono ?_
  rintro e q4 ⟨rfl, b9⟩
  have BQq4 : Below w1.heap.size w1 q4 := stepB BQq3 b9
  clear b9 BQq3
  go_simp
  refine hKK.out _ _ (HC.out _ BQq4) (fun hHeld2 => ?_)
  clear hKK KK hHeld
  have hHeld := hHeld2
  clear hHeld2
  refine take1 (i := 12) (d := some 23) (v := .string (piece sv ++ varS tk ++ varS A.length)) rfl rfl (by kernel_rfl) (by kernel_rfl) (by kernel_rfl) (fun _ _ _ h => h) (Or.inl ⟨by rfl, ?_⟩) (by assumption) ?_
  ·intro w hSw
   go_simp
   omega
  simp only [Act.put, List.setIfInBounds_toArray]
  try simp only [List.set_cons_succ]
  try simp only [List.set_cons_zero]
  refine tkk 13 3 (v := ?_) ?_ ?_
  rotate_left 1
  ·intro w hSw
   obtain ⟨s0, s1, s2, s3, s4⟩ := hSw
   go_simp <;> with_reducible rfl
  simp only [Act.put, List.setIfInBounds_toArray]
  try simp only [List.set_cons_succ]
  try simp only [List.set_cons_zero]
  refine wpAnyH_done (by kernel_rfl) ?_ _
  clear HC hHeld
  have HP : Hid ((piece sv ++ varS tk ++ varS A.length).data.toList = varL sv.size ++ sv.data.toList ++ varsL [tk, A.length]) := by
   unfold Hid
   simp only [ba_app, varS_list, piece_toList, varsL, List.flatMap_cons, List.flatMap_nil, List.append_nil, List.append_assoc]
  have hsz : (piece sv ++ varS tk ++ varS A.length).size ≤ 10021 := by simp only [ByteArray.size_append]; omega
  have HB := Hid.intro BQq4
  have hzB := BQq4.size
  clear BQq4 v0 v1 v2
  generalize piece sv ++ varS tk ++ varS A.length = s0 at HP hsz ⊢
  obtain ⟨P, hPe⟩ : ∃ P, varL sv.size ++ sv.data.toList ++ varsL [tk, A.length] = P := ⟨_, rfl⟩
  rw [hPe] at HP HG
  clear hPe
  obtain ⟨a0, cap0, hsv2, hl, hm, hcells⟩ := ntE_cell (HRA.out.kept (BW.mono hN))
  simp only [Value.slice.injEq, true_and] at hsv2
  obtain ⟨rfl, rfl⟩ := hsv2
  have HCA := Hid.intro hcells
  clear hcells hl hm
  have kx := HXA.out _ HB.out
  go_wp2_with fail
  clear kx
  go_loopw [3, 4] (fun x i wr => ∃ (j : Nat) (s : ByteArray), i = .int .i64 j ∧ x = .string s ∧ j ≤ A.length ∧ s.size ≤ 10021 + 35 * j ∧ Hid (s.data.toList = P ++ notsL (A.take j)) ∧ Hid (Below w1.heap.size w1 wr)) (fun _ i _ => A.length - (intOf i).toNat)
  case atStart => exact ⟨0, s0, rfl, rfl, Nat.zero_le _, by omega, by unfold Hid; simpa [notsL] using HP.out, HB⟩
  case round =>
   obtain ⟨j, s, rfl, rfl, hj, hsj, HP, HB⟩ := hrel
   have hzr := HB.out.size
   have kk := HXA.out _ HB.out
   by_cases hlt : j < A.length
   ·obtain ⟨b, off, hab, hbN, hcc⟩ := HCA.out (fun h => by rw [h] at hlt; simp at hlt)
    subst hab
    obtain ⟨d0, d1, d2, d3, d4⟩ := hcc j hlt
    have hst := notsL_snoc A j hlt
    have hnb := HAB.out A[j] (List.getElem_mem hlt)
    generalize A[j] = x at d0 d1 d2 d3 d4 hst hnb
    obtain ⟨xi, xc, xs, xk, xd⟩ := x
    obtain ⟨⟨i0, i1⟩, ⟨c0, c1⟩, ⟨s0, s1⟩, ⟨k0, k1⟩, ⟨e0, e1⟩⟩ := hnb
    simp only at i0 i1 c0 c1 s0 s1 k0 k1 e0 e1 d0 d1 d2 d3 d4 hst
    obtain ⟨xi, rfl⟩ := Int.eq_ofNat_of_zero_le i0
    obtain ⟨xc, rfl⟩ := Int.eq_ofNat_of_zero_le c0
    obtain ⟨xs, rfl⟩ := Int.eq_ofNat_of_zero_le s0
    obtain ⟨xk, rfl⟩ := Int.eq_ofNat_of_zero_le k0
    obtain ⟨xd, rfl⟩ := Int.eq_ofNat_of_zero_le e0
    have hst2 : notsL (A.take j) ++ varsL [xi, xc, xs, xk, xd] = notsL (A.take (j + 1)) := by simpa [notL] using hst
    have HS := Hid.intro hst2
    replace d0 := atCell HB.out d0 (by omega)
    replace d1 := atCell HB.out d1 (by omega)
    replace d2 := atCell HB.out d2 (by omega)
    replace d3 := atCell HB.out d3 (by omega)
    replace d4 := atCell HB.out d4 (by omega)
    have hjl : (j : Int) < (A.length : Int) := by omega
    have i1' : (0 : Int) ≤ (j : Int) ∧ (j : Int) < (A.length : Int) := by omega
    clear hst hst2 hcc i0 c0 s0 k0 e0
    go_upto_region 8 with fail
    obtain ⟨Y, hY, bY, zY, cY, fY⟩ := boxed wr #[.int .i64 (xi : Nat), .int .i64 (xc : Nat), .int .i64 (xs : Nat), .int .i64 (xk : Nat), .int .i64 (xd : Nat)] 55
    simp only [hY]
    replace HB := Hid.intro (HB.out.trans (bY.mono hzr))
    have hyl : wr.heap.size < Y.heap.size := by omega
    have HC : Hid (∀ w', Below Y.heap.size Y w' → SNt xi xc xs xk xd wr.heap.size w') := fun w' hb => ⟨atCell hb (cY 0) hyl, atCell hb (cY 1) hyl, atCell hb (cY 2) hyl, atCell hb (cY 3) hyl, atCell hb (cY 4) hyl⟩
    clear hY bY fY cY d0 d1 d2 d3 d4 kk i1' hjl
    have y0 := varS_le xi
    have y1 := varS_le xc
    have y2 := varS_le xs
    have y3 := varS_le xk
    have y4 := varS_le xd
    refine wp_region_held_drew (S := SNt xi xc xs xk xd wr.heap.size) (by kernel_rfl) (HC.out _ (Below.refl _ _).drew) (fun hHeld => ?_)
    have BQD : Below Y.heap.size Y Y.drew := (Below.refl _ _).drew
    generalize Y.drew = D at BQD hHeld ⊢
    refine tkk 0 36 (v := ?_) ?_ ?_
    rotate_left 1
    ·intro w hSw
     obtain ⟨s0, s1, s2, s3, s4⟩ := hSw
     go_simp <;> with_reducible rfl
    simp only [Act.put, List.setIfInBounds_toArray]
    try simp only [List.set_cons_succ]
    try simp only [List.set_cons_zero]
    refine tkk 1 37 (v := ?_) ?_ ?_
    rotate_left 1
    ·intro w hSw
     obtain ⟨s0, s1, s2, s3, s4⟩ := hSw
     go_simp <;> with_reducible rfl
    simp only [Act.put, List.setIfInBounds_toArray]
    try simp only [List.set_cons_succ]
    try simp only [List.set_cons_zero]
    refine tkk 2 38 (v := ?_) ?_ ?_
    rotate_left 1
    ·intro w hSw
     obtain ⟨s0, s1, s2, s3, s4⟩ := hSw
     go_simp <;> with_reducible rfl
    simp only [Act.put, List.setIfInBounds_toArray]
    try simp only [List.set_cons_succ]
    try simp only [List.set_cons_zero]
    refine tkk 5 41 (v := ?_) ?_ ?_
    rotate_left 1
    ·intro w hSw
     obtain ⟨s0, s1, s2, s3, s4⟩ := hSw
     go_simp <;> with_reducible rfl
    simp only [Act.put, List.setIfInBounds_toArray]
    try simp only [List.set_cons_succ]
    try simp only [List.set_cons_zero]
    refine tkk 6 42 (v := ?_) ?_ ?_
    rotate_left 1
    ·intro w hSw
     obtain ⟨s0, s1, s2, s3, s4⟩ := hSw
     go_simp <;> with_reducible rfl
    simp only [Act.put, List.setIfInBounds_toArray]
    try simp only [List.set_cons_succ]
    try simp only [List.set_cons_zero]
    refine tkk 9 45 (v := ?_) ?_ ?_
    rotate_left 1
    ·intro w hSw
     obtain ⟨s0, s1, s2, s3, s4⟩ := hSw
     go_simp <;> with_reducible rfl
    simp only [Act.put, List.setIfInBounds_toArray]
    try simp only [List.set_cons_succ]
    try simp only [List.set_cons_zero]
    refine tkk 10 46 (v := ?_) ?_ ?_
    rotate_left 1
    ·intro w hSw
     obtain ⟨s0, s1, s2, s3, s4⟩ := hSw
     go_simp <;> with_reducible rfl
    simp only [Act.put, List.setIfInBounds_toArray]
    try simp only [List.set_cons_succ]
    try simp only [List.set_cons_zero]
    refine tkk 13 49 (v := ?_) ?_ ?_
    rotate_left 1
    ·intro w hSw
     obtain ⟨s0, s1, s2, s3, s4⟩ := hSw
     go_simp <;> with_reducible rfl
    simp only [Act.put, List.setIfInBounds_toArray]
    try simp only [List.set_cons_succ]
    try simp only [List.set_cons_zero]
    refine tkk 14 50 (v := ?_) ?_ ?_
    rotate_left 1
    ·intro w hSw
     obtain ⟨s0, s1, s2, s3, s4⟩ := hSw
     go_simp <;> with_reducible rfl
    simp only [Act.put, List.setIfInBounds_toArray]
    try simp only [List.set_cons_succ]
    try simp only [List.set_cons_zero]
    refine tkk 17 53 (v := ?_) ?_ ?_
    rotate_left 1
    ·intro w hSw
     obtain ⟨s0, s1, s2, s3, s4⟩ := hSw
     go_simp <;> with_reducible rfl
    simp only [Act.put, List.setIfInBounds_toArray]
    try simp only [List.set_cons_succ]
    try simp only [List.set_cons_zero]
    refine tkk 18 54 (v := ?_) ?_ ?_
    rotate_left 1
    ·intro w hSw
     obtain ⟨s0, s1, s2, s3, s4⟩ := hSw
     go_simp <;> with_reducible rfl
    simp only [Act.put, List.setIfInBounds_toArray]
    try simp only [List.set_cons_succ]
    try simp only [List.set_cons_zero]
    refine wpAnyH_ready (rs := [3]) (by kernel_rfl) (by simp) ?_
    refine AllReadyH.cons rfl (fun KK hKK => ?_) AllReadyH.nil
    go_simp
    refine (specVar_yes xi _ (by omega)).mono ?_
    rintro e q1 ⟨rfl, b9⟩
    have BQq1 : Below Y.heap.size Y q1 := stepB BQD b9
    clear b9 BQD
    go_simp
    refine hKK.out _ _ (HC.out _ BQq1) (fun hHeld2 => ?_)
    clear hKK KK hHeld
    have hHeld := hHeld2
    clear hHeld2
    refine take1 (i := 4) (d := some 40) (v := .string (s ++ varS xi)) rfl rfl (by kernel_rfl) (by kernel_rfl) (by kernel_rfl) (fun _ _ _ h => h) (Or.inl ⟨by rfl, ?_⟩) (by assumption) ?_
    ·intro w hSw
     go_simp
     omega
    simp only [Act.put, List.setIfInBounds_toArray]
    try simp only [List.set_cons_succ]
    try simp only [List.set_cons_zero]
    refine wpAnyH_ready (rs := [7]) (by kernel_rfl) (by simp) ?_
    refine AllReadyH.cons rfl (fun KK hKK => ?_) AllReadyH.nil
    go_simp
    refine (specVar_yes xc _ (by omega)).mono ?_
    rintro e q2 ⟨rfl, b9⟩
    have BQq2 : Below Y.heap.size Y q2 := stepB BQq1 b9
    clear b9 BQq1
    go_simp
    refine hKK.out _ _ (HC.out _ BQq2) (fun hHeld2 => ?_)
    clear hKK KK hHeld
    have hHeld := hHeld2
    clear hHeld2
    refine take1 (i := 8) (d := some 44) (v := .string (s ++ varS xi ++ varS xc)) rfl rfl (by kernel_rfl) (by kernel_rfl) (by kernel_rfl) (fun _ _ _ h => h) (Or.inl ⟨by rfl, ?_⟩) (by assumption) ?_
    ·intro w hSw
     go_simp
     omega
    simp only [Act.put, List.setIfInBounds_toArray]
    try simp only [List.set_cons_succ]
    try simp only [List.set_cons_zero]
    refine wpAnyH_ready (rs := [11]) (by kernel_rfl) (by simp) ?_
    refine AllReadyH.cons rfl (fun KK hKK => ?_) AllReadyH.nil
    go_simp
    refine (specVar_yes xs _ (by omega)).mono ?_
    rintro e q3 ⟨rfl, b9⟩
    have BQq3 : Below Y.heap.size Y q3 := stepB BQq2 b9
    clear b9 BQq2
    go_simp
    refine hKK.out _ _ (HC.out _ BQq3) (fun hHeld2 => ?_)
    clear hKK KK hHeld
    have hHeld := hHeld2
    clear hHeld2
    refine take1 (i := 12) (d := some 48) (v := .string (s ++ varS xi ++ varS xc ++ varS xs)) rfl rfl (by kernel_rfl) (by kernel_rfl) (by kernel_rfl) (fun _ _ _ h => h) (Or.inl ⟨by rfl, ?_⟩) (by assumption) ?_
    ·intro w hSw
     go_simp
     omega
    simp only [Act.put, List.setIfInBounds_toArray]
    try simp only [List.set_cons_succ]
    try simp only [List.set_cons_zero]
    refine wpAnyH_ready (rs := [15]) (by kernel_rfl) (by simp) ?_
    refine AllReadyH.cons rfl (fun KK hKK => ?_) AllReadyH.nil
    go_simp
    refine (specVar_yes xk _ (by omega)).mono ?_
    rintro e q4 ⟨rfl, b9⟩
    have BQq4 : Below Y.heap.size Y q4 := stepB BQq3 b9
    clear b9 BQq3
    go_simp
    refine hKK.out _ _ (HC.out _ BQq4) (fun hHeld2 => ?_)
    clear hKK KK hHeld
    have hHeld := hHeld2
    clear hHeld2
    refine take1 (i := 16) (d := some 52) (v := .string (s ++ varS xi ++ varS xc ++ varS xs ++ varS xk)) rfl rfl (by kernel_rfl) (by kernel_rfl) (by kernel_rfl) (fun _ _ _ h => h) (Or.inl ⟨by rfl, ?_⟩) (by assumption) ?_
    ·intro w hSw
     go_simp
     omega
    simp only [Act.put, List.setIfInBounds_toArray]
    try simp only [List.set_cons_succ]
    try simp only [List.set_cons_zero]
    refine wpAnyH_ready (rs := [19]) (by kernel_rfl) (by simp) ?_
    refine AllReadyH.cons rfl (fun KK hKK => ?_) AllReadyH.nil
    go_simp
    refine (specVar_yes xd _ (by omega)).mono ?_
    rintro e q5 ⟨rfl, b9⟩
    have BQq5 : Below Y.heap.size Y q5 := stepB BQq4 b9
    clear b9 BQq4
    go_simp
    refine hKK.out _ _ (HC.out _ BQq5) (fun hHeld2 => ?_)
    clear hKK KK hHeld
    have hHeld := hHeld2
    clear hHeld2
    refine take1 (i := 20) (d := some 56) (v := .string (s ++ varS xi ++ varS xc ++ varS xs ++ varS xk ++ varS xd)) rfl rfl (by kernel_rfl) (by kernel_rfl) (by kernel_rfl) (fun _ _ _ h => h) (Or.inl ⟨by rfl, ?_⟩) (by assumption) ?_
    ·intro w hSw
     go_simp
     omega
    simp only [Act.put, List.setIfInBounds_toArray]
    try simp only [List.set_cons_succ]
    try simp only [List.set_cons_zero]
    refine tkk 21 3 (v := ?_) ?_ ?_
    rotate_left 1
    ·intro w hSw
     obtain ⟨s0, s1, s2, s3, s4⟩ := hSw
     go_simp <;> with_reducible rfl
    simp only [Act.put, List.setIfInBounds_toArray]
    try simp only [List.set_cons_succ]
    try simp only [List.set_cons_zero]
    refine wpAnyH_done (by kernel_rfl) ?_ _
    clear HC hHeld
    have hs2 : (s ++ varS xi ++ varS xc ++ varS xs ++ varS xk ++ varS xd).size ≤ 10021 + 35 * (j + 1) := by simp only [ByteArray.size_append]; omega
    have HP2 : Hid ((s ++ varS xi ++ varS xc ++ varS xs ++ varS xk ++ varS xd).data.toList = P ++ notsL (A.take (j + 1))) := by
     unfold Hid
     rw [← HS.out]
     simp only [ba_app, varS_list, HP.out, varsL, List.flatMap_cons, List.flatMap_nil, List.append_nil, List.append_assoc]
    have HBQ := Hid.intro (HB.out.trans (BQq5.mono (by omega)))
    clear BQq5 y0 y1 y2 y3 y4 HS
    generalize s ++ varS xi ++ varS xc ++ varS xs ++ varS xk ++ varS xd = s2 at HP2 hs2 ⊢
    go_wp2
    go_roundw
    case rel => exact ⟨j + 1, s2, by go_num, rfl, by omega, hs2, HP2, HBQ⟩
    case measure => simp [intOf]; omega
   ·have hlt' : ¬ (j : Int) < (A.length : Int) := by omega
    obtain rfl : j = A.length := by omega
    have e1 : A.take A.length = A := List.take_length
    rw [e1] at HP
    have hvs := varS_le Ss.length
    have kx := kk
    clear kk e1
    go_wp2_with fail
    clear kx
    refine (specVar_yes Ss.length _ (by omega)).mono ?_
    rintro e v1 ⟨rfl, b2⟩
    replace HB := Hid.intro (HB.out.trans (b2.mono hzr))
    clear b2
    have kx := HXA.out _ HB.out
    have hq0 : (s ++ varS Ss.length).size ≤ 10800 := by simp only [ByteArray.size_append]; omega
    have hq1 : s.size + (varS Ss.length).size ≤ 9223372036854775807 := by omega
    have HQ : Hid ((s ++ varS Ss.length).data.toList = P ++ notsL A ++ varL Ss.length) := by
     unfold Hid
     rw [ba_app, HP.out, varS_list]
    obtain ⟨Q, hQe⟩ : ∃ Q, P ++ notsL A ++ varL Ss.length = Q := ⟨_, rfl⟩
    rw [hQe] at HQ HG
    obtain ⟨a0, cap0, hsv2, hl, hm, hcells⟩ := seE_cell (HRS.out.kept (BW.mono hN))
    simp only [Value.slice.injEq, true_and] at hsv2
    obtain ⟨rfl, rfl⟩ := hsv2
    have HCS := Hid.intro hcells
    clear hcells hl hm hQe
    go_wp2_with fail
    clear kx
    generalize s ++ varS Ss.length = sq at HQ hq0 ⊢
    go_loopw [3, 6] (fun x i wr => ∃ (j : Nat) (s : ByteArray), i = .int .i64 j ∧ x = .string s ∧ j ≤ Ss.length ∧ s.size ≤ 10800 + 435 * j ∧ Hid (s.data.toList = Q ++ sessL (Ss.take j)) ∧ Hid (Below w1.heap.size w1 wr)) (fun _ i _ => Ss.length - (intOf i).toNat)
    case atStart => exact ⟨0, sq, rfl, rfl, Nat.zero_le _, by omega, by unfold Hid; simpa [sessL] using HQ.out, HB⟩
    case round =>
     obtain ⟨j, s, rfl, rfl, hj, hsj, HP, HB⟩ := hrel
     have hzr := HB.out.size
     have kk := HXA.out _ HB.out
     by_cases hlt : j < Ss.length
     ·obtain ⟨b, off, hab, hbN, hcc⟩ := HCS.out (fun h => by rw [h] at hlt; simp at hlt)
      subst hab
      obtain ⟨d0, d1, d2, d3, d4⟩ := hcc j hlt
      have hst := sessL_snoc Ss j hlt
      have hnb := HSB.out Ss[j] (List.getElem_mem hlt)
      generalize Ss[j] = x at d0 d1 d2 d3 d4 hst hnb
      obtain ⟨xc, xs, xi, xr⟩ := x
      obtain ⟨⟨c0, c1⟩, ⟨s0, s1⟩, ⟨i0, i1⟩, hrp⟩ := hnb
      simp only at i0 i1 c0 c1 s0 s1 hrp d0 d1 d2 d3 d4 hst
      obtain ⟨xc, rfl⟩ := Int.eq_ofNat_of_zero_le c0
      obtain ⟨xs, rfl⟩ := Int.eq_ofNat_of_zero_le s0
      obtain ⟨xi, rfl⟩ := Int.eq_ofNat_of_zero_le i0
      have hrl := shR_le hrp
      have hrd := hrp.2
      have hst2 : sessL (Ss.take j) ++ (varsL [xc, xs, xi] ++ (varL (shR xr).size ++ (shR xr).data.toList)) = sessL (Ss.take (j + 1)) := by simpa [sesL] using hst
      have HS := Hid.intro hst2
      replace d0 := atCell HB.out d0 (by omega)
      replace d1 := atCell HB.out d1 (by omega)
      replace d2 := atCell HB.out d2 (by omega)
      replace d3 := atCell HB.out d3 (by omega)
      replace d4 := atCell HB.out d4 (by omega)
      have hjl : (j : Int) < (Ss.length : Int) := by omega
      have i1' : (0 : Int) ≤ (j : Int) ∧ (j : Int) < (Ss.length : Int) := by omega
      clear hst hst2 hcc i0 c0 s0 hrp
      go_upto_region 14 with fail
      obtain ⟨Y, hY, bY, zY, cY, fY⟩ := boxed wr #[.int .i64 (xc : Nat), .int .i64 (xs : Nat), .int .i64 (xi : Nat), .int .i64 xr.c, .string xr.d] 61
      simp only [hY]
      replace HB := Hid.intro (HB.out.trans (bY.mono hzr))
      have hyl : wr.heap.size < Y.heap.size := by omega
      have HC : Hid (∀ w', Below Y.heap.size Y w' → SSe xc xs xi xr wr.heap.size w') := fun w' hb => ⟨atCell hb (cY 0) hyl, atCell hb (cY 1) hyl, atCell hb (cY 2) hyl, atCell hb (cY 3) hyl, atCell hb (cY 4) hyl⟩
      clear hY bY fY cY d0 d1 d2 d3 d4 kk i1' hjl
      have y0 := varS_le xc
      have y1 := varS_le xs
      have y2 := varS_le xi
      obtain ⟨rr, hrr⟩ : ∃ rr, shR xr = rr := ⟨_, rfl⟩
      rw [hrr] at HS hrl
      have HRR := Hid.intro hrr
      clear hrr
      have y3 := piece_le rr
      refine wp_region_held_drew (S := SSe xc xs xi xr wr.heap.size) (by kernel_rfl) (HC.out _ (Below.refl _ _).drew) (fun hHeld => ?_)
      have BQD : Below Y.heap.size Y Y.drew := (Below.refl _ _).drew
      generalize Y.drew = D at BQD hHeld ⊢
      refine tkk 0 75 (v := ?_) ?_ ?_
      rotate_left 1
      ·intro w hSw
       obtain ⟨s0, s1, s2, s3, s4⟩ := hSw
       go_simp <;> with_reducible rfl
      simp only [Act.put, List.setIfInBounds_toArray]
      try simp only [List.set_cons_succ]
      try simp only [List.set_cons_zero]
      refine tkk 1 76 (v := ?_) ?_ ?_
      rotate_left 1
      ·intro w hSw
       obtain ⟨s0, s1, s2, s3, s4⟩ := hSw
       go_simp <;> with_reducible rfl
      simp only [Act.put, List.setIfInBounds_toArray]
      try simp only [List.set_cons_succ]
      try simp only [List.set_cons_zero]
      refine tkk 2 77 (v := ?_) ?_ ?_
      rotate_left 1
      ·intro w hSw
       obtain ⟨s0, s1, s2, s3, s4⟩ := hSw
       go_simp <;> with_reducible rfl
      simp only [Act.put, List.setIfInBounds_toArray]
      try simp only [List.set_cons_succ]
      try simp only [List.set_cons_zero]
      refine tkk 5 80 (v := ?_) ?_ ?_
      rotate_left 1
      ·intro w hSw
       obtain ⟨s0, s1, s2, s3, s4⟩ := hSw
       go_simp <;> with_reducible rfl
      simp only [Act.put, List.setIfInBounds_toArray]
      try simp only [List.set_cons_succ]
      try simp only [List.set_cons_zero]
      refine tkk 6 81 (v := ?_) ?_ ?_
      rotate_left 1
      ·intro w hSw
       obtain ⟨s0, s1, s2, s3, s4⟩ := hSw
       go_simp <;> with_reducible rfl
      simp only [Act.put, List.setIfInBounds_toArray]
      try simp only [List.set_cons_succ]
      try simp only [List.set_cons_zero]
      refine tkk 9 84 (v := ?_) ?_ ?_
      rotate_left 1
      ·intro w hSw
       obtain ⟨s0, s1, s2, s3, s4⟩ := hSw
       go_simp <;> with_reducible rfl
      simp only [Act.put, List.setIfInBounds_toArray]
      try simp only [List.set_cons_succ]
      try simp only [List.set_cons_zero]
      refine tkk 10 85 (v := ?_) ?_ ?_
      rotate_left 1
      ·intro w hSw
       obtain ⟨s0, s1, s2, s3, s4⟩ := hSw
       go_simp <;> with_reducible rfl
      simp only [Act.put, List.setIfInBounds_toArray]
      try simp only [List.set_cons_succ]
      try simp only [List.set_cons_zero]
      refine tkk 13 88 (v := ?_) ?_ ?_
      rotate_left 1
      ·intro w hSw
       obtain ⟨s0, s1, s2, s3, s4⟩ := hSw
       go_simp <;> with_reducible rfl
      simp only [Act.put, List.setIfInBounds_toArray]
      try simp only [List.set_cons_succ]
      try simp only [List.set_cons_zero]
      refine tkk 14 89 (v := ?_) ?_ ?_
      rotate_left 1
      ·intro w hSw
       obtain ⟨s0, s1, s2, s3, s4⟩ := hSw
       go_simp <;> with_reducible rfl
      simp only [Act.put, List.setIfInBounds_toArray]
      try simp only [List.set_cons_succ]
      try simp only [List.set_cons_zero]
      refine wpAnyH_ready (rs := [3]) (by kernel_rfl) (by simp) ?_
      refine AllReadyH.cons rfl (fun KK hKK => ?_) AllReadyH.nil
      go_simp
      refine (specVar_yes xc _ (by omega)).mono ?_
      rintro e q1 ⟨rfl, b9⟩
      have BQq1 : Below Y.heap.size Y q1 := stepB BQD b9
      clear b9 BQD
      go_simp
      refine hKK.out _ _ (HC.out _ BQq1) (fun hHeld2 => ?_)
      clear hKK KK hHeld
      have hHeld := hHeld2
      clear hHeld2
      refine take1 (i := 4) (d := some 79) (v := .string (s ++ varS xc)) rfl rfl (by kernel_rfl) (by kernel_rfl) (by kernel_rfl) (fun _ _ _ h => h) (Or.inl ⟨by rfl, ?_⟩) (by assumption) ?_
      ·intro w hSw
       go_simp
       omega
      simp only [Act.put, List.setIfInBounds_toArray]
      try simp only [List.set_cons_succ]
      try simp only [List.set_cons_zero]
      refine wpAnyH_ready (rs := [7]) (by kernel_rfl) (by simp) ?_
      refine AllReadyH.cons rfl (fun KK hKK => ?_) AllReadyH.nil
      go_simp
      refine (specVar_yes xs _ (by omega)).mono ?_
      rintro e q2 ⟨rfl, b9⟩
      have BQq2 : Below Y.heap.size Y q2 := stepB BQq1 b9
      clear b9 BQq1
      go_simp
      refine hKK.out _ _ (HC.out _ BQq2) (fun hHeld2 => ?_)
      clear hKK KK hHeld
      have hHeld := hHeld2
      clear hHeld2
      refine take1 (i := 8) (d := some 83) (v := .string (s ++ varS xc ++ varS xs)) rfl rfl (by kernel_rfl) (by kernel_rfl) (by kernel_rfl) (fun _ _ _ h => h) (Or.inl ⟨by rfl, ?_⟩) (by assumption) ?_
      ·intro w hSw
       go_simp
       omega
      simp only [Act.put, List.setIfInBounds_toArray]
      try simp only [List.set_cons_succ]
      try simp only [List.set_cons_zero]
      refine wpAnyH_ready (rs := [11]) (by kernel_rfl) (by simp) ?_
      refine AllReadyH.cons rfl (fun KK hKK => ?_) AllReadyH.nil
      go_simp
      refine (specVar_yes xi _ (by omega)).mono ?_
      rintro e q3 ⟨rfl, b9⟩
      have BQq3 : Below Y.heap.size Y q3 := stepB BQq2 b9
      clear b9 BQq2
      go_simp
      refine hKK.out _ _ (HC.out _ BQq3) (fun hHeld2 => ?_)
      clear hKK KK hHeld
      have hHeld := hHeld2
      clear hHeld2
      refine take1 (i := 12) (d := some 87) (v := .string (s ++ varS xc ++ varS xs ++ varS xi)) rfl rfl (by kernel_rfl) (by kernel_rfl) (by kernel_rfl) (fun _ _ _ h => h) (Or.inl ⟨by rfl, ?_⟩) (by assumption) ?_
      ·intro w hSw
       go_simp
       omega
      simp only [Act.put, List.setIfInBounds_toArray]
      try simp only [List.set_cons_succ]
      try simp only [List.set_cons_zero]
      refine wpAnyH_ready (rs := [15]) (by kernel_rfl) (by simp) ?_
      refine AllReadyH.cons rfl (fun KK hKK => ?_) AllReadyH.nil
      go_simp
      refine (specShowResult_any xr _ (by omega)).mono ?_
      rw [HRR.out]
      rintro e q4 ⟨rfl, b9⟩
      have BQq4 : Below Y.heap.size Y q4 := stepB BQq3 b9
      clear b9 BQq3
      go_simp
      refine hKK.out _ _ (HC.out _ BQq4) (fun hHeld2 => ?_)
      clear hKK KK hHeld
      have hHeld := hHeld2
      clear hHeld2
      refine wpAnyH_ready (rs := [16]) (by kernel_rfl) (by simp) ?_
      refine AllReadyH.cons rfl (fun KK hKK => ?_) AllReadyH.nil
      go_simp
      refine (specPiece_any rr _ (by omega)).mono ?_
      rintro e q5 ⟨rfl, b9⟩
      have BQq5 : Below Y.heap.size Y q5 := stepB BQq4 b9
      clear b9 BQq4
      go_simp
      refine hKK.out _ _ (HC.out _ BQq5) (fun hHeld2 => ?_)
      clear hKK KK hHeld
      have hHeld := hHeld2
      clear hHeld2
      refine take1 (i := 17) (d := some 92) (v := .string (s ++ varS xc ++ varS xs ++ varS xi ++ piece rr)) rfl rfl (by kernel_rfl) (by kernel_rfl) (by kernel_rfl) (fun _ _ _ h => h) (Or.inl ⟨by rfl, ?_⟩) (by assumption) ?_
      ·intro w hSw
       go_simp
       omega
      simp only [Act.put, List.setIfInBounds_toArray]
      try simp only [List.set_cons_succ]
      try simp only [List.set_cons_zero]
      refine tkk 18 3 (v := ?_) ?_ ?_
      rotate_left 1
      ·intro w hSw
       obtain ⟨s0, s1, s2, s3, s4⟩ := hSw
       go_simp <;> with_reducible rfl
      simp only [Act.put, List.setIfInBounds_toArray]
      try simp only [List.set_cons_succ]
      try simp only [List.set_cons_zero]
      refine wpAnyH_done (by kernel_rfl) ?_ _
      clear HC hHeld
      have hs2 : (s ++ varS xc ++ varS xs ++ varS xi ++ piece rr).size ≤ 10800 + 435 * (j + 1) := by simp only [ByteArray.size_append]; omega
      have HP2 : Hid ((s ++ varS xc ++ varS xs ++ varS xi ++ piece rr).data.toList = Q ++ sessL (Ss.take (j + 1))) := by
       unfold Hid
       rw [← HS.out]
       simp only [ba_app, varS_list, piece_toList, HP.out, varsL, List.flatMap_cons, List.flatMap_nil, List.append_nil, List.append_assoc]
      have HBQ := Hid.intro (HB.out.trans (BQq5.mono (by omega)))
      clear BQq5 y0 y1 y2 y3 HS HRR
      generalize s ++ varS xc ++ varS xs ++ varS xi ++ piece rr = s2 at HP2 hs2 ⊢
      go_wp2
      go_roundw
      case rel => exact ⟨j + 1, s2, by go_num, rfl, by omega, hs2, HP2, HBQ⟩
      case measure => simp [intOf]; omega
     ·have hlt' : ¬ (j : Int) < (Ss.length : Int) := by omega
      obtain rfl : j = Ss.length := by omega
      have e1 : Ss.take Ss.length = Ss := List.take_length
      rw [e1, ← HG.out] at HP
      have B2 := BW.trans (HB.out.mono (by omega))
      clear e1
      go_wp2
      go_ret
      exact ⟨ret_str ((ba_id s).symm.trans (by rw [HP.out])), B2⟩
end Go.Proofs.YtknckbedddeijaaGreat
