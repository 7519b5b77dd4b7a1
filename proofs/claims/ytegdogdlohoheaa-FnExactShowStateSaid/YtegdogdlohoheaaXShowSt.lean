/- What is shown of a state; ShowState on both sides; the law. -/
import Derived.Test.YtegdogdlohoheaaTShowVol
import Derived.Test.YtegdogdlohoheaaPReg
import Derived.Deep.Cut
import Derived.Test.YtegdogdlohoheaaXShowM
import Derived.Test.YtegdogdlohoheaaXTenOkS
import Derived.Test.YtegdogdlohoheaaXSta
namespace Go.Proofs.Ytegdogdlohoheaa
open Go.RowKit
set_option linter.unusedVariables false
theorem ba_id (s : ByteArray) : (⟨s.data.toList.toArray⟩ : ByteArray) = s := by
 obtain ⟨⟨l⟩⟩ := s
 rfl
theorem toList_size (s : ByteArray) : s.data.toList.length = s.size := by simp
def SVol (nx : Nat) (v : Value) (b : Nat) (w' : World) : Prop := w'.cell? ⟨b, 0, none⟩ = some (.int .i64 nx) ∧ w'.cell? ⟨b, 1, none⟩ = some v
def SIno (id kind mode uid gid maxb maxi : Nat) (data : ByteArray) (v : Value) (b : Nat) (w' : World) : Prop := w'.cell? ⟨b, 0, none⟩ = some (.int .i64 id) ∧ w'.cell? ⟨b, 1, none⟩ = some (.int .i64 kind) ∧ w'.cell? ⟨b, 2, none⟩ = some (.int .i64 mode) ∧ w'.cell? ⟨b, 3, none⟩ = some (.int .i64 uid) ∧ w'.cell? ⟨b, 4, none⟩ = some (.int .i64 gid) ∧ w'.cell? ⟨b, 5, none⟩ = some (.string data) ∧ w'.cell? ⟨b, 6, none⟩ = some v ∧ w'.cell? ⟨b, 7, none⟩ = some (.int .i64 maxb) ∧ w'.cell? ⟨b, 8, none⟩ = some (.int .i64 maxi)
def SDi (v : Value) (nm : ByteArray) (x b c o : Nat) (w' : World) : Prop := w'.cell? ⟨b, 6, none⟩ = some v ∧ w'.cell? ⟨c, o, none⟩ = some (.string nm) ∧ w'.cell? ⟨c, o + 1, none⟩ = some (.int .i64 x)
set_option maxRecDepth 100000 in
set_option maxHeartbeats 8000000 in
theorem specShowVol_any (next : Int) (L : List Np) (u : Value) (N : Nat) (w : World) (hN : N ≤ w.heap.size) (hr : VolR w N u L) (hz : ∀ p ∈ L, NdSz p.n) :
  Calls Try.prog 54 #[volV next u] w fun e w' => e = .returned (.string (shV next (L.map Np.n))) ∧ Below w.heap.size w w' := by
 have HV := Hid.intro hr
 have HZ := Hid.intro hz
 obtain ⟨a, cap, rfl, hl, hm, hcells⟩ := ndE_cell hr.row
 have HCC := Hid.intro hcells
 clear hr hz hcells
 cases hv : volB next (L.map Np.n) with
 | false =>
  rw [shV_no hv]
  go_enter Try.func54, Try.ntmps54
  go_wp2_with fail
  refine (specVolOk_any next L _ N _ (by simp; omega) (HV.out.kept ((one_below w _).mono hN)) HZ.out).mono ?_
  rw [hv]
  rintro e w1 ⟨rfl, b1⟩
  have B1 := (one_below w _).trans (b1.mono (by simp))
  go_wp2
  go_ret
  exact ⟨rfl, B1⟩
 | true =>
  obtain ⟨⟨hn1, hn2⟩, hl24, hnd⟩ := ndB_of hv
  rw [shV_yes hv]
  have HND : Hid (∀ p ∈ L, NdB p.n) := fun p hp => hnd p.n (List.mem_map_of_mem hp)
  obtain ⟨nx, rfl⟩ := Int.eq_ofNat_of_zero_le (show 0 ≤ next by omega)
  rw [List.length_map] at hl24
  simp only [Int.toNat_natCast, List.length_map]
  clear hnd
  go_enter Try.func54, Try.ntmps54
  go_wp2_with fail
  obtain ⟨W, hW, bW, zW, cW, fW⟩ := boxed w #[.int .i64 (nx : Nat), .slice a L.length cap] 24
  simp only [hW]
  refine (specVolOk_any nx L _ N W (by omega) (HV.out.kept (bW.mono hN)) HZ.out).mono ?_
  rw [hv]
  rintro e w1 ⟨rfl, b1⟩
  have z1 := b1.size
  have hX := keepC b1 (by omega) cW
  have k0 : w1.cell? ⟨w.heap.size, 0, none⟩ = some (.int .i64 (nx : Nat)) := hX 0
  have k1 : w1.cell? ⟨w.heap.size, 1, none⟩ = some (.slice a L.length cap) := hX 1
  have BW : Below w.heap.size w w1 := bW.trans (b1.mono (by omega))
  have hlt1 : w.heap.size < w1.heap.size := by omega
  have HK1 := Hid.intro k1
  have HC : Hid (∀ w', Below w1.heap.size w1 w' → SVol nx (.slice a L.length cap) w.heap.size w') := fun w' hb => ⟨atCell hb k0 hlt1, atCell hb k1 hlt1⟩
  have v0 := varS_le nx
  have v1 := varS_le L.length
  clear hW bW zW cW fW b1 z1 hv hX k0 k1 HZ
  go_upto_region 3 with fail
  refine wp_region_held_drew (S := SVol nx (.slice a L.length cap) w.heap.size) (by kernel_rfl) (HC.out _ (Below.refl _ _).drew) (fun hHeld => ?_)
  have BQD : Below w1.heap.size w1 w1.drew := (Below.refl _ _).drew
  generalize w1.drew = D at BQD hHeld ⊢
  refine tkk 0 10 (v := ?_) ?_ ?_
  rotate_left 1
  ·intro w hSw
   obtain ⟨s0, s1⟩ := hSw
   go_simp <;> with_reducible rfl
  simp only [Act.put, List.setIfInBounds_toArray]
  try simp only [List.set_cons_succ]
  try simp only [List.set_cons_zero]
  refine tkk 1 11 (v := ?_) ?_ ?_
  rotate_left 1
  ·intro w hSw
   obtain ⟨s0, s1⟩ := hSw
   go_simp <;> with_reducible rfl
  simp only [Act.put, List.setIfInBounds_toArray]
  try simp only [List.set_cons_succ]
  try simp only [List.set_cons_zero]
  refine tkk 3 13 (v := ?_) ?_ ?_
  rotate_left 1
  ·intro w hSw
   obtain ⟨s0, s1⟩ := hSw
   go_simp <;> with_reducible rfl
  simp only [Act.put, List.setIfInBounds_toArray]
  try simp only [List.set_cons_succ]
  try simp only [List.set_cons_zero]
  refine tkk 4 14 (v := ?_) ?_ ?_
  rotate_left 1
  ·intro w hSw
   obtain ⟨s0, s1⟩ := hSw
   go_simp <;> with_reducible rfl
  simp only [Act.put, List.setIfInBounds_toArray]
  try simp only [List.set_cons_succ]
  try simp only [List.set_cons_zero]
  refine tkk 5 15 (v := ?_) ?_ ?_
  rotate_left 1
  ·intro w hSw
   obtain ⟨s0, s1⟩ := hSw
   go_simp <;> with_reducible rfl
  simp only [Act.put, List.setIfInBounds_toArray]
  try simp only [List.set_cons_succ]
  try simp only [List.set_cons_zero]
  refine wpAnyH_ready (rs := [2]) (by kernel_rfl) (by simp) ?_
  refine AllReadyH.cons rfl (fun KK hKK => ?_) AllReadyH.nil
  go_simp
  refine (specVar_yes nx _ (by omega)).mono ?_
  rintro e q1 ⟨rfl, b9⟩
  have BQq1 : Below w1.heap.size w1 q1 := stepB BQD b9
  clear b9 BQD
  go_simp
  refine hKK.out _ _ (HC.out _ BQq1) (fun hHeld2 => ?_)
  clear hKK KK hHeld
  have hHeld := hHeld2
  clear hHeld2
  refine wpAnyH_ready (rs := [6]) (by kernel_rfl) (by simp) ?_
  refine AllReadyH.cons rfl (fun KK hKK => ?_) AllReadyH.nil
  go_simp
  refine (specVar_yes L.length _ (by omega)).mono ?_
  rintro e q2 ⟨rfl, b9⟩
  have BQq2 : Below w1.heap.size w1 q2 := stepB BQq1 b9
  clear b9 BQq1
  go_simp
  refine hKK.out _ _ (HC.out _ BQq2) (fun hHeld2 => ?_)
  clear hKK KK hHeld
  have hHeld := hHeld2
  clear hHeld2
  refine take1 (i := 7) (d := some 17) (v := .string (varS nx ++ varS L.length)) rfl rfl (by kernel_rfl) (by kernel_rfl) (by kernel_rfl) (fun _ _ _ h => h) (Or.inl ⟨by rfl, ?_⟩) (by assumption) ?_
  ·intro w hSw
   go_simp
   omega
  simp only [Act.put, List.setIfInBounds_toArray]
  try simp only [List.set_cons_succ]
  try simp only [List.set_cons_zero]
  refine tkk 8 3 (v := ?_) ?_ ?_
  rotate_left 1
  ·intro w hSw
   go_simp <;> with_reducible rfl
  simp only [Act.put, List.setIfInBounds_toArray]
  try simp only [List.set_cons_succ]
  try simp only [List.set_cons_zero]
  refine wpAnyH_done (by kernel_rfl) ?_ _
  clear HC hHeld
  have HP : Hid ((varS nx ++ varS L.length).data.toList = varL nx ++ varL L.length) := by
   unfold Hid
   rw [ba_app, varS_list, varS_list]
  have hsz : (varS nx ++ varS L.length).size ≤ 14 := by rw [ByteArray.size_append]; omega
  have HB := Hid.intro BQq2
  have hzB := BQq2.size
  clear BQq2 v0 v1
  generalize varS nx ++ varS L.length = s0 at HP hsz ⊢
  go_wp2
  go_loopw [3, 4] (fun x i wr => ∃ (j : Nat) (s : ByteArray), i = .int .i64 j ∧ x = .string s ∧ j ≤ L.length ∧ s.size ≤ 14 + 400 * j ∧ Hid (s.data.toList = varL nx ++ varL L.length ++ inosL ((L.take j).map Np.n)) ∧ Hid (Below w1.heap.size w1 wr)) (fun _ i _ => L.length - (intOf i).toNat)
  case atStart => exact ⟨0, s0, rfl, rfl, Nat.zero_le _, by omega, by unfold Hid; simpa [inosL] using HP.out, HB⟩
  case round =>
   obtain ⟨j, s, rfl, rfl, hj, hsj, HP, HB⟩ := hrel
   obtain ⟨wo, hwo⟩ : ∃ wo, wo = wr := ⟨_, rfl⟩
   subst hwo
   have hzr := HB.out.size
   have kk := atCell HB.out HK1.out hlt1
   by_cases hlt : j < L.length
   ·obtain ⟨b, off, rfl, hbN, hcells⟩ := HCC.out (fun h => by rw [h] at hlt; simp at hlt)
    have HBW : Hid (Below w.heap.size w wo) := BW.trans (HB.out.mono (by omega))
    have hc := (hcells j hlt).kept HBW.out (by omega)
    have hst := inosL_snoc L j hlt
    have hpn := HND.out L[j] (List.getElem_mem hlt)
    have hrow := (HV.out.nms L[j] (List.getElem_mem hlt))
    generalize L[j] = p at hc hst hpn hrow
    have hsh := shN_le hpn
    have hshe : shN p.n = varsL [p.n.id.toNat, p.n.kind.toNat, p.n.mode.toNat, p.n.uid.toNat, p.n.gid.toNat, p.n.maxb.toNat, p.n.maxi.toNat] ++ (varL p.n.data.size ++ p.n.data.data.toList) ++ varL p.n.names.length ++ nmsL p.n.names := rfl
    obtain ⟨⟨id, kind, mode, uid, gid, data, names, maxb, maxi⟩, pa, pcap⟩ := p
    obtain ⟨⟨a0, a1⟩, ⟨b0, b1⟩, ⟨c0, c1⟩, ⟨d0, d1⟩, ⟨e0, e1⟩, ⟨f0, f1⟩, ⟨g0, g1⟩, hd, hlen, hnm⟩ := hpn
    simp only at a0 a1 b0 b1 c0 c1 d0 d1 e0 e1 f0 f1 g0 g1 hd hlen hnm hc hst hrow hsh hshe
    obtain ⟨id, rfl⟩ := Int.eq_ofNat_of_zero_le a0
    obtain ⟨kind, rfl⟩ := Int.eq_ofNat_of_zero_le b0
    obtain ⟨mode, rfl⟩ := Int.eq_ofNat_of_zero_le c0
    obtain ⟨uid, rfl⟩ := Int.eq_ofNat_of_zero_le d0
    obtain ⟨gid, rfl⟩ := Int.eq_ofNat_of_zero_le e0
    obtain ⟨maxb, rfl⟩ := Int.eq_ofNat_of_zero_le f0
    obtain ⟨maxi, rfl⟩ := Int.eq_ofNat_of_zero_le g0
    simp only [Int.toNat_natCast] at hshe
    have HSE := Hid.intro hshe
    have HST := Hid.intro hst
    have HSH := Hid.intro hsh
    have HNM := Hid.intro hnm
    obtain ⟨pa', pcap', hv2, hl2, hm2, hdc⟩ := diE_cell hrow
    cases hv2
    have HDC := Hid.intro hdc
    clear a0 b0 c0 d0 e0 f0 g0 hshe hst hsh hnm hdc hrow hcells
    obtain ⟨g0, g1, g2, g3, g4, g5, g6, g7, g8⟩ := hc
    have hjl : (j : Int) < (L.length : Int) := by omega
    have i1 : (0 : Int) ≤ (j : Int) ∧ (j : Int) < (L.length : Int) := by omega
    go_upto_region 8 with fail
    obtain ⟨Y, hY, bY, zY, cY, fY⟩ := boxed wo #[.int .i64 (id : Nat), .int .i64 (kind : Nat), .int .i64 (mode : Nat), .int .i64 (uid : Nat), .int .i64 (gid : Nat), .string data, .slice pa names.length pcap, .int .i64 (maxb : Nat), .int .i64 (maxi : Nat)] 96
    simp only [hY]
    replace HB := Hid.intro (HB.out.trans (bY.mono hzr))
    have HBY := Hid.intro (HBW.out.trans (bY.mono (by omega)))
    have hyl : wo.heap.size < Y.heap.size := by omega
    have k6 : Y.cell? ⟨wo.heap.size, 6, none⟩ = some (.slice pa names.length pcap) := cY 6
    have HK6 := Hid.intro k6
    have HC : Hid (∀ w', Below Y.heap.size Y w' → SIno id kind mode uid gid maxb maxi data (.slice pa names.length pcap) wo.heap.size w') := fun w' hb => ⟨atCell hb (cY 0) hyl, atCell hb (cY 1) hyl, atCell hb (cY 2) hyl, atCell hb (cY 3) hyl, atCell hb (cY 4) hyl, atCell hb (cY 5) hyl, atCell hb (cY 6) hyl, atCell hb (cY 7) hyl, atCell hb (cY 8) hyl⟩
    clear hY bY fY cY k6 g0 g1 g2 g3 g4 g5 g6 g7 g8 kk HBW i1 hjl
    have y0 := varS_le id
    have y1 := varS_le kind
    have y2 := varS_le mode
    have y3 := varS_le uid
    have y4 := varS_le gid
    have y5 := varS_le maxb
    have y6 := varS_le maxi
    have y7 := piece_le data
    have y8 := varS_le names.length
    refine wp_region_held_drew (S := SIno id kind mode uid gid maxb maxi data (.slice pa names.length pcap) wo.heap.size) (by kernel_rfl) (HC.out _ (Below.refl _ _).drew) (fun hHeld => ?_)
    have BQD : Below Y.heap.size Y Y.drew := (Below.refl _ _).drew
    generalize Y.drew = D at BQD hHeld ⊢
    refine tkk 0 30 (v := ?_) ?_ ?_
    rotate_left 1
    ·intro w hSw
     obtain ⟨s0, s1, s2, s3, s4, s5, s6, s7, s8⟩ := hSw
     go_simp <;> with_reducible rfl
    simp only [Act.put, List.setIfInBounds_toArray]
    try simp only [List.set_cons_succ]
    try simp only [List.set_cons_zero]
    refine tkk 1 31 (v := ?_) ?_ ?_
    rotate_left 1
    ·intro w hSw
     obtain ⟨s0, s1, s2, s3, s4, s5, s6, s7, s8⟩ := hSw
     go_simp <;> with_reducible rfl
    simp only [Act.put, List.setIfInBounds_toArray]
    try simp only [List.set_cons_succ]
    try simp only [List.set_cons_zero]
    refine tkk 2 32 (v := ?_) ?_ ?_
    rotate_left 1
    ·intro w hSw
     obtain ⟨s0, s1, s2, s3, s4, s5, s6, s7, s8⟩ := hSw
     go_simp <;> with_reducible rfl
    simp only [Act.put, List.setIfInBounds_toArray]
    try simp only [List.set_cons_succ]
    try simp only [List.set_cons_zero]
    refine tkk 5 35 (v := ?_) ?_ ?_
    rotate_left 1
    ·intro w hSw
     obtain ⟨s0, s1, s2, s3, s4, s5, s6, s7, s8⟩ := hSw
     go_simp <;> with_reducible rfl
    simp only [Act.put, List.setIfInBounds_toArray]
    try simp only [List.set_cons_succ]
    try simp only [List.set_cons_zero]
    refine tkk 6 36 (v := ?_) ?_ ?_
    rotate_left 1
    ·intro w hSw
     obtain ⟨s0, s1, s2, s3, s4, s5, s6, s7, s8⟩ := hSw
     go_simp <;> with_reducible rfl
    simp only [Act.put, List.setIfInBounds_toArray]
    try simp only [List.set_cons_succ]
    try simp only [List.set_cons_zero]
    refine tkk 9 39 (v := ?_) ?_ ?_
    rotate_left 1
    ·intro w hSw
     obtain ⟨s0, s1, s2, s3, s4, s5, s6, s7, s8⟩ := hSw
     go_simp <;> with_reducible rfl
    simp only [Act.put, List.setIfInBounds_toArray]
    try simp only [List.set_cons_succ]
    try simp only [List.set_cons_zero]
    refine tkk 10 40 (v := ?_) ?_ ?_
    rotate_left 1
    ·intro w hSw
     obtain ⟨s0, s1, s2, s3, s4, s5, s6, s7, s8⟩ := hSw
     go_simp <;> with_reducible rfl
    simp only [Act.put, List.setIfInBounds_toArray]
    try simp only [List.set_cons_succ]
    try simp only [List.set_cons_zero]
    refine tkk 13 43 (v := ?_) ?_ ?_
    rotate_left 1
    ·intro w hSw
     obtain ⟨s0, s1, s2, s3, s4, s5, s6, s7, s8⟩ := hSw
     go_simp <;> with_reducible rfl
    simp only [Act.put, List.setIfInBounds_toArray]
    try simp only [List.set_cons_succ]
    try simp only [List.set_cons_zero]
    refine tkk 14 44 (v := ?_) ?_ ?_
    rotate_left 1
    ·intro w hSw
     obtain ⟨s0, s1, s2, s3, s4, s5, s6, s7, s8⟩ := hSw
     go_simp <;> with_reducible rfl
    simp only [Act.put, List.setIfInBounds_toArray]
    try simp only [List.set_cons_succ]
    try simp only [List.set_cons_zero]
    refine tkk 17 47 (v := ?_) ?_ ?_
    rotate_left 1
    ·intro w hSw
     obtain ⟨s0, s1, s2, s3, s4, s5, s6, s7, s8⟩ := hSw
     go_simp <;> with_reducible rfl
    simp only [Act.put, List.setIfInBounds_toArray]
    try simp only [List.set_cons_succ]
    try simp only [List.set_cons_zero]
    refine tkk 18 48 (v := ?_) ?_ ?_
    rotate_left 1
    ·intro w hSw
     obtain ⟨s0, s1, s2, s3, s4, s5, s6, s7, s8⟩ := hSw
     go_simp <;> with_reducible rfl
    simp only [Act.put, List.setIfInBounds_toArray]
    try simp only [List.set_cons_succ]
    try simp only [List.set_cons_zero]
    refine tkk 21 51 (v := ?_) ?_ ?_
    rotate_left 1
    ·intro w hSw
     obtain ⟨s0, s1, s2, s3, s4, s5, s6, s7, s8⟩ := hSw
     go_simp <;> with_reducible rfl
    simp only [Act.put, List.setIfInBounds_toArray]
    try simp only [List.set_cons_succ]
    try simp only [List.set_cons_zero]
    refine tkk 22 52 (v := ?_) ?_ ?_
    rotate_left 1
    ·intro w hSw
     obtain ⟨s0, s1, s2, s3, s4, s5, s6, s7, s8⟩ := hSw
     go_simp <;> with_reducible rfl
    simp only [Act.put, List.setIfInBounds_toArray]
    try simp only [List.set_cons_succ]
    try simp only [List.set_cons_zero]
    refine tkk 25 55 (v := ?_) ?_ ?_
    rotate_left 1
    ·intro w hSw
     obtain ⟨s0, s1, s2, s3, s4, s5, s6, s7, s8⟩ := hSw
     go_simp <;> with_reducible rfl
    simp only [Act.put, List.setIfInBounds_toArray]
    try simp only [List.set_cons_succ]
    try simp only [List.set_cons_zero]
    refine tkk 26 56 (v := ?_) ?_ ?_
    rotate_left 1
    ·intro w hSw
     obtain ⟨s0, s1, s2, s3, s4, s5, s6, s7, s8⟩ := hSw
     go_simp <;> with_reducible rfl
    simp only [Act.put, List.setIfInBounds_toArray]
    try simp only [List.set_cons_succ]
    try simp only [List.set_cons_zero]
    refine tkk 29 59 (v := ?_) ?_ ?_
    rotate_left 1
    ·intro w hSw
     obtain ⟨s0, s1, s2, s3, s4, s5, s6, s7, s8⟩ := hSw
     go_simp <;> with_reducible rfl
    simp only [Act.put, List.setIfInBounds_toArray]
    try simp only [List.set_cons_succ]
    try simp only [List.set_cons_zero]
    refine tkk 30 60 (v := ?_) ?_ ?_
    rotate_left 1
    ·intro w hSw
     obtain ⟨s0, s1, s2, s3, s4, s5, s6, s7, s8⟩ := hSw
     go_simp <;> with_reducible rfl
    simp only [Act.put, List.setIfInBounds_toArray]
    try simp only [List.set_cons_succ]
    try simp only [List.set_cons_zero]
    refine tkk 33 63 (v := ?_) ?_ ?_
    rotate_left 1
    ·intro w hSw
     obtain ⟨s0, s1, s2, s3, s4, s5, s6, s7, s8⟩ := hSw
     go_simp <;> with_reducible rfl
    simp only [Act.put, List.setIfInBounds_toArray]
    try simp only [List.set_cons_succ]
    try simp only [List.set_cons_zero]
    refine tkk 34 64 (v := ?_) ?_ ?_
    rotate_left 1
    ·intro w hSw
     obtain ⟨s0, s1, s2, s3, s4, s5, s6, s7, s8⟩ := hSw
     go_simp <;> with_reducible rfl
    simp only [Act.put, List.setIfInBounds_toArray]
    try simp only [List.set_cons_succ]
    try simp only [List.set_cons_zero]
    refine tkk 35 65 (v := ?_) ?_ ?_
    rotate_left 1
    ·intro w hSw
     obtain ⟨s0, s1, s2, s3, s4, s5, s6, s7, s8⟩ := hSw
     go_simp <;> with_reducible rfl
    simp only [Act.put, List.setIfInBounds_toArray]
    try simp only [List.set_cons_succ]
    try simp only [List.set_cons_zero]
    refine wpAnyH_ready (rs := [3]) (by kernel_rfl) (by simp) ?_
    refine AllReadyH.cons rfl (fun KK hKK => ?_) AllReadyH.nil
    go_simp
    refine (specVar_yes id _ (by omega)).mono ?_
    rintro e q1 ⟨rfl, b9⟩
    have BQq1 : Below Y.heap.size Y q1 := stepB BQD b9
    clear b9 BQD
    go_simp
    refine hKK.out _ _ (HC.out _ BQq1) (fun hHeld2 => ?_)
    clear hKK KK hHeld
    have hHeld := hHeld2
    clear hHeld2
    refine take1 (i := 4) (d := some 34) (v := .string (s ++ varS id)) rfl rfl (by kernel_rfl) (by kernel_rfl) (by kernel_rfl) (fun _ _ _ h => h) (Or.inl ⟨by rfl, ?_⟩) (by assumption) ?_
    ·intro w hSw
     go_simp
     omega
    simp only [Act.put, List.setIfInBounds_toArray]
    try simp only [List.set_cons_succ]
    try simp only [List.set_cons_zero]
    refine wpAnyH_ready (rs := [7]) (by kernel_rfl) (by simp) ?_
    refine AllReadyH.cons rfl (fun KK hKK => ?_) AllReadyH.nil
    go_simp
    refine (specVar_yes kind _ (by omega)).mono ?_
    rintro e q2 ⟨rfl, b9⟩
    have BQq2 : Below Y.heap.size Y q2 := stepB BQq1 b9
    clear b9 BQq1
    go_simp
    refine hKK.out _ _ (HC.out _ BQq2) (fun hHeld2 => ?_)
    clear hKK KK hHeld
    have hHeld := hHeld2
    clear hHeld2
    refine take1 (i := 8) (d := some 38) (v := .string (s ++ varS id ++ varS kind)) rfl rfl (by kernel_rfl) (by kernel_rfl) (by kernel_rfl) (fun _ _ _ h => h) (Or.inl ⟨by rfl, ?_⟩) (by assumption) ?_
    ·intro w hSw
     go_simp
     omega
    simp only [Act.put, List.setIfInBounds_toArray]
    try simp only [List.set_cons_succ]
    try simp only [List.set_cons_zero]
    refine wpAnyH_ready (rs := [11]) (by kernel_rfl) (by simp) ?_
    refine AllReadyH.cons rfl (fun KK hKK => ?_) AllReadyH.nil
    go_simp
    refine (specVar_yes mode _ (by omega)).mono ?_
    rintro e q3 ⟨rfl, b9⟩
    have BQq3 : Below Y.heap.size Y q3 := stepB BQq2 b9
    clear b9 BQq2
    go_simp
    refine hKK.out _ _ (HC.out _ BQq3) (fun hHeld2 => ?_)
    clear hKK KK hHeld
    have hHeld := hHeld2
    clear hHeld2
    refine take1 (i := 12) (d := some 42) (v := .string (s ++ varS id ++ varS kind ++ varS mode)) rfl rfl (by kernel_rfl) (by kernel_rfl) (by kernel_rfl) (fun _ _ _ h => h) (Or.inl ⟨by rfl, ?_⟩) (by assumption) ?_
    ·intro w hSw
     go_simp
     omega
    simp only [Act.put, List.setIfInBounds_toArray]
    try simp only [List.set_cons_succ]
    try simp only [List.set_cons_zero]
    refine wpAnyH_ready (rs := [15]) (by kernel_rfl) (by simp) ?_
    refine AllReadyH.cons rfl (fun KK hKK => ?_) AllReadyH.nil
    go_simp
    refine (specVar_yes uid _ (by omega)).mono ?_
    rintro e q4 ⟨rfl, b9⟩
    have BQq4 : Below Y.heap.size Y q4 := stepB BQq3 b9
    clear b9 BQq3
    go_simp
    refine hKK.out _ _ (HC.out _ BQq4) (fun hHeld2 => ?_)
    clear hKK KK hHeld
    have hHeld := hHeld2
    clear hHeld2
    refine take1 (i := 16) (d := some 46) (v := .string (s ++ varS id ++ varS kind ++ varS mode ++ varS uid)) rfl rfl (by kernel_rfl) (by kernel_rfl) (by kernel_rfl) (fun _ _ _ h => h) (Or.inl ⟨by rfl, ?_⟩) (by assumption) ?_
    ·intro w hSw
     go_simp
     omega
    simp only [Act.put, List.setIfInBounds_toArray]
    try simp only [List.set_cons_succ]
    try simp only [List.set_cons_zero]
    refine wpAnyH_ready (rs := [19]) (by kernel_rfl) (by simp) ?_
    refine AllReadyH.cons rfl (fun KK hKK => ?_) AllReadyH.nil
    go_simp
    refine (specVar_yes gid _ (by omega)).mono ?_
    rintro e q5 ⟨rfl, b9⟩
    have BQq5 : Below Y.heap.size Y q5 := stepB BQq4 b9
    clear b9 BQq4
    go_simp
    refine hKK.out _ _ (HC.out _ BQq5) (fun hHeld2 => ?_)
    clear hKK KK hHeld
    have hHeld := hHeld2
    clear hHeld2
    refine take1 (i := 20) (d := some 50) (v := .string (s ++ varS id ++ varS kind ++ varS mode ++ varS uid ++ varS gid)) rfl rfl (by kernel_rfl) (by kernel_rfl) (by kernel_rfl) (fun _ _ _ h => h) (Or.inl ⟨by rfl, ?_⟩) (by assumption) ?_
    ·intro w hSw
     go_simp
     omega
    simp only [Act.put, List.setIfInBounds_toArray]
    try simp only [List.set_cons_succ]
    try simp only [List.set_cons_zero]
    refine wpAnyH_ready (rs := [23]) (by kernel_rfl) (by simp) ?_
    refine AllReadyH.cons rfl (fun KK hKK => ?_) AllReadyH.nil
    go_simp
    refine (specVar_yes maxb _ (by omega)).mono ?_
    rintro e q6 ⟨rfl, b9⟩
    have BQq6 : Below Y.heap.size Y q6 := stepB BQq5 b9
    clear b9 BQq5
    go_simp
    refine hKK.out _ _ (HC.out _ BQq6) (fun hHeld2 => ?_)
    clear hKK KK hHeld
    have hHeld := hHeld2
    clear hHeld2
    refine take1 (i := 24) (d := some 54) (v := .string (s ++ varS id ++ varS kind ++ varS mode ++ varS uid ++ varS gid ++ varS maxb)) rfl rfl (by kernel_rfl) (by kernel_rfl) (by kernel_rfl) (fun _ _ _ h => h) (Or.inl ⟨by rfl, ?_⟩) (by assumption) ?_
    ·intro w hSw
     go_simp
     omega
    simp only [Act.put, List.setIfInBounds_toArray]
    try simp only [List.set_cons_succ]
    try simp only [List.set_cons_zero]
    refine wpAnyH_ready (rs := [27]) (by kernel_rfl) (by simp) ?_
    refine AllReadyH.cons rfl (fun KK hKK => ?_) AllReadyH.nil
    go_simp
    refine (specVar_yes maxi _ (by omega)).mono ?_
    rintro e q7 ⟨rfl, b9⟩
    have BQq7 : Below Y.heap.size Y q7 := stepB BQq6 b9
    clear b9 BQq6
    go_simp
    refine hKK.out _ _ (HC.out _ BQq7) (fun hHeld2 => ?_)
    clear hKK KK hHeld
    have hHeld := hHeld2
    clear hHeld2
    refine take1 (i := 28) (d := some 58) (v := .string (s ++ varS id ++ varS kind ++ varS mode ++ varS uid ++ varS gid ++ varS maxb ++ varS maxi)) rfl rfl (by kernel_rfl) (by kernel_rfl) (by kernel_rfl) (fun _ _ _ h => h) (Or.inl ⟨by rfl, ?_⟩) (by assumption) ?_
    ·intro w hSw
     go_simp
     omega
    simp only [Act.put, List.setIfInBounds_toArray]
    try simp only [List.set_cons_succ]
    try simp only [List.set_cons_zero]
    refine wpAnyH_ready (rs := [31]) (by kernel_rfl) (by simp) ?_
    refine AllReadyH.cons rfl (fun KK hKK => ?_) AllReadyH.nil
    go_simp
    refine (specPiece_any data _ (by omega)).mono ?_
    rintro e q8 ⟨rfl, b9⟩
    have BQq8 : Below Y.heap.size Y q8 := stepB BQq7 b9
    clear b9 BQq7
    go_simp
    refine hKK.out _ _ (HC.out _ BQq8) (fun hHeld2 => ?_)
    clear hKK KK hHeld
    have hHeld := hHeld2
    clear hHeld2
    refine take1 (i := 32) (d := some 62) (v := .string (s ++ varS id ++ varS kind ++ varS mode ++ varS uid ++ varS gid ++ varS maxb ++ varS maxi ++ piece data)) rfl rfl (by kernel_rfl) (by kernel_rfl) (by kernel_rfl) (fun _ _ _ h => h) (Or.inl ⟨by rfl, ?_⟩) (by assumption) ?_
    ·intro w hSw
     go_simp
     omega
    simp only [Act.put, List.setIfInBounds_toArray]
    try simp only [List.set_cons_succ]
    try simp only [List.set_cons_zero]
    refine wpAnyH_ready (rs := [36]) (by kernel_rfl) (by simp) ?_
    refine AllReadyH.cons rfl (fun KK hKK => ?_) AllReadyH.nil
    go_simp
    refine (specVar_yes names.length _ (by omega)).mono ?_
    rintro e q9 ⟨rfl, b9⟩
    have BQq9 : Below Y.heap.size Y q9 := stepB BQq8 b9
    clear b9 BQq8
    go_simp
    refine hKK.out _ _ (HC.out _ BQq9) (fun hHeld2 => ?_)
    clear hKK KK hHeld
    have hHeld := hHeld2
    clear hHeld2
    refine take1 (i := 37) (d := some 67) (v := .string (s ++ varS id ++ varS kind ++ varS mode ++ varS uid ++ varS gid ++ varS maxb ++ varS maxi ++ piece data ++ varS names.length)) rfl rfl (by kernel_rfl) (by kernel_rfl) (by kernel_rfl) (fun _ _ _ h => h) (Or.inl ⟨by rfl, ?_⟩) (by assumption) ?_
    ·intro w hSw
     go_simp
     omega
    simp only [Act.put, List.setIfInBounds_toArray]
    try simp only [List.set_cons_succ]
    try simp only [List.set_cons_zero]
    refine tkk 38 3 (v := ?_) ?_ ?_
    rotate_left 1
    ·intro w hSw
     go_simp <;> with_reducible rfl
    simp only [Act.put, List.setIfInBounds_toArray]
    try simp only [List.set_cons_succ]
    try simp only [List.set_cons_zero]
    refine wpAnyH_done (by kernel_rfl) ?_ _
    clear HC hHeld
    have hs2 : (s ++ varS id ++ varS kind ++ varS mode ++ varS uid ++ varS gid ++ varS maxb ++ varS maxi ++ piece data ++ varS names.length).size ≤ s.size + 127 := by simp only [ByteArray.size_append]; omega
    have HP2 : Hid ((s ++ varS id ++ varS kind ++ varS mode ++ varS uid ++ varS gid ++ varS maxb ++ varS maxi ++ piece data ++ varS names.length).data.toList = s.data.toList ++ (varsL [id, kind, mode, uid, gid, maxb, maxi] ++ (varL data.size ++ data.data.toList) ++ varL names.length)) := by
     unfold Hid
     simp only [ba_app, varS_list, piece_toList, varsL, List.flatMap_cons, List.flatMap_nil, List.append_nil, List.append_assoc]
    have HBQ := Hid.intro BQq9
    clear BQq9 y0 y1 y2 y3 y4 y5 y6 y7 y8
    generalize s ++ varS id ++ varS kind ++ varS mode ++ varS uid ++ varS gid ++ varS maxb ++ varS maxi ++ piece data ++ varS names.length = s2 at HP2 hs2 ⊢
    go_wp2
    go_loopw [3, 6] (fun x i wr => ∃ (k : Nat) (t : ByteArray), i = .int .i64 k ∧ x = .string t ∧ k ≤ names.length ∧ t.size ≤ 14 + 400 * j + 127 + 22 * k ∧ Hid (t.data.toList = s2.data.toList ++ nmsL (names.take k)) ∧ Hid (Below Y.heap.size Y wr)) (fun _ i _ => names.length - (intOf i).toNat)
    case atStart => exact ⟨0, s2, rfl, rfl, Nat.zero_le _, by omega, by unfold Hid; simp [nmsL], HBQ⟩
    case round =>
     obtain ⟨k, t, rfl, rfl, hk, ht, HT, HQ⟩ := hrel
     have kk := atCell HQ.out HK6.out hyl
     by_cases hlk : k < names.length
     ·obtain ⟨c, o, rfl, hcN, hdc⟩ := HDC.out (fun h => by rw [h] at hlk; simp at hlk)
      have HBQ2 : Hid (Below w.heap.size w wr) := HBY.out.trans (HQ.out.mono (by omega))
      have hc := hdc k hlk
      have q0 := atCell HBQ2.out hc.1 (by omega)
      have q1 := atCell HBQ2.out hc.2 (by omega)
      have hx := HNM.out k hlk
      have hsn := nmsL_snoc names k hlk
      generalize names[k] = d at q0 q1 hx hsn
      obtain ⟨nm, di⟩ := d
      simp only at q0 q1 hx
      obtain ⟨hx1, hx2, hx3⟩ := hx
      obtain ⟨x, rfl⟩ := Int.eq_ofNat_of_zero_le hx2
      have HSN : Hid (nmsL (names.take k) ++ (varL nm.size ++ nm.data.toList ++ varL x) = nmsL (names.take (k + 1))) := hsn
      have hkl : (k : Int) < (names.length : Int) := by omega
      have i1 : (0 : Int) ≤ (k : Int) ∧ (k : Int) < (names.length : Int) := by omega
      have hyq : wo.heap.size < wr.heap.size := by have := HQ.out.size; omega
      have hcq : c < wr.heap.size := by have := HBQ2.out.size; omega
      have HC : Hid (∀ w', Below wr.heap.size wr w' → SDi (.slice (some ⟨c, o, none⟩) names.length pcap) nm x wo.heap.size c (o + k * 2) w') := fun w' hb => ⟨atCell hb kk hyq, atCell hb q0 hcq, atCell hb q1 hcq⟩
      have y0 := piece_le nm
      have y1 := varS_le x
      clear hsn hc hdc hx2
      go_upto_region 12 with fail
      clear q0 q1 kk
      refine wp_region_held_drew (S := SDi (.slice (some ⟨c, o, none⟩) names.length pcap) nm x wo.heap.size c (o + k * 2)) (by kernel_rfl) (HC.out _ (Below.refl _ _).drew) (fun hHeld => ?_)
      have BQD : Below wr.heap.size wr wr.drew := (Below.refl _ _).drew
      generalize wr.drew = D at BQD hHeld ⊢
      refine tkk 0 75 (v := ?_) ?_ ?_
      rotate_left 1
      ·intro w hSw
       obtain ⟨s0, s1, s2⟩ := hSw
       go_simp <;> with_reducible rfl
      simp only [Act.put, List.setIfInBounds_toArray]
      try simp only [List.set_cons_succ]
      try simp only [List.set_cons_zero]
      refine tkk 1 76 (v := ?_) ?_ ?_
      rotate_left 1
      ·intro w hSw
       obtain ⟨s0, s1, s2⟩ := hSw
       go_simp <;> with_reducible rfl
      simp only [Act.put, List.setIfInBounds_toArray]
      try simp only [List.set_cons_succ]
      try simp only [List.set_cons_zero]
      refine tkk 2 77 (v := ?_) ?_ ?_
      rotate_left 1
      ·intro w hSw
       obtain ⟨s0, s1, s2⟩ := hSw
       go_simp <;> with_reducible rfl
      simp only [Act.put, List.setIfInBounds_toArray]
      try simp only [List.set_cons_succ]
      try simp only [List.set_cons_zero]
      refine tkk 3 78 (v := ?_) ?_ ?_
      rotate_left 1
      ·intro w hSw
       obtain ⟨s0, s1, s2⟩ := hSw
       go_simp <;> with_reducible rfl
      simp only [Act.put, List.setIfInBounds_toArray]
      try simp only [List.set_cons_succ]
      try simp only [List.set_cons_zero]
      refine tkk 4 79 (v := ?_) ?_ ?_
      rotate_left 1
      ·intro w hSw
       obtain ⟨s0, s1, s2⟩ := hSw
       go_simp <;> with_reducible rfl
      simp only [Act.put, List.setIfInBounds_toArray]
      try simp only [List.set_cons_succ]
      try simp only [List.set_cons_zero]
      refine tkk 5 80 (v := ?_) ?_ ?_
      rotate_left 1
      ·intro w hSw
       obtain ⟨s0, s1, s2⟩ := hSw
       go_simp <;> with_reducible rfl
      simp only [Act.put, List.setIfInBounds_toArray]
      try simp only [List.set_cons_succ]
      try simp only [List.set_cons_zero]
      refine tkk 6 81 (v := ?_) ?_ ?_
      rotate_left 1
      ·intro w hSw
       obtain ⟨s0, s1, s2⟩ := hSw
       go_simp <;> with_reducible rfl
      simp only [Act.put, List.setIfInBounds_toArray]
      try simp only [List.set_cons_succ]
      try simp only [List.set_cons_zero]
      refine tkk 9 84 (v := ?_) ?_ ?_
      rotate_left 1
      ·intro w hSw
       obtain ⟨s0, s1, s2⟩ := hSw
       go_simp <;> with_reducible rfl
      simp only [Act.put, List.setIfInBounds_toArray]
      try simp only [List.set_cons_succ]
      try simp only [List.set_cons_zero]
      refine tkk 10 85 (v := ?_) ?_ ?_
      rotate_left 1
      ·intro w hSw
       obtain ⟨s0, s1, s2⟩ := hSw
       go_simp <;> with_reducible rfl
      simp only [Act.put, List.setIfInBounds_toArray]
      try simp only [List.set_cons_succ]
      try simp only [List.set_cons_zero]
      refine tkk 11 86 (v := ?_) ?_ ?_
      rotate_left 1
      ·intro w hSw
       obtain ⟨s0, s1, s2⟩ := hSw
       go_simp <;> with_reducible rfl
      simp only [Act.put, List.setIfInBounds_toArray]
      try simp only [List.set_cons_succ]
      try simp only [List.set_cons_zero]
      refine tkk 12 87 (v := ?_) ?_ ?_
      rotate_left 1
      ·intro w hSw
       obtain ⟨s0, s1, s2⟩ := hSw
       go_simp <;> with_reducible rfl
      simp only [Act.put, List.setIfInBounds_toArray]
      try simp only [List.set_cons_succ]
      try simp only [List.set_cons_zero]
      refine tkk 13 88 (v := ?_) ?_ ?_
      rotate_left 1
      ·intro w hSw
       obtain ⟨s0, s1, s2⟩ := hSw
       go_simp <;> with_reducible rfl
      simp only [Act.put, List.setIfInBounds_toArray]
      try simp only [List.set_cons_succ]
      try simp only [List.set_cons_zero]
      refine tkk 14 89 (v := ?_) ?_ ?_
      rotate_left 1
      ·intro w hSw
       obtain ⟨s0, s1, s2⟩ := hSw
       go_simp <;> with_reducible rfl
      simp only [Act.put, List.setIfInBounds_toArray]
      try simp only [List.set_cons_succ]
      try simp only [List.set_cons_zero]
      refine wpAnyH_ready (rs := [7]) (by kernel_rfl) (by simp) ?_
      refine AllReadyH.cons rfl (fun KK hKK => ?_) AllReadyH.nil
      go_simp
      refine (specPiece_any nm _ (by omega)).mono ?_
      rintro e q1 ⟨rfl, b9⟩
      have BQq1 : Below wr.heap.size wr q1 := stepB BQD b9
      clear b9 BQD
      go_simp
      refine hKK.out _ _ (HC.out _ BQq1) (fun hHeld2 => ?_)
      clear hKK KK hHeld
      have hHeld := hHeld2
      clear hHeld2
      refine take1 (i := 8) (d := some 83) (v := .string (t ++ piece nm)) rfl rfl (by kernel_rfl) (by kernel_rfl) (by kernel_rfl) (fun _ _ _ h => h) (Or.inl ⟨by rfl, ?_⟩) (by assumption) ?_
      ·intro w hSw
       go_simp
       omega
      simp only [Act.put, List.setIfInBounds_toArray]
      try simp only [List.set_cons_succ]
      try simp only [List.set_cons_zero]
      refine wpAnyH_ready (rs := [15]) (by kernel_rfl) (by simp) ?_
      refine AllReadyH.cons rfl (fun KK hKK => ?_) AllReadyH.nil
      go_simp
      refine (specVar_yes x _ (by omega)).mono ?_
      rintro e q2 ⟨rfl, b9⟩
      have BQq2 : Below wr.heap.size wr q2 := stepB BQq1 b9
      clear b9 BQq1
      go_simp
      refine hKK.out _ _ (HC.out _ BQq2) (fun hHeld2 => ?_)
      clear hKK KK hHeld
      have hHeld := hHeld2
      clear hHeld2
      refine take1 (i := 16) (d := some 91) (v := .string (t ++ piece nm ++ varS x)) rfl rfl (by kernel_rfl) (by kernel_rfl) (by kernel_rfl) (fun _ _ _ h => h) (Or.inl ⟨by rfl, ?_⟩) (by assumption) ?_
      ·intro w hSw
       go_simp
       omega
      simp only [Act.put, List.setIfInBounds_toArray]
      try simp only [List.set_cons_succ]
      try simp only [List.set_cons_zero]
      refine tkk 17 3 (v := ?_) ?_ ?_
      rotate_left 1
      ·intro w hSw
       go_simp <;> with_reducible rfl
      simp only [Act.put, List.setIfInBounds_toArray]
      try simp only [List.set_cons_succ]
      try simp only [List.set_cons_zero]
      refine wpAnyH_done (by kernel_rfl) ?_ _
      clear HC hHeld
      have ht2 : (t ++ piece nm ++ varS x).size ≤ t.size + 22 := by simp only [ByteArray.size_append]; omega
      have HT2 : Hid ((t ++ piece nm ++ varS x).data.toList = s2.data.toList ++ nmsL (names.take (k + 1))) := by
       unfold Hid
       rw [← HSN.out, ba_app, ba_app, HT.out, varS_list, piece_toList]
       simp only [List.append_assoc]
      have HQ2 := Hid.intro (HQ.out.trans (BQq2.mono HQ.out.size))
      clear BQq2 HT HSN
      generalize t ++ piece nm ++ varS x = t2 at HT2 ht2 ⊢
      go_wp2
      go_roundw
      case rel => exact ⟨k + 1, t2, by go_num, rfl, by omega, by omega, HT2, HQ2⟩
      case measure => simp [intOf]; omega
     ·have hkl : ¬ (k : Int) < (names.length : Int) := by omega
      have e1 : names.take k = names := List.take_of_length_le (by omega)
      rw [e1] at HT
      have hts : t.size ≤ 14 + 400 * (j + 1) := by
       have h1 := toList_size t
       have h2 := HSH.out
       have h3 := congrArg List.length HSE.out
       have h4 := congrArg List.length HT.out
       have h5 := congrArg List.length HP2.out
       have h6 := toList_size s
       simp only [List.length_append] at h3 h4 h5
       omega
      have HP3 : Hid (t.data.toList = varL nx ++ varL L.length ++ inosL ((L.take (j + 1)).map Np.n)) := by
       unfold Hid
       rw [HT.out, HP2.out, HP.out, ← HST.out, HSE.out]
       simp only [List.append_assoc]
      have HB3 := Hid.intro (HB.out.trans (HQ.out.mono HB.out.size))
      go_wp2
      go_roundw
      case rel => exact ⟨j + 1, t, by go_num, rfl, by omega, hts, HP3, HB3⟩
      case measure => simp [intOf]; omega
   ·have hlt' : ¬ (j : Int) < (L.length : Int) := by omega
    have e1 : L.take j = L := List.take_of_length_le (by omega)
    rw [e1] at HP
    have B2 := BW.trans (HB.out.mono (by omega))
    go_wp2
    go_ret
    exact ⟨ret_str ((ba_id s).symm.trans (by rw [HP.out]; simp only [List.append_assoc])), B2⟩
end Go.Proofs.Ytegdogdlohoheaa
namespace Go.Proofs.Ytegdogdlohoheaa
open Go.RowKit
set_option linter.unusedVariables false
def STn (nx : Int) (u : Value) (tk : Nat) (va vs : Value) (b : Nat) (w' : World) : Prop := w'.cell? ⟨b, 0, none⟩ = some (.int .i64 nx) ∧ w'.cell? ⟨b, 1, none⟩ = some u ∧ w'.cell? ⟨b, 2, none⟩ = some (.int .i64 tk) ∧ w'.cell? ⟨b, 3, none⟩ = some va ∧ w'.cell? ⟨b, 4, none⟩ = some vs
def SNt (i c s k d : Nat) (b : Nat) (w' : World) : Prop := w'.cell? ⟨b, 0, none⟩ = some (.int .i64 i) ∧ w'.cell? ⟨b, 1, none⟩ = some (.int .i64 c) ∧ w'.cell? ⟨b, 2, none⟩ = some (.int .i64 s) ∧ w'.cell? ⟨b, 3, none⟩ = some (.int .i64 k) ∧ w'.cell? ⟨b, 4, none⟩ = some (.int .i64 d)
def SSe (c s i : Nat) (r : Re) (b : Nat) (w' : World) : Prop := w'.cell? ⟨b, 0, none⟩ = some (.int .i64 c) ∧ w'.cell? ⟨b, 1, none⟩ = some (.int .i64 s) ∧ w'.cell? ⟨b, 2, none⟩ = some (.int .i64 i) ∧ w'.cell? ⟨b, 3, none⟩ = some (.int .i64 r.c) ∧ w'.cell? ⟨b, 4, none⟩ = some (.string r.d)
set_option maxRecDepth 100000 in
set_option maxHeartbeats 8000000 in
theorem specShowTenant_any (t : Ten) (N : Nat) (w : World) (hN : N ≤ w.heap.size) (hr : TenR w N t) (hz : TenW t) :
  Calls Try.prog 27 #[t.v] w fun e w' => e = .returned (.string (shTen t.key)) ∧ Below w.heap.size w w' := by
 have HR := Hid.intro hr
 have HZ := Hid.intro hz
 clear hr hz
 cases hv : tenB t.key with
 | false =>
  rw [shTen_no hv]
  go_enter Try.func27, Try.ntmps27
  go_wp2_with fail
  refine (specTenantOk_any t N _ (by simp; omega) (HR.out.kept ((one_below w _).mono hN)) HZ.out).mono ?_
  rw [hv]
  rintro e w1 ⟨rfl, b1⟩
  have B1 := (one_below w _).trans (b1.mono (by simp))
  go_wp2
  go_ret
  exact ⟨rfl, B1⟩
 | true =>
  rw [shTen_yes hv]
  obtain ⟨nx, L, ua, uc, tk, A, aa, ac, Ss, sa, sc⟩ := t
  have HV := Hid.intro hv
  obtain ⟨hvol, ⟨ht0, ht1⟩, hA20, hAB, hS3, hSB⟩ := tenB_of hv
  obtain ⟨tk, rfl⟩ := Int.eq_ofNat_of_zero_le ht0
  have HRV : Hid (VolR w N (.slice ua L.length uc) L) := HR.out.vol
  have HRA : Hid (Row ntE w N (.slice aa A.length ac) A) := HR.out.aud
  have HRS : Hid (Row seE w N (.slice sa Ss.length sc) Ss) := HR.out.ses
  have HZN : Hid (∀ p ∈ L, NdSz p.n) := fun p hp => (HZ.out.nod p hp).1
  have HAB := Hid.intro hAB
  have HSB := Hid.intro hSB
  have hsv := shV_le hvol
  obtain ⟨sv, hsve⟩ : ∃ sv, shV nx (L.map Np.n) = sv := ⟨_, rfl⟩
  rw [hsve] at hsv
  have HSV := Hid.intro hsve
  have HG : Hid (tenL (Ten.key ⟨nx, L, ua, uc, (tk : Int), A, aa, ac, Ss, sa, sc⟩) = varL sv.size ++ sv.data.toList ++ varsL [tk, A.length] ++ notsL A ++ varL Ss.length ++ sessL Ss) := by
   unfold Hid
   rw [← hsve]
   simp [tenL, Ten.key]
  generalize tenL (Ten.key ⟨nx, L, ua, uc, (tk : Int), A, aa, ac, Ss, sa, sc⟩) = ans at HG ⊢
  clear hv hvol hAB hSB hsve ht0
  show Calls Try.prog 27 #[.agg #[.int .i64 nx, .slice ua L.length uc, .int .i64 (tk : Nat), .slice aa A.length ac, .slice sa Ss.length sc]] w _
  go_enter Try.func27, Try.ntmps27
  go_wp2_with fail
  obtain ⟨W, hW, bW, zW, cW, fW⟩ := boxed w #[.int .i64 nx, .slice ua L.length uc, .int .i64 (tk : Nat), .slice aa A.length ac, .slice sa Ss.length sc] 28
  simp only [hW]
  refine (specTenantOk_any ⟨nx, L, ua, uc, (tk : Int), A, aa, ac, Ss, sa, sc⟩ N W (by omega) (HR.out.kept (bW.mono hN)) HZ.out).mono ?_
  rw [HV.out]
  rintro e w1 ⟨rfl, b1⟩
  have z1 := b1.size
  have hX := keepC b1 (by omega) cW
  have BW : Below w.heap.size w w1 := bW.trans (b1.mono (by omega))
  have hlt1 : w.heap.size < w1.heap.size := by omega
  have HXA : Hid (∀ w', Below w1.heap.size w1 w' → ∀ o, w'.cell? ⟨w.heap.size, o, none⟩ = (#[.int .i64 nx, .slice ua L.length uc, .int .i64 (tk : Nat), .slice aa A.length ac, .slice sa Ss.length sc] : Array Value)[o]?) := fun w' hb => keepC hb hlt1 hX
  have HC : Hid (∀ w', Below w1.heap.size w1 w' → STn nx (.slice ua L.length uc) tk (.slice aa A.length ac) (.slice sa Ss.length sc) w.heap.size w') := fun w' hb => ⟨HXA.out w' hb 0, HXA.out w' hb 1, HXA.out w' hb 2, HXA.out w' hb 3, HXA.out w' hb 4⟩
  have v0 := piece_le sv
  have v1 := varS_le tk
  have v2 := varS_le A.length
  clear hW bW zW cW fW b1 z1 HV hX HZ HR
  go_upto_region 3 with fail
  refine wp_region_held_drew (S := STn nx (.slice ua L.length uc) tk (.slice aa A.length ac) (.slice sa Ss.length sc) w.heap.size) (by kernel_rfl) (HC.out _ (Below.refl _ _).drew) (fun hHeld => ?_)
  have BQD : Below w1.heap.size w1 w1.drew := (Below.refl _ _).drew
  generalize w1.drew = D at BQD hHeld ⊢
  refine tkk 0 11 (v := ?_) ?_ ?_
  rotate_left 1
  ·intro w hSw
   obtain ⟨s0, s1, s2, s3, s4⟩ := hSw
   go_simp <;> with_reducible rfl
  simp only [Act.put, List.setIfInBounds_toArray]
  try simp only [List.set_cons_succ]
  try simp only [List.set_cons_zero]
  refine tkk 1 12 (v := ?_) ?_ ?_
  rotate_left 1
  ·intro w hSw
   obtain ⟨s0, s1, s2, s3, s4⟩ := hSw
   go_simp <;> with_reducible rfl
  simp only [Act.put, List.setIfInBounds_toArray]
  try simp only [List.set_cons_succ]
  try simp only [List.set_cons_zero]
  refine tkk 4 15 (v := ?_) ?_ ?_
  rotate_left 1
  ·intro w hSw
   obtain ⟨s0, s1, s2, s3, s4⟩ := hSw
   go_simp <;> with_reducible rfl
  simp only [Act.put, List.setIfInBounds_toArray]
  try simp only [List.set_cons_succ]
  try simp only [List.set_cons_zero]
  refine tkk 5 16 (v := ?_) ?_ ?_
  rotate_left 1
  ·intro w hSw
   obtain ⟨s0, s1, s2, s3, s4⟩ := hSw
   go_simp <;> with_reducible rfl
  simp only [Act.put, List.setIfInBounds_toArray]
  try simp only [List.set_cons_succ]
  try simp only [List.set_cons_zero]
  refine tkk 8 19 (v := ?_) ?_ ?_
  rotate_left 1
  ·intro w hSw
   obtain ⟨s0, s1, s2, s3, s4⟩ := hSw
   go_simp <;> with_reducible rfl
  simp only [Act.put, List.setIfInBounds_toArray]
  try simp only [List.set_cons_succ]
  try simp only [List.set_cons_zero]
  refine tkk 9 20 (v := ?_) ?_ ?_
  rotate_left 1
  ·intro w hSw
   obtain ⟨s0, s1, s2, s3, s4⟩ := hSw
   go_simp <;> with_reducible rfl
  simp only [Act.put, List.setIfInBounds_toArray]
  try simp only [List.set_cons_succ]
  try simp only [List.set_cons_zero]
  refine tkk 10 21 (v := ?_) ?_ ?_
  rotate_left 1
  ·intro w hSw
   obtain ⟨s0, s1, s2, s3, s4⟩ := hSw
   go_simp <;> with_reducible rfl
  simp only [Act.put, List.setIfInBounds_toArray]
  try simp only [List.set_cons_succ]
  try simp only [List.set_cons_zero]
  refine wpAnyH_ready (rs := [2]) (by kernel_rfl) (by simp) ?_
  refine AllReadyH.cons rfl (fun KK hKK => ?_) AllReadyH.nil
  go_simp
  refine (specShowVol_any nx L (.slice ua L.length uc) N D (by have := BQD.size; have := BW.size; omega) (HRV.out.kept ((BW.trans (BQD.mono BW.size)).mono hN)) HZN.out).mono ?_
  rw [HSV.out]
  rintro e q1 ⟨rfl, b9⟩
  have BQq1 : Below w1.heap.size w1 q1 := stepB BQD b9
  clear b9 BQD
  go_simp
  refine hKK.out _ _ (HC.out _ BQq1) (fun hHeld2 => ?_)
  clear hKK KK hHeld
  have hHeld := hHeld2
  clear hHeld2
  refine wpAnyH_ready (rs := [3]) (by kernel_rfl) (by simp) ?_
  refine AllReadyH.cons rfl (fun KK hKK => ?_) AllReadyH.nil
  go_simp
  refine (specPiece_any sv _ (by omega)).mono ?_
  rintro e q2 ⟨rfl, b9⟩
  have BQq2 : Below w1.heap.size w1 q2 := stepB BQq1 b9
  clear b9 BQq1
  go_simp
  refine hKK.out _ _ (HC.out _ BQq2) (fun hHeld2 => ?_)
  clear hKK KK hHeld
  have hHeld := hHeld2
  clear hHeld2
  refine wpAnyH_ready (rs := [6]) (by kernel_rfl) (by simp) ?_
  refine AllReadyH.cons rfl (fun KK hKK => ?_) AllReadyH.nil
  go_simp
  refine (specVar_yes tk _ (by omega)).mono ?_
  rintro e q3 ⟨rfl, b9⟩
  have BQq3 : Below w1.heap.size w1 q3 := stepB BQq2 b9
  clear b9 BQq2
  go_simp
  refine hKK.out _ _ (HC.out _ BQq3) (fun hHeld2 => ?_)
  clear hKK KK hHeld
  have hHeld := hHeld2
  clear hHeld2
  refine take1 (i := 7) (d := some 18) (v := .string (piece sv ++ varS tk)) rfl rfl (by kernel_rfl) (by kernel_rfl) (by kernel_rfl) (fun _ _ _ h => h) (Or.inl ⟨by rfl, ?_⟩) (by assumption) ?_
  ·intro w hSw
   go_simp
   omega
  simp only [Act.put, List.setIfInBounds_toArray]
  try simp only [List.set_cons_succ]
  try simp only [List.set_cons_zero]
  refine wpAnyH_ready (rs := [11]) (by kernel_rfl) (by simp) ?_
  refine AllReadyH.cons rfl (fun KK hKK => ?_) AllReadyH.nil
  go_simp
  refine (specVar_yes A.length _ (by omega)).mono ?_
  rintro e q4 ⟨rfl, b9⟩
  have BQq4 : Below w1.heap.size w1 q4 := stepB BQq3 b9
  clear b9 BQq3
  go_simp
  refine hKK.out _ _ (HC.out _ BQq4) (fun hHeld2 => ?_)
  clear hKK KK hHeld
  have hHeld := hHeld2
  clear hHeld2
  refine take1 (i := 12) (d := some 23) (v := .string (piece sv ++ varS tk ++ varS A.length)) rfl rfl (by kernel_rfl) (by kernel_rfl) (by kernel_rfl) (fun _ _ _ h => h) (Or.inl ⟨by rfl, ?_⟩) (by assumption) ?_
  ·intro w hSw
   go_simp
   omega
  simp only [Act.put, List.setIfInBounds_toArray]
  try simp only [List.set_cons_succ]
  try simp only [List.set_cons_zero]
  refine tkk 13 3 (v := ?_) ?_ ?_
  rotate_left 1
  ·intro w hSw
   obtain ⟨s0, s1, s2, s3, s4⟩ := hSw
   go_simp <;> with_reducible rfl
  simp only [Act.put, List.setIfInBounds_toArray]
  try simp only [List.set_cons_succ]
  try simp only [List.set_cons_zero]
  refine wpAnyH_done (by kernel_rfl) ?_ _
  clear HC hHeld
  have HP : Hid ((piece sv ++ varS tk ++ varS A.length).data.toList = varL sv.size ++ sv.data.toList ++ varsL [tk, A.length]) := by
   unfold Hid
   simp only [ba_app, varS_list, piece_toList, varsL, List.flatMap_cons, List.flatMap_nil, List.append_nil, List.append_assoc]
  have hsz : (piece sv ++ varS tk ++ varS A.length).size ≤ 10021 := by simp only [ByteArray.size_append]; omega
  have HB := Hid.intro BQq4
  have hzB := BQq4.size
  clear BQq4 v0 v1 v2
  generalize piece sv ++ varS tk ++ varS A.length = s0 at HP hsz ⊢
  obtain ⟨P, hPe⟩ : ∃ P, varL sv.size ++ sv.data.toList ++ varsL [tk, A.length] = P := ⟨_, rfl⟩
  rw [hPe] at HP HG
  clear hPe
  obtain ⟨a0, cap0, hsv2, hl, hm, hcells⟩ := ntE_cell (HRA.out.kept (BW.mono hN))
  simp only [Value.slice.injEq, true_and] at hsv2
  obtain ⟨rfl, rfl⟩ := hsv2
  have HCA := Hid.intro hcells
  clear hcells hl hm
  have kx := HXA.out _ HB.out
  go_wp2_with fail
  clear kx
  go_loopw [3, 4] (fun x i wr => ∃ (j : Nat) (s : ByteArray), i = .int .i64 j ∧ x = .string s ∧ j ≤ A.length ∧ s.size ≤ 10021 + 35 * j ∧ Hid (s.data.toList = P ++ notsL (A.take j)) ∧ Hid (Below w1.heap.size w1 wr)) (fun _ i _ => A.length - (intOf i).toNat)
  case atStart => exact ⟨0, s0, rfl, rfl, Nat.zero_le _, by omega, by unfold Hid; simpa [notsL] using HP.out, HB⟩
  case round =>
   obtain ⟨j, s, rfl, rfl, hj, hsj, HP, HB⟩ := hrel
   have hzr := HB.out.size
   have kk := HXA.out _ HB.out
   by_cases hlt : j < A.length
   ·obtain ⟨b, off, hab, hbN, hcc⟩ := HCA.out (fun h => by rw [h] at hlt; simp at hlt)
    subst hab
    obtain ⟨d0, d1, d2, d3, d4⟩ := hcc j hlt
    have hst := notsL_snoc A j hlt
    have hnb := HAB.out A[j] (List.getElem_mem hlt)
    generalize A[j] = x at d0 d1 d2 d3 d4 hst hnb
    obtain ⟨xi, xc, xs, xk, xd⟩ := x
    obtain ⟨⟨i0, i1⟩, ⟨c0, c1⟩, ⟨s0, s1⟩, ⟨k0, k1⟩, ⟨e0, e1⟩⟩ := hnb
    simp only at i0 i1 c0 c1 s0 s1 k0 k1 e0 e1 d0 d1 d2 d3 d4 hst
    obtain ⟨xi, rfl⟩ := Int.eq_ofNat_of_zero_le i0
    obtain ⟨xc, rfl⟩ := Int.eq_ofNat_of_zero_le c0
    obtain ⟨xs, rfl⟩ := Int.eq_ofNat_of_zero_le s0
    obtain ⟨xk, rfl⟩ := Int.eq_ofNat_of_zero_le k0
    obtain ⟨xd, rfl⟩ := Int.eq_ofNat_of_zero_le e0
    have hst2 : notsL (A.take j) ++ varsL [xi, xc, xs, xk, xd] = notsL (A.take (j + 1)) := by simpa [notL] using hst
    have HS := Hid.intro hst2
    replace d0 := atCell HB.out d0 (by omega)
    replace d1 := atCell HB.out d1 (by omega)
    replace d2 := atCell HB.out d2 (by omega)
    replace d3 := atCell HB.out d3 (by omega)
    replace d4 := atCell HB.out d4 (by omega)
    have hjl : (j : Int) < (A.length : Int) := by omega
    have i1' : (0 : Int) ≤ (j : Int) ∧ (j : Int) < (A.length : Int) := by omega
    clear hst hst2 hcc i0 c0 s0 k0 e0
    go_upto_region 8 with fail
    obtain ⟨Y, hY, bY, zY, cY, fY⟩ := boxed wr #[.int .i64 (xi : Nat), .int .i64 (xc : Nat), .int .i64 (xs : Nat), .int .i64 (xk : Nat), .int .i64 (xd : Nat)] 53
    simp only [hY]
    replace HB := Hid.intro (HB.out.trans (bY.mono hzr))
    have hyl : wr.heap.size < Y.heap.size := by omega
    have HC : Hid (∀ w', Below Y.heap.size Y w' → SNt xi xc xs xk xd wr.heap.size w') := fun w' hb => ⟨atCell hb (cY 0) hyl, atCell hb (cY 1) hyl, atCell hb (cY 2) hyl, atCell hb (cY 3) hyl, atCell hb (cY 4) hyl⟩
    clear hY bY fY cY d0 d1 d2 d3 d4 kk i1' hjl
    have y0 := varS_le xi
    have y1 := varS_le xc
    have y2 := varS_le xs
    have y3 := varS_le xk
    have y4 := varS_le xd
    refine wp_region_held_drew (S := SNt xi xc xs xk xd wr.heap.size) (by kernel_rfl) (HC.out _ (Below.refl _ _).drew) (fun hHeld => ?_)
    have BQD : Below Y.heap.size Y Y.drew := (Below.refl _ _).drew
    generalize Y.drew = D at BQD hHeld ⊢
    refine tkk 0 36 (v := ?_) ?_ ?_
    rotate_left 1
    ·intro w hSw
     obtain ⟨s0, s1, s2, s3, s4⟩ := hSw
     go_simp <;> with_reducible rfl
    simp only [Act.put, List.setIfInBounds_toArray]
    try simp only [List.set_cons_succ]
    try simp only [List.set_cons_zero]
    refine tkk 1 37 (v := ?_) ?_ ?_
    rotate_left 1
    ·intro w hSw
     obtain ⟨s0, s1, s2, s3, s4⟩ := hSw
     go_simp <;> with_reducible rfl
    simp only [Act.put, List.setIfInBounds_toArray]
    try simp only [List.set_cons_succ]
    try simp only [List.set_cons_zero]
    refine tkk 2 38 (v := ?_) ?_ ?_
    rotate_left 1
    ·intro w hSw
     obtain ⟨s0, s1, s2, s3, s4⟩ := hSw
     go_simp <;> with_reducible rfl
    simp only [Act.put, List.setIfInBounds_toArray]
    try simp only [List.set_cons_succ]
    try simp only [List.set_cons_zero]
    refine tkk 5 41 (v := ?_) ?_ ?_
    rotate_left 1
    ·intro w hSw
     obtain ⟨s0, s1, s2, s3, s4⟩ := hSw
     go_simp <;> with_reducible rfl
    simp only [Act.put, List.setIfInBounds_toArray]
    try simp only [List.set_cons_succ]
    try simp only [List.set_cons_zero]
    refine tkk 6 42 (v := ?_) ?_ ?_
    rotate_left 1
    ·intro w hSw
     obtain ⟨s0, s1, s2, s3, s4⟩ := hSw
     go_simp <;> with_reducible rfl
    simp only [Act.put, List.setIfInBounds_toArray]
    try simp only [List.set_cons_succ]
    try simp only [List.set_cons_zero]
    refine tkk 9 45 (v := ?_) ?_ ?_
    rotate_left 1
    ·intro w hSw
     obtain ⟨s0, s1, s2, s3, s4⟩ := hSw
     go_simp <;> with_reducible rfl
    simp only [Act.put, List.setIfInBounds_toArray]
    try simp only [List.set_cons_succ]
    try simp only [List.set_cons_zero]
    refine tkk 10 46 (v := ?_) ?_ ?_
    rotate_left 1
    ·intro w hSw
     obtain ⟨s0, s1, s2, s3, s4⟩ := hSw
     go_simp <;> with_reducible rfl
    simp only [Act.put, List.setIfInBounds_toArray]
    try simp only [List.set_cons_succ]
    try simp only [List.set_cons_zero]
    refine tkk 13 49 (v := ?_) ?_ ?_
    rotate_left 1
    ·intro w hSw
     obtain ⟨s0, s1, s2, s3, s4⟩ := hSw
     go_simp <;> with_reducible rfl
    simp only [Act.put, List.setIfInBounds_toArray]
    try simp only [List.set_cons_succ]
    try simp only [List.set_cons_zero]
    refine tkk 14 50 (v := ?_) ?_ ?_
    rotate_left 1
    ·intro w hSw
     obtain ⟨s0, s1, s2, s3, s4⟩ := hSw
     go_simp <;> with_reducible rfl
    simp only [Act.put, List.setIfInBounds_toArray]
    try simp only [List.set_cons_succ]
    try simp only [List.set_cons_zero]
    refine tkk 17 53 (v := ?_) ?_ ?_
    rotate_left 1
    ·intro w hSw
     obtain ⟨s0, s1, s2, s3, s4⟩ := hSw
     go_simp <;> with_reducible rfl
    simp only [Act.put, List.setIfInBounds_toArray]
    try simp only [List.set_cons_succ]
    try simp only [List.set_cons_zero]
    refine tkk 18 54 (v := ?_) ?_ ?_
    rotate_left 1
    ·intro w hSw
     obtain ⟨s0, s1, s2, s3, s4⟩ := hSw
     go_simp <;> with_reducible rfl
    simp only [Act.put, List.setIfInBounds_toArray]
    try simp only [List.set_cons_succ]
    try simp only [List.set_cons_zero]
    refine wpAnyH_ready (rs := [3]) (by kernel_rfl) (by simp) ?_
    refine AllReadyH.cons rfl (fun KK hKK => ?_) AllReadyH.nil
    go_simp
    refine (specVar_yes xi _ (by omega)).mono ?_
    rintro e q1 ⟨rfl, b9⟩
    have BQq1 : Below Y.heap.size Y q1 := stepB BQD b9
    clear b9 BQD
    go_simp
    refine hKK.out _ _ (HC.out _ BQq1) (fun hHeld2 => ?_)
    clear hKK KK hHeld
    have hHeld := hHeld2
    clear hHeld2
    refine take1 (i := 4) (d := some 40) (v := .string (s ++ varS xi)) rfl rfl (by kernel_rfl) (by kernel_rfl) (by kernel_rfl) (fun _ _ _ h => h) (Or.inl ⟨by rfl, ?_⟩) (by assumption) ?_
    ·intro w hSw
     go_simp
     omega
    simp only [Act.put, List.setIfInBounds_toArray]
    try simp only [List.set_cons_succ]
    try simp only [List.set_cons_zero]
    refine wpAnyH_ready (rs := [7]) (by kernel_rfl) (by simp) ?_
    refine AllReadyH.cons rfl (fun KK hKK => ?_) AllReadyH.nil
    go_simp
    refine (specVar_yes xc _ (by omega)).mono ?_
    rintro e q2 ⟨rfl, b9⟩
    have BQq2 : Below Y.heap.size Y q2 := stepB BQq1 b9
    clear b9 BQq1
    go_simp
    refine hKK.out _ _ (HC.out _ BQq2) (fun hHeld2 => ?_)
    clear hKK KK hHeld
    have hHeld := hHeld2
    clear hHeld2
    refine take1 (i := 8) (d := some 44) (v := .string (s ++ varS xi ++ varS xc)) rfl rfl (by kernel_rfl) (by kernel_rfl) (by kernel_rfl) (fun _ _ _ h => h) (Or.inl ⟨by rfl, ?_⟩) (by assumption) ?_
    ·intro w hSw
     go_simp
     omega
    simp only [Act.put, List.setIfInBounds_toArray]
    try simp only [List.set_cons_succ]
    try simp only [List.set_cons_zero]
    refine wpAnyH_ready (rs := [11]) (by kernel_rfl) (by simp) ?_
    refine AllReadyH.cons rfl (fun KK hKK => ?_) AllReadyH.nil
    go_simp
    refine (specVar_yes xs _ (by omega)).mono ?_
    rintro e q3 ⟨rfl, b9⟩
    have BQq3 : Below Y.heap.size Y q3 := stepB BQq2 b9
    clear b9 BQq2
    go_simp
    refine hKK.out _ _ (HC.out _ BQq3) (fun hHeld2 => ?_)
    clear hKK KK hHeld
    have hHeld := hHeld2
    clear hHeld2
    refine take1 (i := 12) (d := some 48) (v := .string (s ++ varS xi ++ varS xc ++ varS xs)) rfl rfl (by kernel_rfl) (by kernel_rfl) (by kernel_rfl) (fun _ _ _ h => h) (Or.inl ⟨by rfl, ?_⟩) (by assumption) ?_
    ·intro w hSw
     go_simp
     omega
    simp only [Act.put, List.setIfInBounds_toArray]
    try simp only [List.set_cons_succ]
    try simp only [List.set_cons_zero]
    refine wpAnyH_ready (rs := [15]) (by kernel_rfl) (by simp) ?_
    refine AllReadyH.cons rfl (fun KK hKK => ?_) AllReadyH.nil
    go_simp
    refine (specVar_yes xk _ (by omega)).mono ?_
    rintro e q4 ⟨rfl, b9⟩
    have BQq4 : Below Y.heap.size Y q4 := stepB BQq3 b9
    clear b9 BQq3
    go_simp
    refine hKK.out _ _ (HC.out _ BQq4) (fun hHeld2 => ?_)
    clear hKK KK hHeld
    have hHeld := hHeld2
    clear hHeld2
    refine take1 (i := 16) (d := some 52) (v := .string (s ++ varS xi ++ varS xc ++ varS xs ++ varS xk)) rfl rfl (by kernel_rfl) (by kernel_rfl) (by kernel_rfl) (fun _ _ _ h => h) (Or.inl ⟨by rfl, ?_⟩) (by assumption) ?_
    ·intro w hSw
     go_simp
     omega
    simp only [Act.put, List.setIfInBounds_toArray]
    try simp only [List.set_cons_succ]
    try simp only [List.set_cons_zero]
    refine wpAnyH_ready (rs := [19]) (by kernel_rfl) (by simp) ?_
    refine AllReadyH.cons rfl (fun KK hKK => ?_) AllReadyH.nil
    go_simp
    refine (specVar_yes xd _ (by omega)).mono ?_
    rintro e q5 ⟨rfl, b9⟩
    have BQq5 : Below Y.heap.size Y q5 := stepB BQq4 b9
    clear b9 BQq4
    go_simp
    refine hKK.out _ _ (HC.out _ BQq5) (fun hHeld2 => ?_)
    clear hKK KK hHeld
    have hHeld := hHeld2
    clear hHeld2
    refine take1 (i := 20) (d := some 56) (v := .string (s ++ varS xi ++ varS xc ++ varS xs ++ varS xk ++ varS xd)) rfl rfl (by kernel_rfl) (by kernel_rfl) (by kernel_rfl) (fun _ _ _ h => h) (Or.inl ⟨by rfl, ?_⟩) (by assumption) ?_
    ·intro w hSw
     go_simp
     omega
    simp only [Act.put, List.setIfInBounds_toArray]
    try simp only [List.set_cons_succ]
    try simp only [List.set_cons_zero]
    refine tkk 21 3 (v := ?_) ?_ ?_
    rotate_left 1
    ·intro w hSw
     obtain ⟨s0, s1, s2, s3, s4⟩ := hSw
     go_simp <;> with_reducible rfl
    simp only [Act.put, List.setIfInBounds_toArray]
    try simp only [List.set_cons_succ]
    try simp only [List.set_cons_zero]
    refine wpAnyH_done (by kernel_rfl) ?_ _
    clear HC hHeld
    have hs2 : (s ++ varS xi ++ varS xc ++ varS xs ++ varS xk ++ varS xd).size ≤ 10021 + 35 * (j + 1) := by simp only [ByteArray.size_append]; omega
    have HP2 : Hid ((s ++ varS xi ++ varS xc ++ varS xs ++ varS xk ++ varS xd).data.toList = P ++ notsL (A.take (j + 1))) := by
     unfold Hid
     rw [← HS.out]
     simp only [ba_app, varS_list, HP.out, varsL, List.flatMap_cons, List.flatMap_nil, List.append_nil, List.append_assoc]
    have HBQ := Hid.intro (HB.out.trans (BQq5.mono (by omega)))
    clear BQq5 y0 y1 y2 y3 y4 HS
    generalize s ++ varS xi ++ varS xc ++ varS xs ++ varS xk ++ varS xd = s2 at HP2 hs2 ⊢
    go_wp2
    go_roundw
    case rel => exact ⟨j + 1, s2, by go_num, rfl, by omega, hs2, HP2, HBQ⟩
    case measure => simp [intOf]; omega
   ·have hlt' : ¬ (j : Int) < (A.length : Int) := by omega
    obtain rfl : j = A.length := by omega
    have e1 : A.take A.length = A := List.take_length
    rw [e1] at HP
    have hvs := varS_le Ss.length
    have kx := kk
    clear kk e1
    go_wp2_with fail
    clear kx
    refine (specVar_yes Ss.length _ (by omega)).mono ?_
    rintro e v1 ⟨rfl, b2⟩
    replace HB := Hid.intro (HB.out.trans (b2.mono hzr))
    clear b2
    have kx := HXA.out _ HB.out
    have hq0 : (s ++ varS Ss.length).size ≤ 10800 := by simp only [ByteArray.size_append]; omega
    have hq1 : s.size + (varS Ss.length).size ≤ 9223372036854775807 := by omega
    have HQ : Hid ((s ++ varS Ss.length).data.toList = P ++ notsL A ++ varL Ss.length) := by
     unfold Hid
     rw [ba_app, HP.out, varS_list]
    obtain ⟨Q, hQe⟩ : ∃ Q, P ++ notsL A ++ varL Ss.length = Q := ⟨_, rfl⟩
    rw [hQe] at HQ HG
    obtain ⟨a0, cap0, hsv2, hl, hm, hcells⟩ := seE_cell (HRS.out.kept (BW.mono hN))
    simp only [Value.slice.injEq, true_and] at hsv2
    obtain ⟨rfl, rfl⟩ := hsv2
    have HCS := Hid.intro hcells
    clear hcells hl hm hQe
    go_wp2_with fail
    clear kx
    generalize s ++ varS Ss.length = sq at HQ hq0 ⊢
    go_loopw [3, 6] (fun x i wr => ∃ (j : Nat) (s : ByteArray), i = .int .i64 j ∧ x = .string s ∧ j ≤ Ss.length ∧ s.size ≤ 10800 + 435 * j ∧ Hid (s.data.toList = Q ++ sessL (Ss.take j)) ∧ Hid (Below w1.heap.size w1 wr)) (fun _ i _ => Ss.length - (intOf i).toNat)
    case atStart => exact ⟨0, sq, rfl, rfl, Nat.zero_le _, by omega, by unfold Hid; simpa [sessL] using HQ.out, HB⟩
    case round =>
     obtain ⟨j, s, rfl, rfl, hj, hsj, HP, HB⟩ := hrel
     have hzr := HB.out.size
     have kk := HXA.out _ HB.out
     by_cases hlt : j < Ss.length
     ·obtain ⟨b, off, hab, hbN, hcc⟩ := HCS.out (fun h => by rw [h] at hlt; simp at hlt)
      subst hab
      obtain ⟨d0, d1, d2, d3, d4⟩ := hcc j hlt
      have hst := sessL_snoc Ss j hlt
      have hnb := HSB.out Ss[j] (List.getElem_mem hlt)
      generalize Ss[j] = x at d0 d1 d2 d3 d4 hst hnb
      obtain ⟨xc, xs, xi, xr⟩ := x
      obtain ⟨⟨c0, c1⟩, ⟨s0, s1⟩, ⟨i0, i1⟩, hrp⟩ := hnb
      simp only at i0 i1 c0 c1 s0 s1 hrp d0 d1 d2 d3 d4 hst
      obtain ⟨xc, rfl⟩ := Int.eq_ofNat_of_zero_le c0
      obtain ⟨xs, rfl⟩ := Int.eq_ofNat_of_zero_le s0
      obtain ⟨xi, rfl⟩ := Int.eq_ofNat_of_zero_le i0
      have hrl := shR_le hrp
      have hrd := hrp.2
      have hst2 : sessL (Ss.take j) ++ (varsL [xc, xs, xi] ++ (varL (shR xr).size ++ (shR xr).data.toList)) = sessL (Ss.take (j + 1)) := by simpa [sesL] using hst
      have HS := Hid.intro hst2
      replace d0 := atCell HB.out d0 (by omega)
      replace d1 := atCell HB.out d1 (by omega)
      replace d2 := atCell HB.out d2 (by omega)
      replace d3 := atCell HB.out d3 (by omega)
      replace d4 := atCell HB.out d4 (by omega)
      have hjl : (j : Int) < (Ss.length : Int) := by omega
      have i1' : (0 : Int) ≤ (j : Int) ∧ (j : Int) < (Ss.length : Int) := by omega
      clear hst hst2 hcc i0 c0 s0 hrp
      go_upto_region 14 with fail
      obtain ⟨Y, hY, bY, zY, cY, fY⟩ := boxed wr #[.int .i64 (xc : Nat), .int .i64 (xs : Nat), .int .i64 (xi : Nat), .int .i64 xr.c, .string xr.d] 59
      simp only [hY]
      replace HB := Hid.intro (HB.out.trans (bY.mono hzr))
      have hyl : wr.heap.size < Y.heap.size := by omega
      have HC : Hid (∀ w', Below Y.heap.size Y w' → SSe xc xs xi xr wr.heap.size w') := fun w' hb => ⟨atCell hb (cY 0) hyl, atCell hb (cY 1) hyl, atCell hb (cY 2) hyl, atCell hb (cY 3) hyl, atCell hb (cY 4) hyl⟩
      clear hY bY fY cY d0 d1 d2 d3 d4 kk i1' hjl
      have y0 := varS_le xc
      have y1 := varS_le xs
      have y2 := varS_le xi
      obtain ⟨rr, hrr⟩ : ∃ rr, shR xr = rr := ⟨_, rfl⟩
      rw [hrr] at HS hrl
      have HRR := Hid.intro hrr
      clear hrr
      have y3 := piece_le rr
      refine wp_region_held_drew (S := SSe xc xs xi xr wr.heap.size) (by kernel_rfl) (HC.out _ (Below.refl _ _).drew) (fun hHeld => ?_)
      have BQD : Below Y.heap.size Y Y.drew := (Below.refl _ _).drew
      generalize Y.drew = D at BQD hHeld ⊢
      refine tkk 0 75 (v := ?_) ?_ ?_
      rotate_left 1
      ·intro w hSw
       obtain ⟨s0, s1, s2, s3, s4⟩ := hSw
       go_simp <;> with_reducible rfl
      simp only [Act.put, List.setIfInBounds_toArray]
      try simp only [List.set_cons_succ]
      try simp only [List.set_cons_zero]
      refine tkk 1 76 (v := ?_) ?_ ?_
      rotate_left 1
      ·intro w hSw
       obtain ⟨s0, s1, s2, s3, s4⟩ := hSw
       go_simp <;> with_reducible rfl
      simp only [Act.put, List.setIfInBounds_toArray]
      try simp only [List.set_cons_succ]
      try simp only [List.set_cons_zero]
      refine tkk 2 77 (v := ?_) ?_ ?_
      rotate_left 1
      ·intro w hSw
       obtain ⟨s0, s1, s2, s3, s4⟩ := hSw
       go_simp <;> with_reducible rfl
      simp only [Act.put, List.setIfInBounds_toArray]
      try simp only [List.set_cons_succ]
      try simp only [List.set_cons_zero]
      refine tkk 5 80 (v := ?_) ?_ ?_
      rotate_left 1
      ·intro w hSw
       obtain ⟨s0, s1, s2, s3, s4⟩ := hSw
       go_simp <;> with_reducible rfl
      simp only [Act.put, List.setIfInBounds_toArray]
      try simp only [List.set_cons_succ]
      try simp only [List.set_cons_zero]
      refine tkk 6 81 (v := ?_) ?_ ?_
      rotate_left 1
      ·intro w hSw
       obtain ⟨s0, s1, s2, s3, s4⟩ := hSw
       go_simp <;> with_reducible rfl
      simp only [Act.put, List.setIfInBounds_toArray]
      try simp only [List.set_cons_succ]
      try simp only [List.set_cons_zero]
      refine tkk 9 84 (v := ?_) ?_ ?_
      rotate_left 1
      ·intro w hSw
       obtain ⟨s0, s1, s2, s3, s4⟩ := hSw
       go_simp <;> with_reducible rfl
      simp only [Act.put, List.setIfInBounds_toArray]
      try simp only [List.set_cons_succ]
      try simp only [List.set_cons_zero]
      refine tkk 10 85 (v := ?_) ?_ ?_
      rotate_left 1
      ·intro w hSw
       obtain ⟨s0, s1, s2, s3, s4⟩ := hSw
       go_simp <;> with_reducible rfl
      simp only [Act.put, List.setIfInBounds_toArray]
      try simp only [List.set_cons_succ]
      try simp only [List.set_cons_zero]
      refine tkk 13 88 (v := ?_) ?_ ?_
      rotate_left 1
      ·intro w hSw
       obtain ⟨s0, s1, s2, s3, s4⟩ := hSw
       go_simp <;> with_reducible rfl
      simp only [Act.put, List.setIfInBounds_toArray]
      try simp only [List.set_cons_succ]
      try simp only [List.set_cons_zero]
      refine tkk 14 89 (v := ?_) ?_ ?_
      rotate_left 1
      ·intro w hSw
       obtain ⟨s0, s1, s2, s3, s4⟩ := hSw
       go_simp <;> with_reducible rfl
      simp only [Act.put, List.setIfInBounds_toArray]
      try simp only [List.set_cons_succ]
      try simp only [List.set_cons_zero]
      refine wpAnyH_ready (rs := [3]) (by kernel_rfl) (by simp) ?_
      refine AllReadyH.cons rfl (fun KK hKK => ?_) AllReadyH.nil
      go_simp
      refine (specVar_yes xc _ (by omega)).mono ?_
      rintro e q1 ⟨rfl, b9⟩
      have BQq1 : Below Y.heap.size Y q1 := stepB BQD b9
      clear b9 BQD
      go_simp
      refine hKK.out _ _ (HC.out _ BQq1) (fun hHeld2 => ?_)
      clear hKK KK hHeld
      have hHeld := hHeld2
      clear hHeld2
      refine take1 (i := 4) (d := some 79) (v := .string (s ++ varS xc)) rfl rfl (by kernel_rfl) (by kernel_rfl) (by kernel_rfl) (fun _ _ _ h => h) (Or.inl ⟨by rfl, ?_⟩) (by assumption) ?_
      ·intro w hSw
       go_simp
       omega
      simp only [Act.put, List.setIfInBounds_toArray]
      try simp only [List.set_cons_succ]
      try simp only [List.set_cons_zero]
      refine wpAnyH_ready (rs := [7]) (by kernel_rfl) (by simp) ?_
      refine AllReadyH.cons rfl (fun KK hKK => ?_) AllReadyH.nil
      go_simp
      refine (specVar_yes xs _ (by omega)).mono ?_
      rintro e q2 ⟨rfl, b9⟩
      have BQq2 : Below Y.heap.size Y q2 := stepB BQq1 b9
      clear b9 BQq1
      go_simp
      refine hKK.out _ _ (HC.out _ BQq2) (fun hHeld2 => ?_)
      clear hKK KK hHeld
      have hHeld := hHeld2
      clear hHeld2
      refine take1 (i := 8) (d := some 83) (v := .string (s ++ varS xc ++ varS xs)) rfl rfl (by kernel_rfl) (by kernel_rfl) (by kernel_rfl) (fun _ _ _ h => h) (Or.inl ⟨by rfl, ?_⟩) (by assumption) ?_
      ·intro w hSw
       go_simp
       omega
      simp only [Act.put, List.setIfInBounds_toArray]
      try simp only [List.set_cons_succ]
      try simp only [List.set_cons_zero]
      refine wpAnyH_ready (rs := [11]) (by kernel_rfl) (by simp) ?_
      refine AllReadyH.cons rfl (fun KK hKK => ?_) AllReadyH.nil
      go_simp
      refine (specVar_yes xi _ (by omega)).mono ?_
      rintro e q3 ⟨rfl, b9⟩
      have BQq3 : Below Y.heap.size Y q3 := stepB BQq2 b9
      clear b9 BQq2
      go_simp
      refine hKK.out _ _ (HC.out _ BQq3) (fun hHeld2 => ?_)
      clear hKK KK hHeld
      have hHeld := hHeld2
      clear hHeld2
      refine take1 (i := 12) (d := some 87) (v := .string (s ++ varS xc ++ varS xs ++ varS xi)) rfl rfl (by kernel_rfl) (by kernel_rfl) (by kernel_rfl) (fun _ _ _ h => h) (Or.inl ⟨by rfl, ?_⟩) (by assumption) ?_
      ·intro w hSw
       go_simp
       omega
      simp only [Act.put, List.setIfInBounds_toArray]
      try simp only [List.set_cons_succ]
      try simp only [List.set_cons_zero]
      refine wpAnyH_ready (rs := [15]) (by kernel_rfl) (by simp) ?_
      refine AllReadyH.cons rfl (fun KK hKK => ?_) AllReadyH.nil
      go_simp
      refine (specShowResult_any xr _ (by omega)).mono ?_
      rw [HRR.out]
      rintro e q4 ⟨rfl, b9⟩
      have BQq4 : Below Y.heap.size Y q4 := stepB BQq3 b9
      clear b9 BQq3
      go_simp
      refine hKK.out _ _ (HC.out _ BQq4) (fun hHeld2 => ?_)
      clear hKK KK hHeld
      have hHeld := hHeld2
      clear hHeld2
      refine wpAnyH_ready (rs := [16]) (by kernel_rfl) (by simp) ?_
      refine AllReadyH.cons rfl (fun KK hKK => ?_) AllReadyH.nil
      go_simp
      refine (specPiece_any rr _ (by omega)).mono ?_
      rintro e q5 ⟨rfl, b9⟩
      have BQq5 : Below Y.heap.size Y q5 := stepB BQq4 b9
      clear b9 BQq4
      go_simp
      refine hKK.out _ _ (HC.out _ BQq5) (fun hHeld2 => ?_)
      clear hKK KK hHeld
      have hHeld := hHeld2
      clear hHeld2
      refine take1 (i := 17) (d := some 92) (v := .string (s ++ varS xc ++ varS xs ++ varS xi ++ piece rr)) rfl rfl (by kernel_rfl) (by kernel_rfl) (by kernel_rfl) (fun _ _ _ h => h) (Or.inl ⟨by rfl, ?_⟩) (by assumption) ?_
      ·intro w hSw
       go_simp
       omega
      simp only [Act.put, List.setIfInBounds_toArray]
      try simp only [List.set_cons_succ]
      try simp only [List.set_cons_zero]
      refine tkk 18 3 (v := ?_) ?_ ?_
      rotate_left 1
      ·intro w hSw
       obtain ⟨s0, s1, s2, s3, s4⟩ := hSw
       go_simp <;> with_reducible rfl
      simp only [Act.put, List.setIfInBounds_toArray]
      try simp only [List.set_cons_succ]
      try simp only [List.set_cons_zero]
      refine wpAnyH_done (by kernel_rfl) ?_ _
      clear HC hHeld
      have hs2 : (s ++ varS xc ++ varS xs ++ varS xi ++ piece rr).size ≤ 10800 + 435 * (j + 1) := by simp only [ByteArray.size_append]; omega
      have HP2 : Hid ((s ++ varS xc ++ varS xs ++ varS xi ++ piece rr).data.toList = Q ++ sessL (Ss.take (j + 1))) := by
       unfold Hid
       rw [← HS.out]
       simp only [ba_app, varS_list, piece_toList, HP.out, varsL, List.flatMap_cons, List.flatMap_nil, List.append_nil, List.append_assoc]
      have HBQ := Hid.intro (HB.out.trans (BQq5.mono (by omega)))
      clear BQq5 y0 y1 y2 y3 HS HRR
      generalize s ++ varS xc ++ varS xs ++ varS xi ++ piece rr = s2 at HP2 hs2 ⊢
      go_wp2
      go_roundw
      case rel => exact ⟨j + 1, s2, by go_num, rfl, by omega, hs2, HP2, HBQ⟩
      case measure => simp [intOf]; omega
     ·have hlt' : ¬ (j : Int) < (Ss.length : Int) := by omega
      obtain rfl : j = Ss.length := by omega
      have e1 : Ss.take Ss.length = Ss := List.take_length
      rw [e1, ← HG.out] at HP
      have B2 := BW.trans (HB.out.mono (by omega))
      clear e1
      go_wp2
      go_ret
      exact ⟨ret_str ((ba_id s).symm.trans (by rw [HP.out])), B2⟩
end Go.Proofs.Ytegdogdlohoheaa
namespace Go.Proofs.Ytegdogdlohoheaa
open Go.RowKit
set_option linter.unusedVariables false
theorem ba_ofS (s : ByteArray) : (⟨s.data.toList.toArray⟩ : ByteArray) = s := by
 obtain ⟨⟨l⟩⟩ := s
 rfl
def pcL (t : Ten) : List UInt8 := varL (shTen t.key).size ++ (shTen t.key).data.toList
def pcsL (l : List Ten) : List UInt8 := l.flatMap pcL
/-- What is shown of a state. -/
def shSt (L : List Ten) : ByteArray := if stateB L then ⟨(pcsL L).toArray⟩ else ByteArray.empty
theorem shSt_yes {L : List Ten} (h : stateB L = true) : shSt L = ⟨(pcsL L).toArray⟩ := if_pos h
theorem shSt_no {L : List Ten} (h : stateB L = false) : shSt L = ByteArray.empty := by simp [shSt, h]
theorem pcsL_key {L M : List Ten} (h : L.map Ten.key = M.map Ten.key) : pcsL L = pcsL M := by
 have h1 : ∀ L : List Ten, pcsL L = (L.map Ten.key).flatMap (fun k => varL (shTen k).size ++ (shTen k).data.toList) := fun L => by unfold pcsL; rw [List.flatMap_map]; rfl
 rw [h1, h1, h]
theorem shSt_key {L M : List Ten} (h : L.map Ten.key = M.map Ten.key) : shSt L = shSt M := by
 unfold shSt
 rw [stateB_key h, pcsL_key h]
theorem tenL_le {nx : Int} {L : List Nd} {tk : Int} {A : List Nt} {S : List Se} (h : tenB (nx, L, tk, A, S) = true) : (tenL (nx, L, tk, A, S)).length ≤ 12100 := by
 obtain ⟨b1, b2, b3, b4, b5, b6⟩ := tenB_of h
 have h1 := shV_le b1
 have h2 := varL_le (shV nx L).size
 have h3 := varsL_le [tk.toNat, A.length]
 have h4 := notsL_le A
 have h5 := varL_le S.length
 have h6 := sessL_le S b6
 have h7 : (shV nx L).data.toList.length = (shV nx L).size := by simp
 simp only [tenL, List.length_append, List.length_cons, List.length_nil] at h3 ⊢
 omega
theorem shTen_le (k : Int × List Nd × Int × List Nt × List Se) : (shTen k).size ≤ 12100 := by
 cases h : tenB k with
 | false => rw [shTen_no h]; decide
 | true =>
  obtain ⟨nx, L, tk, A, S⟩ := k
  rw [shTen_yes h]
  exact tenL_le h
theorem pcL_le (t : Ten) : (pcL t).length ≤ 12107 := by
 have h1 := shTen_le t.key
 have h2 := varL_le (shTen t.key).size
 have h3 : (shTen t.key).data.toList.length = (shTen t.key).size := by simp
 simp only [pcL, List.length_append]
 omega
theorem pcsL_le (l : List Ten) : (pcsL l).length ≤ 12107 * l.length := by
 induction l with
 | nil => simp [pcsL]
 | cons a l ih =>
  have h1 := pcL_le a
  simp only [pcsL, List.flatMap_cons, List.length_append, List.length_cons] at ih ⊢
  omega
theorem pcsL_snoc (l : List Ten) (j : Nat) (h : j < l.length) : pcsL (l.take j) ++ pcL l[j] = pcsL (l.take (j + 1)) := by
 rw [List.take_succ_eq_append_getElem h]
 simp only [pcsL, List.flatMap_append, List.flatMap_cons, List.flatMap_nil, List.append_nil]
theorem stateB_len {L : List Ten} (h : stateB L = true) : L.length = 3 := by
 simp only [stateB, Bool.and_eq_true, decide_eq_true_eq] at h
 exact h.1
set_option maxRecDepth 100000 in
set_option maxHeartbeats 8000000 in
theorem specShowState_any (L : List Ten) (v : Value) (N : Nat) (w : World) (hN : N ≤ w.heap.size) (hr : StR w N v L) (hz : ∀ t ∈ L, TenW t) :
  Calls Try.prog 21 #[v] w fun e w' => e = .returned (.string (shSt L)) ∧ Below w.heap.size w w' := by
 have HR := Hid.intro hr
 have HZ := Hid.intro hz
 cases hv : stateB L with
 | false =>
  rw [shSt_no hv]
  go_enter Try.func21, Try.ntmps21
  go_wp2_with fail
  refine (specStateOk_any L v N w hN hr hz).mono ?_
  rw [hv]
  rintro e w1 ⟨rfl, b1⟩
  go_wp2
  go_ret
  exact ⟨rfl, b1⟩
 | true =>
  rw [shSt_yes hv]
  have h3 := stateB_len hv
  go_enter Try.func21, Try.ntmps21
  go_wp2_with fail
  refine (specStateOk_any L v N w hN hr hz).mono ?_
  rw [hv]
  rintro e w1 ⟨rfl, b1⟩
  have z1 := b1.size
  obtain ⟨a, cap, rfl, hl, hm, hcells⟩ := tnE_cell (HR.out.row.kept (b1.mono hN))
  have HCA := Hid.intro hcells
  have HT : Hid (∀ t ∈ L, TenR w1 N t) := fun t ht => (HR.out.ten t ht).kept (b1.mono hN)
  have BW := Hid.intro b1
  clear hcells hl hm b1 hr hv HR hz
  go_wp2_with fail
  go_loopw [3, 4] (fun x i wr => ∃ (j : Nat) (s : ByteArray), i = .int .i64 j ∧ x = .string s ∧ j ≤ L.length ∧ s.size ≤ 12107 * j ∧ Hid (s.data.toList = pcsL (L.take j)) ∧ Hid (Below w1.heap.size w1 wr)) (fun _ i _ => L.length - (intOf i).toNat)
  case atStart => exact ⟨0, ⟨#[]⟩, rfl, rfl, Nat.zero_le _, (by decide), by unfold Hid; simp [pcsL], Below.refl _ _⟩
  case round =>
   obtain ⟨j, s, rfl, rfl, hj, hsj, HP, HB⟩ := hrel
   have hzr := HB.out.size
   by_cases hlt : j < L.length
   ·obtain ⟨b, off, rfl, hbN, hcc⟩ := HCA.out (fun h => by rw [h] at hlt; simp at hlt)
    have hd := (hcc j hlt).at HB.out (by omega)
    have hst := pcsL_snoc L j hlt
    have htr := (HT.out _ (List.getElem_mem hlt)).kept (HB.out.mono (by omega))
    have htw := HZ.out _ (List.getElem_mem hlt)
    generalize L[j] = ej at hd hst htr htw
    obtain ⟨g0, g1, g2, g3, g4⟩ := hd
    have HST := Hid.intro hst
    have HRR := Hid.intro htr
    have HWW := Hid.intro htw
    have hjl : (j : Int) < (L.length : Int) := by omega
    have i1 : (0 : Int) ≤ (j : Int) ∧ (j : Int) < (L.length : Int) := by omega
    clear hst htr htw hcc
    go_wp2_with fail
    refine (specShowTenant_any ej N wr (by omega) HRR.out HWW.out).mono ?_
    rintro e w2 ⟨rfl, b2⟩
    replace HB := Hid.intro (HB.out.trans (b2.mono hzr))
    have hle := shTen_le ej.key
    have HPC : Hid (pcL ej = varL (shTen ej.key).size ++ (shTen ej.key).data.toList) := rfl
    clear b2 g0 g1 g2 g3 g4 HRR HWW
    generalize shTen ej.key = u at hle HPC ⊢
    go_wp2_with fail
    refine (specPiece_any u _ (by omega)).mono ?_
    rintro e w3 ⟨rfl, b3⟩
    replace HB := Hid.intro (HB.out.trans (b3.mono HB.out.size))
    have hpl := piece_le u
    have HQ : Hid ((s ++ piece u).data.toList = pcsL (L.take (j + 1))) := by
     unfold Hid
     rw [ba_app, HP.out, piece_toList, ← HPC.out, HST.out]
    clear b3 HP HPC HST
    generalize piece u = pu at hpl HQ ⊢
    have hsz2 : s.size + pu.size ≤ 281474976710656 := by omega
    have hsz : (s.size : Int) + (pu.size : Int) ≤ 281474976710656 := by omega
    have hsz3 : (s ++ pu).size ≤ 12107 * (j + 1) := by simp only [ByteArray.size_append]; omega
    go_wp2
    go_roundw
    case rel => exact ⟨j + 1, s ++ pu, by go_num, rfl, by omega, hsz3, HQ, HB⟩
    case measure => simp [intOf]; omega
   ·obtain rfl : j = L.length := by omega
    have HF : Hid (s = ⟨(pcsL L).toArray⟩) := by
     have h := HP.out
     rw [List.take_length] at h
     unfold Hid
     rw [← h, ba_ofS]
    replace HB := Hid.intro (BW.out.trans (HB.out.mono z1))
    go_wp2_with fail
    go_ret
    exact ⟨by rw [HF.out]; rfl, HB.out⟩
set_option maxRecDepth 100000 in
set_option maxHeartbeats 8000000 in
theorem implShowState_any (L : List Ten) (v : Value) (N : Nat) (w : World) (hN : N ≤ w.heap.size) (hr : StR w N v L) (hz : ∀ t ∈ L, TenW t) :
  Calls Try.prog 22 #[v] w fun e w' => e = .returned (.string (shSt L)) ∧ Below w.heap.size w w' := by
 have HR := Hid.intro hr
 have HZ := Hid.intro hz
 cases hv : stateB L with
 | false =>
  rw [shSt_no hv]
  go_enter Try.func22, Try.ntmps22
  go_wp2_with fail
  refine (implStateOk_any L v N w hN hr hz).mono ?_
  rw [hv]
  rintro e w1 ⟨rfl, b1⟩
  go_wp2
  go_ret
  exact ⟨rfl, b1⟩
 | true =>
  rw [shSt_yes hv]
  have h3 := stateB_len hv
  go_enter Try.func22, Try.ntmps22
  go_wp2_with fail
  refine (implStateOk_any L v N w hN hr hz).mono ?_
  rw [hv]
  rintro e w1 ⟨rfl, b1⟩
  have z1 := b1.size
  obtain ⟨a, cap, rfl, hl, hm, hcells⟩ := tnE_cell (HR.out.row.kept (b1.mono hN))
  have HCA := Hid.intro hcells
  have HT : Hid (∀ t ∈ L, TenR w1 N t) := fun t ht => (HR.out.ten t ht).kept (b1.mono hN)
  have BW := Hid.intro b1
  clear hcells hl hm b1 hr hv HR hz
  go_upto_region 4 with fail
  have HL := Hid.intro (bld_fresh w1)
  have HBB : Hid (Below w1.heap.size w1 (w1.alloc (.cells #[.pointer none, .slice none 0 0] 86))) := one_below _ _
  generalize w1.alloc (.cells #[.pointer none, .slice none 0 0] 86) = U at HL HBB ⊢
  have hwU : w1.heap.size ≤ U.heap.size := HBB.out.size
  go_wp2_with fail
  go_loopw [11] (fun i wr => ∃ j : Nat, i = .int .i64 j ∧ j ≤ L.length ∧ Hid (BldAt w1.heap.size w1.heap.size (pcsL (L.take j)) wr) ∧ Hid (Below w1.heap.size U wr)) (fun i _ => L.length - (intOf i).toNat)
  case atStart => exact ⟨0, rfl, Nat.zero_le _, by unfold Hid; simpa [pcsL] using HL.out, Below.refl _ _⟩
  case round =>
   obtain ⟨j, rfl, hj, HL, HB2⟩ := hrel
   have hzr2 := HB2.out.size
   by_cases hlt : j < L.length
   ·obtain ⟨b, off, rfl, hbN, hcc⟩ := HCA.out (fun h => by rw [h] at hlt; simp at hlt)
    have HB3 : Hid (Below w1.heap.size w1 wr) := HBB.out.trans HB2.out
    have hd := (hcc j hlt).at HB3.out (by omega)
    have hst := pcsL_snoc L j hlt
    have htr := (HT.out _ (List.getElem_mem hlt)).kept (HB3.out.mono (by omega))
    have htw := HZ.out _ (List.getElem_mem hlt)
    have htk := pcsL_le (L.take j)
    have htl : (L.take j).length ≤ 3 := by simp; omega
    generalize L[j] = ej at hd hst htr htw
    obtain ⟨g0, g1, g2, g3, g4⟩ := hd
    have HST := Hid.intro hst
    have HRR := Hid.intro htr
    have HWW := Hid.intro htw
    have hjl : (j : Int) < (L.length : Int) := by omega
    have i1 : (0 : Int) ≤ (j : Int) ∧ (j : Int) < (L.length : Int) := by omega
    clear hst htr htw hcc HB3
    go_upto_region 7 with fail
    obtain ⟨Y, hY, bY, zY, cY, fY⟩ := boxed wr ej.arr 28
    try simp only [hY]
    replace HL := Hid.intro (bld_kept HL.out bY)
    replace HB2 := Hid.intro (HB2.out.trans (bY.mono (by omega)))
    replace HRR := Hid.intro (HRR.out.kept (bY.mono (by omega)))
    clear hY fY g0 g1 g2 g3 g4 bY
    go_wp2_with fail
    refine (implShowTenant_any ej N Y (by omega) HRR.out HWW.out).mono ?_
    rintro e y1 ⟨rfl, b2⟩
    replace HL := Hid.intro (bld_kept HL.out b2)
    replace HB2 := Hid.intro (HB2.out.trans (b2.mono (by have := HB2.out.size; omega)))
    have hle := shTen_le ej.key
    have HPC : Hid (pcL ej = varL (shTen ej.key).size ++ (shTen ej.key).data.toList) := rfl
    clear b2 cY HRR HWW
    generalize shTen ej.key = u at hle HPC ⊢
    go_wp2_with fail
    refine (implPiece_any u _ (by omega)).mono ?_
    rintro e y2 ⟨rfl, b2⟩
    replace HL := Hid.intro (bld_kept HL.out b2)
    replace HB2 := Hid.intro (HB2.out.trans (b2.mono (by have := HB2.out.size; omega)))
    have hpl := piece_le u
    clear b2
    go_wp2_with fail
    refine (bldWrite_any w1.heap.size w1.heap.size _ (piece u) _ HL.out (by omega) (by have := HB2.out.size; omega)).mono ?_
    rintro e y3 ⟨rfl, hl2, b2⟩
    have HL2 : Hid (BldAt w1.heap.size w1.heap.size (pcsL (L.take (j + 1))) y3) := by
     rw [piece_toList, ← HPC.out, HST.out] at hl2
     exact hl2
    replace HB2 := Hid.intro (HB2.out.trans b2)
    clear hl2 b2 HL HPC HST hpl
    go_wp2
    go_roundw
    case rel => exact ⟨j + 1, by go_num, by omega, HL2, HB2⟩
    case measure => simp [intOf]; omega
   ·have hlt' : ¬ (j : Int) < (L.length : Int) := by omega
    have e1 : L.take j = L := List.take_of_length_le (by omega)
    rw [e1] at HL
    have HBZ : Hid (Below w.heap.size w wr) := BW.out.trans ((HBB.out.trans HB2.out).mono z1)
    go_wp2_with fail
    refine (bldString_any w1.heap.size w1.heap.size (pcsL L) _ HL.out (by omega)).mono ?_
    rintro e y ⟨rfl, b2⟩
    have B2 := HBZ.out.trans (b2.mono (by have := HBZ.out.size; omega))
    go_wp2
    go_ret
    exact ⟨rfl, B2⟩
set_option maxRecDepth 100000 in
set_option maxHeartbeats 4000000 in
theorem showState_law (L : List Ten) (v : Value) (w : World) (hr : StR w w.heap.size v L) (hd : ∀ t ∈ L, TenW t) :
  Calls Try.prog 6 #[v] w fun e w' => e = .returned (.bool true) ∧ Below w.heap.size w w' := by
 have HR := Hid.intro hr
 have HW := Hid.intro hd
 clear hr hd
 go_enter Try.func6, Try.ntmps6
 go_wp2_with fail
 refine (szTenantS_any L v w.heap.size _ _ (Nat.le_refl _) HR.out HW.out (by omega) (by omega)).mono ?_
 rintro e w1 ⟨⟨n, rfl, hS⟩, b1⟩
 have z1 := b1.size
 have HB := Hid.intro b1
 have HS := Hid.intro hS.out
 clear b1 hS
 by_cases hneg : n < 0
 ·go_wp2
  go_ret
  exact ⟨rfl, HB.out⟩
 ·have HL : Hid (L.length ≤ 1048576 ∧ ∀ t ∈ L, TenL t) := ⟨by have := (HS.out (by omega)).1; omega, (HS.out (by omega)).2⟩
  clear HS
  go_wp2_with fail
  refine (toTenantS_any L v w.heap.size _ z1 (HR.out.kept HB.out) HL.out.1 HL.out.2).mono ?_
  rintro e w2 ⟨v2, M2, rfl, o2, k2, b2⟩
  have z2 := b2.size
  have HR2 := Hid.intro o2.rowAll
  have HK2 := Hid.intro k2
  replace HB := Hid.intro (HB.out.trans (b2.mono z1))
  clear o2 b2 k2
  go_wp2_with fail
  refine (specShowState_any M2 v2 w2.heap.size _ (Nat.le_refl _) HR2.out (TenW.of_keys HK2.out HW.out)).mono ?_
  rw [shSt_key HK2.out]
  rintro e w3 ⟨rfl, b3⟩
  have z3 := b3.size
  replace HB := Hid.intro (HB.out.trans (b3.mono (by omega)))
  clear b3 HR2 HK2
  go_wp2_with fail
  refine (toTenantS_any L v w.heap.size _ (by omega) (HR.out.kept HB.out) HL.out.1 HL.out.2).mono ?_
  rintro e w4 ⟨v4, M4, rfl, o4, k4, b4⟩
  have z4 := b4.size
  have HR4 := Hid.intro o4.rowAll
  have HK4 := Hid.intro k4
  replace HB := Hid.intro (HB.out.trans (b4.mono (by omega)))
  clear o4 b4 k4
  go_wp2_with fail
  refine (implShowState_any M4 v4 w4.heap.size _ (Nat.le_refl _) HR4.out (TenW.of_keys HK4.out HW.out)).mono ?_
  rw [shSt_key HK4.out]
  rintro e w5 ⟨rfl, b5⟩
  have z5 := b5.size
  replace HB := Hid.intro (HB.out.trans (b5.mono (by omega)))
  replace HR4 := Hid.intro (HR4.out.kept b5)
  clear b5
  have hb1 : ((shSt L).toList == (shSt L).toList) = true := beq_self_eq_true _
  have hb2 : ((shSt L).toList != (shSt L).toList) = false := by simp
  generalize shSt L = sh at hb1 hb2 ⊢
  go_wp2_with fail
  refine (toTenantS_any L v w.heap.size _ (by omega) (HR.out.kept HB.out) HL.out.1 HL.out.2).mono ?_
  rintro e w6 ⟨v6, M6, rfl, o6, k6, b6⟩
  have z6 := b6.size
  have HR6 := Hid.intro o6.rowAll
  have HK6 : Hid (M4.map Ten.key = M6.map Ten.key) := HK4.out.trans k6.symm
  replace HB := Hid.intro (HB.out.trans (b6.mono (by omega)))
  replace HR4 := Hid.intro ((HR4.out.kept (b6.mono z5)).up (by omega : w4.heap.size ≤ w6.heap.size))
  clear o6 b6 k6
  go_wp2_with fail
  refine (eqTenantS_any M4 M6 v4 v6 w6.heap.size _ (Nat.le_refl _) HR4.out HR6.out HK6.out).mono ?_
  rintro e w7 ⟨rfl, b7⟩
  replace HB := Hid.intro (HB.out.trans (b7.mono (by omega)))
  clear b7
  go_wp2
  go_ret
  exact ⟨rfl, HB.out⟩
end Go.Proofs.Ytegdogdlohoheaa
