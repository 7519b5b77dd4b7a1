/- The sentence's ShowVol. -/
import Derived.Test.YtknckbedddeijaaGreatTShowVol
import Derived.Test.YtknckbedddeijaaGreatTCurP
import Derived.Deep.Cut
namespace Go.Proofs.YtknckbedddeijaaGreat
open Go.RowKit
set_option linter.unusedVariables false
theorem ba_id (s : ByteArray) : (⟨s.data.toList.toArray⟩ : ByteArray) = s := by
 obtain ⟨⟨l⟩⟩ := s
 rfl
theorem toList_size (s : ByteArray) : s.data.toList.length = s.size := by simp
def SVol (nx : Nat) (v : Value) (b : Nat) (w' : World) : Prop := w'.cell? ⟨b, 0, none⟩ = some (.int .i64 nx) ∧ w'.cell? ⟨b, 1, none⟩ = some v
def SIno (id kind mode uid gid maxb maxi : Nat) (data : ByteArray) (v : Value) (b : Nat) (w' : World) : Prop := w'.cell? ⟨b, 0, none⟩ = some (.int .i64 id) ∧ w'.cell? ⟨b, 1, none⟩ = some (.int .i64 kind) ∧ w'.cell? ⟨b, 2, none⟩ = some (.int .i64 mode) ∧ w'.cell? ⟨b, 3, none⟩ = some (.int .i64 uid) ∧ w'.cell? ⟨b, 4, none⟩ = some (.int .i64 gid) ∧ w'.cell? ⟨b, 5, none⟩ = some (.string data) ∧ w'.cell? ⟨b, 6, none⟩ = some v ∧ w'.cell? ⟨b, 7, none⟩ = some (.int .i64 maxb) ∧ w'.cell? ⟨b, 8, none⟩ = some (.int .i64 maxi)
def SDi (v : Value) (nm : ByteArray) (x b c o : Nat) (w' : World) : Prop := w'.cell? ⟨b, 6, none⟩ = some v ∧ w'.cell? ⟨c, o, none⟩ = some (.string nm) ∧ w'.cell? ⟨c, o + 1, none⟩ = some (.int .i64 x)
set_option maxRecDepth 100000 in
set_option maxHeartbeats 8000000 in
theorem specShowVol_any (next : Int) (L : List Np) (u : Value) (N : Nat) (w : World) (hN : N ≤ w.heap.size) (hr : VolR w N u L) (hz : ∀ p ∈ L, NdSz p.n) :
  Calls Tryz.prog 40 #[volV next u] w fun e w' => e = .returned (.string (shV next (L.map Np.n))) ∧ Below w.heap.size w w' := by
 have HV := Hid.intro hr
 have HZ := Hid.intro hz
 obtain ⟨a, cap, rfl, hl, hm, hcells⟩ := ndE_cell hr.row
 have HCC := Hid.intro hcells
 clear hr hz hcells
 cases hv : volB next (L.map Np.n) with
 | false =>
  rw [shV_no hv]
  go_enter Tryz.func40, Tryz.ntmps40
  go_wp2_with fail
  refine (specVolOk_any next L _ N _ (by simp; omega) (HV.out.kept ((one_below w _).mono hN)) HZ.out).mono ?_
  rw [hv]
  rintro e w1 ⟨rfl, b1⟩
  have B1 := (one_below w _).trans (b1.mono (by simp))
  go_wp2
  go_ret
  exact ⟨rfl, B1⟩
 | true =>
  obtain ⟨⟨hn1, hn2⟩, hl24, hnd⟩ := ndB_of hv
  rw [shV_yes hv]
  have HND : Hid (∀ p ∈ L, NdB p.n) := fun p hp => hnd p.n (List.mem_map_of_mem hp)
  obtain ⟨nx, rfl⟩ := Int.eq_ofNat_of_zero_le (show 0 ≤ next by omega)
  rw [List.length_map] at hl24
  simp only [Int.toNat_natCast, List.length_map]
  clear hnd
  go_enter Tryz.func40, Tryz.ntmps40
  go_wp2_with fail
  obtain ⟨W, hW, bW, zW, cW, fW⟩ := boxed w #[.int .i64 (nx : Nat), .slice a L.length cap] 32
  simp only [hW]
  refine (specVolOk_any nx L _ N W (by omega) (HV.out.kept (bW.mono hN)) HZ.out).mono ?_
  rw [hv]
  rintro e w1 ⟨rfl, b1⟩
  have z1 := b1.size
  have hX := keepC b1 (by omega) cW
  have k0 : w1.cell? ⟨w.heap.size, 0, none⟩ = some (.int .i64 (nx : Nat)) := hX 0
  have k1 : w1.cell? ⟨w.heap.size, 1, none⟩ = some (.slice a L.length cap) := hX 1
  have BW : Below w.heap.size w w1 := bW.trans (b1.mono (by omega))
  have hlt1 : w.heap.size < w1.heap.size := by omega
  have HK1 := Hid.intro k1
  have HC : Hid (∀ w', Below w1.heap.size w1 w' → SVol nx (.slice a L.length cap) w.heap.size w') := fun w' hb => ⟨atCell hb k0 hlt1, atCell hb k1 hlt1⟩
  have v0 := varS_le nx
  have v1 := varS_le L.length
  clear hW bW zW cW fW b1 z1 hv hX k0 k1 HZ
  go_upto_region 3 with fail
  refine wp_region_held_drew (S := SVol nx (.slice a L.length cap) w.heap.size) (by kernel_rfl) (HC.out _ (Below.refl _ _).drew) (fun hHeld => ?_)
  have BQD : Below w1.heap.size w1 w1.drew := (Below.refl _ _).drew
  generalize w1.drew = D at BQD hHeld ⊢
  refine tkk 0 10 (v := ?_) ?_ ?_
  rotate_left 1
  ·intro w hSw
   obtain ⟨s0, s1⟩ := hSw
   go_simp <;> with_reducible rfl
  simp only [Act.put, List.setIfInBounds_toArray]
  try simp only [List.set_cons_succ]
  try simp only [List.set_cons_zero]
  refine tkk 1 11 (v := ?_) ?_ ?_
  rotate_left 1
  ·intro w hSw
   obtain ⟨s0, s1⟩ := hSw
   go_simp <;> with_reducible rfl
  simp only [Act.put, List.setIfInBounds_toArray]
  try simp only [List.set_cons_succ]
  try simp only [List.set_cons_zero]
  refine tkk 3 13 (v := ?_) ?_ ?_
  rotate_left 1
  ·intro w hSw
   obtain ⟨s0, s1⟩ := hSw
   go_simp <;> with_reducible rfl
  simp only [Act.put, List.setIfInBounds_toArray]
  try simp only [List.set_cons_succ]
  try simp only [List.set_cons_zero]
  refine tkk 4 14 (v := ?_) ?_ ?_
  rotate_left 1
  ·intro w hSw
   obtain ⟨s0, s1⟩ := hSw
   go_simp <;> with_reducible rfl
  simp only [Act.put, List.setIfInBounds_toArray]
  try simp only [List.set_cons_succ]
  try simp only [List.set_cons_zero]
  refine tkk 5 15 (v := ?_) ?_ ?_
  rotate_left 1
  ·intro w hSw
   obtain ⟨s0, s1⟩ := hSw
   go_simp <;> with_reducible rfl
  simp only [Act.put, List.setIfInBounds_toArray]
  try simp only [List.set_cons_succ]
  try simp only [List.set_cons_zero]
  refine wpAnyH_ready (rs := [2]) (by kernel_rfl) (by simp) ?_
  refine AllReadyH.cons rfl (fun KK hKK => ?_) AllReadyH.nil
  go_simp
  refine (specVar_yes nx _ (by omega)).mono ?_
  rintro e q1 ⟨rfl, b9⟩
  have BQq1 : Below w1.heap.size w1 q1 := stepB BQD b9
  clear b9 BQD
  go_simp
  refine hKK.out _ _ (HC.out _ BQq1) (fun hHeld2 => ?_)
  clear hKK KK hHeld
  have hHeld := hHeld2
  clear hHeld2
  refine wpAnyH_ready (rs := [6]) (by kernel_rfl) (by simp) ?_
  refine AllReadyH.cons rfl (fun KK hKK => ?_) AllReadyH.nil
  go_simp
  refine (specVar_yes L.length _ (by omega)).mono ?_
  rintro e q2 ⟨rfl, b9⟩
  have BQq2 : Below w1.heap.size w1 q2 := stepB BQq1 b9
  clear b9 BQq1
  go_simp
  refine hKK.out _ _ (HC.out _ BQq2) (fun hHeld2 => ?_)
  clear hKK KK hHeld
  have hHeld := hHeld2
  clear hHeld2
  refine take1 (i := 7) (d := some 17) (v := .string (varS nx ++ varS L.length)) rfl rfl (by kernel_rfl) (by kernel_rfl) (by kernel_rfl) (fun _ _ _ h => h) (Or.inl ⟨by rfl, ?_⟩) (by assumption) ?_
  ·intro w hSw
   go_simp
   omega
  simp only [Act.put, List.setIfInBounds_toArray]
  try simp only [List.set_cons_succ]
  try simp only [List.set_cons_zero]
  refine tkk 8 3 (v := ?_) ?_ ?_
  rotate_left 1
  ·intro w hSw
   go_simp <;> with_reducible rfl
  simp only [Act.put, List.setIfInBounds_toArray]
  try simp only [List.set_cons_succ]
  try simp only [List.set_cons_zero]
  refine wpAnyH_done (by kernel_rfl) ?_ _
  clear HC hHeld
  have HP : Hid ((varS nx ++ varS L.length).data.toList = varL nx ++ varL L.length) := by
   unfold Hid
   rw [ba_app, varS_list, varS_list]
  have hsz : (varS nx ++ varS L.length).size ≤ 14 := by rw [ByteArray.size_append]; omega
  have HB := Hid.intro BQq2
  have hzB := BQq2.size
  clear BQq2 v0 v1
  generalize varS nx ++ varS L.length = s0 at HP hsz ⊢
  go_wp2
  go_loopw [3, 4] (fun x i wr => ∃ (j : Nat) (s : ByteArray), i = .int .i64 j ∧ x = .string s ∧ j ≤ L.length ∧ s.size ≤ 14 + 400 * j ∧ Hid (s.data.toList = varL nx ++ varL L.length ++ inosL ((L.take j).map Np.n)) ∧ Hid (Below w1.heap.size w1 wr)) (fun _ i _ => L.length - (intOf i).toNat)
  case atStart => exact ⟨0, s0, rfl, rfl, Nat.zero_le _, by omega, by unfold Hid; simpa [inosL] using HP.out, HB⟩
  case round =>
   obtain ⟨j, s, rfl, rfl, hj, hsj, HP, HB⟩ := hrel
   obtain ⟨wo, hwo⟩ : ∃ wo, wo = wr := ⟨_, rfl⟩
   subst hwo
   have hzr := HB.out.size
   have kk := atCell HB.out HK1.out hlt1
   by_cases hlt : j < L.length
   ·obtain ⟨b, off, rfl, hbN, hcells⟩ := HCC.out (fun h => by rw [h] at hlt; simp at hlt)
    have HBW : Hid (Below w.heap.size w wo) := BW.trans (HB.out.mono (by omega))
    have hc := (hcells j hlt).kept HBW.out (by omega)
    have hst := inosL_snoc L j hlt
    have hpn := HND.out L[j] (List.getElem_mem hlt)
    have hrow := (HV.out.nms L[j] (List.getElem_mem hlt))
    generalize L[j] = p at hc hst hpn hrow
    have hsh := shN_le hpn
    have hshe : shN p.n = varsL [p.n.id.toNat, p.n.kind.toNat, p.n.mode.toNat, p.n.uid.toNat, p.n.gid.toNat, p.n.maxb.toNat, p.n.maxi.toNat] ++ (varL p.n.data.size ++ p.n.data.data.toList) ++ varL p.n.names.length ++ nmsL p.n.names := rfl
    obtain ⟨⟨id, kind, mode, uid, gid, data, names, maxb, maxi⟩, pa, pcap⟩ := p
    obtain ⟨⟨a0, a1⟩, ⟨b0, b1⟩, ⟨c0, c1⟩, ⟨d0, d1⟩, ⟨e0, e1⟩, ⟨f0, f1⟩, ⟨g0, g1⟩, hd, hlen, hnm⟩ := hpn
    simp only at a0 a1 b0 b1 c0 c1 d0 d1 e0 e1 f0 f1 g0 g1 hd hlen hnm hc hst hrow hsh hshe
    obtain ⟨id, rfl⟩ := Int.eq_ofNat_of_zero_le a0
    obtain ⟨kind, rfl⟩ := Int.eq_ofNat_of_zero_le b0
    obtain ⟨mode, rfl⟩ := Int.eq_ofNat_of_zero_le c0
    obtain ⟨uid, rfl⟩ := Int.eq_ofNat_of_zero_le d0
    obtain ⟨gid, rfl⟩ := Int.eq_ofNat_of_zero_le e0
    obtain ⟨maxb, rfl⟩ := Int.eq_ofNat_of_zero_le f0
    obtain ⟨maxi, rfl⟩ := Int.eq_ofNat_of_zero_le g0
    simp only [Int.toNat_natCast] at hshe
    have HSE := Hid.intro hshe
    have HST := Hid.intro hst
    have HSH := Hid.intro hsh
    have HNM := Hid.intro hnm
    obtain ⟨pa', pcap', hv2, hl2, hm2, hdc⟩ := diE_cell hrow
    cases hv2
    have HDC := Hid.intro hdc
    clear a0 b0 c0 d0 e0 f0 g0 hshe hst hsh hnm hdc hrow hcells
    obtain ⟨g0, g1, g2, g3, g4, g5, g6, g7, g8⟩ := hc
    have hjl : (j : Int) < (L.length : Int) := by omega
    have i1 : (0 : Int) ≤ (j : Int) ∧ (j : Int) < (L.length : Int) := by omega
    go_upto_region 8 with fail
    obtain ⟨Y, hY, bY, zY, cY, fY⟩ := boxed wo #[.int .i64 (id : Nat), .int .i64 (kind : Nat), .int .i64 (mode : Nat), .int .i64 (uid : Nat), .int .i64 (gid : Nat), .string data, .slice pa names.length pcap, .int .i64 (maxb : Nat), .int .i64 (maxi : Nat)] 76
    simp only [hY]
    replace HB := Hid.intro (HB.out.trans (bY.mono hzr))
    have HBY := Hid.intro (HBW.out.trans (bY.mono (by omega)))
    have hyl : wo.heap.size < Y.heap.size := by omega
    have k6 : Y.cell? ⟨wo.heap.size, 6, none⟩ = some (.slice pa names.length pcap) := cY 6
    have HK6 := Hid.intro k6
    have HC : Hid (∀ w', Below Y.heap.size Y w' → SIno id kind mode uid gid maxb maxi data (.slice pa names.length pcap) wo.heap.size w') := fun w' hb => ⟨atCell hb (cY 0) hyl, atCell hb (cY 1) hyl, atCell hb (cY 2) hyl, atCell hb (cY 3) hyl, atCell hb (cY 4) hyl, atCell hb (cY 5) hyl, atCell hb (cY 6) hyl, atCell hb (cY 7) hyl, atCell hb (cY 8) hyl⟩
    clear hY bY fY cY k6 g0 g1 g2 g3 g4 g5 g6 g7 g8 kk HBW i1 hjl
    have y0 := varS_le id
    have y1 := varS_le kind
    have y2 := varS_le mode
    have y3 := varS_le uid
    have y4 := varS_le gid
    have y5 := varS_le maxb
    have y6 := varS_le maxi
    have y7 := piece_le data
    have y8 := varS_le names.length
    refine wp_region_held_drew (S := SIno id kind mode uid gid maxb maxi data (.slice pa names.length pcap) wo.heap.size) (by kernel_rfl) (HC.out _ (Below.refl _ _).drew) (fun hHeld => ?_)
    have BQD : Below Y.heap.size Y Y.drew := (Below.refl _ _).drew
    generalize Y.drew = D at BQD hHeld ⊢
    refine tkk 0 30 (v := ?_) ?_ ?_
    rotate_left 1
    ·intro w hSw
     obtain ⟨s0, s1, s2, s3, s4, s5, s6, s7, s8⟩ := hSw
     go_simp <;> with_reducible rfl
    simp only [Act.put, List.setIfInBounds_toArray]
    try simp only [List.set_cons_succ]
    try simp only [List.set_cons_zero]
    refine tkk 1 31 (v := ?_) ?_ ?_
    rotate_left 1
    ·intro w hSw
     obtain ⟨s0, s1, s2, s3, s4, s5, s6, s7, s8⟩ := hSw
     go_simp <;> with_reducible rfl
    simp only [Act.put, List.setIfInBounds_toArray]
    try simp only [List.set_cons_succ]
    try simp only [List.set_cons_zero]
    refine tkk 2 32 (v := ?_) ?_ ?_
    rotate_left 1
    ·intro w hSw
     obtain ⟨s0, s1, s2, s3, s4, s5, s6, s7, s8⟩ := hSw
     go_simp <;> with_reducible rfl
    simp only [Act.put, List.setIfInBounds_toArray]
    try simp only [List.set_cons_succ]
    try simp only [List.set_cons_zero]
    refine tkk 5 35 (v := ?_) ?_ ?_
    rotate_left 1
    ·intro w hSw
     obtain ⟨s0, s1, s2, s3, s4, s5, s6, s7, s8⟩ := hSw
     go_simp <;> with_reducible rfl
    simp only [Act.put, List.setIfInBounds_toArray]
    try simp only [List.set_cons_succ]
    try simp only [List.set_cons_zero]
    refine tkk 6 36 (v := ?_) ?_ ?_
    rotate_left 1
    ·intro w hSw
     obtain ⟨s0, s1, s2, s3, s4, s5, s6, s7, s8⟩ := hSw
     go_simp <;> with_reducible rfl
    simp only [Act.put, List.setIfInBounds_toArray]
    try simp only [List.set_cons_succ]
    try simp only [List.set_cons_zero]
    refine tkk 9 39 (v := ?_) ?_ ?_
    rotate_left 1
    ·intro w hSw
     obtain ⟨s0, s1, s2, s3, s4, s5, s6, s7, s8⟩ := hSw
     go_simp <;> with_reducible rfl
    simp only [Act.put, List.setIfInBounds_toArray]
    try simp only [List.set_cons_succ]
    try simp only [List.set_cons_zero]
    refine tkk 10 40 (v := ?_) ?_ ?_
    rotate_left 1
    ·intro w hSw
     obtain ⟨s0, s1, s2, s3, s4, s5, s6, s7, s8⟩ := hSw
     go_simp <;> with_reducible rfl
    simp only [Act.put, List.setIfInBounds_toArray]
    try simp only [List.set_cons_succ]
    try simp only [List.set_cons_zero]
    refine tkk 13 43 (v := ?_) ?_ ?_
    rotate_left 1
    ·intro w hSw
     obtain ⟨s0, s1, s2, s3, s4, s5, s6, s7, s8⟩ := hSw
     go_simp <;> with_reducible rfl
    simp only [Act.put, List.setIfInBounds_toArray]
    try simp only [List.set_cons_succ]
    try simp only [List.set_cons_zero]
    refine tkk 14 44 (v := ?_) ?_ ?_
    rotate_left 1
    ·intro w hSw
     obtain ⟨s0, s1, s2, s3, s4, s5, s6, s7, s8⟩ := hSw
     go_simp <;> with_reducible rfl
    simp only [Act.put, List.setIfInBounds_toArray]
    try simp only [List.set_cons_succ]
    try simp only [List.set_cons_zero]
    refine tkk 17 47 (v := ?_) ?_ ?_
    rotate_left 1
    ·intro w hSw
     obtain ⟨s0, s1, s2, s3, s4, s5, s6, s7, s8⟩ := hSw
     go_simp <;> with_reducible rfl
    simp only [Act.put, List.setIfInBounds_toArray]
    try simp only [List.set_cons_succ]
    try simp only [List.set_cons_zero]
    refine tkk 18 48 (v := ?_) ?_ ?_
    rotate_left 1
    ·intro w hSw
     obtain ⟨s0, s1, s2, s3, s4, s5, s6, s7, s8⟩ := hSw
     go_simp <;> with_reducible rfl
    simp only [Act.put, List.setIfInBounds_toArray]
    try simp only [List.set_cons_succ]
    try simp only [List.set_cons_zero]
    refine tkk 21 51 (v := ?_) ?_ ?_
    rotate_left 1
    ·intro w hSw
     obtain ⟨s0, s1, s2, s3, s4, s5, s6, s7, s8⟩ := hSw
     go_simp <;> with_reducible rfl
    simp only [Act.put, List.setIfInBounds_toArray]
    try simp only [List.set_cons_succ]
    try simp only [List.set_cons_zero]
    refine tkk 22 52 (v := ?_) ?_ ?_
    rotate_left 1
    ·intro w hSw
     obtain ⟨s0, s1, s2, s3, s4, s5, s6, s7, s8⟩ := hSw
     go_simp <;> with_reducible rfl
    simp only [Act.put, List.setIfInBounds_toArray]
    try simp only [List.set_cons_succ]
    try simp only [List.set_cons_zero]
    refine tkk 25 55 (v := ?_) ?_ ?_
    rotate_left 1
    ·intro w hSw
     obtain ⟨s0, s1, s2, s3, s4, s5, s6, s7, s8⟩ := hSw
     go_simp <;> with_reducible rfl
    simp only [Act.put, List.setIfInBounds_toArray]
    try simp only [List.set_cons_succ]
    try simp only [List.set_cons_zero]
    refine tkk 26 56 (v := ?_) ?_ ?_
    rotate_left 1
    ·intro w hSw
     obtain ⟨s0, s1, s2, s3, s4, s5, s6, s7, s8⟩ := hSw
     go_simp <;> with_reducible rfl
    simp only [Act.put, List.setIfInBounds_toArray]
    try simp only [List.set_cons_succ]
    try simp only [List.set_cons_zero]
    refine tkk 29 59 (v := ?_) ?_ ?_
    rotate_left 1
    ·intro w hSw
     obtain ⟨s0, s1, s2, s3, s4, s5, s6, s7, s8⟩ := hSw
     go_simp <;> with_reducible rfl
    simp only [Act.put, List.setIfInBounds_toArray]
    try simp only [List.set_cons_succ]
    try simp only [List.set_cons_zero]
    refine tkk 30 60 (v := ?_) ?_ ?_
    rotate_left 1
    ·intro w hSw
     obtain ⟨s0, s1, s2, s3, s4, s5, s6, s7, s8⟩ := hSw
     go_simp <;> with_reducible rfl
    simp only [Act.put, List.setIfInBounds_toArray]
    try simp only [List.set_cons_succ]
    try simp only [List.set_cons_zero]
    refine tkk 33 63 (v := ?_) ?_ ?_
    rotate_left 1
    ·intro w hSw
     obtain ⟨s0, s1, s2, s3, s4, s5, s6, s7, s8⟩ := hSw
     go_simp <;> with_reducible rfl
    simp only [Act.put, List.setIfInBounds_toArray]
    try simp only [List.set_cons_succ]
    try simp only [List.set_cons_zero]
    refine tkk 34 64 (v := ?_) ?_ ?_
    rotate_left 1
    ·intro w hSw
     obtain ⟨s0, s1, s2, s3, s4, s5, s6, s7, s8⟩ := hSw
     go_simp <;> with_reducible rfl
    simp only [Act.put, List.setIfInBounds_toArray]
    try simp only [List.set_cons_succ]
    try simp only [List.set_cons_zero]
    refine tkk 35 65 (v := ?_) ?_ ?_
    rotate_left 1
    ·intro w hSw
     obtain ⟨s0, s1, s2, s3, s4, s5, s6, s7, s8⟩ := hSw
     go_simp <;> with_reducible rfl
    simp only [Act.put, List.setIfInBounds_toArray]
    try simp only [List.set_cons_succ]
    try simp only [List.set_cons_zero]
    refine wpAnyH_ready (rs := [3]) (by kernel_rfl) (by simp) ?_
    refine AllReadyH.cons rfl (fun KK hKK => ?_) AllReadyH.nil
    go_simp
    refine (specVar_yes id _ (by omega)).mono ?_
    rintro e q1 ⟨rfl, b9⟩
    have BQq1 : Below Y.heap.size Y q1 := stepB BQD b9
    clear b9 BQD
    go_simp
    refine hKK.out _ _ (HC.out _ BQq1) (fun hHeld2 => ?_)
    clear hKK KK hHeld
    have hHeld := hHeld2
    clear hHeld2
    refine take1 (i := 4) (d := some 34) (v := .string (s ++ varS id)) rfl rfl (by kernel_rfl) (by kernel_rfl) (by kernel_rfl) (fun _ _ _ h => h) (Or.inl ⟨by rfl, ?_⟩) (by assumption) ?_
    ·intro w hSw
     go_simp
     omega
    simp only [Act.put, List.setIfInBounds_toArray]
    try simp only [List.set_cons_succ]
    try simp only [List.set_cons_zero]
    refine wpAnyH_ready (rs := [7]) (by kernel_rfl) (by simp) ?_
    refine AllReadyH.cons rfl (fun KK hKK => ?_) AllReadyH.nil
    go_simp
    refine (specVar_yes kind _ (by omega)).mono ?_
    rintro e q2 ⟨rfl, b9⟩
    have BQq2 : Below Y.heap.size Y q2 := stepB BQq1 b9
    clear b9 BQq1
    go_simp
    refine hKK.out _ _ (HC.out _ BQq2) (fun hHeld2 => ?_)
    clear hKK KK hHeld
    have hHeld := hHeld2
    clear hHeld2
    refine take1 (i := 8) (d := some 38) (v := .string (s ++ varS id ++ varS kind)) rfl rfl (by kernel_rfl) (by kernel_rfl) (by kernel_rfl) (fun _ _ _ h => h) (Or.inl ⟨by rfl, ?_⟩) (by assumption) ?_
    ·intro w hSw
     go_simp
     omega
    simp only [Act.put, List.setIfInBounds_toArray]
    try simp only [List.set_cons_succ]
    try simp only [List.set_cons_zero]
    refine wpAnyH_ready (rs := [11]) (by kernel_rfl) (by simp) ?_
    refine AllReadyH.cons rfl (fun KK hKK => ?_) AllReadyH.nil
    go_simp
    refine (specVar_yes mode _ (by omega)).mono ?_
    rintro e q3 ⟨rfl, b9⟩
    have BQq3 : Below Y.heap.size Y q3 := stepB BQq2 b9
    clear b9 BQq2
    go_simp
    refine hKK.out _ _ (HC.out _ BQq3) (fun hHeld2 => ?_)
    clear hKK KK hHeld
    have hHeld := hHeld2
    clear hHeld2
    refine take1 (i := 12) (d := some 42) (v := .string (s ++ varS id ++ varS kind ++ varS mode)) rfl rfl (by kernel_rfl) (by kernel_rfl) (by kernel_rfl) (fun _ _ _ h => h) (Or.inl ⟨by rfl, ?_⟩) (by assumption) ?_
    ·intro w hSw
     go_simp
     omega
    simp only [Act.put, List.setIfInBounds_toArray]
    try simp only [List.set_cons_succ]
    try simp only [List.set_cons_zero]
    refine wpAnyH_ready (rs := [15]) (by kernel_rfl) (by simp) ?_
    refine AllReadyH.cons rfl (fun KK hKK => ?_) AllReadyH.nil
    go_simp
    refine (specVar_yes uid _ (by omega)).mono ?_
    rintro e q4 ⟨rfl, b9⟩
    have BQq4 : Below Y.heap.size Y q4 := stepB BQq3 b9
    clear b9 BQq3
    go_simp
    refine hKK.out _ _ (HC.out _ BQq4) (fun hHeld2 => ?_)
    clear hKK KK hHeld
    have hHeld := hHeld2
    clear hHeld2
    refine take1 (i := 16) (d := some 46) (v := .string (s ++ varS id ++ varS kind ++ varS mode ++ varS uid)) rfl rfl (by kernel_rfl) (by kernel_rfl) (by kernel_rfl) (fun _ _ _ h => h) (Or.inl ⟨by rfl, ?_⟩) (by assumption) ?_
    ·intro w hSw
     go_simp
     omega
    simp only [Act.put, List.setIfInBounds_toArray]
    try simp only [List.set_cons_succ]
    try simp only [List.set_cons_zero]
    refine wpAnyH_ready (rs := [19]) (by kernel_rfl) (by simp) ?_
    refine AllReadyH.cons rfl (fun KK hKK => ?_) AllReadyH.nil
    go_simp
    refine (specVar_yes gid _ (by omega)).mono ?_
    rintro e q5 ⟨rfl, b9⟩
    have BQq5 : Below Y.heap.size Y q5 := stepB BQq4 b9
    clear b9 BQq4
    go_simp
    refine hKK.out _ _ (HC.out _ BQq5) (fun hHeld2 => ?_)
    clear hKK KK hHeld
    have hHeld := hHeld2
    clear hHeld2
    refine take1 (i := 20) (d := some 50) (v := .string (s ++ varS id ++ varS kind ++ varS mode ++ varS uid ++ varS gid)) rfl rfl (by kernel_rfl) (by kernel_rfl) (by kernel_rfl) (fun _ _ _ h => h) (Or.inl ⟨by rfl, ?_⟩) (by assumption) ?_
    ·intro w hSw
     go_simp
     omega
    simp only [Act.put, List.setIfInBounds_toArray]
    try simp only [List.set_cons_succ]
    try simp only [List.set_cons_zero]
    refine wpAnyH_ready (rs := [23]) (by kernel_rfl) (by simp) ?_
    refine AllReadyH.cons rfl (fun KK hKK => ?_) AllReadyH.nil
    go_simp
    refine (specVar_yes maxb _ (by omega)).mono ?_
    rintro e q6 ⟨rfl, b9⟩
    have BQq6 : Below Y.heap.size Y q6 := stepB BQq5 b9
    clear b9 BQq5
    go_simp
    refine hKK.out _ _ (HC.out _ BQq6) (fun hHeld2 => ?_)
    clear hKK KK hHeld
    have hHeld := hHeld2
    clear hHeld2
    refine take1 (i := 24) (d := some 54) (v := .string (s ++ varS id ++ varS kind ++ varS mode ++ varS uid ++ varS gid ++ varS maxb)) rfl rfl (by kernel_rfl) (by kernel_rfl) (by kernel_rfl) (fun _ _ _ h => h) (Or.inl ⟨by rfl, ?_⟩) (by assumption) ?_
    ·intro w hSw
     go_simp
     omega
    simp only [Act.put, List.setIfInBounds_toArray]
    try simp only [List.set_cons_succ]
    try simp only [List.set_cons_zero]
    refine wpAnyH_ready (rs := [27]) (by kernel_rfl) (by simp) ?_
    refine AllReadyH.cons rfl (fun KK hKK => ?_) AllReadyH.nil
    go_simp
    refine (specVar_yes maxi _ (by omega)).mono ?_
    rintro e q7 ⟨rfl, b9⟩
    have BQq7 : Below Y.heap.size Y q7 := stepB BQq6 b9
    clear b9 BQq6
    go_simp
    refine hKK.out _ _ (HC.out _ BQq7) (fun hHeld2 => ?_)
    clear hKK KK hHeld
    have hHeld := hHeld2
    clear hHeld2
    refine take1 (i := 28) (d := some 58) (v := .string (s ++ varS id ++ varS kind ++ varS mode ++ varS uid ++ varS gid ++ varS maxb ++ varS maxi)) rfl rfl (by kernel_rfl) (by kernel_rfl) (by kernel_rfl) (fun _ _ _ h => h) (Or.inl ⟨by rfl, ?_⟩) (by assumption) ?_
    ·intro w hSw
     go_simp
     omega
    simp only [Act.put, List.setIfInBounds_toArray]
    try simp only [List.set_cons_succ]
    try simp only [List.set_cons_zero]
    refine wpAnyH_ready (rs := [31]) (by kernel_rfl) (by simp) ?_
    refine AllReadyH.cons rfl (fun KK hKK => ?_) AllReadyH.nil
    go_simp
    refine (specPiece_any data _ (by omega)).mono ?_
    rintro e q8 ⟨rfl, b9⟩
    have BQq8 : Below Y.heap.size Y q8 := stepB BQq7 b9
    clear b9 BQq7
    go_simp
    refine hKK.out _ _ (HC.out _ BQq8) (fun hHeld2 => ?_)
    clear hKK KK hHeld
    have hHeld := hHeld2
    clear hHeld2
    refine take1 (i := 32) (d := some 62) (v := .string (s ++ varS id ++ varS kind ++ varS mode ++ varS uid ++ varS gid ++ varS maxb ++ varS maxi ++ piece data)) rfl rfl (by kernel_rfl) (by kernel_rfl) (by kernel_rfl) (fun _ _ _ h => h) (Or.inl ⟨by rfl, ?_⟩) (by assumption) ?_
    ·intro w hSw
     go_simp
     omega
    simp only [Act.put, List.setIfInBounds_toArray]
    try simp only [List.set_cons_succ]
    try simp only [List.set_cons_zero]
    refine wpAnyH_ready (rs := [36]) (by kernel_rfl) (by simp) ?_
    refine AllReadyH.cons rfl (fun KK hKK => ?_) AllReadyH.nil
    go_simp
    refine (specVar_yes names.length _ (by omega)).mono ?_
    rintro e q9 ⟨rfl, b9⟩
    have BQq9 : Below Y.heap.size Y q9 := stepB BQq8 b9
    clear b9 BQq8
    go_simp
    refine hKK.out _ _ (HC.out _ BQq9) (fun hHeld2 => ?_)
    clear hKK KK hHeld
    have hHeld := hHeld2
    clear hHeld2
    refine take1 (i := 37) (d := some 67) (v := .string (s ++ varS id ++ varS kind ++ varS mode ++ varS uid ++ varS gid ++ varS maxb ++ varS maxi ++ piece data ++ varS names.length)) rfl rfl (by kernel_rfl) (by kernel_rfl) (by kernel_rfl) (fun _ _ _ h => h) (Or.inl ⟨by rfl, ?_⟩) (by assumption) ?_
    ·intro w hSw
     go_simp
     omega
    simp only [Act.put, List.setIfInBounds_toArray]
    try simp only [List.set_cons_succ]
    try simp only [List.set_cons_zero]
    refine tkk 38 3 (v := ?_) ?_ ?_
    rotate_left 1
    ·intro w hSw
     go_simp <;> with_reducible rfl
    simp only [Act.put, List.setIfInBounds_toArray]
    try simp only [List.set_cons_succ]
    try simp only [List.set_cons_zero]
    refine wpAnyH_done (by kernel_rfl) ?_ _
    clear HC hHeld
    have hs2 : (s ++ varS id ++ varS kind ++ varS mode ++ varS uid ++ varS gid ++ varS maxb ++ varS maxi ++ piece data ++ varS names.length).size ≤ s.size + 127 := by simp only [ByteArray.size_append]; omega
    have HP2 : Hid ((s ++ varS id ++ varS kind ++ varS mode ++ varS uid ++ varS gid ++ varS maxb ++ varS maxi ++ piece data ++ varS names.length).data.toList = s.data.toList ++ (varsL [id, kind, mode, uid, gid, maxb, maxi] ++ (varL data.size ++ data.data.toList) ++ varL names.length)) := by
     unfold Hid
     simp only [ba_app, varS_list, piece_toList, varsL, List.flatMap_cons, List.flatMap_nil, List.append_nil, List.append_assoc]
    have HBQ := Hid.intro BQq9
    clear BQq9 y0 y1 y2 y3 y4 y5 y6 y7 y8
    generalize s ++ varS id ++ varS kind ++ varS mode ++ varS uid ++ varS gid ++ varS maxb ++ varS maxi ++ piece data ++ varS names.length = s2 at HP2 hs2 ⊢
    go_wp2
    go_loopw [3, 6] (fun x i wr => ∃ (k : Nat) (t : ByteArray), i = .int .i64 k ∧ x = .string t ∧ k ≤ names.length ∧ t.size ≤ 14 + 400 * j + 127 + 22 * k ∧ Hid (t.data.toList = s2.data.toList ++ nmsL (names.take k)) ∧ Hid (Below Y.heap.size Y wr)) (fun _ i _ => names.length - (intOf i).toNat)
    case atStart => exact ⟨0, s2, rfl, rfl, Nat.zero_le _, by omega, by unfold Hid; simp [nmsL], HBQ⟩
    case round =>
     obtain ⟨k, t, rfl, rfl, hk, ht, HT, HQ⟩ := hrel
     have kk := atCell HQ.out HK6.out hyl
     by_cases hlk : k < names.length
     ·obtain ⟨c, o, rfl, hcN, hdc⟩ := HDC.out (fun h => by rw [h] at hlk; simp at hlk)
      have HBQ2 : Hid (Below w.heap.size w wr) := HBY.out.trans (HQ.out.mono (by omega))
      have hc := hdc k hlk
      have q0 := atCell HBQ2.out hc.1 (by omega)
      have q1 := atCell HBQ2.out hc.2 (by omega)
      have hx := HNM.out k hlk
      have hsn := nmsL_snoc names k hlk
      generalize names[k] = d at q0 q1 hx hsn
      obtain ⟨nm, di⟩ := d
      simp only at q0 q1 hx
      obtain ⟨hx1, hx2, hx3⟩ := hx
      obtain ⟨x, rfl⟩ := Int.eq_ofNat_of_zero_le hx2
      have HSN : Hid (nmsL (names.take k) ++ (varL nm.size ++ nm.data.toList ++ varL x) = nmsL (names.take (k + 1))) := hsn
      have hkl : (k : Int) < (names.length : Int) := by omega
      have i1 : (0 : Int) ≤ (k : Int) ∧ (k : Int) < (names.length : Int) := by omega
      have hyq : wo.heap.size < wr.heap.size := by have := HQ.out.size; omega
      have hcq : c < wr.heap.size := by have := HBQ2.out.size; omega
      have HC : Hid (∀ w', Below wr.heap.size wr w' → SDi (.slice (some ⟨c, o, none⟩) names.length pcap) nm x wo.heap.size c (o + k * 2) w') := fun w' hb => ⟨atCell hb kk hyq, atCell hb q0 hcq, atCell hb q1 hcq⟩
      have y0 := piece_le nm
      have y1 := varS_le x
      clear hsn hc hdc hx2
      go_upto_region 12 with fail
      clear q0 q1 kk
      refine wp_region_held_drew (S := SDi (.slice (some ⟨c, o, none⟩) names.length pcap) nm x wo.heap.size c (o + k * 2)) (by kernel_rfl) (HC.out _ (Below.refl _ _).drew) (fun hHeld => ?_)
      have BQD : Below wr.heap.size wr wr.drew := (Below.refl _ _).drew
      generalize wr.drew = D at BQD hHeld ⊢
      refine tkk 0 75 (v := ?_) ?_ ?_
      rotate_left 1
      ·intro w hSw
       obtain ⟨s0, s1, s2⟩ := hSw
       go_simp <;> with_reducible rfl
      simp only [Act.put, List.setIfInBounds_toArray]
      try simp only [List.set_cons_succ]
      try simp only [List.set_cons_zero]
      refine tkk 1 76 (v := ?_) ?_ ?_
      rotate_left 1
      ·intro w hSw
       obtain ⟨s0, s1, s2⟩ := hSw
       go_simp <;> with_reducible rfl
      simp only [Act.put, List.setIfInBounds_toArray]
      try simp only [List.set_cons_succ]
      try simp only [List.set_cons_zero]
      refine tkk 2 77 (v := ?_) ?_ ?_
      rotate_left 1
      ·intro w hSw
       obtain ⟨s0, s1, s2⟩ := hSw
       go_simp <;> with_reducible rfl
      simp only [Act.put, List.setIfInBounds_toArray]
      try simp only [List.set_cons_succ]
      try simp only [List.set_cons_zero]
      refine tkk 3 78 (v := ?_) ?_ ?_
      rotate_left 1
      ·intro w hSw
       obtain ⟨s0, s1, s2⟩ := hSw
       go_simp <;> with_reducible rfl
      simp only [Act.put, List.setIfInBounds_toArray]
      try simp only [List.set_cons_succ]
      try simp only [List.set_cons_zero]
      refine tkk 4 79 (v := ?_) ?_ ?_
      rotate_left 1
      ·intro w hSw
       obtain ⟨s0, s1, s2⟩ := hSw
       go_simp <;> with_reducible rfl
      simp only [Act.put, List.setIfInBounds_toArray]
      try simp only [List.set_cons_succ]
      try simp only [List.set_cons_zero]
      refine tkk 5 80 (v := ?_) ?_ ?_
      rotate_left 1
      ·intro w hSw
       obtain ⟨s0, s1, s2⟩ := hSw
       go_simp <;> with_reducible rfl
      simp only [Act.put, List.setIfInBounds_toArray]
      try simp only [List.set_cons_succ]
      try simp only [List.set_cons_zero]
      refine tkk 6 81 (v := ?_) ?_ ?_
      rotate_left 1
      ·intro w hSw
       obtain ⟨s0, s1, s2⟩ := hSw
       go_simp <;> with_reducible rfl
      simp only [Act.put, List.setIfInBounds_toArray]
      try simp only [List.set_cons_succ]
      try simp only [List.set_cons_zero]
      refine tkk 9 84 (v := ?_) ?_ ?_
      rotate_left 1
      ·intro w hSw
       obtain ⟨s0, s1, s2⟩ := hSw
       go_simp <;> with_reducible rfl
      simp only [Act.put, List.setIfInBounds_toArray]
      try simp only [List.set_cons_succ]
      try simp only [List.set_cons_zero]
      refine tkk 10 85 (v := ?_) ?_ ?_
      rotate_left 1
      ·intro w hSw
       obtain ⟨s0, s1, s2⟩ := hSw
       go_simp <;> with_reducible rfl
      simp only [Act.put, List.setIfInBounds_toArray]
      try simp only [List.set_cons_succ]
      try simp only [List.set_cons_zero]
      refine tkk 11 86 (v := ?_) ?_ ?_
      rotate_left 1
      ·intro w hSw
       obtain ⟨s0, s1, s2⟩ := hSw
       go_simp <;> with_reducible rfl
      simp only [Act.put, List.setIfInBounds_toArray]
      try simp only [List.set_cons_succ]
      try simp only [List.set_cons_zero]
      refine tkk 12 87 (v := ?_) ?_ ?_
      rotate_left 1
      ·intro w hSw
       obtain ⟨s0, s1, s2⟩ := hSw
       go_simp <;> with_reducible rfl
      simp only [Act.put, List.setIfInBounds_toArray]
      try simp only [List.set_cons_succ]
      try simp only [List.set_cons_zero]
      refine tkk 13 88 (v := ?_) ?_ ?_
      rotate_left 1
      ·intro w hSw
       obtain ⟨s0, s1, s2⟩ := hSw
       go_simp <;> with_reducible rfl
      simp only [Act.put, List.setIfInBounds_toArray]
      try simp only [List.set_cons_succ]
      try simp only [List.set_cons_zero]
      refine tkk 14 89 (v := ?_) ?_ ?_
      rotate_left 1
      ·intro w hSw
       obtain ⟨s0, s1, s2⟩ := hSw
       go_simp <;> with_reducible rfl
      simp only [Act.put, List.setIfInBounds_toArray]
      try simp only [List.set_cons_succ]
      try simp only [List.set_cons_zero]
      refine wpAnyH_ready (rs := [7]) (by kernel_rfl) (by simp) ?_
      refine AllReadyH.cons rfl (fun KK hKK => ?_) AllReadyH.nil
      go_simp
      refine (specPiece_any nm _ (by omega)).mono ?_
      rintro e q1 ⟨rfl, b9⟩
      have BQq1 : Below wr.heap.size wr q1 := stepB BQD b9
      clear b9 BQD
      go_simp
      refine hKK.out _ _ (HC.out _ BQq1) (fun hHeld2 => ?_)
      clear hKK KK hHeld
      have hHeld := hHeld2
      clear hHeld2
      refine take1 (i := 8) (d := some 83) (v := .string (t ++ piece nm)) rfl rfl (by kernel_rfl) (by kernel_rfl) (by kernel_rfl) (fun _ _ _ h => h) (Or.inl ⟨by rfl, ?_⟩) (by assumption) ?_
      ·intro w hSw
       go_simp
       omega
      simp only [Act.put, List.setIfInBounds_toArray]
      try simp only [List.set_cons_succ]
      try simp only [List.set_cons_zero]
      refine wpAnyH_ready (rs := [15]) (by kernel_rfl) (by simp) ?_
      refine AllReadyH.cons rfl (fun KK hKK => ?_) AllReadyH.nil
      go_simp
      refine (specVar_yes x _ (by omega)).mono ?_
      rintro e q2 ⟨rfl, b9⟩
      have BQq2 : Below wr.heap.size wr q2 := stepB BQq1 b9
      clear b9 BQq1
      go_simp
      refine hKK.out _ _ (HC.out _ BQq2) (fun hHeld2 => ?_)
      clear hKK KK hHeld
      have hHeld := hHeld2
      clear hHeld2
      refine take1 (i := 16) (d := some 91) (v := .string (t ++ piece nm ++ varS x)) rfl rfl (by kernel_rfl) (by kernel_rfl) (by kernel_rfl) (fun _ _ _ h => h) (Or.inl ⟨by rfl, ?_⟩) (by assumption) ?_
      ·intro w hSw
       go_simp
       omega
      simp only [Act.put, List.setIfInBounds_toArray]
      try simp only [List.set_cons_succ]
      try simp only [List.set_cons_zero]
      refine tkk 17 3 (v := ?_) ?_ ?_
      rotate_left 1
      ·intro w hSw
       go_simp <;> with_reducible rfl
      simp only [Act.put, List.setIfInBounds_toArray]
      try simp only [List.set_cons_succ]
      try simp only [List.set_cons_zero]
      refine wpAnyH_done (by kernel_rfl) ?_ _
      clear HC hHeld
      have ht2 : (t ++ piece nm ++ varS x).size ≤ t.size + 22 := by simp only [ByteArray.size_append]; omega
      have HT2 : Hid ((t ++ piece nm ++ varS x).data.toList = s2.data.toList ++ nmsL (names.take (k + 1))) := by
       unfold Hid
       rw [← HSN.out, ba_app, ba_app, HT.out, varS_list, piece_toList]
       simp only [List.append_assoc]
      have HQ2 := Hid.intro (HQ.out.trans (BQq2.mono HQ.out.size))
      clear BQq2 HT HSN
      generalize t ++ piece nm ++ varS x = t2 at HT2 ht2 ⊢
      go_wp2
      go_roundw
      case rel => exact ⟨k + 1, t2, by go_num, rfl, by omega, by omega, HT2, HQ2⟩
      case measure => simp [intOf]; omega
     ·have hkl : ¬ (k : Int) < (names.length : Int) := by omega
      have e1 : names.take k = names := List.take_of_length_le (by omega)
      rw [e1] at HT
      have hts : t.size ≤ 14 + 400 * (j + 1) := by
       have h1 := toList_size t
       have h2 := HSH.out
       have h3 := congrArg List.length HSE.out
       have h4 := congrArg List.length HT.out
       have h5 := congrArg List.length HP2.out
       have h6 := toList_size s
       simp only [List.length_append] at h3 h4 h5
       omega
      have HP3 : Hid (t.data.toList = varL nx ++ varL L.length ++ inosL ((L.take (j + 1)).map Np.n)) := by
       unfold Hid
       rw [HT.out, HP2.out, HP.out, ← HST.out, HSE.out]
       simp only [List.append_assoc]
      have HB3 := Hid.intro (HB.out.trans (HQ.out.mono HB.out.size))
      go_wp2
      go_roundw
      case rel => exact ⟨j + 1, t, by go_num, rfl, by omega, hts, HP3, HB3⟩
      case measure => simp [intOf]; omega
   ·have hlt' : ¬ (j : Int) < (L.length : Int) := by omega
    have e1 : L.take j = L := List.take_of_length_le (by omega)
    rw [e1] at HP
    have B2 := BW.trans (HB.out.mono (by omega))
    go_wp2
    go_ret
    exact ⟨ret_str ((ba_id s).symm.trans (by rw [HP.out]; simp only [List.append_assoc])), B2⟩
end Go.Proofs.YtknckbedddeijaaGreat
