/- FnExactWalk. -/
import Derived.Test.YtmkegmndcbpblaaGreatDoorWGoW
import Derived.Test.YtmkegmndcbpblaaGreatDoorWSpecW
import Derived.Test.YtmkegmndcbpblaaGreatDoorWLawB
import Derived.Test.YtmkegmndcbpblaaGreatDoorPReg
import Derived.Deep.RegionHeld3
import Derived.Deep.Cut
namespace Go.Proofs.YtmkegmndcbpblaaGreatDoor
open Go.RowKit Go.Maps
set_option linter.unusedVariables false
set_option linter.unusedSimpArgs false
theorem eqSpot_any (sd : Int) (sn : ByteArray) (si sc : Int) (w : World) : Calls Tryz.prog 10 #[.agg #[.int .i64 sd, .string sn, .int .i64 si, .int .i64 sc], .agg #[.int .i64 sd, .string sn, .int .i64 si, .int .i64 sc]] w fun e w' => e = .returned (.bool true) ∧ Below w.heap.size w w' := by
 go_enter Tryz.func10, Tryz.ntmps10
 go_upto_region 1 with fail
 obtain ⟨W, hW, bW, zW, c0, f0, c1, f1⟩ := boxed2 w #[.int .i64 sd, .string sn, .int .i64 si, .int .i64 sc] #[.int .i64 sd, .string sn, .int .i64 si, .int .i64 sc] 31 31
 try simp only [hW]
 have a0 : W.cell? ⟨w.heap.size, 0, none⟩ = some (.int .i64 sd) := c0 0
 have b0 : W.cell? ⟨w.heap.size + 1, 0, none⟩ = some (.int .i64 sd) := c1 0
 have a1 : W.cell? ⟨w.heap.size, 1, none⟩ = some (.string sn) := c0 1
 have b1 : W.cell? ⟨w.heap.size + 1, 1, none⟩ = some (.string sn) := c1 1
 have a2 : W.cell? ⟨w.heap.size, 2, none⟩ = some (.int .i64 si) := c0 2
 have b2 : W.cell? ⟨w.heap.size + 1, 2, none⟩ = some (.int .i64 si) := c1 2
 have a3 : W.cell? ⟨w.heap.size, 3, none⟩ = some (.int .i64 sc) := c0 3
 have b3 : W.cell? ⟨w.heap.size + 1, 3, none⟩ = some (.int .i64 sc) := c1 3
 have n0 : (sd != sd) = false := by simp
 have n1 : (sn.toList != sn.toList) = false := by simp
 have n2 : (si != si) = false := by simp
 have n3 : (sc != sc) = false := by simp
 clear hW c0 f0 c1 f1
 go_wp2_with fail
 go_ret
 exact ⟨rfl, bW⟩
theorem box_spotL {w0 Y : World} {g : Nat} {sd si sc : Int} {sn : List UInt8} (h : Below w0.heap.size w0 Y) (hg : w0.heap.size ≤ g) (X : Blk Y g spot0) : Blk ((((Y.setCell ⟨g, 0, none⟩ (.int .i64 sd)).setCell ⟨g, 1, none⟩ (.string ⟨sn.toArray⟩)).setCell ⟨g, 2, none⟩ (.int .i64 si)).setCell ⟨g, 3, none⟩ (.int .i64 sc)) g #[.int .i64 sd, .string ⟨sn.toArray⟩, .int .i64 si, .int .i64 sc] ∧ Below w0.heap.size w0 ((((Y.setCell ⟨g, 0, none⟩ (.int .i64 sd)).setCell ⟨g, 1, none⟩ (.string ⟨sn.toArray⟩)).setCell ⟨g, 2, none⟩ (.int .i64 si)).setCell ⟨g, 3, none⟩ (.int .i64 sc)) := by
 have hx := X.all [.int .i64 sd, .string ⟨sn.toArray⟩, .int .i64 si, .int .i64 sc] (by rfl)
 have ho := only_setC Y g 0 [.int .i64 sd, .string ⟨sn.toArray⟩, .int .i64 si, .int .i64 sc]
 have hb := h.trans (ho.below h.size (fun k hk e => by omega))
 have h9 := And.intro hx hb
 simp only [setC] at h9
 exact h9
set_option maxRecDepth 100000 in
set_option maxHeartbeats 40000000 in
theorem walk_law (next : Int) (L : List Np) (u : Value) (c : Cr) (cv : Value) (path : ByteArray) (follow : Bool) (E : Nat → Addr) (w : World) (hr : VolR w w.heap.size u L) (hw : ∀ p ∈ L, NdW p.n) (hcr : Row intE w w.heap.size cv c.l) (hp : path.size ≤ 9223372036854775807) (hE : ErrW w E) (h6 : 6 ≤ w.heap.size) :
  Calls Tryz.prog 3 #[volV next u, crV c cv, .string path, .bool follow] w fun e w' => e = .returned (.bool true) ∧ Below w.heap.size w w' := by
 obtain ⟨ua, uc, rfl, _, _⟩ := hr.row.slice
 obtain ⟨ca, cc, rfl, _, _⟩ := hcr.slice
 obtain ⟨⟨sd, sn, si, sc⟩, hans⟩ : ∃ s, walkA next (L.map Np.n) c path follow = s := ⟨_, rfl⟩
 have HAN := Hid.intro hans
 have HR := Hid.intro hr
 have HW := Hid.intro hw
 have HC := Hid.intro hcr
 have HE := Hid.intro hE
 clear hr hw hcr hE hans
 go_enter Tryz.func3, Tryz.ntmps3
 go_upto_region 1 with fail
 obtain ⟨U, hU, bU, zU, c0, f0, c1, f1⟩ := boxed2 w (#[.int .i64 next, .slice ua L.length uc] : Array Value) (#[.int .i64 c.u, .int .i64 c.g, .slice ca c.l.length cc] : Array Value) 24 27
 try simp only [hU]
 have HY : Hid (∀ y, Below U.heap.size U y → (∀ o, y.cell? ⟨w.heap.size, o, none⟩ = (#[.int .i64 next, .slice ua L.length uc] : Array Value)[o]?) ∧ (∀ o, y.cell? ⟨w.heap.size + 1, o, none⟩ = (#[.int .i64 c.u, .int .i64 c.g, .slice ca c.l.length cc] : Array Value)[o]?) ∧ VolR y w.heap.size (.slice ua L.length uc) L ∧ Row intE y w.heap.size (.slice ca c.l.length cc) c.l ∧ ErrW y E ∧ Below w.heap.size w y ∧ w.heap.size + 2 ≤ y.heap.size) := fun y hy => by
  have hz := hy.size
  have hb := bU.trans (hy.mono (by omega))
  exact ⟨keepC hy (by omega) c0, keepC hy (by omega) c1, HR.out.kept hb, HC.out.kept hb, HE.out.kept h6 hb, hb, by omega⟩
 clear hU bU zU c0 f0 c1 f1
 by_cases hpl : 1048576 < (path.size : Int)
 ·go_wp2
  go_ret
  exact ⟨rfl, (HY.out U (Below.refl _ _)).2.2.2.2.2.1⟩
 have k0 : U.cell? ⟨w.heap.size, 0, none⟩ = some (.int .i64 next) := (HY.out U (Below.refl _ _)).1 0
 have k1 : U.cell? ⟨w.heap.size, 1, none⟩ = some (.slice ua L.length uc) := (HY.out U (Below.refl _ _)).1 1
 go_wp2_with fail
 refine (szVol_any next L _ w.heap.size _ U (by have := (HY.out U (Below.refl _ _)).2.2.2.2.2.2; omega) (HY.out U (Below.refl _ _)).2.2.1 (fun p hp => (HW.out p hp).1) (by omega) (by omega)).mono ?_
 rintro e w1 ⟨⟨s0, rfl, hn, hnm⟩, bb⟩
 have HB1 := Hid.intro bb
 have gs0 := hn.1
 have HN := Hid.intro hn.2.2
 have HNM := Hid.intro hnm
 clear bb hn hnm k0 k1
 by_cases hneg0 : s0 < 0
 ·go_wp2
  go_ret
  exact ⟨rfl, (HY.out w1 HB1.out).2.2.2.2.2.1⟩
 have HL : Hid (L.length ≤ 1048576) := by have := HN.out (by omega); unfold Hid; omega
 have HNL := Hid.intro (HNM.out (by omega))
 clear HN HNM
 have d0 : w1.cell? ⟨w.heap.size + 1, 0, none⟩ = some (.int .i64 c.u) := (HY.out w1 HB1.out).2.1 0
 have d1 : w1.cell? ⟨w.heap.size + 1, 1, none⟩ = some (.int .i64 c.g) := (HY.out w1 HB1.out).2.1 1
 have d2 : w1.cell? ⟨w.heap.size + 1, 2, none⟩ = some (.slice ca c.l.length cc) := (HY.out w1 HB1.out).2.1 2
 go_wp2_with fail
 refine (szCred_any c _ w.heap.size _ w1 (by have := (HY.out w1 HB1.out).2.2.2.2.2.2; omega) (HY.out w1 HB1.out).2.2.2.1 (by omega) (by omega)).mono ?_
 rintro e w2 ⟨⟨s1, rfl, hn⟩, bb⟩
 have HB2 := Hid.intro (HB1.out.trans (bb.mono HB1.out.size))
 have gs1 := hn.1
 have HN := Hid.intro hn.2.2
 clear bb hn d0 d1 d2 HB1
 by_cases hneg1 : s1 < 0
 ·go_wp2
  go_ret
  exact ⟨rfl, (HY.out w2 HB2.out).2.2.2.2.2.1⟩
 have HCL : Hid (c.l.length ≤ 1048576) := by have := HN.out (by omega); unfold Hid; omega
 clear HN
 go_upto_region 10 with fail
 go_cut [10] from 27 to 57 (fun sx wd => ∃ g, sx = .pointer (some ⟨g, 0, none⟩) ∧ Hid (Blk wd g #[.int .i64 sd, .string ⟨sn.toArray⟩, .int .i64 si, .int .i64 sc]) ∧ Hid (Below w2.heap.size w2 wd))
 case first =>
  have HZ : Hid (∀ y, Below w2.heap.size w2 y → Below U.heap.size U y) := fun y hy => HB2.out.trans (hy.mono HB2.out.size)
  have hw2 := (HY.out w2 HB2.out).2.2.2.2.2.2
  refine wp_region_held_drew (S := fun y => Below w2.heap.size w2 y) (by kernel_rfl) (Below.refl _ _).drew (fun hHeld => ?_)
  have HD : Hid (Below w2.heap.size w2 w2.drew) := (Below.refl _ _).drew
  generalize w2.drew = D at hHeld HD ⊢
  refine tkk 0 27 (v := ?_) ?_ ?_
  rotate_left 1
  ·intro y hSw
   have k0 : y.cell? ⟨w.heap.size, 0, none⟩ = some (.int .i64 next) := (HY.out y (HZ.out y hSw)).1 0
   have k1 : y.cell? ⟨w.heap.size, 1, none⟩ = some (.slice ua L.length uc) := (HY.out y (HZ.out y hSw)).1 1
   go_simp <;> with_reducible rfl
  simp only [Act.put, List.setIfInBounds_toArray]
  try simp only [List.set_cons_succ]
  try simp only [List.set_cons_zero]
  refine tkk 2 29 (v := ?_) ?_ ?_
  rotate_left 1
  ·intro y hSw
   have d0 : y.cell? ⟨w.heap.size + 1, 0, none⟩ = some (.int .i64 c.u) := (HY.out y (HZ.out y hSw)).2.1 0
   have d1 : y.cell? ⟨w.heap.size + 1, 1, none⟩ = some (.int .i64 c.g) := (HY.out y (HZ.out y hSw)).2.1 1
   have d2 : y.cell? ⟨w.heap.size + 1, 2, none⟩ = some (.slice ca c.l.length cc) := (HY.out y (HZ.out y hSw)).2.1 2
   go_simp <;> with_reducible rfl
  simp only [Act.put, List.setIfInBounds_toArray]
  try simp only [List.set_cons_succ]
  try simp only [List.set_cons_zero]
  refine tkk 4 31 (v := ?_) ?_ ?_
  rotate_left 1
  ·intro y hSw
   go_simp <;> with_reducible rfl
  simp only [Act.put, List.setIfInBounds_toArray]
  try simp only [List.set_cons_succ]
  try simp only [List.set_cons_zero]
  refine tkk 5 32 (v := ?_) ?_ ?_
  rotate_left 1
  ·intro y hSw
   go_simp <;> with_reducible rfl
  simp only [Act.put, List.setIfInBounds_toArray]
  try simp only [List.set_cons_succ]
  try simp only [List.set_cons_zero]
  refine wpAnyH_ready (rs := [1, 7]) (by kernel_rfl) (by simp) ?_
  refine (AllReadyH.cons rfl (fun KK hKK => ?_) (AllReadyH.cons rfl (fun KK hKK => ?_) AllReadyH.nil))
  ·skip
   go_simp
   refine (toVol_any next L _ w.heap.size D (by have := HD.out.size; omega) (HY.out D (HZ.out D HD.out)).2.2.1 HL.out HNL.out).mono ?_
   rintro e D1 ⟨a1, c1, M1, rfl, o1, e1, b1⟩
   have HV1 := Hid.intro o1
   have HE1 := Hid.intro e1
   replace HD := Hid.intro (HD.out.trans (b1.mono HD.out.size))
   clear o1 e1 b1
   go_simp
   refine hKK.out _ _ HD.out (fun hHeld2 => ?_)
   clear hKK KK hHeld
   have hHeld := hHeld2
   clear hHeld2
   refine wpAnyH_ready (rs := [3, 7]) (by kernel_rfl) (by simp) ?_
   refine (AllReadyH.cons rfl (fun KK hKK => ?_) (AllReadyH.cons rfl (fun KK hKK => ?_) AllReadyH.nil))
   ·skip
    go_simp
    refine (toCred_any c _ w.heap.size D1 (by have := HD.out.size; omega) (HY.out D1 (HZ.out D1 HD.out)).2.2.2.1 HCL.out).mono ?_
    rintro e D2 ⟨v1, rfl, n1⟩
    have b1 := n1.bel
    obtain ⟨ka, kcap, rfl⟩ := n1.slice
    replace HV1 := Hid.intro (HV1.out.kept b1)
    have HK1 := Hid.intro n1.own
    replace HD := Hid.intro (HD.out.trans (b1.mono HD.out.size))
    clear n1 b1
    go_simp
    refine hKK.out _ _ HD.out (fun hHeld2 => ?_)
    clear hKK KK hHeld
    have hHeld := hHeld2
    clear hHeld2
    refine wpAnyH_ready (rs := [6, 7]) (by kernel_rfl) (by simp) ?_
    refine (AllReadyH.cons rfl (fun KK hKK => ?_) (AllReadyH.cons rfl (fun KK hKK => ?_) AllReadyH.nil))
    ·skip
     go_simp
     refine (specWalk_any next M1 _ c _ path follow D2.heap.size D2 (Nat.le_refl _) HV1.out.rowAll (fun p hp => by
       have h1 : p.n ∈ M1.map Np.n := List.mem_map_of_mem hp
       rw [HE1.out] at h1
       obtain ⟨p', hp', e⟩ := List.mem_map.1 h1
       rw [← e]
       exact (HW.out p' hp').1) HK1.out.rowAll hp).mono ?_
     rw [HE1.out, HAN.out]
     simp only [spV, spA, sVal]
     rintro e D3 ⟨rfl, b1⟩
     replace HV1 := Hid.intro (HV1.out.kept b1)
     replace HK1 := Hid.intro (HK1.out.kept b1)
     replace HD := Hid.intro (HD.out.trans (b1.mono HD.out.size))
     clear b1
     go_simp
     refine hKK.out _ _ HD.out (fun hHeld2 => ?_)
     clear hKK KK hHeld
     have hHeld := hHeld2
     clear hHeld2
     refine wpAnyH_ready (rs := [7]) (by kernel_rfl) (by simp) ?_
     refine (AllReadyH.cons rfl (fun KK hKK => ?_) AllReadyH.nil)
     obtain ⟨D4, hY, bY, zY, cY, fY⟩ := boxed D3 spot0 31
     simp only [spot0] at hY
     go_simp
     try simp only [hY]
     have BX : Blk D4 D3.heap.size spot0 := ⟨by omega, cY, fY⟩
     have hgb : w2.heap.size ≤ D3.heap.size := HD.out.size
     replace HV1 := Hid.intro (HV1.out.kept bY)
     replace HK1 := Hid.intro (HK1.out.kept bY)
     replace HD := Hid.intro (HD.out.trans (bY.mono HD.out.size))
     clear hY bY zY cY fY
     generalize D3.heap.size = gb at BX hgb ⊢
     refine hKK.out _ _ HD.out (fun hHeld2 => ?_)
     clear hKK KK hHeld
     have hHeld := hHeld2
     clear hHeld2
     refine wpAnyH_ready (rs := [8]) (by kernel_rfl) (by simp) ?_
     refine (AllReadyH.cons rfl (fun KK hKK => ?_) AllReadyH.nil)
     have x0 : D4.cell? ⟨gb, 0, none⟩ = some (.int .i64 0) := BX.cell 0
     have t0 := BX.fro 0
     have x1 : D4.cell? ⟨gb, 1, none⟩ = some (.string ⟨#[]⟩) := BX.cell 1
     have t1 := BX.fro 1
     have x2 : D4.cell? ⟨gb, 2, none⟩ = some (.int .i64 0) := BX.cell 2
     have t2 := BX.fro 2
     have x3 : D4.cell? ⟨gb, 3, none⟩ = some (.int .i64 0) := BX.cell 3
     have t3 := BX.fro 3
     have hfin := box_spotL (sd := sd) (si := si) (sc := sc) (sn := sn) HD.out hgb BX
     go_simp
     clear x0 x1 x2 x3 t0 t1 t2 t3
     revert hfin
     generalize World.setCell _ ⟨gb, 3, none⟩ _ = w9
     intro hfin
     refine hKK.out _ _ hfin.2 (fun hHeld2 => ?_)
     clear hKK KK hHeld
     have hHeld := hHeld2
     clear hHeld2
     refine wpAnyH_done (by kernel_rfl) ?_ _
     clear hHeld
     go_wp2_with fail
     go_meet
     case rel => exact ⟨gb, rfl, hfin.1, hfin.2⟩
    ·skip
     obtain ⟨D5, hY, bY, zY, cY, fY⟩ := boxed D2 spot0 31
     simp only [spot0] at hY
     go_simp
     try simp only [hY]
     have BX : Blk D5 D2.heap.size spot0 := ⟨by omega, cY, fY⟩
     have hgb : w2.heap.size ≤ D2.heap.size := HD.out.size
     replace HV1 := Hid.intro (HV1.out.kept bY)
     replace HK1 := Hid.intro (HK1.out.kept bY)
     replace HD := Hid.intro (HD.out.trans (bY.mono HD.out.size))
     clear hY bY zY cY fY
     generalize D2.heap.size = gb at BX hgb ⊢
     refine hKK.out _ _ HD.out (fun hHeld2 => ?_)
     clear hKK KK hHeld
     have hHeld := hHeld2
     clear hHeld2
     refine wpAnyH_ready (rs := [6]) (by kernel_rfl) (by simp) ?_
     refine (AllReadyH.cons rfl (fun KK hKK => ?_) AllReadyH.nil)
     go_simp
     refine (specWalk_any next M1 _ c _ path follow D5.heap.size D5 (Nat.le_refl _) HV1.out.rowAll (fun p hp => by
       have h1 : p.n ∈ M1.map Np.n := List.mem_map_of_mem hp
       rw [HE1.out] at h1
       obtain ⟨p', hp', e⟩ := List.mem_map.1 h1
       rw [← e]
       exact (HW.out p' hp').1) HK1.out.rowAll hp).mono ?_
     rw [HE1.out, HAN.out]
     simp only [spV, spA, sVal]
     rintro e D6 ⟨rfl, b1⟩
     replace HV1 := Hid.intro (HV1.out.kept b1)
     replace HK1 := Hid.intro (HK1.out.kept b1)
     replace BX := BX.kept b1
     replace HD := Hid.intro (HD.out.trans (b1.mono HD.out.size))
     clear b1
     go_simp
     refine hKK.out _ _ HD.out (fun hHeld2 => ?_)
     clear hKK KK hHeld
     have hHeld := hHeld2
     clear hHeld2
     refine wpAnyH_ready (rs := [8]) (by kernel_rfl) (by simp) ?_
     refine (AllReadyH.cons rfl (fun KK hKK => ?_) AllReadyH.nil)
     have x0 : D6.cell? ⟨gb, 0, none⟩ = some (.int .i64 0) := BX.cell 0
     have t0 := BX.fro 0
     have x1 : D6.cell? ⟨gb, 1, none⟩ = some (.string ⟨#[]⟩) := BX.cell 1
     have t1 := BX.fro 1
     have x2 : D6.cell? ⟨gb, 2, none⟩ = some (.int .i64 0) := BX.cell 2
     have t2 := BX.fro 2
     have x3 : D6.cell? ⟨gb, 3, none⟩ = some (.int .i64 0) := BX.cell 3
     have t3 := BX.fro 3
     have hfin := box_spotL (sd := sd) (si := si) (sc := sc) (sn := sn) HD.out hgb BX
     go_simp
     clear x0 x1 x2 x3 t0 t1 t2 t3
     revert hfin
     generalize World.setCell _ ⟨gb, 3, none⟩ _ = w9
     intro hfin
     refine hKK.out _ _ hfin.2 (fun hHeld2 => ?_)
     clear hKK KK hHeld
     have hHeld := hHeld2
     clear hHeld2
     refine wpAnyH_done (by kernel_rfl) ?_ _
     clear hHeld
     go_wp2_with fail
     go_meet
     case rel => exact ⟨gb, rfl, hfin.1, hfin.2⟩
   ·skip
    obtain ⟨D7, hY, bY, zY, cY, fY⟩ := boxed D1 spot0 31
    simp only [spot0] at hY
    go_simp
    try simp only [hY]
    have BX : Blk D7 D1.heap.size spot0 := ⟨by omega, cY, fY⟩
    have hgb : w2.heap.size ≤ D1.heap.size := HD.out.size
    replace HV1 := Hid.intro (HV1.out.kept bY)
    replace HD := Hid.intro (HD.out.trans (bY.mono HD.out.size))
    clear hY bY zY cY fY
    generalize D1.heap.size = gb at BX hgb ⊢
    refine hKK.out _ _ HD.out (fun hHeld2 => ?_)
    clear hKK KK hHeld
    have hHeld := hHeld2
    clear hHeld2
    refine wpAnyH_ready (rs := [3]) (by kernel_rfl) (by simp) ?_
    refine (AllReadyH.cons rfl (fun KK hKK => ?_) AllReadyH.nil)
    go_simp
    refine (toCred_any c _ w.heap.size D7 (by have := HD.out.size; omega) (HY.out D7 (HZ.out D7 HD.out)).2.2.2.1 HCL.out).mono ?_
    rintro e D8 ⟨v1, rfl, n1⟩
    have b1 := n1.bel
    obtain ⟨ka, kcap, rfl⟩ := n1.slice
    replace HV1 := Hid.intro (HV1.out.kept b1)
    replace BX := BX.kept b1
    have HK1 := Hid.intro n1.own
    replace HD := Hid.intro (HD.out.trans (b1.mono HD.out.size))
    clear n1 b1
    go_simp
    refine hKK.out _ _ HD.out (fun hHeld2 => ?_)
    clear hKK KK hHeld
    have hHeld := hHeld2
    clear hHeld2
    refine wpAnyH_ready (rs := [6]) (by kernel_rfl) (by simp) ?_
    refine (AllReadyH.cons rfl (fun KK hKK => ?_) AllReadyH.nil)
    go_simp
    refine (specWalk_any next M1 _ c _ path follow D8.heap.size D8 (Nat.le_refl _) HV1.out.rowAll (fun p hp => by
      have h1 : p.n ∈ M1.map Np.n := List.mem_map_of_mem hp
      rw [HE1.out] at h1
      obtain ⟨p', hp', e⟩ := List.mem_map.1 h1
      rw [← e]
      exact (HW.out p' hp').1) HK1.out.rowAll hp).mono ?_
    rw [HE1.out, HAN.out]
    simp only [spV, spA, sVal]
    rintro e D9 ⟨rfl, b1⟩
    replace HV1 := Hid.intro (HV1.out.kept b1)
    replace HK1 := Hid.intro (HK1.out.kept b1)
    replace BX := BX.kept b1
    replace HD := Hid.intro (HD.out.trans (b1.mono HD.out.size))
    clear b1
    go_simp
    refine hKK.out _ _ HD.out (fun hHeld2 => ?_)
    clear hKK KK hHeld
    have hHeld := hHeld2
    clear hHeld2
    refine wpAnyH_ready (rs := [8]) (by kernel_rfl) (by simp) ?_
    refine (AllReadyH.cons rfl (fun KK hKK => ?_) AllReadyH.nil)
    have x0 : D9.cell? ⟨gb, 0, none⟩ = some (.int .i64 0) := BX.cell 0
    have t0 := BX.fro 0
    have x1 : D9.cell? ⟨gb, 1, none⟩ = some (.string ⟨#[]⟩) := BX.cell 1
    have t1 := BX.fro 1
    have x2 : D9.cell? ⟨gb, 2, none⟩ = some (.int .i64 0) := BX.cell 2
    have t2 := BX.fro 2
    have x3 : D9.cell? ⟨gb, 3, none⟩ = some (.int .i64 0) := BX.cell 3
    have t3 := BX.fro 3
    have hfin := box_spotL (sd := sd) (si := si) (sc := sc) (sn := sn) HD.out hgb BX
    go_simp
    clear x0 x1 x2 x3 t0 t1 t2 t3
    revert hfin
    generalize World.setCell _ ⟨gb, 3, none⟩ _ = w9
    intro hfin
    refine hKK.out _ _ hfin.2 (fun hHeld2 => ?_)
    clear hKK KK hHeld
    have hHeld := hHeld2
    clear hHeld2
    refine wpAnyH_done (by kernel_rfl) ?_ _
    clear hHeld
    go_wp2_with fail
    go_meet
    case rel => exact ⟨gb, rfl, hfin.1, hfin.2⟩
  ·skip
   obtain ⟨D10, hY, bY, zY, cY, fY⟩ := boxed D spot0 31
   simp only [spot0] at hY
   go_simp
   try simp only [hY]
   have BX : Blk D10 D.heap.size spot0 := ⟨by omega, cY, fY⟩
   have hgb : w2.heap.size ≤ D.heap.size := HD.out.size
   replace HD := Hid.intro (HD.out.trans (bY.mono HD.out.size))
   clear hY bY zY cY fY
   generalize D.heap.size = gb at BX hgb ⊢
   refine hKK.out _ _ HD.out (fun hHeld2 => ?_)
   clear hKK KK hHeld
   have hHeld := hHeld2
   clear hHeld2
   refine wpAnyH_ready (rs := [1]) (by kernel_rfl) (by simp) ?_
   refine (AllReadyH.cons rfl (fun KK hKK => ?_) AllReadyH.nil)
   go_simp
   refine (toVol_any next L _ w.heap.size D10 (by have := HD.out.size; omega) (HY.out D10 (HZ.out D10 HD.out)).2.2.1 HL.out HNL.out).mono ?_
   rintro e D11 ⟨a1, c1, M1, rfl, o1, e1, b1⟩
   replace BX := BX.kept b1
   have HV1 := Hid.intro o1
   have HE1 := Hid.intro e1
   replace HD := Hid.intro (HD.out.trans (b1.mono HD.out.size))
   clear o1 e1 b1
   go_simp
   refine hKK.out _ _ HD.out (fun hHeld2 => ?_)
   clear hKK KK hHeld
   have hHeld := hHeld2
   clear hHeld2
   refine wpAnyH_ready (rs := [3]) (by kernel_rfl) (by simp) ?_
   refine (AllReadyH.cons rfl (fun KK hKK => ?_) AllReadyH.nil)
   go_simp
   refine (toCred_any c _ w.heap.size D11 (by have := HD.out.size; omega) (HY.out D11 (HZ.out D11 HD.out)).2.2.2.1 HCL.out).mono ?_
   rintro e D12 ⟨v1, rfl, n1⟩
   have b1 := n1.bel
   obtain ⟨ka, kcap, rfl⟩ := n1.slice
   replace HV1 := Hid.intro (HV1.out.kept b1)
   replace BX := BX.kept b1
   have HK1 := Hid.intro n1.own
   replace HD := Hid.intro (HD.out.trans (b1.mono HD.out.size))
   clear n1 b1
   go_simp
   refine hKK.out _ _ HD.out (fun hHeld2 => ?_)
   clear hKK KK hHeld
   have hHeld := hHeld2
   clear hHeld2
   refine wpAnyH_ready (rs := [6]) (by kernel_rfl) (by simp) ?_
   refine (AllReadyH.cons rfl (fun KK hKK => ?_) AllReadyH.nil)
   go_simp
   refine (specWalk_any next M1 _ c _ path follow D12.heap.size D12 (Nat.le_refl _) HV1.out.rowAll (fun p hp => by
     have h1 : p.n ∈ M1.map Np.n := List.mem_map_of_mem hp
     rw [HE1.out] at h1
     obtain ⟨p', hp', e⟩ := List.mem_map.1 h1
     rw [← e]
     exact (HW.out p' hp').1) HK1.out.rowAll hp).mono ?_
   rw [HE1.out, HAN.out]
   simp only [spV, spA, sVal]
   rintro e D13 ⟨rfl, b1⟩
   replace HV1 := Hid.intro (HV1.out.kept b1)
   replace HK1 := Hid.intro (HK1.out.kept b1)
   replace BX := BX.kept b1
   replace HD := Hid.intro (HD.out.trans (b1.mono HD.out.size))
   clear b1
   go_simp
   refine hKK.out _ _ HD.out (fun hHeld2 => ?_)
   clear hKK KK hHeld
   have hHeld := hHeld2
   clear hHeld2
   refine wpAnyH_ready (rs := [8]) (by kernel_rfl) (by simp) ?_
   refine (AllReadyH.cons rfl (fun KK hKK => ?_) AllReadyH.nil)
   have x0 : D13.cell? ⟨gb, 0, none⟩ = some (.int .i64 0) := BX.cell 0
   have t0 := BX.fro 0
   have x1 : D13.cell? ⟨gb, 1, none⟩ = some (.string ⟨#[]⟩) := BX.cell 1
   have t1 := BX.fro 1
   have x2 : D13.cell? ⟨gb, 2, none⟩ = some (.int .i64 0) := BX.cell 2
   have t2 := BX.fro 2
   have x3 : D13.cell? ⟨gb, 3, none⟩ = some (.int .i64 0) := BX.cell 3
   have t3 := BX.fro 3
   have hfin := box_spotL (sd := sd) (si := si) (sc := sc) (sn := sn) HD.out hgb BX
   go_simp
   clear x0 x1 x2 x3 t0 t1 t2 t3
   revert hfin
   generalize World.setCell _ ⟨gb, 3, none⟩ _ = w9
   intro hfin
   refine hKK.out _ _ hfin.2 (fun hHeld2 => ?_)
   clear hKK KK hHeld
   have hHeld := hHeld2
   clear hHeld2
   refine wpAnyH_done (by kernel_rfl) ?_ _
   clear hHeld
   go_wp2_with fail
   go_meet
   case rel => exact ⟨gb, rfl, hfin.1, hfin.2⟩
 case rest =>
  obtain ⟨g, rfl, HG0, HB3⟩ := hcut
  replace HB3 : Hid (Below U.heap.size U wc) := HB2.out.trans (HB3.out.mono HB2.out.size)
  have hz3 := (HY.out wc HB3.out).2.2.2.2.2.2
  have k0 : wc.cell? ⟨w.heap.size, 0, none⟩ = some (.int .i64 next) := (HY.out wc HB3.out).1 0
  have k1 : wc.cell? ⟨w.heap.size, 1, none⟩ = some (.slice ua L.length uc) := (HY.out wc HB3.out).1 1
  clear HB2
  go_wp2_with fail
  clear k0 k1
  refine (toVol_any next L _ w.heap.size wc (by omega) (HY.out wc HB3.out).2.2.1 HL.out HNL.out).mono ?_
  rintro e w4 ⟨a0, c0, M2, rfl, o0, e0, b0⟩
  have HO0 := Hid.intro o0
  have HE0 := Hid.intro e0
  have HWM : Hid (∀ p ∈ M2, NdW p.n) := fun p hp => by
   have h1 : p.n ∈ M2.map Np.n := List.mem_map_of_mem hp
   rw [e0] at h1
   obtain ⟨p', hp', e⟩ := List.mem_map.1 h1
   rw [← e]
   exact HW.out p' hp'
  replace HG0 := Hid.intro (HG0.out.kept b0)
  have HB4 := Hid.intro (HB3.out.trans (b0.mono HB3.out.size))
  clear o0 e0 b0 HB3
  go_upto_region 12 with fail
  obtain ⟨X0, hX, bX, zX, kX, fX⟩ := boxed w4 #[.int .i64 next, .slice a0 L.length c0] 35
  try simp only [hX]
  have HX0 : Hid (Blk X0 w4.heap.size #[.int .i64 next, .slice a0 L.length c0]) := ⟨by omega, kX, fX⟩
  replace HO0 := Hid.intro (HO0.out.kept bX)
  replace HG0 := Hid.intro (HG0.out.kept bX)
  have HB5 := Hid.intro (HB4.out.trans (bX.mono HB4.out.size))
  have hz5 := (HY.out X0 HB5.out).2.2.2.2.2.2
  clear hX bX zX kX fX HB4
  generalize w4.heap.size = g0 at HX0 ⊢
  have d0 : X0.cell? ⟨w.heap.size + 1, 0, none⟩ = some (.int .i64 c.u) := (HY.out X0 HB5.out).2.1 0
  have d1 : X0.cell? ⟨w.heap.size + 1, 1, none⟩ = some (.int .i64 c.g) := (HY.out X0 HB5.out).2.1 1
  have d2 : X0.cell? ⟨w.heap.size + 1, 2, none⟩ = some (.slice ca c.l.length cc) := (HY.out X0 HB5.out).2.1 2
  go_wp2_with fail
  clear d0 d1 d2
  refine (toCred_any c _ w.heap.size X0 (by omega) (HY.out X0 HB5.out).2.2.2.1 HCL.out).mono ?_
  rintro e w5 ⟨v2, rfl, n2⟩
  have b5 := n2.bel
  obtain ⟨ka2, kc2, rfl⟩ := n2.slice
  have HK0 := Hid.intro n2.own
  replace HO0 := Hid.intro (HO0.out.kept b5)
  replace HG0 := Hid.intro (HG0.out.kept b5)
  replace HX0 := Hid.intro (HX0.out.kept b5)
  have HB6 := Hid.intro (HB5.out.trans (b5.mono HB5.out.size))
  clear n2 b5 HB5 hz5
  go_upto_region 13 with fail
  obtain ⟨X1, hX, bX, zX, kX, fX⟩ := boxed w5 #[.int .i64 c.u, .int .i64 c.g, .slice ka2 c.l.length kc2] 37
  try simp only [hX]
  have HX1 : Hid (Blk X1 w5.heap.size #[.int .i64 c.u, .int .i64 c.g, .slice ka2 c.l.length kc2]) := ⟨by omega, kX, fX⟩
  replace HO0 := Hid.intro (HO0.out.kept bX)
  replace HG0 := Hid.intro (HG0.out.kept bX)
  replace HX0 := Hid.intro (HX0.out.kept bX)
  replace HK0 := Hid.intro (HK0.out.kept bX)
  have HB7 := Hid.intro (HB6.out.trans (bX.mono HB6.out.size))
  have hz7 := (HY.out X1 HB7.out).2.2.2.2.2.2
  clear hX bX zX kX fX HB6
  generalize w5.heap.size = g1 at HX1 ⊢
  have k0 : X1.cell? ⟨g0, 0, none⟩ = some (.int .i64 next) := HX0.out.cell 0
  have k1 : X1.cell? ⟨g0, 1, none⟩ = some (.slice a0 L.length c0) := HX0.out.cell 1
  have d0 : X1.cell? ⟨g1, 0, none⟩ = some (.int .i64 c.u) := HX1.out.cell 0
  have d1 : X1.cell? ⟨g1, 1, none⟩ = some (.int .i64 c.g) := HX1.out.cell 1
  have d2 : X1.cell? ⟨g1, 2, none⟩ = some (.slice ka2 c.l.length kc2) := HX1.out.cell 2
  go_wp2_with fail
  clear k0 k1 d0 d1 d2
  refine (implWalk_any next M2 _ c _ path follow X1.heap.size E X1 (Nat.le_refl _) HO0.out.rowAll HWM.out HK0.out.rowAll (HY.out X1 HB7.out).2.2.2.2.1 (by omega) hp ⟨sd, sn, si, sc⟩ (by rw [HE0.out]; exact HAN.out.symm)).mono ?_
  simp only [spU, sVal]
  rintro e w6 ⟨rfl, b6⟩
  replace HO0 := Hid.intro (HO0.out.kept b6)
  replace HG0 := Hid.intro (HG0.out.kept b6)
  replace HX0 := Hid.intro (HX0.out.kept b6)
  replace HX1 := Hid.intro (HX1.out.kept b6)
  replace HK0 := Hid.intro (HK0.out.kept b6)
  have HB8 := Hid.intro (HB7.out.trans (b6.mono HB7.out.size))
  clear b6 HB7 hz7
  go_upto_region 14 with fail
  obtain ⟨X2, hX, bX, zX, kX, fX⟩ := boxed w6 #[.int .i64 sd, .string ⟨sn.toArray⟩, .int .i64 si, .int .i64 sc] 31
  try simp only [hX]
  have HX2 : Hid (Blk X2 w6.heap.size #[.int .i64 sd, .string ⟨sn.toArray⟩, .int .i64 si, .int .i64 sc]) := ⟨by omega, kX, fX⟩
  replace HO0 := Hid.intro (HO0.out.kept bX)
  replace HG0 := Hid.intro (HG0.out.kept bX)
  replace HX0 := Hid.intro (HX0.out.kept bX)
  replace HX1 := Hid.intro (HX1.out.kept bX)
  replace HK0 := Hid.intro (HK0.out.kept bX)
  have HB9 := Hid.intro (HB8.out.trans (bX.mono HB8.out.size))
  clear hX bX zX kX fX HB8
  generalize w6.heap.size = g2 at HX2 ⊢
  have A0 : X2.cell? ⟨g2, 0, none⟩ = some (.int .i64 sd) := HX2.out.cell 0
  have b0 : X2.cell? ⟨g, 0, none⟩ = some (.int .i64 sd) := HG0.out.cell 0
  have a1 : X2.cell? ⟨g2, 1, none⟩ = some (.string ⟨sn.toArray⟩) := HX2.out.cell 1
  have b1 : X2.cell? ⟨g, 1, none⟩ = some (.string ⟨sn.toArray⟩) := HG0.out.cell 1
  have a2 : X2.cell? ⟨g2, 2, none⟩ = some (.int .i64 si) := HX2.out.cell 2
  have b2 : X2.cell? ⟨g, 2, none⟩ = some (.int .i64 si) := HG0.out.cell 2
  have a3 : X2.cell? ⟨g2, 3, none⟩ = some (.int .i64 sc) := HX2.out.cell 3
  have b3 : X2.cell? ⟨g, 3, none⟩ = some (.int .i64 sc) := HG0.out.cell 3
  go_wp2_with fail
  clear A0 a1 a2 a3 b0 b1 b2 b3
  refine (eqSpot_any sd ⟨sn.toArray⟩ si sc X2).mono ?_
  rintro e w7 ⟨rfl, b7⟩
  replace HO0 := Hid.intro (HO0.out.kept b7)
  replace HX0 := Hid.intro (HX0.out.kept b7)
  replace HX1 := Hid.intro (HX1.out.kept b7)
  replace HK0 := Hid.intro (HK0.out.kept b7)
  have HBA := Hid.intro (HB9.out.trans (b7.mono HB9.out.size))
  clear b7 HB9 HG0 HX2
  go_upto_region 16 with fail
  have hz8 := (HY.out w7 HBA.out).2.2.2.2.2.2
  have HZ : Hid (∀ y, Below w7.heap.size w7 y → Below U.heap.size U y) := fun y hy => HBA.out.trans (hy.mono HBA.out.size)
  refine wp_region_held_drew (S := fun y => Below w7.heap.size w7 y) (by kernel_rfl) (Below.refl _ _).drew (fun hHeld => ?_)
  have HD : Hid (Below w7.heap.size w7 w7.drew) := (Below.refl _ _).drew
  generalize w7.drew = D at hHeld HD ⊢
  refine tkk 0 47 (v := ?_) ?_ ?_
  rotate_left 1
  ·intro y hSw
   have x0 : y.cell? ⟨g0, 0, none⟩ = some (.int .i64 next) := (HX0.out.kept hSw).cell 0
   have x1 : y.cell? ⟨g0, 1, none⟩ = some (.slice a0 L.length c0) := (HX0.out.kept hSw).cell 1
   go_simp <;> with_reducible rfl
  simp only [Act.put, List.setIfInBounds_toArray]
  try simp only [List.set_cons_succ]
  try simp only [List.set_cons_zero]
  refine tkk 1 48 (v := ?_) ?_ ?_
  rotate_left 1
  ·intro y hSw
   have k0 : y.cell? ⟨w.heap.size, 0, none⟩ = some (.int .i64 next) := (HY.out y (HZ.out y hSw)).1 0
   have k1 : y.cell? ⟨w.heap.size, 1, none⟩ = some (.slice ua L.length uc) := (HY.out y (HZ.out y hSw)).1 1
   go_simp <;> with_reducible rfl
  simp only [Act.put, List.setIfInBounds_toArray]
  try simp only [List.set_cons_succ]
  try simp only [List.set_cons_zero]
  refine wpAnyH_ready (rs := [2]) (by kernel_rfl) (by simp) ?_
  refine (AllReadyH.cons rfl (fun KK hKK => ?_) AllReadyH.nil)
  go_simp
  refine (toVol_any next L _ w.heap.size D (by have := HD.out.size; omega) (HY.out D (HZ.out D HD.out)).2.2.1 HL.out HNL.out).mono ?_
  rintro e w8 ⟨a3, c3, M3, rfl, o3, e3, b3⟩
  have hO3 := (HO0.out.kept HD.out).kept b3
  replace HD := Hid.intro (HD.out.trans (b3.mono HD.out.size))
  go_simp
  refine hKK.out _ _ HD.out (fun hHeld2 => ?_)
  clear hKK KK hHeld
  have hHeld := hHeld2
  clear hHeld2
  refine wpAnyH_ready (rs := [3]) (by kernel_rfl) (by simp) ?_
  refine (AllReadyH.cons rfl (fun KK hKK => ?_) AllReadyH.nil)
  go_simp
  refine (eqVol_any next M2 M3 _ _ w8.heap.size w8 (Nat.le_refl _) hO3.rowAll o3.rowAll (by rw [HE0.out, e3])).mono ?_
  rintro e w9 ⟨rfl, b9⟩
  clear hO3 o3 e3 b3
  replace HD := Hid.intro (HD.out.trans (b9.mono HD.out.size))
  clear b9
  go_simp
  refine hKK.out _ _ HD.out (fun hHeld2 => ?_)
  clear hKK KK hHeld
  have hHeld := hHeld2
  clear hHeld2
  refine tkk 4 51 (v := ?_) ?_ ?_
  rotate_left 1
  ·intro y hSw
   go_simp <;> with_reducible rfl
  simp only [Act.put, List.setIfInBounds_toArray]
  try simp only [List.set_cons_succ]
  try simp only [List.set_cons_zero]
  refine wpAnyH_done (by kernel_rfl) ?_ _
  clear hHeld
  replace HX1 := Hid.intro (HX1.out.kept HD.out)
  replace HK0 := Hid.intro (HK0.out.kept HD.out)
  replace HBA := Hid.intro (HBA.out.trans (HD.out.mono HBA.out.size))
  clear HD HZ HO0 HX0 hz8
  go_upto_region 18 with fail
  have hz8 := (HY.out w9 HBA.out).2.2.2.2.2.2
  have HZ : Hid (∀ y, Below w9.heap.size w9 y → Below U.heap.size U y) := fun y hy => HBA.out.trans (hy.mono HBA.out.size)
  refine wp_region_held_drew (S := fun y => Below w9.heap.size w9 y) (by kernel_rfl) (Below.refl _ _).drew (fun hHeld => ?_)
  have HD : Hid (Below w9.heap.size w9 w9.drew) := (Below.refl _ _).drew
  generalize w9.drew = D at hHeld HD ⊢
  refine tkk 0 52 (v := ?_) ?_ ?_
  rotate_left 1
  ·intro y hSw
   have x0 : y.cell? ⟨g1, 0, none⟩ = some (.int .i64 c.u) := (HX1.out.kept hSw).cell 0
   have x1 : y.cell? ⟨g1, 1, none⟩ = some (.int .i64 c.g) := (HX1.out.kept hSw).cell 1
   have x2 : y.cell? ⟨g1, 2, none⟩ = some (.slice ka2 c.l.length kc2) := (HX1.out.kept hSw).cell 2
   go_simp <;> with_reducible rfl
  simp only [Act.put, List.setIfInBounds_toArray]
  try simp only [List.set_cons_succ]
  try simp only [List.set_cons_zero]
  refine tkk 1 53 (v := ?_) ?_ ?_
  rotate_left 1
  ·intro y hSw
   have d0 : y.cell? ⟨w.heap.size + 1, 0, none⟩ = some (.int .i64 c.u) := (HY.out y (HZ.out y hSw)).2.1 0
   have d1 : y.cell? ⟨w.heap.size + 1, 1, none⟩ = some (.int .i64 c.g) := (HY.out y (HZ.out y hSw)).2.1 1
   have d2 : y.cell? ⟨w.heap.size + 1, 2, none⟩ = some (.slice ca c.l.length cc) := (HY.out y (HZ.out y hSw)).2.1 2
   go_simp <;> with_reducible rfl
  simp only [Act.put, List.setIfInBounds_toArray]
  try simp only [List.set_cons_succ]
  try simp only [List.set_cons_zero]
  refine wpAnyH_ready (rs := [2]) (by kernel_rfl) (by simp) ?_
  refine (AllReadyH.cons rfl (fun KK hKK => ?_) AllReadyH.nil)
  go_simp
  refine (toCred_any c _ w.heap.size D (by have := HD.out.size; omega) (HY.out D (HZ.out D HD.out)).2.2.2.1 HCL.out).mono ?_
  rintro e wA ⟨v3, rfl, n3⟩
  have b3 := n3.bel
  obtain ⟨ka3, kc3, rfl⟩ := n3.slice
  have hK3 := (HK0.out.kept HD.out).kept b3
  replace HD := Hid.intro (HD.out.trans (b3.mono HD.out.size))
  go_simp
  refine hKK.out _ _ HD.out (fun hHeld2 => ?_)
  clear hKK KK hHeld
  have hHeld := hHeld2
  clear hHeld2
  refine wpAnyH_ready (rs := [3]) (by kernel_rfl) (by simp) ?_
  refine (AllReadyH.cons rfl (fun KK hKK => ?_) AllReadyH.nil)
  go_simp
  refine (eqCred_any c _ _ wA.heap.size wA (Nat.le_refl _) hK3.rowAll n3.own.rowAll).mono ?_
  rintro e wB ⟨rfl, b9⟩
  clear hK3 n3 b3
  replace HD := Hid.intro (HD.out.trans (b9.mono HD.out.size))
  clear b9
  go_simp
  refine hKK.out _ _ HD.out (fun hHeld2 => ?_)
  clear hKK KK hHeld
  have hHeld := hHeld2
  clear hHeld2
  refine tkk 4 56 (v := ?_) ?_ ?_
  rotate_left 1
  ·intro y hSw
   go_simp <;> with_reducible rfl
  simp only [Act.put, List.setIfInBounds_toArray]
  try simp only [List.set_cons_succ]
  try simp only [List.set_cons_zero]
  refine wpAnyH_done (by kernel_rfl) ?_ _
  clear hHeld
  have HBE := Hid.intro (HY.out wB (HZ.out wB HD.out)).2.2.2.2.2.1
  go_wp2_with fail
  go_ret
  exact ⟨rfl, HBE.out⟩
end Go.Proofs.YtmkegmndcbpblaaGreatDoor
