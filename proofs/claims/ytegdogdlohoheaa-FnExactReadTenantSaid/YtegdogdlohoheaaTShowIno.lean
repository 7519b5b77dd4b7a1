/- What is shown of an inode; the program's showInode. -/
import Derived.Test.YtegdogdlohoheaaTCurP
import Derived.Test.YtegdogdlohoheaaTCurVo
import Derived.Deep.Cut
namespace Go.Proofs.Ytegdogdlohoheaa
open Go.RowKit
set_option linter.unusedVariables false
theorem ba_app (a b : ByteArray) : (a ++ b).data.toList = a.data.toList ++ b.data.toList := by
 rw [ByteArray.data_append, Array.toList_append]
theorem varS_list (n : Nat) : (varS n).data.toList = varL n := rfl
theorem piece_toList (s : ByteArray) : (piece s).data.toList = varL s.size ++ s.data.toList := by rw [piece, ba_app, varS_list]
def nmL (e : Di) : List UInt8 := varL e.nm.size ++ e.nm.data.toList ++ varL e.id.toNat
def nmsL (l : List Di) : List UInt8 := l.flatMap nmL
/-- What is shown of an inode. -/
def shN (n : Nd) : List UInt8 := varsL [n.id.toNat, n.kind.toNat, n.mode.toNat, n.uid.toNat, n.gid.toNat, n.maxb.toNat, n.maxi.toNat] ++ (varL n.data.size ++ n.data.data.toList) ++ varL n.names.length ++ nmsL n.names
/-- The bounds of an inode that is right. -/
structure NdB (n : Nd) : Prop where
 id : 0 ≤ n.id ∧ n.id ≤ 100000
 kind : 0 ≤ n.kind ∧ n.kind ≤ 3
 mode : 0 ≤ n.mode ∧ n.mode ≤ 2047
 uid : 0 ≤ n.uid ∧ n.uid ≤ 1000
 gid : 0 ≤ n.gid ∧ n.gid ≤ 1000
 maxb : 0 ≤ n.maxb ∧ n.maxb ≤ 400
 maxi : 0 ≤ n.maxi ∧ n.maxi ≤ 24
 data : n.data.size ≤ 64
 len : n.names.length ≤ 12
 nms : ∀ j (h : j < n.names.length), n.names[j].nm.size ≤ 8 ∧ 0 ≤ n.names[j].id ∧ n.names[j].id ≤ 100000
theorem nmsL_snoc (L : List Di) (j : Nat) (h : j < L.length) : nmsL (L.take j) ++ nmL L[j] = nmsL (L.take (j + 1)) := by
 rw [List.take_succ_eq_append_getElem h]
 unfold nmsL
 rw [List.flatMap_append]
 congr 1
 simp only [List.flatMap_cons, List.flatMap_nil, List.append_nil]
theorem nmsL_le (L : List Di) (h : ∀ j (h : j < L.length), L[j].nm.size ≤ 8) : (nmsL L).length ≤ 22 * L.length := by
 induction L with
 | nil => simp [nmsL]
 | cons a L ih =>
  have h0 := h 0 (by simp)
  have h1 := ih (fun j hj => by have := h (j + 1) (by simpa using hj); simpa using this)
  have e1 := varL_le a.nm.size
  have e2 := varL_le a.id.toNat
  have e3 : a.nm.data.toList.length = a.nm.size := by simp
  simp only [List.getElem_cons_zero] at h0
  simp only [nmsL, List.flatMap_cons, List.length_append, List.length_cons, nmL] at h1 ⊢
  omega
theorem shN_le {n : Nd} (h : NdB n) : (shN n).length ≤ 400 := by
 have h1 := varsL_le [n.id.toNat, n.kind.toNat, n.mode.toNat, n.uid.toNat, n.gid.toNat, n.maxb.toNat, n.maxi.toNat]
 have h2 := varL_le n.data.size
 have h3 := varL_le n.names.length
 have h4 := nmsL_le n.names (fun j hj => (h.nms j hj).1)
 have h5 := h.data
 have h6 := h.len
 have h7 : n.data.data.toList.length = n.data.size := by simp
 simp only [List.length_cons, List.length_nil] at h1
 simp only [shN, List.length_append]
 omega
theorem seven_cells {w : World} {g : Nat} {a b c d e f k : Nat} (hc : ∀ o, w.cell? ⟨g, o, none⟩ = #[Value.int .i64 (a : Nat), .int .i64 (b : Nat), .int .i64 (c : Nat), .int .i64 (d : Nat), .int .i64 (e : Nat), .int .i64 (f : Nat), .int .i64 (k : Nat)][o]?) (j : Nat) (h : j < [a, b, c, d, e, f, k].length) : w.cell? ⟨g, 0 + j, none⟩ = some (.int .i64 ([a, b, c, d, e, f, k][j] : Nat)) := by
 rw [Nat.zero_add, hc]
 match j, h with
 | 0, _ => rfl
 | 1, _ => rfl
 | 2, _ => rfl
 | 3, _ => rfl
 | 4, _ => rfl
 | 5, _ => rfl
 | 6, _ => rfl
theorem seven_at {a b c d e f k : Nat} (p : Nat → Prop) (h0 : p a) (h1 : p b) (h2 : p c) (h3 : p d) (h4 : p e) (h5 : p f) (h6 : p k) (j : Nat) (h : j < [a, b, c, d, e, f, k].length) : p [a, b, c, d, e, f, k][j] := by
 match j, h with
 | 0, _ => exact h0
 | 1, _ => exact h1
 | 2, _ => exact h2
 | 3, _ => exact h3
 | 4, _ => exact h4
 | 5, _ => exact h5
 | 6, _ => exact h6
theorem vars7_any (g : Nat) (w : World) (a b c d e f k : Nat) (hg : g < w.heap.size) (h0 : a ≤ 100000) (h1 : b ≤ 100000) (h2 : c ≤ 100000) (h3 : d ≤ 100000) (h4 : e ≤ 100000) (h5 : f ≤ 100000) (h6 : k ≤ 100000) (hc : ∀ o, w.cell? ⟨g, o, none⟩ = #[Value.int .i64 (a : Nat), .int .i64 (b : Nat), .int .i64 (c : Nat), .int .i64 (d : Nat), .int .i64 (e : Nat), .int .i64 (f : Nat), .int .i64 (k : Nat)][o]?) :
  Calls Try.prog 89 #[.slice (some ⟨g, 0, none⟩) 7 7] w fun e' w' => e' = .returned (.string ⟨(varsL [a, b, c, d, e, f, k]).toArray⟩) ∧ Below w.heap.size w w' := by
 have hx : ∀ j (h : j < [a, b, c, d, e, f, k].length), [a, b, c, d, e, f, k][j] ≤ 562949953421311 := fun j h => by
  have := seven_at (fun v => v ≤ 100000) h0 h1 h2 h3 h4 h5 h6 j h
  have h2 : [a, b, c, d, e, f, k][j] ≤ 100000 := this
  omega
 have hcc : ∀ j (h : j < [a, b, c, d, e, f, k].length), w.cell? ⟨g, 0 + j, none⟩ = some (.int .i64 ([a, b, c, d, e, f, k][j] : Nat)) := fun j h => seven_cells hc j h
 exact vars_any g 0 7 [a, b, c, d, e, f, k] w (by simp) hg hx (by simp) hcc
set_option maxRecDepth 100000 in
set_option maxHeartbeats 4000000 in
theorem showInode_any (n : Nd) (v : Value) (N : Nat) (w : World) (hN : N ≤ w.heap.size) (hr : Row diE w N v n.names) (hn : NdB n) :
  Calls Try.prog 112 #[ndV n v] w fun e w' => e = .returned (.string ⟨(shN n).toArray⟩) ∧ Below w.heap.size w w' := by
 have hsh : shN n = varsL [n.id.toNat, n.kind.toNat, n.mode.toNat, n.uid.toNat, n.gid.toNat, n.maxb.toNat, n.maxi.toNat] ++ (varL n.data.size ++ n.data.data.toList) ++ varL n.names.length ++ nmsL n.names := rfl
 obtain ⟨id, kind, mode, uid, gid, data, names, maxb, maxi⟩ := n
 obtain ⟨⟨a0, a1⟩, ⟨b0, b1⟩, ⟨c0, c1⟩, ⟨d0, d1⟩, ⟨e0, e1⟩, ⟨f0, f1⟩, ⟨g0, g1⟩, hd, hlen, hnm⟩ := hn
 simp only at a0 a1 b0 b1 c0 c1 d0 d1 e0 e1 f0 f1 g0 g1 hd hlen hnm hr hsh
 obtain ⟨id, rfl⟩ := Int.eq_ofNat_of_zero_le a0
 obtain ⟨kind, rfl⟩ := Int.eq_ofNat_of_zero_le b0
 obtain ⟨mode, rfl⟩ := Int.eq_ofNat_of_zero_le c0
 obtain ⟨uid, rfl⟩ := Int.eq_ofNat_of_zero_le d0
 obtain ⟨gid, rfl⟩ := Int.eq_ofNat_of_zero_le e0
 obtain ⟨maxb, rfl⟩ := Int.eq_ofNat_of_zero_le f0
 obtain ⟨maxi, rfl⟩ := Int.eq_ofNat_of_zero_le g0
 simp only [Int.toNat_natCast] at hsh
 have HSH := Hid.intro hsh
 clear hsh a0 b0 c0 d0 e0 f0 g0
 have HNM := Hid.intro hnm
 obtain ⟨a, cap, rfl, hl, hm, hcells⟩ := diE_cell hr
 have HCC := Hid.intro hcells
 clear hr hcells hnm
 go_enter Try.func112, Try.ntmps112
 go_upto_region 2 with fail
 obtain ⟨W, hW, bW, zW, cW, fW⟩ := boxed w #[.int .i64 (id : Nat), .int .i64 (kind : Nat), .int .i64 (mode : Nat), .int .i64 (uid : Nat), .int .i64 (gid : Nat), .string data, .slice a names.length cap, .int .i64 (maxb : Nat), .int .i64 (maxi : Nat)] 96
 simp only [hW]
 have HL := Hid.intro (bld_fresh W)
 have BB : Below W.heap.size W (W.alloc (.cells #[.pointer none, .slice none 0 0] 86)) := one_below _ _
 generalize W.alloc (.cells #[.pointer none, .slice none 0 0] 86) = U at HL BB ⊢
 rw [zW] at HL BB
 have HX := Hid.intro (keepC BB (by omega) cW)
 clear hW cW fW
 have hp := piece_le data
 have hpl := varL_le data.size
 have hpd : (piece data).data.toList.length = (piece data).size := by simp
 have hpn := varL_le names.length
 have hvl : (varsL [id, kind, mode, uid, gid, maxb, maxi]).length ≤ 49 := varsL_le [id, kind, mode, uid, gid, maxb, maxi]
 have hvn := varS_le names.length
 have k0 : U.cell? ⟨w.heap.size, 0, none⟩ = some (.int .i64 (id : Nat)) := HX.out 0
 have k1 : U.cell? ⟨w.heap.size, 1, none⟩ = some (.int .i64 (kind : Nat)) := HX.out 1
 have k2 : U.cell? ⟨w.heap.size, 2, none⟩ = some (.int .i64 (mode : Nat)) := HX.out 2
 have k3 : U.cell? ⟨w.heap.size, 3, none⟩ = some (.int .i64 (uid : Nat)) := HX.out 3
 have k4 : U.cell? ⟨w.heap.size, 4, none⟩ = some (.int .i64 (gid : Nat)) := HX.out 4
 have k7 : U.cell? ⟨w.heap.size, 7, none⟩ = some (.int .i64 (maxb : Nat)) := HX.out 7
 have k8 : U.cell? ⟨w.heap.size, 8, none⟩ = some (.int .i64 (maxi : Nat)) := HX.out 8
 go_wp2_with fail
 clear k0 k1 k2 k3 k4 k7 k8
 obtain ⟨Z, hZ, bZ, zZ, cZ, fZ⟩ := boxed U #[Value.int .i64 (id : Nat), .int .i64 (kind : Nat), .int .i64 (mode : Nat), .int .i64 (uid : Nat), .int .i64 (gid : Nat), .int .i64 (maxb : Nat), .int .i64 (maxi : Nat)] 3
 simp only [hZ]
 replace HX := Hid.intro (keepC bZ (by have := BB.size; omega) HX.out)
 replace HL := Hid.intro (bld_kept HL.out bZ)
 replace BB := BB.trans (bZ.mono (by have := BB.size; omega))
 clear hZ bZ fZ
 refine (vars7_any U.heap.size Z id kind mode uid gid maxb maxi (by omega) (by omega) (by omega) (by omega) (by omega) (by omega) (by omega) (by omega) cZ).mono ?_
 rintro e w1 ⟨rfl, b2⟩
 replace HX := Hid.intro (keepC b2 (by have := BB.size; omega) HX.out)
 replace HL := Hid.intro (bld_kept HL.out b2)
 replace BB := BB.trans (b2.mono (by have := BB.size; omega))
 clear b2
 clear cZ zZ
 go_wp2_with fail
 refine (bldWrite_any (w.heap.size + 1) (w.heap.size + 1) [] ⟨(varsL [id, kind, mode, uid, gid, maxb, maxi]).toArray⟩ _ HL.out (by have e : (⟨(varsL [id, kind, mode, uid, gid, maxb, maxi]).toArray⟩ : ByteArray).size = (varsL [id, kind, mode, uid, gid, maxb, maxi]).length := rfl; rw [e]; simp only [List.length_nil]; omega) (by have := BB.size; omega)).mono ?_
 rintro e w2 ⟨rfl, hl2, b2⟩
 replace HX := Hid.intro (keepC b2 (by omega) HX.out)
 replace HL := Hid.intro hl2
 replace BB := BB.trans b2
 clear hl2 b2
 have k5 : w2.cell? ⟨w.heap.size, 5, none⟩ = some (.string data) := HX.out 5
 go_wp2_with fail
 clear k5
 refine (implPiece_any data _ (by omega)).mono ?_
 rintro e w3 ⟨rfl, b2⟩
 replace HX := Hid.intro (keepC b2 (by have := BB.size; omega) HX.out)
 replace HL := Hid.intro (bld_kept HL.out b2)
 replace BB := BB.trans (b2.mono (by have := BB.size; omega))
 clear b2
 go_wp2_with fail
 refine (bldWrite_any (w.heap.size + 1) (w.heap.size + 1) _ _ _ HL.out (by simp only [List.length_append, List.length_nil]; omega) (by have := BB.size; omega)).mono ?_
 rintro e w4 ⟨rfl, hl2, b2⟩
 replace HX := Hid.intro (keepC b2 (by omega) HX.out)
 replace HL := Hid.intro hl2
 replace BB := BB.trans b2
 clear hl2 b2
 have k6 : w4.cell? ⟨w.heap.size, 6, none⟩ = some (.slice a names.length cap) := HX.out 6
 go_wp2_with fail
 clear k6
 refine (implVar_yes names.length _ (by omega)).mono ?_
 rintro e w5 ⟨rfl, b2⟩
 replace HX := Hid.intro (keepC b2 (by have := BB.size; omega) HX.out)
 replace HL := Hid.intro (bld_kept HL.out b2)
 replace BB := BB.trans (b2.mono (by have := BB.size; omega))
 clear b2
 go_wp2_with fail
 refine (bldWrite_any (w.heap.size + 1) (w.heap.size + 1) _ _ _ HL.out (by simp only [List.length_append, List.length_nil]; omega) (by have := BB.size; omega)).mono ?_
 rintro e w6 ⟨rfl, hl2, b2⟩
 replace HX := Hid.intro (keepC b2 (by omega) HX.out)
 replace HL := Hid.intro hl2
 replace BB := BB.trans b2
 clear hl2 b2
 simp only [List.nil_append, piece_toList, varS_list] at HL
 have HP : Hid (varsL [id, kind, mode, uid, gid, maxb, maxi] ++ (varL data.size ++ data.data.toList) ++ varL names.length = varsL [id, kind, mode, uid, gid, maxb, maxi] ++ (varL data.size ++ data.data.toList) ++ varL names.length) := rfl
 have hPl : (varsL [id, kind, mode, uid, gid, maxb, maxi] ++ (varL data.size ++ data.data.toList) ++ varL names.length).length ≤ 200 := by
  have h7 : data.data.toList.length = data.size := by simp
  simp only [List.length_append]; omega
 generalize varsL [id, kind, mode, uid, gid, maxb, maxi] ++ (varL data.size ++ data.data.toList) ++ varL names.length = P at HL HSH HP hPl
 clear HP hp hpl hpn hvl hvn hpd
 have k6 : w6.cell? ⟨w.heap.size, 6, none⟩ = some (.slice a names.length cap) := HX.out 6
 have HB6 := Hid.intro BB
 have hz6 := BB.size
 clear HX BB
 go_wp2
 clear k6
 go_loopw [35] (fun i wr => ∃ j : Nat, i = .int .i64 j ∧ j ≤ names.length ∧ Hid (BldAt (w.heap.size + 1) (w.heap.size + 1) (P ++ nmsL (names.take j)) wr) ∧ Hid (Below (w.heap.size + 1) W wr)) (fun i _ => names.length - (intOf i).toNat)
 case atStart => exact ⟨0, rfl, Nat.zero_le _, by unfold Hid; simpa [nmsL] using HL.out, HB6⟩
 case round =>
  obtain ⟨j, rfl, hj, HL, BB⟩ := hrel
  by_cases hlt : j < names.length
  ·obtain ⟨b, off, rfl, hbN, hcells⟩ := HCC.out (fun h => by rw [h] at hlt; simp at hlt)
   have HBW : Hid (Below w.heap.size w wr) := bW.trans (BB.out.mono (by omega))
   have hc := hcells j hlt
   have q0 := atCell HBW.out hc.1 (by omega)
   have q1 := atCell HBW.out hc.2 (by omega)
   have hx := HNM.out j hlt
   have hst := nmsL_snoc names j hlt
   have htk := nmsL_le (names.take j) (fun i hi => by
    have hi2 : i < names.length := by simp at hi; omega
    have := (HNM.out i hi2).1
    simpa using this)
   have htl : (names.take j).length ≤ 12 := Nat.le_trans (List.length_take_le _ _) (by omega)
   generalize names[j] = d at q0 q1 hx hst
   obtain ⟨nm, di⟩ := d
   simp only at q0 q1 hx
   obtain ⟨hx1, hx2, hx3⟩ := hx
   obtain ⟨x, rfl⟩ := Int.eq_ofNat_of_zero_le hx2
   have HS : Hid (nmsL (names.take j) ++ (varL nm.size ++ nm.data.toList ++ varL x) = nmsL (names.take (j + 1))) := hst
   have hjl : (j : Int) < (names.length : Int) := by omega
   have i1 : (0 : Int) ≤ (j : Int) ∧ (j : Int) < (names.length : Int) := by omega
   have hp := piece_le nm
   have hpd : (piece nm).data.toList.length = (piece nm).size := by simp
   have hvx := varS_le x
   have hvl := varL_le nm.size
   have hzr := BB.out.size
   clear hst hc hcells hx2
   go_upto_region 8 with fail
   obtain ⟨Y, hY, bY, zY, cY, fY⟩ := boxed wr #[.string nm, .int .i64 (x : Nat)] 130
   simp only [hY]
   have HLr := HL
   have HY : Hid (Y.heap[wr.heap.size]? = some (.cells #[.string nm, .int .i64 (x : Nat)] 130 (0, 0))) := by
    unfold Hid
    rw [← hY]
    exact heap_alloc_new wr _
   have hbl : w.heap.size + 1 < wr.heap.size := by
    rcases HLr.out with h | h <;> exact h.lt
   have hne : wr.heap.size ≠ w.heap.size + 1 := by omega
   replace HL := Hid.intro (bld_kept HL.out bY)
   replace BB := Hid.intro (BB.out.trans (bY.mono (by omega)))
   clear hY bY cY fY q0 q1 HLr
   have c0 : Y.cell? ⟨wr.heap.size, 0, none⟩ = some (.string nm) := by rw [Lib.cell_of_heap HY.out]; rfl
   go_wp2_with fail
   clear c0
   refine (implPiece_any nm _ (by omega)).mono ?_
   rintro e y1 ⟨rfl, b2⟩
   have hyl2 := b2.size
   replace HL := Hid.intro (bld_kept HL.out b2)
   replace HY := Hid.intro ((b2.block _ (by omega)).trans HY.out)
   replace BB := Hid.intro (BB.out.trans (b2.mono (by omega)))
   clear b2
   go_wp2_with fail
   refine (bldWriteK_any (w.heap.size + 1) (w.heap.size + 1) _ (piece nm) _ HL.out (by simp only [List.length_append]; omega) (by have := BB.out.size; omega)).mono ?_
   rintro e y2 ⟨rfl, hl2, b2, hk8⟩
   replace HL := Hid.intro hl2
   replace HY := Hid.intro (hk8 _ _ _ _ hne (by decide) HY.out)
   have hyl3 := b2.size
   clear hk8
   replace BB := Hid.intro (BB.out.trans b2)
   clear hl2 b2
   have c1 : y2.cell? ⟨wr.heap.size, 1, none⟩ = some (.int .i64 (x : Nat)) := by rw [Lib.cell_of_heap HY.out]; rfl
   go_wp2_with fail
   clear c1
   refine (implVar_yes x _ (by omega)).mono ?_
   rintro e y3 ⟨rfl, b2⟩
   have hyl2 := b2.size
   replace HL := Hid.intro (bld_kept HL.out b2)
   replace HY := Hid.intro ((b2.block _ (by omega)).trans HY.out)
   replace BB := Hid.intro (BB.out.trans (b2.mono (by omega)))
   clear b2
   go_wp2_with fail
   refine (bldWriteK_any (w.heap.size + 1) (w.heap.size + 1) _ (varS x) _ HL.out (by simp only [List.length_append]; omega) (by have := BB.out.size; omega)).mono ?_
   rintro e y4 ⟨rfl, hl2, b2, hk8⟩
   replace HL := Hid.intro hl2
   replace HY := Hid.intro (hk8 _ _ _ _ hne (by decide) HY.out)
   have hyl3 := b2.size
   clear hk8
   replace BB := Hid.intro (BB.out.trans b2)
   clear hl2 b2
   rw [piece_toList, varS_list] at HL
   have HL2 : Hid (BldAt (w.heap.size + 1) (w.heap.size + 1) (P ++ nmsL (names.take (j + 1))) y4) := by
    rw [← HS.out]
    unfold Hid
    simpa only [List.append_assoc] using HL.out
   clear HL HS HY
   go_wp2
   go_roundw
   case rel => exact ⟨j + 1, by go_num, by omega, HL2, BB⟩
   case measure => simp [intOf]; omega
  ·have hlt' : ¬ (j : Int) < (names.length : Int) := by omega
   have e1 : names.take j = names := List.take_of_length_le (by omega)
   rw [e1] at HL
   go_wp2_with fail
   refine (bldString_any (w.heap.size + 1) (w.heap.size + 1) (P ++ nmsL names) _ HL.out (by have := BB.out.size; omega)).mono ?_
   rintro e y ⟨rfl, b2⟩
   have B2 := bW.trans ((BB.out.trans b2).mono (by omega))
   go_wp2
   go_ret
   exact ⟨ret_str (by rw [HSH.out]), B2⟩
end Go.Proofs.Ytegdogdlohoheaa
