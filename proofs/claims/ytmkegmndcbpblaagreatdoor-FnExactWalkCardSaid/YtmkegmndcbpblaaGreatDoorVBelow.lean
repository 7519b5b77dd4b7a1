/- l4Below: what is below an inode, by sweeps. -/
import Derived.Test.YtmkegmndcbpblaaGreatDoorVSpecA
import Derived.Test.YtmkegmndcbpblaaGreatDoorVLawA
import Derived.Deep.CutBlock
namespace Go.Proofs.YtmkegmndcbpblaaGreatDoor
open Go.RowKit
set_option linter.unusedVariables false
def boolE : Enc Bool := ⟨1, fun x => [.bool x], false, fun _ => rfl, by decide, by simp [Value.oneCell']⟩
theorem infoB' : (Tryz.prog.info? 4).map (fun i => (i.zero, i.size, i.bytes)) = some (some (.bool false), 1, 1) := by kernel_rfl
theorem infoB : ∃ i, Tryz.prog.info? 4 = some i ∧ i.zero = some (.bool false) ∧ i.size = 1 ∧ i.bytes = 1 := info_parts infoB'
/-- What is below the inode of that number. -/
def belL (L : List Nd) (id : Int) : List Bool := match atN L id with | some a => belowB L a | none => List.replicate L.length false
theorem belL_some {L : List Nd} {id : Int} {a : Nat} (h : atN L id = some a) : belL L id = belowB L a := by simp [belL, h]
theorem belL_none {L : List Nd} {id : Int} (h : atN L id = none) : belL L id = List.replicate L.length false := by simp [belL, h]
theorem belL_len (L : List Nd) (id : Int) : (belL L id).length = L.length := by
 unfold belL
 split
 ·exact belowB_len _ _
 ·simp
theorem Own.atB {w : World} {base g cap n : Nat} {s : List Bool} (h : Own boolE 4 w base (.slice (some ⟨g, 0, none⟩) n cap) s) (j : Nat) (hj : j < s.length) : w.cell? ⟨g, j, none⟩ = some (.bool s[j]) := by
 have := h.at j hj 0 (by decide)
 simpa [boolE] using this
theorem Own.putB {w : World} {base g cap n j : Nat} {s : List Bool} (h : Own boolE 4 w base (.slice (some ⟨g, 0, none⟩) n cap) s) (hn : s.length = n) (hj : j < n) (x : Bool) :
  Own boolE 4 (w.setCell ⟨g, j, none⟩ (.bool x)) base (.slice (some ⟨g, 0, none⟩) n cap) (s.set j x) := by
 have := h.store hn hj x
 rw [show boolE.n = 1 from rfl, Nat.mul_one] at this
 exact this
/-- The two rows: what is in, what is open. -/
structure BlI (w : World) (g h n a : Nat) (s : List Bool) : Prop where
 lt : g < h
 i : Own boolE 4 w g (.slice (some ⟨g, 0, none⟩) n n) s
 o : Own boolE 4 w h (.slice (some ⟨h, 0, none⟩) n n) (s.set a true)
 len : s.length = n
theorem BlI.kept {w w' : World} {g h n a : Nat} {s : List Bool} (k : BlI w g h n a s) (hb : Below w.heap.size w w') : BlI w' g h n a s := ⟨k.lt, k.i.kept hb, k.o.kept hb, k.len⟩
theorem BlI.mark {w : World} {g h n a x : Nat} {s : List Bool} (k : BlI w g h n a s) (hx : x < n) : BlI ((w.setCell ⟨g, x, none⟩ (.bool true)).setCell ⟨h, x, none⟩ (.bool true)) g h n a (s.set x true) := by
 have hlt := k.lt
 refine ⟨hlt, ?_, ?_, by simp [k.len]⟩
 ·refine Own.only (S := fun k => k = h) (k.i.putB k.len hx true) (Only.setCell (S := fun k => k = h) (Only.refl _ _) rfl _) fun k hk e => ?_
  simp only [Value.ownBlock, Option.some.injEq] at hk
  omega
 ·have h1 : Own boolE 4 (w.setCell ⟨g, x, none⟩ (.bool true)) h (.slice (some ⟨h, 0, none⟩) n n) (s.set a true) :=
   Own.only (S := fun k => k = g) k.o (Only.setCell (S := fun k => k = g) (Only.refl _ _) rfl _) fun k hk e => by
    simp only [Value.ownBlock, Option.some.injEq] at hk
    omega
  have h2 := h1.putB (by simp [k.len]) hx true
  by_cases e : a = x
  ·subst e
   exact h2
  ·rw [List.set_comm _ _ e] at h2
   exact h2
theorem BlI.opn {w : World} {g h n a i : Nat} {s : List Bool} (k : BlI w g h n a s) (hi : i < n) : ∃ x : Bool, w.cell? ⟨h, i, none⟩ = some (.bool x) ∧ (x = true ↔ opB a s i) := by
 have hl : i < (s.set a true).length := by rw [List.length_set, k.len]; exact hi
 refine ⟨_, k.o.atB i hl, ?_⟩
 unfold opB isT
 rw [List.getElem_set]
 have hs : i < s.length := by rw [k.len]; exact hi
 by_cases e : a = i
 ·subst e; simp
 ·rw [if_neg e, List.getElem?_eq_getElem hs]
  simp [Ne.symm e]
theorem BlI.has {w : World} {g h n a x : Nat} {s : List Bool} (k : BlI w g h n a s) (hx : x < n) : (∃ u, w.cell? ⟨g, x, none⟩ = some u) ∧ (∃ u, w.cell? ⟨h, x, none⟩ = some u) ∧ (∀ o, w.frozen? ⟨g, o, none⟩ = false) ∧ (∀ o, w.frozen? ⟨h, o, none⟩ = false) ∧ g < w.heap.size ∧ h < w.heap.size :=
 ⟨⟨_, k.i.atB x (by rw [k.len]; exact hx)⟩, ⟨_, k.o.atB x (by rw [List.length_set, k.len]; exact hx)⟩, k.i.frozen k.len, k.o.frozen (by rw [List.length_set, k.len]), (k.i.lt _ rfl).2, (k.o.lt _ rfl).2⟩
theorem lookB_yes {L : List Nd} {a i : Nat} {s : List Bool} {n : Nd} (h : opB a s i) (hn : L[i]? = some n) : lookB L a s i = n.names.foldl (markB L) s := by
 unfold lookB; rw [if_pos h, hn]; rfl
theorem lookB_no {L : List Nd} {a i : Nat} {s : List Bool} (h : ¬ opB a s i) : lookB L a s i = s := by
 unfold lookB; rw [if_neg h]
theorem range_step {α : Type} (f : α → Nat → α) (s : α) (i : Nat) : (List.range (i + 1)).foldl f s = f ((List.range i).foldl f s) i := by rw [List.range_succ, List.foldl_append]; rfl
theorem names_step {L : List Nd} {s : List Bool} {nn : List Di} {j : Nat} (hj : j < nn.length) : (nn.take (j + 1)).foldl (markB L) s = markB L ((nn.take j).foldl (markB L) s) nn[j] := by rw [List.take_succ_eq_append_getElem hj, List.foldl_append]; rfl
theorem markB_yes {L : List Nd} {s : List Bool} {e : Di} {x : Nat} (h : atN L e.id = some x) : markB L s e = s.set x true := by simp [markB, h]
theorem markB_no {L : List Nd} {s : List Bool} {e : Di} (h : atN L e.id = none) : markB L s e = s := by simp [markB, h]
set_option maxRecDepth 100000 in
set_option maxHeartbeats 8000000 in
theorem l4Below_any (next : Int) (L : List Np) (u : Value) (N : Nat) (id : Int) (w : World) (hN : N ≤ w.heap.size) (hr : VolR w N u L) (hs : SmN L) :
  Calls Tryz.prog 28 #[volV next u, .int .i64 id] w fun e w' => ∃ v, e = .returned v ∧ New boolE 4 w w' v (belL (L.map Np.n) id) := by
 obtain ⟨i0, hi, hz0, hz1, hz2⟩ := infoB
 have HV := Hid.intro hr
 obtain ⟨a, cap, rfl, hl, hm, hcells⟩ := ndE_cell hr.row
 have HC := Hid.intro hcells
 have HM := Hid.intro hr.nms
 have hle := hs.1
 obtain ⟨LN, hLN⟩ : ∃ LN, L.map Np.n = LN := ⟨_, rfl⟩
 have hlen : LN.length = L.length := by rw [← hLN]; simp
 rw [hLN]
 have HLN := Hid.intro hLN
 clear hcells hr hs hLN
 go_enter Tryz.func28, Tryz.ntmps28
 go_upto_region 1 with fail
 obtain ⟨W, hW, bW, zW, cW, fW⟩ := boxed w #[.int .i64 next, .slice a L.length cap] 35
 try simp only [hW]
 have CW0 := Hid.intro cW
 clear hW fW
 go_upto_region 2 with (at_make; refine wpList_make_full _ rfl _ _ 66 rfl W.heap.size 4 i0 (.bool false) 1 Tryz.underlying66 hi hz0 hz1 .i64 .i64 _ _ L.length rfl rfl rfl rfl (by rw [hz2]; omega) (by unfold maxLen; omega) (Nat.le_refl _) ?_; intro w1 hown hgrow; have HO := Hid.intro hown; have HG := Hid.intro hgrow; clear hown hgrow)
 have O1 : Own boolE 4 w1 W.heap.size (.slice (some ⟨W.heap.size, 0, none⟩) L.length L.length) (List.replicate L.length false) := Own.mk HO.out (by simp) (boolE.rep (.bool false) rfl L.length)
 have B1 : Below W.heap.size W w1 := (grown_only HG.out).below (Nat.le_refl _) (fun k _ h => by cases h)
 have z1 : W.heap.size < w1.heap.size := (O1.lt _ rfl).2
 rw [zW] at O1
 have HO1 := Hid.intro O1
 replace cW := keepC B1 (by omega) cW
 clear O1 HO HG
 go_upto_region 3 with (at_make; refine wpList_make_full _ rfl _ _ 66 rfl w1.heap.size 4 i0 (.bool false) 1 Tryz.underlying66 hi hz0 hz1 .i64 .i64 _ _ L.length rfl rfl rfl rfl (by rw [hz2]; omega) (by unfold maxLen; omega) (Nat.le_refl _) ?_; intro w2 hown hgrow; have HO := Hid.intro hown; have HG := Hid.intro hgrow; clear hown hgrow)
 have O2 : Own boolE 4 w2 w1.heap.size (.slice (some ⟨w1.heap.size, 0, none⟩) L.length L.length) (List.replicate L.length false) := Own.mk HO.out (by simp) (boolE.rep (.bool false) rfl L.length)
 have B2 : Below w1.heap.size w1 w2 := (grown_only HG.out).below (Nat.le_refl _) (fun k _ h => by cases h)
 replace HO1 := Hid.intro (HO1.out.kept B2)
 have HO2 := Hid.intro O2
 have z2 : w1.heap.size < w2.heap.size := (O2.lt _ rfl).2
 replace cW := keepC B2 (by omega) cW
 have HB2 : Hid (Below w.heap.size w w2) := bW.trans ((B1.mono (by omega)).trans (B2.mono (by omega)))
 have HN2 : Hid (Below (w.heap.size + 1) W w2) := (B1.mono (by omega)).trans (B2.mono (by omega))
 clear O2 HO HG B2 B1 hi hz0 hz1 hz2
 go_wp2_with fail
 refine (l4At_any next L _ N id w2 (by omega) (HV.out.kept (HB2.out.mono hN))).mono ?_
 rintro e w3 ⟨rfl, b3⟩
 replace HO1 := Hid.intro (HO1.out.kept b3)
 replace HO2 := Hid.intro (HO2.out.kept b3)
 have z3 := b3.size
 replace cW := keepC b3 (by omega) cW
 replace HB2 := Hid.intro (HB2.out.trans (b3.mono (by omega)))
 replace HN2 := Hid.intro (HN2.out.trans (b3.mono (by omega)))
 clear b3
 rw [HLN.out]
 cases hat : atN LN id with
 | none =>
  have he := atI_none hat
  have HBL := Hid.intro (belL_none hat)
  simp only [he]
  clear he hat
  go_wp2
  go_ret
  refine ⟨_, rfl, ?_, HB2.out⟩
  rw [HBL.out, hlen]
  exact HO1.out.lower (by omega)
 | some a0 =>
  have he := atI_some hat
  have ha0 : a0 < L.length := by rw [← hlen]; exact atN_lt hat
  have HBL := Hid.intro (belL_some hat)
  simp only [he]
  clear he hat
  obtain ⟨y1, q1⟩ : ∃ y, w3.cell? ⟨w1.heap.size, a0, none⟩ = some y := ⟨_, HO2.out.atB a0 (by simpa using ha0)⟩
  have f1 := HO2.out.frozen (by simp)
  have hh3 : w1.heap.size < w3.heap.size := by omega
  have i1 : (0 : Int) ≤ (a0 : Int) ∧ (a0 : Int) < (L.length : Int) := by omega
  have hb0 : BlI (w3.setCell ⟨w1.heap.size, a0, none⟩ (.bool true)) (w.heap.size + 1) w1.heap.size L.length a0 (timesB LN a0 0) := by
   refine ⟨by omega, ?_, ?_, by simp [timesB, hlen]⟩
   ·refine Own.only (S := fun k => k = w1.heap.size) ?_ (Only.setCell (S := fun k => k = w1.heap.size) (Only.refl _ _) rfl _) fun k hk e => ?_
    ·rw [timesB, hlen]; exact HO1.out
    ·simp only [Value.ownBlock, Option.some.injEq] at hk
     omega
   ·rw [timesB, hlen]
    exact HO2.out.putB (by simp) ha0 true
  have HB0 := Hid.intro hb0
  have HBB : Hid (Below (w.heap.size + 1) W (w3.setCell ⟨w1.heap.size, a0, none⟩ (.bool true))) := HN2.out.setCell (by simp; omega) _
  clear hb0 HO1 HO2 HB2 HN2
  have hw1 : w.heap.size + 1 < w1.heap.size := by omega
  go_upto_region 7 with fail
  generalize w3.setCell ⟨w1.heap.size, a0, none⟩ (.bool true) = w4 at HB0 HBB ⊢
  clear q1 f1 hh3 cW z3 z2 z1
  have HCW : Hid (∀ y, Below (w.heap.size + 1) W y → ∀ o, y.cell? ⟨w.heap.size, o, none⟩ = #[.int .i64 next, .slice a L.length cap][o]?) := fun y hy => keepC hy (by omega) CW0.out
  have HAT : Hid (∀ (y : World) (id' : Int), N ≤ y.heap.size → VolR y N (.slice a L.length cap) L → Calls Tryz.prog 35 #[volV next (.slice a L.length cap), .int .i64 id'] y fun e w' => e = .returned (.int .i64 (atI LN id')) ∧ Below y.heap.size y w') := fun y id' h1 h2 => by
   rw [← HLN.out]
   exact l4At_any next L _ N id' y h1 h2
  go_wp2_with fail
  go_loopw [8] (fun k wr => ∃ (j : Nat), k = .int .i64 j ∧ j ≤ L.length ∧ Hid (BlI wr (w.heap.size + 1) w1.heap.size L.length a0 (timesB LN a0 j)) ∧ Hid (Below (w.heap.size + 1) W wr)) (fun k _ => L.length - (intOf k).toNat)
  case atStart => exact ⟨0, rfl, Nat.zero_le _, HB0, HBB⟩
  case round =>
   obtain ⟨k, rfl, hk, HK, HBK⟩ := hrel
   have cW := HCW.out wr HBK.out
   by_cases hlt : k < L.length
   ·have hkl : (k : Int) < (L.length : Int) := by omega
    obtain ⟨wo, rfl⟩ : ∃ wo : World, wo = wr := ⟨_, rfl⟩
    go_wp2_with fail
    clear cW
    go_loopw [9] (fun i wr => ∃ (j : Nat), i = .int .i64 j ∧ j ≤ L.length ∧ Hid (BlI wr (w.heap.size + 1) w1.heap.size L.length a0 ((List.range j).foldl (lookB LN a0) (timesB LN a0 k))) ∧ Hid (Below (w.heap.size + 1) W wr)) (fun i _ => L.length - (intOf i).toNat)
    case atStart => exact ⟨0, rfl, Nat.zero_le _, HK, HBK⟩
    case round =>
     obtain ⟨i, rfl, hi, HI, HBI⟩ := hrel
     have cW := HCW.out wr HBI.out
     by_cases hlt2 : i < L.length
     ·have hil : (i : Int) < (L.length : Int) := by omega
      have hi1 : (0 : Int) ≤ (i : Int) ∧ (i : Int) < (L.length : Int) := by omega
      obtain ⟨b, off, rfl, hbN, hcc⟩ := HC.out (by intro h; rw [h] at hlt2; simp at hlt2)
      have hc := hcc i hlt2
      have hrow := HM.out _ (List.getElem_mem hlt2)
      have hget : LN[i]? = some L[i].n := by rw [← HLN.out]; simp [List.getElem?_eq_getElem hlt2]
      generalize L[i] = ei at hc hrow hget
      obtain ⟨x, cx, hx⟩ := HI.out.opn hlt2
      have hst := range_step (lookB LN a0) (timesB LN a0 k) i
      generalize (List.range i).foldl (lookB LN a0) (timesB LN a0 k) = s at HI hx hst
      cases x with
      | false =>
       have hn2 : (List.range (i + 1)).foldl (lookB LN a0) (timesB LN a0 k) = s := by rw [hst, lookB_no fun h => by cases hx.2 h]
       have HN2 := Hid.intro hn2
       clear hst hx hn2 hc hcc hrow hget
       go_wp2
       go_roundw
       case rel => exact ⟨i + 1, by go_num, by omega, by rw [HN2.out]; exact HI, HBI⟩
       case measure => simp [intOf]; omega
      | true =>
       have hn2 : (List.range (i + 1)).foldl (lookB LN a0) (timesB LN a0 k) = ei.n.names.foldl (markB LN) s := by rw [hst, lookB_yes (hx.1 rfl) hget]
       have HN2 := Hid.intro hn2
       have HYW : Hid (∀ y, Below (w.heap.size + 1) W y → Below w.heap.size w y) := fun y hy => bW.trans (hy.mono (by omega))
       obtain ⟨a2, cap2, hv2, l2, m2, hdc⟩ := diE_cell hrow
       have HG6 : Hid (∀ y, Below (w.heap.size + 1) W y → y.cell? ⟨b, off + i * 9 + 6, none⟩ = some (.slice a2 ei.n.names.length cap2)) := fun y hy => by
        rw [← hv2]
        exact (hc.kept (HYW.out y hy) (show b < w.heap.size by omega)).c6
       have HD := Hid.intro hdc
       have g6 := HG6.out wr HBI.out
       obtain ⟨wi, rfl⟩ : ∃ wi : World, wi = wr := ⟨_, rfl⟩
       clear hst hx hn2 hc hcc hrow hget hv2 hdc
       generalize ei.n.names = nn at HN2 l2 HG6 HD g6
       go_wp2_with fail
       clear cW g6 cx
       go_loopw [10] (fun q wr => ∃ (j : Nat), q = .int .i64 j ∧ j ≤ nn.length ∧ Hid (BlI wr (w.heap.size + 1) w1.heap.size L.length a0 ((nn.take j).foldl (markB LN) s)) ∧ Hid (Below (w.heap.size + 1) W wr)) (fun q _ => nn.length - (intOf q).toNat)
       case atStart => exact ⟨0, rfl, Nat.zero_le _, HI, HBI⟩
       case round =>
        obtain ⟨j, rfl, hj, HJ, HBJ⟩ := hrel
        have cW := HCW.out wr HBJ.out
        have g6 := HG6.out wr HBJ.out
        by_cases hlt3 : j < nn.length
        ·have hjl : (j : Int) < (nn.length : Int) := by omega
         have hj1 : (0 : Int) ≤ (j : Int) ∧ (j : Int) < (nn.length : Int) := by omega
         obtain ⟨b2, o2, rfl, hb2, hdd⟩ := HD.out (by intro h; rw [h] at hlt3; simp at hlt3)
         obtain ⟨d0, d1⟩ := hdd j hlt3
         have hsj := names_step (L := LN) (s := s) hlt3
         generalize nn[j] = ej at d0 d1 hsj
         replace d0 := atCell (HYW.out wr HBJ.out) d0 (by omega)
         replace d1 := atCell (HYW.out wr HBJ.out) d1 (by omega)
         generalize (nn.take j).foldl (markB LN) s = sj at HJ hsj
         have HSJ := Hid.intro hsj
         have HVK : Hid (∀ y, Below wr.heap.size wr y → N ≤ y.heap.size ∧ VolR y N (.slice (some ⟨b, off, none⟩) L.length cap) L ∧ BlI y (w.heap.size + 1) w1.heap.size L.length a0 sj ∧ Below (w.heap.size + 1) W y) := fun y hy => by
          have hz := HBJ.out.size
          have h1 := HBJ.out.trans (hy.mono (by omega))
          have h2 := h1.size
          exact ⟨by omega, HV.out.kept ((HYW.out y h1).mono hN), HJ.out.kept hy, h1⟩
         clear hdd hsj
         go_wp2
         go_region_with (go_at_call 35; refine (HAT.out _ _ (by first | exact (HVK.out _ (Below.refl _ _)).1 | exact (HVK.out _ (Below.refl _ _).drew).1 | exact (HVK.out _ (Below.refl _ _).drew.drew).1) (by first | exact (HVK.out _ (Below.refl _ _)).2.1 | exact (HVK.out _ (Below.refl _ _).drew).2.1 | exact (HVK.out _ (Below.refl _ _).drew.drew).2.1)).mono ?_; rintro e w5 ⟨rfl, b5⟩; have B5 := Hid.intro (HVK.out w5 (by first | exact b5 | exact ((Below.refl _ _).drew).trans b5 | exact ((Below.refl _ _).drew.drew).trans b5)); clear b5)
         all_goals
          clear HVK d0 d1 cW g6
          cases hax : atN LN ej.id with
          | none =>
           have hax2 := atI_none hax
           have HNX : Hid ((nn.take (j + 1)).foldl (markB LN) s = sj) := by unfold Hid; rw [HSJ.out, markB_no hax]
           simp only [hax2]
           clear hax hax2
           go_wp2
           go_roundw
           case rel => exact ⟨j + 1, by go_num, by omega, by rw [HNX.out]; exact B5.out.2.2.1, B5.out.2.2.2⟩
           case measure => simp [intOf]; omega
          | some x =>
           have hax2 := atI_some hax
           have hxl : x < L.length := by rw [← hlen]; exact atN_lt hax
           have HNX : Hid ((nn.take (j + 1)).foldl (markB LN) s = sj.set x true) := by unfold Hid; rw [HSJ.out, markB_yes hax]
           obtain ⟨⟨u1, k1⟩, ⟨u2, k2⟩, fr1, fr2, zg, zh⟩ := B5.out.2.2.1.has hxl
           have HMK := Hid.intro (B5.out.2.2.1.mark hxl)
           have HB6 : Hid (Below (w.heap.size + 1) W ((w5.setCell ⟨w.heap.size + 1, x, none⟩ (.bool true)).setCell ⟨w1.heap.size, x, none⟩ (.bool true))) := (B5.out.2.2.2.setCell (by simp) _).setCell (by simp; omega) _
           have i5 : (0 : Int) ≤ (x : Int) ∧ (x : Int) < (L.length : Int) := by omega
           have hne : ¬ w1.heap.size = w.heap.size + 1 := by omega
           simp only [hax2]
           clear hax hax2
           go_wp2
           go_roundw
           case rel => exact ⟨j + 1, by go_num, by omega, by rw [HNX.out]; exact HMK, HB6⟩
           case measure => simp [intOf]; omega
        ·obtain rfl : j = nn.length := by omega
         have HJ2 : Hid (BlI wr (w.heap.size + 1) w1.heap.size L.length a0 ((List.range (i + 1)).foldl (lookB LN a0) (timesB LN a0 k))) := by
          have := HJ.out
          rw [List.take_length] at this
          unfold Hid
          rw [HN2.out]
          exact this
         go_wp2
         go_roundw
         case rel => exact ⟨i + 1, by go_num, by omega, HJ2, HBJ⟩
         case measure => simp [intOf]; omega
     ·obtain rfl : i = L.length := by omega
      have HJ2 : Hid (BlI wr (w.heap.size + 1) w1.heap.size L.length a0 (timesB LN a0 (k + 1))) := by
       have := HI.out
       unfold Hid
       rw [timesB, sweepB, hlen]
       exact this
      go_wp2
      go_roundw
      case rel => exact ⟨k + 1, by go_num, by omega, HJ2, HBI⟩
      case measure => simp [intOf]; omega
   ·obtain rfl : k = L.length := by omega
    have HE : Hid (Own boolE 4 wr w.heap.size (.slice (some ⟨w.heap.size + 1, 0, none⟩) L.length L.length) (belL LN id) ∧ Below w.heap.size w wr) := by
     have := HK.out.i
     rw [HBL.out, belowB, hlen]
     exact ⟨this.lower (by omega), bW.trans (HBK.out.mono (by omega))⟩
    go_wp2
    go_ret
    exact ⟨_, rfl, HE.out.1, HE.out.2⟩
end Go.Proofs.YtmkegmndcbpblaaGreatDoor
