/- Is an inode right? (the sentence) -/
import Derived.Test.YtmkegmndcbpblaaGreatDoorVSpecC
import Derived.Test.YtmkegmndcbpblaaGreatDoorPReg
import Derived.Deep.CutRange
import Derived.Laws.Cover1
import Derived.Deep.CutBlock
namespace Go.Proofs.YtmkegmndcbpblaaGreatDoor
open Go.RowKit
set_option linter.unusedVariables false
def ltS (a b : ByteArray) : Bool := Op.bytesLess a.toList b.toList
/-- The names from j on are right; what is ahead of them is p. -/
def nmsB (L : List Nd) : Option ByteArray → List Di → Bool
 | _, [] => true
 | p, e :: l => nameB e.nm.data.toList && (p.map fun q => ltS q e.nm).getD true && !decide (e.id = 1) && (atN L e.id).isSome && nmsB L (some e.nm) l
def plainB (n : Nd) : Bool := decide (n.names.length = 0) && decide (n.maxb = 0) && decide (n.maxi = 0)
/-- Is the inode right? -/
def nodeB (L : List Nd) (n : Nd) : Bool := inB n.mode 0 2047 && inB n.uid 0 1000 && inB n.gid 0 1000 &&
 (if n.kind = 1 then plainB n && decide (n.data.size ≤ 64)
  else if n.kind = 3 then plainB n && pbB n.data.data.toList && decide (n.mode = 511)
  else if n.kind = 2 then (n.data.toList == []) && decide (n.names.length ≤ 12) && inB n.maxb 0 400 && inB n.maxi 0 24 && nmsB L none n.names
  else false)
/-- The name ahead of place j. -/
def aheadN (l : List Di) (j : Nat) : Option ByteArray := if j = 0 then none else (l[j - 1]?).map Di.nm
theorem aheadN_succ {l : List Di} {j : Nat} (h : j < l.length) : aheadN l (j + 1) = some l[j].nm := by simp [aheadN, List.getElem?_eq_getElem h]
theorem nmsB_drop {L : List Nd} {l : List Di} {j : Nat} (h : j < l.length) : nmsB L (aheadN l j) (l.drop j) = (nameB l[j].nm.data.toList && ((aheadN l j).map fun q => ltS q l[j].nm).getD true && !decide (l[j].id = 1) && (atN L l[j].id).isSome && nmsB L (aheadN l (j + 1)) (l.drop (j + 1))) := by
 rw [List.drop_eq_getElem_cons h, nmsB, aheadN_succ h]
def SIn (eb xb vb : Nat) (e : Di) (pn : ByteArray) (next : Int) (u2 u : Value) (b2 op : Nat) (w' : World) : Prop := w'.cell? ⟨eb, 0, none⟩ = some (.string e.nm) ∧ w'.cell? ⟨eb, 1, none⟩ = some (.int .i64 e.id) ∧ w'.cell? ⟨xb, 6, none⟩ = some u2 ∧ w'.cell? ⟨vb, 0, none⟩ = some (.int .i64 next) ∧ w'.cell? ⟨vb, 1, none⟩ = some u ∧ w'.cell? ⟨b2, op, none⟩ = some (.string pn)
set_option maxRecDepth 100000 in
set_option maxHeartbeats 40000000 in
theorem l4InodeOk_any (next : Int) (L : List Np) (u : Value) (n : Nd) (v : Value) (N : Nat) (w : World) (hN : N ≤ w.heap.size) (hr : VolR w N u L) (hrow : Row diE w N v n.names) (hz : NdSz n) :
  Calls Tryz.prog 27 #[volV next u, ndV n v] w fun e w' => e = .returned (.bool (nodeB (L.map Np.n) n)) ∧ Below w.heap.size w w' := by
 have HV := Hid.intro hr
 have HZ := Hid.intro hz
 have hz1 := hz.1
 obtain ⟨a, cap, rfl, hl, hm, -⟩ := ndE_cell hr.row
 obtain ⟨a2, cap2, rfl, l2, m2, hdc⟩ := diE_cell hrow
 have HD := Hid.intro hdc
 obtain ⟨LN, hLN⟩ : ∃ LN, L.map Np.n = LN := ⟨_, rfl⟩
 rw [hLN]
 have HAT : Hid (∀ (y : World) (id' : Int), N ≤ y.heap.size → VolR y N (.slice a L.length cap) L → Calls Tryz.prog 35 #[volV next (.slice a L.length cap), .int .i64 id'] y fun e w' => e = .returned (.int .i64 (atI LN id')) ∧ Below y.heap.size y w') := fun y id' h1 h2 => by
  rw [← hLN]
  exact l4At_any next L _ N id' y h1 h2
 clear hr hrow hdc hLN hz
 go_enter Tryz.func27, Tryz.ntmps27
 go_upto_region 1 with fail
 obtain ⟨W, hW, bW, zW, c1, f1, c2, f2⟩ := boxed2 w #[.int .i64 next, .slice a L.length cap] (ndA n (.slice a2 n.names.length cap2)) 35 64
 try simp only [hW]
 clear hW f1 f2
 cases hb1 : inB n.mode 0 2047 with
 | false =>
  go_wp2_with (go_at_call 26; refine (l1In_any _ _ _ _).mono ?_; rintro e w' ⟨rfl, rfl⟩; simp only [hb1])
  go_ret
  exact ⟨ret_bool (by simp [nodeB, hb1]), bW⟩
 | true =>
  cases hb2 : inB n.uid 0 1000 with
  | false =>
   go_wp2_with (go_at_call 26; refine (l1In_any _ _ _ _).mono ?_; rintro e w' ⟨rfl, rfl⟩; simp only [hb1, hb2])
   go_ret
   exact ⟨ret_bool (by simp [nodeB, hb1, hb2]), bW⟩
  | true =>
   cases hb3 : inB n.gid 0 1000 with
   | false =>
    go_wp2_with (go_at_call 26; refine (l1In_any _ _ _ _).mono ?_; rintro e w' ⟨rfl, rfl⟩; simp only [hb1, hb2, hb3])
    go_ret
    exact ⟨ret_bool (by simp [nodeB, hb1, hb2, hb3]), bW⟩
   | true =>
    go_upto_region 3 with (go_at_call 26; refine (l1In_any _ _ _ _).mono ?_; rintro e w' ⟨rfl, rfl⟩; simp only [hb1, hb2, hb3])
    go_cut [5] from 24 to 37 (fun s wc => s = .bool (plainB n) ∧ W = wc)
    case first => as_aux_lemma =>
     by_cases e1 : n.names.length = 0
     ·have t1 : ((n.names.length : Int) == 0) = true := by simp [e1]
      by_cases e2 : n.maxb = 0
      ·have t2 : (n.maxb == 0) = true := by simp [e2]
       by_cases e3 : n.maxi = 0
       ·have t3 : (n.maxi == 0) = true := by simp [e3]
        have HP : Hid (plainB n = true) := by unfold Hid; simp [plainB, e1, e2, e3]
        clear e1 e2 e3
        go_wp2_with fail
        go_meet
        case rel => exact ⟨by rw [HP.out], by first | rfl | trivial⟩
       ·have t3 : (n.maxi == 0) = false := by simpa using e3
        have HP : Hid (plainB n = false) := by unfold Hid; simp [plainB, e3]
        clear e1 e2 e3
        go_wp2_with fail
        go_meet
        case rel => exact ⟨by rw [HP.out], by first | rfl | trivial⟩
      ·have t2 : (n.maxb == 0) = false := by simpa using e2
       have HP : Hid (plainB n = false) := by unfold Hid; simp [plainB, e2]
       clear e1 e2
       go_wp2_with fail
       go_meet
       case rel => exact ⟨by rw [HP.out], by first | rfl | trivial⟩
     ·have t1 : ((n.names.length : Int) == 0) = false := by rw [beq_eq_false_iff_ne]; omega
      have HP : Hid (plainB n = false) := by unfold Hid; simp [plainB, e1]
      clear e1
      go_wp2_with fail
      go_meet
      case rel => exact ⟨by rw [HP.out], by first | rfl | trivial⟩
    case rest =>
    obtain ⟨rfl, hwx⟩ := hcut
    subst hwx
    have HB3 : Hid (nodeB LN n = (if n.kind = 1 then plainB n && decide (n.data.size ≤ 64) else if n.kind = 3 then plainB n && pbB n.data.data.toList && decide (n.mode = 511) else if n.kind = 2 then (n.data.toList == []) && decide (n.names.length ≤ 12) && inB n.maxb 0 400 && inB n.maxi 0 24 && nmsB LN none n.names else false)) := by unfold Hid; rw [nodeB, hb1, hb2, hb3]; simp
    by_cases hk1 : n.kind = 1
    ·have k1 : (n.kind == 1) = true := by simpa using hk1
     have HK := HB3.out
     rw [if_pos hk1] at HK
     have HK1 := Hid.intro HK
     clear hk1 HK HB3
     cases hp : plainB n with
     | true =>
      go_wp2_with fail
      go_ret
      exact ⟨ret_bool (by rw [HK1.out, hp, Bool.true_and, decide_eq_decide]; omega), bW⟩
     | false =>
      go_wp2_with fail
      go_ret
      exact ⟨ret_bool (by rw [HK1.out, hp]; rfl), bW⟩
    ·have k1 : (n.kind == 1) = false := by simpa using hk1
     by_cases hk3 : n.kind = 3
     ·have k3 : (n.kind == 3) = true := by simpa using hk3
      have HK := HB3.out
      rw [if_neg hk1, if_pos hk3] at HK
      have HK1 := Hid.intro HK
      clear hk1 hk3 HK HB3
      cases hp : plainB n with
      | true =>
       cases hq : pbB n.data.data.toList with
       | true =>
        by_cases h5 : n.mode = 511
        ·have t5 : (n.mode == 511) = true := by simpa using h5
         have H5 := Hid.intro h5
         clear h5
         go_wp2_with (go_at_call 45; refine (l4Target_any _ _ hz1).mono ?_; rintro e w' ⟨rfl, rfl⟩; simp only [hq])
         go_ret
         exact ⟨ret_bool (by rw [HK1.out, hp, hq, H5.out]; rfl), bW⟩
        ·have t5 : (n.mode == 511) = false := by simpa using h5
         have H5 := Hid.intro h5
         clear h5
         go_wp2_with (go_at_call 45; refine (l4Target_any _ _ hz1).mono ?_; rintro e w' ⟨rfl, rfl⟩; simp only [hq])
         go_ret
         exact ⟨ret_bool (by rw [HK1.out, hp, hq, decide_eq_false H5.out]; rfl), bW⟩
       | false =>
        go_wp2_with (go_at_call 45; refine (l4Target_any _ _ hz1).mono ?_; rintro e w' ⟨rfl, rfl⟩; simp only [hq])
        go_ret
        exact ⟨ret_bool (by rw [HK1.out, hp, hq]; rfl), bW⟩
      | false =>
       go_wp2_with fail
       go_ret
       exact ⟨ret_bool (by rw [HK1.out, hp]; rfl), bW⟩
     ·have k3 : (n.kind == 3) = false := by simpa using hk3
      by_cases hk2 : n.kind = 2
      ·have k2 : (n.kind == 2) = true := by simpa using hk2
       have HK := HB3.out
       rw [if_neg hk1, if_neg hk3, if_pos hk2] at HK
       have HK1 := Hid.intro HK
       clear hk1 hk3 hk2 HK HB3
       cases d1 : (n.data.toList == []) with
       | false =>
        go_wp2_with fail
        go_ret
        exact ⟨ret_bool (by rw [HK1.out, d1]; rfl), bW⟩
       | true =>
        by_cases d2 : (12 : Int) < n.names.length
        ·go_wp2_with fail
         go_ret
         exact ⟨ret_bool (by rw [HK1.out, decide_eq_false (show ¬ n.names.length ≤ 12 by omega)]; simp), bW⟩
        ·cases d3 : inB n.maxb 0 400 with
         | false =>
          go_wp2_with (go_at_call 26; refine (l1In_any _ _ _ _).mono ?_; rintro e w' ⟨rfl, rfl⟩; simp only [d3])
          go_ret
          exact ⟨ret_bool (by rw [HK1.out, d3]; simp), bW⟩
         | true =>
          cases d4 : inB n.maxi 0 24 with
          | false =>
           go_wp2_with (go_at_call 26; refine (l1In_any _ _ _ _).mono ?_; rintro e w' ⟨rfl, rfl⟩; simp only [d3, d4])
           go_ret
           exact ⟨ret_bool (by rw [HK1.out, d4]; simp), bW⟩
          | true =>
           have HK2 : Hid (nodeB LN n = nmsB LN none n.names) := by unfold Hid; rw [HK1.out, d1, d3, d4, decide_eq_true (show n.names.length ≤ 12 by omega)]; simp
           have C20 := Hid.intro c2
           have C10 := Hid.intro c1
           have HNS := Hid.intro HZ.out.2
           clear HK1 HZ
           go_wp2_with (go_at_call 26; refine (l1In_any _ _ _ _).mono ?_; rintro e w' ⟨rfl, rfl⟩; simp only [d3, d4])
           clear c1 c2
           generalize hnn : n.names = nn at HD HK2 C20 l2 d2 HNS
           go_loopw [6] (fun i wr => ∃ (j : Nat), i = .int .i64 j ∧ j ≤ nn.length ∧ Hid (nodeB LN n = nmsB LN (aheadN nn j) (nn.drop j)) ∧ Hid (Below W.heap.size W wr)) (fun i _ => nn.length - (intOf i).toNat)
           case atStart => exact ⟨0, rfl, Nat.zero_le _, HK2, Below.refl _ _⟩
           case round =>
            obtain ⟨j, rfl, hj, HJ, HBJ⟩ := hrel
            have hzr := HBJ.out.size
            have c1 := keepC HBJ.out (show w.heap.size < W.heap.size by omega) C10.out
            have c2 := keepC HBJ.out (show w.heap.size + 1 < W.heap.size by omega) C20.out
            have HBW := Hid.intro (bW.trans (HBJ.out.mono (by omega)))
            by_cases hlt : j < nn.length
            ·obtain ⟨b2, o2, rfl, hb2, hdd⟩ := HD.out (by intro h; rw [h] at hlt; simp at hlt)
             obtain ⟨d0, d1'⟩ := hdd j hlt
             have hes := HNS.out _ (List.getElem_mem hlt)
             have hst := nmsB_drop (L := LN) hlt
             generalize nn[j] = e at d0 d1' hst hes
             replace d0 := atCell HBW.out d0 (by omega)
             replace d1' := atCell HBW.out d1' (by omega)
             have hjl : (j : Int) < (nn.length : Int) := by omega
             have i1 : (0 : Int) ≤ (j : Int) ∧ (j : Int) < (nn.length : Int) := by omega
             have HST := Hid.intro hst
             have HES := Hid.intro hes
             have HDD := Hid.intro hdd
             clear hst hes hdd
             go_upto_region 16 with fail
             obtain ⟨X, hX, bX, zX, cX, fX⟩ := boxed wr #[.string e.nm, .int .i64 e.id] 85
             simp only [hX]
             have D0 := Hid.intro d0
             have HSG : Hid (∀ y, Below X.heap.size X y → ∀ (pn : ByteArray) (op : Nat), wr.cell? ⟨b2, op, none⟩ = some (.string pn) → SIn wr.heap.size (w.heap.size + 1) w.heap.size e pn next (.slice (some ⟨b2, o2, none⟩) nn.length cap2) (.slice a L.length cap) b2 op y) := fun y hy pn op hpn => by
              have h1 := bX.trans (hy.mono (by omega))
              have k1 := keepC h1 (by omega) c1
              have k2 := keepC h1 (by omega) c2
              have kX := keepC hy (by omega) cX
              exact ⟨by rw [kX]; rfl, by rw [kX]; rfl, by rw [k2]; rfl, by rw [k1]; rfl, by rw [k1]; rfl, atCell h1 hpn (by omega)⟩
             have HBX : Hid (Below W.heap.size W X) := HBJ.out.trans (bX.mono hzr)
             have HVK : Hid (∀ y, Below X.heap.size X y → N ≤ y.heap.size ∧ VolR y N (.slice a L.length cap) L) := fun y hy => by
              have h1 := HBX.out.trans (hy.mono (by omega))
              exact ⟨by have := h1.size; omega, HV.out.kept ((bW.trans (h1.mono (by omega))).mono hN)⟩
             clear hX fX d0 d1' c1 c2 cX bX
             go_cut [128] from 85 to 128 (fun s wc => s = .bool (!(nameB e.nm.data.toList && ((aheadN nn j).map fun q => ltS q e.nm).getD true && !decide (e.id = 1) && (atN LN e.id).isSome)) ∧ Hid (Below X.heap.size X wc))
             case first =>
              cases hnm : nameB e.nm.data.toList with
              | false =>
               have HSF : Hid (∀ y, Below X.heap.size X y → SIn wr.heap.size (w.heap.size + 1) w.heap.size e e.nm next (.slice (some ⟨b2, o2, none⟩) nn.length cap2) (.slice a L.length cap) b2 (o2 + j * 2) y) := fun y hy => HSG.out y hy e.nm _ D0.out
               have HW : Hid ((nameB e.nm.data.toList && ((aheadN nn j).map fun q => ltS q e.nm).getD true && !decide (e.id = 1) && (atN LN e.id).isSome) = false) := by unfold Hid; rw [hnm]; rfl
               refine wp_region_held_drew (S := SIn wr.heap.size (w.heap.size + 1) w.heap.size e e.nm next (.slice (some ⟨b2, o2, none⟩) nn.length cap2) (.slice a L.length cap) b2 (o2 + j * 2)) (by kernel_rfl) (HSF.out _ (Below.refl _ _).drew) (fun hHeld => ?_)
               have BD : Hid (Below X.heap.size X X.drew) := (Below.refl _ _).drew
               generalize X.drew = D at BD hHeld ⊢
               refine tkk 0 97 (v := ?_) ?_ ?_
               rotate_left 1
               ·intro w hSw
                obtain ⟨q0, q1, q2, q3, q4, q5⟩ := hSw
                go_simp <;> with_reducible rfl
               simp only [Act.put, List.setIfInBounds_toArray]
               dsimp only [List.set_cons_succ, List.set_cons_zero]
               refine tkk 1 98 (v := ?_) ?_ ?_
               rotate_left 1
               ·intro w hSw
                obtain ⟨q0, q1, q2, q3, q4, q5⟩ := hSw
                go_simp <;> with_reducible rfl
               simp only [Act.put, List.setIfInBounds_toArray]
               dsimp only [List.set_cons_succ, List.set_cons_zero]
               refine wpAnyH_ready (rs := [2]) (by kernel_rfl) (by simp) ?_
               refine AllReadyH.cons rfl (fun KK hKK => ?_) AllReadyH.nil
               go_simp
               refine (specNameOk_any _ _ HES.out).mono ?_
               rintro e9 w9 ⟨rfl, rfl⟩
               simp only [hnm]
               go_simp
               refine hKK.out _ _ (HSF.out _ BD.out) (fun hHeld2 => ?_)
               clear hKK KK hHeld
               have hHeld := hHeld2
               clear hHeld2
               refine tkk 3 100 (v := ?_) ?_ ?_
               rotate_left 1
               ·intro w hSw
                obtain ⟨q0, q1, q2, q3, q4, q5⟩ := hSw
                go_simp <;> with_reducible rfl
               simp only [Act.put, List.setIfInBounds_toArray]
               dsimp only [List.set_cons_succ, List.set_cons_zero]
               refine tkk 4 101 (v := ?_) ?_ ?_
               rotate_left 1
               ·intro w hSw
                obtain ⟨q0, q1, q2, q3, q4, q5⟩ := hSw
                go_simp <;> with_reducible rfl
               simp only [Act.put, List.setIfInBounds_toArray]
               dsimp only [List.set_cons_succ, List.set_cons_zero]
               refine skk 5 102 ?_
               simp only [Act.put, List.setIfInBounds_toArray]
               dsimp only [List.set_cons_succ, List.set_cons_zero]
               refine skk 6 103 ?_
               simp only [Act.put, List.setIfInBounds_toArray]
               dsimp only [List.set_cons_succ, List.set_cons_zero]
               refine skk 7 104 ?_
               simp only [Act.put, List.setIfInBounds_toArray]
               dsimp only [List.set_cons_succ, List.set_cons_zero]
               refine skk 8 105 ?_
               simp only [Act.put, List.setIfInBounds_toArray]
               dsimp only [List.set_cons_succ, List.set_cons_zero]
               refine skk 9 106 ?_
               simp only [Act.put, List.setIfInBounds_toArray]
               dsimp only [List.set_cons_succ, List.set_cons_zero]
               refine skk 10 107 ?_
               simp only [Act.put, List.setIfInBounds_toArray]
               dsimp only [List.set_cons_succ, List.set_cons_zero]
               refine skk 11 108 ?_
               simp only [Act.put, List.setIfInBounds_toArray]
               dsimp only [List.set_cons_succ, List.set_cons_zero]
               refine skk 12 109 ?_
               simp only [Act.put, List.setIfInBounds_toArray]
               dsimp only [List.set_cons_succ, List.set_cons_zero]
               refine skk 13 110 ?_
               simp only [Act.put, List.setIfInBounds_toArray]
               dsimp only [List.set_cons_succ, List.set_cons_zero]
               refine skk 14 111 ?_
               simp only [Act.put, List.setIfInBounds_toArray]
               dsimp only [List.set_cons_succ, List.set_cons_zero]
               refine skk 15 112 ?_
               simp only [Act.put, List.setIfInBounds_toArray]
               dsimp only [List.set_cons_succ, List.set_cons_zero]
               refine skk 16 113 ?_
               simp only [Act.put, List.setIfInBounds_toArray]
               dsimp only [List.set_cons_succ, List.set_cons_zero]
               refine skk 17 114 ?_
               simp only [Act.put, List.setIfInBounds_toArray]
               dsimp only [List.set_cons_succ, List.set_cons_zero]
               refine skk 18 115 ?_
               simp only [Act.put, List.setIfInBounds_toArray]
               dsimp only [List.set_cons_succ, List.set_cons_zero]
               refine tkk 19 116 (v := ?_) ?_ ?_
               rotate_left 1
               ·intro w hSw
                obtain ⟨q0, q1, q2, q3, q4, q5⟩ := hSw
                go_simp <;> with_reducible rfl
               simp only [Act.put, List.setIfInBounds_toArray]
               dsimp only [List.set_cons_succ, List.set_cons_zero]
               refine tkk 20 117 (v := ?_) ?_ ?_
               rotate_left 1
               ·intro w hSw
                obtain ⟨q0, q1, q2, q3, q4, q5⟩ := hSw
                go_simp <;> with_reducible rfl
               simp only [Act.put, List.setIfInBounds_toArray]
               dsimp only [List.set_cons_succ, List.set_cons_zero]
               refine skk 21 118 ?_
               simp only [Act.put, List.setIfInBounds_toArray]
               dsimp only [List.set_cons_succ, List.set_cons_zero]
               refine skk 22 119 ?_
               simp only [Act.put, List.setIfInBounds_toArray]
               dsimp only [List.set_cons_succ, List.set_cons_zero]
               refine skk 23 120 ?_
               simp only [Act.put, List.setIfInBounds_toArray]
               dsimp only [List.set_cons_succ, List.set_cons_zero]
               refine tkk 24 121 (v := ?_) ?_ ?_
               rotate_left 1
               ·intro w hSw
                obtain ⟨q0, q1, q2, q3, q4, q5⟩ := hSw
                go_simp <;> with_reducible rfl
               simp only [Act.put, List.setIfInBounds_toArray]
               dsimp only [List.set_cons_succ, List.set_cons_zero]
               refine tkk 25 122 (v := ?_) ?_ ?_
               rotate_left 1
               ·intro w hSw
                obtain ⟨q0, q1, q2, q3, q4, q5⟩ := hSw
                go_simp <;> with_reducible rfl
               simp only [Act.put, List.setIfInBounds_toArray]
               dsimp only [List.set_cons_succ, List.set_cons_zero]
               refine skk 26 123 ?_
               simp only [Act.put, List.setIfInBounds_toArray]
               dsimp only [List.set_cons_succ, List.set_cons_zero]
               refine skk 27 124 ?_
               simp only [Act.put, List.setIfInBounds_toArray]
               dsimp only [List.set_cons_succ, List.set_cons_zero]
               refine skk 28 125 ?_
               simp only [Act.put, List.setIfInBounds_toArray]
               dsimp only [List.set_cons_succ, List.set_cons_zero]
               refine skk 29 126 ?_
               simp only [Act.put, List.setIfInBounds_toArray]
               dsimp only [List.set_cons_succ, List.set_cons_zero]
               refine skk 30 127 ?_
               simp only [Act.put, List.setIfInBounds_toArray]
               dsimp only [List.set_cons_succ, List.set_cons_zero]
               refine tkk 31 128 (v := ?_) ?_ ?_
               rotate_left 1
               ·intro w hSw
                obtain ⟨q0, q1, q2, q3, q4, q5⟩ := hSw
                go_simp <;> with_reducible rfl
               simp only [Act.put, List.setIfInBounds_toArray]
               dsimp only [List.set_cons_succ, List.set_cons_zero]
               refine wpAnyH_done (by kernel_rfl) ?_ _
               go_wp2_with fail
               go_meet
               case rel => exact ⟨by rw [HW.out]; rfl, BD⟩
              | true =>
               rcases Nat.eq_zero_or_pos j with hj0 | hj0
               ·subst hj0
                have HSF : Hid (∀ y, Below X.heap.size X y → SIn wr.heap.size (w.heap.size + 1) w.heap.size e e.nm next (.slice (some ⟨b2, o2, none⟩) nn.length cap2) (.slice a L.length cap) b2 (o2 + 0 * 2) y) := fun y hy => HSG.out y hy e.nm _ D0.out
                have h00 : decide ((0 : Int) < ((0 : Nat) : Int)) = false := by decide
                have HLT : Hid (((aheadN nn 0).map fun q => ltS q e.nm).getD true = true) := rfl
                by_cases hi1 : e.id = 1
                ·have hid : (e.id == 1) = true := by simpa using hi1
                 have HW : Hid ((nameB e.nm.data.toList && ((aheadN nn 0).map fun q => ltS q e.nm).getD true && !decide (e.id = 1) && (atN LN e.id).isSome) = false) := by unfold Hid; simp [hi1]
                 clear hi1
                 refine wp_region_held_drew (S := SIn wr.heap.size (w.heap.size + 1) w.heap.size e e.nm next (.slice (some ⟨b2, o2, none⟩) nn.length cap2) (.slice a L.length cap) b2 (o2 + 0 * 2)) (by kernel_rfl) (HSF.out _ (Below.refl _ _).drew) (fun hHeld => ?_)
                 have BD : Hid (Below X.heap.size X X.drew) := (Below.refl _ _).drew
                 generalize X.drew = D at BD hHeld ⊢
                 refine tkk 0 97 (v := ?_) ?_ ?_
                 rotate_left 1
                 ·intro w hSw
                  obtain ⟨q0, q1, q2, q3, q4, q5⟩ := hSw
                  go_simp <;> with_reducible rfl
                 simp only [Act.put, List.setIfInBounds_toArray]
                 dsimp only [List.set_cons_succ, List.set_cons_zero]
                 refine tkk 1 98 (v := ?_) ?_ ?_
                 rotate_left 1
                 ·intro w hSw
                  obtain ⟨q0, q1, q2, q3, q4, q5⟩ := hSw
                  go_simp <;> with_reducible rfl
                 simp only [Act.put, List.setIfInBounds_toArray]
                 dsimp only [List.set_cons_succ, List.set_cons_zero]
                 refine wpAnyH_ready (rs := [2]) (by kernel_rfl) (by simp) ?_
                 refine AllReadyH.cons rfl (fun KK hKK => ?_) AllReadyH.nil
                 go_simp
                 refine (specNameOk_any _ _ HES.out).mono ?_
                 rintro e9 w9 ⟨rfl, rfl⟩
                 simp only [hnm]
                 go_simp
                 refine hKK.out _ _ (HSF.out _ BD.out) (fun hHeld2 => ?_)
                 clear hKK KK hHeld
                 have hHeld := hHeld2
                 clear hHeld2
                 refine tkk 3 100 (v := ?_) ?_ ?_
                 rotate_left 1
                 ·intro w hSw
                  obtain ⟨q0, q1, q2, q3, q4, q5⟩ := hSw
                  go_simp <;> with_reducible rfl
                 simp only [Act.put, List.setIfInBounds_toArray]
                 dsimp only [List.set_cons_succ, List.set_cons_zero]
                 refine tkk 4 101 (v := ?_) ?_ ?_
                 rotate_left 1
                 ·intro w hSw
                  obtain ⟨q0, q1, q2, q3, q4, q5⟩ := hSw
                  go_simp <;> with_reducible rfl
                 simp only [Act.put, List.setIfInBounds_toArray]
                 dsimp only [List.set_cons_succ, List.set_cons_zero]
                 refine tkk 5 102 (v := ?_) ?_ ?_
                 rotate_left 1
                 ·intro w hSw
                  obtain ⟨q0, q1, q2, q3, q4, q5⟩ := hSw
                  go_simp <;> with_reducible rfl
                 simp only [Act.put, List.setIfInBounds_toArray]
                 dsimp only [List.set_cons_succ, List.set_cons_zero]
                 refine tkk 6 103 (v := ?_) ?_ ?_
                 rotate_left 1
                 ·intro w hSw
                  obtain ⟨q0, q1, q2, q3, q4, q5⟩ := hSw
                  go_simp <;> with_reducible rfl
                 simp only [Act.put, List.setIfInBounds_toArray]
                 dsimp only [List.set_cons_succ, List.set_cons_zero]
                 try simp only [h00]
                 refine tkk 7 104 (v := ?_) ?_ ?_
                 rotate_left 1
                 ·intro w hSw
                  obtain ⟨q0, q1, q2, q3, q4, q5⟩ := hSw
                  go_simp <;> with_reducible rfl
                 simp only [Act.put, List.setIfInBounds_toArray]
                 dsimp only [List.set_cons_succ, List.set_cons_zero]
                 refine skk 8 105 ?_
                 simp only [Act.put, List.setIfInBounds_toArray]
                 dsimp only [List.set_cons_succ, List.set_cons_zero]
                 refine skk 9 106 ?_
                 simp only [Act.put, List.setIfInBounds_toArray]
                 dsimp only [List.set_cons_succ, List.set_cons_zero]
                 refine skk 10 107 ?_
                 simp only [Act.put, List.setIfInBounds_toArray]
                 dsimp only [List.set_cons_succ, List.set_cons_zero]
                 refine skk 11 108 ?_
                 simp only [Act.put, List.setIfInBounds_toArray]
                 dsimp only [List.set_cons_succ, List.set_cons_zero]
                 refine skk 12 109 ?_
                 simp only [Act.put, List.setIfInBounds_toArray]
                 dsimp only [List.set_cons_succ, List.set_cons_zero]
                 refine skk 13 110 ?_
                 simp only [Act.put, List.setIfInBounds_toArray]
                 dsimp only [List.set_cons_succ, List.set_cons_zero]
                 refine skk 14 111 ?_
                 simp only [Act.put, List.setIfInBounds_toArray]
                 dsimp only [List.set_cons_succ, List.set_cons_zero]
                 refine skk 15 112 ?_
                 simp only [Act.put, List.setIfInBounds_toArray]
                 dsimp only [List.set_cons_succ, List.set_cons_zero]
                 refine skk 16 113 ?_
                 simp only [Act.put, List.setIfInBounds_toArray]
                 dsimp only [List.set_cons_succ, List.set_cons_zero]
                 refine skk 17 114 ?_
                 simp only [Act.put, List.setIfInBounds_toArray]
                 dsimp only [List.set_cons_succ, List.set_cons_zero]
                 refine tkk 18 115 (v := ?_) ?_ ?_
                 rotate_left 1
                 ·intro w hSw
                  obtain ⟨q0, q1, q2, q3, q4, q5⟩ := hSw
                  go_simp <;> with_reducible rfl
                 simp only [Act.put, List.setIfInBounds_toArray]
                 dsimp only [List.set_cons_succ, List.set_cons_zero]
                 refine tkk 19 116 (v := ?_) ?_ ?_
                 rotate_left 1
                 ·intro w hSw
                  obtain ⟨q0, q1, q2, q3, q4, q5⟩ := hSw
                  go_simp <;> with_reducible rfl
                 simp only [Act.put, List.setIfInBounds_toArray]
                 dsimp only [List.set_cons_succ, List.set_cons_zero]
                 refine tkk 20 117 (v := ?_) ?_ ?_
                 rotate_left 1
                 ·intro w hSw
                  obtain ⟨q0, q1, q2, q3, q4, q5⟩ := hSw
                  go_simp <;> with_reducible rfl
                 simp only [Act.put, List.setIfInBounds_toArray]
                 dsimp only [List.set_cons_succ, List.set_cons_zero]
                 refine tkk 21 118 (v := ?_) ?_ ?_
                 rotate_left 1
                 ·intro w hSw
                  obtain ⟨q0, q1, q2, q3, q4, q5⟩ := hSw
                  go_simp <;> with_reducible rfl
                 simp only [Act.put, List.setIfInBounds_toArray]
                 dsimp only [List.set_cons_succ, List.set_cons_zero]
                 refine tkk 22 119 (v := ?_) ?_ ?_
                 rotate_left 1
                 ·intro w hSw
                  obtain ⟨q0, q1, q2, q3, q4, q5⟩ := hSw
                  go_simp <;> with_reducible rfl
                 simp only [Act.put, List.setIfInBounds_toArray]
                 dsimp only [List.set_cons_succ, List.set_cons_zero]
                 refine tkk 23 120 (v := ?_) ?_ ?_
                 rotate_left 1
                 ·intro w hSw
                  obtain ⟨q0, q1, q2, q3, q4, q5⟩ := hSw
                  go_simp <;> with_reducible rfl
                 simp only [Act.put, List.setIfInBounds_toArray]
                 dsimp only [List.set_cons_succ, List.set_cons_zero]
                 try simp only [hid]
                 refine tkk 24 121 (v := ?_) ?_ ?_
                 rotate_left 1
                 ·intro w hSw
                  obtain ⟨q0, q1, q2, q3, q4, q5⟩ := hSw
                  go_simp <;> with_reducible rfl
                 simp only [Act.put, List.setIfInBounds_toArray]
                 dsimp only [List.set_cons_succ, List.set_cons_zero]
                 refine tkk 25 122 (v := ?_) ?_ ?_
                 rotate_left 1
                 ·intro w hSw
                  obtain ⟨q0, q1, q2, q3, q4, q5⟩ := hSw
                  go_simp <;> with_reducible rfl
                 simp only [Act.put, List.setIfInBounds_toArray]
                 dsimp only [List.set_cons_succ, List.set_cons_zero]
                 refine skk 26 123 ?_
                 simp only [Act.put, List.setIfInBounds_toArray]
                 dsimp only [List.set_cons_succ, List.set_cons_zero]
                 refine skk 27 124 ?_
                 simp only [Act.put, List.setIfInBounds_toArray]
                 dsimp only [List.set_cons_succ, List.set_cons_zero]
                 refine skk 28 125 ?_
                 simp only [Act.put, List.setIfInBounds_toArray]
                 dsimp only [List.set_cons_succ, List.set_cons_zero]
                 refine skk 29 126 ?_
                 simp only [Act.put, List.setIfInBounds_toArray]
                 dsimp only [List.set_cons_succ, List.set_cons_zero]
                 refine skk 30 127 ?_
                 simp only [Act.put, List.setIfInBounds_toArray]
                 dsimp only [List.set_cons_succ, List.set_cons_zero]
                 refine tkk 31 128 (v := ?_) ?_ ?_
                 rotate_left 1
                 ·intro w hSw
                  obtain ⟨q0, q1, q2, q3, q4, q5⟩ := hSw
                  go_simp <;> with_reducible rfl
                 simp only [Act.put, List.setIfInBounds_toArray]
                 dsimp only [List.set_cons_succ, List.set_cons_zero]
                 refine wpAnyH_done (by kernel_rfl) ?_ _
                 go_wp2_with fail
                 go_meet
                 case rel => exact ⟨by rw [HW.out]; rfl, BD⟩
                ·have hid : (e.id == 1) = false := by simpa using hi1
                 cases hax : atN LN e.id with
                 | none =>
                  have hai : atI LN e.id = -1 := atI_none hax
                  have hlt0 : decide ((-1 : Int) < 0) = true := by decide
                  have HW : Hid ((nameB e.nm.data.toList && ((aheadN nn 0).map fun q => ltS q e.nm).getD true && !decide (e.id = 1) && (atN LN e.id).isSome) = false) := by unfold Hid; simp [hax]
                  clear hi1 hax
                  refine wp_region_held_drew (S := SIn wr.heap.size (w.heap.size + 1) w.heap.size e e.nm next (.slice (some ⟨b2, o2, none⟩) nn.length cap2) (.slice a L.length cap) b2 (o2 + 0 * 2)) (by kernel_rfl) (HSF.out _ (Below.refl _ _).drew) (fun hHeld => ?_)
                  have BD : Hid (Below X.heap.size X X.drew) := (Below.refl _ _).drew
                  generalize X.drew = D at BD hHeld ⊢
                  refine tkk 0 97 (v := ?_) ?_ ?_
                  rotate_left 1
                  ·intro w hSw
                   obtain ⟨q0, q1, q2, q3, q4, q5⟩ := hSw
                   go_simp <;> with_reducible rfl
                  simp only [Act.put, List.setIfInBounds_toArray]
                  dsimp only [List.set_cons_succ, List.set_cons_zero]
                  refine tkk 1 98 (v := ?_) ?_ ?_
                  rotate_left 1
                  ·intro w hSw
                   obtain ⟨q0, q1, q2, q3, q4, q5⟩ := hSw
                   go_simp <;> with_reducible rfl
                  simp only [Act.put, List.setIfInBounds_toArray]
                  dsimp only [List.set_cons_succ, List.set_cons_zero]
                  refine wpAnyH_ready (rs := [2]) (by kernel_rfl) (by simp) ?_
                  refine AllReadyH.cons rfl (fun KK hKK => ?_) AllReadyH.nil
                  go_simp
                  refine (specNameOk_any _ _ HES.out).mono ?_
                  rintro e9 w9 ⟨rfl, rfl⟩
                  simp only [hnm]
                  go_simp
                  refine hKK.out _ _ (HSF.out _ BD.out) (fun hHeld2 => ?_)
                  clear hKK KK hHeld
                  have hHeld := hHeld2
                  clear hHeld2
                  refine tkk 3 100 (v := ?_) ?_ ?_
                  rotate_left 1
                  ·intro w hSw
                   obtain ⟨q0, q1, q2, q3, q4, q5⟩ := hSw
                   go_simp <;> with_reducible rfl
                  simp only [Act.put, List.setIfInBounds_toArray]
                  dsimp only [List.set_cons_succ, List.set_cons_zero]
                  refine tkk 4 101 (v := ?_) ?_ ?_
                  rotate_left 1
                  ·intro w hSw
                   obtain ⟨q0, q1, q2, q3, q4, q5⟩ := hSw
                   go_simp <;> with_reducible rfl
                  simp only [Act.put, List.setIfInBounds_toArray]
                  dsimp only [List.set_cons_succ, List.set_cons_zero]
                  refine tkk 5 102 (v := ?_) ?_ ?_
                  rotate_left 1
                  ·intro w hSw
                   obtain ⟨q0, q1, q2, q3, q4, q5⟩ := hSw
                   go_simp <;> with_reducible rfl
                  simp only [Act.put, List.setIfInBounds_toArray]
                  dsimp only [List.set_cons_succ, List.set_cons_zero]
                  refine tkk 6 103 (v := ?_) ?_ ?_
                  rotate_left 1
                  ·intro w hSw
                   obtain ⟨q0, q1, q2, q3, q4, q5⟩ := hSw
                   go_simp <;> with_reducible rfl
                  simp only [Act.put, List.setIfInBounds_toArray]
                  dsimp only [List.set_cons_succ, List.set_cons_zero]
                  try simp only [h00]
                  refine tkk 7 104 (v := ?_) ?_ ?_
                  rotate_left 1
                  ·intro w hSw
                   obtain ⟨q0, q1, q2, q3, q4, q5⟩ := hSw
                   go_simp <;> with_reducible rfl
                  simp only [Act.put, List.setIfInBounds_toArray]
                  dsimp only [List.set_cons_succ, List.set_cons_zero]
                  refine skk 8 105 ?_
                  simp only [Act.put, List.setIfInBounds_toArray]
                  dsimp only [List.set_cons_succ, List.set_cons_zero]
                  refine skk 9 106 ?_
                  simp only [Act.put, List.setIfInBounds_toArray]
                  dsimp only [List.set_cons_succ, List.set_cons_zero]
                  refine skk 10 107 ?_
                  simp only [Act.put, List.setIfInBounds_toArray]
                  dsimp only [List.set_cons_succ, List.set_cons_zero]
                  refine skk 11 108 ?_
                  simp only [Act.put, List.setIfInBounds_toArray]
                  dsimp only [List.set_cons_succ, List.set_cons_zero]
                  refine skk 12 109 ?_
                  simp only [Act.put, List.setIfInBounds_toArray]
                  dsimp only [List.set_cons_succ, List.set_cons_zero]
                  refine skk 13 110 ?_
                  simp only [Act.put, List.setIfInBounds_toArray]
                  dsimp only [List.set_cons_succ, List.set_cons_zero]
                  refine skk 14 111 ?_
                  simp only [Act.put, List.setIfInBounds_toArray]
                  dsimp only [List.set_cons_succ, List.set_cons_zero]
                  refine skk 15 112 ?_
                  simp only [Act.put, List.setIfInBounds_toArray]
                  dsimp only [List.set_cons_succ, List.set_cons_zero]
                  refine skk 16 113 ?_
                  simp only [Act.put, List.setIfInBounds_toArray]
                  dsimp only [List.set_cons_succ, List.set_cons_zero]
                  refine skk 17 114 ?_
                  simp only [Act.put, List.setIfInBounds_toArray]
                  dsimp only [List.set_cons_succ, List.set_cons_zero]
                  refine tkk 18 115 (v := ?_) ?_ ?_
                  rotate_left 1
                  ·intro w hSw
                   obtain ⟨q0, q1, q2, q3, q4, q5⟩ := hSw
                   go_simp <;> with_reducible rfl
                  simp only [Act.put, List.setIfInBounds_toArray]
                  dsimp only [List.set_cons_succ, List.set_cons_zero]
                  refine tkk 19 116 (v := ?_) ?_ ?_
                  rotate_left 1
                  ·intro w hSw
                   obtain ⟨q0, q1, q2, q3, q4, q5⟩ := hSw
                   go_simp <;> with_reducible rfl
                  simp only [Act.put, List.setIfInBounds_toArray]
                  dsimp only [List.set_cons_succ, List.set_cons_zero]
                  refine tkk 20 117 (v := ?_) ?_ ?_
                  rotate_left 1
                  ·intro w hSw
                   obtain ⟨q0, q1, q2, q3, q4, q5⟩ := hSw
                   go_simp <;> with_reducible rfl
                  simp only [Act.put, List.setIfInBounds_toArray]
                  dsimp only [List.set_cons_succ, List.set_cons_zero]
                  refine tkk 21 118 (v := ?_) ?_ ?_
                  rotate_left 1
                  ·intro w hSw
                   obtain ⟨q0, q1, q2, q3, q4, q5⟩ := hSw
                   go_simp <;> with_reducible rfl
                  simp only [Act.put, List.setIfInBounds_toArray]
                  dsimp only [List.set_cons_succ, List.set_cons_zero]
                  refine tkk 22 119 (v := ?_) ?_ ?_
                  rotate_left 1
                  ·intro w hSw
                   obtain ⟨q0, q1, q2, q3, q4, q5⟩ := hSw
                   go_simp <;> with_reducible rfl
                  simp only [Act.put, List.setIfInBounds_toArray]
                  dsimp only [List.set_cons_succ, List.set_cons_zero]
                  refine tkk 23 120 (v := ?_) ?_ ?_
                  rotate_left 1
                  ·intro w hSw
                   obtain ⟨q0, q1, q2, q3, q4, q5⟩ := hSw
                   go_simp <;> with_reducible rfl
                  simp only [Act.put, List.setIfInBounds_toArray]
                  dsimp only [List.set_cons_succ, List.set_cons_zero]
                  try simp only [hid]
                  refine tkk 24 121 (v := ?_) ?_ ?_
                  rotate_left 1
                  ·intro w hSw
                   obtain ⟨q0, q1, q2, q3, q4, q5⟩ := hSw
                   go_simp <;> with_reducible rfl
                  simp only [Act.put, List.setIfInBounds_toArray]
                  dsimp only [List.set_cons_succ, List.set_cons_zero]
                  refine tkk 25 122 (v := ?_) ?_ ?_
                  rotate_left 1
                  ·intro w hSw
                   obtain ⟨q0, q1, q2, q3, q4, q5⟩ := hSw
                   go_simp <;> with_reducible rfl
                  simp only [Act.put, List.setIfInBounds_toArray]
                  dsimp only [List.set_cons_succ, List.set_cons_zero]
                  refine tkk 26 123 (v := ?_) ?_ ?_
                  rotate_left 1
                  ·intro w hSw
                   obtain ⟨q0, q1, q2, q3, q4, q5⟩ := hSw
                   go_simp <;> with_reducible rfl
                  simp only [Act.put, List.setIfInBounds_toArray]
                  dsimp only [List.set_cons_succ, List.set_cons_zero]
                  refine tkk 27 124 (v := ?_) ?_ ?_
                  rotate_left 1
                  ·intro w hSw
                   obtain ⟨q0, q1, q2, q3, q4, q5⟩ := hSw
                   go_simp <;> with_reducible rfl
                  simp only [Act.put, List.setIfInBounds_toArray]
                  dsimp only [List.set_cons_succ, List.set_cons_zero]
                  refine tkk 28 125 (v := ?_) ?_ ?_
                  rotate_left 1
                  ·intro w hSw
                   obtain ⟨q0, q1, q2, q3, q4, q5⟩ := hSw
                   go_simp <;> with_reducible rfl
                  simp only [Act.put, List.setIfInBounds_toArray]
                  dsimp only [List.set_cons_succ, List.set_cons_zero]
                  refine wpAnyH_ready (rs := [29]) (by kernel_rfl) (by simp) ?_
                  refine AllReadyH.cons rfl (fun KK hKK => ?_) AllReadyH.nil
                  go_simp
                  refine (HAT.out _ e.id (HVK.out _ BD.out).1 (HVK.out _ BD.out).2).mono ?_
                  rintro e9 w9 ⟨rfl, b9⟩
                  have B9 : Hid (Below X.heap.size X w9) := BD.out.trans (b9.mono BD.out.size)
                  clear b9
                  simp only [hai]
                  go_simp
                  refine hKK.out _ _ (HSF.out _ B9.out) (fun hHeld2 => ?_)
                  clear hKK KK hHeld
                  have hHeld := hHeld2
                  clear hHeld2
                  refine tkk 30 127 (v := ?_) ?_ ?_
                  rotate_left 1
                  ·intro w hSw
                   obtain ⟨q0, q1, q2, q3, q4, q5⟩ := hSw
                   go_simp <;> with_reducible rfl
                  simp only [Act.put, List.setIfInBounds_toArray]
                  dsimp only [List.set_cons_succ, List.set_cons_zero]
                  try simp only [hlt0]
                  refine tkk 31 128 (v := ?_) ?_ ?_
                  rotate_left 1
                  ·intro w hSw
                   obtain ⟨q0, q1, q2, q3, q4, q5⟩ := hSw
                   go_simp <;> with_reducible rfl
                  simp only [Act.put, List.setIfInBounds_toArray]
                  dsimp only [List.set_cons_succ, List.set_cons_zero]
                  refine wpAnyH_done (by kernel_rfl) ?_ _
                  go_wp2_with fail
                  go_meet
                  case rel => exact ⟨by rw [HW.out]; rfl, B9⟩
                 | some x =>
                  have hai : atI LN e.id = (x : Int) := atI_some hax
                  have hlt0 : decide ((x : Int) < 0) = false := decide_eq_false (by omega)
                  have HW : Hid ((nameB e.nm.data.toList && ((aheadN nn 0).map fun q => ltS q e.nm).getD true && !decide (e.id = 1) && (atN LN e.id).isSome) = true) := by unfold Hid; simp [hax, hi1, hnm, HLT.out]
                  clear hi1 hax
                  refine wp_region_held_drew (S := SIn wr.heap.size (w.heap.size + 1) w.heap.size e e.nm next (.slice (some ⟨b2, o2, none⟩) nn.length cap2) (.slice a L.length cap) b2 (o2 + 0 * 2)) (by kernel_rfl) (HSF.out _ (Below.refl _ _).drew) (fun hHeld => ?_)
                  have BD : Hid (Below X.heap.size X X.drew) := (Below.refl _ _).drew
                  generalize X.drew = D at BD hHeld ⊢
                  refine tkk 0 97 (v := ?_) ?_ ?_
                  rotate_left 1
                  ·intro w hSw
                   obtain ⟨q0, q1, q2, q3, q4, q5⟩ := hSw
                   go_simp <;> with_reducible rfl
                  simp only [Act.put, List.setIfInBounds_toArray]
                  dsimp only [List.set_cons_succ, List.set_cons_zero]
                  refine tkk 1 98 (v := ?_) ?_ ?_
                  rotate_left 1
                  ·intro w hSw
                   obtain ⟨q0, q1, q2, q3, q4, q5⟩ := hSw
                   go_simp <;> with_reducible rfl
                  simp only [Act.put, List.setIfInBounds_toArray]
                  dsimp only [List.set_cons_succ, List.set_cons_zero]
                  refine wpAnyH_ready (rs := [2]) (by kernel_rfl) (by simp) ?_
                  refine AllReadyH.cons rfl (fun KK hKK => ?_) AllReadyH.nil
                  go_simp
                  refine (specNameOk_any _ _ HES.out).mono ?_
                  rintro e9 w9 ⟨rfl, rfl⟩
                  simp only [hnm]
                  go_simp
                  refine hKK.out _ _ (HSF.out _ BD.out) (fun hHeld2 => ?_)
                  clear hKK KK hHeld
                  have hHeld := hHeld2
                  clear hHeld2
                  refine tkk 3 100 (v := ?_) ?_ ?_
                  rotate_left 1
                  ·intro w hSw
                   obtain ⟨q0, q1, q2, q3, q4, q5⟩ := hSw
                   go_simp <;> with_reducible rfl
                  simp only [Act.put, List.setIfInBounds_toArray]
                  dsimp only [List.set_cons_succ, List.set_cons_zero]
                  refine tkk 4 101 (v := ?_) ?_ ?_
                  rotate_left 1
                  ·intro w hSw
                   obtain ⟨q0, q1, q2, q3, q4, q5⟩ := hSw
                   go_simp <;> with_reducible rfl
                  simp only [Act.put, List.setIfInBounds_toArray]
                  dsimp only [List.set_cons_succ, List.set_cons_zero]
                  refine tkk 5 102 (v := ?_) ?_ ?_
                  rotate_left 1
                  ·intro w hSw
                   obtain ⟨q0, q1, q2, q3, q4, q5⟩ := hSw
                   go_simp <;> with_reducible rfl
                  simp only [Act.put, List.setIfInBounds_toArray]
                  dsimp only [List.set_cons_succ, List.set_cons_zero]
                  refine tkk 6 103 (v := ?_) ?_ ?_
                  rotate_left 1
                  ·intro w hSw
                   obtain ⟨q0, q1, q2, q3, q4, q5⟩ := hSw
                   go_simp <;> with_reducible rfl
                  simp only [Act.put, List.setIfInBounds_toArray]
                  dsimp only [List.set_cons_succ, List.set_cons_zero]
                  try simp only [h00]
                  refine tkk 7 104 (v := ?_) ?_ ?_
                  rotate_left 1
                  ·intro w hSw
                   obtain ⟨q0, q1, q2, q3, q4, q5⟩ := hSw
                   go_simp <;> with_reducible rfl
                  simp only [Act.put, List.setIfInBounds_toArray]
                  dsimp only [List.set_cons_succ, List.set_cons_zero]
                  refine skk 8 105 ?_
                  simp only [Act.put, List.setIfInBounds_toArray]
                  dsimp only [List.set_cons_succ, List.set_cons_zero]
                  refine skk 9 106 ?_
                  simp only [Act.put, List.setIfInBounds_toArray]
                  dsimp only [List.set_cons_succ, List.set_cons_zero]
                  refine skk 10 107 ?_
                  simp only [Act.put, List.setIfInBounds_toArray]
                  dsimp only [List.set_cons_succ, List.set_cons_zero]
                  refine skk 11 108 ?_
                  simp only [Act.put, List.setIfInBounds_toArray]
                  dsimp only [List.set_cons_succ, List.set_cons_zero]
                  refine skk 12 109 ?_
                  simp only [Act.put, List.setIfInBounds_toArray]
                  dsimp only [List.set_cons_succ, List.set_cons_zero]
                  refine skk 13 110 ?_
                  simp only [Act.put, List.setIfInBounds_toArray]
                  dsimp only [List.set_cons_succ, List.set_cons_zero]
                  refine skk 14 111 ?_
                  simp only [Act.put, List.setIfInBounds_toArray]
                  dsimp only [List.set_cons_succ, List.set_cons_zero]
                  refine skk 15 112 ?_
                  simp only [Act.put, List.setIfInBounds_toArray]
                  dsimp only [List.set_cons_succ, List.set_cons_zero]
                  refine skk 16 113 ?_
                  simp only [Act.put, List.setIfInBounds_toArray]
                  dsimp only [List.set_cons_succ, List.set_cons_zero]
                  refine skk 17 114 ?_
                  simp only [Act.put, List.setIfInBounds_toArray]
                  dsimp only [List.set_cons_succ, List.set_cons_zero]
                  refine tkk 18 115 (v := ?_) ?_ ?_
                  rotate_left 1
                  ·intro w hSw
                   obtain ⟨q0, q1, q2, q3, q4, q5⟩ := hSw
                   go_simp <;> with_reducible rfl
                  simp only [Act.put, List.setIfInBounds_toArray]
                  dsimp only [List.set_cons_succ, List.set_cons_zero]
                  refine tkk 19 116 (v := ?_) ?_ ?_
                  rotate_left 1
                  ·intro w hSw
                   obtain ⟨q0, q1, q2, q3, q4, q5⟩ := hSw
                   go_simp <;> with_reducible rfl
                  simp only [Act.put, List.setIfInBounds_toArray]
                  dsimp only [List.set_cons_succ, List.set_cons_zero]
                  refine tkk 20 117 (v := ?_) ?_ ?_
                  rotate_left 1
                  ·intro w hSw
                   obtain ⟨q0, q1, q2, q3, q4, q5⟩ := hSw
                   go_simp <;> with_reducible rfl
                  simp only [Act.put, List.setIfInBounds_toArray]
                  dsimp only [List.set_cons_succ, List.set_cons_zero]
                  refine tkk 21 118 (v := ?_) ?_ ?_
                  rotate_left 1
                  ·intro w hSw
                   obtain ⟨q0, q1, q2, q3, q4, q5⟩ := hSw
                   go_simp <;> with_reducible rfl
                  simp only [Act.put, List.setIfInBounds_toArray]
                  dsimp only [List.set_cons_succ, List.set_cons_zero]
                  refine tkk 22 119 (v := ?_) ?_ ?_
                  rotate_left 1
                  ·intro w hSw
                   obtain ⟨q0, q1, q2, q3, q4, q5⟩ := hSw
                   go_simp <;> with_reducible rfl
                  simp only [Act.put, List.setIfInBounds_toArray]
                  dsimp only [List.set_cons_succ, List.set_cons_zero]
                  refine tkk 23 120 (v := ?_) ?_ ?_
                  rotate_left 1
                  ·intro w hSw
                   obtain ⟨q0, q1, q2, q3, q4, q5⟩ := hSw
                   go_simp <;> with_reducible rfl
                  simp only [Act.put, List.setIfInBounds_toArray]
                  dsimp only [List.set_cons_succ, List.set_cons_zero]
                  try simp only [hid]
                  refine tkk 24 121 (v := ?_) ?_ ?_
                  rotate_left 1
                  ·intro w hSw
                   obtain ⟨q0, q1, q2, q3, q4, q5⟩ := hSw
                   go_simp <;> with_reducible rfl
                  simp only [Act.put, List.setIfInBounds_toArray]
                  dsimp only [List.set_cons_succ, List.set_cons_zero]
                  refine tkk 25 122 (v := ?_) ?_ ?_
                  rotate_left 1
                  ·intro w hSw
                   obtain ⟨q0, q1, q2, q3, q4, q5⟩ := hSw
                   go_simp <;> with_reducible rfl
                  simp only [Act.put, List.setIfInBounds_toArray]
                  dsimp only [List.set_cons_succ, List.set_cons_zero]
                  refine tkk 26 123 (v := ?_) ?_ ?_
                  rotate_left 1
                  ·intro w hSw
                   obtain ⟨q0, q1, q2, q3, q4, q5⟩ := hSw
                   go_simp <;> with_reducible rfl
                  simp only [Act.put, List.setIfInBounds_toArray]
                  dsimp only [List.set_cons_succ, List.set_cons_zero]
                  refine tkk 27 124 (v := ?_) ?_ ?_
                  rotate_left 1
                  ·intro w hSw
                   obtain ⟨q0, q1, q2, q3, q4, q5⟩ := hSw
                   go_simp <;> with_reducible rfl
                  simp only [Act.put, List.setIfInBounds_toArray]
                  dsimp only [List.set_cons_succ, List.set_cons_zero]
                  refine tkk 28 125 (v := ?_) ?_ ?_
                  rotate_left 1
                  ·intro w hSw
                   obtain ⟨q0, q1, q2, q3, q4, q5⟩ := hSw
                   go_simp <;> with_reducible rfl
                  simp only [Act.put, List.setIfInBounds_toArray]
                  dsimp only [List.set_cons_succ, List.set_cons_zero]
                  refine wpAnyH_ready (rs := [29]) (by kernel_rfl) (by simp) ?_
                  refine AllReadyH.cons rfl (fun KK hKK => ?_) AllReadyH.nil
                  go_simp
                  refine (HAT.out _ e.id (HVK.out _ BD.out).1 (HVK.out _ BD.out).2).mono ?_
                  rintro e9 w9 ⟨rfl, b9⟩
                  have B9 : Hid (Below X.heap.size X w9) := BD.out.trans (b9.mono BD.out.size)
                  clear b9
                  simp only [hai]
                  go_simp
                  refine hKK.out _ _ (HSF.out _ B9.out) (fun hHeld2 => ?_)
                  clear hKK KK hHeld
                  have hHeld := hHeld2
                  clear hHeld2
                  refine tkk 30 127 (v := ?_) ?_ ?_
                  rotate_left 1
                  ·intro w hSw
                   obtain ⟨q0, q1, q2, q3, q4, q5⟩ := hSw
                   go_simp <;> with_reducible rfl
                  simp only [Act.put, List.setIfInBounds_toArray]
                  dsimp only [List.set_cons_succ, List.set_cons_zero]
                  try simp only [hlt0]
                  refine tkk 31 128 (v := ?_) ?_ ?_
                  rotate_left 1
                  ·intro w hSw
                   obtain ⟨q0, q1, q2, q3, q4, q5⟩ := hSw
                   go_simp <;> with_reducible rfl
                  simp only [Act.put, List.setIfInBounds_toArray]
                  dsimp only [List.set_cons_succ, List.set_cons_zero]
                  refine wpAnyH_done (by kernel_rfl) ?_ _
                  go_wp2_with fail
                  go_meet
                  case rel => exact ⟨by rw [HW.out]; rfl, B9⟩
               ·obtain ⟨k, rfl⟩ : ∃ k, j = k + 1 := ⟨j - 1, by omega⟩
                have hk : k < nn.length := by omega
                obtain ⟨d2', _⟩ := HDD.out k hk
                have hah := aheadN_succ hk
                generalize nn[k].nm = pn at d2' hah
                replace d2' := atCell HBW.out d2' (by omega)
                have HSF : Hid (∀ y, Below X.heap.size X y → SIn wr.heap.size (w.heap.size + 1) w.heap.size e pn next (.slice (some ⟨b2, o2, none⟩) nn.length cap2) (.slice a L.length cap) b2 (o2 + k * 2) y) := fun y hy => HSG.out y hy pn _ d2'
                have h00 : decide ((0 : Int) < ((k + 1 : Nat) : Int)) = true := decide_eq_true (by omega)
                have hsub : IntKind.i64.wrap (((k + 1 : Nat) : Int) - 1) = (k : Int) := by rw [IntKind.wrap_i64]; omega
                have hsub3 : IntKind.i64.wrap (k : Int) = (k : Int) := by rw [IntKind.wrap_i64]; omega
                have hsub2 : IntKind.i64.wrap ((k : Int) + 1 - 1) = (k : Int) := by rw [IntKind.wrap_i64]; omega
                have h00' : decide ((0 : Int) < (k : Int) + 1) = true := decide_eq_true (by omega)
                have i2 : (0 : Int) ≤ (k : Int) ∧ (k : Int) < (nn.length : Int) := by omega
                have HAH := Hid.intro hah
                clear hah d2'
                cases hltp : ltS pn e.nm with
                | false =>
                 have hlt2 : (!Op.bytesLess pn.toList e.nm.toList) = true := by rw [ltS] at hltp; rw [hltp]; rfl
                 have HW : Hid ((nameB e.nm.data.toList && ((aheadN nn (k + 1)).map fun q => ltS q e.nm).getD true && !decide (e.id = 1) && (atN LN e.id).isSome) = false) := by unfold Hid; rw [HAH.out]; simp [hltp]
                 refine wp_region_held_drew (S := SIn wr.heap.size (w.heap.size + 1) w.heap.size e pn next (.slice (some ⟨b2, o2, none⟩) nn.length cap2) (.slice a L.length cap) b2 (o2 + k * 2)) (by kernel_rfl) (HSF.out _ (Below.refl _ _).drew) (fun hHeld => ?_)
                 have BD : Hid (Below X.heap.size X X.drew) := (Below.refl _ _).drew
                 generalize X.drew = D at BD hHeld ⊢
                 refine tkk 0 97 (v := ?_) ?_ ?_
                 rotate_left 1
                 ·intro w hSw
                  obtain ⟨q0, q1, q2, q3, q4, q5⟩ := hSw
                  go_simp <;> with_reducible rfl
                 simp only [Act.put, List.setIfInBounds_toArray]
                 dsimp only [List.set_cons_succ, List.set_cons_zero]
                 refine tkk 1 98 (v := ?_) ?_ ?_
                 rotate_left 1
                 ·intro w hSw
                  obtain ⟨q0, q1, q2, q3, q4, q5⟩ := hSw
                  go_simp <;> with_reducible rfl
                 simp only [Act.put, List.setIfInBounds_toArray]
                 dsimp only [List.set_cons_succ, List.set_cons_zero]
                 refine wpAnyH_ready (rs := [2]) (by kernel_rfl) (by simp) ?_
                 refine AllReadyH.cons rfl (fun KK hKK => ?_) AllReadyH.nil
                 go_simp
                 refine (specNameOk_any _ _ HES.out).mono ?_
                 rintro e9 w9 ⟨rfl, rfl⟩
                 simp only [hnm]
                 go_simp
                 refine hKK.out _ _ (HSF.out _ BD.out) (fun hHeld2 => ?_)
                 clear hKK KK hHeld
                 have hHeld := hHeld2
                 clear hHeld2
                 refine tkk 3 100 (v := ?_) ?_ ?_
                 rotate_left 1
                 ·intro w hSw
                  obtain ⟨q0, q1, q2, q3, q4, q5⟩ := hSw
                  go_simp <;> with_reducible rfl
                 simp only [Act.put, List.setIfInBounds_toArray]
                 dsimp only [List.set_cons_succ, List.set_cons_zero]
                 refine tkk 4 101 (v := ?_) ?_ ?_
                 rotate_left 1
                 ·intro w hSw
                  obtain ⟨q0, q1, q2, q3, q4, q5⟩ := hSw
                  go_simp <;> with_reducible rfl
                 simp only [Act.put, List.setIfInBounds_toArray]
                 dsimp only [List.set_cons_succ, List.set_cons_zero]
                 refine tkk 5 102 (v := ?_) ?_ ?_
                 rotate_left 1
                 ·intro w hSw
                  obtain ⟨q0, q1, q2, q3, q4, q5⟩ := hSw
                  go_simp <;> with_reducible rfl
                 simp only [Act.put, List.setIfInBounds_toArray]
                 dsimp only [List.set_cons_succ, List.set_cons_zero]
                 refine tkk 6 103 (v := ?_) ?_ ?_
                 rotate_left 1
                 ·intro w hSw
                  obtain ⟨q0, q1, q2, q3, q4, q5⟩ := hSw
                  go_simp <;> with_reducible rfl
                 simp only [Act.put, List.setIfInBounds_toArray]
                 dsimp only [List.set_cons_succ, List.set_cons_zero]
                 first | simp only [h00] | simp only [h00'] | skip
                 refine tkk 7 104 (v := ?_) ?_ ?_
                 rotate_left 1
                 ·intro w hSw
                  obtain ⟨q0, q1, q2, q3, q4, q5⟩ := hSw
                  go_simp <;> with_reducible rfl
                 simp only [Act.put, List.setIfInBounds_toArray]
                 dsimp only [List.set_cons_succ, List.set_cons_zero]
                 refine tkk 8 105 (v := ?_) ?_ ?_
                 rotate_left 1
                 ·intro w hSw
                  obtain ⟨q0, q1, q2, q3, q4, q5⟩ := hSw
                  go_simp <;> with_reducible rfl
                 simp only [Act.put, List.setIfInBounds_toArray]
                 dsimp only [List.set_cons_succ, List.set_cons_zero]
                 refine tkk 9 106 (v := ?_) ?_ ?_
                 rotate_left 1
                 ·intro w hSw
                  obtain ⟨q0, q1, q2, q3, q4, q5⟩ := hSw
                  go_simp <;> with_reducible rfl
                 simp only [Act.put, List.setIfInBounds_toArray]
                 dsimp only [List.set_cons_succ, List.set_cons_zero]
                 refine tkk 10 107 (v := ?_) ?_ ?_
                 rotate_left 1
                 ·intro w hSw
                  obtain ⟨q0, q1, q2, q3, q4, q5⟩ := hSw
                  go_simp <;> with_reducible rfl
                 simp only [Act.put, List.setIfInBounds_toArray]
                 dsimp only [List.set_cons_succ, List.set_cons_zero]
                 refine tkk 11 108 (v := ?_) ?_ ?_
                 rotate_left 1
                 ·intro w hSw
                  obtain ⟨q0, q1, q2, q3, q4, q5⟩ := hSw
                  go_simp <;> with_reducible rfl
                 simp only [Act.put, List.setIfInBounds_toArray]
                 dsimp only [List.set_cons_succ, List.set_cons_zero]
                 first | simp only [hsub3] | simp only [hsub] | simp only [hsub2] | skip
                 refine tkk 12 109 (v := ?_) ?_ ?_
                 rotate_left 1
                 ·intro w hSw
                  obtain ⟨q0, q1, q2, q3, q4, q5⟩ := hSw
                  go_simp <;> with_reducible rfl
                 simp only [Act.put, List.setIfInBounds_toArray]
                 dsimp only [List.set_cons_succ, List.set_cons_zero]
                 refine tkk 13 110 (v := ?_) ?_ ?_
                 rotate_left 1
                 ·intro w hSw
                  obtain ⟨q0, q1, q2, q3, q4, q5⟩ := hSw
                  go_simp <;> with_reducible rfl
                 simp only [Act.put, List.setIfInBounds_toArray]
                 dsimp only [List.set_cons_succ, List.set_cons_zero]
                 refine tkk 14 111 (v := ?_) ?_ ?_
                 rotate_left 1
                 ·intro w hSw
                  obtain ⟨q0, q1, q2, q3, q4, q5⟩ := hSw
                  go_simp <;> with_reducible rfl
                 simp only [Act.put, List.setIfInBounds_toArray]
                 dsimp only [List.set_cons_succ, List.set_cons_zero]
                 refine tkk 15 112 (v := ?_) ?_ ?_
                 rotate_left 1
                 ·intro w hSw
                  obtain ⟨q0, q1, q2, q3, q4, q5⟩ := hSw
                  go_simp <;> with_reducible rfl
                 simp only [Act.put, List.setIfInBounds_toArray]
                 dsimp only [List.set_cons_succ, List.set_cons_zero]
                 refine tkk 16 113 (v := ?_) ?_ ?_
                 rotate_left 1
                 ·intro w hSw
                  obtain ⟨q0, q1, q2, q3, q4, q5⟩ := hSw
                  go_simp <;> with_reducible rfl
                 simp only [Act.put, List.setIfInBounds_toArray]
                 dsimp only [List.set_cons_succ, List.set_cons_zero]
                 refine tkk 17 114 (v := ?_) ?_ ?_
                 rotate_left 1
                 ·intro w hSw
                  obtain ⟨q0, q1, q2, q3, q4, q5⟩ := hSw
                  go_simp <;> with_reducible rfl
                 simp only [Act.put, List.setIfInBounds_toArray]
                 dsimp only [List.set_cons_succ, List.set_cons_zero]
                 try simp only [hlt2]
                 refine tkk 18 115 (v := ?_) ?_ ?_
                 rotate_left 1
                 ·intro w hSw
                  obtain ⟨q0, q1, q2, q3, q4, q5⟩ := hSw
                  go_simp <;> with_reducible rfl
                 simp only [Act.put, List.setIfInBounds_toArray]
                 dsimp only [List.set_cons_succ, List.set_cons_zero]
                 refine tkk 19 116 (v := ?_) ?_ ?_
                 rotate_left 1
                 ·intro w hSw
                  obtain ⟨q0, q1, q2, q3, q4, q5⟩ := hSw
                  go_simp <;> with_reducible rfl
                 simp only [Act.put, List.setIfInBounds_toArray]
                 dsimp only [List.set_cons_succ, List.set_cons_zero]
                 refine tkk 20 117 (v := ?_) ?_ ?_
                 rotate_left 1
                 ·intro w hSw
                  obtain ⟨q0, q1, q2, q3, q4, q5⟩ := hSw
                  go_simp <;> with_reducible rfl
                 simp only [Act.put, List.setIfInBounds_toArray]
                 dsimp only [List.set_cons_succ, List.set_cons_zero]
                 refine skk 21 118 ?_
                 simp only [Act.put, List.setIfInBounds_toArray]
                 dsimp only [List.set_cons_succ, List.set_cons_zero]
                 refine skk 22 119 ?_
                 simp only [Act.put, List.setIfInBounds_toArray]
                 dsimp only [List.set_cons_succ, List.set_cons_zero]
                 refine skk 23 120 ?_
                 simp only [Act.put, List.setIfInBounds_toArray]
                 dsimp only [List.set_cons_succ, List.set_cons_zero]
                 refine tkk 24 121 (v := ?_) ?_ ?_
                 rotate_left 1
                 ·intro w hSw
                  obtain ⟨q0, q1, q2, q3, q4, q5⟩ := hSw
                  go_simp <;> with_reducible rfl
                 simp only [Act.put, List.setIfInBounds_toArray]
                 dsimp only [List.set_cons_succ, List.set_cons_zero]
                 refine tkk 25 122 (v := ?_) ?_ ?_
                 rotate_left 1
                 ·intro w hSw
                  obtain ⟨q0, q1, q2, q3, q4, q5⟩ := hSw
                  go_simp <;> with_reducible rfl
                 simp only [Act.put, List.setIfInBounds_toArray]
                 dsimp only [List.set_cons_succ, List.set_cons_zero]
                 refine skk 26 123 ?_
                 simp only [Act.put, List.setIfInBounds_toArray]
                 dsimp only [List.set_cons_succ, List.set_cons_zero]
                 refine skk 27 124 ?_
                 simp only [Act.put, List.setIfInBounds_toArray]
                 dsimp only [List.set_cons_succ, List.set_cons_zero]
                 refine skk 28 125 ?_
                 simp only [Act.put, List.setIfInBounds_toArray]
                 dsimp only [List.set_cons_succ, List.set_cons_zero]
                 refine skk 29 126 ?_
                 simp only [Act.put, List.setIfInBounds_toArray]
                 dsimp only [List.set_cons_succ, List.set_cons_zero]
                 refine skk 30 127 ?_
                 simp only [Act.put, List.setIfInBounds_toArray]
                 dsimp only [List.set_cons_succ, List.set_cons_zero]
                 refine tkk 31 128 (v := ?_) ?_ ?_
                 rotate_left 1
                 ·intro w hSw
                  obtain ⟨q0, q1, q2, q3, q4, q5⟩ := hSw
                  go_simp <;> with_reducible rfl
                 simp only [Act.put, List.setIfInBounds_toArray]
                 dsimp only [List.set_cons_succ, List.set_cons_zero]
                 refine wpAnyH_done (by kernel_rfl) ?_ _
                 go_wp2_with fail
                 go_meet
                 case rel => exact ⟨by rw [HW.out]; rfl, BD⟩
                | true =>
                 have hlt2 : (!Op.bytesLess pn.toList e.nm.toList) = false := by rw [ltS] at hltp; rw [hltp]; rfl
                 have HLT : Hid (((aheadN nn (k + 1)).map fun q => ltS q e.nm).getD true = true) := by unfold Hid; rw [HAH.out]; simp [hltp]
                 by_cases hi1 : e.id = 1
                 ·have hid : (e.id == 1) = true := by simpa using hi1
                  have HW : Hid ((nameB e.nm.data.toList && ((aheadN nn (k + 1)).map fun q => ltS q e.nm).getD true && !decide (e.id = 1) && (atN LN e.id).isSome) = false) := by unfold Hid; simp [hi1]
                  clear hi1
                  refine wp_region_held_drew (S := SIn wr.heap.size (w.heap.size + 1) w.heap.size e pn next (.slice (some ⟨b2, o2, none⟩) nn.length cap2) (.slice a L.length cap) b2 (o2 + k * 2)) (by kernel_rfl) (HSF.out _ (Below.refl _ _).drew) (fun hHeld => ?_)
                  have BD : Hid (Below X.heap.size X X.drew) := (Below.refl _ _).drew
                  generalize X.drew = D at BD hHeld ⊢
                  refine tkk 0 97 (v := ?_) ?_ ?_
                  rotate_left 1
                  ·intro w hSw
                   obtain ⟨q0, q1, q2, q3, q4, q5⟩ := hSw
                   go_simp <;> with_reducible rfl
                  simp only [Act.put, List.setIfInBounds_toArray]
                  dsimp only [List.set_cons_succ, List.set_cons_zero]
                  refine tkk 1 98 (v := ?_) ?_ ?_
                  rotate_left 1
                  ·intro w hSw
                   obtain ⟨q0, q1, q2, q3, q4, q5⟩ := hSw
                   go_simp <;> with_reducible rfl
                  simp only [Act.put, List.setIfInBounds_toArray]
                  dsimp only [List.set_cons_succ, List.set_cons_zero]
                  refine wpAnyH_ready (rs := [2]) (by kernel_rfl) (by simp) ?_
                  refine AllReadyH.cons rfl (fun KK hKK => ?_) AllReadyH.nil
                  go_simp
                  refine (specNameOk_any _ _ HES.out).mono ?_
                  rintro e9 w9 ⟨rfl, rfl⟩
                  simp only [hnm]
                  go_simp
                  refine hKK.out _ _ (HSF.out _ BD.out) (fun hHeld2 => ?_)
                  clear hKK KK hHeld
                  have hHeld := hHeld2
                  clear hHeld2
                  refine tkk 3 100 (v := ?_) ?_ ?_
                  rotate_left 1
                  ·intro w hSw
                   obtain ⟨q0, q1, q2, q3, q4, q5⟩ := hSw
                   go_simp <;> with_reducible rfl
                  simp only [Act.put, List.setIfInBounds_toArray]
                  dsimp only [List.set_cons_succ, List.set_cons_zero]
                  refine tkk 4 101 (v := ?_) ?_ ?_
                  rotate_left 1
                  ·intro w hSw
                   obtain ⟨q0, q1, q2, q3, q4, q5⟩ := hSw
                   go_simp <;> with_reducible rfl
                  simp only [Act.put, List.setIfInBounds_toArray]
                  dsimp only [List.set_cons_succ, List.set_cons_zero]
                  refine tkk 5 102 (v := ?_) ?_ ?_
                  rotate_left 1
                  ·intro w hSw
                   obtain ⟨q0, q1, q2, q3, q4, q5⟩ := hSw
                   go_simp <;> with_reducible rfl
                  simp only [Act.put, List.setIfInBounds_toArray]
                  dsimp only [List.set_cons_succ, List.set_cons_zero]
                  refine tkk 6 103 (v := ?_) ?_ ?_
                  rotate_left 1
                  ·intro w hSw
                   obtain ⟨q0, q1, q2, q3, q4, q5⟩ := hSw
                   go_simp <;> with_reducible rfl
                  simp only [Act.put, List.setIfInBounds_toArray]
                  dsimp only [List.set_cons_succ, List.set_cons_zero]
                  first | simp only [h00] | simp only [h00'] | skip
                  refine tkk 7 104 (v := ?_) ?_ ?_
                  rotate_left 1
                  ·intro w hSw
                   obtain ⟨q0, q1, q2, q3, q4, q5⟩ := hSw
                   go_simp <;> with_reducible rfl
                  simp only [Act.put, List.setIfInBounds_toArray]
                  dsimp only [List.set_cons_succ, List.set_cons_zero]
                  refine tkk 8 105 (v := ?_) ?_ ?_
                  rotate_left 1
                  ·intro w hSw
                   obtain ⟨q0, q1, q2, q3, q4, q5⟩ := hSw
                   go_simp <;> with_reducible rfl
                  simp only [Act.put, List.setIfInBounds_toArray]
                  dsimp only [List.set_cons_succ, List.set_cons_zero]
                  refine tkk 9 106 (v := ?_) ?_ ?_
                  rotate_left 1
                  ·intro w hSw
                   obtain ⟨q0, q1, q2, q3, q4, q5⟩ := hSw
                   go_simp <;> with_reducible rfl
                  simp only [Act.put, List.setIfInBounds_toArray]
                  dsimp only [List.set_cons_succ, List.set_cons_zero]
                  refine tkk 10 107 (v := ?_) ?_ ?_
                  rotate_left 1
                  ·intro w hSw
                   obtain ⟨q0, q1, q2, q3, q4, q5⟩ := hSw
                   go_simp <;> with_reducible rfl
                  simp only [Act.put, List.setIfInBounds_toArray]
                  dsimp only [List.set_cons_succ, List.set_cons_zero]
                  refine tkk 11 108 (v := ?_) ?_ ?_
                  rotate_left 1
                  ·intro w hSw
                   obtain ⟨q0, q1, q2, q3, q4, q5⟩ := hSw
                   go_simp <;> with_reducible rfl
                  simp only [Act.put, List.setIfInBounds_toArray]
                  dsimp only [List.set_cons_succ, List.set_cons_zero]
                  first | simp only [hsub3] | simp only [hsub] | simp only [hsub2] | skip
                  refine tkk 12 109 (v := ?_) ?_ ?_
                  rotate_left 1
                  ·intro w hSw
                   obtain ⟨q0, q1, q2, q3, q4, q5⟩ := hSw
                   go_simp <;> with_reducible rfl
                  simp only [Act.put, List.setIfInBounds_toArray]
                  dsimp only [List.set_cons_succ, List.set_cons_zero]
                  refine tkk 13 110 (v := ?_) ?_ ?_
                  rotate_left 1
                  ·intro w hSw
                   obtain ⟨q0, q1, q2, q3, q4, q5⟩ := hSw
                   go_simp <;> with_reducible rfl
                  simp only [Act.put, List.setIfInBounds_toArray]
                  dsimp only [List.set_cons_succ, List.set_cons_zero]
                  refine tkk 14 111 (v := ?_) ?_ ?_
                  rotate_left 1
                  ·intro w hSw
                   obtain ⟨q0, q1, q2, q3, q4, q5⟩ := hSw
                   go_simp <;> with_reducible rfl
                  simp only [Act.put, List.setIfInBounds_toArray]
                  dsimp only [List.set_cons_succ, List.set_cons_zero]
                  refine tkk 15 112 (v := ?_) ?_ ?_
                  rotate_left 1
                  ·intro w hSw
                   obtain ⟨q0, q1, q2, q3, q4, q5⟩ := hSw
                   go_simp <;> with_reducible rfl
                  simp only [Act.put, List.setIfInBounds_toArray]
                  dsimp only [List.set_cons_succ, List.set_cons_zero]
                  refine tkk 16 113 (v := ?_) ?_ ?_
                  rotate_left 1
                  ·intro w hSw
                   obtain ⟨q0, q1, q2, q3, q4, q5⟩ := hSw
                   go_simp <;> with_reducible rfl
                  simp only [Act.put, List.setIfInBounds_toArray]
                  dsimp only [List.set_cons_succ, List.set_cons_zero]
                  refine tkk 17 114 (v := ?_) ?_ ?_
                  rotate_left 1
                  ·intro w hSw
                   obtain ⟨q0, q1, q2, q3, q4, q5⟩ := hSw
                   go_simp <;> with_reducible rfl
                  simp only [Act.put, List.setIfInBounds_toArray]
                  dsimp only [List.set_cons_succ, List.set_cons_zero]
                  try simp only [hlt2]
                  refine tkk 18 115 (v := ?_) ?_ ?_
                  rotate_left 1
                  ·intro w hSw
                   obtain ⟨q0, q1, q2, q3, q4, q5⟩ := hSw
                   go_simp <;> with_reducible rfl
                  simp only [Act.put, List.setIfInBounds_toArray]
                  dsimp only [List.set_cons_succ, List.set_cons_zero]
                  refine tkk 19 116 (v := ?_) ?_ ?_
                  rotate_left 1
                  ·intro w hSw
                   obtain ⟨q0, q1, q2, q3, q4, q5⟩ := hSw
                   go_simp <;> with_reducible rfl
                  simp only [Act.put, List.setIfInBounds_toArray]
                  dsimp only [List.set_cons_succ, List.set_cons_zero]
                  refine tkk 20 117 (v := ?_) ?_ ?_
                  rotate_left 1
                  ·intro w hSw
                   obtain ⟨q0, q1, q2, q3, q4, q5⟩ := hSw
                   go_simp <;> with_reducible rfl
                  simp only [Act.put, List.setIfInBounds_toArray]
                  dsimp only [List.set_cons_succ, List.set_cons_zero]
                  refine tkk 21 118 (v := ?_) ?_ ?_
                  rotate_left 1
                  ·intro w hSw
                   obtain ⟨q0, q1, q2, q3, q4, q5⟩ := hSw
                   go_simp <;> with_reducible rfl
                  simp only [Act.put, List.setIfInBounds_toArray]
                  dsimp only [List.set_cons_succ, List.set_cons_zero]
                  refine tkk 22 119 (v := ?_) ?_ ?_
                  rotate_left 1
                  ·intro w hSw
                   obtain ⟨q0, q1, q2, q3, q4, q5⟩ := hSw
                   go_simp <;> with_reducible rfl
                  simp only [Act.put, List.setIfInBounds_toArray]
                  dsimp only [List.set_cons_succ, List.set_cons_zero]
                  refine tkk 23 120 (v := ?_) ?_ ?_
                  rotate_left 1
                  ·intro w hSw
                   obtain ⟨q0, q1, q2, q3, q4, q5⟩ := hSw
                   go_simp <;> with_reducible rfl
                  simp only [Act.put, List.setIfInBounds_toArray]
                  dsimp only [List.set_cons_succ, List.set_cons_zero]
                  try simp only [hid]
                  refine tkk 24 121 (v := ?_) ?_ ?_
                  rotate_left 1
                  ·intro w hSw
                   obtain ⟨q0, q1, q2, q3, q4, q5⟩ := hSw
                   go_simp <;> with_reducible rfl
                  simp only [Act.put, List.setIfInBounds_toArray]
                  dsimp only [List.set_cons_succ, List.set_cons_zero]
                  refine tkk 25 122 (v := ?_) ?_ ?_
                  rotate_left 1
                  ·intro w hSw
                   obtain ⟨q0, q1, q2, q3, q4, q5⟩ := hSw
                   go_simp <;> with_reducible rfl
                  simp only [Act.put, List.setIfInBounds_toArray]
                  dsimp only [List.set_cons_succ, List.set_cons_zero]
                  refine skk 26 123 ?_
                  simp only [Act.put, List.setIfInBounds_toArray]
                  dsimp only [List.set_cons_succ, List.set_cons_zero]
                  refine skk 27 124 ?_
                  simp only [Act.put, List.setIfInBounds_toArray]
                  dsimp only [List.set_cons_succ, List.set_cons_zero]
                  refine skk 28 125 ?_
                  simp only [Act.put, List.setIfInBounds_toArray]
                  dsimp only [List.set_cons_succ, List.set_cons_zero]
                  refine skk 29 126 ?_
                  simp only [Act.put, List.setIfInBounds_toArray]
                  dsimp only [List.set_cons_succ, List.set_cons_zero]
                  refine skk 30 127 ?_
                  simp only [Act.put, List.setIfInBounds_toArray]
                  dsimp only [List.set_cons_succ, List.set_cons_zero]
                  refine tkk 31 128 (v := ?_) ?_ ?_
                  rotate_left 1
                  ·intro w hSw
                   obtain ⟨q0, q1, q2, q3, q4, q5⟩ := hSw
                   go_simp <;> with_reducible rfl
                  simp only [Act.put, List.setIfInBounds_toArray]
                  dsimp only [List.set_cons_succ, List.set_cons_zero]
                  refine wpAnyH_done (by kernel_rfl) ?_ _
                  go_wp2_with fail
                  go_meet
                  case rel => exact ⟨by rw [HW.out]; rfl, BD⟩
                 ·have hid : (e.id == 1) = false := by simpa using hi1
                  cases hax : atN LN e.id with
                  | none =>
                   have hai : atI LN e.id = -1 := atI_none hax
                   have hlt0 : decide ((-1 : Int) < 0) = true := by decide
                   have HW : Hid ((nameB e.nm.data.toList && ((aheadN nn (k + 1)).map fun q => ltS q e.nm).getD true && !decide (e.id = 1) && (atN LN e.id).isSome) = false) := by unfold Hid; simp [hax]
                   clear hi1 hax
                   refine wp_region_held_drew (S := SIn wr.heap.size (w.heap.size + 1) w.heap.size e pn next (.slice (some ⟨b2, o2, none⟩) nn.length cap2) (.slice a L.length cap) b2 (o2 + k * 2)) (by kernel_rfl) (HSF.out _ (Below.refl _ _).drew) (fun hHeld => ?_)
                   have BD : Hid (Below X.heap.size X X.drew) := (Below.refl _ _).drew
                   generalize X.drew = D at BD hHeld ⊢
                   refine tkk 0 97 (v := ?_) ?_ ?_
                   rotate_left 1
                   ·intro w hSw
                    obtain ⟨q0, q1, q2, q3, q4, q5⟩ := hSw
                    go_simp <;> with_reducible rfl
                   simp only [Act.put, List.setIfInBounds_toArray]
                   dsimp only [List.set_cons_succ, List.set_cons_zero]
                   refine tkk 1 98 (v := ?_) ?_ ?_
                   rotate_left 1
                   ·intro w hSw
                    obtain ⟨q0, q1, q2, q3, q4, q5⟩ := hSw
                    go_simp <;> with_reducible rfl
                   simp only [Act.put, List.setIfInBounds_toArray]
                   dsimp only [List.set_cons_succ, List.set_cons_zero]
                   refine wpAnyH_ready (rs := [2]) (by kernel_rfl) (by simp) ?_
                   refine AllReadyH.cons rfl (fun KK hKK => ?_) AllReadyH.nil
                   go_simp
                   refine (specNameOk_any _ _ HES.out).mono ?_
                   rintro e9 w9 ⟨rfl, rfl⟩
                   simp only [hnm]
                   go_simp
                   refine hKK.out _ _ (HSF.out _ BD.out) (fun hHeld2 => ?_)
                   clear hKK KK hHeld
                   have hHeld := hHeld2
                   clear hHeld2
                   refine tkk 3 100 (v := ?_) ?_ ?_
                   rotate_left 1
                   ·intro w hSw
                    obtain ⟨q0, q1, q2, q3, q4, q5⟩ := hSw
                    go_simp <;> with_reducible rfl
                   simp only [Act.put, List.setIfInBounds_toArray]
                   dsimp only [List.set_cons_succ, List.set_cons_zero]
                   refine tkk 4 101 (v := ?_) ?_ ?_
                   rotate_left 1
                   ·intro w hSw
                    obtain ⟨q0, q1, q2, q3, q4, q5⟩ := hSw
                    go_simp <;> with_reducible rfl
                   simp only [Act.put, List.setIfInBounds_toArray]
                   dsimp only [List.set_cons_succ, List.set_cons_zero]
                   refine tkk 5 102 (v := ?_) ?_ ?_
                   rotate_left 1
                   ·intro w hSw
                    obtain ⟨q0, q1, q2, q3, q4, q5⟩ := hSw
                    go_simp <;> with_reducible rfl
                   simp only [Act.put, List.setIfInBounds_toArray]
                   dsimp only [List.set_cons_succ, List.set_cons_zero]
                   refine tkk 6 103 (v := ?_) ?_ ?_
                   rotate_left 1
                   ·intro w hSw
                    obtain ⟨q0, q1, q2, q3, q4, q5⟩ := hSw
                    go_simp <;> with_reducible rfl
                   simp only [Act.put, List.setIfInBounds_toArray]
                   dsimp only [List.set_cons_succ, List.set_cons_zero]
                   first | simp only [h00] | simp only [h00'] | skip
                   refine tkk 7 104 (v := ?_) ?_ ?_
                   rotate_left 1
                   ·intro w hSw
                    obtain ⟨q0, q1, q2, q3, q4, q5⟩ := hSw
                    go_simp <;> with_reducible rfl
                   simp only [Act.put, List.setIfInBounds_toArray]
                   dsimp only [List.set_cons_succ, List.set_cons_zero]
                   refine tkk 8 105 (v := ?_) ?_ ?_
                   rotate_left 1
                   ·intro w hSw
                    obtain ⟨q0, q1, q2, q3, q4, q5⟩ := hSw
                    go_simp <;> with_reducible rfl
                   simp only [Act.put, List.setIfInBounds_toArray]
                   dsimp only [List.set_cons_succ, List.set_cons_zero]
                   refine tkk 9 106 (v := ?_) ?_ ?_
                   rotate_left 1
                   ·intro w hSw
                    obtain ⟨q0, q1, q2, q3, q4, q5⟩ := hSw
                    go_simp <;> with_reducible rfl
                   simp only [Act.put, List.setIfInBounds_toArray]
                   dsimp only [List.set_cons_succ, List.set_cons_zero]
                   refine tkk 10 107 (v := ?_) ?_ ?_
                   rotate_left 1
                   ·intro w hSw
                    obtain ⟨q0, q1, q2, q3, q4, q5⟩ := hSw
                    go_simp <;> with_reducible rfl
                   simp only [Act.put, List.setIfInBounds_toArray]
                   dsimp only [List.set_cons_succ, List.set_cons_zero]
                   refine tkk 11 108 (v := ?_) ?_ ?_
                   rotate_left 1
                   ·intro w hSw
                    obtain ⟨q0, q1, q2, q3, q4, q5⟩ := hSw
                    go_simp <;> with_reducible rfl
                   simp only [Act.put, List.setIfInBounds_toArray]
                   dsimp only [List.set_cons_succ, List.set_cons_zero]
                   first | simp only [hsub3] | simp only [hsub] | simp only [hsub2] | skip
                   refine tkk 12 109 (v := ?_) ?_ ?_
                   rotate_left 1
                   ·intro w hSw
                    obtain ⟨q0, q1, q2, q3, q4, q5⟩ := hSw
                    go_simp <;> with_reducible rfl
                   simp only [Act.put, List.setIfInBounds_toArray]
                   dsimp only [List.set_cons_succ, List.set_cons_zero]
                   refine tkk 13 110 (v := ?_) ?_ ?_
                   rotate_left 1
                   ·intro w hSw
                    obtain ⟨q0, q1, q2, q3, q4, q5⟩ := hSw
                    go_simp <;> with_reducible rfl
                   simp only [Act.put, List.setIfInBounds_toArray]
                   dsimp only [List.set_cons_succ, List.set_cons_zero]
                   refine tkk 14 111 (v := ?_) ?_ ?_
                   rotate_left 1
                   ·intro w hSw
                    obtain ⟨q0, q1, q2, q3, q4, q5⟩ := hSw
                    go_simp <;> with_reducible rfl
                   simp only [Act.put, List.setIfInBounds_toArray]
                   dsimp only [List.set_cons_succ, List.set_cons_zero]
                   refine tkk 15 112 (v := ?_) ?_ ?_
                   rotate_left 1
                   ·intro w hSw
                    obtain ⟨q0, q1, q2, q3, q4, q5⟩ := hSw
                    go_simp <;> with_reducible rfl
                   simp only [Act.put, List.setIfInBounds_toArray]
                   dsimp only [List.set_cons_succ, List.set_cons_zero]
                   refine tkk 16 113 (v := ?_) ?_ ?_
                   rotate_left 1
                   ·intro w hSw
                    obtain ⟨q0, q1, q2, q3, q4, q5⟩ := hSw
                    go_simp <;> with_reducible rfl
                   simp only [Act.put, List.setIfInBounds_toArray]
                   dsimp only [List.set_cons_succ, List.set_cons_zero]
                   refine tkk 17 114 (v := ?_) ?_ ?_
                   rotate_left 1
                   ·intro w hSw
                    obtain ⟨q0, q1, q2, q3, q4, q5⟩ := hSw
                    go_simp <;> with_reducible rfl
                   simp only [Act.put, List.setIfInBounds_toArray]
                   dsimp only [List.set_cons_succ, List.set_cons_zero]
                   try simp only [hlt2]
                   refine tkk 18 115 (v := ?_) ?_ ?_
                   rotate_left 1
                   ·intro w hSw
                    obtain ⟨q0, q1, q2, q3, q4, q5⟩ := hSw
                    go_simp <;> with_reducible rfl
                   simp only [Act.put, List.setIfInBounds_toArray]
                   dsimp only [List.set_cons_succ, List.set_cons_zero]
                   refine tkk 19 116 (v := ?_) ?_ ?_
                   rotate_left 1
                   ·intro w hSw
                    obtain ⟨q0, q1, q2, q3, q4, q5⟩ := hSw
                    go_simp <;> with_reducible rfl
                   simp only [Act.put, List.setIfInBounds_toArray]
                   dsimp only [List.set_cons_succ, List.set_cons_zero]
                   refine tkk 20 117 (v := ?_) ?_ ?_
                   rotate_left 1
                   ·intro w hSw
                    obtain ⟨q0, q1, q2, q3, q4, q5⟩ := hSw
                    go_simp <;> with_reducible rfl
                   simp only [Act.put, List.setIfInBounds_toArray]
                   dsimp only [List.set_cons_succ, List.set_cons_zero]
                   refine tkk 21 118 (v := ?_) ?_ ?_
                   rotate_left 1
                   ·intro w hSw
                    obtain ⟨q0, q1, q2, q3, q4, q5⟩ := hSw
                    go_simp <;> with_reducible rfl
                   simp only [Act.put, List.setIfInBounds_toArray]
                   dsimp only [List.set_cons_succ, List.set_cons_zero]
                   refine tkk 22 119 (v := ?_) ?_ ?_
                   rotate_left 1
                   ·intro w hSw
                    obtain ⟨q0, q1, q2, q3, q4, q5⟩ := hSw
                    go_simp <;> with_reducible rfl
                   simp only [Act.put, List.setIfInBounds_toArray]
                   dsimp only [List.set_cons_succ, List.set_cons_zero]
                   refine tkk 23 120 (v := ?_) ?_ ?_
                   rotate_left 1
                   ·intro w hSw
                    obtain ⟨q0, q1, q2, q3, q4, q5⟩ := hSw
                    go_simp <;> with_reducible rfl
                   simp only [Act.put, List.setIfInBounds_toArray]
                   dsimp only [List.set_cons_succ, List.set_cons_zero]
                   try simp only [hid]
                   refine tkk 24 121 (v := ?_) ?_ ?_
                   rotate_left 1
                   ·intro w hSw
                    obtain ⟨q0, q1, q2, q3, q4, q5⟩ := hSw
                    go_simp <;> with_reducible rfl
                   simp only [Act.put, List.setIfInBounds_toArray]
                   dsimp only [List.set_cons_succ, List.set_cons_zero]
                   refine tkk 25 122 (v := ?_) ?_ ?_
                   rotate_left 1
                   ·intro w hSw
                    obtain ⟨q0, q1, q2, q3, q4, q5⟩ := hSw
                    go_simp <;> with_reducible rfl
                   simp only [Act.put, List.setIfInBounds_toArray]
                   dsimp only [List.set_cons_succ, List.set_cons_zero]
                   refine tkk 26 123 (v := ?_) ?_ ?_
                   rotate_left 1
                   ·intro w hSw
                    obtain ⟨q0, q1, q2, q3, q4, q5⟩ := hSw
                    go_simp <;> with_reducible rfl
                   simp only [Act.put, List.setIfInBounds_toArray]
                   dsimp only [List.set_cons_succ, List.set_cons_zero]
                   refine tkk 27 124 (v := ?_) ?_ ?_
                   rotate_left 1
                   ·intro w hSw
                    obtain ⟨q0, q1, q2, q3, q4, q5⟩ := hSw
                    go_simp <;> with_reducible rfl
                   simp only [Act.put, List.setIfInBounds_toArray]
                   dsimp only [List.set_cons_succ, List.set_cons_zero]
                   refine tkk 28 125 (v := ?_) ?_ ?_
                   rotate_left 1
                   ·intro w hSw
                    obtain ⟨q0, q1, q2, q3, q4, q5⟩ := hSw
                    go_simp <;> with_reducible rfl
                   simp only [Act.put, List.setIfInBounds_toArray]
                   dsimp only [List.set_cons_succ, List.set_cons_zero]
                   refine wpAnyH_ready (rs := [29]) (by kernel_rfl) (by simp) ?_
                   refine AllReadyH.cons rfl (fun KK hKK => ?_) AllReadyH.nil
                   go_simp
                   refine (HAT.out _ e.id (HVK.out _ BD.out).1 (HVK.out _ BD.out).2).mono ?_
                   rintro e9 w9 ⟨rfl, b9⟩
                   have B9 : Hid (Below X.heap.size X w9) := BD.out.trans (b9.mono BD.out.size)
                   clear b9
                   simp only [hai]
                   go_simp
                   refine hKK.out _ _ (HSF.out _ B9.out) (fun hHeld2 => ?_)
                   clear hKK KK hHeld
                   have hHeld := hHeld2
                   clear hHeld2
                   refine tkk 30 127 (v := ?_) ?_ ?_
                   rotate_left 1
                   ·intro w hSw
                    obtain ⟨q0, q1, q2, q3, q4, q5⟩ := hSw
                    go_simp <;> with_reducible rfl
                   simp only [Act.put, List.setIfInBounds_toArray]
                   dsimp only [List.set_cons_succ, List.set_cons_zero]
                   try simp only [hlt0]
                   refine tkk 31 128 (v := ?_) ?_ ?_
                   rotate_left 1
                   ·intro w hSw
                    obtain ⟨q0, q1, q2, q3, q4, q5⟩ := hSw
                    go_simp <;> with_reducible rfl
                   simp only [Act.put, List.setIfInBounds_toArray]
                   dsimp only [List.set_cons_succ, List.set_cons_zero]
                   refine wpAnyH_done (by kernel_rfl) ?_ _
                   go_wp2_with fail
                   go_meet
                   case rel => exact ⟨by rw [HW.out]; rfl, B9⟩
                  | some x =>
                   have hai : atI LN e.id = (x : Int) := atI_some hax
                   have hlt0 : decide ((x : Int) < 0) = false := decide_eq_false (by omega)
                   have HW : Hid ((nameB e.nm.data.toList && ((aheadN nn (k + 1)).map fun q => ltS q e.nm).getD true && !decide (e.id = 1) && (atN LN e.id).isSome) = true) := by unfold Hid; simp [hax, hi1, hnm, HLT.out]
                   clear hi1 hax
                   refine wp_region_held_drew (S := SIn wr.heap.size (w.heap.size + 1) w.heap.size e pn next (.slice (some ⟨b2, o2, none⟩) nn.length cap2) (.slice a L.length cap) b2 (o2 + k * 2)) (by kernel_rfl) (HSF.out _ (Below.refl _ _).drew) (fun hHeld => ?_)
                   have BD : Hid (Below X.heap.size X X.drew) := (Below.refl _ _).drew
                   generalize X.drew = D at BD hHeld ⊢
                   refine tkk 0 97 (v := ?_) ?_ ?_
                   rotate_left 1
                   ·intro w hSw
                    obtain ⟨q0, q1, q2, q3, q4, q5⟩ := hSw
                    go_simp <;> with_reducible rfl
                   simp only [Act.put, List.setIfInBounds_toArray]
                   dsimp only [List.set_cons_succ, List.set_cons_zero]
                   refine tkk 1 98 (v := ?_) ?_ ?_
                   rotate_left 1
                   ·intro w hSw
                    obtain ⟨q0, q1, q2, q3, q4, q5⟩ := hSw
                    go_simp <;> with_reducible rfl
                   simp only [Act.put, List.setIfInBounds_toArray]
                   dsimp only [List.set_cons_succ, List.set_cons_zero]
                   refine wpAnyH_ready (rs := [2]) (by kernel_rfl) (by simp) ?_
                   refine AllReadyH.cons rfl (fun KK hKK => ?_) AllReadyH.nil
                   go_simp
                   refine (specNameOk_any _ _ HES.out).mono ?_
                   rintro e9 w9 ⟨rfl, rfl⟩
                   simp only [hnm]
                   go_simp
                   refine hKK.out _ _ (HSF.out _ BD.out) (fun hHeld2 => ?_)
                   clear hKK KK hHeld
                   have hHeld := hHeld2
                   clear hHeld2
                   refine tkk 3 100 (v := ?_) ?_ ?_
                   rotate_left 1
                   ·intro w hSw
                    obtain ⟨q0, q1, q2, q3, q4, q5⟩ := hSw
                    go_simp <;> with_reducible rfl
                   simp only [Act.put, List.setIfInBounds_toArray]
                   dsimp only [List.set_cons_succ, List.set_cons_zero]
                   refine tkk 4 101 (v := ?_) ?_ ?_
                   rotate_left 1
                   ·intro w hSw
                    obtain ⟨q0, q1, q2, q3, q4, q5⟩ := hSw
                    go_simp <;> with_reducible rfl
                   simp only [Act.put, List.setIfInBounds_toArray]
                   dsimp only [List.set_cons_succ, List.set_cons_zero]
                   refine tkk 5 102 (v := ?_) ?_ ?_
                   rotate_left 1
                   ·intro w hSw
                    obtain ⟨q0, q1, q2, q3, q4, q5⟩ := hSw
                    go_simp <;> with_reducible rfl
                   simp only [Act.put, List.setIfInBounds_toArray]
                   dsimp only [List.set_cons_succ, List.set_cons_zero]
                   refine tkk 6 103 (v := ?_) ?_ ?_
                   rotate_left 1
                   ·intro w hSw
                    obtain ⟨q0, q1, q2, q3, q4, q5⟩ := hSw
                    go_simp <;> with_reducible rfl
                   simp only [Act.put, List.setIfInBounds_toArray]
                   dsimp only [List.set_cons_succ, List.set_cons_zero]
                   first | simp only [h00] | simp only [h00'] | skip
                   refine tkk 7 104 (v := ?_) ?_ ?_
                   rotate_left 1
                   ·intro w hSw
                    obtain ⟨q0, q1, q2, q3, q4, q5⟩ := hSw
                    go_simp <;> with_reducible rfl
                   simp only [Act.put, List.setIfInBounds_toArray]
                   dsimp only [List.set_cons_succ, List.set_cons_zero]
                   refine tkk 8 105 (v := ?_) ?_ ?_
                   rotate_left 1
                   ·intro w hSw
                    obtain ⟨q0, q1, q2, q3, q4, q5⟩ := hSw
                    go_simp <;> with_reducible rfl
                   simp only [Act.put, List.setIfInBounds_toArray]
                   dsimp only [List.set_cons_succ, List.set_cons_zero]
                   refine tkk 9 106 (v := ?_) ?_ ?_
                   rotate_left 1
                   ·intro w hSw
                    obtain ⟨q0, q1, q2, q3, q4, q5⟩ := hSw
                    go_simp <;> with_reducible rfl
                   simp only [Act.put, List.setIfInBounds_toArray]
                   dsimp only [List.set_cons_succ, List.set_cons_zero]
                   refine tkk 10 107 (v := ?_) ?_ ?_
                   rotate_left 1
                   ·intro w hSw
                    obtain ⟨q0, q1, q2, q3, q4, q5⟩ := hSw
                    go_simp <;> with_reducible rfl
                   simp only [Act.put, List.setIfInBounds_toArray]
                   dsimp only [List.set_cons_succ, List.set_cons_zero]
                   refine tkk 11 108 (v := ?_) ?_ ?_
                   rotate_left 1
                   ·intro w hSw
                    obtain ⟨q0, q1, q2, q3, q4, q5⟩ := hSw
                    go_simp <;> with_reducible rfl
                   simp only [Act.put, List.setIfInBounds_toArray]
                   dsimp only [List.set_cons_succ, List.set_cons_zero]
                   first | simp only [hsub3] | simp only [hsub] | simp only [hsub2] | skip
                   refine tkk 12 109 (v := ?_) ?_ ?_
                   rotate_left 1
                   ·intro w hSw
                    obtain ⟨q0, q1, q2, q3, q4, q5⟩ := hSw
                    go_simp <;> with_reducible rfl
                   simp only [Act.put, List.setIfInBounds_toArray]
                   dsimp only [List.set_cons_succ, List.set_cons_zero]
                   refine tkk 13 110 (v := ?_) ?_ ?_
                   rotate_left 1
                   ·intro w hSw
                    obtain ⟨q0, q1, q2, q3, q4, q5⟩ := hSw
                    go_simp <;> with_reducible rfl
                   simp only [Act.put, List.setIfInBounds_toArray]
                   dsimp only [List.set_cons_succ, List.set_cons_zero]
                   refine tkk 14 111 (v := ?_) ?_ ?_
                   rotate_left 1
                   ·intro w hSw
                    obtain ⟨q0, q1, q2, q3, q4, q5⟩ := hSw
                    go_simp <;> with_reducible rfl
                   simp only [Act.put, List.setIfInBounds_toArray]
                   dsimp only [List.set_cons_succ, List.set_cons_zero]
                   refine tkk 15 112 (v := ?_) ?_ ?_
                   rotate_left 1
                   ·intro w hSw
                    obtain ⟨q0, q1, q2, q3, q4, q5⟩ := hSw
                    go_simp <;> with_reducible rfl
                   simp only [Act.put, List.setIfInBounds_toArray]
                   dsimp only [List.set_cons_succ, List.set_cons_zero]
                   refine tkk 16 113 (v := ?_) ?_ ?_
                   rotate_left 1
                   ·intro w hSw
                    obtain ⟨q0, q1, q2, q3, q4, q5⟩ := hSw
                    go_simp <;> with_reducible rfl
                   simp only [Act.put, List.setIfInBounds_toArray]
                   dsimp only [List.set_cons_succ, List.set_cons_zero]
                   refine tkk 17 114 (v := ?_) ?_ ?_
                   rotate_left 1
                   ·intro w hSw
                    obtain ⟨q0, q1, q2, q3, q4, q5⟩ := hSw
                    go_simp <;> with_reducible rfl
                   simp only [Act.put, List.setIfInBounds_toArray]
                   dsimp only [List.set_cons_succ, List.set_cons_zero]
                   try simp only [hlt2]
                   refine tkk 18 115 (v := ?_) ?_ ?_
                   rotate_left 1
                   ·intro w hSw
                    obtain ⟨q0, q1, q2, q3, q4, q5⟩ := hSw
                    go_simp <;> with_reducible rfl
                   simp only [Act.put, List.setIfInBounds_toArray]
                   dsimp only [List.set_cons_succ, List.set_cons_zero]
                   refine tkk 19 116 (v := ?_) ?_ ?_
                   rotate_left 1
                   ·intro w hSw
                    obtain ⟨q0, q1, q2, q3, q4, q5⟩ := hSw
                    go_simp <;> with_reducible rfl
                   simp only [Act.put, List.setIfInBounds_toArray]
                   dsimp only [List.set_cons_succ, List.set_cons_zero]
                   refine tkk 20 117 (v := ?_) ?_ ?_
                   rotate_left 1
                   ·intro w hSw
                    obtain ⟨q0, q1, q2, q3, q4, q5⟩ := hSw
                    go_simp <;> with_reducible rfl
                   simp only [Act.put, List.setIfInBounds_toArray]
                   dsimp only [List.set_cons_succ, List.set_cons_zero]
                   refine tkk 21 118 (v := ?_) ?_ ?_
                   rotate_left 1
                   ·intro w hSw
                    obtain ⟨q0, q1, q2, q3, q4, q5⟩ := hSw
                    go_simp <;> with_reducible rfl
                   simp only [Act.put, List.setIfInBounds_toArray]
                   dsimp only [List.set_cons_succ, List.set_cons_zero]
                   refine tkk 22 119 (v := ?_) ?_ ?_
                   rotate_left 1
                   ·intro w hSw
                    obtain ⟨q0, q1, q2, q3, q4, q5⟩ := hSw
                    go_simp <;> with_reducible rfl
                   simp only [Act.put, List.setIfInBounds_toArray]
                   dsimp only [List.set_cons_succ, List.set_cons_zero]
                   refine tkk 23 120 (v := ?_) ?_ ?_
                   rotate_left 1
                   ·intro w hSw
                    obtain ⟨q0, q1, q2, q3, q4, q5⟩ := hSw
                    go_simp <;> with_reducible rfl
                   simp only [Act.put, List.setIfInBounds_toArray]
                   dsimp only [List.set_cons_succ, List.set_cons_zero]
                   try simp only [hid]
                   refine tkk 24 121 (v := ?_) ?_ ?_
                   rotate_left 1
                   ·intro w hSw
                    obtain ⟨q0, q1, q2, q3, q4, q5⟩ := hSw
                    go_simp <;> with_reducible rfl
                   simp only [Act.put, List.setIfInBounds_toArray]
                   dsimp only [List.set_cons_succ, List.set_cons_zero]
                   refine tkk 25 122 (v := ?_) ?_ ?_
                   rotate_left 1
                   ·intro w hSw
                    obtain ⟨q0, q1, q2, q3, q4, q5⟩ := hSw
                    go_simp <;> with_reducible rfl
                   simp only [Act.put, List.setIfInBounds_toArray]
                   dsimp only [List.set_cons_succ, List.set_cons_zero]
                   refine tkk 26 123 (v := ?_) ?_ ?_
                   rotate_left 1
                   ·intro w hSw
                    obtain ⟨q0, q1, q2, q3, q4, q5⟩ := hSw
                    go_simp <;> with_reducible rfl
                   simp only [Act.put, List.setIfInBounds_toArray]
                   dsimp only [List.set_cons_succ, List.set_cons_zero]
                   refine tkk 27 124 (v := ?_) ?_ ?_
                   rotate_left 1
                   ·intro w hSw
                    obtain ⟨q0, q1, q2, q3, q4, q5⟩ := hSw
                    go_simp <;> with_reducible rfl
                   simp only [Act.put, List.setIfInBounds_toArray]
                   dsimp only [List.set_cons_succ, List.set_cons_zero]
                   refine tkk 28 125 (v := ?_) ?_ ?_
                   rotate_left 1
                   ·intro w hSw
                    obtain ⟨q0, q1, q2, q3, q4, q5⟩ := hSw
                    go_simp <;> with_reducible rfl
                   simp only [Act.put, List.setIfInBounds_toArray]
                   dsimp only [List.set_cons_succ, List.set_cons_zero]
                   refine wpAnyH_ready (rs := [29]) (by kernel_rfl) (by simp) ?_
                   refine AllReadyH.cons rfl (fun KK hKK => ?_) AllReadyH.nil
                   go_simp
                   refine (HAT.out _ e.id (HVK.out _ BD.out).1 (HVK.out _ BD.out).2).mono ?_
                   rintro e9 w9 ⟨rfl, b9⟩
                   have B9 : Hid (Below X.heap.size X w9) := BD.out.trans (b9.mono BD.out.size)
                   clear b9
                   simp only [hai]
                   go_simp
                   refine hKK.out _ _ (HSF.out _ B9.out) (fun hHeld2 => ?_)
                   clear hKK KK hHeld
                   have hHeld := hHeld2
                   clear hHeld2
                   refine tkk 30 127 (v := ?_) ?_ ?_
                   rotate_left 1
                   ·intro w hSw
                    obtain ⟨q0, q1, q2, q3, q4, q5⟩ := hSw
                    go_simp <;> with_reducible rfl
                   simp only [Act.put, List.setIfInBounds_toArray]
                   dsimp only [List.set_cons_succ, List.set_cons_zero]
                   try simp only [hlt0]
                   refine tkk 31 128 (v := ?_) ?_ ?_
                   rotate_left 1
                   ·intro w hSw
                    obtain ⟨q0, q1, q2, q3, q4, q5⟩ := hSw
                    go_simp <;> with_reducible rfl
                   simp only [Act.put, List.setIfInBounds_toArray]
                   dsimp only [List.set_cons_succ, List.set_cons_zero]
                   refine wpAnyH_done (by kernel_rfl) ?_ _
                   go_wp2_with fail
                   go_meet
                   case rel => exact ⟨by rw [HW.out]; rfl, B9⟩
             case rest =>
             obtain ⟨rfl, HBC⟩ := hcut
             have HBF : Hid (Below W.heap.size W wc) := HBX.out.trans (HBC.out.mono (by omega))
             cases hall : (nameB e.nm.data.toList && ((aheadN nn j).map fun q => ltS q e.nm).getD true && !decide (e.id = 1) && (atN LN e.id).isSome) with
             | false =>
              have HFF : Hid (nodeB LN n = false) := by unfold Hid; rw [HJ.out, HST.out, hall]; rfl
              go_wp2_with fail
              go_ret
              exact ⟨ret_bool HFF.out.symm, bW.trans (HBF.out.mono (by omega))⟩
             | true =>
              have HFF : Hid (nodeB LN n = nmsB LN (aheadN nn (j + 1)) (nn.drop (j + 1))) := by unfold Hid; rw [HJ.out, HST.out, hall]; rfl
              go_wp2_with fail
              go_roundw
              case rel => exact ⟨j + 1, by go_num, by omega, HFF, HBF⟩
              case measure => simp [intOf]; omega
            ·obtain rfl : j = nn.length := by omega
             have hj2 := HJ.out
             rw [List.drop_length, nmsB] at hj2
             have HJ2 := Hid.intro hj2
             clear hj2
             go_wp2
             go_ret
             exact ⟨ret_bool HJ2.out.symm, HBW.out⟩
      ·have k2 : (n.kind == 2) = false := by simpa using hk2
       have HK := HB3.out
       rw [if_neg hk1, if_neg hk3, if_neg hk2] at HK
       have HK1 := Hid.intro HK
       clear hk1 hk3 hk2 HK HB3
       go_wp2_with fail
       go_ret
       exact ⟨ret_bool HK1.out.symm, bW⟩
end Go.Proofs.YtmkegmndcbpblaaGreatDoor
