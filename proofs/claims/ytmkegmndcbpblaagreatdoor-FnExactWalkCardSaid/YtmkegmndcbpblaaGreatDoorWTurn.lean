/- turn: a link's target in the place of the part that led to the link. -/
import Derived.Test.YtmkegmndcbpblaaGreatDoorWLeft
import Derived.Test.YtmkegmndcbpblaaGreatDoorWHas
import Derived.Test.YtmkegmndcbpblaaGreatDoorWBetw
namespace Go.Proofs.YtmkegmndcbpblaaGreatDoor
open Go.RowKit Go.Maps
set_option linter.unusedVariables false
/-- How a turn ends. -/
def TurnP (tb b off g : Nat) (c : Cr) (cv : Value) (follow : Bool) (x r0 times : Nat) (rest : List (List UInt8)) (E : Nat → Addr) (d : ByteArray) (w : World) (e : Ending) (w' : World) : Prop := Only (fun k => k = g) w w' ∧ ((8 ≤ times ∧ e = .returned (erV E 40)) ∨ (times < 8 ∧ 40 < (partsL d.data.toList ++ rest).length ∧ e = .returned (erV E 36)) ∨ (times < 8 ∧ ¬ 40 < (partsL d.data.toList ++ rest).length ∧ e = .returned .nilIface ∧ ∃ lv', Blk w' g (wayA tb c cv follow b off (if d.data.toList.head? = some 47 then r0 else x) lv' ((times : Int) + 1)) ∧ RowL w' g lv' (partsL d.data.toList ++ rest)))
theorem notLong {L M : List (List UInt8)} {n : Nat} (h : ¬ n < (L ++ M).length) : ¬ (n : Int) < ((L ++ M).length : Int) := by omega
theorem pAuxW_len (l : List UInt8) : ∀ cur : List UInt8, (pAux cur l).length ≤ l.length + (if cur = [] then 0 else 1) := by
 induction l with
 | nil =>
  intro cur
  unfold pAux
  split <;> simp_all
 | cons x l ih =>
  intro cur
  have h0 := ih []
  rw [if_pos rfl] at h0
  have h1 := ih (cur ++ [x])
  rw [if_neg (by simp)] at h1
  unfold pAux
  split
  ·split
   ·simp only [List.length_cons]; omega
   ·simp only [List.length_cons]; omega
  ·simp only [List.length_cons]
   split <;> omega
theorem partsW_le (l : List UInt8) : (partsL l).length ≤ l.length := by
 have h := pAuxW_len l []
 rw [if_pos rfl] at h
 exact h
theorem parts_leW (d : ByteArray) (h : d.size ≤ 60) : (partsL d.data.toList).length ≤ 60 := by
 have h1 := partsW_le d.data.toList
 have h2 : d.data.toList.length = d.size := by simp
 omega
set_option maxRecDepth 100000 in
set_option maxHeartbeats 16000000 in
theorem turn_any (L : List Np) (tb b off N g : Nat) (c : Cr) (cv : Value) (follow : Bool) (x r0 times : Nat) (lv : Value) (rest : List (List UInt8)) (E : Nat → Addr) (d : ByteArray) (w : World)
  (hT : TC w tb b off N L) (hg : tb < g) (hX : Blk w g (wayA tb c cv follow b off x lv (times : Int))) (hR : RowL w g lv rest) (hA : ∃ ad n m, lv = .slice (some ad) n m) (hE : ErrB w g E) (d1 : 1 ≤ d.size) (d2 : d.size ≤ 60) (ht : times ≤ 8) (hr : rest.length ≤ 60) (hroot : atN (L.map Np.n) 1 = some r0) :
  Calls Tryz.prog 76 #[.pointer (some ⟨g, 0, none⟩), .string d] w (TurnP tb b off g c cv follow x r0 times rest E d w) := by
 obtain ⟨ad, n9, lc, rfl⟩ := hA
 obtain ⟨a9, c9, e9, hlc, hlm⟩ := hR.row.slice
 simp only [Value.slice.injEq] at e9
 obtain ⟨rfl, rfl, rfl⟩ := e9
 have HX := Hid.intro hX
 have HE := Hid.intro hE
 have HR := Hid.intro hR
 have HT := Hid.intro hT
 have HRO := Hid.intro hroot
 have hgl := hX.hi
 have k7 : w.cell? ⟨g, 7, none⟩ = some (.int .i64 (times : Int)) := hX.cell 7
 have f7 := hX.fro 7
 clear hX hE hR hT hroot
 go_enter Tryz.func76, Tryz.ntmps76
 by_cases h8 : times = 8
 ·have y8 : ((times : Int) == 8) = true := by simp; omega
  have v2 := HE.out.err.var 2 (by decide)
  go_wp2_with fail
  go_ret
  unfold TurnP
  exact ⟨Only.refl _ _, .inl ⟨by omega, rfl⟩⟩
 ·have y8 : ((times : Int) == 8) = false := by rw [beq_eq_false_iff_ne]; omega
  have ht8 : times < 8 := by omega
  clear h8
  go_wp2_with fail
  have hX1 : Blk (w.setCell ⟨g, 7, none⟩ (.int .i64 ((times : Int) + 1))) g (wayA tb c cv follow b off x (.slice (some ad) rest.length lc) ((times : Int) + 1)) := HX.out.setW 7 (by simp [wayA]) _
  have ho1 := setW_only g 7 w (.int .i64 ((times : Int) + 1))
  clear k7 f7 y8 HX
  revert hX1 ho1
  generalize w.setCell ⟨g, 7, none⟩ (.int .i64 ((times : Int) + 1)) = w1
  intro hX1 ho1
  refine (slash_any d w1 d1 (by omega)).mono ?_
  rintro e w2 ⟨rfl, rfl⟩
  by_cases hs : d.data.toList.head? = some 47
  ·rw [decide_eq_true hs]
   have htc := HT.out.kept (ho1.below (B := g) (by omega) (fun k hk e => by omega)) hg
   have hlk := htc.look (id := 1) (by decide)
   rw [HRO.out] at hlk
   simp only [ptrO] at hlk
   have k0 : w2.cell? ⟨g, 0, none⟩ = some (.map (some tb)) := hX1.cell 0
   have k5 : w2.cell? ⟨g, 5, none⟩ = some (ptrJ b off x) := hX1.cell 5
   have f5 := hX1.fro 5
   have HX1 := Hid.intro hX1
   have HO1 := Hid.intro ho1
   have HS : Hid ((if d.data.toList.head? = some 47 then r0 else x) = r0) := if_pos hs
   clear htc hX1 ho1 hs HRO HT
   go_upto_region 6 with fail
   have hX2 : Blk (w2.setCell ⟨g, 5, none⟩ (ptrJ b off r0)) g (wayA tb c cv follow b off r0 (.slice (some ad) rest.length lc) ((times : Int) + 1)) := HX1.out.setW 5 (by simp [wayA]) _
   have HO := Hid.intro (HO1.out.trans (setW_only g 5 w2 (ptrJ b off r0)))
   clear HO1 HX1 hlk k0 k5 f5
   revert hX2 HO
   generalize w2.setCell ⟨g, 5, none⟩ (ptrJ b off r0) = w3
   intro hX2 HO
   refine wp_region_held_drew (S := fun _ => True) (by kernel_rfl) trivial (fun hHeld => ?_)
   replace hX2 := hX2.kept (w' := w3.drew) (Below.refl _ _).drew
   replace HO := Hid.intro (HO.out.trans (onlyW_any (w' := w3.drew) (Below.refl _ _).drew))
   generalize w3.drew = D at hX2 HO hHeld ⊢
   refine tkk 0 28 (v := ?_) ?_ ?_
   rotate_left 1
   ·intro w hSw
    go_simp <;> with_reducible rfl
   simp only [Act.put, List.setIfInBounds_toArray]
   try simp only [List.set_cons_succ]
   try simp only [List.set_cons_zero]
   refine tkk 1 29 (v := ?_) ?_ ?_
   rotate_left 1
   ·intro w hSw
    go_simp <;> with_reducible rfl
   simp only [Act.put, List.setIfInBounds_toArray]
   try simp only [List.set_cons_succ]
   try simp only [List.set_cons_zero]
   refine tkk 3 31 (v := ?_) ?_ ?_
   rotate_left 1
   ·intro w hSw
    go_simp <;> with_reducible rfl
   simp only [Act.put, List.setIfInBounds_toArray]
   try simp only [List.set_cons_succ]
   try simp only [List.set_cons_zero]
   refine tkk 4 32 (v := ?_) ?_ ?_
   rotate_left 1
   ·intro w hSw
    go_simp <;> with_reducible rfl
   simp only [Act.put, List.setIfInBounds_toArray]
   try simp only [List.set_cons_succ]
   try simp only [List.set_cons_zero]
   refine tkk 5 33 (v := ?_) ?_ ?_
   rotate_left 1
   ·intro w hSw
    go_simp <;> with_reducible rfl
   simp only [Act.put, List.setIfInBounds_toArray]
   try simp only [List.set_cons_succ]
   try simp only [List.set_cons_zero]
   refine wpAnyH_ready (rs := [2, 6]) (by kernel_rfl) (by simp) ?_
   refine (AllReadyH.cons rfl (fun KK hKK => ?_) (AllReadyH.cons rfl (fun KK hKK => ?_) AllReadyH.nil))
   ·skip
    go_simp
    refine (between_any d D d2).mono ?_
    rintro e x1 ⟨bv, rfl, hbw, hbb⟩
    have hown : Own stE 9 x1 D.heap.size bv (partsL d.data.toList) := hbw.own
    have hX3 := hX2.kept hbb
    have hwB : w.heap.size ≤ D.heap.size := HO.out.size
    replace HO := Hid.intro (HO.out.trans (onlyW_any hbb))
    have hgB : g < D.heap.size := hX2.hi
    have hBx := hbb.size
    generalize D.heap.size = B at hown hgB hBx hwB
    clear hbw hbb
    clear hX2
    have hX2 := hX3
    clear hX3
    go_simp
    refine hKK.out _ _ trivial (fun hHeld2 => ?_)
    clear hKK KK hHeld
    have hHeld := hHeld2
    clear hHeld2
    refine wpAnyH_ready (rs := [6]) (by kernel_rfl) (by simp) ?_
    refine (AllReadyH.cons rfl (fun KK hKK => ?_) AllReadyH.nil)
    have k6 : x1.cell? ⟨g, 6, none⟩ = some (.slice (some ad) rest.length lc) := hX2.cell 6
    go_simp
    refine hKK.out _ _ trivial (fun hHeld2 => ?_)
    clear hKK KK hHeld
    have hHeld := hHeld2
    clear hHeld2
    clear k6
    refine wpAnyH_ready (rs := [7]) (by kernel_rfl) (by simp) ?_
    refine (AllReadyH.cons rfl (fun KK hKK => ?_) AllReadyH.nil)
    have hRL := HR.out.only HO.out
    have hnews : ∀ j u, (stE.f rest)[j]? = some u → x1.cell? (ad.add j) = some u := fun j u hj => by
     have hne : rest ≠ [] := by
      rintro rfl
      simp [Enc.f] at hj
     obtain ⟨a9, c9, e1, _, _, h9⟩ := hRL.row
     obtain ⟨b9, o9, e2, _, _⟩ := h9 hne
     simp only [Value.slice.injEq, true_and] at e1
     have e3 : ad = ⟨b9, o9, none⟩ := Option.some.inj (e1.1.trans e2)
     have hr := hRL.row
     rw [e3] at hr
     rw [e3]
     exact (hr.cells hne).2 j u hj
    have hpl := parts_leW d d2
    refine step_st rfl _ _ rfl B bv (partsL d.data.toList) rest rfl hown ad lc rfl hnews (by omega) hBx ?_
    intro v8 w8 hown8 ho8
    have hne8 : ¬ some g = bv.ownBlock := fun e => by have := (hown.lt g e.symm).1; omega
    have hX8 := hX2.only ho8 hne8
    have HO8 := Hid.intro (HO.out.then ho8 (fun k hk e => by have := (hown.lt k e.symm).1; omega))
    obtain ⟨na, nc, rfl⟩ := hown8.slice
    generalize hTT : partsL d.data.toList ++ rest = TT at hown8 ⊢
    have k6 : w8.cell? ⟨g, 6, none⟩ = some (.slice (some ad) rest.length lc) := hX8.cell 6
    have f6 := hX8.fro 6
    have HX9 : Hid (Blk (w8.setCell ⟨g, 6, none⟩ (.slice na TT.length nc)) g (wayA tb c cv follow b off r0 (.slice na TT.length nc) ((times : Int) + 1))) := hX8.setW 6 (by simp [wayA]) _
    have HO9 := Hid.intro (HO8.out.trans (setW_only g 6 w8 (.slice na TT.length nc)))
    have HRL : Hid (RowL w8 g (.slice na TT.length nc) TT) := ⟨hown8.rowAll, fun e => by have := (hown8.lt g e).1; omega⟩
    have HR9 := Hid.intro (HRL.out.only (setW_only g 6 w8 (.slice na TT.length nc)))
    have HE9 := Hid.intro (HE.out.only HO9.out)
    clear hX2 hX8 HO hown hown8 ho8 hne8 hnews hRL HRL HO8 HR HE hBx hgB hwB
    go_simp
    refine hKK.out _ _ trivial (fun hHeld2 => ?_)
    clear hKK KK hHeld
    have hHeld := hHeld2
    clear hHeld2
    refine tkk 8 36 (v := ?_) ?_ ?_
    rotate_left 1
    ·intro w hSw
     go_simp <;> with_reducible rfl
    simp only [Act.put, List.setIfInBounds_toArray]
    try simp only [List.set_cons_succ]
    try simp only [List.set_cons_zero]
    refine tkk 9 37 (v := ?_) ?_ ?_
    rotate_left 1
    ·intro w hSw
     go_simp <;> with_reducible rfl
    simp only [Act.put, List.setIfInBounds_toArray]
    try simp only [List.set_cons_succ]
    try simp only [List.set_cons_zero]
    refine wpAnyH_ready (rs := [10]) (by kernel_rfl) (by simp) ?_
    refine (AllReadyH.cons rfl (fun KK hKK => ?_) AllReadyH.nil)
    go_simp
    revert HX9 HO9 HR9 HE9
    generalize w8.setCell ⟨g, 6, none⟩ _ = w9
    intro HX9 HO9 HR9 HE9
    clear k6 f6
    refine hKK.out _ _ trivial (fun hHeld2 => ?_)
    clear hKK KK hHeld
    have hHeld := hHeld2
    clear hHeld2
    refine wpAnyH_done (by kernel_rfl) ?_ _
    clear hHeld
    have k6 : w9.cell? ⟨g, 6, none⟩ = some (.slice na TT.length nc) := HX9.out.cell 6
    have v5 := HE9.out.err.var 5 (by decide)
    by_cases h40 : 40 < TT.length
    ·have y40 : (40 : Int) < (TT.length : Int) := by omega
     go_wp2_with fail
     go_ret
     unfold TurnP
     exact ⟨HO9.out, .inr (.inl ⟨ht8, by rw [hTT]; exact h40, rfl⟩)⟩
    ·have y40 : ¬ (40 : Int) < (TT.length : Int) := by omega
     go_wp2_with fail
     go_ret
     unfold TurnP
     rw [HS.out]
     exact ⟨HO9.out, .inr (.inr ⟨ht8, by rw [hTT]; exact h40, rfl, _, HX9.out, by rw [hTT]; exact HR9.out⟩)⟩
   ·skip
    have k6 : D.cell? ⟨g, 6, none⟩ = some (.slice (some ad) rest.length lc) := hX2.cell 6
    go_simp
    refine hKK.out _ _ trivial (fun hHeld2 => ?_)
    clear hKK KK hHeld
    have hHeld := hHeld2
    clear hHeld2
    clear k6
    refine wpAnyH_ready (rs := [2]) (by kernel_rfl) (by simp) ?_
    refine (AllReadyH.cons rfl (fun KK hKK => ?_) AllReadyH.nil)
    go_simp
    refine (between_any d D d2).mono ?_
    rintro e x1 ⟨bv, rfl, hbw, hbb⟩
    have hown : Own stE 9 x1 D.heap.size bv (partsL d.data.toList) := hbw.own
    have hX3 := hX2.kept hbb
    have hwB : w.heap.size ≤ D.heap.size := HO.out.size
    replace HO := Hid.intro (HO.out.trans (onlyW_any hbb))
    have hgB : g < D.heap.size := hX2.hi
    have hBx := hbb.size
    generalize D.heap.size = B at hown hgB hBx hwB
    clear hbw hbb
    clear hX2
    have hX2 := hX3
    clear hX3
    go_simp
    refine hKK.out _ _ trivial (fun hHeld2 => ?_)
    clear hKK KK hHeld
    have hHeld := hHeld2
    clear hHeld2
    refine wpAnyH_ready (rs := [7]) (by kernel_rfl) (by simp) ?_
    refine (AllReadyH.cons rfl (fun KK hKK => ?_) AllReadyH.nil)
    have hRL := HR.out.only HO.out
    have hnews : ∀ j u, (stE.f rest)[j]? = some u → x1.cell? (ad.add j) = some u := fun j u hj => by
     have hne : rest ≠ [] := by
      rintro rfl
      simp [Enc.f] at hj
     obtain ⟨a9, c9, e1, _, _, h9⟩ := hRL.row
     obtain ⟨b9, o9, e2, _, _⟩ := h9 hne
     simp only [Value.slice.injEq, true_and] at e1
     have e3 : ad = ⟨b9, o9, none⟩ := Option.some.inj (e1.1.trans e2)
     have hr := hRL.row
     rw [e3] at hr
     rw [e3]
     exact (hr.cells hne).2 j u hj
    have hpl := parts_leW d d2
    refine step_st rfl _ _ rfl B bv (partsL d.data.toList) rest rfl hown ad lc rfl hnews (by omega) hBx ?_
    intro v8 w8 hown8 ho8
    have hne8 : ¬ some g = bv.ownBlock := fun e => by have := (hown.lt g e.symm).1; omega
    have hX8 := hX2.only ho8 hne8
    have HO8 := Hid.intro (HO.out.then ho8 (fun k hk e => by have := (hown.lt k e.symm).1; omega))
    obtain ⟨na, nc, rfl⟩ := hown8.slice
    generalize hTT : partsL d.data.toList ++ rest = TT at hown8 ⊢
    have k6 : w8.cell? ⟨g, 6, none⟩ = some (.slice (some ad) rest.length lc) := hX8.cell 6
    have f6 := hX8.fro 6
    have HX9 : Hid (Blk (w8.setCell ⟨g, 6, none⟩ (.slice na TT.length nc)) g (wayA tb c cv follow b off r0 (.slice na TT.length nc) ((times : Int) + 1))) := hX8.setW 6 (by simp [wayA]) _
    have HO9 := Hid.intro (HO8.out.trans (setW_only g 6 w8 (.slice na TT.length nc)))
    have HRL : Hid (RowL w8 g (.slice na TT.length nc) TT) := ⟨hown8.rowAll, fun e => by have := (hown8.lt g e).1; omega⟩
    have HR9 := Hid.intro (HRL.out.only (setW_only g 6 w8 (.slice na TT.length nc)))
    have HE9 := Hid.intro (HE.out.only HO9.out)
    clear hX2 hX8 HO hown hown8 ho8 hne8 hnews hRL HRL HO8 HR HE hBx hgB hwB
    go_simp
    refine hKK.out _ _ trivial (fun hHeld2 => ?_)
    clear hKK KK hHeld
    have hHeld := hHeld2
    clear hHeld2
    refine tkk 8 36 (v := ?_) ?_ ?_
    rotate_left 1
    ·intro w hSw
     go_simp <;> with_reducible rfl
    simp only [Act.put, List.setIfInBounds_toArray]
    try simp only [List.set_cons_succ]
    try simp only [List.set_cons_zero]
    refine tkk 9 37 (v := ?_) ?_ ?_
    rotate_left 1
    ·intro w hSw
     go_simp <;> with_reducible rfl
    simp only [Act.put, List.setIfInBounds_toArray]
    try simp only [List.set_cons_succ]
    try simp only [List.set_cons_zero]
    refine wpAnyH_ready (rs := [10]) (by kernel_rfl) (by simp) ?_
    refine (AllReadyH.cons rfl (fun KK hKK => ?_) AllReadyH.nil)
    go_simp
    revert HX9 HO9 HR9 HE9
    generalize w8.setCell ⟨g, 6, none⟩ _ = w9
    intro HX9 HO9 HR9 HE9
    clear k6 f6
    refine hKK.out _ _ trivial (fun hHeld2 => ?_)
    clear hKK KK hHeld
    have hHeld := hHeld2
    clear hHeld2
    refine wpAnyH_done (by kernel_rfl) ?_ _
    clear hHeld
    have k6 : w9.cell? ⟨g, 6, none⟩ = some (.slice na TT.length nc) := HX9.out.cell 6
    have v5 := HE9.out.err.var 5 (by decide)
    by_cases h40 : 40 < TT.length
    ·have y40 : (40 : Int) < (TT.length : Int) := by omega
     go_wp2_with fail
     go_ret
     unfold TurnP
     exact ⟨HO9.out, .inr (.inl ⟨ht8, by rw [hTT]; exact h40, rfl⟩)⟩
    ·have y40 : ¬ (40 : Int) < (TT.length : Int) := by omega
     go_wp2_with fail
     go_ret
     unfold TurnP
     rw [HS.out]
     exact ⟨HO9.out, .inr (.inr ⟨ht8, by rw [hTT]; exact h40, rfl, _, HX9.out, by rw [hTT]; exact HR9.out⟩)⟩
  ·rw [decide_eq_false hs]
   have hX2 := hX1
   have HO := Hid.intro ho1
   obtain ⟨w3, hw3⟩ : ∃ w3, w3 = w2 := ⟨_, rfl⟩
   subst hw3
   have HS : Hid ((if d.data.toList.head? = some 47 then r0 else x) = x) := if_neg hs
   clear ho1 hX1 hs HRO HT
   go_upto_region 6 with fail
   refine wp_region_held_drew (S := fun _ => True) (by kernel_rfl) trivial (fun hHeld => ?_)
   replace hX2 := hX2.kept (w' := w3.drew) (Below.refl _ _).drew
   replace HO := Hid.intro (HO.out.trans (onlyW_any (w' := w3.drew) (Below.refl _ _).drew))
   generalize w3.drew = D at hX2 HO hHeld ⊢
   refine tkk 0 28 (v := ?_) ?_ ?_
   rotate_left 1
   ·intro w hSw
    go_simp <;> with_reducible rfl
   simp only [Act.put, List.setIfInBounds_toArray]
   try simp only [List.set_cons_succ]
   try simp only [List.set_cons_zero]
   refine tkk 1 29 (v := ?_) ?_ ?_
   rotate_left 1
   ·intro w hSw
    go_simp <;> with_reducible rfl
   simp only [Act.put, List.setIfInBounds_toArray]
   try simp only [List.set_cons_succ]
   try simp only [List.set_cons_zero]
   refine tkk 3 31 (v := ?_) ?_ ?_
   rotate_left 1
   ·intro w hSw
    go_simp <;> with_reducible rfl
   simp only [Act.put, List.setIfInBounds_toArray]
   try simp only [List.set_cons_succ]
   try simp only [List.set_cons_zero]
   refine tkk 4 32 (v := ?_) ?_ ?_
   rotate_left 1
   ·intro w hSw
    go_simp <;> with_reducible rfl
   simp only [Act.put, List.setIfInBounds_toArray]
   try simp only [List.set_cons_succ]
   try simp only [List.set_cons_zero]
   refine tkk 5 33 (v := ?_) ?_ ?_
   rotate_left 1
   ·intro w hSw
    go_simp <;> with_reducible rfl
   simp only [Act.put, List.setIfInBounds_toArray]
   try simp only [List.set_cons_succ]
   try simp only [List.set_cons_zero]
   refine wpAnyH_ready (rs := [2, 6]) (by kernel_rfl) (by simp) ?_
   refine (AllReadyH.cons rfl (fun KK hKK => ?_) (AllReadyH.cons rfl (fun KK hKK => ?_) AllReadyH.nil))
   ·skip
    go_simp
    refine (between_any d D d2).mono ?_
    rintro e x1 ⟨bv, rfl, hbw, hbb⟩
    have hown : Own stE 9 x1 D.heap.size bv (partsL d.data.toList) := hbw.own
    have hX3 := hX2.kept hbb
    have hwB : w.heap.size ≤ D.heap.size := HO.out.size
    replace HO := Hid.intro (HO.out.trans (onlyW_any hbb))
    have hgB : g < D.heap.size := hX2.hi
    have hBx := hbb.size
    generalize D.heap.size = B at hown hgB hBx hwB
    clear hbw hbb
    clear hX2
    have hX2 := hX3
    clear hX3
    go_simp
    refine hKK.out _ _ trivial (fun hHeld2 => ?_)
    clear hKK KK hHeld
    have hHeld := hHeld2
    clear hHeld2
    refine wpAnyH_ready (rs := [6]) (by kernel_rfl) (by simp) ?_
    refine (AllReadyH.cons rfl (fun KK hKK => ?_) AllReadyH.nil)
    have k6 : x1.cell? ⟨g, 6, none⟩ = some (.slice (some ad) rest.length lc) := hX2.cell 6
    go_simp
    refine hKK.out _ _ trivial (fun hHeld2 => ?_)
    clear hKK KK hHeld
    have hHeld := hHeld2
    clear hHeld2
    clear k6
    refine wpAnyH_ready (rs := [7]) (by kernel_rfl) (by simp) ?_
    refine (AllReadyH.cons rfl (fun KK hKK => ?_) AllReadyH.nil)
    have hRL := HR.out.only HO.out
    have hnews : ∀ j u, (stE.f rest)[j]? = some u → x1.cell? (ad.add j) = some u := fun j u hj => by
     have hne : rest ≠ [] := by
      rintro rfl
      simp [Enc.f] at hj
     obtain ⟨a9, c9, e1, _, _, h9⟩ := hRL.row
     obtain ⟨b9, o9, e2, _, _⟩ := h9 hne
     simp only [Value.slice.injEq, true_and] at e1
     have e3 : ad = ⟨b9, o9, none⟩ := Option.some.inj (e1.1.trans e2)
     have hr := hRL.row
     rw [e3] at hr
     rw [e3]
     exact (hr.cells hne).2 j u hj
    have hpl := parts_leW d d2
    refine step_st rfl _ _ rfl B bv (partsL d.data.toList) rest rfl hown ad lc rfl hnews (by omega) hBx ?_
    intro v8 w8 hown8 ho8
    have hne8 : ¬ some g = bv.ownBlock := fun e => by have := (hown.lt g e.symm).1; omega
    have hX8 := hX2.only ho8 hne8
    have HO8 := Hid.intro (HO.out.then ho8 (fun k hk e => by have := (hown.lt k e.symm).1; omega))
    obtain ⟨na, nc, rfl⟩ := hown8.slice
    generalize hTT : partsL d.data.toList ++ rest = TT at hown8 ⊢
    have k6 : w8.cell? ⟨g, 6, none⟩ = some (.slice (some ad) rest.length lc) := hX8.cell 6
    have f6 := hX8.fro 6
    have HX9 : Hid (Blk (w8.setCell ⟨g, 6, none⟩ (.slice na TT.length nc)) g (wayA tb c cv follow b off x (.slice na TT.length nc) ((times : Int) + 1))) := hX8.setW 6 (by simp [wayA]) _
    have HO9 := Hid.intro (HO8.out.trans (setW_only g 6 w8 (.slice na TT.length nc)))
    have HRL : Hid (RowL w8 g (.slice na TT.length nc) TT) := ⟨hown8.rowAll, fun e => by have := (hown8.lt g e).1; omega⟩
    have HR9 := Hid.intro (HRL.out.only (setW_only g 6 w8 (.slice na TT.length nc)))
    have HE9 := Hid.intro (HE.out.only HO9.out)
    clear hX2 hX8 HO hown hown8 ho8 hne8 hnews hRL HRL HO8 HR HE hBx hgB hwB
    go_simp
    refine hKK.out _ _ trivial (fun hHeld2 => ?_)
    clear hKK KK hHeld
    have hHeld := hHeld2
    clear hHeld2
    refine tkk 8 36 (v := ?_) ?_ ?_
    rotate_left 1
    ·intro w hSw
     go_simp <;> with_reducible rfl
    simp only [Act.put, List.setIfInBounds_toArray]
    try simp only [List.set_cons_succ]
    try simp only [List.set_cons_zero]
    refine tkk 9 37 (v := ?_) ?_ ?_
    rotate_left 1
    ·intro w hSw
     go_simp <;> with_reducible rfl
    simp only [Act.put, List.setIfInBounds_toArray]
    try simp only [List.set_cons_succ]
    try simp only [List.set_cons_zero]
    refine wpAnyH_ready (rs := [10]) (by kernel_rfl) (by simp) ?_
    refine (AllReadyH.cons rfl (fun KK hKK => ?_) AllReadyH.nil)
    go_simp
    revert HX9 HO9 HR9 HE9
    generalize w8.setCell ⟨g, 6, none⟩ _ = w9
    intro HX9 HO9 HR9 HE9
    clear k6 f6
    refine hKK.out _ _ trivial (fun hHeld2 => ?_)
    clear hKK KK hHeld
    have hHeld := hHeld2
    clear hHeld2
    refine wpAnyH_done (by kernel_rfl) ?_ _
    clear hHeld
    have k6 : w9.cell? ⟨g, 6, none⟩ = some (.slice na TT.length nc) := HX9.out.cell 6
    have v5 := HE9.out.err.var 5 (by decide)
    by_cases h40 : 40 < TT.length
    ·have y40 : (40 : Int) < (TT.length : Int) := by omega
     go_wp2_with fail
     go_ret
     unfold TurnP
     exact ⟨HO9.out, .inr (.inl ⟨ht8, by rw [hTT]; exact h40, rfl⟩)⟩
    ·have y40 : ¬ (40 : Int) < (TT.length : Int) := by omega
     go_wp2_with fail
     go_ret
     unfold TurnP
     rw [HS.out]
     exact ⟨HO9.out, .inr (.inr ⟨ht8, by rw [hTT]; exact h40, rfl, _, HX9.out, by rw [hTT]; exact HR9.out⟩)⟩
   ·skip
    have k6 : D.cell? ⟨g, 6, none⟩ = some (.slice (some ad) rest.length lc) := hX2.cell 6
    go_simp
    refine hKK.out _ _ trivial (fun hHeld2 => ?_)
    clear hKK KK hHeld
    have hHeld := hHeld2
    clear hHeld2
    clear k6
    refine wpAnyH_ready (rs := [2]) (by kernel_rfl) (by simp) ?_
    refine (AllReadyH.cons rfl (fun KK hKK => ?_) AllReadyH.nil)
    go_simp
    refine (between_any d D d2).mono ?_
    rintro e x1 ⟨bv, rfl, hbw, hbb⟩
    have hown : Own stE 9 x1 D.heap.size bv (partsL d.data.toList) := hbw.own
    have hX3 := hX2.kept hbb
    have hwB : w.heap.size ≤ D.heap.size := HO.out.size
    replace HO := Hid.intro (HO.out.trans (onlyW_any hbb))
    have hgB : g < D.heap.size := hX2.hi
    have hBx := hbb.size
    generalize D.heap.size = B at hown hgB hBx hwB
    clear hbw hbb
    clear hX2
    have hX2 := hX3
    clear hX3
    go_simp
    refine hKK.out _ _ trivial (fun hHeld2 => ?_)
    clear hKK KK hHeld
    have hHeld := hHeld2
    clear hHeld2
    refine wpAnyH_ready (rs := [7]) (by kernel_rfl) (by simp) ?_
    refine (AllReadyH.cons rfl (fun KK hKK => ?_) AllReadyH.nil)
    have hRL := HR.out.only HO.out
    have hnews : ∀ j u, (stE.f rest)[j]? = some u → x1.cell? (ad.add j) = some u := fun j u hj => by
     have hne : rest ≠ [] := by
      rintro rfl
      simp [Enc.f] at hj
     obtain ⟨a9, c9, e1, _, _, h9⟩ := hRL.row
     obtain ⟨b9, o9, e2, _, _⟩ := h9 hne
     simp only [Value.slice.injEq, true_and] at e1
     have e3 : ad = ⟨b9, o9, none⟩ := Option.some.inj (e1.1.trans e2)
     have hr := hRL.row
     rw [e3] at hr
     rw [e3]
     exact (hr.cells hne).2 j u hj
    have hpl := parts_leW d d2
    refine step_st rfl _ _ rfl B bv (partsL d.data.toList) rest rfl hown ad lc rfl hnews (by omega) hBx ?_
    intro v8 w8 hown8 ho8
    have hne8 : ¬ some g = bv.ownBlock := fun e => by have := (hown.lt g e.symm).1; omega
    have hX8 := hX2.only ho8 hne8
    have HO8 := Hid.intro (HO.out.then ho8 (fun k hk e => by have := (hown.lt k e.symm).1; omega))
    obtain ⟨na, nc, rfl⟩ := hown8.slice
    generalize hTT : partsL d.data.toList ++ rest = TT at hown8 ⊢
    have k6 : w8.cell? ⟨g, 6, none⟩ = some (.slice (some ad) rest.length lc) := hX8.cell 6
    have f6 := hX8.fro 6
    have HX9 : Hid (Blk (w8.setCell ⟨g, 6, none⟩ (.slice na TT.length nc)) g (wayA tb c cv follow b off x (.slice na TT.length nc) ((times : Int) + 1))) := hX8.setW 6 (by simp [wayA]) _
    have HO9 := Hid.intro (HO8.out.trans (setW_only g 6 w8 (.slice na TT.length nc)))
    have HRL : Hid (RowL w8 g (.slice na TT.length nc) TT) := ⟨hown8.rowAll, fun e => by have := (hown8.lt g e).1; omega⟩
    have HR9 := Hid.intro (HRL.out.only (setW_only g 6 w8 (.slice na TT.length nc)))
    have HE9 := Hid.intro (HE.out.only HO9.out)
    clear hX2 hX8 HO hown hown8 ho8 hne8 hnews hRL HRL HO8 HR HE hBx hgB hwB
    go_simp
    refine hKK.out _ _ trivial (fun hHeld2 => ?_)
    clear hKK KK hHeld
    have hHeld := hHeld2
    clear hHeld2
    refine tkk 8 36 (v := ?_) ?_ ?_
    rotate_left 1
    ·intro w hSw
     go_simp <;> with_reducible rfl
    simp only [Act.put, List.setIfInBounds_toArray]
    try simp only [List.set_cons_succ]
    try simp only [List.set_cons_zero]
    refine tkk 9 37 (v := ?_) ?_ ?_
    rotate_left 1
    ·intro w hSw
     go_simp <;> with_reducible rfl
    simp only [Act.put, List.setIfInBounds_toArray]
    try simp only [List.set_cons_succ]
    try simp only [List.set_cons_zero]
    refine wpAnyH_ready (rs := [10]) (by kernel_rfl) (by simp) ?_
    refine (AllReadyH.cons rfl (fun KK hKK => ?_) AllReadyH.nil)
    go_simp
    revert HX9 HO9 HR9 HE9
    generalize w8.setCell ⟨g, 6, none⟩ _ = w9
    intro HX9 HO9 HR9 HE9
    clear k6 f6
    refine hKK.out _ _ trivial (fun hHeld2 => ?_)
    clear hKK KK hHeld
    have hHeld := hHeld2
    clear hHeld2
    refine wpAnyH_done (by kernel_rfl) ?_ _
    clear hHeld
    have k6 : w9.cell? ⟨g, 6, none⟩ = some (.slice na TT.length nc) := HX9.out.cell 6
    have v5 := HE9.out.err.var 5 (by decide)
    by_cases h40 : 40 < TT.length
    ·have y40 : (40 : Int) < (TT.length : Int) := by omega
     go_wp2_with fail
     go_ret
     unfold TurnP
     exact ⟨HO9.out, .inr (.inl ⟨ht8, by rw [hTT]; exact h40, rfl⟩)⟩
    ·have y40 : ¬ (40 : Int) < (TT.length : Int) := by omega
     go_wp2_with fail
     go_ret
     unfold TurnP
     rw [HS.out]
     exact ⟨HO9.out, .inr (.inr ⟨ht8, by rw [hTT]; exact h40, rfl, _, HX9.out, by rw [hTT]; exact HR9.out⟩)⟩
end Go.Proofs.YtmkegmndcbpblaaGreatDoor
