/- The program's copy of an inode. -/
import Derived.Test.YtnhjicbgmocilaaGreatTClone
import Derived.Test.YtnhjicbgmocilaaGreatVLawD
import Derived.Test.YtnhjicbgmocilaaGreatPReg
import Derived.Deep.AppendLies
import Derived.Deep.Cut
import Derived.Deep.RegionHeld3
namespace Go.Proofs.YtnhjicbgmocilaaGreat
open Go.RowKit
set_option linter.unusedVariables false
theorem Tryz.infoDi' : (Tryz.prog.info? 126).map (fun i => (i.zero, i.size, i.bytes)) = some (some (.agg #[.string ⟨#[]⟩, .int .i64 0]), 2, 24) := by kernel_rfl
/-- append of names onto a row of the call's own, inside a region that draws its order. -/
theorem step_DiC {w : World} {ops : Array Oper} {o : Oper} {a : Act} {KK : Act → World → Prop} {Q : Exit → Act → World → Prop} {E : Prop} (hgd : o.guard = none) (s x : Operand)
    (ho : o.op = .call { callee := .builtin .append, args := #[s, x], argTypes := #[102, 102] })
    (base : Nat) (v : Value) (L : List Di) (d : Di) (hs : a.eval s = v) (hown : Own diE 126 w base v L) (ad : Addr) (c : Nat) (hx : a.eval x = .slice (some ad) 1 c)
    (hnews : ∀ j u, (diE.f [d])[j]? = some u → w.cell? (ad.add j) = some u) (hlen : L.length ≤ 2000000) (hbase : base ≤ w.heap.size)
    (h : ∀ g cap' w', Own diE 126 w' base (.slice (some ⟨g, 0, none⟩) (L ++ [d]).length cap') (L ++ [d]) → Only (fun k => some k = v.ownBlock) w w' → (v.ownBlock = some g ∨ g = w.heap.size) → g < w'.heap.size →
      KK (a.put o.dst (.slice (some ⟨g, 0, none⟩) (L.length + 1) cap')) w') : if Region.wanted o (yielded ops a.tmps) = true then Oper.wp Tryz.prog o a w KK Q else E := by
  obtain ⟨i0, hi, hz0, hz1, hz2⟩ := info_parts Tryz.infoDi'
  refine step_append_lies w hgd s x 102 ho base 126 i0 (.agg #[.string ⟨#[]⟩, .int .i64 0]) 2 24 Tryz.underlying102 hi hz0 hz1 hz2 rfl (by decide) v L.length (diE.f L) hs hown ad 1 c (diE.f [d]) hx (diE.f_len [d]) hnews (diE.f_one [d]) (by omega) (by unfold maxLen; omega) (by omega) hbase w.heap.size rfl ?_
  intro g cap' w' hown' hgrow hloc hg
  refine h g cap' w' ?_ (grown_only hgrow) hloc hg
  have e : (L ++ [d]).length = L.length + 1 := by simp
  unfold Own
  rw [e, diE.f_append]
  exact hown'
abbrev zI : Array Value := #[.int .i64 0, .int .i64 0, .int .i64 0, .int .i64 0, .int .i64 0, .string ⟨#[]⟩, .slice none 0 0, .int .i64 0, .int .i64 0]
theorem setO (g o : Nat) (w : World) (v : Value) : Only (fun k => k = g) w (w.setCell ⟨g, o, none⟩ v) := (Only.refl (fun k => k = g) w).setCell (p := ⟨g, o, none⟩) rfl v
theorem ndA_setI (n : Nd) (v v2 : Value) : (ndA n v).setIfInBounds 6 v2 = ndA n v2 := rfl
theorem Blk.putI {w : World} {g : Nat} {A : Array Value} (h : Blk w g A) (i : Nat) (hi : i < A.size) (x : Value) : Blk (w.setCell ⟨g, i, none⟩ x) g (A.setIfInBounds i x) := by
  refine ⟨by simpa using h.hi, fun o => ?_, fun o => by rw [World.frozen?_setCell]; exact h.fro o⟩
  by_cases ho : o = i
  · subst ho
    rw [World.cell?_setCell_same _ _ _ ((h.cell o).trans (Array.getElem?_eq_getElem hi)), Array.getElem?_setIfInBounds_self_of_lt hi]
  · rw [World.cell?_setCell_other _ _ _ _ (by intro e; cases e; exact ho rfl), h.cell, Array.getElem?_setIfInBounds_ne (by omega)]
/-- What stands while the names of an inode are copied. -/
structure CpD (w : World) (g2 g3 : Nat) (n : Nd) (wr : World) (v : Value) (L : List Di) : Prop where
  box : Blk wr g3 (ndA n v)
  res : Blk wr g2 zI
  own : Own diE 126 wr (g3 + 1) v L
  bel : Below w.heap.size w wr
  lt : g2 < g3 ∧ w.heap.size ≤ g2
theorem CpD.kept {w : World} {g2 g3 : Nat} {n : Nd} {wr w2 : World} {v : Value} {L : List Di} (h : CpD w g2 g3 n wr v L) (hb : Below wr.heap.size wr w2) : CpD w g2 g3 n w2 v L :=
  ⟨h.box.kept hb, h.res.kept hb, h.own.kept hb, h.bel.trans (hb.mono h.bel.size), h.lt⟩
theorem CpD.put {w : World} {g2 g3 : Nat} {n : Nd} {wr w4 : World} {v : Value} {L L' : List Di} {g m cap : Nat} (h : CpD w g2 g3 n wr v L) (ho : Only (fun k => some k = v.ownBlock) wr w4) (hown : Own diE 126 w4 (g3 + 1) (.slice (some ⟨g, 0, none⟩) m cap) L') :
    CpD w g2 g3 n (w4.setCell ⟨g3, 6, none⟩ (.slice (some ⟨g, 0, none⟩) m cap)) (.slice (some ⟨g, 0, none⟩) m cap) L' := by
  have hlt := h.lt
  have nb : ∀ k, some k = v.ownBlock → g3 + 1 ≤ k := fun k hk => (h.own.lt k hk.symm).1
  have h3 : ¬ some g3 = v.ownBlock := fun e => by have := nb g3 e; omega
  have h2 : ¬ some g2 = v.ownBlock := fun e => by have := nb g2 e; omega
  have bx := h.box.only ho h3
  refine ⟨?_, (h.res.only ho h2).only (setO g3 6 w4 _) (by omega), hown.only (setO g3 6 w4 _) (fun k hk e => ?_), ?_, hlt⟩
  · have := bx.putI 6 (by simp) (.slice (some ⟨g, 0, none⟩) m cap)
    rwa [ndA_setI] at this
  · have := (hown.lt k hk).1; omega
  · exact (h.bel.trans (ho.below h.bel.size (fun k hk e => by have := nb k e; omega))).trans ((setO g3 6 w4 _).below (Nat.le_trans h.bel.size ho.size) (fun k hk e => by omega))
def SDC (yb : Nat) (nm : ByteArray) (id : Int) (w' : World) : Prop := w'.cell? ⟨yb, 0, none⟩ = some (.string nm) ∧ w'.cell? ⟨yb, 1, none⟩ = some (.int .i64 id)
set_option maxRecDepth 100000 in
set_option maxHeartbeats 4000000 in
theorem inoCopied_any (b : Nat) (n : Nd) (v : Value) (N : Nat) (w : World) (hN : N ≤ w.heap.size) (hb : b < w.heap.size) (hbx : ∀ o, w.cell? ⟨b, o, none⟩ = (ndA n v)[o]?) (hr : Row diE w N v n.names) (hd : n.data.size ≤ 1048576) (hs : ∀ e ∈ n.names, e.nm.size ≤ 1048576) (hl12 : n.names.length ≤ 2000000) :
    Calls Tryz.prog 69 #[.pointer (some ⟨b, 0, none⟩)] w fun e w' => ∃ a' c', e = .returned (ndV n (.slice a' n.names.length c')) ∧ Own diE 126 w' w.heap.size (.slice a' n.names.length c') n.names ∧ Below w.heap.size w w' := by
  obtain ⟨ra, rc, rfl, hl, hm, hcells⟩ := diE_cell hr
  have HC := Hid.intro hcells
  have HS := Hid.intro hs
  have HX := Hid.intro hbx
  clear hcells hr hs
  go_enter Tryz.func69, Tryz.ntmps69
  go_upto_region 2 with fail
  clear hbx
  obtain ⟨Y, hY, bY, zY, c2, f2, c3, f3⟩ := boxed2 w zI (ndA n (.slice ra n.names.length rc)) 104 104
  simp only [hY]
  have hx := keepC bY hb HX.out
  have HI : Hid (CpD w w.heap.size (w.heap.size + 1) n Y (.slice ra n.names.length rc) []) → True := fun _ => trivial
  clear HI
  have B2 : Blk Y w.heap.size zI := ⟨by omega, c2, f2⟩
  have B3 : Blk Y (w.heap.size + 1) (ndA n (.slice ra n.names.length rc)) := ⟨by omega, c3, f3⟩
  have HB2 := Hid.intro B2
  have HB3 := Hid.intro B3
  have HB := Hid.intro bY
  clear hY bY c2 f2 c3 f3 B2 B3
  go_wp2_with fail
  refine (clone_any n.data Y hd).mono ?_
  rintro e Z ⟨rfl, bZ⟩
  have zZ := bZ.size
  replace HB2 := Hid.intro (HB2.out.kept bZ)
  replace HB3 := Hid.intro (HB3.out.kept bZ)
  replace hx := keepC bZ (by omega) hx
  replace HB := Hid.intro (HB.out.trans (bZ.mono (by omega)))
  have c3 := HB3.out.cell
  have f3 := HB3.out.fro
  obtain ⟨V, hV⟩ : ∃ V, (Z.setCell ⟨w.heap.size + 1, 5, none⟩ (.string n.data)).setCell ⟨w.heap.size + 1, 6, none⟩ (.slice none 0 0) = V := ⟨_, rfl⟩
  have OV : Only (fun k => k = w.heap.size + 1) Z V := by
    rw [← hV]
    exact ((Only.refl (fun k => k = w.heap.size + 1) Z).setCell (p := ⟨w.heap.size + 1, 5, none⟩) rfl _).setCell (p := ⟨w.heap.size + 1, 6, none⟩) rfl _
  have HI : Hid (CpD w w.heap.size (w.heap.size + 1) n V (.slice none 0 0) []) := by
    refine ⟨?_, HB2.out.only OV (by omega), Own.nil _ _, HB.out.trans (OV.below (by omega) (fun k hk e => by omega)), ⟨by omega, Nat.le_refl _⟩⟩
    rw [← hV]
    have h1 := (HB3.out.putI 5 (by simp) (.string n.data)).putI 6 (by simp) (.slice none 0 0)
    have e : ((ndA n (.slice ra n.names.length rc)).setIfInBounds 5 (.string n.data)).setIfInBounds 6 (.slice none 0 0) = ndA n (.slice none 0 0) := rfl
    rwa [e] at h1
  have hxV : ∀ o, V.cell? ⟨b, o, none⟩ = (ndA n (.slice ra n.names.length rc))[o]? := fun o => (OV.cell (by omega) (by omega)).trans (hx o)
  clear hx HB2 HB3 OV bZ HB HX
  go_upto_region 3 with fail
  try simp only [hV]
  clear c3 f3 hV
  go_wp2_with fail
  clear hxV
  go_loopw [21] (fun i wr => ∃ (j : Nat) (v : Value), i = .int .i64 (j : Nat) ∧ j ≤ n.names.length ∧ Hid (CpD w w.heap.size (w.heap.size + 1) n wr v (n.names.take j))) (fun i _ => n.names.length - (intOf i).toNat)
  case atStart => exact ⟨0, _, rfl, Nat.zero_le _, HI⟩
  case round =>
    obtain ⟨j, v, rfl, hj, HI⟩ := hrel
    by_cases hlt : j < n.names.length
    · obtain ⟨bb, off, hab, hbN, hcc⟩ := HC.out (by intro h; rw [h] at hlt; simp at hlt)
      subst hab
      obtain ⟨d0, d1⟩ := hcc j hlt
      have hsz := HS.out _ (List.getElem_mem hlt)
      have hst : n.names.take (j + 1) = n.names.take j ++ [n.names[j]] := List.take_succ_eq_append_getElem hlt
      have htl : (n.names.take j).length = j := by simp; omega
      replace d0 := atCell HI.out.bel d0 (by omega)
      replace d1 := atCell HI.out.bel d1 (by omega)
      generalize n.names[j] = ej at d0 d1 hsz hst
      obtain ⟨nm, id⟩ := ej
      simp only at d0 d1 hsz
      have HST := Hid.intro hst
      have HTL := Hid.intro htl
      have hzr : bb < wr.heap.size := by have := HI.out.bel.size; omega
      have hjn : (j : Int) < (n.names.length : Int) := by omega
      have i1 : (0 : Int) ≤ (j : Int) ∧ (j : Int) < (n.names.length : Int) := by omega
      obtain ⟨va, vc, rfl⟩ := HI.out.own.slice
      rw [htl] at HI
      clear hcc hst htl
      go_upto_region 6 with fail
      obtain ⟨Y, hY, bY, zY, cY, fY⟩ := boxed wr #[.string nm, .int .i64 id] 126
      simp only [hY]
      have hwr : w.heap.size + 1 < wr.heap.size := HI.out.box.hi
      have HK : Hid (∀ k, some k = (Value.slice va j vc).ownBlock → w.heap.size + 1 + 1 ≤ k ∧ k < wr.heap.size) := fun k hk => HI.out.own.lt k hk.symm
      replace HI := Hid.intro (HI.out.kept bY)
      have hyl : wr.heap.size < Y.heap.size := by omega
      have CY := Hid.intro cY
      clear hY bY cY fY d0 d1
      have HS3 : Hid (∀ y, Below Y.heap.size Y y → SDC wr.heap.size nm id y) := fun y hy => ⟨keepC hy hyl CY.out 0, keepC hy hyl CY.out 1⟩
      refine wp_region_held_drew (S := SDC wr.heap.size nm id) (by kernel_rfl) (HS3.out _ (Below.refl _ _).drew) (fun hHeld => ?_)
      have BD : Hid (Below Y.heap.size Y Y.drew) := (Below.refl _ _).drew
      generalize Y.drew = D at BD hHeld ⊢
      refine take1 (i := 0) (d := some 25) (v := ?_) rfl rfl (by kernel_rfl) (by kernel_rfl) (by kernel_rfl) (fun _ _ _ h => h) (Or.inl ⟨by rfl, ?_⟩) (by assumption) ?_
      rotate_left 1
      · intro w hSw
        obtain ⟨s0, s1⟩ := hSw
        go_simp <;> with_reducible rfl
      simp only [Act.put, List.setIfInBounds_toArray]
      try simp only [List.set_cons_succ]
      try simp only [List.set_cons_zero]
      refine take1 (i := 2) (d := some 27) (v := ?_) rfl rfl (by kernel_rfl) (by kernel_rfl) (by kernel_rfl) (fun _ _ _ h => h) (Or.inl ⟨by rfl, ?_⟩) (by assumption) ?_
      rotate_left 1
      · intro w hSw
        obtain ⟨s0, s1⟩ := hSw
        go_simp <;> with_reducible rfl
      simp only [Act.put, List.setIfInBounds_toArray]
      try simp only [List.set_cons_succ]
      try simp only [List.set_cons_zero]
      refine take1 (i := 3) (d := some 28) (v := ?_) rfl rfl (by kernel_rfl) (by kernel_rfl) (by kernel_rfl) (fun _ _ _ h => h) (Or.inl ⟨by rfl, ?_⟩) (by assumption) ?_
      rotate_left 1
      · intro w hSw
        obtain ⟨s0, s1⟩ := hSw
        go_simp <;> with_reducible rfl
      simp only [Act.put, List.setIfInBounds_toArray]
      try simp only [List.set_cons_succ]
      try simp only [List.set_cons_zero]
      refine take1 (i := 5) (d := some 30) (v := ?_) rfl rfl (by kernel_rfl) (by kernel_rfl) (by kernel_rfl) (fun _ _ _ h => h) (Or.inl ⟨by rfl, ?_⟩) (by assumption) ?_
      rotate_left 1
      · intro w hSw
        obtain ⟨s0, s1⟩ := hSw
        go_simp <;> with_reducible rfl
      simp only [Act.put, List.setIfInBounds_toArray]
      try simp only [List.set_cons_succ]
      try simp only [List.set_cons_zero]
      refine take1 (i := 6) (d := some 31) (v := ?_) rfl rfl (by kernel_rfl) (by kernel_rfl) (by kernel_rfl) (fun _ _ _ h => h) (Or.inl ⟨by rfl, ?_⟩) (by assumption) ?_
      rotate_left 1
      · intro w hSw
        obtain ⟨s0, s1⟩ := hSw
        go_simp <;> with_reducible rfl
      simp only [Act.put, List.setIfInBounds_toArray]
      try simp only [List.set_cons_succ]
      try simp only [List.set_cons_zero]
      refine wpAnyH_ready (rs := [1, 4]) (by kernel_rfl) (by simp) ?_
      refine (AllReadyH.cons rfl (fun KK hKK => ?_) (AllReadyH.cons rfl (fun KK hKK => ?_) AllReadyH.nil))
      · skip
        have k6 : D.cell? ⟨w.heap.size + 1, 6, none⟩ = some (.slice va j vc) := (HI.out.kept BD.out).box.cell 6
        go_simp
        refine hKK.out _ _ (HS3.out _ BD.out) (fun hHeld2 => ?_)
        clear hKK KK hHeld
        have hHeld := hHeld2
        clear hHeld2
        clear k6
        refine wpAnyH_ready (rs := [4]) (by kernel_rfl) (by simp) ?_
        refine (AllReadyH.cons rfl (fun KK hKK => ?_) AllReadyH.nil)
        go_simp
        refine (clone_any nm D (by omega)).mono ?_
        rintro e q1 ⟨rfl, b9⟩
        have Bq1 : Hid (Below Y.heap.size Y q1) := BD.out.trans (b9.mono BD.out.size)
        clear b9
        go_simp
        refine hKK.out _ _ (HS3.out _ Bq1.out) (fun hHeld2 => ?_)
        clear hKK KK hHeld
        have hHeld := hHeld2
        clear hHeld2
        refine take1 (i := 7) (d := some 32) (v := ?_) rfl rfl (by kernel_rfl) (by kernel_rfl) (by kernel_rfl) (fun _ _ _ h => h) (Or.inl ⟨by rfl, ?_⟩) (by assumption) ?_
        rotate_left 1
        · intro w hSw
          obtain ⟨s0, s1⟩ := hSw
          go_simp <;> with_reducible rfl
        simp only [Act.put, List.setIfInBounds_toArray]
        try simp only [List.set_cons_succ]
        try simp only [List.set_cons_zero]
        refine wpAnyH_ready (rs := [8]) (by kernel_rfl) (by simp) ?_
        refine (AllReadyH.cons rfl (fun KK hKK => ?_) AllReadyH.nil)
        go_simp
        have bM : Below q1.heap.size q1 (q1.alloc (.cells #[.string nm, .int .i64 id] 126)) := one_below _ _
        have cM : ∀ o, (q1.alloc (.cells #[.string nm, .int .i64 id] 126)).cell? ⟨q1.heap.size, o, none⟩ = #[Value.string nm, .int .i64 id][o]? := fun o => World.cell?_alloc_at _ _ _ _ rfl
        have BM : Hid (Below Y.heap.size Y (q1.alloc (.cells #[.string nm, .int .i64 id] 126))) := Bq1.out.trans (bM.mono Bq1.out.size)
        have zM : Hid (q1.heap.size < (q1.alloc (.cells #[.string nm, .int .i64 id] 126)).heap.size) := by unfold Hid; simp
        revert BM cM zM
        generalize q1.alloc (.cells #[.string nm, .int .i64 id] 126) = M at bM
        generalize q1.heap.size = sb
        intro cM BM zM
        clear bM
        refine hKK.out _ _ (HS3.out _ BM.out) (fun hHeld2 => ?_)
        clear hKK KK hHeld
        have hHeld := hHeld2
        clear hHeld2
        refine wpAnyH_ready (rs := [9]) (by kernel_rfl) (by simp) ?_
        refine (AllReadyH.cons rfl (fun KK hKK => ?_) AllReadyH.nil)
        have hnews : ∀ j u, (diE.f [⟨nm, id⟩])[j]? = some u → M.cell? ((⟨sb, 0, none⟩ : Addr).add j) = some u := fun j u hj => by
          rw [add_none, Nat.zero_add, cM]
          simpa [diE, Enc.f] using hj
        have HM := Hid.intro (HI.out.kept BM.out)
        have hbase : w.heap.size + 1 + 1 ≤ M.heap.size := HM.out.box.hi
        have hown0 : Own diE 126 M (w.heap.size + 1 + 1) (.slice va j vc) (n.names.take j) := HM.out.own
        refine step_DiC rfl _ _ rfl (w.heap.size + 1 + 1) (.slice va j vc) (n.names.take j) ⟨nm, id⟩ rfl hown0 ⟨sb, 0, none⟩ 1 rfl hnews (by have := HTL.out; omega) hbase ?_
        intro g cap2 w4 hown ho hloc hg
        rw [← HST.out] at hown
        have hl1 : (n.names.take (j + 1)).length = j + 1 := by simp; omega
        rw [hl1] at hown
        have hne3 : ¬ some (w.heap.size + 1) = (Value.slice va j vc).ownBlock := fun e => by have := (HK.out _ e).1; omega
        have hney : ¬ some wr.heap.size = (Value.slice va j vc).ownBlock := fun e => by have := (HK.out _ e).2; omega
        have k6 : w4.cell? ⟨w.heap.size + 1, 6, none⟩ = some (.slice va j vc) := (ho.cell (o := 6) HM.out.box.hi hne3).trans (HM.out.box.cell 6)
        have f6 := (ho.frozen (o := 6) HM.out.box.hi hne3).trans (HM.out.box.fro 6)
        have HE := Hid.intro (HM.out.put ho hown)
        have hyM : wr.heap.size < M.heap.size := by have := BM.out.size; omega
        have SW4 : Hid (SDC wr.heap.size nm id w4) := by
          have h0 := HS3.out _ BM.out
          exact ⟨(ho.cell hyM hney).trans h0.1, (ho.cell hyM hney).trans h0.2⟩
        have z4 : wr.heap.size < w4.heap.size := by have := ho.size; omega
        rw [HTL.out]
        clear HM hown ho hloc hg hnews hbase cM hne3 hown0 HI hl1 hney hyM zM
        go_simp
        refine hKK.out _ _ (SW4.out) (fun hHeld2 => ?_)
        clear hKK KK hHeld
        have hHeld := hHeld2
        clear hHeld2
        refine take1 (i := 10) (d := some 35) (v := ?_) rfl rfl (by kernel_rfl) (by kernel_rfl) (by kernel_rfl) (fun _ _ _ h => h) (Or.inl ⟨by rfl, ?_⟩) (by assumption) ?_
        rotate_left 1
        · intro w hSw
          obtain ⟨s0, s1⟩ := hSw
          go_simp <;> with_reducible rfl
        simp only [Act.put, List.setIfInBounds_toArray]
        try simp only [List.set_cons_succ]
        try simp only [List.set_cons_zero]
        refine wpAnyH_ready (rs := [11]) (by kernel_rfl) (by simp) ?_
        refine (AllReadyH.cons rfl (fun KK hKK => ?_) AllReadyH.nil)
        have OE : Only (fun k => k = w.heap.size + 1) w4 (w4.setCell ⟨w.heap.size + 1, 6, none⟩ (.slice (some ⟨g, 0, none⟩) (j + 1) cap2)) := setO _ _ _ _
        have SW5 : Hid (SDC wr.heap.size nm id (w4.setCell ⟨w.heap.size + 1, 6, none⟩ (.slice (some ⟨g, 0, none⟩) (j + 1) cap2))) := ⟨(OE.cell z4 (by omega)).trans SW4.out.1, (OE.cell z4 (by omega)).trans SW4.out.2⟩
        clear OE
        go_simp
        generalize w4.setCell ⟨w.heap.size + 1, 6, none⟩ _ = w5 at HE SW5 ⊢
        clear k6 f6
        refine hKK.out _ _ (SW5.out) (fun hHeld2 => ?_)
        clear hKK KK hHeld
        have hHeld := hHeld2
        clear hHeld2
        refine wpAnyH_done (by kernel_rfl) ?_ _
        clear hHeld SW4 SW5
        go_wp2
        go_roundw
        case rel => exact ⟨j + 1, _, by go_num, by omega, HE⟩
        case measure => simp [intOf]; omega
      · skip
        go_simp
        refine (clone_any nm D (by omega)).mono ?_
        rintro e q1 ⟨rfl, b9⟩
        have Bq1 : Hid (Below Y.heap.size Y q1) := BD.out.trans (b9.mono BD.out.size)
        clear b9
        go_simp
        refine hKK.out _ _ (HS3.out _ Bq1.out) (fun hHeld2 => ?_)
        clear hKK KK hHeld
        have hHeld := hHeld2
        clear hHeld2
        refine take1 (i := 7) (d := some 32) (v := ?_) rfl rfl (by kernel_rfl) (by kernel_rfl) (by kernel_rfl) (fun _ _ _ h => h) (Or.inl ⟨by rfl, ?_⟩) (by assumption) ?_
        rotate_left 1
        · intro w hSw
          obtain ⟨s0, s1⟩ := hSw
          go_simp <;> with_reducible rfl
        simp only [Act.put, List.setIfInBounds_toArray]
        try simp only [List.set_cons_succ]
        try simp only [List.set_cons_zero]
        refine wpAnyH_ready (rs := [1, 8]) (by kernel_rfl) (by simp) ?_
        refine (AllReadyH.cons rfl (fun KK hKK => ?_) (AllReadyH.cons rfl (fun KK hKK => ?_) AllReadyH.nil))
        · skip
          have k6 : q1.cell? ⟨w.heap.size + 1, 6, none⟩ = some (.slice va j vc) := (HI.out.kept Bq1.out).box.cell 6
          go_simp
          refine hKK.out _ _ (HS3.out _ Bq1.out) (fun hHeld2 => ?_)
          clear hKK KK hHeld
          have hHeld := hHeld2
          clear hHeld2
          clear k6
          refine wpAnyH_ready (rs := [8]) (by kernel_rfl) (by simp) ?_
          refine (AllReadyH.cons rfl (fun KK hKK => ?_) AllReadyH.nil)
          go_simp
          have bM : Below q1.heap.size q1 (q1.alloc (.cells #[.string nm, .int .i64 id] 126)) := one_below _ _
          have cM : ∀ o, (q1.alloc (.cells #[.string nm, .int .i64 id] 126)).cell? ⟨q1.heap.size, o, none⟩ = #[Value.string nm, .int .i64 id][o]? := fun o => World.cell?_alloc_at _ _ _ _ rfl
          have BM : Hid (Below Y.heap.size Y (q1.alloc (.cells #[.string nm, .int .i64 id] 126))) := Bq1.out.trans (bM.mono Bq1.out.size)
          have zM : Hid (q1.heap.size < (q1.alloc (.cells #[.string nm, .int .i64 id] 126)).heap.size) := by unfold Hid; simp
          revert BM cM zM
          generalize q1.alloc (.cells #[.string nm, .int .i64 id] 126) = M at bM
          generalize q1.heap.size = sb
          intro cM BM zM
          clear bM
          refine hKK.out _ _ (HS3.out _ BM.out) (fun hHeld2 => ?_)
          clear hKK KK hHeld
          have hHeld := hHeld2
          clear hHeld2
          refine wpAnyH_ready (rs := [9]) (by kernel_rfl) (by simp) ?_
          refine (AllReadyH.cons rfl (fun KK hKK => ?_) AllReadyH.nil)
          have hnews : ∀ j u, (diE.f [⟨nm, id⟩])[j]? = some u → M.cell? ((⟨sb, 0, none⟩ : Addr).add j) = some u := fun j u hj => by
            rw [add_none, Nat.zero_add, cM]
            simpa [diE, Enc.f] using hj
          have HM := Hid.intro (HI.out.kept BM.out)
          have hbase : w.heap.size + 1 + 1 ≤ M.heap.size := HM.out.box.hi
          have hown0 : Own diE 126 M (w.heap.size + 1 + 1) (.slice va j vc) (n.names.take j) := HM.out.own
          refine step_DiC rfl _ _ rfl (w.heap.size + 1 + 1) (.slice va j vc) (n.names.take j) ⟨nm, id⟩ rfl hown0 ⟨sb, 0, none⟩ 1 rfl hnews (by have := HTL.out; omega) hbase ?_
          intro g cap2 w4 hown ho hloc hg
          rw [← HST.out] at hown
          have hl1 : (n.names.take (j + 1)).length = j + 1 := by simp; omega
          rw [hl1] at hown
          have hne3 : ¬ some (w.heap.size + 1) = (Value.slice va j vc).ownBlock := fun e => by have := (HK.out _ e).1; omega
          have hney : ¬ some wr.heap.size = (Value.slice va j vc).ownBlock := fun e => by have := (HK.out _ e).2; omega
          have k6 : w4.cell? ⟨w.heap.size + 1, 6, none⟩ = some (.slice va j vc) := (ho.cell (o := 6) HM.out.box.hi hne3).trans (HM.out.box.cell 6)
          have f6 := (ho.frozen (o := 6) HM.out.box.hi hne3).trans (HM.out.box.fro 6)
          have HE := Hid.intro (HM.out.put ho hown)
          have hyM : wr.heap.size < M.heap.size := by have := BM.out.size; omega
          have SW4 : Hid (SDC wr.heap.size nm id w4) := by
            have h0 := HS3.out _ BM.out
            exact ⟨(ho.cell hyM hney).trans h0.1, (ho.cell hyM hney).trans h0.2⟩
          have z4 : wr.heap.size < w4.heap.size := by have := ho.size; omega
          rw [HTL.out]
          clear HM hown ho hloc hg hnews hbase cM hne3 hown0 HI hl1 hney hyM zM
          go_simp
          refine hKK.out _ _ (SW4.out) (fun hHeld2 => ?_)
          clear hKK KK hHeld
          have hHeld := hHeld2
          clear hHeld2
          refine take1 (i := 10) (d := some 35) (v := ?_) rfl rfl (by kernel_rfl) (by kernel_rfl) (by kernel_rfl) (fun _ _ _ h => h) (Or.inl ⟨by rfl, ?_⟩) (by assumption) ?_
          rotate_left 1
          · intro w hSw
            obtain ⟨s0, s1⟩ := hSw
            go_simp <;> with_reducible rfl
          simp only [Act.put, List.setIfInBounds_toArray]
          try simp only [List.set_cons_succ]
          try simp only [List.set_cons_zero]
          refine wpAnyH_ready (rs := [11]) (by kernel_rfl) (by simp) ?_
          refine (AllReadyH.cons rfl (fun KK hKK => ?_) AllReadyH.nil)
          have OE : Only (fun k => k = w.heap.size + 1) w4 (w4.setCell ⟨w.heap.size + 1, 6, none⟩ (.slice (some ⟨g, 0, none⟩) (j + 1) cap2)) := setO _ _ _ _
          have SW5 : Hid (SDC wr.heap.size nm id (w4.setCell ⟨w.heap.size + 1, 6, none⟩ (.slice (some ⟨g, 0, none⟩) (j + 1) cap2))) := ⟨(OE.cell z4 (by omega)).trans SW4.out.1, (OE.cell z4 (by omega)).trans SW4.out.2⟩
          clear OE
          go_simp
          generalize w4.setCell ⟨w.heap.size + 1, 6, none⟩ _ = w5 at HE SW5 ⊢
          clear k6 f6
          refine hKK.out _ _ (SW5.out) (fun hHeld2 => ?_)
          clear hKK KK hHeld
          have hHeld := hHeld2
          clear hHeld2
          refine wpAnyH_done (by kernel_rfl) ?_ _
          clear hHeld SW4 SW5
          go_wp2
          go_roundw
          case rel => exact ⟨j + 1, _, by go_num, by omega, HE⟩
          case measure => simp [intOf]; omega
        · skip
          go_simp
          have bM : Below q1.heap.size q1 (q1.alloc (.cells #[.string nm, .int .i64 id] 126)) := one_below _ _
          have cM : ∀ o, (q1.alloc (.cells #[.string nm, .int .i64 id] 126)).cell? ⟨q1.heap.size, o, none⟩ = #[Value.string nm, .int .i64 id][o]? := fun o => World.cell?_alloc_at _ _ _ _ rfl
          have BM : Hid (Below Y.heap.size Y (q1.alloc (.cells #[.string nm, .int .i64 id] 126))) := Bq1.out.trans (bM.mono Bq1.out.size)
          have zM : Hid (q1.heap.size < (q1.alloc (.cells #[.string nm, .int .i64 id] 126)).heap.size) := by unfold Hid; simp
          revert BM cM zM
          generalize q1.alloc (.cells #[.string nm, .int .i64 id] 126) = M at bM
          generalize q1.heap.size = sb
          intro cM BM zM
          clear bM
          refine hKK.out _ _ (HS3.out _ BM.out) (fun hHeld2 => ?_)
          clear hKK KK hHeld
          have hHeld := hHeld2
          clear hHeld2
          refine wpAnyH_ready (rs := [1]) (by kernel_rfl) (by simp) ?_
          refine (AllReadyH.cons rfl (fun KK hKK => ?_) AllReadyH.nil)
          have k6 : M.cell? ⟨w.heap.size + 1, 6, none⟩ = some (.slice va j vc) := (HI.out.kept BM.out).box.cell 6
          go_simp
          refine hKK.out _ _ (HS3.out _ BM.out) (fun hHeld2 => ?_)
          clear hKK KK hHeld
          have hHeld := hHeld2
          clear hHeld2
          clear k6
          refine wpAnyH_ready (rs := [9]) (by kernel_rfl) (by simp) ?_
          refine (AllReadyH.cons rfl (fun KK hKK => ?_) AllReadyH.nil)
          have hnews : ∀ j u, (diE.f [⟨nm, id⟩])[j]? = some u → M.cell? ((⟨sb, 0, none⟩ : Addr).add j) = some u := fun j u hj => by
            rw [add_none, Nat.zero_add, cM]
            simpa [diE, Enc.f] using hj
          have HM := Hid.intro (HI.out.kept BM.out)
          have hbase : w.heap.size + 1 + 1 ≤ M.heap.size := HM.out.box.hi
          have hown0 : Own diE 126 M (w.heap.size + 1 + 1) (.slice va j vc) (n.names.take j) := HM.out.own
          refine step_DiC rfl _ _ rfl (w.heap.size + 1 + 1) (.slice va j vc) (n.names.take j) ⟨nm, id⟩ rfl hown0 ⟨sb, 0, none⟩ 1 rfl hnews (by have := HTL.out; omega) hbase ?_
          intro g cap2 w4 hown ho hloc hg
          rw [← HST.out] at hown
          have hl1 : (n.names.take (j + 1)).length = j + 1 := by simp; omega
          rw [hl1] at hown
          have hne3 : ¬ some (w.heap.size + 1) = (Value.slice va j vc).ownBlock := fun e => by have := (HK.out _ e).1; omega
          have hney : ¬ some wr.heap.size = (Value.slice va j vc).ownBlock := fun e => by have := (HK.out _ e).2; omega
          have k6 : w4.cell? ⟨w.heap.size + 1, 6, none⟩ = some (.slice va j vc) := (ho.cell (o := 6) HM.out.box.hi hne3).trans (HM.out.box.cell 6)
          have f6 := (ho.frozen (o := 6) HM.out.box.hi hne3).trans (HM.out.box.fro 6)
          have HE := Hid.intro (HM.out.put ho hown)
          have hyM : wr.heap.size < M.heap.size := by have := BM.out.size; omega
          have SW4 : Hid (SDC wr.heap.size nm id w4) := by
            have h0 := HS3.out _ BM.out
            exact ⟨(ho.cell hyM hney).trans h0.1, (ho.cell hyM hney).trans h0.2⟩
          have z4 : wr.heap.size < w4.heap.size := by have := ho.size; omega
          rw [HTL.out]
          clear HM hown ho hloc hg hnews hbase cM hne3 hown0 HI hl1 hney hyM zM
          go_simp
          refine hKK.out _ _ (SW4.out) (fun hHeld2 => ?_)
          clear hKK KK hHeld
          have hHeld := hHeld2
          clear hHeld2
          refine take1 (i := 10) (d := some 35) (v := ?_) rfl rfl (by kernel_rfl) (by kernel_rfl) (by kernel_rfl) (fun _ _ _ h => h) (Or.inl ⟨by rfl, ?_⟩) (by assumption) ?_
          rotate_left 1
          · intro w hSw
            obtain ⟨s0, s1⟩ := hSw
            go_simp <;> with_reducible rfl
          simp only [Act.put, List.setIfInBounds_toArray]
          try simp only [List.set_cons_succ]
          try simp only [List.set_cons_zero]
          refine wpAnyH_ready (rs := [11]) (by kernel_rfl) (by simp) ?_
          refine (AllReadyH.cons rfl (fun KK hKK => ?_) AllReadyH.nil)
          have OE : Only (fun k => k = w.heap.size + 1) w4 (w4.setCell ⟨w.heap.size + 1, 6, none⟩ (.slice (some ⟨g, 0, none⟩) (j + 1) cap2)) := setO _ _ _ _
          have SW5 : Hid (SDC wr.heap.size nm id (w4.setCell ⟨w.heap.size + 1, 6, none⟩ (.slice (some ⟨g, 0, none⟩) (j + 1) cap2))) := ⟨(OE.cell z4 (by omega)).trans SW4.out.1, (OE.cell z4 (by omega)).trans SW4.out.2⟩
          clear OE
          go_simp
          generalize w4.setCell ⟨w.heap.size + 1, 6, none⟩ _ = w5 at HE SW5 ⊢
          clear k6 f6
          refine hKK.out _ _ (SW5.out) (fun hHeld2 => ?_)
          clear hKK KK hHeld
          have hHeld := hHeld2
          clear hHeld2
          refine wpAnyH_done (by kernel_rfl) ?_ _
          clear hHeld SW4 SW5
          go_wp2
          go_roundw
          case rel => exact ⟨j + 1, _, by go_num, by omega, HE⟩
          case measure => simp [intOf]; omega
    · obtain rfl : j = n.names.length := by omega
      have e1 : n.names.take n.names.length = n.names := List.take_length
      rw [e1] at HI
      obtain ⟨va, vc, rfl⟩ := HI.out.own.slice
      have hjn : ¬ (n.names.length : Int) < (n.names.length : Int) := by omega
      have k0 : wr.cell? ⟨w.heap.size + 1, 0, none⟩ = some (.int .i64 n.id) := HI.out.box.cell 0
      have r0 : wr.cell? ⟨w.heap.size, 0, none⟩ = some (.int .i64 0) := HI.out.res.cell 0
      have f0 : wr.frozen? ⟨w.heap.size, 0, none⟩ = false := HI.out.res.fro 0
      have k1 : wr.cell? ⟨w.heap.size + 1, 1, none⟩ = some (.int .i64 n.kind) := HI.out.box.cell 1
      have r1 : wr.cell? ⟨w.heap.size, 1, none⟩ = some (.int .i64 0) := HI.out.res.cell 1
      have f1 : wr.frozen? ⟨w.heap.size, 1, none⟩ = false := HI.out.res.fro 1
      have k2 : wr.cell? ⟨w.heap.size + 1, 2, none⟩ = some (.int .i64 n.mode) := HI.out.box.cell 2
      have r2 : wr.cell? ⟨w.heap.size, 2, none⟩ = some (.int .i64 0) := HI.out.res.cell 2
      have f2 : wr.frozen? ⟨w.heap.size, 2, none⟩ = false := HI.out.res.fro 2
      have k3 : wr.cell? ⟨w.heap.size + 1, 3, none⟩ = some (.int .i64 n.uid) := HI.out.box.cell 3
      have r3 : wr.cell? ⟨w.heap.size, 3, none⟩ = some (.int .i64 0) := HI.out.res.cell 3
      have f3 : wr.frozen? ⟨w.heap.size, 3, none⟩ = false := HI.out.res.fro 3
      have k4 : wr.cell? ⟨w.heap.size + 1, 4, none⟩ = some (.int .i64 n.gid) := HI.out.box.cell 4
      have r4 : wr.cell? ⟨w.heap.size, 4, none⟩ = some (.int .i64 0) := HI.out.res.cell 4
      have f4 : wr.frozen? ⟨w.heap.size, 4, none⟩ = false := HI.out.res.fro 4
      have k5 : wr.cell? ⟨w.heap.size + 1, 5, none⟩ = some (.string n.data) := HI.out.box.cell 5
      have r5 : wr.cell? ⟨w.heap.size, 5, none⟩ = some (.string ⟨#[]⟩) := HI.out.res.cell 5
      have f5 : wr.frozen? ⟨w.heap.size, 5, none⟩ = false := HI.out.res.fro 5
      have k6 : wr.cell? ⟨w.heap.size + 1, 6, none⟩ = some (.slice va n.names.length vc) := HI.out.box.cell 6
      have r6 : wr.cell? ⟨w.heap.size, 6, none⟩ = some (.slice none 0 0) := HI.out.res.cell 6
      have f6 : wr.frozen? ⟨w.heap.size, 6, none⟩ = false := HI.out.res.fro 6
      have k7 : wr.cell? ⟨w.heap.size + 1, 7, none⟩ = some (.int .i64 n.maxb) := HI.out.box.cell 7
      have r7 : wr.cell? ⟨w.heap.size, 7, none⟩ = some (.int .i64 0) := HI.out.res.cell 7
      have f7 : wr.frozen? ⟨w.heap.size, 7, none⟩ = false := HI.out.res.fro 7
      have k8 : wr.cell? ⟨w.heap.size + 1, 8, none⟩ = some (.int .i64 n.maxi) := HI.out.box.cell 8
      have r8 : wr.cell? ⟨w.heap.size, 8, none⟩ = some (.int .i64 0) := HI.out.res.cell 8
      have f8 : wr.frozen? ⟨w.heap.size, 8, none⟩ = false := HI.out.res.fro 8
      have OE : Hid (∀ Z, Only (fun k => k = w.heap.size) wr Z → Own diE 126 Z w.heap.size (.slice va n.names.length vc) n.names ∧ Below w.heap.size w Z) := fun Z hZ => ⟨(HI.out.own.only hZ (fun k hk e => by have := (HI.out.own.lt k hk).1; omega)).lower (by omega), HI.out.bel.trans (hZ.below HI.out.bel.size (fun k hk e => by omega))⟩
      clear e1
      go_wp2
      refine bodyPost_ret (v := ndV n (.slice va n.names.length vc)) (by simp [results, Tryz.results69, go_sem, r0, r1, r2, r3, r4, r5, r6, r7, r8]) rfl ⟨va, vc, rfl, (OE.out _ ?_).1, (OE.out _ ?_).2⟩
      · repeat (refine Only.setCell ?_ (by simp) _)
        exact Only.refl _ _
      · repeat (refine Only.setCell ?_ (by simp) _)
        exact Only.refl _ _
end Go.Proofs.YtnhjicbgmocilaaGreat
