/- The program's copy of a volume. -/
import Derived.Test.YtnhjicbgmocilaaGreatXCopyI
import Derived.Test.YtnhjicbgmocilaaGreatTInc
namespace Go.Proofs.YtnhjicbgmocilaaGreat
open Go.RowKit
set_option linter.unusedVariables false
theorem own_neC {w : World} {B B' k : Nat} {v u : Value} {L : List Di} {M : List Np} (h : Own diE 126 w B v L) (h' : Own ndE 104 w B' u M) (e : v.ownBlock = some k) : ¬ some k = u.ownBlock := by
  intro e'
  obtain ⟨_, h2⟩ := h
  obtain ⟨_, h3⟩ := h'
  rcases h2 with ⟨rfl, _⟩ | ⟨g, cap, cur, rfl, _, hg, _⟩
  · simp [Value.ownBlock] at e
  · rcases h3 with ⟨rfl, _⟩ | ⟨g', cap', cur', rfl, _, hg', _⟩
    · simp [Value.ownBlock] at e'
    · simp only [Value.ownBlock, Option.some.injEq] at e e'
      subst e e'
      rw [hg] at hg'
      simp at hg'
theorem Tryz.infoInC : (Tryz.prog.info? 104).map (fun i => (i.zero, i.size, i.bytes)) = some (some (.agg #[.int .i64 0, .int .i64 0, .int .i64 0, .int .i64 0, .int .i64 0, .string ⟨#[]⟩, .slice none 0 0, .int .i64 0, .int .i64 0]), 9, 96) := by kernel_rfl
/-- append of an inode onto a row of the call's own, inside a region that draws its order. -/
theorem step_InC {w : World} {ops : Array Oper} {o : Oper} {a : Act} {KK : Act → World → Prop} {Q : Exit → Act → World → Prop} {E : Prop} (hgd : o.guard = none) (s x : Operand)
    (ho : o.op = .call { callee := .builtin .append, args := #[s, x], argTypes := #[30, 30] })
    (base : Nat) (v : Value) (L : List Np) (d : Np) (hs : a.eval s = v) (hown : Own ndE 104 w base v L) (ad : Addr) (c : Nat) (hx : a.eval x = .slice (some ad) 1 c)
    (hnews : ∀ j u, (ndE.f [d])[j]? = some u → w.cell? (ad.add j) = some u) (hlen : L.length ≤ 2000000) (hbase : base ≤ w.heap.size)
    (h : ∀ g cap' w', Own ndE 104 w' base (.slice (some ⟨g, 0, none⟩) (L.length + 1) cap') (L ++ [d]) → Only (fun k => some k = v.ownBlock) w w' → (v.ownBlock = some g ∨ g = w.heap.size) → g < w'.heap.size →
      KK (a.put o.dst (.slice (some ⟨g, 0, none⟩) (L.length + 1) cap')) w') : if Region.wanted o (yielded ops a.tmps) = true then Oper.wp Tryz.prog o a w KK Q else E := by
  obtain ⟨i0, hi, hz0, hz1, hz2⟩ := info_parts Tryz.infoInC
  refine step_append_lies w hgd s x 30 ho base 104 i0 (.agg #[.int .i64 0, .int .i64 0, .int .i64 0, .int .i64 0, .int .i64 0, .string ⟨#[]⟩, .slice none 0 0, .int .i64 0, .int .i64 0]) 9 96 Tryz.underlying30 hi hz0 hz1 hz2 rfl (by decide) v L.length (ndE.f L) hs hown ad 1 c (ndE.f [d]) hx (ndE.f_len [d]) hnews (ndE.f_one [d]) (by omega) (by unfold maxLen; omega) (by omega) hbase w.heap.size rfl ?_
  intro g cap' w' hown' hgrow hloc hg
  refine h g cap' w' (Own.mk hown' (by simp) (by rw [ndE.f_append])) (grown_only hgrow) hloc hg
/-- What stands while the inodes of a volume are copied. -/
structure CpV (w : World) (g2 g3 : Nat) (nx : Int) (wr : World) (u : Value) (M : List Np) : Prop where
  box : Blk wr g3 #[.int .i64 nx, u]
  res : Blk wr g2 #[.int .i64 0, .slice none 0 0]
  own : VolO wr (g3 + 1) u M
  inc : Inc M
  bel : Below w.heap.size w wr
  lt : g2 < g3 ∧ w.heap.size ≤ g2
theorem CpV.kept {w : World} {g2 g3 : Nat} {nx : Int} {wr w2 : World} {u : Value} {M : List Np} (h : CpV w g2 g3 nx wr u M) (hb : Below wr.heap.size wr w2) : CpV w g2 g3 nx w2 u M :=
  ⟨h.box.kept hb, h.res.kept hb, h.own.kept hb, h.inc, h.bel.trans (hb.mono h.bel.size), h.lt⟩
theorem CpV.put {w : World} {g2 g3 : Nat} {nx : Int} {wr w4 : World} {u : Value} {M : List Np} {p : Np} {g m cap B : Nat} (h : CpV w g2 g3 nx wr u M) (ho : Only (fun k => some k = u.ownBlock) wr w4) (hown : Own ndE 104 w4 (g3 + 1) (.slice (some ⟨g, 0, none⟩) m cap) (M ++ [p]))
    (hp : Own diE 126 wr B p.v p.n.names) (hB : g3 + 1 ≤ B) (hM : ∀ x ∈ M, ∀ k, x.v.ownBlock = some k → k < B) :
    CpV w g2 g3 nx (w4.setCell ⟨g3, 1, none⟩ (.slice (some ⟨g, 0, none⟩) m cap)) (.slice (some ⟨g, 0, none⟩) m cap) (M ++ [p]) := by
  have hlt := h.lt
  have nb : ∀ k, some k = u.ownBlock → g3 + 1 ≤ k := fun k hk => (h.own.own.lt k hk.symm).1
  have h3 : ¬ some g3 = u.ownBlock := fun e => by have := nb g3 e; omega
  have h2 : ¬ some g2 = u.ownBlock := fun e => by have := nb g2 e; omega
  have bx := h.box.only ho h3
  refine ⟨?_, (h.res.only ho h2).only (setO g3 1 w4 _) (by omega), ⟨hown.only (setO g3 1 w4 _) (fun k hk e => ?_), fun x hx => ?_⟩, h.inc.snoc B hM (fun k hk => (hp.lt k hk).1), ?_, hlt⟩
  · exact bx.putI 1 (by simp) (.slice (some ⟨g, 0, none⟩) m cap)
  · have := (hown.lt k hk).1; omega
  · rcases List.mem_append.1 hx with hx | hx
    · have h5 := h.own.nms x hx
      exact (h5.only ho (fun k hk e => own_neC h5 h.own.own hk e)).only (setO g3 1 w4 _) (fun k hk e => by have := (h5.lt k hk).1; omega)
    · obtain rfl : x = p := by simpa using hx
      exact ((hp.only ho (fun k hk e => own_neC hp h.own.own hk e)).only (setO g3 1 w4 _) (fun k hk e => by have := (hp.lt k hk).1; omega)).lower hB
  · exact (h.bel.trans (ho.below h.bel.size (fun k hk e => by have := nb k e; omega))).trans ((setO g3 1 w4 _).below (Nat.le_trans h.bel.size ho.size) (fun k hk e => by omega))
/-- What a volume's texts are, so that it may be copied. -/
structure CpB (L : List Np) : Prop where
  l : L.length ≤ 24
  d : ∀ p ∈ L, p.n.data.size ≤ 1048576
  s : ∀ p ∈ L, ∀ e ∈ p.n.names, e.nm.size ≤ 1048576
  n : ∀ p ∈ L, p.n.names.length ≤ 12
set_option maxRecDepth 100000 in
set_option maxHeartbeats 4000000 in
theorem volCopied_any (nx : Int) (L : List Np) (u : Value) (N : Nat) (w : World) (hN : N ≤ w.heap.size) (hr : VolR w N u L) (hb : CpB L) :
    Calls Tryz.prog 47 #[volV nx u] w fun e w' => ∃ a c M, e = .returned (volV nx (.slice a M.length c)) ∧ VolO w' w.heap.size (.slice a M.length c) M ∧ M.map Np.n = L.map Np.n ∧ Inc M ∧ Below w.heap.size w w' := by
  obtain ⟨ra, rc, rfl, hl, hm, hcells⟩ := ndE_cell hr.row
  have HC := Hid.intro hcells
  have HN := Hid.intro hr.nms
  have HB := Hid.intro hb
  clear hcells hr
  go_enter Tryz.func47, Tryz.ntmps47
  go_upto_region 2 with fail
  obtain ⟨Y, hY, bY, zY, c1, f1, c2, f2, c3, f3⟩ := boxed3 w #[.int .i64 nx, .slice ra L.length rc] #[.int .i64 0, .slice none 0 0] #[.int .i64 nx, .slice none 0 0] 32 32 32
  simp only [hY]
  have HI : Hid (CpV w (w.heap.size + 1) (w.heap.size + 1 + 1) nx Y (.slice none 0 0) []) := ⟨⟨by omega, c3, f3⟩, ⟨by omega, c2, f2⟩, ⟨Own.nil _ _, fun p hp => by cases hp⟩, fun i j _ hj => by simp at hj, bY, ⟨by omega, by omega⟩⟩
  clear hY bY zY f1 c2 f2 c3 f3
  go_wp2_with fail
  clear c1
  go_loopw [12] (fun i wr => ∃ (M : List Np) (v : Value), i = .int .i64 (M.length : Nat) ∧ M.length ≤ L.length ∧ Hid (M.map Np.n = (L.take M.length).map Np.n) ∧ Hid (CpV w (w.heap.size + 1) (w.heap.size + 1 + 1) nx wr v M)) (fun i _ => L.length - (intOf i).toNat)
  case atStart => exact ⟨[], _, rfl, Nat.zero_le _, by unfold Hid; simp, HI⟩
  case round =>
    obtain ⟨M, v, rfl, hj, HE, HI⟩ := hrel
    by_cases hlt : M.length < L.length
    · obtain ⟨bb, off, hab, hbN, hcc⟩ := HC.out (by intro h; rw [h] at hlt; simp at hlt)
      subst hab
      have hc := (hcc M.length hlt).kept HI.out.bel (by omega)
      have hnm := (HN.out _ (List.getElem_mem hlt))
      have hd := HB.out.d _ (List.getElem_mem hlt)
      have hs := HB.out.s _ (List.getElem_mem hlt)
      have hn := HB.out.n _ (List.getElem_mem hlt)
      have hl24 := HB.out.l
      have hst : L.take (M.length + 1) = L.take M.length ++ [L[M.length]] := List.take_succ_eq_append_getElem hlt
      generalize L[M.length] = p at hc hnm hd hs hn hst
      have HST := Hid.intro hst
      have HNM := Hid.intro hnm
      have HS := Hid.intro hs
      have hzr : bb < wr.heap.size := by have := HI.out.bel.size; omega
      have hjn : (M.length : Int) < (L.length : Int) := by omega
      have i1 : (0 : Int) ≤ (M.length : Int) ∧ (M.length : Int) < (L.length : Int) := by omega
      obtain ⟨va, vc, rfl⟩ := HI.out.own.own.slice
      obtain ⟨g0, g1, g2, g3, g4, g5, g6, g7, g8⟩ := hc
      have hwN : w.heap.size ≤ wr.heap.size := HI.out.bel.size
      clear hcc hst hnm hs
      go_upto_region 5 with fail
      obtain ⟨Y, hY, bY, zY, cY, fY⟩ := boxed wr (ndA p.n p.v) 104
      simp only [hY]
      replace HI := Hid.intro (HI.out.kept bY)
      have HR := Hid.intro (HNM.out.kept (HI.out.bel.mono hN))
      have hyl : wr.heap.size < Y.heap.size := by omega
      have hYN : N ≤ Y.heap.size := by omega
      have CY := Hid.intro cY
      clear hY bY cY fY g0 g1 g2 g3 g4 g5 g6 g7 g8
      refine wp_region_held_drew (S := fun _ => True) (by kernel_rfl) trivial (fun hHeld => ?_)
      have BD : Hid (Below Y.heap.size Y Y.drew) := (Below.refl _ _).drew
      have HD := Hid.intro (HI.out.kept (w2 := Y.drew) (Below.refl _ _).drew)
      clear HI
      generalize Y.drew = D at HD BD hHeld ⊢
      refine take1 (i := 0) (d := some 16) (v := ?_) rfl rfl (by kernel_rfl) (by kernel_rfl) (by kernel_rfl) (fun _ _ _ h => h) (Or.inl ⟨by rfl, ?_⟩) (by assumption) ?_
      rotate_left 1
      · intro w hSw
        go_simp <;> with_reducible rfl
      simp only [Act.put, List.setIfInBounds_toArray]
      try simp only [List.set_cons_succ]
      try simp only [List.set_cons_zero]
      refine wpAnyH_ready (rs := [1, 2]) (by kernel_rfl) (by simp) ?_
      refine (AllReadyH.cons rfl (fun KK hKK => ?_) (AllReadyH.cons rfl (fun KK hKK => ?_) AllReadyH.nil))
      · skip
        have k6 : D.cell? ⟨w.heap.size + 1 + 1, 1, none⟩ = some (.slice va M.length vc) := HD.out.box.cell 1
        go_simp
        refine hKK.out _ _ trivial (fun hHeld2 => ?_)
        clear hKK KK hHeld
        have hHeld := hHeld2
        clear hHeld2
        clear k6
        refine wpAnyH_ready (rs := [2]) (by kernel_rfl) (by simp) ?_
        refine (AllReadyH.cons rfl (fun KK hKK => ?_) AllReadyH.nil)
        go_simp
        have hMx : ∀ x ∈ M, ∀ k, x.v.ownBlock = some k → k < D.heap.size := fun x hx k hk => ((HD.out.own.nms x hx).lt k hk).2
        have hg3 := HD.out.box.hi
        have hwc := BD.out.size
        refine (inoCopied_any wr.heap.size p.n p.v N D (by omega) (by omega) (keepC BD.out hyl CY.out) (HR.out.kept (BD.out.mono hYN)) (by omega) HS.out (by omega)).mono ?_
        rintro e x1 ⟨na, nc, rfl, on, o1⟩
        replace HD := Hid.intro (HD.out.kept o1)
        have on := Hid.intro on
        clear o1
        generalize D.heap.size = B at hMx hg3 on hwc
        go_simp
        refine hKK.out _ _ trivial (fun hHeld2 => ?_)
        clear hKK KK hHeld
        have hHeld := hHeld2
        clear hHeld2
        refine wpAnyH_ready (rs := [3]) (by kernel_rfl) (by simp) ?_
        refine (AllReadyH.cons rfl (fun KK hKK => ?_) AllReadyH.nil)
        go_simp
        have bM : Below x1.heap.size x1 (x1.alloc (.cells #[.int .i64 p.n.id, .int .i64 p.n.kind, .int .i64 p.n.mode, .int .i64 p.n.uid, .int .i64 p.n.gid, .string p.n.data, .slice na p.n.names.length nc, .int .i64 p.n.maxb, .int .i64 p.n.maxi] 104)) := one_below _ _
        have cM : ∀ o, (x1.alloc (.cells #[.int .i64 p.n.id, .int .i64 p.n.kind, .int .i64 p.n.mode, .int .i64 p.n.uid, .int .i64 p.n.gid, .string p.n.data, .slice na p.n.names.length nc, .int .i64 p.n.maxb, .int .i64 p.n.maxi] 104)).cell? ⟨x1.heap.size, o, none⟩ = (ndA p.n (.slice na p.n.names.length nc))[o]? := fun o => World.cell?_alloc_at _ _ _ _ rfl
        replace HD := Hid.intro (HD.out.kept bM)
        replace on := Hid.intro (on.out.kept bM)
        revert HD cM on
        generalize x1.alloc (.cells #[.int .i64 p.n.id, .int .i64 p.n.kind, .int .i64 p.n.mode, .int .i64 p.n.uid, .int .i64 p.n.gid, .string p.n.data, .slice na p.n.names.length nc, .int .i64 p.n.maxb, .int .i64 p.n.maxi] 104) = Mw at bM
        generalize x1.heap.size = sb
        intro cM HD on
        refine hKK.out _ _ trivial (fun hHeld2 => ?_)
        clear hKK KK hHeld
        have hHeld := hHeld2
        clear hHeld2
        refine wpAnyH_ready (rs := [4]) (by kernel_rfl) (by simp) ?_
        refine (AllReadyH.cons rfl (fun KK hKK => ?_) AllReadyH.nil)
        have hnews : ∀ j u, (ndE.f [⟨p.n, na, nc⟩])[j]? = some u → Mw.cell? ((⟨sb, 0, none⟩ : Addr).add j) = some u := fun j u hj => by
          rw [add_none, Nat.zero_add, cM]
          simpa [ndE, Enc.f] using hj
        have hbase : w.heap.size + 1 + 1 + 1 ≤ Mw.heap.size := HD.out.box.hi
        refine step_InC rfl _ _ rfl (w.heap.size + 1 + 1 + 1) (.slice va M.length vc) M ⟨p.n, na, nc⟩ rfl HD.out.own.own ⟨sb, 0, none⟩ 1 rfl hnews (by omega) hbase ?_
        intro g cap2 w4 hown ho hloc hg
        have hne3 : ¬ some (w.heap.size + 1 + 1) = (Value.slice va M.length vc).ownBlock := fun e => by have := (HD.out.own.own.lt (w.heap.size + 1 + 1) e.symm).1; omega
        have k6 : w4.cell? ⟨w.heap.size + 1 + 1, 1, none⟩ = some (.slice va M.length vc) := (ho.cell (o := 1) HD.out.box.hi hne3).trans (HD.out.box.cell 1)
        have f6 := (ho.frozen (o := 1) HD.out.box.hi hne3).trans (HD.out.box.fro 1)
        have HE2 := Hid.intro (HD.out.put ho hown on.out hg3 hMx)
        clear HD hown ho hloc hg hnews hbase cM hne3 bM on hMx hg3
        go_simp
        refine hKK.out _ _ trivial (fun hHeld2 => ?_)
        clear hKK KK hHeld
        have hHeld := hHeld2
        clear hHeld2
        refine take1 (i := 5) (d := some 21) (v := ?_) rfl rfl (by kernel_rfl) (by kernel_rfl) (by kernel_rfl) (fun _ _ _ h => h) (Or.inl ⟨by rfl, ?_⟩) (by assumption) ?_
        rotate_left 1
        · intro w hSw
          go_simp <;> with_reducible rfl
        simp only [Act.put, List.setIfInBounds_toArray]
        try simp only [List.set_cons_succ]
        try simp only [List.set_cons_zero]
        refine wpAnyH_ready (rs := [6]) (by kernel_rfl) (by simp) ?_
        refine (AllReadyH.cons rfl (fun KK hKK => ?_) AllReadyH.nil)
        go_simp
        generalize w4.setCell ⟨w.heap.size + 1 + 1, 1, none⟩ _ = w5 at HE2 ⊢
        clear k6 f6
        refine hKK.out _ _ trivial (fun hHeld2 => ?_)
        clear hKK KK hHeld
        have hHeld := hHeld2
        clear hHeld2
        refine wpAnyH_done (by kernel_rfl) ?_ _
        clear hHeld
        go_wp2
        go_roundw
        case rel => exact ⟨M ++ [⟨p.n, na, nc⟩], _, by rw [List.length_append]; go_num, by rw [List.length_append, List.length_singleton]; omega, by unfold Hid; rw [List.length_append, List.length_singleton, HST.out, List.map_append, List.map_append, HE.out]; rfl, HE2⟩
        case measure => simp [intOf]; omega
      · skip
        go_simp
        have hMx : ∀ x ∈ M, ∀ k, x.v.ownBlock = some k → k < D.heap.size := fun x hx k hk => ((HD.out.own.nms x hx).lt k hk).2
        have hg3 := HD.out.box.hi
        have hwc := BD.out.size
        refine (inoCopied_any wr.heap.size p.n p.v N D (by omega) (by omega) (keepC BD.out hyl CY.out) (HR.out.kept (BD.out.mono hYN)) (by omega) HS.out (by omega)).mono ?_
        rintro e x1 ⟨na, nc, rfl, on, o1⟩
        replace HD := Hid.intro (HD.out.kept o1)
        have on := Hid.intro on
        clear o1
        generalize D.heap.size = B at hMx hg3 on hwc
        go_simp
        refine hKK.out _ _ trivial (fun hHeld2 => ?_)
        clear hKK KK hHeld
        have hHeld := hHeld2
        clear hHeld2
        refine wpAnyH_ready (rs := [1, 3]) (by kernel_rfl) (by simp) ?_
        refine (AllReadyH.cons rfl (fun KK hKK => ?_) (AllReadyH.cons rfl (fun KK hKK => ?_) AllReadyH.nil))
        · skip
          have k6 : x1.cell? ⟨w.heap.size + 1 + 1, 1, none⟩ = some (.slice va M.length vc) := HD.out.box.cell 1
          go_simp
          refine hKK.out _ _ trivial (fun hHeld2 => ?_)
          clear hKK KK hHeld
          have hHeld := hHeld2
          clear hHeld2
          clear k6
          refine wpAnyH_ready (rs := [3]) (by kernel_rfl) (by simp) ?_
          refine (AllReadyH.cons rfl (fun KK hKK => ?_) AllReadyH.nil)
          go_simp
          have bM : Below x1.heap.size x1 (x1.alloc (.cells #[.int .i64 p.n.id, .int .i64 p.n.kind, .int .i64 p.n.mode, .int .i64 p.n.uid, .int .i64 p.n.gid, .string p.n.data, .slice na p.n.names.length nc, .int .i64 p.n.maxb, .int .i64 p.n.maxi] 104)) := one_below _ _
          have cM : ∀ o, (x1.alloc (.cells #[.int .i64 p.n.id, .int .i64 p.n.kind, .int .i64 p.n.mode, .int .i64 p.n.uid, .int .i64 p.n.gid, .string p.n.data, .slice na p.n.names.length nc, .int .i64 p.n.maxb, .int .i64 p.n.maxi] 104)).cell? ⟨x1.heap.size, o, none⟩ = (ndA p.n (.slice na p.n.names.length nc))[o]? := fun o => World.cell?_alloc_at _ _ _ _ rfl
          replace HD := Hid.intro (HD.out.kept bM)
          replace on := Hid.intro (on.out.kept bM)
          revert HD cM on
          generalize x1.alloc (.cells #[.int .i64 p.n.id, .int .i64 p.n.kind, .int .i64 p.n.mode, .int .i64 p.n.uid, .int .i64 p.n.gid, .string p.n.data, .slice na p.n.names.length nc, .int .i64 p.n.maxb, .int .i64 p.n.maxi] 104) = Mw at bM
          generalize x1.heap.size = sb
          intro cM HD on
          refine hKK.out _ _ trivial (fun hHeld2 => ?_)
          clear hKK KK hHeld
          have hHeld := hHeld2
          clear hHeld2
          refine wpAnyH_ready (rs := [4]) (by kernel_rfl) (by simp) ?_
          refine (AllReadyH.cons rfl (fun KK hKK => ?_) AllReadyH.nil)
          have hnews : ∀ j u, (ndE.f [⟨p.n, na, nc⟩])[j]? = some u → Mw.cell? ((⟨sb, 0, none⟩ : Addr).add j) = some u := fun j u hj => by
            rw [add_none, Nat.zero_add, cM]
            simpa [ndE, Enc.f] using hj
          have hbase : w.heap.size + 1 + 1 + 1 ≤ Mw.heap.size := HD.out.box.hi
          refine step_InC rfl _ _ rfl (w.heap.size + 1 + 1 + 1) (.slice va M.length vc) M ⟨p.n, na, nc⟩ rfl HD.out.own.own ⟨sb, 0, none⟩ 1 rfl hnews (by omega) hbase ?_
          intro g cap2 w4 hown ho hloc hg
          have hne3 : ¬ some (w.heap.size + 1 + 1) = (Value.slice va M.length vc).ownBlock := fun e => by have := (HD.out.own.own.lt (w.heap.size + 1 + 1) e.symm).1; omega
          have k6 : w4.cell? ⟨w.heap.size + 1 + 1, 1, none⟩ = some (.slice va M.length vc) := (ho.cell (o := 1) HD.out.box.hi hne3).trans (HD.out.box.cell 1)
          have f6 := (ho.frozen (o := 1) HD.out.box.hi hne3).trans (HD.out.box.fro 1)
          have HE2 := Hid.intro (HD.out.put ho hown on.out hg3 hMx)
          clear HD hown ho hloc hg hnews hbase cM hne3 bM on hMx hg3
          go_simp
          refine hKK.out _ _ trivial (fun hHeld2 => ?_)
          clear hKK KK hHeld
          have hHeld := hHeld2
          clear hHeld2
          refine take1 (i := 5) (d := some 21) (v := ?_) rfl rfl (by kernel_rfl) (by kernel_rfl) (by kernel_rfl) (fun _ _ _ h => h) (Or.inl ⟨by rfl, ?_⟩) (by assumption) ?_
          rotate_left 1
          · intro w hSw
            go_simp <;> with_reducible rfl
          simp only [Act.put, List.setIfInBounds_toArray]
          try simp only [List.set_cons_succ]
          try simp only [List.set_cons_zero]
          refine wpAnyH_ready (rs := [6]) (by kernel_rfl) (by simp) ?_
          refine (AllReadyH.cons rfl (fun KK hKK => ?_) AllReadyH.nil)
          go_simp
          generalize w4.setCell ⟨w.heap.size + 1 + 1, 1, none⟩ _ = w5 at HE2 ⊢
          clear k6 f6
          refine hKK.out _ _ trivial (fun hHeld2 => ?_)
          clear hKK KK hHeld
          have hHeld := hHeld2
          clear hHeld2
          refine wpAnyH_done (by kernel_rfl) ?_ _
          clear hHeld
          go_wp2
          go_roundw
          case rel => exact ⟨M ++ [⟨p.n, na, nc⟩], _, by rw [List.length_append]; go_num, by rw [List.length_append, List.length_singleton]; omega, by unfold Hid; rw [List.length_append, List.length_singleton, HST.out, List.map_append, List.map_append, HE.out]; rfl, HE2⟩
          case measure => simp [intOf]; omega
        · skip
          go_simp
          have bM : Below x1.heap.size x1 (x1.alloc (.cells #[.int .i64 p.n.id, .int .i64 p.n.kind, .int .i64 p.n.mode, .int .i64 p.n.uid, .int .i64 p.n.gid, .string p.n.data, .slice na p.n.names.length nc, .int .i64 p.n.maxb, .int .i64 p.n.maxi] 104)) := one_below _ _
          have cM : ∀ o, (x1.alloc (.cells #[.int .i64 p.n.id, .int .i64 p.n.kind, .int .i64 p.n.mode, .int .i64 p.n.uid, .int .i64 p.n.gid, .string p.n.data, .slice na p.n.names.length nc, .int .i64 p.n.maxb, .int .i64 p.n.maxi] 104)).cell? ⟨x1.heap.size, o, none⟩ = (ndA p.n (.slice na p.n.names.length nc))[o]? := fun o => World.cell?_alloc_at _ _ _ _ rfl
          replace HD := Hid.intro (HD.out.kept bM)
          replace on := Hid.intro (on.out.kept bM)
          revert HD cM on
          generalize x1.alloc (.cells #[.int .i64 p.n.id, .int .i64 p.n.kind, .int .i64 p.n.mode, .int .i64 p.n.uid, .int .i64 p.n.gid, .string p.n.data, .slice na p.n.names.length nc, .int .i64 p.n.maxb, .int .i64 p.n.maxi] 104) = Mw at bM
          generalize x1.heap.size = sb
          intro cM HD on
          refine hKK.out _ _ trivial (fun hHeld2 => ?_)
          clear hKK KK hHeld
          have hHeld := hHeld2
          clear hHeld2
          refine wpAnyH_ready (rs := [1]) (by kernel_rfl) (by simp) ?_
          refine (AllReadyH.cons rfl (fun KK hKK => ?_) AllReadyH.nil)
          have k6 : Mw.cell? ⟨w.heap.size + 1 + 1, 1, none⟩ = some (.slice va M.length vc) := HD.out.box.cell 1
          go_simp
          refine hKK.out _ _ trivial (fun hHeld2 => ?_)
          clear hKK KK hHeld
          have hHeld := hHeld2
          clear hHeld2
          clear k6
          refine wpAnyH_ready (rs := [4]) (by kernel_rfl) (by simp) ?_
          refine (AllReadyH.cons rfl (fun KK hKK => ?_) AllReadyH.nil)
          have hnews : ∀ j u, (ndE.f [⟨p.n, na, nc⟩])[j]? = some u → Mw.cell? ((⟨sb, 0, none⟩ : Addr).add j) = some u := fun j u hj => by
            rw [add_none, Nat.zero_add, cM]
            simpa [ndE, Enc.f] using hj
          have hbase : w.heap.size + 1 + 1 + 1 ≤ Mw.heap.size := HD.out.box.hi
          refine step_InC rfl _ _ rfl (w.heap.size + 1 + 1 + 1) (.slice va M.length vc) M ⟨p.n, na, nc⟩ rfl HD.out.own.own ⟨sb, 0, none⟩ 1 rfl hnews (by omega) hbase ?_
          intro g cap2 w4 hown ho hloc hg
          have hne3 : ¬ some (w.heap.size + 1 + 1) = (Value.slice va M.length vc).ownBlock := fun e => by have := (HD.out.own.own.lt (w.heap.size + 1 + 1) e.symm).1; omega
          have k6 : w4.cell? ⟨w.heap.size + 1 + 1, 1, none⟩ = some (.slice va M.length vc) := (ho.cell (o := 1) HD.out.box.hi hne3).trans (HD.out.box.cell 1)
          have f6 := (ho.frozen (o := 1) HD.out.box.hi hne3).trans (HD.out.box.fro 1)
          have HE2 := Hid.intro (HD.out.put ho hown on.out hg3 hMx)
          clear HD hown ho hloc hg hnews hbase cM hne3 bM on hMx hg3
          go_simp
          refine hKK.out _ _ trivial (fun hHeld2 => ?_)
          clear hKK KK hHeld
          have hHeld := hHeld2
          clear hHeld2
          refine take1 (i := 5) (d := some 21) (v := ?_) rfl rfl (by kernel_rfl) (by kernel_rfl) (by kernel_rfl) (fun _ _ _ h => h) (Or.inl ⟨by rfl, ?_⟩) (by assumption) ?_
          rotate_left 1
          · intro w hSw
            go_simp <;> with_reducible rfl
          simp only [Act.put, List.setIfInBounds_toArray]
          try simp only [List.set_cons_succ]
          try simp only [List.set_cons_zero]
          refine wpAnyH_ready (rs := [6]) (by kernel_rfl) (by simp) ?_
          refine (AllReadyH.cons rfl (fun KK hKK => ?_) AllReadyH.nil)
          go_simp
          generalize w4.setCell ⟨w.heap.size + 1 + 1, 1, none⟩ _ = w5 at HE2 ⊢
          clear k6 f6
          refine hKK.out _ _ trivial (fun hHeld2 => ?_)
          clear hKK KK hHeld
          have hHeld := hHeld2
          clear hHeld2
          refine wpAnyH_done (by kernel_rfl) ?_ _
          clear hHeld
          go_wp2
          go_roundw
          case rel => exact ⟨M ++ [⟨p.n, na, nc⟩], _, by rw [List.length_append]; go_num, by rw [List.length_append, List.length_singleton]; omega, by unfold Hid; rw [List.length_append, List.length_singleton, HST.out, List.map_append, List.map_append, HE.out]; rfl, HE2⟩
          case measure => simp [intOf]; omega
    · have hjn : ¬ (M.length : Int) < (L.length : Int) := by omega
      have hML : M.length = L.length := by omega
      have HM : Hid (M.map Np.n = L.map Np.n) := by
        have := HE.out
        rw [hML, List.take_length] at this
        exact this
      obtain ⟨va, vc, rfl⟩ := HI.out.own.own.slice
      have k0 : wr.cell? ⟨w.heap.size + 1 + 1, 0, none⟩ = some (.int .i64 nx) := HI.out.box.cell 0
      have k1 : wr.cell? ⟨w.heap.size + 1 + 1, 1, none⟩ = some (.slice va M.length vc) := HI.out.box.cell 1
      have r0 : wr.cell? ⟨w.heap.size + 1, 0, none⟩ = some (.int .i64 0) := HI.out.res.cell 0
      have r1 : wr.cell? ⟨w.heap.size + 1, 1, none⟩ = some (.slice none 0 0) := HI.out.res.cell 1
      have f0 : wr.frozen? ⟨w.heap.size + 1, 0, none⟩ = false := HI.out.res.fro 0
      have f1 : wr.frozen? ⟨w.heap.size + 1, 1, none⟩ = false := HI.out.res.fro 1
      have HO : Only (fun x => x = w.heap.size + 1) wr ((wr.setCell ⟨w.heap.size + 1, 0, none⟩ (.int .i64 nx)).setCell ⟨w.heap.size + 1, 1, none⟩ (.slice va M.length vc)) := (setO (w.heap.size + 1) 0 wr (.int .i64 nx)).setCell (p := ⟨w.heap.size + 1, 1, none⟩) rfl (.slice va M.length vc)
      have hlt3 := HI.out.lt
      have HFB := HI.out.bel.trans (HO.below HI.out.bel.size (fun k hk e => by omega))
      have HFO : VolO ((wr.setCell ⟨w.heap.size + 1, 0, none⟩ (.int .i64 nx)).setCell ⟨w.heap.size + 1, 1, none⟩ (.slice va M.length vc)) w.heap.size (.slice va M.length vc) M := (HI.out.own.only HO (fun k hk e => by omega)).lower (by omega)
      have HII := Hid.intro HI.out.inc
      clear HI hML
      go_wp2
      refine bodyPost_ret (v := volV nx (.slice va M.length vc)) (by simp [results, Tryz.results47, go_sem, r0, r1]) rfl ⟨va, vc, M, rfl, HFO, HM.out, HII.out, HFB⟩
end Go.Proofs.YtnhjicbgmocilaaGreat
