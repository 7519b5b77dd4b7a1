/- A cursor's volume. -/
import Derived.Test.YtegdogdlohoheaaGreatTCurI
import Derived.Test.YtegdogdlohoheaaGreatTInc
namespace Go.Proofs.YtegdogdlohoheaaGreat
open Go.RowKit
set_option linter.unusedVariables false
/-- So many inodes from the front on, and what is left. -/
noncomputable def inosO : Nat → List UInt8 → Option (List Nd × List UInt8)
 | 0, l => some ([], l)
 | n + 1, l => (inoO l).bind fun a => (inosO n a.2).bind fun d => some (a.1 :: d.1, d.2)
theorem inosO_no {n : Nat} {l : List UInt8} (hn : 0 < n) (h : inoO l = none) : inosO n l = none := by
 obtain ⟨m, rfl⟩ : ∃ m, n = m + 1 := ⟨n - 1, by omega⟩
 simp only [inosO, h, Option.bind_none]
theorem inosO_yes {n : Nat} {l q : List UInt8} {x : Nd} (hn : 0 < n) (h : inoO l = some (x, q)) : inosO n l = (inosO (n - 1) q).map fun y => (x :: y.1, y.2) := by
 obtain ⟨m, rfl⟩ : ∃ m, n = m + 1 := ⟨n - 1, by omega⟩
 simp only [inosO, h, Option.bind_some, Nat.add_sub_cancel]
 cases inosO m q <;> rfl
/-- A volume at the front, and what is left. -/
noncomputable def volO (l : List UInt8) : Option ((Nat × List Nd) × List UInt8) :=
 (numO l).bind fun a => (cntO 24 a.2).bind fun n => (inosO n.1 n.2).bind fun s => some ((a.1, s.1), s.2)
/-- What a cursor's volume hands back. -/
def VolC (b : Nat) (q : ByteArray) (w : World) (e : Ending) (w' : World) : Prop :=
 (∃ (nx : Nat) (u : Value) (M : List Np) (q' : ByteArray), e = .returned (volV (nx : Nat) u) ∧ Hid (volO q.data.toList = some ((nx, M.map Np.n), q'.data.toList)) ∧ CurAt w' b q' ∧ q'.size ≤ 1048576 ∧ Hid (VolO w' w.heap.size u M ∧ Inc M) ∧ Only (fun k => k = b) w w') ∨ (Lack e ∧ Hid (volO q.data.toList = none) ∧ Only (fun k => k = b) w w')
theorem own_ne {w : World} {B B' k : Nat} {v u : Value} {L : List Di} {M : List Np} (h : Own diE 102 w B v L) (h' : Own ndE 76 w B' u M) (e : v.ownBlock = some k) : ¬ some k = u.ownBlock := by
 intro e'
 obtain ⟨_, h2⟩ := h
 obtain ⟨_, h3⟩ := h'
 rcases h2 with ⟨rfl, _⟩ | ⟨g, cap, cur, rfl, _, hg, _⟩
 ·simp [Value.ownBlock] at e
 ·rcases h3 with ⟨rfl, _⟩ | ⟨g', cap', cur', rfl, _, hg', _⟩
  ·simp [Value.ownBlock] at e'
  ·simp only [Value.ownBlock, Option.some.injEq] at e e'
   subst e e'
   rw [hg] at hg'
   simp at hg'
/-- What stands while inodes are read. -/
structure VoI (w : World) (b g2 g3 : Nat) (nx : Nat) (wr : World) (q : ByteArray) (u : Value) (M : List Np) : Prop where
 cur : CurAt wr b q
 box : Blk wr g3 #[.int .i64 (nx : Nat), u]
 res : Blk wr g2 #[.int .i64 0, .slice none 0 0]
 own : VolO wr (g3 + 1) u M
 inc : Inc M
 only : Only (fun k => k = b) w wr
 lt : b < g2 ∧ g2 < g3 ∧ w.heap.size ≤ g2
theorem VoI.step {w : World} {b g2 g3 nx : Nat} {wr w2 : World} {q q2 : ByteArray} {u : Value} {M : List Np} (h : VoI w b g2 g3 nx wr q u M) (ho : Only (fun k => k = b) wr w2) (hc : CurAt w2 b q2) : VoI w b g2 g3 nx w2 q2 u M :=
 ⟨hc, h.box.only ho (by have := h.lt; omega), h.res.only ho (by have := h.lt; omega), h.own.only ho (fun k hk e => by have := h.lt; omega), h.inc, h.only.trans ho, h.lt⟩
theorem VoI.kept {w : World} {b g2 g3 nx : Nat} {wr w2 : World} {q : ByteArray} {u : Value} {M : List Np} (h : VoI w b g2 g3 nx wr q u M) (hb : Below wr.heap.size wr w2) : VoI w b g2 g3 nx w2 q u M :=
 h.step (ob_any hb) (h.cur.kept hb)
theorem VoI.put {w : World} {b g2 g3 nx : Nat} {wr w4 : World} {q : ByteArray} {u : Value} {M : List Np} {p : Np} {g m cap B : Nat} (h : VoI w b g2 g3 nx wr q u M) (ho : Only (fun k => some k = u.ownBlock) wr w4) (hown : Own ndE 76 w4 (g3 + 1) (.slice (some ⟨g, 0, none⟩) m cap) (M ++ [p]))
  (hp : Own diE 102 wr B p.v p.n.names) (hB : g3 + 1 ≤ B) (hM : ∀ x ∈ M, ∀ k, x.v.ownBlock = some k → k < B) :
  VoI w b g2 g3 nx (w4.setCell ⟨g3, 1, none⟩ (.slice (some ⟨g, 0, none⟩) m cap)) q (.slice (some ⟨g, 0, none⟩) m cap) (M ++ [p]) := by
 have hlt := h.lt
 have nb : ∀ k, some k = u.ownBlock → g3 + 1 ≤ k := fun k hk => (h.own.own.lt k hk.symm).1
 have hb : ¬ some b = u.ownBlock := fun e => by have := nb b e; omega
 have h3 : ¬ some g3 = u.ownBlock := fun e => by have := nb g3 e; omega
 have h2 : ¬ some g2 = u.ownBlock := fun e => by have := nb g2 e; omega
 have bx := h.box.only ho h3
 refine ⟨(h.cur.only ho hb).only (set_only g3 1 w4 _) (by omega), ⟨by simpa using bx.hi, fun o => ?_, fun o => ?_⟩, (h.res.only ho h2).only (set_only g3 1 w4 _) (by omega), ⟨hown.only (set_only g3 1 w4 _) (fun k hk e => ?_), fun x hx => ?_⟩, h.inc.snoc B hM (fun k hk => (hp.lt k hk).1), ?_, hlt⟩
 ·match o with
  | 0 => rw [World.cell?_setCell_other _ _ _ _ (by intro e2; simp at e2 <;> omega), bx.cell 0]; rfl
  | 1 => exact World.cell?_setCell_same _ _ _ (bx.cell 1)
  | o + 2 => rw [World.cell?_setCell_other _ _ _ _ (by intro e2; simp at e2 <;> omega), bx.cell (o + 2)]; simp
 ·rw [World.frozen?_setCell]; exact bx.fro o
 ·have := (hown.lt k hk).1; omega
 ·rcases List.mem_append.1 hx with hx | hx
  ·have h5 := h.own.nms x hx
   exact (h5.only ho (fun k hk e => own_ne h5 h.own.own hk e)).only (set_only g3 1 w4 _) (fun k hk e => by have := (h5.lt k hk).1; omega)
  ·obtain rfl : x = p := by simpa using hx
   exact ((hp.only ho (fun k hk e => own_ne hp h.own.own hk e)).only (set_only g3 1 w4 _) (fun k hk e => by have := (hp.lt k hk).1; omega)).lower hB
 ·exact (h.only.then ho (fun k hk e => by have := nb k e; omega)).then (set_only g3 1 w4 _) (fun k hk e => by omega)
theorem Tryz.infoIn : (Tryz.prog.info? 76).map (fun i => (i.zero, i.size, i.bytes)) = some (some (.agg #[.int .i64 0, .int .i64 0, .int .i64 0, .int .i64 0, .int .i64 0, .string ⟨#[]⟩, .slice none 0 0, .int .i64 0, .int .i64 0]), 9, 96) := by kernel_rfl
/-- append of an inode onto a row of the call's own, inside a region that draws its order. -/
theorem step_In {w : World} {ops : Array Oper} {o : Oper} {a : Act} {KK : Act → World → Prop} {Q : Exit → Act → World → Prop} {E : Prop} (hgd : o.guard = none) (s x : Operand)
  (ho : o.op = .call { callee := .builtin .append, args := #[s, x], argTypes := #[30, 30] })
  (base : Nat) (v : Value) (L : List Np) (d : Np) (hs : a.eval s = v) (hown : Own ndE 76 w base v L) (ad : Addr) (c : Nat) (hx : a.eval x = .slice (some ad) 1 c)
  (hnews : ∀ j u, (ndE.f [d])[j]? = some u → w.cell? (ad.add j) = some u) (hlen : L.length ≤ 2000000) (hbase : base ≤ w.heap.size)
  (h : ∀ g cap' w', Own ndE 76 w' base (.slice (some ⟨g, 0, none⟩) (L.length + 1) cap') (L ++ [d]) → Only (fun k => some k = v.ownBlock) w w' → (v.ownBlock = some g ∨ g = w.heap.size) → g < w'.heap.size →
   KK (a.put o.dst (.slice (some ⟨g, 0, none⟩) (L.length + 1) cap')) w') : if Region.wanted o (yielded ops a.tmps) = true then Oper.wp Tryz.prog o a w KK Q else E := by
 obtain ⟨i0, hi, hz0, hz1, hz2⟩ := info_parts Tryz.infoIn
 refine step_append_lies w hgd s x 30 ho base 76 i0 (.agg #[.int .i64 0, .int .i64 0, .int .i64 0, .int .i64 0, .int .i64 0, .string ⟨#[]⟩, .slice none 0 0, .int .i64 0, .int .i64 0]) 9 96 Tryz.underlying30 hi hz0 hz1 hz2 rfl (by decide) v L.length (ndE.f L) hs hown ad 1 c (ndE.f [d]) hx (ndE.f_len [d]) hnews (ndE.f_one [d]) (by omega) (by unfold maxLen; omega) (by omega) hbase w.heap.size rfl ?_
 intro g cap' w' hown' hgrow hloc hg
 refine h g cap' w' (Own.mk hown' (by simp) (by rw [ndE.f_append])) (grown_only hgrow) hloc hg
set_option maxRecDepth 100000 in
set_option maxHeartbeats 4000000 in
theorem volC_any (b : Nat) (q0 : ByteArray) (w : World) (hc : CurAt w b q0) (s0 : q0.size ≤ 1048576) :
  Calls Tryz.prog 46 #[.pointer (some ⟨b, 0, none⟩)] w (VolC b q0 w) := by
 have hlt := hc.lt
 go_enter Tryz.func46, Tryz.ntmps46
 go_wp2_with fail
 obtain ⟨W0, hW, bW, zW, cW, fW⟩ := boxed w #[.int .i64 0, .slice none 0 0] 32
 simp only [hW]
 have c0 : CurAt W0 b q0 := hc.kept bW
 have b0 : Only (fun k => k = b) w W0 := ob_any bW
 have X0 : Hid (Blk W0 w.heap.size #[.int .i64 0, .slice none 0 0]) := ⟨by omega, cW, fW⟩
 have hne : ¬ w.heap.size = b := by omega
 clear hW bW zW cW fW hc
 refine (number_any b q0 _ c0 s0).mono ?_
 rintro e w1 (⟨nx, q1, rfl, hn, rfl⟩ | ⟨⟨pv, rfl⟩, hn, rfl⟩)
 rotate_left 1
 ·have HP : Hid (volO q0.data.toList = none) := by
   have e0 := numO_no hn
   unfold Hid
   simp only [volO, e0, Option.bind_none]
  clear hn X0
  go_wp2
  exact ⟨rfl, .inr ⟨⟨_, rfl⟩, HP, b0⟩⟩
 have H0 : Hid (numO q0.data.toList = some (nx, q1.data.toList)) := numO_yes hn
 have s1 : q1.size ≤ 1048576 := num_size hn s0
 have c1 : CurAt (_) b q1 := c0.set
 have b1 := b0.trans (ob_set b _ (.string q1))
 replace X0 := Hid.intro (X0.out.only (ob_set b _ (.string q1)) hne)
 revert c1 b1 X0
 generalize World.setCell _ ⟨b, 0, none⟩ (.string q1) = W1
 intro c1 b1 X0
 clear hn c0 b0 s0
 have z1 := X0.out.hi
 go_upto_region 2 with fail
 obtain ⟨Y, hY, bY, zY, cY, fY⟩ := boxed W1 #[.int .i64 (nx : Nat), .slice none 0 0] 32
 simp only [hY]
 have HI : Hid (VoI w b w.heap.size W1.heap.size nx Y q1 (.slice none 0 0) []) :=
  ⟨c1.kept bY, ⟨by omega, cY, fY⟩, X0.out.kept bY, ⟨Own.nil _ _, fun p hp => by cases hp⟩, (fun i j hij hj => by simp at hj), b1.trans (ob_any bY), hlt, z1, Nat.le_refl _⟩
 clear hY bY zY cY fY c1 b1 X0 hne
 generalize W1.heap.size = g3 at HI ⊢
 go_wp2_with fail
 refine (countC_any b 24 q1 _ HI.out.cur s1).mono ?_
 rintro e Z (⟨n, q9, rfl, H8, hn24, c9, s9, k9⟩ | ⟨⟨pv, rfl⟩, hn, k9⟩)
 rotate_left 1
 ·have HP : Hid (volO q0.data.toList = none) := by
   have e8 := hn.out
   unfold Hid
   simp only [volO, H0.out, e8, Option.bind_some, Option.bind_none]
  have b9 := HI.out.only.trans k9
  clear hn HI
  go_wp2
  exact ⟨rfl, .inr ⟨⟨_, rfl⟩, HP, b9⟩⟩
 replace HI := Hid.intro (HI.out.step k9 c9)
 clear c9 k9 s1
 have HIO : Hid (volO q0.data.toList = (inosO n q9.data.toList).bind fun s => some ((nx, s.1), s.2)) := by
  unfold Hid
  simp only [volO, H0.out, H8.out, Option.bind_some]
 clear H0 H8
 go_wp2
 go_loopw [9] (fun i wr => ∃ (q : ByteArray) (u : Value) (M : List Np), i = .int .i64 (M.length : Nat) ∧ M.length ≤ n ∧ q.size ≤ 1048576 ∧ Hid (inosO n q9.data.toList = (inosO (n - M.length) q.data.toList).map fun y => (M.map Np.n ++ y.1, y.2)) ∧ Hid (VoI w b w.heap.size g3 nx wr q u M)) (fun i _ => n - (intOf i).toNat)
 case atStart => exact ⟨q9, _, [], rfl, Nat.zero_le _, s9, by unfold Hid; simp, HI⟩
 case round =>
  obtain ⟨q, u, M, rfl, hj, sq, HN, HI⟩ := hrel
  by_cases hlt : M.length < n
  ·have hjn : (M.length : Int) < (n : Int) := by omega
   obtain ⟨va, vc, rfl⟩ := HI.out.own.own.slice
   go_upto_region 4 with fail
   refine wp_region_held_drew (S := fun _ => True) (by kernel_rfl) trivial (fun hHeld => ?_)
   have HD := Hid.intro (HI.out.kept (w2 := wr.drew) (Below.refl _ _).drew)
   clear HI
   generalize wr.drew = D at HD hHeld ⊢
   refine tkk 0 11 (v := ?_) ?_ ?_
   rotate_left 1
   ·intro w hSw
    go_simp <;> with_reducible rfl
   simp only [Act.put, List.setIfInBounds_toArray]
   try simp only [List.set_cons_succ]
   try simp only [List.set_cons_zero]
   refine tkk 2 13 (v := ?_) ?_ ?_
   rotate_left 1
   ·intro w hSw
    go_simp <;> with_reducible rfl
   simp only [Act.put, List.setIfInBounds_toArray]
   try simp only [List.set_cons_succ]
   try simp only [List.set_cons_zero]
   refine wpAnyH_ready (rs := [1, 3]) (by kernel_rfl) (by simp) ?_
   refine (AllReadyH.cons rfl (fun KK hKK => ?_) (AllReadyH.cons rfl (fun KK hKK => ?_) AllReadyH.nil))
   ·skip
    have k6 : D.cell? ⟨g3, 1, none⟩ = some (.slice va M.length vc) := HD.out.box.cell 1
    go_simp
    refine hKK.out _ _ trivial (fun hHeld2 => ?_)
    clear hKK KK hHeld
    have hHeld := hHeld2
    clear hHeld2
    clear k6
    refine wpAnyH_ready (rs := [3]) (by kernel_rfl) (by simp) ?_
    refine (AllReadyH.cons rfl (fun KK hKK => ?_) AllReadyH.nil)
    go_simp
    have hMx : ∀ x ∈ M, ∀ k, x.v.ownBlock = some k → k < D.heap.size := fun x hx k hk => ((HD.out.own.nms x hx).lt k hk).2
    have hg3 := HD.out.box.hi
    refine (inodeC_any b q D HD.out.cur sq).mono ?_
    rintro e x1 (⟨nd, vn, q2, rfl, G1, c2, s2, on, o1⟩ | ⟨⟨pv, rfl⟩, G1, o1⟩)
    rotate_left 1
    ·have HP : Hid (volO q0.data.toList = none) := by
      unfold Hid
      rw [HIO.out, HN.out, inosO_no (by omega) G1.out]
      rfl
     have B9 := HD.out.only.trans o1
     clear HD hKK
     go_simp
     go_wp2
     exact ⟨rfl, .inr ⟨⟨_, rfl⟩, HP, B9⟩⟩
    have HN2 : Hid (inosO n q9.data.toList = (inosO (n - (M.length + 1)) q2.data.toList).map fun y => ((M.map Np.n ++ [nd]) ++ y.1, y.2)) := by
     unfold Hid
     rw [HN.out, inosO_yes (by omega) G1.out, Nat.sub_sub]
     cases inosO (n - (M.length + 1)) q2.data.toList <;> simp
    replace HD := Hid.intro (HD.out.step o1 c2)
    obtain ⟨na, nc, rfl⟩ := on.out.slice
    clear o1 c2 HN
    generalize D.heap.size = B at hMx hg3 on
    go_simp
    refine hKK.out _ _ trivial (fun hHeld2 => ?_)
    clear hKK KK hHeld
    have hHeld := hHeld2
    clear hHeld2
    refine wpAnyH_ready (rs := [4]) (by kernel_rfl) (by simp) ?_
    refine (AllReadyH.cons rfl (fun KK hKK => ?_) AllReadyH.nil)
    go_simp
    have bM : Below x1.heap.size x1 (x1.alloc (.cells #[.int .i64 nd.id, .int .i64 nd.kind, .int .i64 nd.mode, .int .i64 nd.uid, .int .i64 nd.gid, .string nd.data, .slice na nd.names.length nc, .int .i64 nd.maxb, .int .i64 nd.maxi] 76)) := one_below _ _
    have cM : ∀ o, (x1.alloc (.cells #[.int .i64 nd.id, .int .i64 nd.kind, .int .i64 nd.mode, .int .i64 nd.uid, .int .i64 nd.gid, .string nd.data, .slice na nd.names.length nc, .int .i64 nd.maxb, .int .i64 nd.maxi] 76)).cell? ⟨x1.heap.size, o, none⟩ = (ndA nd (.slice na nd.names.length nc))[o]? := fun o => World.cell?_alloc_at _ _ _ _ rfl
    replace HD := Hid.intro (HD.out.kept bM)
    replace on := Hid.intro (on.out.kept bM)
    revert HD cM on
    generalize x1.alloc (.cells #[.int .i64 nd.id, .int .i64 nd.kind, .int .i64 nd.mode, .int .i64 nd.uid, .int .i64 nd.gid, .string nd.data, .slice na nd.names.length nc, .int .i64 nd.maxb, .int .i64 nd.maxi] 76) = Mw at bM
    generalize x1.heap.size = sb
    intro cM HD on
    refine hKK.out _ _ trivial (fun hHeld2 => ?_)
    clear hKK KK hHeld
    have hHeld := hHeld2
    clear hHeld2
    refine wpAnyH_ready (rs := [5]) (by kernel_rfl) (by simp) ?_
    refine (AllReadyH.cons rfl (fun KK hKK => ?_) AllReadyH.nil)
    have hnews : ∀ j u, (ndE.f [⟨nd, na, nc⟩])[j]? = some u → Mw.cell? ((⟨sb, 0, none⟩ : Addr).add j) = some u := fun j u hj => by
     rw [add_none, Nat.zero_add, cM]
     simpa [ndE, Enc.f] using hj
    have hbase : g3 + 1 ≤ Mw.heap.size := HD.out.box.hi
    refine step_In rfl _ _ rfl (g3 + 1) (.slice va M.length vc) M ⟨nd, na, nc⟩ rfl HD.out.own.own ⟨sb, 0, none⟩ 1 rfl hnews (by omega) hbase ?_
    intro g cap2 w4 hown ho hloc hg
    have hne3 : ¬ some g3 = (Value.slice va M.length vc).ownBlock := fun e => by have := (HD.out.own.own.lt g3 e.symm).1; omega
    have k6 : w4.cell? ⟨g3, 1, none⟩ = some (.slice va M.length vc) := (ho.cell (o := 1) HD.out.box.hi hne3).trans (HD.out.box.cell 1)
    have f6 := (ho.frozen (o := 1) HD.out.box.hi hne3).trans (HD.out.box.fro 1)
    have HE := Hid.intro (HD.out.put ho hown on.out hg3 hMx)
    clear HD hown ho hloc hg hnews hbase cM hne3 bM on hMx hg3
    go_simp
    refine hKK.out _ _ trivial (fun hHeld2 => ?_)
    clear hKK KK hHeld
    have hHeld := hHeld2
    clear hHeld2
    refine tkk 6 17 (v := ?_) ?_ ?_
    rotate_left 1
    ·intro w hSw
     go_simp <;> with_reducible rfl
    simp only [Act.put, List.setIfInBounds_toArray]
    try simp only [List.set_cons_succ]
    try simp only [List.set_cons_zero]
    refine wpAnyH_ready (rs := [7]) (by kernel_rfl) (by simp) ?_
    refine (AllReadyH.cons rfl (fun KK hKK => ?_) AllReadyH.nil)
    go_simp
    generalize w4.setCell ⟨g3, 1, none⟩ _ = w5 at HE ⊢
    clear k6 f6
    refine hKK.out _ _ trivial (fun hHeld2 => ?_)
    clear hKK KK hHeld
    have hHeld := hHeld2
    clear hHeld2
    refine wpAnyH_done (by kernel_rfl) ?_ _
    clear hHeld
    go_wp2
    go_roundw
    case rel => exact ⟨q2, _, M ++ [⟨nd, na, nc⟩], by rw [List.length_append]; go_num, by rw [List.length_append, List.length_singleton]; omega, s2, by unfold Hid; rw [List.length_append, List.length_singleton, List.map_append]; exact HN2.out, HE⟩
    case measure => simp [intOf]; omega
   ·skip
    go_simp
    have hMx : ∀ x ∈ M, ∀ k, x.v.ownBlock = some k → k < D.heap.size := fun x hx k hk => ((HD.out.own.nms x hx).lt k hk).2
    have hg3 := HD.out.box.hi
    refine (inodeC_any b q D HD.out.cur sq).mono ?_
    rintro e x1 (⟨nd, vn, q2, rfl, G1, c2, s2, on, o1⟩ | ⟨⟨pv, rfl⟩, G1, o1⟩)
    rotate_left 1
    ·have HP : Hid (volO q0.data.toList = none) := by
      unfold Hid
      rw [HIO.out, HN.out, inosO_no (by omega) G1.out]
      rfl
     have B9 := HD.out.only.trans o1
     clear HD hKK
     go_simp
     go_wp2
     exact ⟨rfl, .inr ⟨⟨_, rfl⟩, HP, B9⟩⟩
    have HN2 : Hid (inosO n q9.data.toList = (inosO (n - (M.length + 1)) q2.data.toList).map fun y => ((M.map Np.n ++ [nd]) ++ y.1, y.2)) := by
     unfold Hid
     rw [HN.out, inosO_yes (by omega) G1.out, Nat.sub_sub]
     cases inosO (n - (M.length + 1)) q2.data.toList <;> simp
    replace HD := Hid.intro (HD.out.step o1 c2)
    obtain ⟨na, nc, rfl⟩ := on.out.slice
    clear o1 c2 HN
    generalize D.heap.size = B at hMx hg3 on
    go_simp
    refine hKK.out _ _ trivial (fun hHeld2 => ?_)
    clear hKK KK hHeld
    have hHeld := hHeld2
    clear hHeld2
    refine wpAnyH_ready (rs := [1, 4]) (by kernel_rfl) (by simp) ?_
    refine (AllReadyH.cons rfl (fun KK hKK => ?_) (AllReadyH.cons rfl (fun KK hKK => ?_) AllReadyH.nil))
    ·skip
     have k6 : x1.cell? ⟨g3, 1, none⟩ = some (.slice va M.length vc) := HD.out.box.cell 1
     go_simp
     refine hKK.out _ _ trivial (fun hHeld2 => ?_)
     clear hKK KK hHeld
     have hHeld := hHeld2
     clear hHeld2
     clear k6
     refine wpAnyH_ready (rs := [4]) (by kernel_rfl) (by simp) ?_
     refine (AllReadyH.cons rfl (fun KK hKK => ?_) AllReadyH.nil)
     go_simp
     have bM : Below x1.heap.size x1 (x1.alloc (.cells #[.int .i64 nd.id, .int .i64 nd.kind, .int .i64 nd.mode, .int .i64 nd.uid, .int .i64 nd.gid, .string nd.data, .slice na nd.names.length nc, .int .i64 nd.maxb, .int .i64 nd.maxi] 76)) := one_below _ _
     have cM : ∀ o, (x1.alloc (.cells #[.int .i64 nd.id, .int .i64 nd.kind, .int .i64 nd.mode, .int .i64 nd.uid, .int .i64 nd.gid, .string nd.data, .slice na nd.names.length nc, .int .i64 nd.maxb, .int .i64 nd.maxi] 76)).cell? ⟨x1.heap.size, o, none⟩ = (ndA nd (.slice na nd.names.length nc))[o]? := fun o => World.cell?_alloc_at _ _ _ _ rfl
     replace HD := Hid.intro (HD.out.kept bM)
     replace on := Hid.intro (on.out.kept bM)
     revert HD cM on
     generalize x1.alloc (.cells #[.int .i64 nd.id, .int .i64 nd.kind, .int .i64 nd.mode, .int .i64 nd.uid, .int .i64 nd.gid, .string nd.data, .slice na nd.names.length nc, .int .i64 nd.maxb, .int .i64 nd.maxi] 76) = Mw at bM
     generalize x1.heap.size = sb
     intro cM HD on
     refine hKK.out _ _ trivial (fun hHeld2 => ?_)
     clear hKK KK hHeld
     have hHeld := hHeld2
     clear hHeld2
     refine wpAnyH_ready (rs := [5]) (by kernel_rfl) (by simp) ?_
     refine (AllReadyH.cons rfl (fun KK hKK => ?_) AllReadyH.nil)
     have hnews : ∀ j u, (ndE.f [⟨nd, na, nc⟩])[j]? = some u → Mw.cell? ((⟨sb, 0, none⟩ : Addr).add j) = some u := fun j u hj => by
      rw [add_none, Nat.zero_add, cM]
      simpa [ndE, Enc.f] using hj
     have hbase : g3 + 1 ≤ Mw.heap.size := HD.out.box.hi
     refine step_In rfl _ _ rfl (g3 + 1) (.slice va M.length vc) M ⟨nd, na, nc⟩ rfl HD.out.own.own ⟨sb, 0, none⟩ 1 rfl hnews (by omega) hbase ?_
     intro g cap2 w4 hown ho hloc hg
     have hne3 : ¬ some g3 = (Value.slice va M.length vc).ownBlock := fun e => by have := (HD.out.own.own.lt g3 e.symm).1; omega
     have k6 : w4.cell? ⟨g3, 1, none⟩ = some (.slice va M.length vc) := (ho.cell (o := 1) HD.out.box.hi hne3).trans (HD.out.box.cell 1)
     have f6 := (ho.frozen (o := 1) HD.out.box.hi hne3).trans (HD.out.box.fro 1)
     have HE := Hid.intro (HD.out.put ho hown on.out hg3 hMx)
     clear HD hown ho hloc hg hnews hbase cM hne3 bM on hMx hg3
     go_simp
     refine hKK.out _ _ trivial (fun hHeld2 => ?_)
     clear hKK KK hHeld
     have hHeld := hHeld2
     clear hHeld2
     refine tkk 6 17 (v := ?_) ?_ ?_
     rotate_left 1
     ·intro w hSw
      go_simp <;> with_reducible rfl
     simp only [Act.put, List.setIfInBounds_toArray]
     try simp only [List.set_cons_succ]
     try simp only [List.set_cons_zero]
     refine wpAnyH_ready (rs := [7]) (by kernel_rfl) (by simp) ?_
     refine (AllReadyH.cons rfl (fun KK hKK => ?_) AllReadyH.nil)
     go_simp
     generalize w4.setCell ⟨g3, 1, none⟩ _ = w5 at HE ⊢
     clear k6 f6
     refine hKK.out _ _ trivial (fun hHeld2 => ?_)
     clear hKK KK hHeld
     have hHeld := hHeld2
     clear hHeld2
     refine wpAnyH_done (by kernel_rfl) ?_ _
     clear hHeld
     go_wp2
     go_roundw
     case rel => exact ⟨q2, _, M ++ [⟨nd, na, nc⟩], by rw [List.length_append]; go_num, by rw [List.length_append, List.length_singleton]; omega, s2, by unfold Hid; rw [List.length_append, List.length_singleton, List.map_append]; exact HN2.out, HE⟩
     case measure => simp [intOf]; omega
    ·skip
     go_simp
     have bM : Below x1.heap.size x1 (x1.alloc (.cells #[.int .i64 nd.id, .int .i64 nd.kind, .int .i64 nd.mode, .int .i64 nd.uid, .int .i64 nd.gid, .string nd.data, .slice na nd.names.length nc, .int .i64 nd.maxb, .int .i64 nd.maxi] 76)) := one_below _ _
     have cM : ∀ o, (x1.alloc (.cells #[.int .i64 nd.id, .int .i64 nd.kind, .int .i64 nd.mode, .int .i64 nd.uid, .int .i64 nd.gid, .string nd.data, .slice na nd.names.length nc, .int .i64 nd.maxb, .int .i64 nd.maxi] 76)).cell? ⟨x1.heap.size, o, none⟩ = (ndA nd (.slice na nd.names.length nc))[o]? := fun o => World.cell?_alloc_at _ _ _ _ rfl
     replace HD := Hid.intro (HD.out.kept bM)
     replace on := Hid.intro (on.out.kept bM)
     revert HD cM on
     generalize x1.alloc (.cells #[.int .i64 nd.id, .int .i64 nd.kind, .int .i64 nd.mode, .int .i64 nd.uid, .int .i64 nd.gid, .string nd.data, .slice na nd.names.length nc, .int .i64 nd.maxb, .int .i64 nd.maxi] 76) = Mw at bM
     generalize x1.heap.size = sb
     intro cM HD on
     refine hKK.out _ _ trivial (fun hHeld2 => ?_)
     clear hKK KK hHeld
     have hHeld := hHeld2
     clear hHeld2
     refine wpAnyH_ready (rs := [1]) (by kernel_rfl) (by simp) ?_
     refine (AllReadyH.cons rfl (fun KK hKK => ?_) AllReadyH.nil)
     have k6 : Mw.cell? ⟨g3, 1, none⟩ = some (.slice va M.length vc) := HD.out.box.cell 1
     go_simp
     refine hKK.out _ _ trivial (fun hHeld2 => ?_)
     clear hKK KK hHeld
     have hHeld := hHeld2
     clear hHeld2
     clear k6
     refine wpAnyH_ready (rs := [5]) (by kernel_rfl) (by simp) ?_
     refine (AllReadyH.cons rfl (fun KK hKK => ?_) AllReadyH.nil)
     have hnews : ∀ j u, (ndE.f [⟨nd, na, nc⟩])[j]? = some u → Mw.cell? ((⟨sb, 0, none⟩ : Addr).add j) = some u := fun j u hj => by
      rw [add_none, Nat.zero_add, cM]
      simpa [ndE, Enc.f] using hj
     have hbase : g3 + 1 ≤ Mw.heap.size := HD.out.box.hi
     refine step_In rfl _ _ rfl (g3 + 1) (.slice va M.length vc) M ⟨nd, na, nc⟩ rfl HD.out.own.own ⟨sb, 0, none⟩ 1 rfl hnews (by omega) hbase ?_
     intro g cap2 w4 hown ho hloc hg
     have hne3 : ¬ some g3 = (Value.slice va M.length vc).ownBlock := fun e => by have := (HD.out.own.own.lt g3 e.symm).1; omega
     have k6 : w4.cell? ⟨g3, 1, none⟩ = some (.slice va M.length vc) := (ho.cell (o := 1) HD.out.box.hi hne3).trans (HD.out.box.cell 1)
     have f6 := (ho.frozen (o := 1) HD.out.box.hi hne3).trans (HD.out.box.fro 1)
     have HE := Hid.intro (HD.out.put ho hown on.out hg3 hMx)
     clear HD hown ho hloc hg hnews hbase cM hne3 bM on hMx hg3
     go_simp
     refine hKK.out _ _ trivial (fun hHeld2 => ?_)
     clear hKK KK hHeld
     have hHeld := hHeld2
     clear hHeld2
     refine tkk 6 17 (v := ?_) ?_ ?_
     rotate_left 1
     ·intro w hSw
      go_simp <;> with_reducible rfl
     simp only [Act.put, List.setIfInBounds_toArray]
     try simp only [List.set_cons_succ]
     try simp only [List.set_cons_zero]
     refine wpAnyH_ready (rs := [7]) (by kernel_rfl) (by simp) ?_
     refine (AllReadyH.cons rfl (fun KK hKK => ?_) AllReadyH.nil)
     go_simp
     generalize w4.setCell ⟨g3, 1, none⟩ _ = w5 at HE ⊢
     clear k6 f6
     refine hKK.out _ _ trivial (fun hHeld2 => ?_)
     clear hKK KK hHeld
     have hHeld := hHeld2
     clear hHeld2
     refine wpAnyH_done (by kernel_rfl) ?_ _
     clear hHeld
     go_wp2
     go_roundw
     case rel => exact ⟨q2, _, M ++ [⟨nd, na, nc⟩], by rw [List.length_append]; go_num, by rw [List.length_append, List.length_singleton]; omega, s2, by unfold Hid; rw [List.length_append, List.length_singleton, List.map_append]; exact HN2.out, HE⟩
     case measure => simp [intOf]; omega
  ·have hjn : ¬ (M.length : Int) < (n : Int) := by omega
   have e0 : n - M.length = 0 := by omega
   have HP : Hid (volO q0.data.toList = some ((nx, M.map Np.n), q.data.toList)) := by
    unfold Hid
    rw [HIO.out, HN.out, e0]
    simp [inosO]
   obtain ⟨va, vc, rfl⟩ := HI.out.own.own.slice
   clear HIO HN
   have k0 : wr.cell? ⟨g3, 0, none⟩ = some (.int .i64 (nx : Nat)) := HI.out.box.cell 0
   have k1 : wr.cell? ⟨g3, 1, none⟩ = some (.slice va M.length vc) := HI.out.box.cell 1
   have r0 : wr.cell? ⟨w.heap.size, 0, none⟩ = some (.int .i64 0) := HI.out.res.cell 0
   have r1 : wr.cell? ⟨w.heap.size, 1, none⟩ = some (.slice none 0 0) := HI.out.res.cell 1
   have f0 : wr.frozen? ⟨w.heap.size, 0, none⟩ = false := HI.out.res.fro 0
   have f1 : wr.frozen? ⟨w.heap.size, 1, none⟩ = false := HI.out.res.fro 1
   have hne3 : ¬ w.heap.size = g3 := by have := HI.out.lt; omega
   have HO : Only (fun x => x = w.heap.size) wr ((wr.setCell ⟨w.heap.size, 0, none⟩ (.int .i64 (nx : Nat))).setCell ⟨w.heap.size, 1, none⟩ (.slice va M.length vc)) := (set_only w.heap.size 0 wr (.int .i64 (nx : Nat))).setCell (p := ⟨w.heap.size, 1, none⟩) rfl (.slice va M.length vc)
   have hlt3 := HI.out.lt
   go_wp2
   refine bodyPost_ret (v := volV (nx : Nat) (.slice va M.length vc)) (by simp [results, Tryz.results46, go_sem, r0, r1]) rfl (.inl ⟨_, _, M, q, rfl, HP, HI.out.cur.only HO (fun e => by omega), sq, ?_, HI.out.only.then HO (fun x hx e => by omega)⟩)
   exact ⟨(HI.out.own.only HO (fun k hk e => by omega)).lower (by omega), HI.out.inc⟩
end Go.Proofs.YtegdogdlohoheaaGreat
