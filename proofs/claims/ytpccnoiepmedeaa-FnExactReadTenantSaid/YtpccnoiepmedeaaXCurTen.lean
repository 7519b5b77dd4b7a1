/- A cursor's tenant. -/
import Derived.Test.YtpccnoiepmedeaaXTnR
import Derived.Deep.RegionHeld3
namespace Go.Proofs.Ytpccnoiepmedeaa
open Go.RowKit
set_option linter.unusedVariables false
theorem infoNtR : (Try.prog.info? 42).map (fun i => (i.zero, i.size, i.bytes)) = some (some (.agg #[.int .i64 0, .int .i64 0, .int .i64 0, .int .i64 0, .int .i64 0]), 5, 40) := by kernel_rfl
theorem infoSeR : (Try.prog.info? 48).map (fun i => (i.zero, i.size, i.bytes)) = some (some (.agg #[.int .i64 0, .int .i64 0, .int .i64 0, .int .i64 0, .string ⟨#[]⟩]), 5, 48) := by kernel_rfl
/-- What a cursor's tenant hands back. -/
def TenC (b : Nat) (q : ByteArray) (w : World) (e : Ending) (w' : World) : Prop :=
 (∃ (t : Ten) (g3 : Nat) (q' : ByteArray), e = .returned t.v ∧ Hid (tenO q.data.toList = some (t.key, q'.data.toList)) ∧ CurAt w' b q' ∧ q'.size ≤ 1048576 ∧ Hid (VolO w' w.heap.size t.u t.L ∧ Own ntE 42 w' (g3 + 1) t.va t.A ∧ Own seE 48 w' (g3 + 1) t.vs t.S) ∧ Hid (w.heap.size < g3 ∧ (∀ k, t.u.ownBlock = some k → k < g3) ∧ (∀ p ∈ t.L, ∀ k, p.v.ownBlock = some k → k < g3) ∧ Inc t.L) ∧ Only (fun k => k = b) w w') ∨ (Lack e ∧ Hid (tenO q.data.toList = none) ∧ Only (fun k => k = b) w w')
/-- append of one onto a row of the call's own, inside a region that draws its order. -/
theorem step_Nt {w : World} {ops : Array Oper} {o : Oper} {a : Act} {KK : Act → World → Prop} {Q : Exit → Act → World → Prop} {Z : Prop} (hgd : o.guard = none) (s x : Operand)
  (ho : o.op = .call { callee := .builtin .append, args := #[s, x], argTypes := #[25, 25] })
  (base : Nat) (v : Value) (L : List Nt) (d : Nt) (hs : a.eval s = v) (hown : Own ntE 42 w base v L) (ad : Addr) (c : Nat) (hx : a.eval x = .slice (some ad) 1 c)
  (hnews : ∀ j u, (ntE.f [d])[j]? = some u → w.cell? (ad.add j) = some u) (hlen : L.length ≤ 2000000) (hbase : base ≤ w.heap.size)
  (h : ∀ g cap' w', Own ntE 42 w' base (.slice (some ⟨g, 0, none⟩) (L.length + 1) cap') (L ++ [d]) → Only (fun k => some k = v.ownBlock) w w' → (v.ownBlock = some g ∨ g = w.heap.size) → g < w'.heap.size →
   KK (a.put o.dst (.slice (some ⟨g, 0, none⟩) (L.length + 1) cap')) w') : if Region.wanted o (yielded ops a.tmps) = true then Oper.wp Try.prog o a w KK Q else Z := by
 obtain ⟨i0, hi, hz0, hz1, hz2⟩ := info_parts infoNtR
 refine step_append_lies w hgd s x 25 ho base 42 i0 (.agg #[.int .i64 0, .int .i64 0, .int .i64 0, .int .i64 0, .int .i64 0]) 5 40 Try.underlying25 hi hz0 hz1 hz2 rfl (by decide) v L.length (ntE.f L) hs hown ad 1 c (ntE.f [d]) hx (ntE.f_len [d]) hnews (ntE.f_one [d]) (by omega) (by unfold maxLen; omega) (by omega) hbase w.heap.size rfl ?_
 intro g cap' w' hown' hgrow hloc hg
 refine h g cap' w' (Own.mk hown' (by simp) (by rw [ntE.f_append])) (grown_only hgrow) hloc hg
/-- append of one onto a row of the call's own, inside a region that draws its order. -/
theorem step_Se {w : World} {ops : Array Oper} {o : Oper} {a : Act} {KK : Act → World → Prop} {Q : Exit → Act → World → Prop} {Z : Prop} (hgd : o.guard = none) (s x : Operand)
  (ho : o.op = .call { callee := .builtin .append, args := #[s, x], argTypes := #[26, 26] })
  (base : Nat) (v : Value) (L : List Se) (d : Se) (hs : a.eval s = v) (hown : Own seE 48 w base v L) (ad : Addr) (c : Nat) (hx : a.eval x = .slice (some ad) 1 c)
  (hnews : ∀ j u, (seE.f [d])[j]? = some u → w.cell? (ad.add j) = some u) (hlen : L.length ≤ 2000000) (hbase : base ≤ w.heap.size)
  (h : ∀ g cap' w', Own seE 48 w' base (.slice (some ⟨g, 0, none⟩) (L.length + 1) cap') (L ++ [d]) → Only (fun k => some k = v.ownBlock) w w' → (v.ownBlock = some g ∨ g = w.heap.size) → g < w'.heap.size →
   KK (a.put o.dst (.slice (some ⟨g, 0, none⟩) (L.length + 1) cap')) w') : if Region.wanted o (yielded ops a.tmps) = true then Oper.wp Try.prog o a w KK Q else Z := by
 obtain ⟨i0, hi, hz0, hz1, hz2⟩ := info_parts infoSeR
 refine step_append_lies w hgd s x 26 ho base 48 i0 (.agg #[.int .i64 0, .int .i64 0, .int .i64 0, .int .i64 0, .string ⟨#[]⟩]) 5 48 Try.underlying26 hi hz0 hz1 hz2 rfl (by decide) v L.length (seE.f L) hs hown ad 1 c (seE.f [d]) hx (seE.f_len [d]) hnews (seE.f_one [d]) (by omega) (by unfold maxLen; omega) (by omega) hbase w.heap.size rfl ?_
 intro g cap' w' hown' hgrow hloc hg
 refine h g cap' w' (Own.mk hown' (by simp) (by rw [seE.f_append])) (grown_only hgrow) hloc hg
set_option maxRecDepth 100000 in
set_option maxHeartbeats 16000000 in
theorem tenantC_any (b : Nat) (q0 : ByteArray) (w : World) (hc : CurAt w b q0) (s0 : q0.size ≤ 1048576) :
  Calls Try.prog 15 #[.pointer (some ⟨b, 0, none⟩)] w (TenC b q0 w) := by
 have hlt := hc.lt
 go_enter Try.func15, Try.ntmps15
 go_wp2_with fail
 obtain ⟨W0, hW, bW, zW, cW, fW⟩ := boxed w zTn 28
 simp only [hW]
 have c0 : CurAt W0 b q0 := hc.kept bW
 have b0 : Only (fun k => k = b) w W0 := ob_any bW
 have X0 : Hid (Blk W0 w.heap.size zTn) := ⟨by omega, cW, fW⟩
 have hne : ¬ w.heap.size = b := by omega
 have hz0 : Hid (W0.heap.size = w.heap.size + 1) := zW
 clear hW bW zW cW fW hc
 refine (insV_any b q0 W0 c0 s0).mono ?_
 rintro e W1 (⟨nx, u, M, q1, rfl, hv, c1, s1, hm, o1⟩ | ⟨⟨pv, rfl⟩, hv, o1⟩)
 rotate_left 1
 ·have HP : Hid (tenO q0.data.toList = none) := by unfold Hid; simp only [tenO, hv.out, Option.bind_none]
  have HB := Hid.intro (b0.trans o1)
  clear hv X0 o1
  go_wp2
  exact ⟨rfl, .inr ⟨⟨_, rfl⟩, HP, HB.out⟩⟩
 have b1 := b0.trans o1
 replace X0 := Hid.intro (X0.out.only o1 hne)
 have HM : Hid (VolO W1 (w.heap.size + 1) u M ∧ Inc M) := by unfold Hid; rw [← hz0.out]; exact hm.out
 have HT : Hid ((∀ k, u.ownBlock = some k → k < W1.heap.size) ∧ ∀ p ∈ M, ∀ k, p.v.ownBlock = some k → k < W1.heap.size) := ⟨fun k hk => (hm.out.1.own.lt k hk).2, fun p hp k hk => ((hm.out.1.nms p hp).lt k hk).2⟩
 obtain ⟨ua, uc, rfl⟩ := hm.out.1.own.slice
 clear hm o1 c0 b0 s0
 go_wp2_with fail
 refine (number_any b q1 W1 c1 s1).mono ?_
 rintro e w1 (⟨tk, q2, rfl, hn, rfl⟩ | ⟨⟨pv, rfl⟩, hn, rfl⟩)
 rotate_left 1
 ·have HP : Hid (tenO q0.data.toList = none) := by
   have e0 := numO_no hn
   unfold Hid
   simp only [tenO, hv.out, e0, Option.bind_some, Option.bind_none]
  clear hn X0 HM HT
  go_wp2
  exact ⟨rfl, .inr ⟨⟨_, rfl⟩, HP, b1⟩⟩
 have H0 : Hid (numO q1.data.toList = some (tk, q2.data.toList)) := numO_yes hn
 have s2 : q2.size ≤ 1048576 := num_size hn s1
 have c2 : CurAt (_) b q2 := c1.set
 have b2 := b1.trans (ob_set b _ (.string q2))
 replace X0 := Hid.intro (X0.out.only (ob_set b _ (.string q2)) hne)
 replace HM := Hid.intro (And.intro (HM.out.1.only (ob_set b _ (.string q2)) (fun k hk e => by omega)) HM.out.2)
 have hsz : (W1.setCell ⟨b, 0, none⟩ (.string q2)).heap.size = W1.heap.size := by simp
 rw [← hsz] at HT
 clear hsz
 revert c2 b2 X0 HM HT
 generalize World.setCell _ ⟨b, 0, none⟩ (.string q2) = W2
 intro HT c2 b2 X0 HM
 clear hn c1 b1 s1
 have z2 := X0.out.hi
 go_upto_region 2 with fail
 obtain ⟨Y, hY, bY, zY, cY, fY⟩ := boxed W2 #[.int .i64 (nx : Nat), .slice ua M.length uc, .int .i64 (tk : Nat), .slice none 0 0, .slice none 0 0] 28
 simp only [hY]
 have HI : Hid (TnR w b W2.heap.size (nx : Nat) (tk : Nat) (.slice ua M.length uc) M Y q2 (.slice none 0 0) [] (.slice none 0 0) []) :=
  ⟨c2.kept bY, ⟨by omega, cY, fY⟩, X0.out.kept bY, HM.out.1.kept bY, HT.out.1, HT.out.2, HM.out.2, Own.nil _ _, Own.nil _ _, b2.trans (ob_any bY), hlt, z2⟩
 clear hY bY zY cY fY c2 b2 X0 hne HM HT z2
 generalize W2.heap.size = g3 at HI ⊢
 go_wp2_with fail
 refine (countC_any b 20 q2 _ HI.out.cur s2).mono ?_
 rintro e Z (⟨n, q9, rfl, H8, hn24, c9, s9, k9⟩ | ⟨⟨pv, rfl⟩, hn, k9⟩)
 rotate_left 1
 ·have HP : Hid (tenO q0.data.toList = none) := by
   have e8 := hn.out
   unfold Hid
   simp only [tenO, hv.out, H0.out, e8, Option.bind_some, Option.bind_none]
  have b9 := HI.out.only.trans k9
  clear hn HI
  go_wp2
  exact ⟨rfl, .inr ⟨⟨_, rfl⟩, HP, b9⟩⟩
 replace HI := Hid.intro (HI.out.step k9 c9)
 clear c9 k9 s2
 have HIO : Hid (tenO q0.data.toList = (notsO n q9.data.toList).bind fun a => (cntO 3 a.2).bind fun m => (sessO m.1 m.2).bind fun s => some (((nx : Int), M.map Np.n, (tk : Int), a.1, s.1), s.2)) := by
  unfold Hid
  simp only [tenO, hv.out, H0.out, H8.out, Option.bind_some]
 clear H0 H8 hv
 go_wp2
 go_loopw [11] (fun i wr => ∃ (q : ByteArray) (v : Value) (A : List Nt), i = .int .i64 (A.length : Nat) ∧ A.length ≤ n ∧ q.size ≤ 1048576 ∧ Hid (notsO n q9.data.toList = (notsO (n - A.length) q.data.toList).map fun y => (A ++ y.1, y.2)) ∧ Hid (TnR w b g3 (nx : Nat) (tk : Nat) (.slice ua M.length uc) M wr q v A (.slice none 0 0) [])) (fun i _ => n - (intOf i).toNat)
 case atStart => exact ⟨q9, _, [], rfl, Nat.zero_le _, s9, by unfold Hid; simp, HI⟩
 case round =>
  clear HI
  obtain ⟨q, v, A, rfl, hj, sq, HN, HI⟩ := hrel
  by_cases hlt : A.length < n
  ·have hjn : (A.length : Int) < (n : Int) := by omega
   obtain ⟨va, vc, rfl⟩ := HI.out.aud.slice
   go_upto_region 4 with fail
   refine wp_region_held_drew (S := fun _ => True) (by kernel_rfl) trivial (fun hHeld => ?_)
   have HD := Hid.intro (HI.out.kept (w2 := wr.drew) (Below.refl _ _).drew)
   clear HI
   generalize wr.drew = D at HD hHeld ⊢
   refine tkk 0 13 (v := ?_) ?_ ?_
   rotate_left 1
   ·intro w hSw
    go_simp <;> with_reducible rfl
   simp only [Act.put, List.setIfInBounds_toArray]
   try simp only [List.set_cons_succ]
   try simp only [List.set_cons_zero]
   refine tkk 2 15 (v := ?_) ?_ ?_
   rotate_left 1
   ·intro w hSw
    go_simp <;> with_reducible rfl
   simp only [Act.put, List.setIfInBounds_toArray]
   try simp only [List.set_cons_succ]
   try simp only [List.set_cons_zero]
   refine wpAnyH_ready (rs := [1, 3]) (by kernel_rfl) (by simp) ?_
   refine (AllReadyH.cons rfl (fun KK hKK => ?_) (AllReadyH.cons rfl (fun KK hKK => ?_) AllReadyH.nil))
   ·skip
    have k6 : D.cell? ⟨g3, 3, none⟩ = some (.slice va A.length vc) := HD.out.box.cell 3
    go_simp
    refine hKK.out _ _ trivial (fun hHeld2 => ?_)
    clear hKK KK hHeld
    have hHeld := hHeld2
    clear hHeld2
    clear k6
    refine wpAnyH_ready (rs := [3]) (by kernel_rfl) (by simp) ?_
    refine (AllReadyH.cons rfl (fun KK hKK => ?_) AllReadyH.nil)
    go_simp
    refine (noteC_any b q D HD.out.cur sq).mono ?_
    rintro e x1 (⟨nd, q2, rfl, G1, c2, s2, o1⟩ | ⟨⟨pv, rfl⟩, G1, o1⟩)
    rotate_left 1
    ·have HP : Hid (tenO q0.data.toList = none) := by
      unfold Hid
      rw [HIO.out, HN.out, notsO_no (by omega) G1.out]
      rfl
     have B9 := HD.out.only.trans o1
     clear HD hKK
     go_simp
     go_wp2
     exact ⟨rfl, .inr ⟨⟨_, rfl⟩, HP, B9⟩⟩
    have HN2 : Hid (notsO n q9.data.toList = (notsO (n - (A.length + 1)) q2.data.toList).map fun y => ((A ++ [nd]) ++ y.1, y.2)) := by
     unfold Hid
     rw [HN.out, notsO_yes (by omega) G1.out, Nat.sub_sub]
     cases notsO (n - (A.length + 1)) q2.data.toList <;> simp
    replace HD := Hid.intro (HD.out.step o1 c2)
    clear o1 c2 HN
    go_simp
    refine hKK.out _ _ trivial (fun hHeld2 => ?_)
    clear hKK KK hHeld
    have hHeld := hHeld2
    clear hHeld2
    refine wpAnyH_ready (rs := [4]) (by kernel_rfl) (by simp) ?_
    refine (AllReadyH.cons rfl (fun KK hKK => ?_) AllReadyH.nil)
    go_simp
    have bM : Below x1.heap.size x1 (x1.alloc (.cells #[.int .i64 nd.i, .int .i64 nd.c, .int .i64 nd.s, .int .i64 nd.k, .int .i64 nd.d] 42)) := one_below _ _
    have cM : ∀ o, (x1.alloc (.cells #[.int .i64 nd.i, .int .i64 nd.c, .int .i64 nd.s, .int .i64 nd.k, .int .i64 nd.d] 42)).cell? ⟨x1.heap.size, o, none⟩ = (#[.int .i64 nd.i, .int .i64 nd.c, .int .i64 nd.s, .int .i64 nd.k, .int .i64 nd.d] : Array Value)[o]? := fun o => World.cell?_alloc_at _ _ _ _ rfl
    replace HD := Hid.intro (HD.out.kept bM)
    revert HD cM
    generalize x1.alloc (.cells #[.int .i64 nd.i, .int .i64 nd.c, .int .i64 nd.s, .int .i64 nd.k, .int .i64 nd.d] 42) = Mw at bM
    generalize x1.heap.size = sb
    intro cM HD
    refine hKK.out _ _ trivial (fun hHeld2 => ?_)
    clear hKK KK hHeld
    have hHeld := hHeld2
    clear hHeld2
    refine wpAnyH_ready (rs := [5]) (by kernel_rfl) (by simp) ?_
    refine (AllReadyH.cons rfl (fun KK hKK => ?_) AllReadyH.nil)
    have hnews : ∀ j u, (ntE.f [nd])[j]? = some u → Mw.cell? ((⟨sb, 0, none⟩ : Addr).add j) = some u := fun j u hj => by
     rw [add_none, Nat.zero_add, cM]
     simpa [ntE, Enc.f] using hj
    have hbase : g3 + 1 ≤ Mw.heap.size := HD.out.box.hi
    refine step_Nt rfl _ _ rfl (g3 + 1) (.slice va A.length vc) A nd rfl HD.out.aud ⟨sb, 0, none⟩ 1 rfl hnews (by omega) hbase ?_
    intro g cap2 w4 hown ho hloc hg
    have hne3 : ¬ some g3 = (Value.slice va A.length vc).ownBlock := fun e => by have := (HD.out.aud.lt g3 e.symm).1; omega
    have k6 : w4.cell? ⟨g3, 3, none⟩ = some (.slice va A.length vc) := (ho.cell (o := 3) HD.out.box.hi hne3).trans (HD.out.box.cell 3)
    have f6 := (ho.frozen (o := 3) HD.out.box.hi hne3).trans (HD.out.box.fro 3)
    have HE := Hid.intro (HD.out.putA ho hown)
    clear HD hown ho hloc hg hnews hbase cM hne3 bM
    go_simp
    refine hKK.out _ _ trivial (fun hHeld2 => ?_)
    clear hKK KK hHeld
    have hHeld := hHeld2
    clear hHeld2
    refine tkk 6 19 (v := ?_) ?_ ?_
    rotate_left 1
    ·intro w hSw
     go_simp <;> with_reducible rfl
    simp only [Act.put, List.setIfInBounds_toArray]
    try simp only [List.set_cons_succ]
    try simp only [List.set_cons_zero]
    refine wpAnyH_ready (rs := [7]) (by kernel_rfl) (by simp) ?_
    refine (AllReadyH.cons rfl (fun KK hKK => ?_) AllReadyH.nil)
    go_simp
    generalize w4.setCell ⟨g3, 3, none⟩ _ = w5 at HE ⊢
    clear k6 f6
    refine hKK.out _ _ trivial (fun hHeld2 => ?_)
    clear hKK KK hHeld
    have hHeld := hHeld2
    clear hHeld2
    refine wpAnyH_done (by kernel_rfl) ?_ _
    clear hHeld
    go_wp2
    go_roundw
    case rel => exact ⟨q2, _, A ++ [nd], by rw [List.length_append]; go_num, by rw [List.length_append, List.length_singleton]; omega, s2, by unfold Hid; rw [List.length_append, List.length_singleton]; exact HN2.out, HE⟩
    case measure => simp [intOf]; omega
   ·skip
    go_simp
    refine (noteC_any b q D HD.out.cur sq).mono ?_
    rintro e x1 (⟨nd, q2, rfl, G1, c2, s2, o1⟩ | ⟨⟨pv, rfl⟩, G1, o1⟩)
    rotate_left 1
    ·have HP : Hid (tenO q0.data.toList = none) := by
      unfold Hid
      rw [HIO.out, HN.out, notsO_no (by omega) G1.out]
      rfl
     have B9 := HD.out.only.trans o1
     clear HD hKK
     go_simp
     go_wp2
     exact ⟨rfl, .inr ⟨⟨_, rfl⟩, HP, B9⟩⟩
    have HN2 : Hid (notsO n q9.data.toList = (notsO (n - (A.length + 1)) q2.data.toList).map fun y => ((A ++ [nd]) ++ y.1, y.2)) := by
     unfold Hid
     rw [HN.out, notsO_yes (by omega) G1.out, Nat.sub_sub]
     cases notsO (n - (A.length + 1)) q2.data.toList <;> simp
    replace HD := Hid.intro (HD.out.step o1 c2)
    clear o1 c2 HN
    go_simp
    refine hKK.out _ _ trivial (fun hHeld2 => ?_)
    clear hKK KK hHeld
    have hHeld := hHeld2
    clear hHeld2
    refine wpAnyH_ready (rs := [1, 4]) (by kernel_rfl) (by simp) ?_
    refine (AllReadyH.cons rfl (fun KK hKK => ?_) (AllReadyH.cons rfl (fun KK hKK => ?_) AllReadyH.nil))
    ·skip
     have k6 : x1.cell? ⟨g3, 3, none⟩ = some (.slice va A.length vc) := HD.out.box.cell 3
     go_simp
     refine hKK.out _ _ trivial (fun hHeld2 => ?_)
     clear hKK KK hHeld
     have hHeld := hHeld2
     clear hHeld2
     clear k6
     refine wpAnyH_ready (rs := [4]) (by kernel_rfl) (by simp) ?_
     refine (AllReadyH.cons rfl (fun KK hKK => ?_) AllReadyH.nil)
     go_simp
     have bM : Below x1.heap.size x1 (x1.alloc (.cells #[.int .i64 nd.i, .int .i64 nd.c, .int .i64 nd.s, .int .i64 nd.k, .int .i64 nd.d] 42)) := one_below _ _
     have cM : ∀ o, (x1.alloc (.cells #[.int .i64 nd.i, .int .i64 nd.c, .int .i64 nd.s, .int .i64 nd.k, .int .i64 nd.d] 42)).cell? ⟨x1.heap.size, o, none⟩ = (#[.int .i64 nd.i, .int .i64 nd.c, .int .i64 nd.s, .int .i64 nd.k, .int .i64 nd.d] : Array Value)[o]? := fun o => World.cell?_alloc_at _ _ _ _ rfl
     replace HD := Hid.intro (HD.out.kept bM)
     revert HD cM
     generalize x1.alloc (.cells #[.int .i64 nd.i, .int .i64 nd.c, .int .i64 nd.s, .int .i64 nd.k, .int .i64 nd.d] 42) = Mw at bM
     generalize x1.heap.size = sb
     intro cM HD
     refine hKK.out _ _ trivial (fun hHeld2 => ?_)
     clear hKK KK hHeld
     have hHeld := hHeld2
     clear hHeld2
     refine wpAnyH_ready (rs := [5]) (by kernel_rfl) (by simp) ?_
     refine (AllReadyH.cons rfl (fun KK hKK => ?_) AllReadyH.nil)
     have hnews : ∀ j u, (ntE.f [nd])[j]? = some u → Mw.cell? ((⟨sb, 0, none⟩ : Addr).add j) = some u := fun j u hj => by
      rw [add_none, Nat.zero_add, cM]
      simpa [ntE, Enc.f] using hj
     have hbase : g3 + 1 ≤ Mw.heap.size := HD.out.box.hi
     refine step_Nt rfl _ _ rfl (g3 + 1) (.slice va A.length vc) A nd rfl HD.out.aud ⟨sb, 0, none⟩ 1 rfl hnews (by omega) hbase ?_
     intro g cap2 w4 hown ho hloc hg
     have hne3 : ¬ some g3 = (Value.slice va A.length vc).ownBlock := fun e => by have := (HD.out.aud.lt g3 e.symm).1; omega
     have k6 : w4.cell? ⟨g3, 3, none⟩ = some (.slice va A.length vc) := (ho.cell (o := 3) HD.out.box.hi hne3).trans (HD.out.box.cell 3)
     have f6 := (ho.frozen (o := 3) HD.out.box.hi hne3).trans (HD.out.box.fro 3)
     have HE := Hid.intro (HD.out.putA ho hown)
     clear HD hown ho hloc hg hnews hbase cM hne3 bM
     go_simp
     refine hKK.out _ _ trivial (fun hHeld2 => ?_)
     clear hKK KK hHeld
     have hHeld := hHeld2
     clear hHeld2
     refine tkk 6 19 (v := ?_) ?_ ?_
     rotate_left 1
     ·intro w hSw
      go_simp <;> with_reducible rfl
     simp only [Act.put, List.setIfInBounds_toArray]
     try simp only [List.set_cons_succ]
     try simp only [List.set_cons_zero]
     refine wpAnyH_ready (rs := [7]) (by kernel_rfl) (by simp) ?_
     refine (AllReadyH.cons rfl (fun KK hKK => ?_) AllReadyH.nil)
     go_simp
     generalize w4.setCell ⟨g3, 3, none⟩ _ = w5 at HE ⊢
     clear k6 f6
     refine hKK.out _ _ trivial (fun hHeld2 => ?_)
     clear hKK KK hHeld
     have hHeld := hHeld2
     clear hHeld2
     refine wpAnyH_done (by kernel_rfl) ?_ _
     clear hHeld
     go_wp2
     go_roundw
     case rel => exact ⟨q2, _, A ++ [nd], by rw [List.length_append]; go_num, by rw [List.length_append, List.length_singleton]; omega, s2, by unfold Hid; rw [List.length_append, List.length_singleton]; exact HN2.out, HE⟩
     case measure => simp [intOf]; omega
    ·skip
     go_simp
     have bM : Below x1.heap.size x1 (x1.alloc (.cells #[.int .i64 nd.i, .int .i64 nd.c, .int .i64 nd.s, .int .i64 nd.k, .int .i64 nd.d] 42)) := one_below _ _
     have cM : ∀ o, (x1.alloc (.cells #[.int .i64 nd.i, .int .i64 nd.c, .int .i64 nd.s, .int .i64 nd.k, .int .i64 nd.d] 42)).cell? ⟨x1.heap.size, o, none⟩ = (#[.int .i64 nd.i, .int .i64 nd.c, .int .i64 nd.s, .int .i64 nd.k, .int .i64 nd.d] : Array Value)[o]? := fun o => World.cell?_alloc_at _ _ _ _ rfl
     replace HD := Hid.intro (HD.out.kept bM)
     revert HD cM
     generalize x1.alloc (.cells #[.int .i64 nd.i, .int .i64 nd.c, .int .i64 nd.s, .int .i64 nd.k, .int .i64 nd.d] 42) = Mw at bM
     generalize x1.heap.size = sb
     intro cM HD
     refine hKK.out _ _ trivial (fun hHeld2 => ?_)
     clear hKK KK hHeld
     have hHeld := hHeld2
     clear hHeld2
     refine wpAnyH_ready (rs := [1]) (by kernel_rfl) (by simp) ?_
     refine (AllReadyH.cons rfl (fun KK hKK => ?_) AllReadyH.nil)
     have k6 : Mw.cell? ⟨g3, 3, none⟩ = some (.slice va A.length vc) := HD.out.box.cell 3
     go_simp
     refine hKK.out _ _ trivial (fun hHeld2 => ?_)
     clear hKK KK hHeld
     have hHeld := hHeld2
     clear hHeld2
     clear k6
     refine wpAnyH_ready (rs := [5]) (by kernel_rfl) (by simp) ?_
     refine (AllReadyH.cons rfl (fun KK hKK => ?_) AllReadyH.nil)
     have hnews : ∀ j u, (ntE.f [nd])[j]? = some u → Mw.cell? ((⟨sb, 0, none⟩ : Addr).add j) = some u := fun j u hj => by
      rw [add_none, Nat.zero_add, cM]
      simpa [ntE, Enc.f] using hj
     have hbase : g3 + 1 ≤ Mw.heap.size := HD.out.box.hi
     refine step_Nt rfl _ _ rfl (g3 + 1) (.slice va A.length vc) A nd rfl HD.out.aud ⟨sb, 0, none⟩ 1 rfl hnews (by omega) hbase ?_
     intro g cap2 w4 hown ho hloc hg
     have hne3 : ¬ some g3 = (Value.slice va A.length vc).ownBlock := fun e => by have := (HD.out.aud.lt g3 e.symm).1; omega
     have k6 : w4.cell? ⟨g3, 3, none⟩ = some (.slice va A.length vc) := (ho.cell (o := 3) HD.out.box.hi hne3).trans (HD.out.box.cell 3)
     have f6 := (ho.frozen (o := 3) HD.out.box.hi hne3).trans (HD.out.box.fro 3)
     have HE := Hid.intro (HD.out.putA ho hown)
     clear HD hown ho hloc hg hnews hbase cM hne3 bM
     go_simp
     refine hKK.out _ _ trivial (fun hHeld2 => ?_)
     clear hKK KK hHeld
     have hHeld := hHeld2
     clear hHeld2
     refine tkk 6 19 (v := ?_) ?_ ?_
     rotate_left 1
     ·intro w hSw
      go_simp <;> with_reducible rfl
     simp only [Act.put, List.setIfInBounds_toArray]
     try simp only [List.set_cons_succ]
     try simp only [List.set_cons_zero]
     refine wpAnyH_ready (rs := [7]) (by kernel_rfl) (by simp) ?_
     refine (AllReadyH.cons rfl (fun KK hKK => ?_) AllReadyH.nil)
     go_simp
     generalize w4.setCell ⟨g3, 3, none⟩ _ = w5 at HE ⊢
     clear k6 f6
     refine hKK.out _ _ trivial (fun hHeld2 => ?_)
     clear hKK KK hHeld
     have hHeld := hHeld2
     clear hHeld2
     refine wpAnyH_done (by kernel_rfl) ?_ _
     clear hHeld
     go_wp2
     go_roundw
     case rel => exact ⟨q2, _, A ++ [nd], by rw [List.length_append]; go_num, by rw [List.length_append, List.length_singleton]; omega, s2, by unfold Hid; rw [List.length_append, List.length_singleton]; exact HN2.out, HE⟩
     case measure => simp [intOf]; omega
  ·obtain rfl : A.length = n := by omega
   have hjn : ¬ (A.length : Int) < (A.length : Int) := by omega
   have HQ : Hid (notsO A.length q9.data.toList = some (A, q.data.toList)) := by
    unfold Hid
    rw [HN.out, Nat.sub_self]
    simp [notsO]
   clear HN
   go_wp2_with fail
   refine (countC_any b 3 q _ HI.out.cur sq).mono ?_
   rintro e Z2 (⟨m, q8, rfl, H7, hm3, c8, s8, k8⟩ | ⟨⟨pv, rfl⟩, hn, k8⟩)
   rotate_left 1
   ·have HP : Hid (tenO q0.data.toList = none) := by
     have e8 := hn.out
     unfold Hid
     rw [HIO.out, HQ.out]
     simp only [e8, Option.bind_some, Option.bind_none]
    have b9 := HI.out.only.trans k8
    clear hn HI
    go_wp2
    exact ⟨rfl, .inr ⟨⟨_, rfl⟩, HP, b9⟩⟩
   replace HI := Hid.intro (HI.out.step k8 c8)
   clear c8 k8 sq
   have HI2 : Hid (tenO q0.data.toList = (sessO m q8.data.toList).bind fun s => some (((nx : Int), M.map Np.n, (tk : Int), A, s.1), s.2)) := by
    unfold Hid
    rw [HIO.out, HQ.out]
    simp only [H7.out, Option.bind_some]
   clear H7 HIO HQ
   obtain ⟨aa, ac, rfl⟩ := HI.out.aud.slice
   go_wp2
   go_loopw [23] (fun i wr => ∃ (q : ByteArray) (v : Value) (S : List Se), i = .int .i64 (S.length : Nat) ∧ S.length ≤ m ∧ q.size ≤ 1048576 ∧ Hid (sessO m q8.data.toList = (sessO (m - S.length) q.data.toList).map fun y => (S ++ y.1, y.2)) ∧ Hid (TnR w b g3 (nx : Nat) (tk : Nat) (.slice ua M.length uc) M wr q (.slice aa A.length ac) A v S)) (fun i _ => m - (intOf i).toNat)
   case atStart => exact ⟨q8, _, [], rfl, Nat.zero_le _, s8, by unfold Hid; simp, HI⟩
   case round =>
    clear HI
    obtain ⟨q, v, S, rfl, hj, sq, HN, HI⟩ := hrel
    by_cases hlt : S.length < m
    ·have hjn : (S.length : Int) < (m : Int) := by omega
     obtain ⟨va, vc, rfl⟩ := HI.out.ses.slice
     go_upto_region 8 with fail
     refine wp_region_held_drew (S := fun _ => True) (by kernel_rfl) trivial (fun hHeld => ?_)
     have HD := Hid.intro (HI.out.kept (w2 := wr.drew) (Below.refl _ _).drew)
     clear HI
     generalize wr.drew = D at HD hHeld ⊢
     refine tkk 0 25 (v := ?_) ?_ ?_
     rotate_left 1
     ·intro w hSw
      go_simp <;> with_reducible rfl
     simp only [Act.put, List.setIfInBounds_toArray]
     try simp only [List.set_cons_succ]
     try simp only [List.set_cons_zero]
     refine tkk 2 27 (v := ?_) ?_ ?_
     rotate_left 1
     ·intro w hSw
      go_simp <;> with_reducible rfl
     simp only [Act.put, List.setIfInBounds_toArray]
     try simp only [List.set_cons_succ]
     try simp only [List.set_cons_zero]
     refine wpAnyH_ready (rs := [1, 3]) (by kernel_rfl) (by simp) ?_
     refine (AllReadyH.cons rfl (fun KK hKK => ?_) (AllReadyH.cons rfl (fun KK hKK => ?_) AllReadyH.nil))
     ·skip
      have k6 : D.cell? ⟨g3, 4, none⟩ = some (.slice va S.length vc) := HD.out.box.cell 4
      go_simp
      refine hKK.out _ _ trivial (fun hHeld2 => ?_)
      clear hKK KK hHeld
      have hHeld := hHeld2
      clear hHeld2
      clear k6
      refine wpAnyH_ready (rs := [3]) (by kernel_rfl) (by simp) ?_
      refine (AllReadyH.cons rfl (fun KK hKK => ?_) AllReadyH.nil)
      go_simp
      refine (sessionC_any b q D HD.out.cur sq).mono ?_
      rintro e x1 (⟨nd, q2, rfl, G1, c2, s2, o1⟩ | ⟨⟨pv, rfl⟩, G1, o1⟩)
      rotate_left 1
      ·have HP : Hid (tenO q0.data.toList = none) := by
        unfold Hid
        rw [HI2.out, HN.out, sessO_no (by omega) G1.out]
        rfl
       have B9 := HD.out.only.trans o1
       clear HD hKK
       go_simp
       go_wp2
       exact ⟨rfl, .inr ⟨⟨_, rfl⟩, HP, B9⟩⟩
      have HN2 : Hid (sessO m q8.data.toList = (sessO (m - (S.length + 1)) q2.data.toList).map fun y => ((S ++ [nd]) ++ y.1, y.2)) := by
       unfold Hid
       rw [HN.out, sessO_yes (by omega) G1.out, Nat.sub_sub]
       cases sessO (m - (S.length + 1)) q2.data.toList <;> simp
      replace HD := Hid.intro (HD.out.step o1 c2)
      clear o1 c2 HN
      go_simp
      refine hKK.out _ _ trivial (fun hHeld2 => ?_)
      clear hKK KK hHeld
      have hHeld := hHeld2
      clear hHeld2
      refine wpAnyH_ready (rs := [4]) (by kernel_rfl) (by simp) ?_
      refine (AllReadyH.cons rfl (fun KK hKK => ?_) AllReadyH.nil)
      go_simp
      have bM : Below x1.heap.size x1 (x1.alloc (.cells #[.int .i64 nd.c, .int .i64 nd.s, .int .i64 nd.i, .int .i64 nd.r.c, .string nd.r.d] 48)) := one_below _ _
      have cM : ∀ o, (x1.alloc (.cells #[.int .i64 nd.c, .int .i64 nd.s, .int .i64 nd.i, .int .i64 nd.r.c, .string nd.r.d] 48)).cell? ⟨x1.heap.size, o, none⟩ = (#[.int .i64 nd.c, .int .i64 nd.s, .int .i64 nd.i, .int .i64 nd.r.c, .string nd.r.d] : Array Value)[o]? := fun o => World.cell?_alloc_at _ _ _ _ rfl
      replace HD := Hid.intro (HD.out.kept bM)
      revert HD cM
      generalize x1.alloc (.cells #[.int .i64 nd.c, .int .i64 nd.s, .int .i64 nd.i, .int .i64 nd.r.c, .string nd.r.d] 48) = Mw at bM
      generalize x1.heap.size = sb
      intro cM HD
      refine hKK.out _ _ trivial (fun hHeld2 => ?_)
      clear hKK KK hHeld
      have hHeld := hHeld2
      clear hHeld2
      refine wpAnyH_ready (rs := [5]) (by kernel_rfl) (by simp) ?_
      refine (AllReadyH.cons rfl (fun KK hKK => ?_) AllReadyH.nil)
      have hnews : ∀ j u, (seE.f [nd])[j]? = some u → Mw.cell? ((⟨sb, 0, none⟩ : Addr).add j) = some u := fun j u hj => by
       rw [add_none, Nat.zero_add, cM]
       simpa [seE, Enc.f] using hj
      have hbase : g3 + 1 ≤ Mw.heap.size := HD.out.box.hi
      refine step_Se rfl _ _ rfl (g3 + 1) (.slice va S.length vc) S nd rfl HD.out.ses ⟨sb, 0, none⟩ 1 rfl hnews (by omega) hbase ?_
      intro g cap2 w4 hown ho hloc hg
      have hne3 : ¬ some g3 = (Value.slice va S.length vc).ownBlock := fun e => by have := (HD.out.ses.lt g3 e.symm).1; omega
      have k6 : w4.cell? ⟨g3, 4, none⟩ = some (.slice va S.length vc) := (ho.cell (o := 4) HD.out.box.hi hne3).trans (HD.out.box.cell 4)
      have f6 := (ho.frozen (o := 4) HD.out.box.hi hne3).trans (HD.out.box.fro 4)
      have HE := Hid.intro (HD.out.putS ho hown)
      clear HD hown ho hloc hg hnews hbase cM hne3 bM
      go_simp
      refine hKK.out _ _ trivial (fun hHeld2 => ?_)
      clear hKK KK hHeld
      have hHeld := hHeld2
      clear hHeld2
      refine tkk 6 31 (v := ?_) ?_ ?_
      rotate_left 1
      ·intro w hSw
       go_simp <;> with_reducible rfl
      simp only [Act.put, List.setIfInBounds_toArray]
      try simp only [List.set_cons_succ]
      try simp only [List.set_cons_zero]
      refine wpAnyH_ready (rs := [7]) (by kernel_rfl) (by simp) ?_
      refine (AllReadyH.cons rfl (fun KK hKK => ?_) AllReadyH.nil)
      go_simp
      generalize w4.setCell ⟨g3, 4, none⟩ _ = w5 at HE ⊢
      clear k6 f6
      refine hKK.out _ _ trivial (fun hHeld2 => ?_)
      clear hKK KK hHeld
      have hHeld := hHeld2
      clear hHeld2
      refine wpAnyH_done (by kernel_rfl) ?_ _
      clear hHeld
      go_wp2
      go_roundw
      case rel => exact ⟨q2, _, S ++ [nd], by rw [List.length_append]; go_num, by rw [List.length_append, List.length_singleton]; omega, s2, by unfold Hid; rw [List.length_append, List.length_singleton]; exact HN2.out, HE⟩
      case measure => simp [intOf]; omega
     ·skip
      go_simp
      refine (sessionC_any b q D HD.out.cur sq).mono ?_
      rintro e x1 (⟨nd, q2, rfl, G1, c2, s2, o1⟩ | ⟨⟨pv, rfl⟩, G1, o1⟩)
      rotate_left 1
      ·have HP : Hid (tenO q0.data.toList = none) := by
        unfold Hid
        rw [HI2.out, HN.out, sessO_no (by omega) G1.out]
        rfl
       have B9 := HD.out.only.trans o1
       clear HD hKK
       go_simp
       go_wp2
       exact ⟨rfl, .inr ⟨⟨_, rfl⟩, HP, B9⟩⟩
      have HN2 : Hid (sessO m q8.data.toList = (sessO (m - (S.length + 1)) q2.data.toList).map fun y => ((S ++ [nd]) ++ y.1, y.2)) := by
       unfold Hid
       rw [HN.out, sessO_yes (by omega) G1.out, Nat.sub_sub]
       cases sessO (m - (S.length + 1)) q2.data.toList <;> simp
      replace HD := Hid.intro (HD.out.step o1 c2)
      clear o1 c2 HN
      go_simp
      refine hKK.out _ _ trivial (fun hHeld2 => ?_)
      clear hKK KK hHeld
      have hHeld := hHeld2
      clear hHeld2
      refine wpAnyH_ready (rs := [1, 4]) (by kernel_rfl) (by simp) ?_
      refine (AllReadyH.cons rfl (fun KK hKK => ?_) (AllReadyH.cons rfl (fun KK hKK => ?_) AllReadyH.nil))
      ·skip
       have k6 : x1.cell? ⟨g3, 4, none⟩ = some (.slice va S.length vc) := HD.out.box.cell 4
       go_simp
       refine hKK.out _ _ trivial (fun hHeld2 => ?_)
       clear hKK KK hHeld
       have hHeld := hHeld2
       clear hHeld2
       clear k6
       refine wpAnyH_ready (rs := [4]) (by kernel_rfl) (by simp) ?_
       refine (AllReadyH.cons rfl (fun KK hKK => ?_) AllReadyH.nil)
       go_simp
       have bM : Below x1.heap.size x1 (x1.alloc (.cells #[.int .i64 nd.c, .int .i64 nd.s, .int .i64 nd.i, .int .i64 nd.r.c, .string nd.r.d] 48)) := one_below _ _
       have cM : ∀ o, (x1.alloc (.cells #[.int .i64 nd.c, .int .i64 nd.s, .int .i64 nd.i, .int .i64 nd.r.c, .string nd.r.d] 48)).cell? ⟨x1.heap.size, o, none⟩ = (#[.int .i64 nd.c, .int .i64 nd.s, .int .i64 nd.i, .int .i64 nd.r.c, .string nd.r.d] : Array Value)[o]? := fun o => World.cell?_alloc_at _ _ _ _ rfl
       replace HD := Hid.intro (HD.out.kept bM)
       revert HD cM
       generalize x1.alloc (.cells #[.int .i64 nd.c, .int .i64 nd.s, .int .i64 nd.i, .int .i64 nd.r.c, .string nd.r.d] 48) = Mw at bM
       generalize x1.heap.size = sb
       intro cM HD
       refine hKK.out _ _ trivial (fun hHeld2 => ?_)
       clear hKK KK hHeld
       have hHeld := hHeld2
       clear hHeld2
       refine wpAnyH_ready (rs := [5]) (by kernel_rfl) (by simp) ?_
       refine (AllReadyH.cons rfl (fun KK hKK => ?_) AllReadyH.nil)
       have hnews : ∀ j u, (seE.f [nd])[j]? = some u → Mw.cell? ((⟨sb, 0, none⟩ : Addr).add j) = some u := fun j u hj => by
        rw [add_none, Nat.zero_add, cM]
        simpa [seE, Enc.f] using hj
       have hbase : g3 + 1 ≤ Mw.heap.size := HD.out.box.hi
       refine step_Se rfl _ _ rfl (g3 + 1) (.slice va S.length vc) S nd rfl HD.out.ses ⟨sb, 0, none⟩ 1 rfl hnews (by omega) hbase ?_
       intro g cap2 w4 hown ho hloc hg
       have hne3 : ¬ some g3 = (Value.slice va S.length vc).ownBlock := fun e => by have := (HD.out.ses.lt g3 e.symm).1; omega
       have k6 : w4.cell? ⟨g3, 4, none⟩ = some (.slice va S.length vc) := (ho.cell (o := 4) HD.out.box.hi hne3).trans (HD.out.box.cell 4)
       have f6 := (ho.frozen (o := 4) HD.out.box.hi hne3).trans (HD.out.box.fro 4)
       have HE := Hid.intro (HD.out.putS ho hown)
       clear HD hown ho hloc hg hnews hbase cM hne3 bM
       go_simp
       refine hKK.out _ _ trivial (fun hHeld2 => ?_)
       clear hKK KK hHeld
       have hHeld := hHeld2
       clear hHeld2
       refine tkk 6 31 (v := ?_) ?_ ?_
       rotate_left 1
       ·intro w hSw
        go_simp <;> with_reducible rfl
       simp only [Act.put, List.setIfInBounds_toArray]
       try simp only [List.set_cons_succ]
       try simp only [List.set_cons_zero]
       refine wpAnyH_ready (rs := [7]) (by kernel_rfl) (by simp) ?_
       refine (AllReadyH.cons rfl (fun KK hKK => ?_) AllReadyH.nil)
       go_simp
       generalize w4.setCell ⟨g3, 4, none⟩ _ = w5 at HE ⊢
       clear k6 f6
       refine hKK.out _ _ trivial (fun hHeld2 => ?_)
       clear hKK KK hHeld
       have hHeld := hHeld2
       clear hHeld2
       refine wpAnyH_done (by kernel_rfl) ?_ _
       clear hHeld
       go_wp2
       go_roundw
       case rel => exact ⟨q2, _, S ++ [nd], by rw [List.length_append]; go_num, by rw [List.length_append, List.length_singleton]; omega, s2, by unfold Hid; rw [List.length_append, List.length_singleton]; exact HN2.out, HE⟩
       case measure => simp [intOf]; omega
      ·skip
       go_simp
       have bM : Below x1.heap.size x1 (x1.alloc (.cells #[.int .i64 nd.c, .int .i64 nd.s, .int .i64 nd.i, .int .i64 nd.r.c, .string nd.r.d] 48)) := one_below _ _
       have cM : ∀ o, (x1.alloc (.cells #[.int .i64 nd.c, .int .i64 nd.s, .int .i64 nd.i, .int .i64 nd.r.c, .string nd.r.d] 48)).cell? ⟨x1.heap.size, o, none⟩ = (#[.int .i64 nd.c, .int .i64 nd.s, .int .i64 nd.i, .int .i64 nd.r.c, .string nd.r.d] : Array Value)[o]? := fun o => World.cell?_alloc_at _ _ _ _ rfl
       replace HD := Hid.intro (HD.out.kept bM)
       revert HD cM
       generalize x1.alloc (.cells #[.int .i64 nd.c, .int .i64 nd.s, .int .i64 nd.i, .int .i64 nd.r.c, .string nd.r.d] 48) = Mw at bM
       generalize x1.heap.size = sb
       intro cM HD
       refine hKK.out _ _ trivial (fun hHeld2 => ?_)
       clear hKK KK hHeld
       have hHeld := hHeld2
       clear hHeld2
       refine wpAnyH_ready (rs := [1]) (by kernel_rfl) (by simp) ?_
       refine (AllReadyH.cons rfl (fun KK hKK => ?_) AllReadyH.nil)
       have k6 : Mw.cell? ⟨g3, 4, none⟩ = some (.slice va S.length vc) := HD.out.box.cell 4
       go_simp
       refine hKK.out _ _ trivial (fun hHeld2 => ?_)
       clear hKK KK hHeld
       have hHeld := hHeld2
       clear hHeld2
       clear k6
       refine wpAnyH_ready (rs := [5]) (by kernel_rfl) (by simp) ?_
       refine (AllReadyH.cons rfl (fun KK hKK => ?_) AllReadyH.nil)
       have hnews : ∀ j u, (seE.f [nd])[j]? = some u → Mw.cell? ((⟨sb, 0, none⟩ : Addr).add j) = some u := fun j u hj => by
        rw [add_none, Nat.zero_add, cM]
        simpa [seE, Enc.f] using hj
       have hbase : g3 + 1 ≤ Mw.heap.size := HD.out.box.hi
       refine step_Se rfl _ _ rfl (g3 + 1) (.slice va S.length vc) S nd rfl HD.out.ses ⟨sb, 0, none⟩ 1 rfl hnews (by omega) hbase ?_
       intro g cap2 w4 hown ho hloc hg
       have hne3 : ¬ some g3 = (Value.slice va S.length vc).ownBlock := fun e => by have := (HD.out.ses.lt g3 e.symm).1; omega
       have k6 : w4.cell? ⟨g3, 4, none⟩ = some (.slice va S.length vc) := (ho.cell (o := 4) HD.out.box.hi hne3).trans (HD.out.box.cell 4)
       have f6 := (ho.frozen (o := 4) HD.out.box.hi hne3).trans (HD.out.box.fro 4)
       have HE := Hid.intro (HD.out.putS ho hown)
       clear HD hown ho hloc hg hnews hbase cM hne3 bM
       go_simp
       refine hKK.out _ _ trivial (fun hHeld2 => ?_)
       clear hKK KK hHeld
       have hHeld := hHeld2
       clear hHeld2
       refine tkk 6 31 (v := ?_) ?_ ?_
       rotate_left 1
       ·intro w hSw
        go_simp <;> with_reducible rfl
       simp only [Act.put, List.setIfInBounds_toArray]
       try simp only [List.set_cons_succ]
       try simp only [List.set_cons_zero]
       refine wpAnyH_ready (rs := [7]) (by kernel_rfl) (by simp) ?_
       refine (AllReadyH.cons rfl (fun KK hKK => ?_) AllReadyH.nil)
       go_simp
       generalize w4.setCell ⟨g3, 4, none⟩ _ = w5 at HE ⊢
       clear k6 f6
       refine hKK.out _ _ trivial (fun hHeld2 => ?_)
       clear hKK KK hHeld
       have hHeld := hHeld2
       clear hHeld2
       refine wpAnyH_done (by kernel_rfl) ?_ _
       clear hHeld
       go_wp2
       go_roundw
       case rel => exact ⟨q2, _, S ++ [nd], by rw [List.length_append]; go_num, by rw [List.length_append, List.length_singleton]; omega, s2, by unfold Hid; rw [List.length_append, List.length_singleton]; exact HN2.out, HE⟩
       case measure => simp [intOf]; omega
    ·obtain rfl : S.length = m := by omega
     have hjn2 : ¬ (S.length : Int) < (S.length : Int) := by omega
     have HQ : Hid (sessO S.length q8.data.toList = some (S, q.data.toList)) := by
      unfold Hid
      rw [HN.out, Nat.sub_self]
      simp [sessO]
     have HP : Hid (tenO q0.data.toList = some (((nx : Int), M.map Np.n, (tk : Int), A, S), q.data.toList)) := by
      unfold Hid
      rw [HI2.out, HQ.out]
      simp only [Option.bind_some]
     clear HN HQ HI2
     obtain ⟨sa, sc, rfl⟩ := HI.out.ses.slice
     have kB := HI.out.box.cell
     have kR := HI.out.res.cell
     have fR := HI.out.res.fro
     have hl := HI.out.lt
     have hrl := HI.out.res.hi
     have r0 : wr.cell? ⟨w.heap.size, 0, none⟩ = some (.int .i64 0) := kR 0
     have r1 : wr.cell? ⟨w.heap.size, 1, none⟩ = some (.slice none 0 0) := kR 1
     have r2 : wr.cell? ⟨w.heap.size, 2, none⟩ = some (.int .i64 0) := kR 2
     have r3 : wr.cell? ⟨w.heap.size, 3, none⟩ = some (.slice none 0 0) := kR 3
     have r4 : wr.cell? ⟨w.heap.size, 4, none⟩ = some (.slice none 0 0) := kR 4
     have OE : Hid (∀ Z, Only (fun k => k = w.heap.size) wr Z → CurAt Z b q ∧ (VolO Z w.heap.size (.slice ua M.length uc) M ∧ Own ntE 42 Z (g3 + 1) (.slice aa A.length ac) A ∧ Own seE 48 Z (g3 + 1) (.slice sa S.length sc) S) ∧ Only (fun k => k = b) w Z) := fun Z hZ => ⟨HI.out.cur.only hZ (by omega), ⟨(HI.out.vol.only hZ (fun k hk e => by omega)).lower (by omega), HI.out.aud.only hZ (fun k hk e => by have := (HI.out.aud.lt k hk).1; omega), HI.out.ses.only hZ (fun k hk e => by have := (HI.out.ses.lt k hk).1; omega)⟩, HI.out.only.then hZ (fun k hk e => by omega)⟩
     have HG : Hid (w.heap.size < g3 ∧ (∀ k, (Value.slice ua M.length uc).ownBlock = some k → k < g3) ∧ (∀ p ∈ M, ∀ k, p.v.ownBlock = some k → k < g3) ∧ Inc M) := ⟨HI.out.lt.2, HI.out.vt, HI.out.vn, HI.out.inc⟩
     clear HI kR
     go_wp2
     refine bodyPost_ret (v := (Ten.mk (nx : Nat) M ua uc (tk : Nat) A aa ac S sa sc).v) (by simp [results, Try.results15, go_sem, r0, r1, r2, r3, r4]) rfl (.inl ⟨⟨(nx : Nat), M, ua, uc, (tk : Nat), A, aa, ac, S, sa, sc⟩, g3, q, rfl, HP, (OE.out _ ?_).1, sq, (OE.out _ ?_).2.1, HG, (OE.out _ ?_).2.2⟩)
     all_goals repeat (refine Only.setCell ?_ (by simp) _)
     all_goals exact Only.refl _ _
end Go.Proofs.Ytpccnoiepmedeaa
