/- The sentence's ReadVol. -/
import Derived.Test.YtknckbedddeijaaGreatTL8I
import Derived.Test.YtknckbedddeijaaGreatTVolIff
import Derived.Test.YtknckbedddeijaaGreatTSpecVol
namespace Go.Proofs.YtknckbedddeijaaGreat
open Go.RowKit
set_option linter.unusedVariables false
theorem bstr_ne2 {a b : ByteArray} (h : ¬ a = b) : (a.toList == b.toList) = false := by
 rw [beq_eq_false_iff_ne]
 intro e
 rw [toList_go, toList_go] at e
 exact h ((ba_of a).symm.trans ((congrArg (fun l : List UInt8 => (⟨l.toArray⟩ : ByteArray)) e).trans (ba_of b)))
structure VoS (w5 : World) (g3 B nx : Nat) (wr : World) (u : Value) (M : List Np) : Prop where
 box : Blk wr g3 #[.int .i64 (nx : Nat), u]
 own : VolO wr B u M
 inc : Inc M
 only : Only (fun k => k = g3) w5 wr
 lt : g3 < B ∧ B = w5.heap.size
theorem VoS.kept {w5 : World} {g3 B nx : Nat} {wr w2 : World} {u : Value} {M : List Np} (h : VoS w5 g3 B nx wr u M) (hb : Below wr.heap.size wr w2) : VoS w5 g3 B nx w2 u M :=
 ⟨h.box.kept hb, h.own.kept hb, h.inc, h.only.trans (ob_any hb), h.lt⟩
theorem VoS.put {w5 : World} {g3 B nx : Nat} {wr w4 : World} {u : Value} {M : List Np} {p : Np} {g m cap C : Nat} (h : VoS w5 g3 B nx wr u M) (ho : Only (fun k => some k = u.ownBlock) wr w4) (hown : Own ndE 76 w4 B (.slice (some ⟨g, 0, none⟩) m cap) (M ++ [p]))
  (hp : Own diE 102 wr C p.v p.n.names) (hC : B ≤ C) (hM : ∀ x ∈ M, ∀ k, x.v.ownBlock = some k → k < C) :
  VoS w5 g3 B nx (w4.setCell ⟨g3, 1, none⟩ (.slice (some ⟨g, 0, none⟩) m cap)) (.slice (some ⟨g, 0, none⟩) m cap) (M ++ [p]) := by
 have hlt := h.lt
 have nb : ∀ k, some k = u.ownBlock → B ≤ k := fun k hk => (h.own.own.lt k hk.symm).1
 have h3 : ¬ some g3 = u.ownBlock := fun e => by have := nb g3 e; omega
 have bx := h.box.only ho h3
 refine ⟨⟨by simpa using bx.hi, fun o => ?_, fun o => ?_⟩, ⟨hown.only (set_only g3 1 w4 _) (fun k hk e => ?_), fun x hx => ?_⟩, h.inc.snoc C hM (fun k hk => (hp.lt k hk).1), (h.only.then ho (fun k hk e => by have := nb k e; omega)).trans (set_only g3 1 w4 _), hlt⟩
 ·match o with
  | 0 => rw [World.cell?_setCell_other _ _ _ _ (by intro e2; simp at e2 <;> omega), bx.cell 0]; rfl
  | 1 => exact World.cell?_setCell_same _ _ _ (bx.cell 1)
  | o + 2 => rw [World.cell?_setCell_other _ _ _ _ (by intro e2; simp at e2 <;> omega), bx.cell (o + 2)]; simp
 ·rw [World.frozen?_setCell]; exact bx.fro o
 ·have := (hown.lt k hk).1; omega
 ·rcases List.mem_append.1 hx with hx | hx
  ·have h5 := h.own.nms x hx
   exact (h5.only ho (fun k hk e => own_ne h5 h.own.own hk e)).only (set_only g3 1 w4 _) (fun k hk e => by have := (h5.lt k hk).1; omega)
  ·obtain rfl : x = p := by simpa using hx
   exact ((hp.only ho (fun k hk e => own_ne hp h.own.own hk e)).only (set_only g3 1 w4 _) (fun k hk e => by have := (hp.lt k hk).1; omega)).lower hC
set_option maxRecDepth 100000 in
set_option maxHeartbeats 4000000 in
theorem specReadVol_any (s : ByteArray) (w : World) (hs : s.size ≤ 1048576) :
  Calls Tryz.prog 23 #[.string s] w (RdV s.data.toList w) := by
 obtain ⟨i0, hi, hz0, hz1, hz2⟩ := info_parts Tryz.infoIn
 go_enter Tryz.func23, Tryz.ntmps23
 go_wp2_with fail
 obtain ⟨W, hW, bW, zW, cW, fW⟩ := boxed w #[.int .i64 0, .slice none 0 0] 32
 simp only [hW]
 have X0 : Hid (Blk W w.heap.size zV) := Hid.intro ⟨by omega, cW, fW⟩
 have B0 := bW
 clear hW cW fW bW zW
 refine (l8Vars_any s 0 2 _ hs (by omega) (by omega) (by omega)).mono ?_
 rintro e w1 ⟨⟨v2, ⟨xs, a1, rfl, HV, ha1, hl, hn2⟩ | ⟨rfl, HV⟩⟩, b⟩
 rotate_left 1
 ·replace X0 := Hid.intro (X0.out.kept b)
  replace B0 := B0.trans (b.mono B0.size)
  have HP : Hid (outV s.data.toList = none) := by
   have h := HV.out
   rw [List.drop_zero] at h
   unfold Hid outV volO
   rcases varsO_less h with h1 | ⟨x, r1, h1, h⟩
   ·simp only [h1, Option.bind_none]
   ·rcases varsO_less h with h2 | ⟨y, r2, h2, h⟩
    ·simp only [h1, cntO, h2, Option.bind_some, Option.bind_none]
    ·rw [varsO] at h; cases h
  clear HV b
  have r0 : w1.cell? ⟨w.heap.size, 0, none⟩ = some (.int .i64 0) := X0.out.cell 0
  have r1 : w1.cell? ⟨w.heap.size, 1, none⟩ = some (.slice none 0 0) := X0.out.cell 1
  have f0 : w1.frozen? ⟨w.heap.size, 0, none⟩ = false := X0.out.fro 0
  have f1 : w1.frozen? ⟨w.heap.size, 1, none⟩ = false := X0.out.fro 1
  have o1 : Only (fun k => k = w.heap.size) w1 ((w1.setCell ⟨w.heap.size, 0, none⟩ (.int .i64 0)).setCell ⟨w.heap.size, 1, none⟩ (.slice none 0 0)) := (set_only w.heap.size 0 w1 (.int .i64 0)).setCell (p := ⟨w.heap.size, 1, none⟩) rfl (.slice none 0 0)
  clear X0
  go_wp2
  exact bodyPost_ret (v := .tuple #[volV 0 (.slice none 0 0), .bool false]) (by simp [results, Tryz.results23, go_sem, r0, r1]) rfl ⟨.inr ⟨rfl, HP⟩, B0.trans (o1.below B0.size (fun k hk h => by omega))⟩
 obtain ⟨nx, n, r1, rfl, h1, h2⟩ := varsO_two_yes HV.out
 rw [List.drop_zero] at h1
 have H1 := Hid.intro h1
 have H2 := Hid.intro h2
 obtain ⟨g4, cap4, rfl, hcap4, hg4, hlt4, hcell4⟩ := hn2
 have k0 : w1.cell? ⟨g4, 0, none⟩ = some (.int .i64 (nx : Nat)) := hcell4 0 (by simp)
 have k1 : w1.cell? ⟨g4, 1, none⟩ = some (.int .i64 (n : Nat)) := hcell4 1 (by simp)
 simp only [List.length_cons, List.length_nil, Nat.zero_add, Nat.reduceAdd] at hcap4 ⊢
 replace X0 := Hid.intro (X0.out.kept b)
 replace B0 := B0.trans (b.mono B0.size)
 clear HV hcell4 hl b h1 h2
 have hi6 : w.heap.size < w1.heap.size := X0.out.hi
 have q1 : (0 : Int) ≤ 1 ∧ (1 : Int) < (cap4 : Int) := by omega
 by_cases hm : 24 < n
 ·have g1 : (24 : Int) < (n : Int) := by omega
  have HP : Hid (outV s.data.toList = none) := by
   unfold Hid outV volO
   simp only [H1.out, cntO, H2.out, Option.bind_some]
   rw [if_neg (by omega)]
   rfl
  have r0 : w1.cell? ⟨w.heap.size, 0, none⟩ = some (.int .i64 0) := X0.out.cell 0
  have r1 : w1.cell? ⟨w.heap.size, 1, none⟩ = some (.slice none 0 0) := X0.out.cell 1
  have f0 : w1.frozen? ⟨w.heap.size, 0, none⟩ = false := X0.out.fro 0
  have f1 : w1.frozen? ⟨w.heap.size, 1, none⟩ = false := X0.out.fro 1
  have o1 : Only (fun k => k = w.heap.size) w1 ((w1.setCell ⟨w.heap.size, 0, none⟩ (.int .i64 0)).setCell ⟨w.heap.size, 1, none⟩ (.slice none 0 0)) := (set_only w.heap.size 0 w1 (.int .i64 0)).setCell (p := ⟨w.heap.size, 1, none⟩) rfl (.slice none 0 0)
  clear X0
  go_wp2
  exact bodyPost_ret (v := .tuple #[volV 0 (.slice none 0 0), .bool false]) (by simp [results, Tryz.results23, go_sem, r0, r1]) rfl ⟨.inr ⟨rfl, HP⟩, B0.trans (o1.below B0.size (fun k hk h => by omega))⟩
 ·have g1 : ¬ (24 : Int) < (n : Int) := by omega
  have HIO : Hid (volO s.data.toList = (inosO n (s.data.toList.drop a1)).bind fun y => some ((nx, y.1), y.2)) := by
   unfold Hid volO
   simp only [H1.out, cntO, H2.out, Option.bind_some]
   rw [if_pos (by omega), Option.bind_some]
  have HK1 := Hid.intro k1
  clear H1 H2
  go_upto_region 5 with fail
  obtain ⟨w5, hY, bY, zY, cY, fY⟩ := boxed w1 #[.int .i64 (nx : Nat), .slice none 0 0] 32
  simp only [hY]
  replace HK1 := Hid.intro (atCell bY HK1.out hlt4)
  have HI : Hid (VoS w5 w1.heap.size w5.heap.size nx w5 (.slice none 0 0) []) := ⟨⟨by omega, cY, fY⟩, ⟨Own.nil _ _, fun p hp => by cases hp⟩, (fun i j hij hj => by simp at hj), Only.refl _ _, by omega, rfl⟩
  replace X0 := Hid.intro (X0.out.kept bY)
  replace B0 := B0.trans (bY.mono B0.size)
  have hlt45 : g4 < w5.heap.size := by omega
  have hg43 : ¬ g4 = w1.heap.size := by omega
  have hg35 : w1.heap.size < w5.heap.size := by omega
  clear hY bY zY cY fY k0 k1
  generalize w1.heap.size = g3 at HI hi6 hg43 hg35 ⊢
  go_wp2
  go_loopw [5, 7] (fun x i wr => ∃ (a : Nat) (u : Value) (M : List Np), x = .int .i64 (a : Nat) ∧ i = .int .i64 (M.length : Nat) ∧ M.length ≤ n ∧ a ≤ s.size ∧ Hid (inosO n (s.data.toList.drop a1) = (inosO (n - M.length) (s.data.toList.drop a)).map fun y => (M.map Np.n ++ y.1, y.2)) ∧ Hid (VoS w5 g3 w5.heap.size nx wr u M)) (fun _ i _ => n - (intOf i).toNat)
  case atStart => exact ⟨a1, _, [], rfl, rfl, Nat.zero_le _, ha1, by unfold Hid; simp, HI⟩
  case round =>
   obtain ⟨a, u, M, rfl, rfl, hj, hal, HN, HI⟩ := hrel
   obtain ⟨va, vc, rfl⟩ := HI.out.own.own.slice
   have k10 := (HI.out.only.cell (o := 1) hlt45 hg43).trans HK1.out
   have hwg : w.heap.size ≤ w5.heap.size := B0.size
   by_cases hlt : M.length < n
   ·have hjn : (M.length : Int) < (n : Int) := by omega
    have hMx : ∀ x ∈ M, ∀ k, x.v.ownBlock = some k → k < wr.heap.size := fun x hx k hk => ((HI.out.own.nms x hx).lt k hk).2
    have hwr : w5.heap.size ≤ wr.heap.size := HI.out.only.size
    go_wp2_with fail
    clear k10
    refine (l8Inode_any s a _ hs hal).mono ?_
    rintro e x1 ⟨⟨nd, vn, a4, rfl, G1, ha4, on⟩ | ⟨nd, va2, vl2, vc2, rfl, G1⟩, b⟩
    rotate_left 1
    ·replace HI := Hid.intro (HI.out.kept b)
     clear b
     have HP : Hid (outV s.data.toList = none) := by
      unfold Hid outV
      rw [HIO.out, HN.out, inosO_no (by omega) G1.out]
      rfl
     have X0 : Hid (Blk x1 w.heap.size zV) := X0.out.only HI.out.only (by omega)
     have B0 : Below w.heap.size w x1 := B0.trans (HI.out.only.below hwg (fun k hk e => by omega))
     go_upto_region 9 with fail
     obtain ⟨x2, hY, bY, zY, cY, fY⟩ := boxed x1 (ndA nd (.slice va2 vl2 vc2)) 76
     try simp only [hY]
     replace X0 := Hid.intro (X0.out.kept bY)
     replace B0 := B0.trans (bY.mono B0.size)
     clear hY bY zY cY fY
     have r0 : x2.cell? ⟨w.heap.size, 0, none⟩ = some (.int .i64 0) := X0.out.cell 0
     have r1 : x2.cell? ⟨w.heap.size, 1, none⟩ = some (.slice none 0 0) := X0.out.cell 1
     have f0 : x2.frozen? ⟨w.heap.size, 0, none⟩ = false := X0.out.fro 0
     have f1 : x2.frozen? ⟨w.heap.size, 1, none⟩ = false := X0.out.fro 1
     have o1 : Only (fun k => k = w.heap.size) x2 ((x2.setCell ⟨w.heap.size, 0, none⟩ (.int .i64 0)).setCell ⟨w.heap.size, 1, none⟩ (.slice none 0 0)) := (set_only w.heap.size 0 x2 (.int .i64 0)).setCell (p := ⟨w.heap.size, 1, none⟩) rfl (.slice none 0 0)
     clear X0 HI
     go_wp2
     exact bodyPost_ret (v := .tuple #[volV 0 (.slice none 0 0), .bool false]) (by simp [results, Tryz.results23, go_sem, r0, r1]) rfl ⟨.inr ⟨rfl, HP⟩, B0.trans (o1.below B0.size (fun k hk h => by omega))⟩
    obtain ⟨na, nc, rfl⟩ := on.out.slice
    replace HI := Hid.intro (HI.out.kept b)
    have HN2 : Hid (inosO n (s.data.toList.drop a1) = (inosO (n - (M.length + 1)) (s.data.toList.drop a4)).map fun y => ((M.map Np.n ++ [nd]) ++ y.1, y.2)) := by
     unfold Hid
     rw [HN.out, inosO_yes (by omega) G1.out, Nat.sub_sub]
     cases inosO (n - (M.length + 1)) (s.data.toList.drop a4) <;> simp
    clear b HN
    go_upto_region 9 with fail
    obtain ⟨x2, hY, bY, zY, cY, fY⟩ := boxed x1 (ndA nd (.slice na nd.names.length nc)) 76
    try simp only [hY]
    replace HI := Hid.intro (HI.out.kept bY)
    replace on := Hid.intro (on.out.kept bY)
    clear hY bY zY fY
    have c0 : x2.cell? ⟨x1.heap.size, 0, none⟩ = some (.int .i64 nd.id) := cY 0
    have c1 : x2.cell? ⟨x1.heap.size, 1, none⟩ = some (.int .i64 nd.kind) := cY 1
    have c2 : x2.cell? ⟨x1.heap.size, 2, none⟩ = some (.int .i64 nd.mode) := cY 2
    have c3 : x2.cell? ⟨x1.heap.size, 3, none⟩ = some (.int .i64 nd.uid) := cY 3
    have c4 : x2.cell? ⟨x1.heap.size, 4, none⟩ = some (.int .i64 nd.gid) := cY 4
    have c5 : x2.cell? ⟨x1.heap.size, 5, none⟩ = some (.string nd.data) := cY 5
    have c6 : x2.cell? ⟨x1.heap.size, 6, none⟩ = some (.slice na nd.names.length nc) := cY 6
    have c7 : x2.cell? ⟨x1.heap.size, 7, none⟩ = some (.int .i64 nd.maxb) := cY 7
    have c8 : x2.cell? ⟨x1.heap.size, 8, none⟩ = some (.int .i64 nd.maxi) := cY 8
    have k6 : x2.cell? ⟨g3, 1, none⟩ = some (.slice va M.length vc) := HI.out.box.cell 1
    have hown : x2.ownsRow w5.heap.size 76 9 (.slice va M.length vc) M.length (ndE.f M) := HI.out.own.own
    have hwx : w5.heap.size ≤ x2.heap.size := HI.out.only.size
    have HM := Hid.intro (HI.out.kept (one_below x2 (.cells #[.int .i64 nd.id, .int .i64 nd.kind, .int .i64 nd.mode, .int .i64 nd.uid, .int .i64 nd.gid, .string nd.data, .slice na nd.names.length nc, .int .i64 nd.maxb, .int .i64 nd.maxi] 76)))
    have onM := Hid.intro (on.out.kept (one_below x2 (.cells #[.int .i64 nd.id, .int .i64 nd.kind, .int .i64 nd.mode, .int .i64 nd.uid, .int .i64 nd.gid, .string nd.data, .slice na nd.names.length nc, .int .i64 nd.maxb, .int .i64 nd.maxi] 76)))
    clear cY HI on
    go_upto_region 11 with fail
    go_wp2_with (at_builtin; refine wpList_append_own _ rfl _ _ 30 rfl w5.heap.size 76 i0 (.agg #[.int .i64 0, .int .i64 0, .int .i64 0, .int .i64 0, .int .i64 0, .string ⟨#[]⟩, .slice none 0 0, .int .i64 0, .int .i64 0]) 9 96 Tryz.underlying30 hi hz0 hz1 hz2 rfl (by decide) _ _ _ rfl (hown.alloc _) ⟨x2.heap.size, 0, none⟩ 1 1 (ndE.c ⟨nd, na, nc⟩) rfl rfl ?d1 ?d2 ?d3 ?d4 ?d5 ?_)
    case d1 =>
     intro j u hj
     rw [add_none, Nat.zero_add, World.cell?_alloc_at _ _ _ _ rfl]
     simpa [ndE] using hj
    case d2 => exact ndE.one _
    case d3 => unfold maxLen; omega
    case d4 => omega
    case d5 => simp; omega
    intro v' w9 hown' hgrow _
    have HOw : Own ndE 76 w9 w5.heap.size v' (M ++ [⟨nd, na, nc⟩]) := Own.mk hown' (by simp) (by rw [ndE.f_append, ndE.f_one1])
    have ho := grown_only hgrow
    obtain ⟨g, cap2, rfl⟩ : ∃ g cap, v' = .slice (some ⟨g, 0, none⟩) (M.length + 1) cap := by
     rcases HOw.look with ⟨_, h⟩ | ⟨g, cap, h, _⟩
     ·simp at h
     ·exact ⟨g, cap, by simpa using h⟩
    have hne3 : ¬ some g3 = (Value.slice va M.length vc).ownBlock := fun e => by have := (HM.out.own.own.lt g3 e.symm).1; omega
    have k7 := (ho.cell (o := 1) HM.out.box.hi hne3).trans (HM.out.box.cell 1)
    have f7 := (ho.frozen (o := 1) HM.out.box.hi hne3).trans (HM.out.box.fro 1)
    have HE := Hid.intro (HM.out.put ho HOw onM.out hwr hMx)
    have k7 : w9.cell? ⟨g3, 1, none⟩ = some (.slice va M.length vc) := k7
    clear HM hown hown' hgrow HOw ho hne3 onM hMx k6 c0 c1 c2 c3 c4 c5 c6 c7 c8
    go_wp2
    go_roundw
    case rel => exact ⟨a4, _, M ++ [⟨nd, na, nc⟩], rfl, by rw [List.length_append]; go_num, by rw [List.length_append, List.length_singleton]; omega, ha4, by unfold Hid; rw [List.length_append, List.length_singleton, List.map_append]; exact HN2.out, HE⟩
    case measure => simp [intOf]; omega
   ·have hjn : ¬ (M.length : Int) < (n : Int) := by omega
    have e0 : n - M.length = 0 := by omega
    have HP : Hid (volO s.data.toList = some ((nx, M.map Np.n), s.data.toList.drop a)) := by
     unfold Hid
     rw [HIO.out, HN.out, e0]
     simp [inosO]
    have hwf : ∀ p ∈ M, NdSz p.n := fun p hp => (vol_wf HP.out (by simpa using hs) p.n (List.mem_map_of_mem hp)).1
    have hii := shV_is HP.out
    have hoc := outV_of HP.out
    have X0 : Hid (Blk wr w.heap.size zV) := X0.out.only HI.out.only (by omega)
    have B0 : Below w.heap.size w wr := B0.trans (HI.out.only.below hwg (fun k hk e => by omega))
    have k0 : wr.cell? ⟨g3, 0, none⟩ = some (.int .i64 (nx : Nat)) := HI.out.box.cell 0
    have k1 : wr.cell? ⟨g3, 1, none⟩ = some (.slice va M.length vc) := HI.out.box.cell 1
    clear HIO HN HP
    go_wp2_with fail
    clear k0 k1 k10
    refine (specShowVol_any (nx : Nat) M (.slice va M.length vc) wr.heap.size wr (Nat.le_refl _) HI.out.own.rowAll hwf).mono ?_
    rintro e w9 ⟨rfl, b⟩
    replace HI := Hid.intro (HI.out.kept b)
    replace X0 := Hid.intro (X0.out.kept b)
    replace B0 := B0.trans (b.mono B0.size)
    clear b
    by_cases hE : shV (nx : Nat) (M.map Np.n) = s
    ·have hb : ((shV (nx : Nat) (M.map Np.n)).toList == s.toList) = true := by rw [hE]; exact beq_self_eq_true _
     rw [if_pos (hii.1 hE)] at hoc
     have HOC := Hid.intro hoc
     have k0 : w9.cell? ⟨g3, 0, none⟩ = some (.int .i64 (nx : Nat)) := HI.out.box.cell 0
     have k1 : w9.cell? ⟨g3, 1, none⟩ = some (.slice va M.length vc) := HI.out.box.cell 1
     have r0 : w9.cell? ⟨w.heap.size, 0, none⟩ = some (.int .i64 0) := X0.out.cell 0
     have r1 : w9.cell? ⟨w.heap.size, 1, none⟩ = some (.slice none 0 0) := X0.out.cell 1
     have f0 : w9.frozen? ⟨w.heap.size, 0, none⟩ = false := X0.out.fro 0
     have f1 : w9.frozen? ⟨w.heap.size, 1, none⟩ = false := X0.out.fro 1
     have hne3 : ¬ w.heap.size = g3 := by omega
     have o1 : Only (fun k => k = w.heap.size) w9 ((w9.setCell ⟨w.heap.size, 0, none⟩ (.int .i64 (nx : Nat))).setCell ⟨w.heap.size, 1, none⟩ (.slice va M.length vc)) := (set_only w.heap.size 0 w9 (.int .i64 (nx : Nat))).setCell (p := ⟨w.heap.size, 1, none⟩) rfl (.slice va M.length vc)
     have HV : Hid (VolO ((w9.setCell ⟨w.heap.size, 0, none⟩ (.int .i64 (nx : Nat))).setCell ⟨w.heap.size, 1, none⟩ (.slice va M.length vc)) w.heap.size (.slice va M.length vc) M ∧ Inc M) := ⟨(HI.out.own.only o1 (fun k hk e => by omega)).lower hwg, HI.out.inc⟩
     clear X0 HI hoc hii hE hwf
     go_wp2
     exact bodyPost_ret (v := .tuple #[volV (nx : Nat) (.slice va M.length vc), .bool true]) (by simp [results, Tryz.results23, go_sem, r0, r1]) rfl ⟨.inl ⟨nx, _, M, rfl, HOC, HV⟩, B0.trans (o1.below B0.size (fun k hk h => by omega))⟩
    ·have hb : ((shV (nx : Nat) (M.map Np.n)).toList == s.toList) = false := bstr_ne2 hE
     rw [if_neg (fun h => hE (hii.2 h))] at hoc
     have HP := Hid.intro hoc
     clear hoc hii hE hwf
     have r0 : w9.cell? ⟨w.heap.size, 0, none⟩ = some (.int .i64 0) := X0.out.cell 0
     have r1 : w9.cell? ⟨w.heap.size, 1, none⟩ = some (.slice none 0 0) := X0.out.cell 1
     have f0 : w9.frozen? ⟨w.heap.size, 0, none⟩ = false := X0.out.fro 0
     have f1 : w9.frozen? ⟨w.heap.size, 1, none⟩ = false := X0.out.fro 1
     have o1 : Only (fun k => k = w.heap.size) w9 ((w9.setCell ⟨w.heap.size, 0, none⟩ (.int .i64 0)).setCell ⟨w.heap.size, 1, none⟩ (.slice none 0 0)) := (set_only w.heap.size 0 w9 (.int .i64 0)).setCell (p := ⟨w.heap.size, 1, none⟩) rfl (.slice none 0 0)
     clear X0 HI
     go_wp2
     exact bodyPost_ret (v := .tuple #[volV 0 (.slice none 0 0), .bool false]) (by simp [results, Tryz.results23, go_sem, r0, r1]) rfl ⟨.inr ⟨rfl, HP⟩, B0.trans (o1.below B0.size (fun k hk h => by omega))⟩
end Go.Proofs.YtknckbedddeijaaGreat
