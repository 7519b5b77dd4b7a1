/- ReadState of the program: a cursor's panic is recovered. -/
import Derived.Test.YtknckbedddeijaaGreatTMarkD
import Derived.Test.YtknckbedddeijaaGreatTCurVo
import Derived.Deep.CutRange
import Derived.Deep.CutBlock
import Derived.Deep.RegionHeld3
import Derived.Test.YtknckbedddeijaaGreatVSpecE
import Derived.Test.YtknckbedddeijaaGreatXMark
import Derived.Test.YtknckbedddeijaaGreatXSta
import Derived.Test.YtknckbedddeijaaGreatXInsT
import Derived.Maps.AppendAt
import Derived.Test.YtknckbedddeijaaGreatTWhole
import Derived.Recover
namespace Go.Proofs.YtknckbedddeijaaGreat
open Go.RowKit
set_option linter.unusedVariables false
/-- An inode that is marked from q on. -/
def mkN (q : Int) (p : Np) : Np := ⟨⟨q, q + 1, q + 2, q + 3, q + 4, markI (q + 5), markDL (q + 6) p.n.names p.n.names.length, q + 6 + 2 * (p.n.names.length : Nat), q + 7 + 2 * (p.n.names.length : Nat)⟩, p.a, p.cap⟩
theorem mkN_len (q : Int) (p : Np) : (mkN q p).n.names.length = p.n.names.length := by simp [mkN, markDL_len]
theorem mkN_v (q : Int) (p : Np) : (mkN q p).v = p.v := by
 unfold Np.v
 rw [mkN_len]
 rfl
/-- The mark that inode j begins with. -/
def kqI (q : Int) (M : List Np) : Nat → Int
 | 0 => q
 | j + 1 => kqI q M j + 8 + 2 * ((M.getD j ndE.z).n.names.length : Nat)
def mkAt (q : Int) (M : List Np) (j : Nat) : Np := mkN (kqI q M j) (M.getD j ndE.z)
def markNL (q : Int) (M : List Np) : Nat → List Np
 | 0 => M
 | j + 1 => (markNL q M j).set j (mkAt q M j)
theorem markNL_len (q : Int) (M : List Np) (j : Nat) : (markNL q M j).length = M.length := by
 induction j with
 | zero => rfl
 | succ j ih => simp [markNL, ih]
theorem markNL_get (q : Int) (M : List Np) (n i : Nat) (hi : i < n) (hL : i < (markNL q M n).length) : (markNL q M n)[i] = mkAt q M i := by
 induction n with
 | zero => omega
 | succ n ih =>
  simp only [markNL, List.getElem_set]
  split
  ·rename_i h; subst h; rfl
  ·exact ih (by omega) (by rw [markNL_len] at hL ⊢; exact hL)
theorem markNL_late (q : Int) (M : List Np) (n i : Nat) (hi : n ≤ i) (hL : i < (markNL q M n).length) : (markNL q M n)[i] = M[i]'(by rw [markNL_len] at hL; exact hL) := by
 induction n with
 | zero => rfl
 | succ n ih =>
  simp only [markNL, List.getElem_set]
  rw [if_neg (by omega)]
  exact ih (by omega) (by rw [markNL_len] at hL ⊢; exact hL)
theorem getD_at {M : List Np} {j : Nat} (h : j < M.length) : M.getD j ndE.z = M[j] := by simp [List.getD_eq_getElem?_getD, h]
theorem mkAt_v {q : Int} {M : List Np} {j : Nat} (h : j < M.length) : (mkAt q M j).v = M[j].v := by
 unfold mkAt
 rw [mkN_v, getD_at h]
theorem markNL_v (q : Int) (M : List Np) (n i : Nat) (hL : i < (markNL q M n).length) : (markNL q M n)[i].v = (M[i]'(by rw [markNL_len] at hL; exact hL)).v := by
 by_cases h : i < n
 ·rw [markNL_get q M n i h hL, mkAt_v (by rw [markNL_len] at hL; exact hL)]
 ·rw [markNL_late q M n i (by omega) hL]
theorem getD_names {M : List Np} (h : ∀ p ∈ M, p.n.names.length ≤ 12) (j : Nat) : (M.getD j ndE.z).n.names.length ≤ 12 := by
 by_cases hj : j < M.length
 ·rw [getD_at hj]; exact h _ (List.getElem_mem hj)
 ·rw [List.getD_eq_getElem?_getD, List.getElem?_eq_none (by omega)]
  simp [ndE, ndZ]
theorem kqI_bd {q : Int} {M : List Np} (h : ∀ p ∈ M, p.n.names.length ≤ 12) (j : Nat) : q ≤ kqI q M j ∧ kqI q M j ≤ q + 32 * j := by
 induction j with
 | zero => simp [kqI]
 | succ j ih =>
  have := getD_names h j
  simp only [kqI]
  omega
/-- Rows of inodes and rows of names lie in blocks of two kinds. -/
theorem own_apart {α β : Type} {E : Enc α} {F : Enc β} {T U : TypeId} (hTU : T ≠ U) {w : World} {B C : Nat} {u v : Value} {L : List α} {M : List β} (h : Own E T w B u L) (k : Own F U w C v M) {g : Nat} (hu : u.ownBlock = some g) (hv : v.ownBlock = some g) : False := by
 rcases h.2 with ⟨h0, _⟩ | ⟨g1, cap1, cur1, h1, _, hg1, _⟩
 ·rw [h0] at hu; cases hu
 ·rcases k.2 with ⟨k0, _⟩ | ⟨g2, cap2, cur2, k1, _, hg2, _⟩
  ·rw [k0] at hv; cases hv
  ·rw [h1] at hu
   rw [k1] at hv
   obtain rfl : g1 = g := by simpa [Value.ownBlock] using hu
   obtain rfl : g2 = g1 := by simpa [Value.ownBlock] using hv
   rw [hg1] at hg2
   simp only [Option.some.injEq, Obj.cells.injEq] at hg2
   exact hTU hg2.2.1
theorem ownsRow_belowM {w w' : World} {base : Nat} {e : TypeId} {size : Nat} {v : Value} {n : Nat} {xs : List Value} (h : w.ownsRow base e size v n xs) (hb : Below w.heap.size w w') : w'.ownsRow base e size v n xs := by
 refine ⟨h.1, ?_⟩
 rcases h.2 with hn | ⟨g, cap, cur, rfl, hg, hgg, rest⟩
 ·exact .inl hn
 ·exact .inr ⟨g, cap, cur, rfl, hg, (hb.block g (Array.getElem?_eq_some_iff.1 hgg).1).trans hgg, rest⟩
theorem set_same {α : Type} {xs : List α} {i : Nat} {v : α} (h : xs[i]? = some v) : xs.set i v = xs := by
 apply List.ext_getElem?
 intro q
 rw [List.getElem?_set]
 by_cases hq : i = q
 ·subst hq
  have hl : i < xs.length := (List.getElem?_eq_some_iff.1 h).1
  rw [if_pos rfl, if_pos hl, h]
 ·rw [if_neg hq]
/-- All cells of an element but the seventh are stored: with the seventh as it was the element is stored. -/
theorem set9 (S : List Np) (j : Nat) (h : j < S.length) (e : Np) (hv : e.v = S[j].v) :
  ndE.f (S.set j e) = (((((((((ndE.f S).set (j * 9) (.int .i64 e.n.id)).set (j * 9 + 1) (.int .i64 e.n.kind)).set (j * 9 + 2) (.int .i64 e.n.mode)).set (j * 9 + 3) (.int .i64 e.n.uid)).set (j * 9 + 4) (.int .i64 e.n.gid)).set (j * 9 + 5) (.string e.n.data)).set (j * 9 + 7) (.int .i64 e.n.maxb)).set (j * 9 + 8) (.int .i64 e.n.maxi)) := by
 rw [Enc.f_set ndE S j e h]
 have h6 : ((((((((ndE.f S).set (j * 9) (.int .i64 e.n.id)).set (j * 9 + 1) (.int .i64 e.n.kind)).set (j * 9 + 2) (.int .i64 e.n.mode)).set (j * 9 + 3) (.int .i64 e.n.uid)).set (j * 9 + 4) (.int .i64 e.n.gid)).set (j * 9 + 5) (.string e.n.data)))[j * 9 + 6]? = some e.v := by
  rw [List.getElem?_set_ne (by omega), List.getElem?_set_ne (by omega), List.getElem?_set_ne (by omega), List.getElem?_set_ne (by omega), List.getElem?_set_ne (by omega), List.getElem?_set_ne (by omega)]
  have := ndE.f_at S j h 6 (by decide)
  rw [show ndE.n = 9 from rfl] at this
  rw [this, hv]
  rfl
 show setL (ndE.f S) (j * 9) [.int .i64 e.n.id, .int .i64 e.n.kind, .int .i64 e.n.mode, .int .i64 e.n.uid, .int .i64 e.n.gid, .string e.n.data, e.v, .int .i64 e.n.maxb, .int .i64 e.n.maxi] = _
 simp only [setL, Nat.add_assoc, Nat.reduceAdd]
 rw [set_same h6]
/-- So far marked: j inodes. -/
structure MkS (w : World) (base top g n cap : Nat) (q : Int) (M : List Np) (j : Nat) (wr : World) : Prop where
 own : Own ndE 76 wr base (.slice (some ⟨g, 0, none⟩) n cap) (markNL q M j)
 nms : ∀ i (h : i < (markNL q M j).length), Own diE 102 wr base (markNL q M j)[i].v (markNL q M j)[i].n.names
 bel : Only (fun k => base ≤ k ∧ k < top) w wr
set_option maxRecDepth 100000 in
set_option maxHeartbeats 8000000 in
theorem markN_any (M : List Np) (v : Value) (base top : Nat) (q : Int) (w : World) (hb : base ≤ w.heap.size) (ho : VolO w base v M) (hi : Inc M) (htv : ∀ k, v.ownBlock = some k → k < top) (htn : ∀ p ∈ M, ∀ k, p.v.ownBlock = some k → k < top) (hl : M.length ≤ 24) (hn : ∀ p ∈ M, p.n.names.length ≤ 12) (h1 : 1 ≤ q) (h2 : q ≤ 4000) :
  Calls Tryz.prog 16 #[v, .int .i64 q] w fun e w' => e = .returned (.int .i64 (kqI q M M.length)) ∧ VolO w' base v (markNL q M M.length) ∧ Only (fun k => base ≤ k ∧ k < top) w w' := by
 rcases ho.own.look with ⟨rfl, rfl⟩ | ⟨g, cap, rfl, hg1, hg2, hc1, hc2⟩
 ·go_enter Tryz.func16, Tryz.ntmps16
  go_wp2
  refine wp_loop_rounds 1 ?_
  rw [rounds_succ]
  go_wp2
  go_ret
  exact ⟨rfl, ⟨Own.nil _ _, fun p hp => by cases hp⟩, Only.refl _ _⟩
 ·obtain ⟨n, hnn⟩ : ∃ n, M.length = n := ⟨_, rfl⟩
  have HN := Hid.intro hnn
  have HI := Hid.intro hi
  have HNM := Hid.intro hn
  have HTN := Hid.intro htn
  have htg := htv g rfl
  have HKB : Hid (∀ j, q ≤ kqI q M j ∧ kqI q M j ≤ q + 32 * j) := fun j => kqI_bd hn j
  have HS0 : Hid (MkS w base top g n cap q M 0 w) := ⟨by rw [← hnn]; exact ho.own, fun i hi => ho.nms _ (List.getElem_mem hi), Only.refl _ _⟩
  rw [hnn] at hl hc1 ⊢
  clear ho hi hn hnn htv htn
  go_enter Tryz.func16, Tryz.ntmps16
  go_wp2
  go_loopw [1, 5] (fun x i wr => ∃ (j : Nat) (q0 : Int), i = .int .i64 j ∧ x = .int .i64 q0 ∧ Hid (q0 = kqI q M j) ∧ j ≤ n ∧ Hid (MkS w base top g n cap q M j wr)) (fun _ i _ => n - (intOf i).toNat)
  case atStart => exact ⟨0, q, rfl, rfl, rfl, Nat.zero_le _, HS0⟩
  case round =>
   obtain ⟨j, q0, rfl, rfl, HQ, hj, HS⟩ := hrel
   have hkb := HKB.out j
   have hq0 : 1 ≤ q0 ∧ q0 ≤ 4000 + 32 * 24 := by have := HQ.out; omega
   clear hkb
   by_cases hlt : j < n
   ·have HML : Hid ((markNL q M j).length = n) := by unfold Hid; rw [markNL_len]; exact HN.out
    have hjM : j < M.length := by have := HN.out; omega
    have hjS : j < (markNL q M j).length := by have := HML.out; omega
    obtain ⟨p, hp⟩ : ∃ p, M[j] = p := ⟨_, rfl⟩
    have hSj : (markNL q M j)[j] = p := by rw [markNL_late q M j j (Nat.le_refl _) hjS, hp]
    have hat : mkAt q M j = mkN q0 p := by unfold mkAt; rw [getD_at hjM, hp, ← HQ.out]
    have hkn : kqI q M (j + 1) = q0 + 8 + 2 * (p.n.names.length : Nat) := by
     simp only [kqI]
     rw [getD_at hjM, hp, ← HQ.out]
    have hpn : p.n.names.length ≤ 12 := by rw [← hp]; exact HNM.out _ (List.getElem_mem hjM)
    have hop := HS.out.nms j hjS
    rw [hSj] at hop
    have HOP := Hid.intro hop
    have hgne : ∀ k, p.v.ownBlock = some k → k ≠ g := fun k hk e => own_apart (T := 76) (U := 102) (by decide) HS.out.own hop rfl (e ▸ hk)
    have HGN := Hid.intro hgne
    have hgw : g < wr.heap.size := (HS.out.own.lt g rfl).2
    have HG := Hid.intro hgw
    have c6 := HS.out.own.at j hjS 6 (by decide)
    rw [hSj] at c6
    obtain ⟨y0, a0⟩ := HS.out.own.has HML.out hlt (i := 0) (by decide)
    obtain ⟨y1, a1⟩ := HS.out.own.has HML.out hlt (i := 1) (by decide)
    obtain ⟨y2, a2⟩ := HS.out.own.has HML.out hlt (i := 2) (by decide)
    obtain ⟨y3, a3⟩ := HS.out.own.has HML.out hlt (i := 3) (by decide)
    obtain ⟨y4, a4⟩ := HS.out.own.has HML.out hlt (i := 4) (by decide)
    obtain ⟨y5, a5⟩ := HS.out.own.has HML.out hlt (i := 5) (by decide)
    obtain ⟨y7, a7⟩ := HS.out.own.has HML.out hlt (i := 7) (by decide)
    obtain ⟨y8, a8⟩ := HS.out.own.has HML.out hlt (i := 8) (by decide)
    simp only [Nat.add_zero, show ndE.n = 9 from rfl] at a0 a1 a2 a3 a4 a5 a7 a8 c6
    replace c6 : wr.cell? ⟨g, j * 9 + 6, none⟩ = some p.v := c6
    have f0 := HS.out.own.frozen HML.out
    have hbs : base ≤ wr.heap.size := Nat.le_trans hb HS.out.bel.size
    have HSJ := Hid.intro hSj
    have HAT := Hid.intro hat
    have HKN := Hid.intro hkn
    have HP := Hid.intro hp
    have HJS := Hid.intro hjS
    have HPN := Hid.intro hpn
    clear hSj hat hkn hp hop hgne hpn
    obtain ⟨WA, hWA⟩ : ∃ WA, WA = (((((wr.setCell ⟨g, j * 9, none⟩ (.int .i64 (q0))).setCell ⟨g, j * 9 + 1, none⟩ (.int .i64 (q0 + 1))).setCell ⟨g, j * 9 + 2, none⟩ (.int .i64 (q0 + 1 + 1))).setCell ⟨g, j * 9 + 3, none⟩ (.int .i64 (q0 + 1 + 1 + 1))).setCell ⟨g, j * 9 + 4, none⟩ (.int .i64 (q0 + 1 + 1 + 1 + 1))) := ⟨_, rfl⟩
    have ownA : Hid (WA.ownsRow base 76 9 (.slice (some ⟨g, 0, none⟩) n cap) n ((((((ndE.f (markNL q M j)).set (j * 9) (.int .i64 (q0))).set (j * 9 + 1) (.int .i64 (q0 + 1))).set (j * 9 + 2) (.int .i64 (q0 + 1 + 1))).set (j * 9 + 3) (.int .i64 (q0 + 1 + 1 + 1))).set (j * 9 + 4) (.int .i64 (q0 + 1 + 1 + 1 + 1)))) := by
     unfold Hid
     rw [hWA]
     have h0 : wr.ownsRow base 76 9 (.slice (some ⟨g, 0, none⟩) n cap) n (ndE.f (markNL q M j)) := by
      have := HS.out.own
      unfold Own at this
      rw [HML.out] at this
      exact this
     exact (World.ownsRow.stored (World.ownsRow.stored (World.ownsRow.stored (World.ownsRow.stored (World.ownsRow.stored h0 _ _).1 _ _).1 _ _).1 _ _).1 _ _).1
    have onA : Hid (Only (fun k => k = g) wr WA) := by
     unfold Hid
     rw [hWA]
     exact (((((Only.refl (fun k => k = g) wr).setCell (p := ⟨g, j * 9, none⟩) rfl _).setCell (p := ⟨g, j * 9 + 1, none⟩) rfl _).setCell (p := ⟨g, j * 9 + 2, none⟩) rfl _).setCell (p := ⟨g, j * 9 + 3, none⟩) rfl _).setCell (p := ⟨g, j * 9 + 4, none⟩) rfl _
    have r5 : WA.cell? ⟨g, j * 9 + 5, none⟩ = some y5 := by rw [hWA]; simp [go_sem, a5]
    have r6 : WA.cell? ⟨g, j * 9 + 6, none⟩ = some p.v := by rw [hWA]; simp [go_sem, c6]
    have r7 : WA.cell? ⟨g, j * 9 + 7, none⟩ = some y7 := by rw [hWA]; simp [go_sem, a7]
    have r8 : WA.cell? ⟨g, j * 9 + 8, none⟩ = some y8 := by rw [hWA]; simp [go_sem, a8]
    have rf : ∀ o, WA.frozen? ⟨g, o, none⟩ = false := fun o => by rw [hWA]; simp [f0]
    have gA : g < WA.heap.size := by rw [hWA]; simpa using hgw
    go_upto_region 14 with fail
    simp only [← hWA]
    clear hWA a0 a1 a2 a3 a4 a5 a7 a8 c6 f0
    go_wp2_with fail
    refine (markText_int _ _ (by omega) (by omega)).mono ?_
    rintro e w1 ⟨rfl, b1⟩
    replace r5 := (b1.cell (p := ⟨g, j * 9 + 5, none⟩) gA).trans r5
    replace r6 := (b1.cell (p := ⟨g, j * 9 + 6, none⟩) gA).trans r6
    replace r7 := (b1.cell (p := ⟨g, j * 9 + 7, none⟩) gA).trans r7
    replace r8 := (b1.cell (p := ⟨g, j * 9 + 8, none⟩) gA).trans r8
    replace rf : ∀ o, w1.frozen? ⟨g, o, none⟩ = false := fun o => (b1.frozen (p := ⟨g, o, none⟩) gA).trans (rf o)
    have g1' : g < w1.heap.size := Nat.lt_of_lt_of_le gA b1.size
    have own1 := Hid.intro (World.ownsRow.stored (ownsRow_belowM ownA.out b1) (j * 9 + 5) (.string (markI (q0 + 1 + 1 + 1 + 1 + 1)))).1
    have on1 : Hid (Only (fun k => k = g) wr (w1.setCell ⟨g, j * 9 + 5, none⟩ (.string (markI (q0 + 1 + 1 + 1 + 1 + 1))))) := (onA.out.trans (Below.any b1)).setCell (p := ⟨g, j * 9 + 5, none⟩) rfl _
    clear b1 ownA onA
    go_upto_region 16 with fail
    obtain ⟨W1, hW1⟩ : ∃ W1, W1 = w1.setCell ⟨g, j * 9 + 5, none⟩ (.string (markI (q0 + 1 + 1 + 1 + 1 + 1))) := ⟨_, rfl⟩
    simp only [← hW1] at own1 on1 ⊢
    have s6 : W1.cell? ⟨g, j * 9 + 6, none⟩ = some p.v := by rw [hW1]; simp [go_sem, r6]
    have s7 : W1.cell? ⟨g, j * 9 + 7, none⟩ = some y7 := by rw [hW1]; simp [go_sem, r7]
    have s8 : W1.cell? ⟨g, j * 9 + 8, none⟩ = some y8 := by rw [hW1]; simp [go_sem, r8]
    have sf : ∀ o, W1.frozen? ⟨g, o, none⟩ = false := fun o => by rw [hW1]; simp [rf]
    have gW : g < W1.heap.size := by rw [hW1]; simpa using g1'
    clear hW1 r5 r6 r7 r8 rf g1' gA
    have hop1 : Hid (Own diE 102 W1 base p.v p.n.names) := HOP.out.only on1.out HGN.out
    have hbW : base ≤ W1.heap.size := Nat.le_trans hbs on1.out.size
    go_wp2_with fail
    refine (markD_any p.n.names p.v base _ W1 hbW hop1.out (by have := HPN.out; omega) (by omega) (by omega)).mono ?_
    rintro e w2 ⟨rfl, o2, q2⟩
    have t7 := (q2.cell (b := g) (o := j * 9 + 7) gW (fun h => HGN.out g h.symm rfl)).trans s7
    have t8 := (q2.cell (b := g) (o := j * 9 + 8) gW (fun h => HGN.out g h.symm rfl)).trans s8
    have tf : ∀ o, w2.frozen? ⟨g, o, none⟩ = false := fun o => (q2.frozen (b := g) (o := o) gW (fun h => HGN.out g h.symm rfl)).trans (sf o)
    have O2 := Hid.intro o2
    have Q2 := Hid.intro q2
    have ownB : Hid (w2.ownsRow base 76 9 (.slice (some ⟨g, 0, none⟩) n cap) n (((((((ndE.f (markNL q M j)).set (j * 9) (.int .i64 (q0))).set (j * 9 + 1) (.int .i64 (q0 + 1))).set (j * 9 + 2) (.int .i64 (q0 + 1 + 1))).set (j * 9 + 3) (.int .i64 (q0 + 1 + 1 + 1))).set (j * 9 + 4) (.int .i64 (q0 + 1 + 1 + 1 + 1))).set (j * 9 + 5) (.string (markI (q0 + 1 + 1 + 1 + 1 + 1))))) := by
     unfold Hid
     refine ⟨own1.out.1, ?_⟩
     rcases own1.out.2 with hn | ⟨g', cap', cur, hv, hg, hgg, rest⟩
     ·exact .inl hn
     ·have hgg' : g' = g := by simp only [Value.slice.injEq, Option.some.injEq, Addr.mk.injEq, and_true, true_and] at hv; exact hv.1.symm
      exact .inr ⟨g', cap', cur, hv, hg, (q2.block g' (by rw [hgg']; exact gW) (by rw [hgg']; exact fun h => HGN.out g h.symm rfl)).trans hgg, rest⟩
    clear s6 s7 s8 sf own1 o2 q2 hop1
    have hfin : Hid (∀ a b : Int, a = q0 + 6 + 2 * (p.n.names.length : Nat) → b = q0 + 7 + 2 * (p.n.names.length : Nat) → MkS w base top g n cap q M (j + 1) ((w2.setCell ⟨g, j * 9 + 7, none⟩ (.int .i64 a)).setCell ⟨g, j * 9 + 8, none⟩ (.int .i64 b))) := by
     intro a b ha hb2
     subst ha hb2
     have hset : markNL q M (j + 1) = (markNL q M j).set j (mkN q0 p) := by rw [markNL, HAT.out]
     have hO2 : Only (fun k => some k = p.v.ownBlock ∨ k = g) wr ((w2.setCell ⟨g, j * 9 + 7, none⟩ (.int .i64 (q0 + 6 + 2 * (p.n.names.length : Nat)))).setCell ⟨g, j * 9 + 8, none⟩ (.int .i64 (q0 + 7 + 2 * (p.n.names.length : Nat)))) := (((on1.out.mono (fun k _ h => Or.inr h)).trans (Q2.out.mono (fun k _ h => Or.inl h))).setCell (p := ⟨g, j * 9 + 7, none⟩) (.inr rfl) _).setCell (p := ⟨g, j * 9 + 8, none⟩) (.inr rfl) _
     have hOg : Only (fun k => k = g) w2 ((w2.setCell ⟨g, j * 9 + 7, none⟩ (.int .i64 (q0 + 6 + 2 * (p.n.names.length : Nat)))).setCell ⟨g, j * 9 + 8, none⟩ (.int .i64 (q0 + 7 + 2 * (p.n.names.length : Nat)))) := ((Only.refl (fun k => k = g) w2).setCell (p := ⟨g, j * 9 + 7, none⟩) rfl _).setCell (p := ⟨g, j * 9 + 8, none⟩) rfl _
     refine ⟨?_, ?_, ?_⟩
     ·have hx := (World.ownsRow.stored (World.ownsRow.stored ownB.out (j * 9 + 7) (.int .i64 (q0 + 6 + 2 * (p.n.names.length : Nat)))).1 (j * 9 + 8) (.int .i64 (q0 + 7 + 2 * (p.n.names.length : Nat)))).1
      have he := set9 (markNL q M j) j HJS.out (mkN q0 p) (by rw [mkN_v, HSJ.out])
      unfold Own
      rw [markNL_len, HN.out, hset, he]
      simp only [mkN]
      simp only [Int.add_assoc, Int.reduceAdd] at hx ⊢
      exact hx
     ·intro i hi2
      by_cases hij : i = j
      ·subst hij
       have e1 : (markNL q M (i + 1))[i] = mkN q0 p := by rw [markNL_get q M (i + 1) i (by omega) hi2, HAT.out]
       rw [e1, mkN_v]
       have h3 := O2.out.only hOg HGN.out
       simp only [mkN]
       have h4 : markDL (q0 + 6) p.n.names p.n.names.length = markDL (q0 + 1 + 1 + 1 + 1 + 1 + 1) p.n.names p.n.names.length := by
        rw [show q0 + 6 = q0 + 1 + 1 + 1 + 1 + 1 + 1 by omega]
       rw [h4]
       exact h3
      ·have hi3 : i < (markNL q M j).length := by rw [markNL_len] at hi2 ⊢; exact hi2
       have e1 : (markNL q M (j + 1))[i] = (markNL q M j)[i] := by simp only [markNL]; rw [List.getElem_set_ne (by omega)]
       rw [e1]
       refine (HS.out.nms i hi3).only hO2 (fun k hk h => ?_)
       have hkM := markNL_v q M j i hi3
       rw [hkM] at hk
       rcases h with h | h
       ·have hjM : j < M.length := by have := HN.out; omega
        have hiM : i < M.length := by rw [markNL_len] at hi3; exact hi3
        have hpv : M[j].v.ownBlock = some k := by rw [HP.out]; exact h.symm
        rcases Nat.lt_or_gt_of_ne hij with hc | hc
        ·have := HI.out i j hc hjM k k hk hpv; omega
        ·have := HI.out j i hc hiM k k hpv hk; omega
       ·have hnn := HS.out.nms i hi3
        rw [hkM] at hnn
        exact own_apart (T := 76) (U := 102) (by decide) HS.out.own hnn rfl (h ▸ hk)
     ·refine HS.out.bel.then hO2 (fun k hk h => ?_)
      rcases h with h | h
      ·have h5 := HTN.out M[j] (List.getElem_mem hjM) k (by rw [HP.out]; exact h.symm)
       exact ⟨(HOP.out.lt k h.symm).1, h5⟩
      ·have h5 := (HS.out.own.lt g rfl).1
       exact ⟨by omega, by omega⟩
    have hpn := HPN.out
    clear HS HOP O2 Q2 ownB on1 HGN HSJ HAT HP HJS HML
    go_wp2
    go_roundw
    case rel => exact ⟨j + 1, q0 + 8 + 2 * (p.n.names.length : Nat), by go_num, by go_num, HKN.out.symm, by omega, hfin.out _ _ (by omega) (by omega)⟩
    case measure => simp [intOf]; omega
   ·obtain rfl : j = n := by omega
    have HV : Hid (VolO wr base (.slice (some ⟨g, 0, none⟩) j cap) (markNL q M j)) := ⟨HS.out.own, fun p hp => by
     obtain ⟨i, hi, rfl⟩ := List.mem_iff_getElem.1 hp
     exact HS.out.nms i hi⟩
    have HBE := Hid.intro HS.out.bel
    clear HS
    have hqe : q0 = kqI q M j := HQ.out
    go_wp2
    go_ret
    exact ⟨ret_int hqe, HV.out, HBE.out⟩
end Go.Proofs.YtknckbedddeijaaGreat
namespace Go.Proofs.YtknckbedddeijaaGreat
open Go.RowKit
set_option linter.unusedVariables false
set_option maxRecDepth 100000 in
set_option maxHeartbeats 8000000 in
theorem heldN_any (P M : List Np) (v : Value) (N : Nat) (q : Int) (w : World) (hN : N ≤ w.heap.size) (hr : VolR w N v P) (hP : ∀ i (h : i < P.length), P[i] = mkAt q M i) (hl : P.length ≤ 24) (hn : ∀ p ∈ M, p.n.names.length ≤ 12) (h1 : 1 ≤ q) (h2 : q ≤ 4000) :
  Calls Tryz.prog 19 #[v, .int .i64 q] w fun e w' => e = .returned (.int .i64 (kqI q M P.length)) ∧ Below w.heap.size w w' := by
 obtain ⟨a, cap, rfl, lc, hm, hcells⟩ := ndE_cell hr.row
 have HC := Hid.intro hcells
 have HP := Hid.intro hP
 have HR := Hid.intro hr.nms
 have HKB : Hid (∀ j, q ≤ kqI q M j ∧ kqI q M j ≤ q + 32 * j) := fun j => kqI_bd hn j
 have HD : Hid (∀ j, (M.getD j ndE.z).n.names.length ≤ 12) := fun j => getD_names hn j
 clear hcells hP hr hn
 go_enter Tryz.func19, Tryz.ntmps19
 go_wp2
 go_loopw [1, 5] (fun x i wr => ∃ (j : Nat) (q0 : Int), i = .int .i64 j ∧ x = .int .i64 q0 ∧ Hid (q0 = kqI q M j) ∧ j ≤ P.length ∧ Hid (Below w.heap.size w wr)) (fun _ i _ => P.length - (intOf i).toNat)
 case atStart => exact ⟨0, q, rfl, rfl, rfl, Nat.zero_le _, Below.refl _ _⟩
 case round =>
  obtain ⟨j, q0, rfl, rfl, HQ, hj, HB⟩ := hrel
  have hkb := HKB.out j
  have hq0 : 1 ≤ q0 ∧ q0 ≤ 4000 + 32 * 24 := by have := HQ.out; omega
  clear hkb
  by_cases hlt : j < P.length
  ·obtain ⟨b, off, rfl, hbN, hcc⟩ := HC.out (by intro h; rw [h] at hlt; simp at hlt)
   have hc := hcc j hlt
   have hrj := HR.out _ (List.getElem_mem hlt)
   have hat : P[j] = mkN q0 (M.getD j ndE.z) := by rw [HP.out j hlt]; unfold mkAt; rw [← HQ.out]
   have hpn := HD.out j
   have hkn : kqI q M (j + 1) = q0 + 8 + 2 * ((M.getD j ndE.z).n.names.length : Nat) := by simp only [kqI]; rw [← HQ.out]
   rw [hat] at hc hrj
   generalize M.getD j ndE.z = p at hc hrj hpn hkn
   have hln := mkN_len q0 p
   obtain ⟨c0, c1, c2, c3, c4, c5, c6, c7, c8⟩ := hc.kept HB.out (by omega)
   have HRJ := Hid.intro (hrj.kept (HB.out.mono hN))
   have HKN := Hid.intro hkn
   have hs := HB.out.size
   have d0 : wr.cell? ⟨b, off + j * 9, none⟩ = some (.int .i64 q0) := c0
   have d1 : wr.cell? ⟨b, off + j * 9 + 1, none⟩ = some (.int .i64 (q0 + 1)) := c1
   have d2 : wr.cell? ⟨b, off + j * 9 + 2, none⟩ = some (.int .i64 (q0 + 1 + 1)) := by rw [c2]; simp only [mkN, Int.add_assoc, Int.reduceAdd]
   have d3 : wr.cell? ⟨b, off + j * 9 + 3, none⟩ = some (.int .i64 (q0 + 1 + 1 + 1)) := by rw [c3]; simp only [mkN, Int.add_assoc, Int.reduceAdd]
   have d4 : wr.cell? ⟨b, off + j * 9 + 4, none⟩ = some (.int .i64 (q0 + 1 + 1 + 1 + 1)) := by rw [c4]; simp only [mkN, Int.add_assoc, Int.reduceAdd]
   have d5 : wr.cell? ⟨b, off + j * 9 + 5, none⟩ = some (.string (markI (q0 + 1 + 1 + 1 + 1 + 1))) := by rw [c5]; simp only [mkN, Int.add_assoc, Int.reduceAdd]
   have d6 : wr.cell? ⟨b, off + j * 9 + 6, none⟩ = some (mkN q0 p).v := c6
   have d7 : wr.cell? ⟨b, off + j * 9 + 7, none⟩ = some (.int .i64 (q0 + 1 + 1 + 1 + 1 + 1 + 1 + 2 * (p.n.names.length : Nat))) := by rw [c7]; simp only [mkN, Int.add_assoc, Int.reduceAdd]
   have d8 : wr.cell? ⟨b, off + j * 9 + 8, none⟩ = some (.int .i64 (q0 + 1 + 1 + 1 + 1 + 1 + 1 + 2 * (p.n.names.length : Nat) + 1)) := by
    rw [c8]
    have e : q0 + 7 + 2 * (p.n.names.length : Nat) = q0 + 1 + 1 + 1 + 1 + 1 + 1 + 2 * (p.n.names.length : Nat) + 1 := by omega
    simp only [mkN, e]
   have HX : Hid (∀ w', Below wr.heap.size wr w' → w'.cell? ⟨b, off + j * 9 + 5, none⟩ = some (.string (markI (q0 + 1 + 1 + 1 + 1 + 1))) ∧ w'.cell? ⟨b, off + j * 9 + 6, none⟩ = some (mkN q0 p).v ∧ w'.cell? ⟨b, off + j * 9 + 7, none⟩ = some (.int .i64 (q0 + 1 + 1 + 1 + 1 + 1 + 1 + 2 * (p.n.names.length : Nat))) ∧ w'.cell? ⟨b, off + j * 9 + 8, none⟩ = some (.int .i64 (q0 + 1 + 1 + 1 + 1 + 1 + 1 + 2 * (p.n.names.length : Nat) + 1))) := fun w' hb => ⟨atCell hb d5 (by omega), atCell hb d6 (by omega), atCell hb d7 (by omega), atCell hb d8 (by omega)⟩
   have i1 : (0 : Int) ≤ (j : Int) ∧ (j : Int) < (P.length : Int) := by omega
   have i2 : (j : Int) < (P.length : Int) := by omega
   clear hcc hc hrj hat hkn c0 c1 c2 c3 c4 c5 c6 c7 c8
   go_upto_region 19 with fail
   clear d0 d1 d2 d3 d4
   go_cut [64] from 6 to 93 (fun s wc => s = .bool false ∧ Below wr.heap.size wr wc)
   case first =>
    clear d6 d7 d8
    go_region_with (go_at_call 35; refine (markText_int _ _ (by omega) (by omega)).mono ?_; rintro e w1 ⟨rfl, b1⟩; have x0 := (HX.out w1 (by first | exact b1 | exact ((Below.refl _ _).drew).trans b1)).1; have B1 : Below wr.heap.size wr w1 := (by first | exact b1 | exact ((Below.refl _ _).drew).trans b1); clear b1)
    all_goals
     clear HX d5
     go_wp2_with fail
     go_meet
     case rel => exact ⟨rfl, B1⟩
   case rest =>
   obtain ⟨rfl, bc⟩ := hcut
   clear d5 d6 d7 d8
   obtain ⟨d5, d6, d7, d8⟩ := HX.out wc bc
   have hbc := bc.size
   have HBC : Hid (Below w.heap.size w wc) := HB.out.trans (bc.mono hs)
   have HRC := Hid.intro (HRJ.out.kept (bc.mono (show N ≤ wr.heap.size by omega)))
   clear HX HB HRJ d5
   go_wp2_with fail
   refine (heldD_any (mkN q0 p).n.names (mkN q0 p).v N (q0 + 1 + 1 + 1 + 1 + 1 + 1) wc (by omega) HRC.out (fun i hi => ?_) (by rw [hln]; omega) (by omega) (by omega)).mono ?_
   ·have e : (mkN q0 p).n.names = markDL (q0 + 1 + 1 + 1 + 1 + 1 + 1) p.n.names p.n.names.length := by
     show markDL (q0 + 6) p.n.names p.n.names.length = _
     rw [show q0 + 6 = q0 + 1 + 1 + 1 + 1 + 1 + 1 by omega]
    simp only [e] at hi ⊢
    exact markDL_get _ _ _ i (by rw [markDL_len] at hi; exact hi) hi
   rintro e w1 ⟨rfl, b1⟩
   rw [hln]
   replace d7 := atCell b1 d7 (by omega)
   replace d8 := atCell b1 d8 (by omega)
   have HBF : Hid (Below w.heap.size w w1) := HBC.out.trans (b1.mono (by omega))
   clear d6 b1 HRC HBC
   go_wp2_with fail
   go_roundw
   case rel => exact ⟨j + 1, q0 + 8 + 2 * (p.n.names.length : Nat), by go_num, by go_num, HKN.out.symm, by omega, HBF⟩
   case measure => simp [intOf]; omega
  ·obtain rfl : j = P.length := by omega
   have hqe : q0 = kqI q M P.length := HQ.out
   go_wp2
   go_ret
   exact ⟨ret_int hqe, HB.out⟩
end Go.Proofs.YtknckbedddeijaaGreat
namespace Go.Proofs.YtknckbedddeijaaGreat
open Go.RowKit
set_option linter.unusedVariables false
theorem nodeB_names {L : List Nd} {n : Nd} (h : nodeB L n = true) : n.names.length ≤ 12 := by
 unfold nodeB at h
 simp only [Bool.and_eq_true] at h
 obtain ⟨_, h⟩ := h
 split at h
 ·simp only [Bool.and_eq_true, plainB, decide_eq_true_eq] at h
  omega
 ·split at h
  ·simp only [Bool.and_eq_true, plainB, decide_eq_true_eq] at h
   omega
  ·split at h
   ·simp only [Bool.and_eq_true, decide_eq_true_eq] at h
    omega
   ·cases h
theorem volB_bd {next : Int} {L : List Nd} (h : volB next L = true) : L.length ≤ 24 ∧ ∀ n ∈ L, n.names.length ≤ 12 := by
 unfold volB at h
 simp only [Bool.and_eq_true] at h
 obtain ⟨⟨⟨⟨⟨⟨_, h2⟩, _⟩, h4⟩, _⟩, _⟩, _⟩ := h
 refine ⟨?_, fun n hn => nodeB_names (indB_mem L h4 n hn)⟩
 have : (1 : Int) ≤ (L.length : Int) ∧ (L.length : Int) ≤ 24 := by simpa [inB] using h2
 omega
end Go.Proofs.YtknckbedddeijaaGreat
namespace Go.Proofs.YtknckbedddeijaaGreat
open Go.RowKit
set_option linter.unusedVariables false
/-- How great the lists of a right tenant are. -/
structure Gd (t : Ten) : Prop where
 inc : Inc t.L
 l : t.L.length ≤ 24
 n : ∀ p ∈ t.L, p.n.names.length ≤ 12
 a : t.A.length ≤ 20
 s : t.S.length ≤ 3
/-- A tenant's memory, from base to top; that of its volume from v0 to v1. -/
structure TenM (w : World) (base top v0 v1 : Nat) (t : Ten) : Prop where
 lo : base ≤ v0
 mid : v0 ≤ v1
 hi : v1 ≤ top
 vol : VolO w v0 t.u t.L
 vt : ∀ k, t.u.ownBlock = some k → k < v1
 vn : ∀ p ∈ t.L, ∀ k, p.v.ownBlock = some k → k < v1
 aud : Own ntE 55 w base t.va t.A
 ses : Own seE 61 w base t.vs t.S
 at' : ∀ k, t.va.ownBlock = some k → k < top ∧ ¬ (v0 ≤ k ∧ k < v1)
 st : ∀ k, t.vs.ownBlock = some k → k < top ∧ ¬ (v0 ≤ k ∧ k < v1)
theorem TenM.own {w : World} {base top v0 v1 : Nat} {t : Ten} (h : TenM w base top v0 v1 t) : TenO w base t := ⟨h.vol.lower h.lo, h.aud, h.ses⟩
theorem TenM.kept {w w' : World} {base top v0 v1 : Nat} {t : Ten} (h : TenM w base top v0 v1 t) (hb : Below w.heap.size w w') : TenM w' base top v0 v1 t :=
 ⟨h.lo, h.mid, h.hi, h.vol.kept hb, h.vt, h.vn, h.aud.kept hb, h.ses.kept hb, h.at', h.st⟩
def endT (q : Int) (t : Ten) : Int := kqI q t.L t.L.length + 5 * (t.A.length : Nat) + 5 * (t.S.length : Nat)
/-- A tenant that is marked from q on. -/
structure MkR (w : World) (N : Nat) (q : Int) (t : Ten) : Prop where
 vol : VolR w N t.u (markNL q t.L t.L.length)
 aud : Row ntE w N t.va (markTL (kqI q t.L t.L.length) t.A t.A.length)
 ses : Row seE w N t.vs (markSL (kqI q t.L t.L.length + 5 * (t.A.length : Nat)) t.S t.S.length)
theorem MkR.kept {w w' : World} {N : Nat} {q : Int} {t : Ten} (h : MkR w N q t) (hb : Below N w w') : MkR w' N q t := ⟨h.vol.kept hb, h.aud.kept hb, h.ses.kept hb⟩
theorem MkR.up {w : World} {N N' : Nat} {q : Int} {t : Ten} (h : MkR w N q t) (hN : N ≤ N') : MkR w N' q t := ⟨h.vol.up hN, h.aud.up hN, h.ses.up hN⟩
theorem MkR.on {w w' : World} {q : Int} {t : Ten} (h : MkR w w.heap.size q t) (hb : Below w.heap.size w w') : MkR w' w'.heap.size q t := (h.kept hb).up hb.size
theorem VolO.at' {w w' : World} {base : Nat} {S : Nat → Prop} {u : Value} {M : List Np} (h : VolO w base u M) (hb : Only S w w') (h1 : ∀ k, u.ownBlock = some k → ¬ S k) (h2 : ∀ p ∈ M, ∀ k, p.v.ownBlock = some k → ¬ S k) : VolO w' base u M := ⟨h.own.only hb h1, fun p hp => (h.nms p hp).only hb (h2 p hp)⟩
theorem endT_bd {q : Int} {t : Ten} (hg : Gd t) (h1 : 1 ≤ q) (h2 : q ≤ 3000) : (1 ≤ kqI q t.L t.L.length ∧ kqI q t.L t.L.length ≤ 3900) ∧ (1 ≤ endT q t ∧ endT q t ≤ 5000) := by
 have hk := kqI_bd (q := q) hg.n t.L.length
 have := hg.l
 have := hg.a
 have := hg.s
 unfold endT
 omega
end Go.Proofs.YtknckbedddeijaaGreat
namespace Go.Proofs.YtknckbedddeijaaGreat
open Go.RowKit
set_option linter.unusedVariables false
def endU (q : Int) (t : Ten) : Int := kqI (q + 1) t.L t.L.length + 1 + 5 * (t.A.length : Nat) + 5 * (t.S.length : Nat)
/-- A tenant that is marked from q on. -/
def mkU (q : Int) (t : Ten) : Ten := ⟨q, markNL (q + 1) t.L t.L.length, t.ua, t.uc, kqI (q + 1) t.L t.L.length, markTL (kqI (q + 1) t.L t.L.length + 1) t.A t.A.length, t.aa, t.ac, markSL (kqI (q + 1) t.L t.L.length + 1 + 5 * (t.A.length : Nat)) t.S t.S.length, t.sa, t.sc⟩
theorem mkU_u (q : Int) (t : Ten) : (mkU q t).u = t.u := by simp only [Ten.u, mkU, markNL_len]
theorem mkU_va (q : Int) (t : Ten) : (mkU q t).va = t.va := by simp only [Ten.va, mkU, markTL_len]
theorem mkU_vs (q : Int) (t : Ten) : (mkU q t).vs = t.vs := by simp only [Ten.vs, mkU, markSL_len]
def qAt (q : Int) (L : List Ten) : Nat → Int
 | 0 => q
 | j + 1 => endU (qAt q L j) (L.getD j tnE.z)
def markUL (q : Int) (L : List Ten) : Nat → List Ten
 | 0 => L
 | j + 1 => (markUL q L j).set j (mkU (qAt q L j) (L.getD j tnE.z))
theorem markUL_len (q : Int) (L : List Ten) (j : Nat) : (markUL q L j).length = L.length := by
 induction j with
 | zero => rfl
 | succ j ih => simp [markUL, ih]
theorem getD_ten {L : List Ten} {j : Nat} (h : j < L.length) : L.getD j tnE.z = L[j] := by simp [List.getD_eq_getElem?_getD, h]
theorem markUL_get (q : Int) (L : List Ten) (n i : Nat) (hi : i < n) (hL : i < (markUL q L n).length) : (markUL q L n)[i] = mkU (qAt q L i) (L.getD i tnE.z) := by
 induction n with
 | zero => omega
 | succ n ih =>
  simp only [markUL, List.getElem_set]
  split
  ·rename_i h; subst h; rfl
  ·exact ih (by omega) (by rw [markUL_len] at hL ⊢; exact hL)
theorem markUL_late (q : Int) (L : List Ten) (n i : Nat) (hi : n ≤ i) (hL : i < (markUL q L n).length) : (markUL q L n)[i] = L[i]'(by rw [markUL_len] at hL; exact hL) := by
 induction n with
 | zero => rfl
 | succ n ih =>
  simp only [markUL, List.getElem_set]
  rw [if_neg (by omega)]
  exact ih (by omega) (by rw [markUL_len] at hL ⊢; exact hL)
/-- One cell of one element is stored. -/
theorem Enc.f_put {α : Type} (E : Enc α) (M : List α) (j i : Nat) (hj : j < M.length) (hi : i < E.n) (u : Value) (e : α) (he : E.c e = (E.c M[j]).set i u) : E.f (M.set j e) = (E.f M).set (j * E.n + i) u := by
 apply List.ext_getElem?
 intro q
 rw [List.getElem?_set]
 by_cases hq : q < M.length * E.n
 ·obtain ⟨p, i', hp, hi', rfl, e2⟩ := E.place M q hq
  rw [E.f_at (M.set j e) p (by simpa using hp) i' hi']
  have hlen : j * E.n + i < (E.f M).length := by
   rw [E.f_len]
   have := Nat.mul_le_mul_right E.n (show j + 1 ≤ M.length from hj)
   rw [Nat.add_mul, Nat.one_mul] at this
   omega
  by_cases hjp : j = p
  ·subst hjp
   rw [List.getElem_set_self, he, List.getElem?_set, e2]
   by_cases hii : i = i'
   ·subst hii
    rw [if_pos rfl, if_pos rfl, if_pos (by rw [E.len]; exact hi), if_pos hlen]
   ·rw [if_neg hii, if_neg (by omega)]
  ·rw [List.getElem_set_ne hjp, e2, if_neg]
   intro hc
   rcases Nat.lt_or_gt_of_ne hjp with hlt | hlt
   ·have := Nat.mul_le_mul_right E.n (show j + 1 ≤ p from hlt)
    rw [Nat.add_mul, Nat.one_mul] at this; omega
   ·have := Nat.mul_le_mul_right E.n (show p + 1 ≤ j from hlt)
    rw [Nat.add_mul, Nat.one_mul] at this; omega
 ·rw [List.getElem?_eq_none (by rw [E.f_len, List.length_set]; omega), List.getElem?_eq_none (by rw [E.f_len]; omega)]
  split <;> (try split) <;> first | rfl | (rename_i h1 h2; rw [E.f_len] at h2; omega)
theorem Own.put1 {α : Type} {E : Enc α} {T : TypeId} {w : World} {base g cap n j : Nat} {M : List α} (h : Own E T w base (.slice (some ⟨g, 0, none⟩) n cap) M) (hn : M.length = n) (hj : j < M.length) (i : Nat) (hi : i < E.n) (u : Value) (e : α) (he : E.c e = (E.c M[j]).set i u) :
  Own E T (w.setCell ⟨g, j * E.n + i, none⟩ u) base (.slice (some ⟨g, 0, none⟩) n cap) (M.set j e) := by
 unfold Own at h ⊢
 rw [List.length_set, hn, E.f_put M j i hj hi u e he]
 rw [hn] at h
 exact (World.ownsRow.stored h (j * E.n + i) u).1
theorem Own.same {α : Type} {E : Enc α} {T : TypeId} {w : World} {base j : Nat} {v : Value} {M : List α} {a b : α} (h : Own E T w base v (M.set j a)) (hj : j < M.length) (he : E.c a = E.c b) : Own E T w base v (M.set j b) := by
 unfold Own at h ⊢
 rw [E.f_set M j b hj, ← he, ← E.f_set M j a hj, List.length_set]
 rw [List.length_set] at h
 exact h
theorem TenM.onlyR {w w' : World} {b t v0 v1 : Nat} {x : Ten} {S : Nat → Prop} (h : TenM w b t v0 v1 x) (ho : Only S w w') (hs : ∀ k, b ≤ k → k < t → ¬ S k) : TenM w' b t v0 v1 x :=
 ⟨h.lo, h.mid, h.hi, ⟨h.vol.own.only ho (fun k hk => hs k (by have := (h.vol.own.lt k hk).1; have := h.lo; omega) (by have := h.vt k hk; have := h.hi; omega)), fun p hp => (h.vol.nms p hp).only ho (fun k hk => hs k (by have := ((h.vol.nms p hp).lt k hk).1; have := h.lo; omega) (by have := h.vn p hp k hk; have := h.hi; omega))⟩, h.vt, h.vn, h.aud.only ho (fun k hk => hs k (h.aud.lt k hk).1 (h.at' k hk).1), h.ses.only ho (fun k hk => hs k (h.ses.lt k hk).1 (h.st k hk).1), h.at', h.st⟩
/-- A state's memory: the i-th tenant's from b i to t i. -/
structure StM (w : World) (base : Nat) (v : Value) (L : List Ten) (b t v0 v1 : Nat → Nat) : Prop where
 own : Own tnE 36 w base v L
 ten : ∀ i (h : i < L.length), TenM w (b i) (t i) (v0 i) (v1 i) L[i]
 low : ∀ i, i < L.length → base ≤ b i
 top : ∀ i, i < L.length → t i ≤ w.heap.size
 dis : ∀ i j, i < L.length → j < L.length → i ≠ j → ∀ k, b i ≤ k → k < t i → ¬ (b j ≤ k ∧ k < t j)
 row : ∀ k, v.ownBlock = some k → ∀ i, i < L.length → ¬ (b i ≤ k ∧ k < t i)
theorem StM.kept {w w' : World} {base : Nat} {v : Value} {L : List Ten} {b t v0 v1 : Nat → Nat} (h : StM w base v L b t v0 v1) (hb : Below w.heap.size w w') : StM w' base v L b t v0 v1 :=
 ⟨h.own.kept hb, fun i hi => (h.ten i hi).kept hb, h.low, fun i hi => Nat.le_trans (h.top i hi) hb.size, h.dis, h.row⟩
theorem StM.rowAll {w : World} {base : Nat} {v : Value} {L : List Ten} {b t v0 v1 : Nat → Nat} (h : StM w base v L b t v0 v1) : StR w w.heap.size v L :=
 ⟨h.own.rowAll, fun x hx => by obtain ⟨i, hi, rfl⟩ := List.getElem_of_mem hx; exact (h.ten i hi).own.rowAll⟩
/-- The blocks of a state. -/
def StB (v : Value) (n : Nat) (b t : Nat → Nat) (k : Nat) : Prop := v.ownBlock = some k ∨ ∃ i, i < n ∧ b i ≤ k ∧ k < t i
set_option maxRecDepth 100000 in
set_option maxHeartbeats 16000000 in
theorem markTenantS_any (L : List Ten) (v : Value) (base : Nat) (b t v0 v1 : Nat → Nat) (q : Int) (w : World) (ho : StM w base v L b t v0 v1) (hg : ∀ x ∈ L, Gd x) (h1 : 1 ≤ q) (hq : ∀ i, i < L.length → 1 ≤ qAt q L i ∧ qAt q L i ≤ 3000) :
  Calls Tryz.prog 7 #[v, .int .i64 q] w fun e w' => e = .returned (.int .i64 (qAt q L L.length)) ∧ StM w' base v (markUL q L L.length) b t v0 v1 ∧ Only (StB v L.length b t) w w' := by
 rcases ho.own.look with ⟨rfl, rfl⟩ | ⟨g, cap, rfl, hg1, hg2, hc1, hc2⟩
 ·go_enter Tryz.func7, Tryz.ntmps7
  go_wp2
  refine wp_loop_rounds 1 ?_
  rw [rounds_succ]
  go_wp2
  go_ret
  exact ⟨rfl, ho, Only.refl _ _⟩
 ·obtain ⟨n, hn⟩ : ∃ n, L.length = n := ⟨_, rfl⟩
  have HO := Hid.intro ho
  have HN := Hid.intro hn
  have HQ := Hid.intro hq
  have HG := Hid.intro hg
  have HROW : Hid (∀ i, i < n → ¬ (b i ≤ g ∧ g < t i)) := fun i hi => ho.row g rfl i (by omega)
  rw [hn] at hc1 HO ⊢
  clear ho hn hq hg
  go_enter Tryz.func7, Tryz.ntmps7
  go_wp2
  go_loopw [1, 5] (fun x i wr => ∃ (j : Nat), i = .int .i64 j ∧ x = .int .i64 (qAt q L j) ∧ j ≤ n ∧ Hid (StM wr base (.slice (some ⟨g, 0, none⟩) n cap) (markUL q L j) b t v0 v1) ∧ Hid (Only (StB (.slice (some ⟨g, 0, none⟩) n cap) n b t) w wr)) (fun _ i _ => n - (intOf i).toNat)
  case atStart => exact ⟨0, rfl, rfl, Nat.zero_le _, HO, Only.refl _ _⟩
  case round =>
   obtain ⟨j, rfl, rfl, hj, HR, hO⟩ := hrel
   by_cases hlt : j < n
   ·have hml : (markUL q L j).length = n := by rw [markUL_len]; exact HN.out
    have HML := Hid.intro hml
    have hjL : j < L.length := by have := HN.out; omega
    have hjM : j < (markUL q L j).length := by omega
    have hx0 : (markUL q L j)[j] = L[j] := markUL_late q L j j (Nat.le_refl _) hjM
    have hgd := HG.out L[j] (List.getElem_mem hjL)
    have htm := HR.out.ten j hjM
    rw [hx0] at htm
    have hqj := HQ.out j hjL
    have hnext : qAt q L (j + 1) = endU (qAt q L j) L[j] := by rw [qAt, getD_ten hjL]
    have hmset : markUL q L (j + 1) = (markUL q L j).set j (mkU (qAt q L j) L[j]) := by rw [markUL, getD_ten hjL]
    generalize hq0 : qAt q L j = q0 at hqj hnext hmset ⊢
    generalize hx : L[j] = x at hx0 hgd htm hnext hmset
    have hgw : g < wr.heap.size := (HR.out.own.lt g rfl).2
    have hcl : ∀ i (hi : i < 5), wr.cell? ⟨g, j * 5 + i, none⟩ = (tnE.c x)[i]? := fun i hi => by have := HR.out.own.at j hjM i hi; rw [hx0] at this; exact this
    have q0c : wr.cell? ⟨g, j * 5, none⟩ = some (.int .i64 x.nx) := hcl 0 (by omega)
    have q1c : wr.cell? ⟨g, j * 5 + 1, none⟩ = some (.slice x.ua x.L.length x.uc) := hcl 1 (by omega)
    have q2c : wr.cell? ⟨g, j * 5 + 2, none⟩ = some (.int .i64 x.tk) := hcl 2 (by omega)
    have q3c : wr.cell? ⟨g, j * 5 + 3, none⟩ = some (.slice x.aa x.A.length x.ac) := hcl 3 (by omega)
    have q4c : wr.cell? ⟨g, j * 5 + 4, none⟩ = some (.slice x.sa x.S.length x.sc) := hcl 4 (by omega)
    have fr : ∀ o, wr.frozen? ⟨g, o, none⟩ = false := HR.out.own.frozen hml
    have hkb := kqI_bd (q := q0 + 1) hgd.n x.L.length
    have hl24 := hgd.l
    have ha20 := hgd.a
    have hs3 := hgd.s
    have HK0 : Hid (endU q0 x = kqI (q0 + 1) x.L x.L.length + 1 + 5 * (x.A.length : Nat) + 5 * (x.S.length : Nat)) := rfl
    have HMU : Hid (mkU q0 x = ⟨q0, markNL (q0 + 1) x.L x.L.length, x.ua, x.uc, kqI (q0 + 1) x.L x.L.length, markTL (kqI (q0 + 1) x.L x.L.length + 1) x.A x.A.length, x.aa, x.ac, markSL (kqI (q0 + 1) x.L x.L.length + 1 + 5 * (x.A.length : Nat)) x.S x.S.length, x.sa, x.sc⟩) := rfl
    have hqa := hqj.1
    have hqb := hqj.2
    have hgb : ¬ (b j ≤ g ∧ g < t j) := HROW.out j hlt
    have HTM := Hid.intro htm
    have hlo := htm.lo
    have hmid := htm.mid
    have hhi := htm.hi
    have HGD := Hid.intro hgd
    have HOW : Hid (Own tnE 36 wr base (.slice (some ⟨g, 0, none⟩) n cap) (markUL q L j)) := HR.out.own
    have HX0 := Hid.intro hx0
    have HNX := Hid.intro hnext
    have HMS := Hid.intro hmset
    have htop := HR.out.top j hjM
    clear hml hq0 hx hcl hqj htm hgd hx0 hnext hmset
    obtain ⟨K, hK⟩ : ∃ K, kqI (q0 + 1) x.L x.L.length = K := ⟨_, rfl⟩
    rw [hK] at hkb HK0 HMU
    have HK := Hid.intro hK
    clear hK
    -- the first number
    obtain ⟨V1, hV1⟩ : ∃ V1, V1 = wr.setCell ⟨g, j * 5, none⟩ (.int .i64 q0) := ⟨_, rfl⟩
    have o1 : Only (fun k => k = g) wr V1 := by rw [hV1]; exact (Only.refl (fun k => k = g) wr).setCell (p := ⟨g, j * 5, none⟩) rfl _
    have HO1 : Hid (Own tnE 36 V1 base (.slice (some ⟨g, 0, none⟩) n cap) ((markUL q L j).set j ⟨q0, x.L, x.ua, x.uc, x.tk, x.A, x.aa, x.ac, x.S, x.sa, x.sc⟩)) := by
     unfold Hid; rw [hV1]
     have := HOW.out.put1 HML.out hjM 0 (by decide) (.int .i64 q0) ⟨q0, x.L, x.ua, x.uc, x.tk, x.A, x.aa, x.ac, x.S, x.sa, x.sc⟩ (by rw [HX0.out]; rfl)
     exact this
    have HT1 : Hid (TenM V1 (b j) (t j) (v0 j) (v1 j) x) := HTM.out.onlyR o1 (fun k h1 h2 e => hgb (by rw [← e]; exact ⟨h1, h2⟩))
    have r1 : V1.cell? ⟨g, j * 5 + 1, none⟩ = some (.slice x.ua x.L.length x.uc) := by rw [hV1]; simp [go_sem, q1c]
    have r2 : V1.cell? ⟨g, j * 5 + 2, none⟩ = some (.int .i64 x.tk) := by rw [hV1]; simp [go_sem, q2c]
    have r3 : V1.cell? ⟨g, j * 5 + 3, none⟩ = some (.slice x.aa x.A.length x.ac) := by rw [hV1]; simp [go_sem, q3c]
    have r4 : V1.cell? ⟨g, j * 5 + 4, none⟩ = some (.slice x.sa x.S.length x.sc) := by rw [hV1]; simp [go_sem, q4c]
    have fr1 : ∀ o, V1.frozen? ⟨g, o, none⟩ = false := fun o => by rw [hV1]; simp [fr]
    have z1 := o1.size
    have OB : Hid (Only (fun k => k = g ∨ (b j ≤ k ∧ k < t j)) wr V1) := o1.mono (fun k _ h => .inl h)
    have hgV1 : g < V1.heap.size := Nat.lt_of_lt_of_le hgw z1
    go_upto_region 6 with fail
    simp only [← hV1]
    clear hV1 q0c q1c q2c q3c q4c fr o1 HTM HOW
    go_wp2_with fail
    clear r1
    refine (markN_any x.L x.u (v0 j) (v1 j) (q0 + 1) V1 (by omega) HT1.out.vol HGD.out.inc HT1.out.vt HT1.out.vn HGD.out.l HGD.out.n (by omega) (by omega)).mono ?_
    rintro e w1 ⟨rfl, p1, n1⟩
    rw [HK.out]
    have z2 := n1.size
    have hgv : ¬ (v0 j ≤ g ∧ g < v1 j) := fun h => hgb ⟨by omega, by omega⟩
    replace r2 := (n1.cell (o := j * 5 + 2) hgV1 hgv).trans r2
    replace r3 := (n1.cell (o := j * 5 + 3) hgV1 hgv).trans r3
    replace r4 := (n1.cell (o := j * 5 + 4) hgV1 hgv).trans r4
    have fr2 : ∀ o, w1.frozen? ⟨g, o, none⟩ = false := fun o => (n1.frozen hgV1 hgv).trans (fr1 o)
    have HO2 := Hid.intro (HO1.out.only n1 (fun k hk h => by simp [Value.ownBlock] at hk; subst hk; exact hgv h))
    have HA2 : Hid (Own ntE 55 w1 (b j) x.va x.A) := HT1.out.aud.only n1 (fun k hk h => (HT1.out.at' k hk).2 ⟨h.1, h.2⟩)
    have HS2 : Hid (Own seE 61 w1 (b j) x.vs x.S) := HT1.out.ses.only n1 (fun k hk h => (HT1.out.st k hk).2 ⟨h.1, h.2⟩)
    replace OB : Hid (Only (fun k => k = g ∨ (b j ≤ k ∧ k < t j)) wr w1) := OB.out.trans (n1.mono (fun k _ h => .inr ⟨by omega, by omega⟩))
    have HV2 := Hid.intro p1
    have hgw1 : g < w1.heap.size := Nat.lt_of_lt_of_le hgV1 z2
    clear p1 n1 HO1 fr1
    -- the second number
    obtain ⟨V2, hV2⟩ : ∃ V2, V2 = w1.setCell ⟨g, j * 5 + 2, none⟩ (.int .i64 K) := ⟨_, rfl⟩
    have o2 : Only (fun k => k = g) w1 V2 := by rw [hV2]; exact (Only.refl (fun k => k = g) w1).setCell (p := ⟨g, j * 5 + 2, none⟩) rfl _
    have HO3 : Hid (Own tnE 36 V2 base (.slice (some ⟨g, 0, none⟩) n cap) ((markUL q L j).set j ⟨q0, x.L, x.ua, x.uc, K, x.A, x.aa, x.ac, x.S, x.sa, x.sc⟩)) := by
     unfold Hid; rw [hV2]
     have := HO2.out.put1 (by rw [List.length_set]; exact HML.out) (by rw [List.length_set]; exact hjM) 2 (by decide) (.int .i64 K) ⟨q0, x.L, x.ua, x.uc, K, x.A, x.aa, x.ac, x.S, x.sa, x.sc⟩ (by rw [List.getElem_set_self]; rfl)
     rw [List.set_set] at this
     exact this
    have s3 : V2.cell? ⟨g, j * 5 + 3, none⟩ = some (.slice x.aa x.A.length x.ac) := by rw [hV2]; simp [go_sem, r3]
    have s4 : V2.cell? ⟨g, j * 5 + 4, none⟩ = some (.slice x.sa x.S.length x.sc) := by rw [hV2]; simp [go_sem, r4]
    have fr3 : ∀ o, V2.frozen? ⟨g, o, none⟩ = false := fun o => by rw [hV2]; simp [fr2]
    have z3 := o2.size
    have hng : ∀ k, b j ≤ k → k < t j → ¬ k = g := fun k h1 h2 e => hgb (by rw [← e]; exact ⟨h1, h2⟩)
    have HV3 : Hid (VolO V2 (v0 j) x.u (markNL (q0 + 1) x.L x.L.length)) := HV2.out.at' o2 (fun k hk => hng k (by have := (HV2.out.own.lt k hk).1; omega) (by have := HT1.out.vt k hk; omega)) (fun p hp k hk => hng k (by have := ((HV2.out.nms p hp).lt k hk).1; omega) (by
     obtain ⟨i, hi, rfl⟩ := List.getElem_of_mem hp
     rw [markNL_v] at hk
     have := HT1.out.vn _ (List.getElem_mem (show i < x.L.length by rw [markNL_len] at hi; exact hi)) k hk
     omega))
    have HA3 : Hid (Own ntE 55 V2 (b j) x.va x.A) := HA2.out.only o2 (fun k hk => hng k (HA2.out.lt k hk).1 (HT1.out.at' k hk).1)
    have HS3 : Hid (Own seE 61 V2 (b j) x.vs x.S) := HS2.out.only o2 (fun k hk => hng k (HS2.out.lt k hk).1 (HT1.out.st k hk).1)
    replace OB : Hid (Only (fun k => k = g ∨ (b j ≤ k ∧ k < t j)) wr V2) := OB.out.trans (o2.mono (fun k _ h => .inl h))
    have hgV2 : g < V2.heap.size := Nat.lt_of_lt_of_le hgw1 z3
    go_upto_region 9 with fail
    simp only [← hV2]
    clear hV2 r2 r3 r4 fr2 o2 HO2 HV2 HA2 HS2
    go_wp2_with fail
    clear s3
    refine (markNoteS_any x.A x.va (b j) (K + 1) V2 (by omega) HA3.out (by omega) (by omega) (by omega)).mono ?_
    rintro e w2 ⟨rfl, p2, n2⟩
    have z4 := n2.size
    have hgn : ¬ some g = x.va.ownBlock := fun h => hng g (HA3.out.lt g h.symm).1 (HT1.out.at' g h.symm).1 rfl
    replace s4 := (n2.cell (o := j * 5 + 4) hgV2 hgn).trans s4
    have fr4 : ∀ o, w2.frozen? ⟨g, o, none⟩ = false := fun o => (n2.frozen hgV2 hgn).trans (fr3 o)
    have HO4 := Hid.intro (HO3.out.only n2 (fun k hk h => by simp [Value.ownBlock] at hk; subst hk; exact hgn h))
    have HV4 : Hid (VolO w2 (v0 j) x.u (markNL (q0 + 1) x.L x.L.length)) := HV3.out.at' n2 (fun k hk h => own_apart (T := 76) (U := 55) (by decide) HV3.out.own HA3.out hk h.symm) (fun p hp k hk h => own_apart (T := 102) (U := 55) (by decide) (HV3.out.nms p hp) HA3.out hk h.symm)
    have HS4 : Hid (Own seE 61 w2 (b j) x.vs x.S) := HS3.out.only n2 (fun k hk h => own_apart (T := 61) (U := 55) (by decide) HS3.out HA3.out hk h.symm)
    replace OB : Hid (Only (fun k => k = g ∨ (b j ≤ k ∧ k < t j)) wr w2) := OB.out.trans (n2.mono (fun k _ h => .inr ⟨(HA3.out.lt k h.symm).1, (HT1.out.at' k h.symm).1⟩))
    have HA4 := Hid.intro p2
    have hgw2 : g < w2.heap.size := Nat.lt_of_lt_of_le hgV2 z4
    clear p2 n2 HO3 HV3 HA3 HS3 fr3
    go_wp2_with fail
    clear s4
    refine (markSessionS_any x.S x.vs (b j) (K + 1 + 5 * (x.A.length : Nat)) w2 (by omega) HS4.out (by omega) (by omega) (by omega)).mono ?_
    rintro e w3 ⟨rfl, p3, n3⟩
    have hgs : ¬ some g = x.vs.ownBlock := fun h => hng g (HS4.out.lt g h.symm).1 (HT1.out.st g h.symm).1 rfl
    have HO5 : Hid (Own tnE 36 w3 base (.slice (some ⟨g, 0, none⟩) n cap) (markUL q L (j + 1))) := by
     have h := HO4.out.only n3 (fun k hk h => by simp [Value.ownBlock] at hk; subst hk; exact hgs h)
     unfold Hid
     rw [HMS.out]
     refine h.same hjM ?_
     rw [HMU.out]
     simp only [tnE, markNL_len, markTL_len, markSL_len]
    have HV5 : Hid (VolO w3 (v0 j) x.u (markNL (q0 + 1) x.L x.L.length)) := HV4.out.at' n3 (fun k hk h => own_apart (T := 76) (U := 61) (by decide) HV4.out.own HS4.out hk h.symm) (fun p hp k hk h => own_apart (T := 102) (U := 61) (by decide) (HV4.out.nms p hp) HS4.out hk h.symm)
    have HA5 : Hid (Own ntE 55 w3 (b j) x.va (markTL (K + 1) x.A x.A.length)) := HA4.out.only n3 (fun k hk h => own_apart (T := 55) (U := 61) (by decide) HA4.out HS4.out hk h.symm)
    replace OB : Hid (Only (fun k => k = g ∨ (b j ≤ k ∧ k < t j)) wr w3) := OB.out.trans (n3.mono (fun k _ h => .inr ⟨(HS4.out.lt k h.symm).1, (HT1.out.st k h.symm).1⟩))
    have hz3 := n3.size
    have HTJ : Hid (TenM w3 (b j) (t j) (v0 j) (v1 j) (mkU q0 x)) := by
     have e1 := mkU_u q0 x
     have e2 := mkU_va q0 x
     have e3 := mkU_vs q0 x
     refine ⟨hlo, hmid, hhi, ?_, ?_, ?_, ?_, ?_, ?_, ?_⟩
     ·rw [e1, HMU.out]; exact HV5.out
     ·rw [e1]; exact HT1.out.vt
     ·intro p hp k hk
      rw [HMU.out] at hp
      obtain ⟨i, hi, rfl⟩ := List.getElem_of_mem hp
      rw [markNL_v] at hk
      exact HT1.out.vn _ (List.getElem_mem (show i < x.L.length by rw [markNL_len] at hi; exact hi)) k hk
     ·rw [e2, HMU.out]; exact HA5.out
     ·rw [e3, HMU.out]; exact p3
     ·rw [e2]; exact HT1.out.at'
     ·rw [e3]; exact HT1.out.st
    have HST : Hid (StM w3 base (.slice (some ⟨g, 0, none⟩) n cap) (markUL q L (j + 1)) b t v0 v1) := by
     have hln : (markUL q L (j + 1)).length = (markUL q L j).length := by rw [markUL_len, markUL_len]
     have hsz := OB.out.size
     refine ⟨HO5.out, fun i hi => ?_, fun i hi => HR.out.low i (by omega), fun i hi => by have := HR.out.top i (by omega); omega, fun i i2 hi hi2 => HR.out.dis i i2 (by omega) (by omega), fun k hk i hi => HR.out.row k hk i (by omega)⟩
     by_cases hij : i = j
     ·subst hij
      have : (markUL q L (i + 1))[i] = mkU q0 x := by simp only [HMS.out, List.getElem_set_self]
      rw [this]
      exact HTJ.out
     ·have : (markUL q L (j + 1))[i] = (markUL q L j)[i]'(by omega) := by simp only [HMS.out]; rw [List.getElem_set_ne (by omega)]
      rw [this]
      refine (HR.out.ten i (by omega)).onlyR OB.out (fun k h1 h2 h3 => ?_)
      rcases h3 with h3 | h3
      ·subst h3
       have h4 := HML.out
       exact HROW.out i (by omega) ⟨h1, h2⟩
      ·exact HR.out.dis i j (by omega) hjM hij k h1 h2 h3
    have HOW : Hid (Only (StB (.slice (some ⟨g, 0, none⟩) n cap) n b t) w w3) := hO.out.trans (OB.out.mono (fun k _ h => by
     rcases h with h | h
     ·exact .inl (by rw [h]; rfl)
     ·exact .inr ⟨j, hlt, h⟩))
    clear n3 p3 HO4 HV4 HA4 HS4 HO5 HV5 HA5 OB HTJ fr4
    go_wp2
    go_roundw
    case rel => exact ⟨j + 1, by go_num, by rw [HNX.out, HK0.out], by omega, HST, HOW⟩
    case measure => simp [intOf]; omega
   ·obtain rfl : j = n := by omega
    go_wp2
    go_ret
    exact ⟨rfl, HR.out, hO.out⟩
end Go.Proofs.YtknckbedddeijaaGreat
namespace Go.Proofs.YtknckbedddeijaaGreat
open Go.RowKit
set_option linter.unusedVariables false
theorem TnO.top {w : World} {B g3 : Nat} {t : Ten} (h : TnO w B g3 t) (hB : B ≤ w.heap.size) : TenM w B w.heap.size B (min g3 w.heap.size) t :=
 have hlt := h.lt
 ⟨Nat.le_refl _, by omega, by omega, h.vol, fun k hk => by have := h.vt k hk; have := (h.vol.own.lt k hk).2; omega, fun p hp k hk => by have := h.vn p hp k hk; have := ((h.vol.nms p hp).lt k hk).2; omega, h.aud.lower (by omega), h.ses.lower (by omega), fun k hk => by have := h.aud.lt k hk; omega, fun k hk => by have := h.ses.lt k hk; omega⟩
/-- So many tenants from the front on, and what is left. -/
noncomputable def insTsO : Nat → List UInt8 → Option (List (Int × List Nd × Int × List Nt × List Se) × List UInt8)
 | 0, l => some ([], l)
 | n + 1, l => (insTO l).bind fun a => (insTsO n a.2).bind fun d => some (a.1 :: d.1, d.2)
theorem insTsO_no {n : Nat} {l : List UInt8} (hn : 0 < n) (h : insTO l = none) : insTsO n l = none := by
 obtain ⟨m, rfl⟩ : ∃ m, n = m + 1 := ⟨n - 1, by omega⟩
 simp only [insTsO, h, Option.bind_none]
theorem insTsO_yes {n : Nat} {l q : List UInt8} {x : Int × List Nd × Int × List Nt × List Se} (hn : 0 < n) (h : insTO l = some (x, q)) : insTsO n l = (insTsO (n - 1) q).map fun y => (x :: y.1, y.2) := by
 obtain ⟨m, rfl⟩ : ∃ m, n = m + 1 := ⟨n - 1, by omega⟩
 simp only [insTsO, h, Option.bind_some, Nat.add_sub_cancel]
 cases insTsO m q <;> rfl
theorem StM.onlyL {w w' : World} {base : Nat} {v : Value} {L : List Ten} {b t v0 v1 : Nat → Nat} {S : Nat → Prop} (h : StM w base v L b t v0 v1) (ho : Only S w w') (hs : ∀ k, base ≤ k → ¬ S k) : StM w' base v L b t v0 v1 :=
 ⟨h.own.only ho (fun k hk => hs k (h.own.lt k hk).1), fun i hi => (h.ten i hi).onlyR ho (fun k h1 _ => hs k (by have := h.low i hi; omega)), h.low, fun i hi => Nat.le_trans (h.top i hi) ho.size, h.dis, h.row⟩
/-- One more tenant behind a state; its memory lies from lo on. -/
theorem StM.put {wr w1 w9 : World} {base lo X0 X1 : Nat} {v v' : Value} {M : List Ten} {b t v0 v1 : Nat → Nat} {x : Ten} (h : StM w1 base v M b t v0 v1) (htop : ∀ i, i < M.length → t i ≤ lo) (hvr : ∀ k, v.ownBlock = some k → k < lo) (hx : TenM w1 lo w1.heap.size X0 X1 x)
  (ho : Only (fun k => some k = v.ownBlock) w1 w9) (hown : Own tnE 36 w9 base v' (M ++ [x])) (hloc : ∀ k, v'.ownBlock = some k → v.ownBlock = some k ∨ w1.heap.size ≤ k) (hbase : base ≤ lo) (hlo : lo ≤ w1.heap.size) :
  StM w9 base v' (M ++ [x]) (fun i => if i = M.length then lo else b i) (fun i => if i = M.length then w1.heap.size else t i) (fun i => if i = M.length then X0 else v0 i) (fun i => if i = M.length then X1 else v1 i) := by
 have s3 := ho.size
 refine ⟨hown, fun i hi => ?_, fun i hi => ?_, fun i hi => ?_, fun i j hi hj hij k h1 h2 h3 => ?_, fun k hk i hi h3 => ?_⟩
 ·by_cases e : i = M.length
  ·subst e
   simp only [if_true, List.getElem_concat_length]
   exact hx.onlyR ho (fun k h1 h2 e => by have := hvr k e.symm; omega)
  ·have hi2 : i < M.length := by simp at hi; omega
   simp only [if_neg e, List.getElem_append_left hi2]
   exact (h.ten i hi2).onlyR ho (fun k h1 h2 e => h.row k e.symm i hi2 ⟨h1, h2⟩)
 ·by_cases e : i = M.length
  ·simp only [if_pos e]; exact hbase
  ·simp only [if_neg e]; exact h.low i (by simp at hi; omega)
 ·by_cases e : i = M.length
  ·simp only [if_pos e]; omega
  ·simp only [if_neg e]; have := h.top i (by simp at hi; omega); omega
 ·simp only [List.length_append, List.length_singleton] at hi hj
  by_cases e1 : i = M.length
  ·simp only [if_pos e1] at h1 h2
   simp only [if_neg (show ¬ j = M.length by omega)] at h3
   have := htop j (by omega)
   omega
  ·simp only [if_neg e1] at h1 h2
   by_cases e2 : j = M.length
   ·simp only [if_pos e2] at h3
    have := htop i (by omega)
    omega
   ·simp only [if_neg e2] at h3
    exact h.dis i j (by omega) (by omega) hij k h1 h2 h3
 ·simp only [List.length_append, List.length_singleton] at hi
  rcases hloc k hk with hk | hk
  ·by_cases e : i = M.length
   ·simp only [if_pos e] at h3
    have := hvr k hk
    omega
   ·simp only [if_neg e] at h3
    exact h.row k hk i (by omega) h3
  ·by_cases e : i = M.length
   ·simp only [if_pos e] at h3
    omega
   ·simp only [if_neg e] at h3
    have := h.top i (by omega)
    omega
/-- A state, whole. -/
noncomputable def staO (l : List UInt8) : Option (List (Int × List Nd × Int × List Nt × List Se) × List UInt8) := insTsO 3 l
def StaC (b : Nat) (q : ByteArray) (w : World) (e : Ending) (w' : World) : Prop :=
 (∃ (v : Value) (L : List Ten) (bb tt v0 v1 : Nat → Nat) (q' : ByteArray), e = .returned v ∧ Hid (staO q.data.toList = some (L.map Ten.key, q'.data.toList)) ∧ Hid (StM w' w.heap.size v L bb tt v0 v1) ∧ CurAt w' b q' ∧ q'.size ≤ 1048576 ∧ L.length = 3 ∧ Hid (∀ x ∈ L, Inc x.L ∧ TenW x) ∧ Only (fun k => k = b) w w') ∨ (Lack e ∧ Hid (staO q.data.toList = none) ∧ Only (fun k => k = b) w w')
set_option maxRecDepth 100000 in
set_option maxHeartbeats 8000000 in
theorem stateC_any (b : Nat) (q0 : ByteArray) (w : World) (hc : CurAt w b q0) (s0 : q0.size ≤ 1048576) :
  Calls Tryz.prog 13 #[.pointer (some ⟨b, 0, none⟩)] w (StaC b q0 w) := by
 obtain ⟨i0, hi, hz0, hz1, hz2⟩ := infoTn
 have hlt := hc.lt
 go_enter Tryz.func13, Tryz.ntmps13
 go_wp2_with fail
 have HI : Hid (StM w w.heap.size (.slice none 0 0) [] (fun _ => 0) (fun _ => 0) (fun _ => 0) (fun _ => 0)) := ⟨Own.nil _ _, fun i hi => by simp at hi, fun i hi => by simp at hi, fun i hi => by simp at hi, fun i j hi => by simp at hi, fun k hk i hi => by simp at hi⟩
 have HC : Hid (CurAt w b q0 ∧ Only (fun k => k = b) w w) := ⟨hc, Only.refl _ _⟩
 clear hc
 go_loopw [3, 4] (fun s i wr => ∃ (j : Nat) (q : ByteArray) (va : Option Addr) (vc : Nat) (M : List Ten) (bb t v0 v1 : Nat → Nat), i = .int .i64 j ∧ s = .slice va M.length vc ∧ Hid (M.length = j) ∧ j ≤ 3 ∧ q.size ≤ 1048576 ∧ Hid (staO q0.data.toList = (insTsO (3 - j) q.data.toList).map fun y => (M.map Ten.key ++ y.1, y.2)) ∧ Hid (StM wr w.heap.size (.slice va M.length vc) M bb t v0 v1) ∧ Hid (∀ x ∈ M, Inc x.L ∧ TenW x) ∧ Hid (CurAt wr b q ∧ Only (fun k => k = b) w wr)) (fun _ i _ => 3 - (intOf i).toNat)
 case atStart => exact ⟨0, q0, _, _, [], _, _, _, _, rfl, rfl, rfl, by omega, s0, by unfold Hid staO; simp, HI, (fun x hx => by cases hx), HC⟩
 case round =>
  clear HI HC
  obtain ⟨j, q, va, vc, M, bb, t, v0, v1, rfl, rfl, HMJ, hj3, sq, HN, HI, HN2, HC⟩ := hrel
  have hMl : M.length ≤ 3 := by have := HMJ.out; omega
  have hwr := HC.out.2.size
  by_cases hlt3 : j < 3
  ·have hjn : (j : Int) < 3 := by omega
   go_wp2_with fail
   refine (insT_any b q wr HC.out.1 sq).mono ?_
   rintro e w1 (⟨x, g3, q2, rfl, G1, c2, s2, hm, o1⟩ | ⟨⟨pv, rfl⟩, G1, o1⟩)
   rotate_left 1
   ·have HP : Hid (staO q0.data.toList = none) := by
     unfold Hid
     rw [HN.out, insTsO_no (by omega) G1.out]
     rfl
    have B9 := HC.out.2.trans o1
    clear HI HC
    go_wp2
    exact ⟨rfl, .inr ⟨⟨_, rfl⟩, HP, B9⟩⟩
   have HNN : Hid (staO q0.data.toList = (insTsO (3 - (j + 1)) q2.data.toList).map fun y => ((M ++ [x]).map Ten.key ++ y.1, y.2)) := by
    unfold Hid
    rw [HN.out, insTsO_yes (by omega) G1.out, Nat.sub_sub]
    cases insTsO (3 - (j + 1)) q2.data.toList <;> simp
   have HI1 : Hid (StM w1 w.heap.size (.slice va M.length vc) M bb t v0 v1) := HI.out.onlyL o1 (fun k hk e => by omega)
   have HT : Hid (∀ i, i < M.length → t i ≤ wr.heap.size) := HI.out.top
   have HV : Hid (∀ k, (Value.slice va M.length vc).ownBlock = some k → k < wr.heap.size) := fun k hk => (HI.out.own.lt k hk).2
   have z1 := o1.size
   have HX : Hid (TenM (w1.alloc (.cells x.arr 36)) wr.heap.size (w1.alloc (.cells x.arr 36)).heap.size wr.heap.size (min g3 (w1.alloc (.cells x.arr 36)).heap.size) x) := (hm.out.1.kept (one_below _ _)).top (by simp; omega)
   have HN3 : Hid (∀ y ∈ M ++ [x], Inc y.L ∧ TenW y) := fun y hy => by
    rcases List.mem_append.1 hy with hy | hy
    ·exact HN2.out y hy
    ·have : y = x := by simpa using hy
     rw [this]; exact ⟨hm.out.1.inc, hm.out.2⟩
   have hown : w1.ownsRow w.heap.size 36 5 (.slice va M.length vc) M.length (tnE.f M) := HI1.out.own
   have HI2 : Hid (StM (w1.alloc (.cells x.arr 36)) w.heap.size (.slice va M.length vc) M bb t v0 v1) := HI1.out.kept (one_below _ _)
   have HC2 : Hid (CurAt (w1.alloc (.cells x.arr 36)) b q2 ∧ Only (fun k => k = b) w (w1.alloc (.cells x.arr 36))) := ⟨c2.kept (one_below _ _), (HC.out.2.trans o1).trans (ob_any (one_below _ _))⟩
   clear HI HC HI1 hm o1 c2 HN HN2 G1
   go_wp2_with (at_builtin; refine wpList_append_own_at _ rfl _ _ 22 rfl w.heap.size 36 i0 (.agg #[.int .i64 0, .slice none 0 0, .int .i64 0, .slice none 0 0, .slice none 0 0]) 5 88 Tryz.underlying22 hi hz0 hz1 hz2 rfl (by decide) _ _ _ rfl (hown.alloc _) ⟨w1.heap.size, 0, none⟩ 1 1 (tnE.c x) rfl rfl ?d1 ?d2 ?d3 ?d4 ?d5 ?_)
   case d1 =>
    intro j u hj
    rw [add_none, Nat.zero_add, World.cell?_alloc_at _ _ _ _ rfl]
    simpa [tnE] using hj
   case d2 => exact tnE.one _
   case d3 => unfold maxLen; omega
   case d4 => omega
   case d5 => simp; omega
   intro v' w9 hown' hgrow _ hloc
   have HOw : Own tnE 36 w9 w.heap.size v' (M ++ [x]) := Own.mk hown' (by simp) (by rw [tnE.f_append, tnE.f_one1])
   have ho := grown_only hgrow
   obtain ⟨g9, cap2, rfl⟩ : ∃ g cap, v' = .slice (some ⟨g, 0, none⟩) (M.length + 1) cap := by
    rcases HOw.look with ⟨_, h⟩ | ⟨g, cap, h, _⟩
    ·simp at h
    ·exact ⟨g, cap, by simpa using h⟩
   have HE := Hid.intro (HI2.out.put (wr := wr) HT.out HV.out HX.out ho HOw (fun k hk => by
    rcases hloc with h | h
    ·exact .inl (h.symm.trans hk)
    ·rw [h] at hk
     exact .inr (by have := Option.some.inj hk; simp; omega)) hwr (by simp; omega))
   have HC9 : Hid (CurAt w9 b q2 ∧ Only (fun k => k = b) w w9) := ⟨HC2.out.1.only ho (fun e => by have := (HI2.out.own.lt b e.symm).1; omega), HC2.out.2.then ho (fun k hk e => by have := (HI2.out.own.lt k e.symm).1; omega)⟩
   clear hown hown' hgrow HOw ho hloc HI2 HC2 HX HT HV
   go_wp2
   go_roundw
   case rel => exact ⟨j + 1, q2, _, _, M ++ [x], _, _, _, _, by go_num, by rw [List.length_append]; rfl, by have := HMJ.out; unfold Hid; rw [List.length_append, List.length_singleton]; omega, by omega, s2, HNN, by unfold Hid; rw [List.length_append, List.length_singleton]; exact HE.out, HN3, HC9⟩
   case measure => simp [intOf]; omega
  ·obtain rfl : j = 3 := by omega
   have hjn : ¬ ((3 : Nat) : Int) < 3 := by omega
   go_wp2_with fail
   go_ret
   exact .inl ⟨_, M, bb, t, v0, v1, q, rfl, by have h := HN.out; unfold Hid; rw [h]; simp [insTsO], HI.out, HC.out.1, sq, HMJ.out, HN2, HC.out.2⟩
end Go.Proofs.YtknckbedddeijaaGreat
namespace Go.Proofs.YtknckbedddeijaaGreat
open Go.RowKit
set_option linter.unusedVariables false
/-- Such tenants make a right state. -/
def stB (K : List (Int × List Nd × Int × List Nt × List Se)) : Bool := decide (K.length = 3) && K.all tenB
theorem stB_keys (L : List Ten) : stB (L.map Ten.key) = stateB L := by
 unfold stB stateB allTen
 rw [List.all_map, List.length_map]; rfl
/-- The state of which l is made. -/
noncomputable def outS (l : List UInt8) : Option (List (Int × List Nd × Int × List Nt × List Se)) := (staO l).bind fun x => if x.2 = [] ∧ stB x.1 = true then some x.1 else none
/-- What ReadState hands back. -/
def RdS (l : List UInt8) (w : World) (e : Ending) (w' : World) : Prop :=
 ((∃ (v : Value) (L : List Ten) (bb tt v0 v1 : Nat → Nat), e = .returned (.tuple #[v, .bool true]) ∧ Hid (outS l = some (L.map Ten.key)) ∧ Hid (StM w' w.heap.size v L bb tt v0 v1) ∧ L.length = 3 ∧ Hid (∀ x ∈ L, Inc x.L)) ∨ (e = .returned (.tuple #[.slice none 0 0, .bool false]) ∧ Hid (outS l = none))) ∧ Below w.heap.size w w'
abbrev zSt : Array Value := #[.slice none 0 0]
theorem resetSt {w w0 : World} {p : Addr} {x : Value} (h : ∀ q, w.cell? q = w0.cell? q) (k : w0.cell? p = some x) : ∀ q, (w.setCell p x).cell? q = w0.cell? q := fun q => by
 by_cases e : q = p
 ·subst e; rw [World.cell?_setCell_same _ _ _ ((h _).trans k), k]
 ·rw [World.cell?_setCell_other _ _ _ _ (fun h2 => e h2.symm), h]
theorem set_onlySt (g o : Nat) (w : World) (a : Value) : Only (fun x => x = g) w (w.setCell ⟨g, o, none⟩ a) := (Only.refl (fun x => x = g) w).setCell (p := ⟨g, o, none⟩) rfl a
def CaughtSt (g : Nat) (w w' : World) : Prop := Only (fun k => k = g ∨ k = g + 1) w w' ∧ (∀ o, w'.cell? ⟨g, o, none⟩ = zSt[o]?) ∧ w'.cell? ⟨g + 1, 0, none⟩ = some (.bool false)
theorem StM.lower {w : World} {base B' : Nat} {v : Value} {L : List Ten} {b t v0 v1 : Nat → Nat} (h : StM w base v L b t v0 v1) (hb : B' ≤ base) : StM w B' v L b t v0 v1 :=
 ⟨h.own.lower hb, h.ten, fun i hi => Nat.le_trans hb (h.low i hi), h.top, h.dis, h.row⟩
set_option maxRecDepth 100000 in
set_option maxHeartbeats 1000000 in
theorem catchSt_idle (g : Nat) (w : World) :
  CallsD Tryz.prog 28 #[.pointer (some ⟨g, 0, none⟩), .pointer (some ⟨g + 1, 0, none⟩)] .returning w fun e u' w' => e = .returned (.tuple #[]) ∧ u' = .returning ∧ w' = w := by
 refine callsD_of_wpS Tryz.func28 rfl fun c₀ cs hu => ?_
 apply wpS_seq
 apply wpS_region
 simp [wpOpsS, go_sem, recoverD, hu, Tryz.ntmps28, Exit.thenS]
 refine wpS_cond (t := false) (by simp [Act.eval, Array.replicate]) ?_
 simp only [Bool.false_eq_true, if_false]
 refine wpS_of_wp (wp_skip ?_)
 cases c₀
 simp_all [bodyPostS, results, Tryz.results28]
theorem caughtSt_mk {g : Nat} {w w0 : World} (h0 : Only (fun k => k = g ∨ k = g + 1) w w0) {a0 b0 : Value} (k0 : w0.cell? ⟨g, 0, none⟩ = some a0) (l0 : w0.cell? ⟨g + 1, 0, none⟩ = some b0)
  (W : World) (hW : W = (w0.setCell ⟨g, 0, none⟩ a0).setCell ⟨g + 1, 0, none⟩ b0) :
  Only (fun k => k = g ∨ k = g + 1) w W ∧ ∀ q, W.cell? q = w0.cell? q := by
 subst hW
 refine ⟨?_, ?_⟩
 ·exact (h0.setCell (p := ⟨g, 0, none⟩) (.inl rfl) a0).setCell (p := ⟨g + 1, 0, none⟩) (.inr rfl) b0
 ·exact resetSt (resetSt (fun _ => rfl) k0) l0
set_option maxRecDepth 100000 in
set_option maxHeartbeats 1000000 in
theorem catchSt_panicking (g : Nat) (pv : Value) (u : TypeId) (w : World) (X : Blk w g zSt) (Y : Blk w (g + 1) #[.bool false]) :
  CallsD Tryz.prog 28 #[.pointer (some ⟨g, 0, none⟩), .pointer (some ⟨g + 1, 0, none⟩)] (.panicking ({ v := .iface u pv, recovered := false } :: [])) w fun e u' w' => e = .returned (.tuple #[]) ∧ u' = .panicking ({ v := .iface u pv, recovered := true } :: []) ∧ CaughtSt g w w' := by
 refine callsD_of_wpS Tryz.func28 rfl fun c₀ cs hu => ?_
 apply wpS_seq
 apply wpS_region
 simp [wpOpsS, go_sem, recoverD, hu, Tryz.ntmps28, Exit.thenS]
 refine wpS_cond (t := true) (by simp [Act.eval, Array.replicate]) ?_
 simp only [if_true]
 refine wpS_of_wp ?_
 have hg := Y.hi
 have hne : ¬ g + 1 = g := by omega
 have hne2 : ¬ g = g + 1 := by omega
 have k0 : (w.alloc (.cells #[.slice none 0 0] 22)).cell? ⟨g, 0, none⟩ = some (.slice none 0 0) := (World.cell?_alloc_past _ _ _ (by have := X.hi; omega)).trans (X.cell 0)
 have f0 : (w.alloc (.cells #[.slice none 0 0] 22)).frozen? ⟨g, 0, none⟩ = false := (World.frozen?_alloc_past _ _ _ (by have := X.hi; omega)).trans (X.fro 0)
 have l0 : (w.alloc (.cells #[.slice none 0 0] 22)).cell? ⟨g + 1, 0, none⟩ = some (.bool false) := (World.cell?_alloc_past _ _ _ Y.hi).trans (Y.cell 0)
 have m0 : (w.alloc (.cells #[.slice none 0 0] 22)).frozen? ⟨g + 1, 0, none⟩ = false := (World.frozen?_alloc_past _ _ _ Y.hi).trans (Y.fro 0)
 go_wp2
 obtain ⟨o1, o2⟩ := caughtSt_mk (w := w) (Only.alloc (Only.refl _ _) _) k0 l0 _ rfl
 have HK := Hid.intro (show CaughtSt g w _ from ⟨o1, fun o => (o2 _).trans ((World.cell?_alloc_past _ _ _ (by omega)).trans (X.cell o)), (o2 _).trans l0⟩)
 clear o1 o2
 exact ⟨rfl, _, rfl, .tuple #[], by simp [results, Tryz.results28, go_sem], rfl, rfl, HK.out⟩
set_option maxRecDepth 100000 in
set_option maxHeartbeats 8000000 in
theorem wholeSt_any (s : ByteArray) (w : World) (hs : s.size ≤ 1048576) :
  Calls Tryz.prog 12 #[.string s, .func (Fn.func 13) #[] #[], .func (Fn.func 14) #[] #[]] w (RdS s.data.toList w) := by
 have hmf : ∀ (fn : Fn) (first cap : Array Value) (w : World), (Instr.makeFunc fn first cap).run Tryz.prog w = .ok (.func fn first cap) w := fun _ _ _ _ => rfl
 go_enter_defers Tryz.func12, Tryz.ntmps12
 go_wp2_with fail
 obtain ⟨W, hW, bW, zW, c0, f0, c1, f1, c2, f2⟩ := boxed3 w zSt #[.bool false] #[.string s] 22 4 66
 simp only [hW]
 have hC : CurAt W (w.heap.size + 1 + 1) s := ⟨by omega, c2 0, f2 0⟩
 have X : Blk W w.heap.size zSt := ⟨by omega, c0, f0⟩
 have Y : Blk W (w.heap.size + 1) #[.bool false] := ⟨by omega, c1, f1⟩
 clear hW c0 f0 c1 f1 c2 f2
 refine (stateC_any (w.heap.size + 1 + 1) s W hC hs).mono ?_
 rintro e w1 (⟨v, L, bb, tt, v0, v1, q', rfl, HO, HM, hc, sq, h3l, HNW, hon⟩ | ⟨⟨pv, rfl⟩, HN, hon⟩)
 ·have X1 := X.only hon (by omega)
  have Y1 := Y.only hon (by omega)
  have B1 : Below w.heap.size w w1 := bW.trans (hon.below (by omega) (fun k hk h => by omega))
  obtain ⟨va, vc, rfl⟩ := HM.out.own.slice
  have H3L := Hid.intro h3l
  clear h3l
  have hq := hc.cell
  clear X Y hon bW hC hc
  by_cases hz : q'.size = 0
  rotate_left 1
  ·have y1 := bs_nmI hz
   have hne : ¬ w.heap.size + 1 = w.heap.size := by omega
   have hne2 : ¬ w.heap.size = w.heap.size + 1 := by omega
   have k0 : (w1.alloc (.cells #[.slice none 0 0] 22)).cell? ⟨w.heap.size, 0, none⟩ = some (.slice none 0 0) := (World.cell?_alloc_past _ _ _ (by have := X1.hi; omega)).trans (X1.cell 0)
   have f0 : (w1.alloc (.cells #[.slice none 0 0] 22)).frozen? ⟨w.heap.size, 0, none⟩ = false := (World.frozen?_alloc_past _ _ _ (by have := X1.hi; omega)).trans (X1.fro 0)
   have l0 : (w1.alloc (.cells #[.slice none 0 0] 22)).cell? ⟨w.heap.size + 1, 0, none⟩ = some (.bool false) := (World.cell?_alloc_past _ _ _ Y1.hi).trans (Y1.cell 0)
   have m0 : (w1.alloc (.cells #[.slice none 0 0] 22)).frozen? ⟨w.heap.size + 1, 0, none⟩ = false := (World.frozen?_alloc_past _ _ _ Y1.hi).trans (Y1.fro 0)
   go_wp2
   obtain ⟨o1, o2⟩ := caughtSt_mk (w := w1) (Only.alloc (Only.refl _ _) _) k0 l0 _ rfl
   have r0 := (o2 _).trans k0
   have r9 := (o2 _).trans l0
   have B9 := B1.trans (o1.below B1.size (fun k hk h => by omega))
   clear o1 o2 k0 l0 f0 m0
   generalize ((w1.alloc (.cells #[.slice none 0 0] 22)).setCell ⟨w.heap.size, 0, none⟩ (.slice none 0 0)).setCell ⟨w.heap.size + 1, 0, none⟩ (.bool false) = V at r0 r9 B9 ⊢
   have ho : Hid (outS s.data.toList = none) := by
    unfold Hid outS
    rw [HO.out, Option.bind_some, if_neg (fun h => hz (by have := congrArg List.length h.1; simpa using this))]
   refine leaves_cons (f := 28) (args := #[.pointer (some ⟨w.heap.size, 0, none⟩), .pointer (some ⟨w.heap.size + 1, 0, none⟩)]) (by simp) (by simp [go_sem]) ?_
   refine (catchSt_idle w.heap.size V).mono ?_
   rintro e u' w'' ⟨rfl, rfl, rfl⟩
   exact ⟨_, by simp [results, Tryz.results12, go_sem, r0, r9], .inr ⟨rfl, ho⟩, B9⟩
  have y1 := bs_mtI hz
  have hq0 : q'.data.toList = [] := List.eq_nil_of_length_eq_zero (by simpa using hz)
  rw [hq0] at HO
  go_wp2_with fail
  refine (implStateOk_any L _ w1.heap.size w1 (Nat.le_refl _) HM.out.rowAll (fun x hx => (HNW.out x hx).2)).mono ?_
  rintro e w3 ⟨rfl, b3⟩
  have X3 := X1.kept b3
  have Y3 := Y1.kept b3
  have B3 := B1.trans (b3.mono B1.size)
  have z3 := b3.size
  replace HM := Hid.intro (HM.out.kept b3)
  clear X1 Y1 B1 b3 hq
  cases hcb : stateB L with
  | false =>
   have hne : ¬ w.heap.size + 1 = w.heap.size := by omega
   have hne2 : ¬ w.heap.size = w.heap.size + 1 := by omega
   have k0 : (w3.alloc (.cells #[.slice none 0 0] 22)).cell? ⟨w.heap.size, 0, none⟩ = some (.slice none 0 0) := (World.cell?_alloc_past _ _ _ (by have := X3.hi; omega)).trans (X3.cell 0)
   have f0 : (w3.alloc (.cells #[.slice none 0 0] 22)).frozen? ⟨w.heap.size, 0, none⟩ = false := (World.frozen?_alloc_past _ _ _ (by have := X3.hi; omega)).trans (X3.fro 0)
   have l0 : (w3.alloc (.cells #[.slice none 0 0] 22)).cell? ⟨w.heap.size + 1, 0, none⟩ = some (.bool false) := (World.cell?_alloc_past _ _ _ Y3.hi).trans (Y3.cell 0)
   have m0 : (w3.alloc (.cells #[.slice none 0 0] 22)).frozen? ⟨w.heap.size + 1, 0, none⟩ = false := (World.frozen?_alloc_past _ _ _ Y3.hi).trans (Y3.fro 0)
   go_wp2
   obtain ⟨o1, o2⟩ := caughtSt_mk (w := w3) (Only.alloc (Only.refl _ _) _) k0 l0 _ rfl
   have r0 := (o2 _).trans k0
   have r9 := (o2 _).trans l0
   have B9 := B3.trans (o1.below B3.size (fun k hk h => by omega))
   clear o1 o2 k0 l0 f0 m0
   generalize ((w3.alloc (.cells #[.slice none 0 0] 22)).setCell ⟨w.heap.size, 0, none⟩ (.slice none 0 0)).setCell ⟨w.heap.size + 1, 0, none⟩ (.bool false) = V at r0 r9 B9 ⊢
   have ho : Hid (outS s.data.toList = none) := by
    unfold Hid outS
    rw [HO.out, Option.bind_some, if_neg (fun h => by rw [stB_keys, hcb] at h; exact Bool.false_ne_true h.2)]
   refine leaves_cons (f := 28) (args := #[.pointer (some ⟨w.heap.size, 0, none⟩), .pointer (some ⟨w.heap.size + 1, 0, none⟩)]) (by simp) (by simp [go_sem]) ?_
   refine (catchSt_idle w.heap.size V).mono ?_
   rintro e u' w'' ⟨rfl, rfl, rfl⟩
   exact ⟨_, by simp [results, Tryz.results12, go_sem, r0, r9], .inr ⟨rfl, ho⟩, B9⟩
  | true =>
   have ho : Hid (outS s.data.toList = some (L.map Ten.key)) := by
    unfold Hid outS
    rw [HO.out, Option.bind_some, if_pos ⟨rfl, by rw [stB_keys, hcb]⟩]
   clear HO hcb
   have hne : ¬ w.heap.size + 1 = w.heap.size := by omega
   have hne2 : ¬ w.heap.size = w.heap.size + 1 := by omega
   have k0 : w3.cell? ⟨w.heap.size, 0, none⟩ = some (.slice none 0 0) := X3.cell 0
   have f0 : w3.frozen? ⟨w.heap.size, 0, none⟩ = false := X3.fro 0
   have l0 : w3.cell? ⟨w.heap.size + 1, 0, none⟩ = some (.bool false) := Y3.cell 0
   have m0 : w3.frozen? ⟨w.heap.size + 1, 0, none⟩ = false := Y3.fro 0
   have HOn : Only (fun k => k = w.heap.size ∨ k = w.heap.size + 1) w3 ((w3.setCell ⟨w.heap.size, 0, none⟩ (.slice va L.length vc)).setCell ⟨w.heap.size + 1, 0, none⟩ (.bool true)) := ((Only.refl (fun k => k = w.heap.size ∨ k = w.heap.size + 1) w3).setCell (p := ⟨w.heap.size, 0, none⟩) (.inl rfl) (.slice va L.length vc)).setCell (p := ⟨w.heap.size + 1, 0, none⟩) (.inr rfl) (.bool true)
   have B9 : Below w.heap.size w ((w3.setCell ⟨w.heap.size, 0, none⟩ (.slice va L.length vc)).setCell ⟨w.heap.size + 1, 0, none⟩ (.bool true)) := B3.trans (HOn.below B3.size (fun k hk h => by omega))
   have HV : Hid (StM ((w3.setCell ⟨w.heap.size, 0, none⟩ (.slice va L.length vc)).setCell ⟨w.heap.size + 1, 0, none⟩ (.bool true)) w.heap.size (.slice va L.length vc) L bb tt v0 v1) := (HM.out.onlyL HOn (fun k hk h => by omega)).lower (by omega)
   clear X3 Y3 HM HOn
   go_wp2
   refine leaves_cons (f := 28) (args := #[.pointer (some ⟨w.heap.size, 0, none⟩), .pointer (some ⟨w.heap.size + 1, 0, none⟩)]) (by simp) (by simp [go_sem]) ?_
   refine (catchSt_idle w.heap.size _).mono ?_
   rintro e u' w'' ⟨rfl, rfl, rfl⟩
   exact ⟨.tuple #[.slice va L.length vc, .bool true], by simp [results, Tryz.results12, go_sem, k0, l0], .inl ⟨_, L, bb, tt, v0, v1, rfl, ho, HV, H3L.out, fun x hx => (HNW.out x hx).1⟩, B9⟩
 ·have X1 := X.only hon (by omega)
  have Y1 := Y.only hon (by omega)
  have B1 : Below w.heap.size w w1 := bW.trans (hon.below (by omega) (fun k hk h => by omega))
  clear X Y hon bW hC
  go_wp2
  refine leaves_cons (f := 28) (args := #[.pointer (some ⟨w.heap.size, 0, none⟩), .pointer (some ⟨w.heap.size + 1, 0, none⟩)]) (by simp) (by simp [go_sem]) ?_
  refine (catchSt_panicking w.heap.size pv 9 w1 X1 Y1).mono ?_
  rintro e u' w'' ⟨rfl, rfl, h1, h2, h3⟩
  have B2 := B1.trans (h1.below B1.size (fun k hk h => by omega))
  have k0 : w''.cell? ⟨w.heap.size, 0, none⟩ = some (.slice none 0 0) := h2 0
  have ho : Hid (outS s.data.toList = none) := by unfold Hid outS; rw [HN.out]; rfl
  simp [Leaves, settle, results, Tryz.results12, go_sem, k0, h3]
  exact ⟨.inr ⟨rfl, ho⟩, B2⟩
set_option maxRecDepth 100000 in
set_option maxHeartbeats 2000000 in
theorem implReadState_any (s : ByteArray) (w : World) (hs : s.size ≤ 1048576) :
  Calls Tryz.prog 5 #[.string s] w (RdS s.data.toList w) := by
 go_enter Tryz.func5, Tryz.ntmps5
 go_wp2_with fail
 refine (wholeSt_any s _ hs).mono ?_
 rintro e w1 ⟨⟨v, L, bb, tt, v0, v1, rfl, ho, hv, h3l, hi⟩ | ⟨rfl, ho⟩, b1⟩
 ·go_wp2_with fail
  exact bodyPost_ret (v := .tuple #[v, .bool true]) (by simp [results, Tryz.results5, go_sem]) rfl ⟨.inl ⟨v, L, bb, tt, v0, v1, rfl, ho, hv, h3l, hi⟩, b1⟩
 ·go_wp2_with fail
  exact bodyPost_ret (v := .tuple #[.slice none 0 0, .bool false]) (by simp [results, Tryz.results5, go_sem]) rfl ⟨.inr ⟨rfl, ho⟩, b1⟩
end Go.Proofs.YtknckbedddeijaaGreat
