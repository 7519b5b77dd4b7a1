/- Volumes that are marked hold their marks. -/
import Derived.Test.YtpccnoiepmedeaaTMarkD
import Derived.Test.YtpccnoiepmedeaaTCurVo
import Derived.Deep.CutRange
import Derived.Deep.CutBlock
namespace Go.Proofs.Ytpccnoiepmedeaa
open Go.RowKit
set_option linter.unusedVariables false
/-- An inode that is marked from q on. -/
def mkN (q : Int) (p : Np) : Np := ⟨⟨q, q + 1, q + 2, q + 3, q + 4, markI (q + 5), markDL (q + 6) p.n.names p.n.names.length, q + 6 + 2 * (p.n.names.length : Nat), q + 7 + 2 * (p.n.names.length : Nat)⟩, p.a, p.cap⟩
theorem mkN_len (q : Int) (p : Np) : (mkN q p).n.names.length = p.n.names.length := by simp [mkN, markDL_len]
theorem mkN_v (q : Int) (p : Np) : (mkN q p).v = p.v := by
 unfold Np.v
 rw [mkN_len]
 rfl
/-- The mark that inode j begins with. -/
def kqI (q : Int) (M : List Np) : Nat → Int
 | 0 => q
 | j + 1 => kqI q M j + 8 + 2 * ((M.getD j ndE.z).n.names.length : Nat)
def mkAt (q : Int) (M : List Np) (j : Nat) : Np := mkN (kqI q M j) (M.getD j ndE.z)
def markNL (q : Int) (M : List Np) : Nat → List Np
 | 0 => M
 | j + 1 => (markNL q M j).set j (mkAt q M j)
theorem markNL_len (q : Int) (M : List Np) (j : Nat) : (markNL q M j).length = M.length := by
 induction j with
 | zero => rfl
 | succ j ih => simp [markNL, ih]
theorem markNL_get (q : Int) (M : List Np) (n i : Nat) (hi : i < n) (hL : i < (markNL q M n).length) : (markNL q M n)[i] = mkAt q M i := by
 induction n with
 | zero => omega
 | succ n ih =>
  simp only [markNL, List.getElem_set]
  split
  ·rename_i h; subst h; rfl
  ·exact ih (by omega) (by rw [markNL_len] at hL ⊢; exact hL)
theorem markNL_late (q : Int) (M : List Np) (n i : Nat) (hi : n ≤ i) (hL : i < (markNL q M n).length) : (markNL q M n)[i] = M[i]'(by rw [markNL_len] at hL; exact hL) := by
 induction n with
 | zero => rfl
 | succ n ih =>
  simp only [markNL, List.getElem_set]
  rw [if_neg (by omega)]
  exact ih (by omega) (by rw [markNL_len] at hL ⊢; exact hL)
theorem getD_at {M : List Np} {j : Nat} (h : j < M.length) : M.getD j ndE.z = M[j] := by simp [List.getD_eq_getElem?_getD, h]
theorem mkAt_v {q : Int} {M : List Np} {j : Nat} (h : j < M.length) : (mkAt q M j).v = M[j].v := by
 unfold mkAt
 rw [mkN_v, getD_at h]
theorem markNL_v (q : Int) (M : List Np) (n i : Nat) (hL : i < (markNL q M n).length) : (markNL q M n)[i].v = (M[i]'(by rw [markNL_len] at hL; exact hL)).v := by
 by_cases h : i < n
 ·rw [markNL_get q M n i h hL, mkAt_v (by rw [markNL_len] at hL; exact hL)]
 ·rw [markNL_late q M n i (by omega) hL]
theorem getD_names {M : List Np} (h : ∀ p ∈ M, p.n.names.length ≤ 12) (j : Nat) : (M.getD j ndE.z).n.names.length ≤ 12 := by
 by_cases hj : j < M.length
 ·rw [getD_at hj]; exact h _ (List.getElem_mem hj)
 ·rw [List.getD_eq_getElem?_getD, List.getElem?_eq_none (by omega)]
  simp [ndE, ndZ]
theorem kqI_bd {q : Int} {M : List Np} (h : ∀ p ∈ M, p.n.names.length ≤ 12) (j : Nat) : q ≤ kqI q M j ∧ kqI q M j ≤ q + 32 * j := by
 induction j with
 | zero => simp [kqI]
 | succ j ih =>
  have := getD_names h j
  simp only [kqI]
  omega
/-- Rows of inodes and rows of names lie in blocks of two kinds. -/
theorem own_apart {α β : Type} {E : Enc α} {F : Enc β} {T U : TypeId} (hTU : T ≠ U) {w : World} {B C : Nat} {u v : Value} {L : List α} {M : List β} (h : Own E T w B u L) (k : Own F U w C v M) {g : Nat} (hu : u.ownBlock = some g) (hv : v.ownBlock = some g) : False := by
 rcases h.2 with ⟨h0, _⟩ | ⟨g1, cap1, cur1, h1, _, hg1, _⟩
 ·rw [h0] at hu; cases hu
 ·rcases k.2 with ⟨k0, _⟩ | ⟨g2, cap2, cur2, k1, _, hg2, _⟩
  ·rw [k0] at hv; cases hv
  ·rw [h1] at hu
   rw [k1] at hv
   obtain rfl : g1 = g := by simpa [Value.ownBlock] using hu
   obtain rfl : g2 = g1 := by simpa [Value.ownBlock] using hv
   rw [hg1] at hg2
   simp only [Option.some.injEq, Obj.cells.injEq] at hg2
   exact hTU hg2.2.1
theorem ownsRow_belowM {w w' : World} {base : Nat} {e : TypeId} {size : Nat} {v : Value} {n : Nat} {xs : List Value} (h : w.ownsRow base e size v n xs) (hb : Below w.heap.size w w') : w'.ownsRow base e size v n xs := by
 refine ⟨h.1, ?_⟩
 rcases h.2 with hn | ⟨g, cap, cur, rfl, hg, hgg, rest⟩
 ·exact .inl hn
 ·exact .inr ⟨g, cap, cur, rfl, hg, (hb.block g (Array.getElem?_eq_some_iff.1 hgg).1).trans hgg, rest⟩
theorem set_same {α : Type} {xs : List α} {i : Nat} {v : α} (h : xs[i]? = some v) : xs.set i v = xs := by
 apply List.ext_getElem?
 intro q
 rw [List.getElem?_set]
 by_cases hq : i = q
 ·subst hq
  have hl : i < xs.length := (List.getElem?_eq_some_iff.1 h).1
  rw [if_pos rfl, if_pos hl, h]
 ·rw [if_neg hq]
/-- All cells of an element but the seventh are stored: with the seventh as it was the element is stored. -/
theorem set9 (S : List Np) (j : Nat) (h : j < S.length) (e : Np) (hv : e.v = S[j].v) :
  ndE.f (S.set j e) = (((((((((ndE.f S).set (j * 9) (.int .i64 e.n.id)).set (j * 9 + 1) (.int .i64 e.n.kind)).set (j * 9 + 2) (.int .i64 e.n.mode)).set (j * 9 + 3) (.int .i64 e.n.uid)).set (j * 9 + 4) (.int .i64 e.n.gid)).set (j * 9 + 5) (.string e.n.data)).set (j * 9 + 7) (.int .i64 e.n.maxb)).set (j * 9 + 8) (.int .i64 e.n.maxi)) := by
 rw [Enc.f_set ndE S j e h]
 have h6 : ((((((((ndE.f S).set (j * 9) (.int .i64 e.n.id)).set (j * 9 + 1) (.int .i64 e.n.kind)).set (j * 9 + 2) (.int .i64 e.n.mode)).set (j * 9 + 3) (.int .i64 e.n.uid)).set (j * 9 + 4) (.int .i64 e.n.gid)).set (j * 9 + 5) (.string e.n.data)))[j * 9 + 6]? = some e.v := by
  rw [List.getElem?_set_ne (by omega), List.getElem?_set_ne (by omega), List.getElem?_set_ne (by omega), List.getElem?_set_ne (by omega), List.getElem?_set_ne (by omega), List.getElem?_set_ne (by omega)]
  have := ndE.f_at S j h 6 (by decide)
  rw [show ndE.n = 9 from rfl] at this
  rw [this, hv]
  rfl
 show setL (ndE.f S) (j * 9) [.int .i64 e.n.id, .int .i64 e.n.kind, .int .i64 e.n.mode, .int .i64 e.n.uid, .int .i64 e.n.gid, .string e.n.data, e.v, .int .i64 e.n.maxb, .int .i64 e.n.maxi] = _
 simp only [setL, Nat.add_assoc, Nat.reduceAdd]
 rw [set_same h6]
/-- So far marked: j inodes. -/
structure MkS (w : World) (base top g n cap : Nat) (q : Int) (M : List Np) (j : Nat) (wr : World) : Prop where
 own : Own ndE 65 wr base (.slice (some ⟨g, 0, none⟩) n cap) (markNL q M j)
 nms : ∀ i (h : i < (markNL q M j).length), Own diE 91 wr base (markNL q M j)[i].v (markNL q M j)[i].n.names
 bel : Only (fun k => base ≤ k ∧ k < top) w wr
set_option maxRecDepth 100000 in
set_option maxHeartbeats 8000000 in
theorem markN_any (M : List Np) (v : Value) (base top : Nat) (q : Int) (w : World) (hb : base ≤ w.heap.size) (ho : VolO w base v M) (hi : Inc M) (htv : ∀ k, v.ownBlock = some k → k < top) (htn : ∀ p ∈ M, ∀ k, p.v.ownBlock = some k → k < top) (hl : M.length ≤ 24) (hn : ∀ p ∈ M, p.n.names.length ≤ 12) (h1 : 1 ≤ q) (h2 : q ≤ 1000) :
  Calls Try.prog 47 #[v, .int .i64 q] w fun e w' => e = .returned (.int .i64 (kqI q M M.length)) ∧ VolO w' base v (markNL q M M.length) ∧ Only (fun k => base ≤ k ∧ k < top) w w' := by
 rcases ho.own.look with ⟨rfl, rfl⟩ | ⟨g, cap, rfl, hg1, hg2, hc1, hc2⟩
 ·go_enter Try.func47, Try.ntmps47
  go_wp2
  refine wp_loop_rounds 1 ?_
  rw [rounds_succ]
  go_wp2
  go_ret
  exact ⟨rfl, ⟨Own.nil _ _, fun p hp => by cases hp⟩, Only.refl _ _⟩
 ·obtain ⟨n, hnn⟩ : ∃ n, M.length = n := ⟨_, rfl⟩
  have HN := Hid.intro hnn
  have HI := Hid.intro hi
  have HNM := Hid.intro hn
  have HTN := Hid.intro htn
  have htg := htv g rfl
  have HKB : Hid (∀ j, q ≤ kqI q M j ∧ kqI q M j ≤ q + 32 * j) := fun j => kqI_bd hn j
  have HS0 : Hid (MkS w base top g n cap q M 0 w) := ⟨by rw [← hnn]; exact ho.own, fun i hi => ho.nms _ (List.getElem_mem hi), Only.refl _ _⟩
  rw [hnn] at hl hc1 ⊢
  clear ho hi hn hnn htv htn
  go_enter Try.func47, Try.ntmps47
  go_wp2
  go_loopw [1, 5] (fun x i wr => ∃ (j : Nat) (q0 : Int), i = .int .i64 j ∧ x = .int .i64 q0 ∧ Hid (q0 = kqI q M j) ∧ j ≤ n ∧ Hid (MkS w base top g n cap q M j wr)) (fun _ i _ => n - (intOf i).toNat)
  case atStart => exact ⟨0, q, rfl, rfl, rfl, Nat.zero_le _, HS0⟩
  case round =>
   obtain ⟨j, q0, rfl, rfl, HQ, hj, HS⟩ := hrel
   have hkb := HKB.out j
   have hq0 : 1 ≤ q0 ∧ q0 ≤ 1000 + 32 * 24 := by have := HQ.out; omega
   clear hkb
   by_cases hlt : j < n
   ·have HML : Hid ((markNL q M j).length = n) := by unfold Hid; rw [markNL_len]; exact HN.out
    have hjM : j < M.length := by have := HN.out; omega
    have hjS : j < (markNL q M j).length := by have := HML.out; omega
    obtain ⟨p, hp⟩ : ∃ p, M[j] = p := ⟨_, rfl⟩
    have hSj : (markNL q M j)[j] = p := by rw [markNL_late q M j j (Nat.le_refl _) hjS, hp]
    have hat : mkAt q M j = mkN q0 p := by unfold mkAt; rw [getD_at hjM, hp, ← HQ.out]
    have hkn : kqI q M (j + 1) = q0 + 8 + 2 * (p.n.names.length : Nat) := by
     simp only [kqI]
     rw [getD_at hjM, hp, ← HQ.out]
    have hpn : p.n.names.length ≤ 12 := by rw [← hp]; exact HNM.out _ (List.getElem_mem hjM)
    have hop := HS.out.nms j hjS
    rw [hSj] at hop
    have HOP := Hid.intro hop
    have hgne : ∀ k, p.v.ownBlock = some k → k ≠ g := fun k hk e => own_apart (T := 65) (U := 91) (by decide) HS.out.own hop rfl (e ▸ hk)
    have HGN := Hid.intro hgne
    have hgw : g < wr.heap.size := (HS.out.own.lt g rfl).2
    have HG := Hid.intro hgw
    have c6 := HS.out.own.at j hjS 6 (by decide)
    rw [hSj] at c6
    obtain ⟨y0, a0⟩ := HS.out.own.has HML.out hlt (i := 0) (by decide)
    obtain ⟨y1, a1⟩ := HS.out.own.has HML.out hlt (i := 1) (by decide)
    obtain ⟨y2, a2⟩ := HS.out.own.has HML.out hlt (i := 2) (by decide)
    obtain ⟨y3, a3⟩ := HS.out.own.has HML.out hlt (i := 3) (by decide)
    obtain ⟨y4, a4⟩ := HS.out.own.has HML.out hlt (i := 4) (by decide)
    obtain ⟨y5, a5⟩ := HS.out.own.has HML.out hlt (i := 5) (by decide)
    obtain ⟨y7, a7⟩ := HS.out.own.has HML.out hlt (i := 7) (by decide)
    obtain ⟨y8, a8⟩ := HS.out.own.has HML.out hlt (i := 8) (by decide)
    simp only [Nat.add_zero, show ndE.n = 9 from rfl] at a0 a1 a2 a3 a4 a5 a7 a8 c6
    replace c6 : wr.cell? ⟨g, j * 9 + 6, none⟩ = some p.v := c6
    have f0 := HS.out.own.frozen HML.out
    have hbs : base ≤ wr.heap.size := Nat.le_trans hb HS.out.bel.size
    have HSJ := Hid.intro hSj
    have HAT := Hid.intro hat
    have HKN := Hid.intro hkn
    have HP := Hid.intro hp
    have HJS := Hid.intro hjS
    have HPN := Hid.intro hpn
    clear hSj hat hkn hp hop hgne hpn
    obtain ⟨WA, hWA⟩ : ∃ WA, WA = (((((wr.setCell ⟨g, j * 9, none⟩ (.int .i64 (q0))).setCell ⟨g, j * 9 + 1, none⟩ (.int .i64 (q0 + 1))).setCell ⟨g, j * 9 + 2, none⟩ (.int .i64 (q0 + 1 + 1))).setCell ⟨g, j * 9 + 3, none⟩ (.int .i64 (q0 + 1 + 1 + 1))).setCell ⟨g, j * 9 + 4, none⟩ (.int .i64 (q0 + 1 + 1 + 1 + 1))) := ⟨_, rfl⟩
    have ownA : Hid (WA.ownsRow base 65 9 (.slice (some ⟨g, 0, none⟩) n cap) n ((((((ndE.f (markNL q M j)).set (j * 9) (.int .i64 (q0))).set (j * 9 + 1) (.int .i64 (q0 + 1))).set (j * 9 + 2) (.int .i64 (q0 + 1 + 1))).set (j * 9 + 3) (.int .i64 (q0 + 1 + 1 + 1))).set (j * 9 + 4) (.int .i64 (q0 + 1 + 1 + 1 + 1)))) := by
     unfold Hid
     rw [hWA]
     have h0 : wr.ownsRow base 65 9 (.slice (some ⟨g, 0, none⟩) n cap) n (ndE.f (markNL q M j)) := by
      have := HS.out.own
      unfold Own at this
      rw [HML.out] at this
      exact this
     exact (World.ownsRow.stored (World.ownsRow.stored (World.ownsRow.stored (World.ownsRow.stored (World.ownsRow.stored h0 _ _).1 _ _).1 _ _).1 _ _).1 _ _).1
    have onA : Hid (Only (fun k => k = g) wr WA) := by
     unfold Hid
     rw [hWA]
     exact (((((Only.refl (fun k => k = g) wr).setCell (p := ⟨g, j * 9, none⟩) rfl _).setCell (p := ⟨g, j * 9 + 1, none⟩) rfl _).setCell (p := ⟨g, j * 9 + 2, none⟩) rfl _).setCell (p := ⟨g, j * 9 + 3, none⟩) rfl _).setCell (p := ⟨g, j * 9 + 4, none⟩) rfl _
    have r5 : WA.cell? ⟨g, j * 9 + 5, none⟩ = some y5 := by rw [hWA]; simp [go_sem, a5]
    have r6 : WA.cell? ⟨g, j * 9 + 6, none⟩ = some p.v := by rw [hWA]; simp [go_sem, c6]
    have r7 : WA.cell? ⟨g, j * 9 + 7, none⟩ = some y7 := by rw [hWA]; simp [go_sem, a7]
    have r8 : WA.cell? ⟨g, j * 9 + 8, none⟩ = some y8 := by rw [hWA]; simp [go_sem, a8]
    have rf : ∀ o, WA.frozen? ⟨g, o, none⟩ = false := fun o => by rw [hWA]; simp [f0]
    have gA : g < WA.heap.size := by rw [hWA]; simpa using hgw
    go_upto_region 14 with fail
    simp only [← hWA]
    clear hWA a0 a1 a2 a3 a4 a5 a7 a8 c6 f0
    go_wp2_with fail
    refine (markText_int _ _ (by omega) (by omega)).mono ?_
    rintro e w1 ⟨rfl, b1⟩
    replace r5 := (b1.cell (p := ⟨g, j * 9 + 5, none⟩) gA).trans r5
    replace r6 := (b1.cell (p := ⟨g, j * 9 + 6, none⟩) gA).trans r6
    replace r7 := (b1.cell (p := ⟨g, j * 9 + 7, none⟩) gA).trans r7
    replace r8 := (b1.cell (p := ⟨g, j * 9 + 8, none⟩) gA).trans r8
    replace rf : ∀ o, w1.frozen? ⟨g, o, none⟩ = false := fun o => (b1.frozen (p := ⟨g, o, none⟩) gA).trans (rf o)
    have g1' : g < w1.heap.size := Nat.lt_of_lt_of_le gA b1.size
    have own1 := Hid.intro (World.ownsRow.stored (ownsRow_belowM ownA.out b1) (j * 9 + 5) (.string (markI (q0 + 1 + 1 + 1 + 1 + 1)))).1
    have on1 : Hid (Only (fun k => k = g) wr (w1.setCell ⟨g, j * 9 + 5, none⟩ (.string (markI (q0 + 1 + 1 + 1 + 1 + 1))))) := (onA.out.trans (Below.any b1)).setCell (p := ⟨g, j * 9 + 5, none⟩) rfl _
    clear b1 ownA onA
    go_upto_region 16 with fail
    obtain ⟨W1, hW1⟩ : ∃ W1, W1 = w1.setCell ⟨g, j * 9 + 5, none⟩ (.string (markI (q0 + 1 + 1 + 1 + 1 + 1))) := ⟨_, rfl⟩
    simp only [← hW1] at own1 on1 ⊢
    have s6 : W1.cell? ⟨g, j * 9 + 6, none⟩ = some p.v := by rw [hW1]; simp [go_sem, r6]
    have s7 : W1.cell? ⟨g, j * 9 + 7, none⟩ = some y7 := by rw [hW1]; simp [go_sem, r7]
    have s8 : W1.cell? ⟨g, j * 9 + 8, none⟩ = some y8 := by rw [hW1]; simp [go_sem, r8]
    have sf : ∀ o, W1.frozen? ⟨g, o, none⟩ = false := fun o => by rw [hW1]; simp [rf]
    have gW : g < W1.heap.size := by rw [hW1]; simpa using g1'
    clear hW1 r5 r6 r7 r8 rf g1' gA
    have hop1 : Hid (Own diE 91 W1 base p.v p.n.names) := HOP.out.only on1.out HGN.out
    have hbW : base ≤ W1.heap.size := Nat.le_trans hbs on1.out.size
    go_wp2_with fail
    refine (markD_any p.n.names p.v base _ W1 hbW hop1.out (by have := HPN.out; omega) (by omega) (by omega)).mono ?_
    rintro e w2 ⟨rfl, o2, q2⟩
    have t7 := (q2.cell (b := g) (o := j * 9 + 7) gW (fun h => HGN.out g h.symm rfl)).trans s7
    have t8 := (q2.cell (b := g) (o := j * 9 + 8) gW (fun h => HGN.out g h.symm rfl)).trans s8
    have tf : ∀ o, w2.frozen? ⟨g, o, none⟩ = false := fun o => (q2.frozen (b := g) (o := o) gW (fun h => HGN.out g h.symm rfl)).trans (sf o)
    have O2 := Hid.intro o2
    have Q2 := Hid.intro q2
    have ownB : Hid (w2.ownsRow base 65 9 (.slice (some ⟨g, 0, none⟩) n cap) n (((((((ndE.f (markNL q M j)).set (j * 9) (.int .i64 (q0))).set (j * 9 + 1) (.int .i64 (q0 + 1))).set (j * 9 + 2) (.int .i64 (q0 + 1 + 1))).set (j * 9 + 3) (.int .i64 (q0 + 1 + 1 + 1))).set (j * 9 + 4) (.int .i64 (q0 + 1 + 1 + 1 + 1))).set (j * 9 + 5) (.string (markI (q0 + 1 + 1 + 1 + 1 + 1))))) := by
     unfold Hid
     refine ⟨own1.out.1, ?_⟩
     rcases own1.out.2 with hn | ⟨g', cap', cur, hv, hg, hgg, rest⟩
     ·exact .inl hn
     ·have hgg' : g' = g := by simp only [Value.slice.injEq, Option.some.injEq, Addr.mk.injEq, and_true, true_and] at hv; exact hv.1.symm
      exact .inr ⟨g', cap', cur, hv, hg, (q2.block g' (by rw [hgg']; exact gW) (by rw [hgg']; exact fun h => HGN.out g h.symm rfl)).trans hgg, rest⟩
    clear s6 s7 s8 sf own1 o2 q2 hop1
    have hfin : Hid (∀ a b : Int, a = q0 + 6 + 2 * (p.n.names.length : Nat) → b = q0 + 7 + 2 * (p.n.names.length : Nat) → MkS w base top g n cap q M (j + 1) ((w2.setCell ⟨g, j * 9 + 7, none⟩ (.int .i64 a)).setCell ⟨g, j * 9 + 8, none⟩ (.int .i64 b))) := by
     intro a b ha hb2
     subst ha hb2
     have hset : markNL q M (j + 1) = (markNL q M j).set j (mkN q0 p) := by rw [markNL, HAT.out]
     have hO2 : Only (fun k => some k = p.v.ownBlock ∨ k = g) wr ((w2.setCell ⟨g, j * 9 + 7, none⟩ (.int .i64 (q0 + 6 + 2 * (p.n.names.length : Nat)))).setCell ⟨g, j * 9 + 8, none⟩ (.int .i64 (q0 + 7 + 2 * (p.n.names.length : Nat)))) := (((on1.out.mono (fun k _ h => Or.inr h)).trans (Q2.out.mono (fun k _ h => Or.inl h))).setCell (p := ⟨g, j * 9 + 7, none⟩) (.inr rfl) _).setCell (p := ⟨g, j * 9 + 8, none⟩) (.inr rfl) _
     have hOg : Only (fun k => k = g) w2 ((w2.setCell ⟨g, j * 9 + 7, none⟩ (.int .i64 (q0 + 6 + 2 * (p.n.names.length : Nat)))).setCell ⟨g, j * 9 + 8, none⟩ (.int .i64 (q0 + 7 + 2 * (p.n.names.length : Nat)))) := ((Only.refl (fun k => k = g) w2).setCell (p := ⟨g, j * 9 + 7, none⟩) rfl _).setCell (p := ⟨g, j * 9 + 8, none⟩) rfl _
     refine ⟨?_, ?_, ?_⟩
     ·have hx := (World.ownsRow.stored (World.ownsRow.stored ownB.out (j * 9 + 7) (.int .i64 (q0 + 6 + 2 * (p.n.names.length : Nat)))).1 (j * 9 + 8) (.int .i64 (q0 + 7 + 2 * (p.n.names.length : Nat)))).1
      have he := set9 (markNL q M j) j HJS.out (mkN q0 p) (by rw [mkN_v, HSJ.out])
      unfold Own
      rw [markNL_len, HN.out, hset, he]
      simp only [mkN]
      simp only [Int.add_assoc, Int.reduceAdd] at hx ⊢
      exact hx
     ·intro i hi2
      by_cases hij : i = j
      ·subst hij
       have e1 : (markNL q M (i + 1))[i] = mkN q0 p := by rw [markNL_get q M (i + 1) i (by omega) hi2, HAT.out]
       rw [e1, mkN_v]
       have h3 := O2.out.only hOg HGN.out
       simp only [mkN]
       have h4 : markDL (q0 + 6) p.n.names p.n.names.length = markDL (q0 + 1 + 1 + 1 + 1 + 1 + 1) p.n.names p.n.names.length := by
        rw [show q0 + 6 = q0 + 1 + 1 + 1 + 1 + 1 + 1 by omega]
       rw [h4]
       exact h3
      ·have hi3 : i < (markNL q M j).length := by rw [markNL_len] at hi2 ⊢; exact hi2
       have e1 : (markNL q M (j + 1))[i] = (markNL q M j)[i] := by simp only [markNL]; rw [List.getElem_set_ne (by omega)]
       rw [e1]
       refine (HS.out.nms i hi3).only hO2 (fun k hk h => ?_)
       have hkM := markNL_v q M j i hi3
       rw [hkM] at hk
       rcases h with h | h
       ·have hjM : j < M.length := by have := HN.out; omega
        have hiM : i < M.length := by rw [markNL_len] at hi3; exact hi3
        have hpv : M[j].v.ownBlock = some k := by rw [HP.out]; exact h.symm
        rcases Nat.lt_or_gt_of_ne hij with hc | hc
        ·have := HI.out i j hc hjM k k hk hpv; omega
        ·have := HI.out j i hc hiM k k hpv hk; omega
       ·have hnn := HS.out.nms i hi3
        rw [hkM] at hnn
        exact own_apart (T := 65) (U := 91) (by decide) HS.out.own hnn rfl (h ▸ hk)
     ·refine HS.out.bel.then hO2 (fun k hk h => ?_)
      rcases h with h | h
      ·have h5 := HTN.out M[j] (List.getElem_mem hjM) k (by rw [HP.out]; exact h.symm)
       exact ⟨(HOP.out.lt k h.symm).1, h5⟩
      ·have h5 := (HS.out.own.lt g rfl).1
       exact ⟨by omega, by omega⟩
    have hpn := HPN.out
    clear HS HOP O2 Q2 ownB on1 HGN HSJ HAT HP HJS HML
    go_wp2
    go_roundw
    case rel => exact ⟨j + 1, q0 + 8 + 2 * (p.n.names.length : Nat), by go_num, by go_num, HKN.out.symm, by omega, hfin.out _ _ (by omega) (by omega)⟩
    case measure => simp [intOf]; omega
   ·obtain rfl : j = n := by omega
    have HV : Hid (VolO wr base (.slice (some ⟨g, 0, none⟩) j cap) (markNL q M j)) := ⟨HS.out.own, fun p hp => by
     obtain ⟨i, hi, rfl⟩ := List.mem_iff_getElem.1 hp
     exact HS.out.nms i hi⟩
    have HBE := Hid.intro HS.out.bel
    clear HS
    have hqe : q0 = kqI q M j := HQ.out
    go_wp2
    go_ret
    exact ⟨ret_int hqe, HV.out, HBE.out⟩
end Go.Proofs.Ytpccnoiepmedeaa
