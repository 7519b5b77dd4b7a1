/- ReadTenant of the program: a cursor's panic is recovered. -/
import Derived.Test.YtpccnoiepmedeaaXCurTen
import Derived.Test.YtpccnoiepmedeaaTWholeV
import Derived.Test.YtpccnoiepmedeaaXTenOkI
namespace Go.Proofs.Ytpccnoiepmedeaa
open Go.RowKit
set_option linter.unusedVariables false
/-- The tenant of which l is made. -/
noncomputable def outT (l : List UInt8) : Option (Int × List Nd × Int × List Nt × List Se) := (tenO l).bind fun x => if x.2 = [] ∧ tenB x.1 = true then some x.1 else none
/-- What is handed back: the volume's memory below g3, the notes' and the sessions' behind it. -/
structure TnO (w' : World) (B g3 : Nat) (t : Ten) : Prop where
 vol : VolO w' B t.u t.L
 aud : Own ntE 42 w' (g3 + 1) t.va t.A
 ses : Own seE 48 w' (g3 + 1) t.vs t.S
 lt : B < g3
 vt : ∀ k, t.u.ownBlock = some k → k < g3
 vn : ∀ p ∈ t.L, ∀ k, p.v.ownBlock = some k → k < g3
 inc : Inc t.L
theorem TnO.only {w w' : World} {B g3 : Nat} {t : Ten} {S : Nat → Prop} (h : TnO w B g3 t) (ho : Only S w w') (hs : ∀ k, B ≤ k → ¬ S k) : TnO w' B g3 t :=
 ⟨⟨h.vol.own.only ho (fun k hk => hs k (h.vol.own.lt k hk).1), fun p hp => (h.vol.nms p hp).only ho (fun k hk => hs k ((h.vol.nms p hp).lt k hk).1)⟩, h.aud.only ho (fun k hk => hs k (by have := (h.aud.lt k hk).1; have := h.lt; omega)), h.ses.only ho (fun k hk => hs k (by have := (h.ses.lt k hk).1; have := h.lt; omega)), h.lt, h.vt, h.vn, h.inc⟩
theorem TnO.kept {w w' : World} {B g3 : Nat} {t : Ten} (h : TnO w B g3 t) (hb : Below w.heap.size w w') : TnO w' B g3 t :=
 ⟨h.vol.kept hb, h.aud.kept hb, h.ses.kept hb, h.lt, h.vt, h.vn, h.inc⟩
theorem TnO.lower {w : World} {B B' g3 : Nat} {t : Ten} (h : TnO w B g3 t) (hb : B' ≤ B) : TnO w B' g3 t :=
 ⟨h.vol.lower hb, h.aud, h.ses, by have := h.lt; omega, h.vt, h.vn, h.inc⟩
theorem TnO.rowAll {w : World} {B g3 : Nat} {t : Ten} (h : TnO w B g3 t) : TenR w w.heap.size t := ⟨h.vol.rowAll, h.aud.rowAll, h.ses.rowAll⟩
/-- What ReadTenant hands back. -/
def RdT (l : List UInt8) (w : World) (e : Ending) (w' : World) : Prop :=
 ((∃ (t : Ten) (g3 : Nat), e = .returned (.tuple #[t.v, .bool true]) ∧ Hid (outT l = some t.key) ∧ Hid (TnO w' w.heap.size g3 t)) ∨ (e = .returned (.tuple #[.agg zTn, .bool false]) ∧ Hid (outT l = none))) ∧ Below w.heap.size w w'
/-- The texts and numbers of what is read are such as there can be. -/
theorem pie_wf {l p r : List UInt8} (h : pieO l = some (p, r)) : p.length ≤ l.length ∧ r.length ≤ l.length := by
 have g := pieO_out h
 have l1 := pie_le g
 have := congrArg List.length g.2
 simp only [List.length_append] at this
 omega
theorem cnt_wf {m n : Nat} {l r : List UInt8} (h : cntO m l = some (n, r)) : r.length ≤ l.length := by
 unfold cntO at h
 obtain ⟨⟨x, y⟩, h11, h12⟩ := bind_out h
 split at h12
 ·simp only [Option.some.injEq, Prod.mk.injEq] at h12
  obtain ⟨rfl, rfl⟩ := h12
  exact Nat.le_of_lt (num_le (numO_out h11))
 ·cases h12
theorem insV_wf {l r : List UInt8} {v : Nat × List Nd} (h : insVO l = some (v, r)) (hl : l.length ≤ 1048576) : (∀ x ∈ v.2, NdW x) ∧ r.length ≤ l.length := by
 unfold insVO at h
 obtain ⟨⟨p, r1⟩, h1, h⟩ := bind_out h
 obtain ⟨⟨x, r2⟩, h2, h⟩ := bind_out h
 dsimp only at h1 h2 h
 obtain ⟨p1, p2⟩ := pie_wf h1
 split at h
 ·simp only [Option.some.injEq, Prod.mk.injEq] at h
  obtain ⟨rfl, rfl⟩ := h
  obtain ⟨nx, L⟩ := x
  exact ⟨vol_wf h2 (by omega), p2⟩
 ·cases h
theorem notsO_wf (n : Nat) : ∀ (l : List UInt8) (L : List Nt) (r : List UInt8), notsO n l = some (L, r) → r.length ≤ l.length := by
 induction n with
 | zero =>
  intro l L r h
  simp only [notsO, Option.some.injEq, Prod.mk.injEq] at h
  obtain ⟨rfl, rfl⟩ := h
  exact Nat.le_refl _
 | succ n ih =>
  intro l L r h
  rw [notsO] at h
  obtain ⟨⟨x, l1⟩, h1, h⟩ := bind_out h
  obtain ⟨⟨L2, l2⟩, h2, h⟩ := bind_out h
  simp only [Option.some.injEq, Prod.mk.injEq] at h
  obtain ⟨rfl, rfl⟩ := h
  have h3 := ih l1 L2 l2 h2
  unfold notO at h1
  obtain ⟨⟨a, l3⟩, g1, h1⟩ := bind_out h1
  obtain ⟨⟨b, l4⟩, g2, h1⟩ := bind_out h1
  obtain ⟨⟨c, l5⟩, g3, h1⟩ := bind_out h1
  obtain ⟨⟨d, l6⟩, g4, h1⟩ := bind_out h1
  obtain ⟨⟨e, l7⟩, g5, h1⟩ := bind_out h1
  dsimp only at g1 g2 g3 g4 g5
  simp only [Option.some.injEq, Prod.mk.injEq] at h1
  obtain ⟨rfl, rfl⟩ := h1
  have m1 := num_le (numO_out g1)
  have m2 := num_le (numO_out g2)
  have m3 := num_le (numO_out g3)
  have m4 := num_le (numO_out g4)
  have m5 := num_le (numO_out g5)
  omega
theorem sesO_wf {l r : List UInt8} {a : Se} (h : sesO l = some (a, r)) (hl : l.length ≤ 1048576) : a.r.d.size ≤ 1048576 ∧ r.length ≤ l.length := by
 unfold sesO at h
 obtain ⟨⟨x, l3⟩, g1, h⟩ := bind_out h
 obtain ⟨⟨b, l4⟩, g2, h⟩ := bind_out h
 obtain ⟨⟨c, l5⟩, g3, h⟩ := bind_out h
 obtain ⟨⟨d, l6⟩, g4, h⟩ := bind_out h
 dsimp only at g1 g2 g3 g4
 simp only [Option.some.injEq, Prod.mk.injEq] at h
 obtain ⟨rfl, rfl⟩ := h
 have m1 := num_le (numO_out g1)
 have m2 := num_le (numO_out g2)
 have m3 := num_le (numO_out g3)
 unfold insRO at g4
 obtain ⟨⟨p, l7⟩, k1, g4⟩ := bind_out g4
 obtain ⟨⟨v, l8⟩, k2, g4⟩ := bind_out g4
 dsimp only at k1 k2 g4
 simp only [Option.some.injEq, Prod.mk.injEq] at g4
 obtain ⟨rfl, rfl⟩ := g4
 obtain ⟨p1, p2⟩ := pie_wf k1
 have m4 := num_le (numO_out k2)
 have hs : (⟨l8.toArray⟩ : ByteArray).size = l8.length := by
  show l8.toArray.size = _
  simp
 refine ⟨?_, by omega⟩
 show (⟨l8.toArray⟩ : ByteArray).size ≤ 1048576
 omega
theorem sessO_wf (n : Nat) : ∀ (l : List UInt8) (L : List Se) (r : List UInt8), sessO n l = some (L, r) → l.length ≤ 1048576 → (∀ e ∈ L, e.r.d.size ≤ 1048576) ∧ r.length ≤ l.length := by
 induction n with
 | zero =>
  intro l L r h hl
  simp only [sessO, Option.some.injEq, Prod.mk.injEq] at h
  obtain ⟨rfl, rfl⟩ := h
  exact ⟨fun e he => (by cases he), Nat.le_refl _⟩
 | succ n ih =>
  intro l L r h hl
  rw [sessO] at h
  obtain ⟨⟨x, l1⟩, h1, h⟩ := bind_out h
  obtain ⟨⟨L2, l2⟩, h2, h⟩ := bind_out h
  simp only [Option.some.injEq, Prod.mk.injEq] at h
  obtain ⟨rfl, rfl⟩ := h
  obtain ⟨w1, w2⟩ := sesO_wf h1 hl
  dsimp only at h2 w2
  obtain ⟨w3, w4⟩ := ih l1 L2 l2 h2 (by omega)
  refine ⟨fun y hy => ?_, by omega⟩
  rcases List.mem_cons.1 hy with rfl | hy
  ·exact w1
  ·exact w3 y hy
theorem ten_wf {l r : List UInt8} {t : Ten} (h : tenO l = some (t.key, r)) (hl : l.length ≤ 1048576) : TenW t ∧ r.length ≤ l.length := by
 unfold tenO at h
 obtain ⟨⟨v, l1⟩, g1, h⟩ := bind_out h
 obtain ⟨⟨k, l2⟩, g2, h⟩ := bind_out h
 obtain ⟨⟨n, l3⟩, g3, h⟩ := bind_out h
 obtain ⟨⟨a, l4⟩, g4, h⟩ := bind_out h
 obtain ⟨⟨m, l5⟩, g5, h⟩ := bind_out h
 obtain ⟨⟨s, l6⟩, g6, h⟩ := bind_out h
 dsimp only at g1 g2 g3 g4 g5 g6
 simp only [Option.some.injEq, Prod.mk.injEq, Ten.key] at h
 obtain ⟨⟨_, e2, _, _, e5⟩, rfl⟩ := h
 obtain ⟨w1, w2⟩ := insV_wf g1 hl
 have m2 := num_le (numO_out g2)
 have m3 := cnt_wf g3
 have m4 := notsO_wf _ _ _ _ g4
 have m5 := cnt_wf g5
 obtain ⟨w3, w4⟩ := sessO_wf _ _ _ _ g6 (by omega)
 refine ⟨⟨fun p hp => w1 p.n (by rw [e2]; exact List.mem_map_of_mem hp), fun e he => ?_⟩, by omega⟩
 have := w3 e (by rw [e5]; exact he)
 omega
abbrev zTnV : Value := .agg zTn
def CaughtT (g : Nat) (w w' : World) : Prop := Only (fun k => k = g ∨ k = g + 1) w w' ∧ (∀ o, w'.cell? ⟨g, o, none⟩ = zTn[o]?) ∧ w'.cell? ⟨g + 1, 0, none⟩ = some (.bool false)
set_option maxRecDepth 100000 in
set_option maxHeartbeats 1000000 in
theorem catchT_idle (g : Nat) (w : World) :
  CallsD Try.prog 33 #[.pointer (some ⟨g, 0, none⟩), .pointer (some ⟨g + 1, 0, none⟩)] .returning w fun e u' w' => e = .returned (.tuple #[]) ∧ u' = .returning ∧ w' = w := by
 refine callsD_of_wpS Try.func33 rfl fun c₀ cs hu => ?_
 apply wpS_seq
 apply wpS_region
 simp [wpOpsS, go_sem, recoverD, hu, Try.ntmps33, Exit.thenS]
 refine wpS_cond (t := false) (by simp [Act.eval, Array.replicate]) ?_
 simp only [Bool.false_eq_true, if_false]
 refine wpS_of_wp (wp_skip ?_)
 cases c₀
 simp_all [bodyPostS, results, Try.results33]
theorem caughtT_mk {g : Nat} {w w0 : World} (h0 : Only (fun k => k = g ∨ k = g + 1) w w0) {a0 a1 a2 a3 a4 b0 : Value} (k0 : w0.cell? ⟨g, 0, none⟩ = some a0) (k1 : w0.cell? ⟨g, 1, none⟩ = some a1) (k2 : w0.cell? ⟨g, 2, none⟩ = some a2) (k3 : w0.cell? ⟨g, 3, none⟩ = some a3) (k4 : w0.cell? ⟨g, 4, none⟩ = some a4) (l0 : w0.cell? ⟨g + 1, 0, none⟩ = some b0)
  (W : World) (hW : W = (((((w0.setCell ⟨g, 0, none⟩ (a0)).setCell ⟨g, 1, none⟩ (a1)).setCell ⟨g, 2, none⟩ (a2)).setCell ⟨g, 3, none⟩ (a3)).setCell ⟨g, 4, none⟩ (a4)).setCell ⟨g + 1, 0, none⟩ (b0)) :
  Only (fun k => k = g ∨ k = g + 1) w W ∧ ∀ q, W.cell? q = w0.cell? q := by
 subst hW
 refine ⟨?_, ?_⟩
 ·exact (((((h0.setCell (p := ⟨g, 0, none⟩) (.inl rfl) a0).setCell (p := ⟨g, 1, none⟩) (.inl rfl) a1).setCell (p := ⟨g, 2, none⟩) (.inl rfl) a2).setCell (p := ⟨g, 3, none⟩) (.inl rfl) a3).setCell (p := ⟨g, 4, none⟩) (.inl rfl) a4).setCell (p := ⟨g + 1, 0, none⟩) (.inr rfl) b0
 ·exact reset1 (reset1 (reset1 (reset1 (reset1 (reset1 (fun _ => rfl) k0) k1) k2) k3) k4) l0
set_option maxRecDepth 100000 in
set_option maxHeartbeats 1000000 in
theorem catchT_panicking (g : Nat) (pv : Value) (u : TypeId) (w : World) (X : Blk w g zTn) (Y : Blk w (g + 1) #[.bool false]) :
  CallsD Try.prog 33 #[.pointer (some ⟨g, 0, none⟩), .pointer (some ⟨g + 1, 0, none⟩)] (.panicking ({ v := .iface u pv, recovered := false } :: [])) w fun e u' w' => e = .returned (.tuple #[]) ∧ u' = .panicking ({ v := .iface u pv, recovered := true } :: []) ∧ CaughtT g w w' := by
 refine callsD_of_wpS Try.func33 rfl fun c₀ cs hu => ?_
 apply wpS_seq
 apply wpS_region
 simp [wpOpsS, go_sem, recoverD, hu, Try.ntmps33, Exit.thenS]
 refine wpS_cond (t := true) (by simp [Act.eval, Array.replicate]) ?_
 simp only [if_true]
 refine wpS_of_wp ?_
 have hg := Y.hi
 have hne : ¬ g + 1 = g := by omega
 have hne2 : ¬ g = g + 1 := by omega
 have k0 : (w.alloc (.cells #[.int .i64 0, .slice none 0 0, .int .i64 0, .slice none 0 0, .slice none 0 0] 28)).cell? ⟨g, 0, none⟩ = some (.int .i64 0) := (World.cell?_alloc_past _ _ _ (by have := X.hi; omega)).trans (X.cell 0)
 have f0 : (w.alloc (.cells #[.int .i64 0, .slice none 0 0, .int .i64 0, .slice none 0 0, .slice none 0 0] 28)).frozen? ⟨g, 0, none⟩ = false := (World.frozen?_alloc_past _ _ _ (by have := X.hi; omega)).trans (X.fro 0)
 have k1 : (w.alloc (.cells #[.int .i64 0, .slice none 0 0, .int .i64 0, .slice none 0 0, .slice none 0 0] 28)).cell? ⟨g, 1, none⟩ = some (.slice none 0 0) := (World.cell?_alloc_past _ _ _ (by have := X.hi; omega)).trans (X.cell 1)
 have f1 : (w.alloc (.cells #[.int .i64 0, .slice none 0 0, .int .i64 0, .slice none 0 0, .slice none 0 0] 28)).frozen? ⟨g, 1, none⟩ = false := (World.frozen?_alloc_past _ _ _ (by have := X.hi; omega)).trans (X.fro 1)
 have k2 : (w.alloc (.cells #[.int .i64 0, .slice none 0 0, .int .i64 0, .slice none 0 0, .slice none 0 0] 28)).cell? ⟨g, 2, none⟩ = some (.int .i64 0) := (World.cell?_alloc_past _ _ _ (by have := X.hi; omega)).trans (X.cell 2)
 have f2 : (w.alloc (.cells #[.int .i64 0, .slice none 0 0, .int .i64 0, .slice none 0 0, .slice none 0 0] 28)).frozen? ⟨g, 2, none⟩ = false := (World.frozen?_alloc_past _ _ _ (by have := X.hi; omega)).trans (X.fro 2)
 have k3 : (w.alloc (.cells #[.int .i64 0, .slice none 0 0, .int .i64 0, .slice none 0 0, .slice none 0 0] 28)).cell? ⟨g, 3, none⟩ = some (.slice none 0 0) := (World.cell?_alloc_past _ _ _ (by have := X.hi; omega)).trans (X.cell 3)
 have f3 : (w.alloc (.cells #[.int .i64 0, .slice none 0 0, .int .i64 0, .slice none 0 0, .slice none 0 0] 28)).frozen? ⟨g, 3, none⟩ = false := (World.frozen?_alloc_past _ _ _ (by have := X.hi; omega)).trans (X.fro 3)
 have k4 : (w.alloc (.cells #[.int .i64 0, .slice none 0 0, .int .i64 0, .slice none 0 0, .slice none 0 0] 28)).cell? ⟨g, 4, none⟩ = some (.slice none 0 0) := (World.cell?_alloc_past _ _ _ (by have := X.hi; omega)).trans (X.cell 4)
 have f4 : (w.alloc (.cells #[.int .i64 0, .slice none 0 0, .int .i64 0, .slice none 0 0, .slice none 0 0] 28)).frozen? ⟨g, 4, none⟩ = false := (World.frozen?_alloc_past _ _ _ (by have := X.hi; omega)).trans (X.fro 4)
 have l0 : (w.alloc (.cells #[.int .i64 0, .slice none 0 0, .int .i64 0, .slice none 0 0, .slice none 0 0] 28)).cell? ⟨g + 1, 0, none⟩ = some (.bool false) := (World.cell?_alloc_past _ _ _ Y.hi).trans (Y.cell 0)
 have m0 : (w.alloc (.cells #[.int .i64 0, .slice none 0 0, .int .i64 0, .slice none 0 0, .slice none 0 0] 28)).frozen? ⟨g + 1, 0, none⟩ = false := (World.frozen?_alloc_past _ _ _ Y.hi).trans (Y.fro 0)
 go_wp2
 obtain ⟨o1, o2⟩ := caughtT_mk (w := w) (Only.alloc (Only.refl _ _) _) k0 k1 k2 k3 k4 l0 _ rfl
 have HK := Hid.intro (show CaughtT g w _ from ⟨o1, fun o => (o2 _).trans ((World.cell?_alloc_past _ _ _ (by omega)).trans (X.cell o)), (o2 _).trans l0⟩)
 clear o1 o2
 exact ⟨rfl, _, rfl, .tuple #[], by simp [results, Try.results33, go_sem], rfl, rfl, HK.out⟩
set_option maxRecDepth 100000 in
set_option maxHeartbeats 8000000 in
theorem wholeT_any (s : ByteArray) (w : World) (hs : s.size ≤ 1048576) :
  Calls Try.prog 14 #[.string s, .func (Fn.func 15) #[] #[], .func (Fn.func 16) #[] #[]] w (RdT s.data.toList w) := by
 have hmf : ∀ (fn : Fn) (first cap : Array Value) (w : World), (Instr.makeFunc fn first cap).run Try.prog w = .ok (.func fn first cap) w := fun _ _ _ _ => rfl
 go_enter_defers Try.func14, Try.ntmps14
 go_wp2_with fail
 obtain ⟨W, hW, bW, zW, c0, f0, c1, f1, c2, f2⟩ := boxed3 w zTn #[.bool false] #[.string s] 28 4 74
 simp only [hW]
 have hC : CurAt W (w.heap.size + 1 + 1) s := ⟨by omega, c2 0, f2 0⟩
 have X : Blk W w.heap.size zTn := ⟨by omega, c0, f0⟩
 have Y : Blk W (w.heap.size + 1) #[.bool false] := ⟨by omega, c1, f1⟩
 clear hW c0 f0 c1 f1 c2 f2
 refine (tenantC_any (w.heap.size + 1 + 1) s W hC hs).mono ?_
 rintro e w1 (⟨t, g3, q', rfl, HO, hc, sq, HM1, HM2, hon⟩ | ⟨⟨pv, rfl⟩, HN, hon⟩)
 ·have X1 := X.only hon (by omega)
  have Y1 := Y.only hon (by omega)
  have B1 : Below w.heap.size w w1 := bW.trans (hon.below (by omega) (fun k hk h => by omega))
  have HM : Hid (TnO w1 W.heap.size g3 t) := ⟨HM1.out.1, HM1.out.2.1, HM1.out.2.2, HM2.out.1, HM2.out.2.1, HM2.out.2.2.1, HM2.out.2.2.2⟩
  have HWF : Hid (TenW t) := (ten_wf HO.out (by simpa using hs)).1
  clear HM1 HM2
  go_upto_region 4 with fail
  obtain ⟨W2, hW2, bW2, zW2, cW2, fW2⟩ := boxed w1 t.arr 28
  simp only [hW2]
  have hq := (hc.kept bW2).cell
  have X2 := X1.kept bW2
  have Y2 := Y1.kept bW2
  have B2 := B1.trans (bW2.mono B1.size)
  have hlt1 := hc.lt
  replace HM : Hid (TnO W2 W.heap.size g3 t) := HM.out.kept bW2
  clear X Y hon bW hC hc X1 Y1 B1 hW2 bW2
  by_cases hz : q'.size = 0
  ·have y1 := bs_mt hz
   have hq0 : q'.data.toList = [] := by
    have := empty_of hz
    rw [this]
   rw [hq0] at HO
   go_wp2_with fail
   refine (implTenantOk_any t W2.heap.size W2 (Nat.le_refl _) HM.out.rowAll HWF.out).mono ?_
   rintro e w3 ⟨rfl, b3⟩
   have X3 := X2.kept b3
   have Y3 := Y2.kept b3
   have B3 := B2.trans (b3.mono B2.size)
   have cW3 := keepC b3 (by omega) cW2
   have z3 := b3.size
   replace HM : Hid (TnO w3 W.heap.size g3 t) := HM.out.kept b3
   clear X2 Y2 B2 b3 cW2 fW2 hq HWF
   cases hcb : tenB t.key with
   | false =>
    have hne : ¬ w.heap.size + 1 = w.heap.size := by omega
    have hne2 : ¬ w.heap.size = w.heap.size + 1 := by omega
    have k0 : (w3.alloc (.cells #[.int .i64 0, .slice none 0 0, .int .i64 0, .slice none 0 0, .slice none 0 0] 28)).cell? ⟨w.heap.size, 0, none⟩ = some (.int .i64 0) := (World.cell?_alloc_past _ _ _ (by have := X3.hi; omega)).trans (X3.cell 0)
    have f0 : (w3.alloc (.cells #[.int .i64 0, .slice none 0 0, .int .i64 0, .slice none 0 0, .slice none 0 0] 28)).frozen? ⟨w.heap.size, 0, none⟩ = false := (World.frozen?_alloc_past _ _ _ (by have := X3.hi; omega)).trans (X3.fro 0)
    have k1 : (w3.alloc (.cells #[.int .i64 0, .slice none 0 0, .int .i64 0, .slice none 0 0, .slice none 0 0] 28)).cell? ⟨w.heap.size, 1, none⟩ = some (.slice none 0 0) := (World.cell?_alloc_past _ _ _ (by have := X3.hi; omega)).trans (X3.cell 1)
    have f1 : (w3.alloc (.cells #[.int .i64 0, .slice none 0 0, .int .i64 0, .slice none 0 0, .slice none 0 0] 28)).frozen? ⟨w.heap.size, 1, none⟩ = false := (World.frozen?_alloc_past _ _ _ (by have := X3.hi; omega)).trans (X3.fro 1)
    have k2 : (w3.alloc (.cells #[.int .i64 0, .slice none 0 0, .int .i64 0, .slice none 0 0, .slice none 0 0] 28)).cell? ⟨w.heap.size, 2, none⟩ = some (.int .i64 0) := (World.cell?_alloc_past _ _ _ (by have := X3.hi; omega)).trans (X3.cell 2)
    have f2 : (w3.alloc (.cells #[.int .i64 0, .slice none 0 0, .int .i64 0, .slice none 0 0, .slice none 0 0] 28)).frozen? ⟨w.heap.size, 2, none⟩ = false := (World.frozen?_alloc_past _ _ _ (by have := X3.hi; omega)).trans (X3.fro 2)
    have k3 : (w3.alloc (.cells #[.int .i64 0, .slice none 0 0, .int .i64 0, .slice none 0 0, .slice none 0 0] 28)).cell? ⟨w.heap.size, 3, none⟩ = some (.slice none 0 0) := (World.cell?_alloc_past _ _ _ (by have := X3.hi; omega)).trans (X3.cell 3)
    have f3 : (w3.alloc (.cells #[.int .i64 0, .slice none 0 0, .int .i64 0, .slice none 0 0, .slice none 0 0] 28)).frozen? ⟨w.heap.size, 3, none⟩ = false := (World.frozen?_alloc_past _ _ _ (by have := X3.hi; omega)).trans (X3.fro 3)
    have k4 : (w3.alloc (.cells #[.int .i64 0, .slice none 0 0, .int .i64 0, .slice none 0 0, .slice none 0 0] 28)).cell? ⟨w.heap.size, 4, none⟩ = some (.slice none 0 0) := (World.cell?_alloc_past _ _ _ (by have := X3.hi; omega)).trans (X3.cell 4)
    have f4 : (w3.alloc (.cells #[.int .i64 0, .slice none 0 0, .int .i64 0, .slice none 0 0, .slice none 0 0] 28)).frozen? ⟨w.heap.size, 4, none⟩ = false := (World.frozen?_alloc_past _ _ _ (by have := X3.hi; omega)).trans (X3.fro 4)
    have l0 : (w3.alloc (.cells #[.int .i64 0, .slice none 0 0, .int .i64 0, .slice none 0 0, .slice none 0 0] 28)).cell? ⟨w.heap.size + 1, 0, none⟩ = some (.bool false) := (World.cell?_alloc_past _ _ _ Y3.hi).trans (Y3.cell 0)
    have m0 : (w3.alloc (.cells #[.int .i64 0, .slice none 0 0, .int .i64 0, .slice none 0 0, .slice none 0 0] 28)).frozen? ⟨w.heap.size + 1, 0, none⟩ = false := (World.frozen?_alloc_past _ _ _ Y3.hi).trans (Y3.fro 0)
    go_wp2
    obtain ⟨o1, o2⟩ := caughtT_mk (w := w3) (Only.alloc (Only.refl _ _) _) k0 k1 k2 k3 k4 l0 _ rfl
    have r0 := (o2 _).trans k0
    have r1 := (o2 _).trans k1
    have r2 := (o2 _).trans k2
    have r3 := (o2 _).trans k3
    have r4 := (o2 _).trans k4
    have r9 := (o2 _).trans l0
    have B9 := B3.trans (o1.below B3.size (fun k hk h => by omega))
    clear o1 o2 k0 k1 k2 k3 k4 l0 f0 f1 f2 f3 f4 m0
    generalize ((((((w3.alloc (.cells #[.int .i64 0, .slice none 0 0, .int .i64 0, .slice none 0 0, .slice none 0 0] 28)).setCell ⟨w.heap.size, 0, none⟩ (.int .i64 0)).setCell ⟨w.heap.size, 1, none⟩ (.slice none 0 0)).setCell ⟨w.heap.size, 2, none⟩ (.int .i64 0)).setCell ⟨w.heap.size, 3, none⟩ (.slice none 0 0)).setCell ⟨w.heap.size, 4, none⟩ (.slice none 0 0)).setCell ⟨w.heap.size + 1, 0, none⟩ (.bool false) = V at r0 r1 r2 r3 r4 r9 B9 ⊢
    have ho : Hid (outT s.data.toList = none) := by
     unfold Hid outT
     rw [HO.out]
     simp only [Option.bind_some]
     rw [if_neg (fun h => by rw [h.2] at hcb; cases hcb)]
    refine leaves_cons (f := 33) (args := #[.pointer (some ⟨w.heap.size, 0, none⟩), .pointer (some ⟨w.heap.size + 1, 0, none⟩)]) (by simp) (by simp [go_sem]) ?_
    refine (catchT_idle w.heap.size V).mono ?_
    rintro e u' w'' ⟨rfl, rfl, rfl⟩
    exact ⟨_, by simp [results, Try.results14, go_sem, r0, r1, r2, r3, r4, r9], .inr ⟨rfl, ho⟩, B9⟩
   | true =>
    have ho : Hid (outT s.data.toList = some t.key) := by
     unfold Hid outT
     rw [HO.out]
     simp [hcb]
    clear HO hcb
    have hne : ¬ w.heap.size + 1 = w.heap.size := by omega
    have hne2 : ¬ w.heap.size = w.heap.size + 1 := by omega
    have hne3 : ¬ w.heap.size = w1.heap.size := by omega
    have hne4 : ¬ w.heap.size + 1 = w1.heap.size := by omega
    have e0 : w3.cell? ⟨w1.heap.size, 0, none⟩ = some (.int .i64 t.nx) := cW3 0
    have e1 : w3.cell? ⟨w1.heap.size, 1, none⟩ = some (.slice t.ua t.L.length t.uc) := cW3 1
    have e2 : w3.cell? ⟨w1.heap.size, 2, none⟩ = some (.int .i64 t.tk) := cW3 2
    have e3 : w3.cell? ⟨w1.heap.size, 3, none⟩ = some (.slice t.aa t.A.length t.ac) := cW3 3
    have e4 : w3.cell? ⟨w1.heap.size, 4, none⟩ = some (.slice t.sa t.S.length t.sc) := cW3 4
    have k0 : w3.cell? ⟨w.heap.size, 0, none⟩ = some (.int .i64 0) := X3.cell 0
    have f0 : w3.frozen? ⟨w.heap.size, 0, none⟩ = false := X3.fro 0
    have k1 : w3.cell? ⟨w.heap.size, 1, none⟩ = some (.slice none 0 0) := X3.cell 1
    have f1 : w3.frozen? ⟨w.heap.size, 1, none⟩ = false := X3.fro 1
    have k2 : w3.cell? ⟨w.heap.size, 2, none⟩ = some (.int .i64 0) := X3.cell 2
    have f2 : w3.frozen? ⟨w.heap.size, 2, none⟩ = false := X3.fro 2
    have k3 : w3.cell? ⟨w.heap.size, 3, none⟩ = some (.slice none 0 0) := X3.cell 3
    have f3 : w3.frozen? ⟨w.heap.size, 3, none⟩ = false := X3.fro 3
    have k4 : w3.cell? ⟨w.heap.size, 4, none⟩ = some (.slice none 0 0) := X3.cell 4
    have f4 : w3.frozen? ⟨w.heap.size, 4, none⟩ = false := X3.fro 4
    have l0 : w3.cell? ⟨w.heap.size + 1, 0, none⟩ = some (.bool false) := Y3.cell 0
    have m0 : w3.frozen? ⟨w.heap.size + 1, 0, none⟩ = false := Y3.fro 0
    have HOn : Only (fun k => k = w.heap.size ∨ k = w.heap.size + 1) w3 ((((((w3.setCell ⟨w.heap.size, 0, none⟩ (.int .i64 t.nx)).setCell ⟨w.heap.size, 1, none⟩ (.slice t.ua t.L.length t.uc)).setCell ⟨w.heap.size, 2, none⟩ (.int .i64 t.tk)).setCell ⟨w.heap.size, 3, none⟩ (.slice t.aa t.A.length t.ac)).setCell ⟨w.heap.size, 4, none⟩ (.slice t.sa t.S.length t.sc)).setCell ⟨w.heap.size + 1, 0, none⟩ (.bool true)) :=
     ((((((Only.refl (fun k => k = w.heap.size ∨ k = w.heap.size + 1) w3).setCell (p := ⟨w.heap.size, 0, none⟩) (.inl rfl) (.int .i64 t.nx)).setCell (p := ⟨w.heap.size, 1, none⟩) (.inl rfl) (.slice t.ua t.L.length t.uc)).setCell (p := ⟨w.heap.size, 2, none⟩) (.inl rfl) (.int .i64 t.tk)).setCell (p := ⟨w.heap.size, 3, none⟩) (.inl rfl) (.slice t.aa t.A.length t.ac)).setCell (p := ⟨w.heap.size, 4, none⟩) (.inl rfl) (.slice t.sa t.S.length t.sc)).setCell (p := ⟨w.heap.size + 1, 0, none⟩) (.inr rfl) (.bool true)
    have B9 : Below w.heap.size w ((((((w3.setCell ⟨w.heap.size, 0, none⟩ (.int .i64 t.nx)).setCell ⟨w.heap.size, 1, none⟩ (.slice t.ua t.L.length t.uc)).setCell ⟨w.heap.size, 2, none⟩ (.int .i64 t.tk)).setCell ⟨w.heap.size, 3, none⟩ (.slice t.aa t.A.length t.ac)).setCell ⟨w.heap.size, 4, none⟩ (.slice t.sa t.S.length t.sc)).setCell ⟨w.heap.size + 1, 0, none⟩ (.bool true)) := B3.trans (HOn.below B3.size (fun k hk h => by omega))
    have HV : Hid (TnO ((((((w3.setCell ⟨w.heap.size, 0, none⟩ (.int .i64 t.nx)).setCell ⟨w.heap.size, 1, none⟩ (.slice t.ua t.L.length t.uc)).setCell ⟨w.heap.size, 2, none⟩ (.int .i64 t.tk)).setCell ⟨w.heap.size, 3, none⟩ (.slice t.aa t.A.length t.ac)).setCell ⟨w.heap.size, 4, none⟩ (.slice t.sa t.S.length t.sc)).setCell ⟨w.heap.size + 1, 0, none⟩ (.bool true)) w.heap.size g3 t) := (HM.out.only HOn (fun k hk h => by omega)).lower (by omega)
    clear cW3 X3 Y3 HM HOn
    go_wp2
    refine leaves_cons (f := 33) (args := #[.pointer (some ⟨w.heap.size, 0, none⟩), .pointer (some ⟨w.heap.size + 1, 0, none⟩)]) (by simp) (by simp [go_sem]) ?_
    refine (catchT_idle w.heap.size _).mono ?_
    rintro e u' w'' ⟨rfl, rfl, rfl⟩
    exact ⟨.tuple #[t.v, .bool true], by simp [results, Try.results14, go_sem, k0, k1, k2, k3, k4, l0], .inl ⟨t, g3, rfl, ho, HV⟩, B9⟩
  ·have y1 := bs_ne hz
   have hne : ¬ w.heap.size + 1 = w.heap.size := by omega
   have hne2 : ¬ w.heap.size = w.heap.size + 1 := by omega
   have k0 : (W2.alloc (.cells #[.int .i64 0, .slice none 0 0, .int .i64 0, .slice none 0 0, .slice none 0 0] 28)).cell? ⟨w.heap.size, 0, none⟩ = some (.int .i64 0) := (World.cell?_alloc_past _ _ _ (by have := X2.hi; omega)).trans (X2.cell 0)
   have f0 : (W2.alloc (.cells #[.int .i64 0, .slice none 0 0, .int .i64 0, .slice none 0 0, .slice none 0 0] 28)).frozen? ⟨w.heap.size, 0, none⟩ = false := (World.frozen?_alloc_past _ _ _ (by have := X2.hi; omega)).trans (X2.fro 0)
   have k1 : (W2.alloc (.cells #[.int .i64 0, .slice none 0 0, .int .i64 0, .slice none 0 0, .slice none 0 0] 28)).cell? ⟨w.heap.size, 1, none⟩ = some (.slice none 0 0) := (World.cell?_alloc_past _ _ _ (by have := X2.hi; omega)).trans (X2.cell 1)
   have f1 : (W2.alloc (.cells #[.int .i64 0, .slice none 0 0, .int .i64 0, .slice none 0 0, .slice none 0 0] 28)).frozen? ⟨w.heap.size, 1, none⟩ = false := (World.frozen?_alloc_past _ _ _ (by have := X2.hi; omega)).trans (X2.fro 1)
   have k2 : (W2.alloc (.cells #[.int .i64 0, .slice none 0 0, .int .i64 0, .slice none 0 0, .slice none 0 0] 28)).cell? ⟨w.heap.size, 2, none⟩ = some (.int .i64 0) := (World.cell?_alloc_past _ _ _ (by have := X2.hi; omega)).trans (X2.cell 2)
   have f2 : (W2.alloc (.cells #[.int .i64 0, .slice none 0 0, .int .i64 0, .slice none 0 0, .slice none 0 0] 28)).frozen? ⟨w.heap.size, 2, none⟩ = false := (World.frozen?_alloc_past _ _ _ (by have := X2.hi; omega)).trans (X2.fro 2)
   have k3 : (W2.alloc (.cells #[.int .i64 0, .slice none 0 0, .int .i64 0, .slice none 0 0, .slice none 0 0] 28)).cell? ⟨w.heap.size, 3, none⟩ = some (.slice none 0 0) := (World.cell?_alloc_past _ _ _ (by have := X2.hi; omega)).trans (X2.cell 3)
   have f3 : (W2.alloc (.cells #[.int .i64 0, .slice none 0 0, .int .i64 0, .slice none 0 0, .slice none 0 0] 28)).frozen? ⟨w.heap.size, 3, none⟩ = false := (World.frozen?_alloc_past _ _ _ (by have := X2.hi; omega)).trans (X2.fro 3)
   have k4 : (W2.alloc (.cells #[.int .i64 0, .slice none 0 0, .int .i64 0, .slice none 0 0, .slice none 0 0] 28)).cell? ⟨w.heap.size, 4, none⟩ = some (.slice none 0 0) := (World.cell?_alloc_past _ _ _ (by have := X2.hi; omega)).trans (X2.cell 4)
   have f4 : (W2.alloc (.cells #[.int .i64 0, .slice none 0 0, .int .i64 0, .slice none 0 0, .slice none 0 0] 28)).frozen? ⟨w.heap.size, 4, none⟩ = false := (World.frozen?_alloc_past _ _ _ (by have := X2.hi; omega)).trans (X2.fro 4)
   have l0 : (W2.alloc (.cells #[.int .i64 0, .slice none 0 0, .int .i64 0, .slice none 0 0, .slice none 0 0] 28)).cell? ⟨w.heap.size + 1, 0, none⟩ = some (.bool false) := (World.cell?_alloc_past _ _ _ Y2.hi).trans (Y2.cell 0)
   have m0 : (W2.alloc (.cells #[.int .i64 0, .slice none 0 0, .int .i64 0, .slice none 0 0, .slice none 0 0] 28)).frozen? ⟨w.heap.size + 1, 0, none⟩ = false := (World.frozen?_alloc_past _ _ _ Y2.hi).trans (Y2.fro 0)
   go_wp2
   obtain ⟨o1, o2⟩ := caughtT_mk (w := W2) (Only.alloc (Only.refl _ _) _) k0 k1 k2 k3 k4 l0 _ rfl
   have r0 := (o2 _).trans k0
   have r1 := (o2 _).trans k1
   have r2 := (o2 _).trans k2
   have r3 := (o2 _).trans k3
   have r4 := (o2 _).trans k4
   have r9 := (o2 _).trans l0
   have B9 := B2.trans (o1.below B2.size (fun k hk h => by omega))
   clear o1 o2 k0 k1 k2 k3 k4 l0 f0 f1 f2 f3 f4 m0
   generalize ((((((W2.alloc (.cells #[.int .i64 0, .slice none 0 0, .int .i64 0, .slice none 0 0, .slice none 0 0] 28)).setCell ⟨w.heap.size, 0, none⟩ (.int .i64 0)).setCell ⟨w.heap.size, 1, none⟩ (.slice none 0 0)).setCell ⟨w.heap.size, 2, none⟩ (.int .i64 0)).setCell ⟨w.heap.size, 3, none⟩ (.slice none 0 0)).setCell ⟨w.heap.size, 4, none⟩ (.slice none 0 0)).setCell ⟨w.heap.size + 1, 0, none⟩ (.bool false) = V at r0 r1 r2 r3 r4 r9 B9 ⊢
   have ho : Hid (outT s.data.toList = none) := by
    unfold Hid outT
    rw [HO.out]
    simp only [Option.bind_some]
    rw [if_neg (fun h => hz (by have := congrArg List.length h.1; simpa using this))]
   refine leaves_cons (f := 33) (args := #[.pointer (some ⟨w.heap.size, 0, none⟩), .pointer (some ⟨w.heap.size + 1, 0, none⟩)]) (by simp) (by simp [go_sem]) ?_
   refine (catchT_idle w.heap.size V).mono ?_
   rintro e u' w'' ⟨rfl, rfl, rfl⟩
   exact ⟨_, by simp [results, Try.results14, go_sem, r0, r1, r2, r3, r4, r9], .inr ⟨rfl, ho⟩, B9⟩
 ·have X1 := X.only hon (by omega)
  have Y1 := Y.only hon (by omega)
  have B1 : Below w.heap.size w w1 := bW.trans (hon.below (by omega) (fun k hk h => by omega))
  clear X Y hon bW hC
  go_wp2
  refine leaves_cons (f := 33) (args := #[.pointer (some ⟨w.heap.size, 0, none⟩), .pointer (some ⟨w.heap.size + 1, 0, none⟩)]) (by simp) (by simp [go_sem]) ?_
  refine (catchT_panicking w.heap.size pv 9 w1 X1 Y1).mono ?_
  rintro e u' w'' ⟨rfl, rfl, h1, h2, h3⟩
  have B2 := B1.trans (h1.below B1.size (fun k hk h => by omega))
  have k0 : w''.cell? ⟨w.heap.size, 0, none⟩ = some (.int .i64 0) := h2 0
  have k1 : w''.cell? ⟨w.heap.size, 1, none⟩ = some (.slice none 0 0) := h2 1
  have k2 : w''.cell? ⟨w.heap.size, 2, none⟩ = some (.int .i64 0) := h2 2
  have k3 : w''.cell? ⟨w.heap.size, 3, none⟩ = some (.slice none 0 0) := h2 3
  have k4 : w''.cell? ⟨w.heap.size, 4, none⟩ = some (.slice none 0 0) := h2 4
  have ho : Hid (outT s.data.toList = none) := by unfold Hid outT; rw [HN.out]; rfl
  simp [Leaves, settle, results, Try.results14, go_sem, k0, k1, k2, k3, k4, h3]
  exact ⟨.inr ⟨rfl, ho⟩, B2⟩
set_option maxRecDepth 100000 in
set_option maxHeartbeats 2000000 in
theorem implReadTenant_any (s : ByteArray) (w : World) (hs : s.size ≤ 1048576) :
  Calls Try.prog 5 #[.string s] w (RdT s.data.toList w) := by
 go_enter Try.func5, Try.ntmps5
 go_wp2_with fail
 obtain ⟨W, hW, bW, zW, cW, fW⟩ := boxed w zTn 28
 simp only [hW]
 refine (wholeT_any s _ hs).mono ?_
 rintro e w1 ⟨h, b1⟩
 have X : Blk w1 w.heap.size zTn := ⟨by have := b1.size; omega, keepC b1 (by omega) cW, keepF b1 (by omega) fW⟩
 have B1 := bW.trans (b1.mono (by omega))
 clear hW cW fW b1
 have k0 : w1.cell? ⟨w.heap.size, 0, none⟩ = some (.int .i64 0) := X.cell 0
 have f0 : w1.frozen? ⟨w.heap.size, 0, none⟩ = false := X.fro 0
 have k1 : w1.cell? ⟨w.heap.size, 1, none⟩ = some (.slice none 0 0) := X.cell 1
 have f1 : w1.frozen? ⟨w.heap.size, 1, none⟩ = false := X.fro 1
 have k2 : w1.cell? ⟨w.heap.size, 2, none⟩ = some (.int .i64 0) := X.cell 2
 have f2 : w1.frozen? ⟨w.heap.size, 2, none⟩ = false := X.fro 2
 have k3 : w1.cell? ⟨w.heap.size, 3, none⟩ = some (.slice none 0 0) := X.cell 3
 have f3 : w1.frozen? ⟨w.heap.size, 3, none⟩ = false := X.fro 3
 have k4 : w1.cell? ⟨w.heap.size, 4, none⟩ = some (.slice none 0 0) := X.cell 4
 have f4 : w1.frozen? ⟨w.heap.size, 4, none⟩ = false := X.fro 4
 rcases h with ⟨t, g3, rfl, ho, hv⟩ | ⟨rfl, ho⟩
 ·have HOn : Only (fun k => k = w.heap.size) w1 (((((w1.setCell ⟨w.heap.size, 0, none⟩ (.int .i64 t.nx)).setCell ⟨w.heap.size, 1, none⟩ (.slice t.ua t.L.length t.uc)).setCell ⟨w.heap.size, 2, none⟩ (.int .i64 t.tk)).setCell ⟨w.heap.size, 3, none⟩ (.slice t.aa t.A.length t.ac)).setCell ⟨w.heap.size, 4, none⟩ (.slice t.sa t.S.length t.sc)) := (((((set_only w.heap.size 0 w1 (.int .i64 t.nx)).setCell (p := ⟨w.heap.size, 1, none⟩) rfl (.slice t.ua t.L.length t.uc)).setCell (p := ⟨w.heap.size, 2, none⟩) rfl (.int .i64 t.tk)).setCell (p := ⟨w.heap.size, 3, none⟩) rfl (.slice t.aa t.A.length t.ac)).setCell (p := ⟨w.heap.size, 4, none⟩) rfl (.slice t.sa t.S.length t.sc))
  have HV : Hid (TnO (((((w1.setCell ⟨w.heap.size, 0, none⟩ (.int .i64 t.nx)).setCell ⟨w.heap.size, 1, none⟩ (.slice t.ua t.L.length t.uc)).setCell ⟨w.heap.size, 2, none⟩ (.int .i64 t.tk)).setCell ⟨w.heap.size, 3, none⟩ (.slice t.aa t.A.length t.ac)).setCell ⟨w.heap.size, 4, none⟩ (.slice t.sa t.S.length t.sc)) w.heap.size g3 t) := (hv.out.only HOn (fun k hk h => by omega)).lower (by omega)
  have B2 := B1.trans (HOn.below B1.size (fun k hk h => by omega))
  clear hv HOn
  go_wp2
  exact bodyPost_ret (v := .tuple #[t.v, .bool true]) (by simp [results, Try.results5, go_sem, k0, k1, k2, k3, k4]) rfl ⟨.inl ⟨t, g3, rfl, ho, HV⟩, B2⟩
 ·have HOn : Only (fun k => k = w.heap.size) w1 (((((w1.setCell ⟨w.heap.size, 0, none⟩ (.int .i64 0)).setCell ⟨w.heap.size, 1, none⟩ (.slice none 0 0)).setCell ⟨w.heap.size, 2, none⟩ (.int .i64 0)).setCell ⟨w.heap.size, 3, none⟩ (.slice none 0 0)).setCell ⟨w.heap.size, 4, none⟩ (.slice none 0 0)) := (((((set_only w.heap.size 0 w1 (.int .i64 0)).setCell (p := ⟨w.heap.size, 1, none⟩) rfl (.slice none 0 0)).setCell (p := ⟨w.heap.size, 2, none⟩) rfl (.int .i64 0)).setCell (p := ⟨w.heap.size, 3, none⟩) rfl (.slice none 0 0)).setCell (p := ⟨w.heap.size, 4, none⟩) rfl (.slice none 0 0))
  have B2 := B1.trans (HOn.below B1.size (fun k hk h => by omega))
  clear HOn
  go_wp2
  exact bodyPost_ret (v := .tuple #[.agg zTn, .bool false]) (by simp [results, Try.results5, go_sem, k0, k1, k2, k3, k4]) rfl ⟨.inr ⟨rfl, ho⟩, B2⟩
end Go.Proofs.Ytpccnoiepmedeaa
