/- ReadState of the program: a cursor's panic is recovered. -/
import Derived.Test.YtegdogdlohoheaaGreatXCurSt
import Derived.Test.YtegdogdlohoheaaGreatTWhole
import Derived.Recover
namespace Go.Proofs.YtegdogdlohoheaaGreat
open Go.RowKit
set_option linter.unusedVariables false
/-- Such tenants make a right state. -/
def stB (K : List (Int × List Nd × Int × List Nt × List Se)) : Bool := decide (K.length = 3) && K.all tenB
theorem stB_keys (L : List Ten) : stB (L.map Ten.key) = stateB L := by
 unfold stB stateB allTen
 rw [List.all_map, List.length_map]; rfl
/-- The state of which l is made. -/
noncomputable def outS (l : List UInt8) : Option (List (Int × List Nd × Int × List Nt × List Se)) := (staO l).bind fun x => if x.2 = [] ∧ stB x.1 = true then some x.1 else none
/-- What ReadState hands back. -/
def RdS (l : List UInt8) (w : World) (e : Ending) (w' : World) : Prop :=
 ((∃ (v : Value) (L : List Ten) (bb tt v0 v1 : Nat → Nat), e = .returned (.tuple #[v, .bool true]) ∧ Hid (outS l = some (L.map Ten.key)) ∧ Hid (StM w' w.heap.size v L bb tt v0 v1) ∧ L.length = 3 ∧ Hid (∀ x ∈ L, Inc x.L)) ∨ (e = .returned (.tuple #[.slice none 0 0, .bool false]) ∧ Hid (outS l = none))) ∧ Below w.heap.size w w'
abbrev zSt : Array Value := #[.slice none 0 0]
theorem resetSt {w w0 : World} {p : Addr} {x : Value} (h : ∀ q, w.cell? q = w0.cell? q) (k : w0.cell? p = some x) : ∀ q, (w.setCell p x).cell? q = w0.cell? q := fun q => by
 by_cases e : q = p
 ·subst e; rw [World.cell?_setCell_same _ _ _ ((h _).trans k), k]
 ·rw [World.cell?_setCell_other _ _ _ _ (fun h2 => e h2.symm), h]
theorem set_onlySt (g o : Nat) (w : World) (a : Value) : Only (fun x => x = g) w (w.setCell ⟨g, o, none⟩ a) := (Only.refl (fun x => x = g) w).setCell (p := ⟨g, o, none⟩) rfl a
def CaughtSt (g : Nat) (w w' : World) : Prop := Only (fun k => k = g ∨ k = g + 1) w w' ∧ (∀ o, w'.cell? ⟨g, o, none⟩ = zSt[o]?) ∧ w'.cell? ⟨g + 1, 0, none⟩ = some (.bool false)
theorem StM.lower {w : World} {base B' : Nat} {v : Value} {L : List Ten} {b t v0 v1 : Nat → Nat} (h : StM w base v L b t v0 v1) (hb : B' ≤ base) : StM w B' v L b t v0 v1 :=
 ⟨h.own.lower hb, h.ten, fun i hi => Nat.le_trans hb (h.low i hi), h.top, h.dis, h.row⟩
set_option maxRecDepth 100000 in
set_option maxHeartbeats 1000000 in
theorem catchSt_idle (g : Nat) (w : World) :
  CallsD Tryz.prog 28 #[.pointer (some ⟨g, 0, none⟩), .pointer (some ⟨g + 1, 0, none⟩)] .returning w fun e u' w' => e = .returned (.tuple #[]) ∧ u' = .returning ∧ w' = w := by
 refine callsD_of_wpS Tryz.func28 rfl fun c₀ cs hu => ?_
 apply wpS_seq
 apply wpS_region
 simp [wpOpsS, go_sem, recoverD, hu, Tryz.ntmps28, Exit.thenS]
 refine wpS_cond (t := false) (by simp [Act.eval, Array.replicate]) ?_
 simp only [Bool.false_eq_true, if_false]
 refine wpS_of_wp (wp_skip ?_)
 cases c₀
 simp_all [bodyPostS, results, Tryz.results28]
theorem caughtSt_mk {g : Nat} {w w0 : World} (h0 : Only (fun k => k = g ∨ k = g + 1) w w0) {a0 b0 : Value} (k0 : w0.cell? ⟨g, 0, none⟩ = some a0) (l0 : w0.cell? ⟨g + 1, 0, none⟩ = some b0)
  (W : World) (hW : W = (w0.setCell ⟨g, 0, none⟩ a0).setCell ⟨g + 1, 0, none⟩ b0) :
  Only (fun k => k = g ∨ k = g + 1) w W ∧ ∀ q, W.cell? q = w0.cell? q := by
 subst hW
 refine ⟨?_, ?_⟩
 ·exact (h0.setCell (p := ⟨g, 0, none⟩) (.inl rfl) a0).setCell (p := ⟨g + 1, 0, none⟩) (.inr rfl) b0
 ·exact resetSt (resetSt (fun _ => rfl) k0) l0
set_option maxRecDepth 100000 in
set_option maxHeartbeats 1000000 in
theorem catchSt_panicking (g : Nat) (pv : Value) (u : TypeId) (w : World) (X : Blk w g zSt) (Y : Blk w (g + 1) #[.bool false]) :
  CallsD Tryz.prog 28 #[.pointer (some ⟨g, 0, none⟩), .pointer (some ⟨g + 1, 0, none⟩)] (.panicking ({ v := .iface u pv, recovered := false } :: [])) w fun e u' w' => e = .returned (.tuple #[]) ∧ u' = .panicking ({ v := .iface u pv, recovered := true } :: []) ∧ CaughtSt g w w' := by
 refine callsD_of_wpS Tryz.func28 rfl fun c₀ cs hu => ?_
 apply wpS_seq
 apply wpS_region
 simp [wpOpsS, go_sem, recoverD, hu, Tryz.ntmps28, Exit.thenS]
 refine wpS_cond (t := true) (by simp [Act.eval, Array.replicate]) ?_
 simp only [if_true]
 refine wpS_of_wp ?_
 have hg := Y.hi
 have hne : ¬ g + 1 = g := by omega
 have hne2 : ¬ g = g + 1 := by omega
 have k0 : (w.alloc (.cells #[.slice none 0 0] 22)).cell? ⟨g, 0, none⟩ = some (.slice none 0 0) := (World.cell?_alloc_past _ _ _ (by have := X.hi; omega)).trans (X.cell 0)
 have f0 : (w.alloc (.cells #[.slice none 0 0] 22)).frozen? ⟨g, 0, none⟩ = false := (World.frozen?_alloc_past _ _ _ (by have := X.hi; omega)).trans (X.fro 0)
 have l0 : (w.alloc (.cells #[.slice none 0 0] 22)).cell? ⟨g + 1, 0, none⟩ = some (.bool false) := (World.cell?_alloc_past _ _ _ Y.hi).trans (Y.cell 0)
 have m0 : (w.alloc (.cells #[.slice none 0 0] 22)).frozen? ⟨g + 1, 0, none⟩ = false := (World.frozen?_alloc_past _ _ _ Y.hi).trans (Y.fro 0)
 go_wp2
 obtain ⟨o1, o2⟩ := caughtSt_mk (w := w) (Only.alloc (Only.refl _ _) _) k0 l0 _ rfl
 have HK := Hid.intro (show CaughtSt g w _ from ⟨o1, fun o => (o2 _).trans ((World.cell?_alloc_past _ _ _ (by omega)).trans (X.cell o)), (o2 _).trans l0⟩)
 clear o1 o2
 exact ⟨rfl, _, rfl, .tuple #[], by simp [results, Tryz.results28, go_sem], rfl, rfl, HK.out⟩
set_option maxRecDepth 100000 in
set_option maxHeartbeats 400000 in
theorem wholeSt_any (s : ByteArray) (w : World) (hs : s.size ≤ 1048576) :
  Calls Tryz.prog 12 #[.string s, .func (Fn.func 13) #[] #[], .func (Fn.func 14) #[] #[]] w (RdS s.data.toList w) := by
 have hmf : ∀ (fn : Fn) (first cap : Array Value) (w : World), (Instr.makeFunc fn first cap).run Tryz.prog w = .ok (.func fn first cap) w := fun _ _ _ _ => rfl
 go_enter_defers Tryz.func12, Tryz.ntmps12
 go_wp2_with fail
 obtain ⟨W, hW, bW, zW, c0, f0, c1, f1, c2, f2⟩ := boxed3 w zSt #[.bool false] #[.string s] 22 4 66
 simp only [hW]
 have hC : CurAt W (w.heap.size + 1 + 1) s := ⟨by omega, c2 0, f2 0⟩
 have X : Blk W w.heap.size zSt := ⟨by omega, c0, f0⟩
 have Y : Blk W (w.heap.size + 1) #[.bool false] := ⟨by omega, c1, f1⟩
 clear hW c0 f0 c1 f1 c2 f2
 refine (stateC_any (w.heap.size + 1 + 1) s W hC hs).mono ?_
 rintro e w1 (⟨v, L, bb, tt, v0, v1, q', rfl, HO, HM, hc, sq, h3l, HNW, hon⟩ | ⟨⟨pv, rfl⟩, HN, hon⟩)
 ·have X1 := X.only hon (by omega)
  have Y1 := Y.only hon (by omega)
  have B1 : Below w.heap.size w w1 := bW.trans (hon.below (by omega) (fun k hk h => by omega))
  obtain ⟨va, vc, rfl⟩ := HM.out.own.slice
  have H3L := Hid.intro h3l
  clear h3l
  have hq := hc.cell
  clear X Y hon bW hC hc
  by_cases hz : q'.size = 0
  rotate_left 1
  ·have y1 := bs_nmI hz
   have hne : ¬ w.heap.size + 1 = w.heap.size := by omega
   have hne2 : ¬ w.heap.size = w.heap.size + 1 := by omega
   have k0 : (w1.alloc (.cells #[.slice none 0 0] 22)).cell? ⟨w.heap.size, 0, none⟩ = some (.slice none 0 0) := (World.cell?_alloc_past _ _ _ (by have := X1.hi; omega)).trans (X1.cell 0)
   have f0 : (w1.alloc (.cells #[.slice none 0 0] 22)).frozen? ⟨w.heap.size, 0, none⟩ = false := (World.frozen?_alloc_past _ _ _ (by have := X1.hi; omega)).trans (X1.fro 0)
   have l0 : (w1.alloc (.cells #[.slice none 0 0] 22)).cell? ⟨w.heap.size + 1, 0, none⟩ = some (.bool false) := (World.cell?_alloc_past _ _ _ Y1.hi).trans (Y1.cell 0)
   have m0 : (w1.alloc (.cells #[.slice none 0 0] 22)).frozen? ⟨w.heap.size + 1, 0, none⟩ = false := (World.frozen?_alloc_past _ _ _ Y1.hi).trans (Y1.fro 0)
   go_wp2
   obtain ⟨o1, o2⟩ := caughtSt_mk (w := w1) (Only.alloc (Only.refl _ _) _) k0 l0 _ rfl
   have r0 := (o2 _).trans k0
   have r9 := (o2 _).trans l0
   have B9 := B1.trans (o1.below B1.size (fun k hk h => by omega))
   clear o1 o2 k0 l0 f0 m0
   generalize ((w1.alloc (.cells #[.slice none 0 0] 22)).setCell ⟨w.heap.size, 0, none⟩ (.slice none 0 0)).setCell ⟨w.heap.size + 1, 0, none⟩ (.bool false) = V at r0 r9 B9 ⊢
   have ho : Hid (outS s.data.toList = none) := by
    unfold Hid outS
    rw [HO.out, Option.bind_some, if_neg (fun h => hz (by have := congrArg List.length h.1; simpa using this))]
   refine leaves_cons (f := 28) (args := #[.pointer (some ⟨w.heap.size, 0, none⟩), .pointer (some ⟨w.heap.size + 1, 0, none⟩)]) (by simp) (by simp [go_sem]) ?_
   refine (catchSt_idle w.heap.size V).mono ?_
   rintro e u' w'' ⟨rfl, rfl, rfl⟩
   exact ⟨_, by simp [results, Tryz.results12, go_sem, r0, r9], .inr ⟨rfl, ho⟩, B9⟩
  have y1 := bs_mtI hz
  have hq0 : q'.data.toList = [] := List.eq_nil_of_length_eq_zero (by simpa using hz)
  rw [hq0] at HO
  go_wp2_with fail
  refine (implStateOk_any L _ w1.heap.size w1 (Nat.le_refl _) HM.out.rowAll (fun x hx => (HNW.out x hx).2)).mono ?_
  rintro e w3 ⟨rfl, b3⟩
  have X3 := X1.kept b3
  have Y3 := Y1.kept b3
  have B3 := B1.trans (b3.mono B1.size)
  have z3 := b3.size
  replace HM := Hid.intro (HM.out.kept b3)
  clear X1 Y1 B1 b3 hq
  cases hcb : stateB L with
  | false =>
   have hne : ¬ w.heap.size + 1 = w.heap.size := by omega
   have hne2 : ¬ w.heap.size = w.heap.size + 1 := by omega
   have k0 : (w3.alloc (.cells #[.slice none 0 0] 22)).cell? ⟨w.heap.size, 0, none⟩ = some (.slice none 0 0) := (World.cell?_alloc_past _ _ _ (by have := X3.hi; omega)).trans (X3.cell 0)
   have f0 : (w3.alloc (.cells #[.slice none 0 0] 22)).frozen? ⟨w.heap.size, 0, none⟩ = false := (World.frozen?_alloc_past _ _ _ (by have := X3.hi; omega)).trans (X3.fro 0)
   have l0 : (w3.alloc (.cells #[.slice none 0 0] 22)).cell? ⟨w.heap.size + 1, 0, none⟩ = some (.bool false) := (World.cell?_alloc_past _ _ _ Y3.hi).trans (Y3.cell 0)
   have m0 : (w3.alloc (.cells #[.slice none 0 0] 22)).frozen? ⟨w.heap.size + 1, 0, none⟩ = false := (World.frozen?_alloc_past _ _ _ Y3.hi).trans (Y3.fro 0)
   go_wp2
   obtain ⟨o1, o2⟩ := caughtSt_mk (w := w3) (Only.alloc (Only.refl _ _) _) k0 l0 _ rfl
   have r0 := (o2 _).trans k0
   have r9 := (o2 _).trans l0
   have B9 := B3.trans (o1.below B3.size (fun k hk h => by omega))
   clear o1 o2 k0 l0 f0 m0
   generalize ((w3.alloc (.cells #[.slice none 0 0] 22)).setCell ⟨w.heap.size, 0, none⟩ (.slice none 0 0)).setCell ⟨w.heap.size + 1, 0, none⟩ (.bool false) = V at r0 r9 B9 ⊢
   have ho : Hid (outS s.data.toList = none) := by
    unfold Hid outS
    rw [HO.out, Option.bind_some, if_neg (fun h => by rw [stB_keys, hcb] at h; exact Bool.false_ne_true h.2)]
   refine leaves_cons (f := 28) (args := #[.pointer (some ⟨w.heap.size, 0, none⟩), .pointer (some ⟨w.heap.size + 1, 0, none⟩)]) (by simp) (by simp [go_sem]) ?_
   refine (catchSt_idle w.heap.size V).mono ?_
   rintro e u' w'' ⟨rfl, rfl, rfl⟩
   exact ⟨_, by simp [results, Tryz.results12, go_sem, r0, r9], .inr ⟨rfl, ho⟩, B9⟩
  | true =>
   have ho : Hid (outS s.data.toList = some (L.map Ten.key)) := by
    unfold Hid outS
    rw [HO.out, Option.bind_some, if_pos ⟨rfl, by rw [stB_keys, hcb]⟩]
   clear HO hcb
   have hne : ¬ w.heap.size + 1 = w.heap.size := by omega
   have hne2 : ¬ w.heap.size = w.heap.size + 1 := by omega
   have k0 : w3.cell? ⟨w.heap.size, 0, none⟩ = some (.slice none 0 0) := X3.cell 0
   have f0 : w3.frozen? ⟨w.heap.size, 0, none⟩ = false := X3.fro 0
   have l0 : w3.cell? ⟨w.heap.size + 1, 0, none⟩ = some (.bool false) := Y3.cell 0
   have m0 : w3.frozen? ⟨w.heap.size + 1, 0, none⟩ = false := Y3.fro 0
   have HOn : Only (fun k => k = w.heap.size ∨ k = w.heap.size + 1) w3 ((w3.setCell ⟨w.heap.size, 0, none⟩ (.slice va L.length vc)).setCell ⟨w.heap.size + 1, 0, none⟩ (.bool true)) := ((Only.refl (fun k => k = w.heap.size ∨ k = w.heap.size + 1) w3).setCell (p := ⟨w.heap.size, 0, none⟩) (.inl rfl) (.slice va L.length vc)).setCell (p := ⟨w.heap.size + 1, 0, none⟩) (.inr rfl) (.bool true)
   have B9 : Below w.heap.size w ((w3.setCell ⟨w.heap.size, 0, none⟩ (.slice va L.length vc)).setCell ⟨w.heap.size + 1, 0, none⟩ (.bool true)) := B3.trans (HOn.below B3.size (fun k hk h => by omega))
   have HV : Hid (StM ((w3.setCell ⟨w.heap.size, 0, none⟩ (.slice va L.length vc)).setCell ⟨w.heap.size + 1, 0, none⟩ (.bool true)) w.heap.size (.slice va L.length vc) L bb tt v0 v1) := (HM.out.onlyL HOn (fun k hk h => by omega)).lower (by omega)
   clear X3 Y3 HM HOn
   go_wp2
   refine leaves_cons (f := 28) (args := #[.pointer (some ⟨w.heap.size, 0, none⟩), .pointer (some ⟨w.heap.size + 1, 0, none⟩)]) (by simp) (by simp [go_sem]) ?_
   refine (catchSt_idle w.heap.size _).mono ?_
   rintro e u' w'' ⟨rfl, rfl, rfl⟩
   exact ⟨.tuple #[.slice va L.length vc, .bool true], by simp [results, Tryz.results12, go_sem, k0, l0], .inl ⟨_, L, bb, tt, v0, v1, rfl, ho, HV, H3L.out, fun x hx => (HNW.out x hx).1⟩, B9⟩
 ·have X1 := X.only hon (by omega)
  have Y1 := Y.only hon (by omega)
  have B1 : Below w.heap.size w w1 := bW.trans (hon.below (by omega) (fun k hk h => by omega))
  clear X Y hon bW hC
  go_wp2
  refine leaves_cons (f := 28) (args := #[.pointer (some ⟨w.heap.size, 0, none⟩), .pointer (some ⟨w.heap.size + 1, 0, none⟩)]) (by simp) (by simp [go_sem]) ?_
  refine (catchSt_panicking w.heap.size pv 9 w1 X1 Y1).mono ?_
  rintro e u' w'' ⟨rfl, rfl, h1, h2, h3⟩
  have B2 := B1.trans (h1.below B1.size (fun k hk h => by omega))
  have k0 : w''.cell? ⟨w.heap.size, 0, none⟩ = some (.slice none 0 0) := h2 0
  have ho : Hid (outS s.data.toList = none) := by unfold Hid outS; rw [HN.out]; rfl
  simp [Leaves, settle, results, Tryz.results12, go_sem, k0, h3]
  exact ⟨.inr ⟨rfl, ho⟩, B2⟩
set_option maxRecDepth 100000 in
set_option maxHeartbeats 400000 in
theorem implReadState_any (s : ByteArray) (w : World) (hs : s.size ≤ 1048576) :
  Calls Tryz.prog 5 #[.string s] w (RdS s.data.toList w) := by
 go_enter Tryz.func5, Tryz.ntmps5
 go_wp2_with fail
 refine (wholeSt_any s _ hs).mono ?_
 rintro e w1 ⟨⟨v, L, bb, tt, v0, v1, rfl, ho, hv, h3l, hi⟩ | ⟨rfl, ho⟩, b1⟩
 ·go_wp2_with fail
  exact bodyPost_ret (v := .tuple #[v, .bool true]) (by simp [results, Tryz.results5, go_sem]) rfl ⟨.inl ⟨v, L, bb, tt, v0, v1, rfl, ho, hv, h3l, hi⟩, b1⟩
 ·go_wp2_with fail
  exact bodyPost_ret (v := .tuple #[.slice none 0 0, .bool false]) (by simp [results, Tryz.results5, go_sem]) rfl ⟨.inr ⟨rfl, ho⟩, b1⟩
end Go.Proofs.YtegdogdlohoheaaGreat
