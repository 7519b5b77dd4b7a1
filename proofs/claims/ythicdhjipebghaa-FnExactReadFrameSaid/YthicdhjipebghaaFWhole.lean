/- ReadFrame of the program: a cursor's panic is recovered. -/
import Derived.Test.YthicdhjipebghaaFCur
import Derived.Test.YthicdhjipebghaaTWhole
import Derived.Recover
namespace Go.Proofs.Ythicdhjipebghaa
open Go.RowKit
set_option linter.unusedVariables false
/-- The frame of which l is made. -/
noncomputable def outF (l : List UInt8) : Option (List Sl) := (frmO l).bind fun L => if frameB L = true then some L else none
/-- What ReadFrame hands back. -/
def RdF (l : List UInt8) (w : World) (e : Ending) (w' : World) : Prop :=
  ((∃ (v : Value) (L : List Sl), e = .returned (.tuple #[v, .bool true]) ∧ Hid (outF l = some L) ∧ Hid (Own slE 49 w' w.heap.size v L)) ∨ (e = .returned (.tuple #[.slice none 0 0, .bool false]) ∧ Hid (outF l = none))) ∧ Below w.heap.size w w'
abbrev zF : Array Value := #[.slice none 0 0]
theorem resetF {w w0 : World} {p : Addr} {x : Value} (h : ∀ q, w.cell? q = w0.cell? q) (k : w0.cell? p = some x) : ∀ q, (w.setCell p x).cell? q = w0.cell? q := fun q => by
  by_cases e : q = p
  · subst e; rw [World.cell?_setCell_same _ _ _ ((h _).trans k), k]
  · rw [World.cell?_setCell_other _ _ _ _ (fun h2 => e h2.symm), h]
theorem set_onlyF (g o : Nat) (w : World) (a : Value) : Only (fun x => x = g) w (w.setCell ⟨g, o, none⟩ a) := (Only.refl (fun x => x = g) w).setCell (p := ⟨g, o, none⟩) rfl a
def CaughtF (g : Nat) (w w' : World) : Prop := Only (fun k => k = g ∨ k = g + 1) w w' ∧ (∀ o, w'.cell? ⟨g, o, none⟩ = zF[o]?) ∧ w'.cell? ⟨g + 1, 0, none⟩ = some (.bool false)
set_option maxRecDepth 100000 in
set_option maxHeartbeats 1000000 in
theorem catchF_idle (g : Nat) (w : World) :
    CallsD Try.prog 37 #[.pointer (some ⟨g, 0, none⟩), .pointer (some ⟨g + 1, 0, none⟩)] .returning w fun e u' w' => e = .returned (.tuple #[]) ∧ u' = .returning ∧ w' = w := by
  refine callsD_of_wpS Try.func37 rfl fun c₀ cs hu => ?_
  apply wpS_seq
  apply wpS_region
  simp [wpOpsS, go_sem, recoverD, hu, Try.ntmps37, Exit.thenS]
  refine wpS_cond (t := false) (by simp [Act.eval, Array.replicate]) ?_
  simp only [Bool.false_eq_true, if_false]
  refine wpS_of_wp (wp_skip ?_)
  cases c₀
  simp_all [bodyPostS, results, Try.results37]
theorem caughtF_mk {g : Nat} {w w0 : World} (h0 : Only (fun k => k = g ∨ k = g + 1) w w0) {a0 b0 : Value} (k0 : w0.cell? ⟨g, 0, none⟩ = some a0) (l0 : w0.cell? ⟨g + 1, 0, none⟩ = some b0)
    (W : World) (hW : W = (w0.setCell ⟨g, 0, none⟩ a0).setCell ⟨g + 1, 0, none⟩ b0) :
    Only (fun k => k = g ∨ k = g + 1) w W ∧ ∀ q, W.cell? q = w0.cell? q := by
  subst hW
  refine ⟨?_, ?_⟩
  · exact (h0.setCell (p := ⟨g, 0, none⟩) (.inl rfl) a0).setCell (p := ⟨g + 1, 0, none⟩) (.inr rfl) b0
  · exact resetF (resetF (fun _ => rfl) k0) l0
set_option maxRecDepth 100000 in
set_option maxHeartbeats 1000000 in
theorem catchF_panicking (g : Nat) (pv : Value) (u : TypeId) (w : World) (X : Blk w g zF) (Y : Blk w (g + 1) #[.bool false]) :
    CallsD Try.prog 37 #[.pointer (some ⟨g, 0, none⟩), .pointer (some ⟨g + 1, 0, none⟩)] (.panicking ({ v := .iface u pv, recovered := false } :: [])) w fun e u' w' => e = .returned (.tuple #[]) ∧ u' = .panicking ({ v := .iface u pv, recovered := true } :: []) ∧ CaughtF g w w' := by
  refine callsD_of_wpS Try.func37 rfl fun c₀ cs hu => ?_
  apply wpS_seq
  apply wpS_region
  simp [wpOpsS, go_sem, recoverD, hu, Try.ntmps37, Exit.thenS]
  refine wpS_cond (t := true) (by simp [Act.eval, Array.replicate]) ?_
  simp only [if_true]
  refine wpS_of_wp ?_
  have hg := Y.hi
  have hne : ¬ g + 1 = g := by omega
  have hne2 : ¬ g = g + 1 := by omega
  have k0 : (w.alloc (.cells #[.slice none 0 0] 28)).cell? ⟨g, 0, none⟩ = some (.slice none 0 0) := (World.cell?_alloc_past _ _ _ (by have := X.hi; omega)).trans (X.cell 0)
  have f0 : (w.alloc (.cells #[.slice none 0 0] 28)).frozen? ⟨g, 0, none⟩ = false := (World.frozen?_alloc_past _ _ _ (by have := X.hi; omega)).trans (X.fro 0)
  have l0 : (w.alloc (.cells #[.slice none 0 0] 28)).cell? ⟨g + 1, 0, none⟩ = some (.bool false) := (World.cell?_alloc_past _ _ _ Y.hi).trans (Y.cell 0)
  have m0 : (w.alloc (.cells #[.slice none 0 0] 28)).frozen? ⟨g + 1, 0, none⟩ = false := (World.frozen?_alloc_past _ _ _ Y.hi).trans (Y.fro 0)
  go_wp2
  obtain ⟨o1, o2⟩ := caughtF_mk (w := w) (Only.alloc (Only.refl _ _) _) k0 l0 _ rfl
  have HK := Hid.intro (show CaughtF g w _ from ⟨o1, fun o => (o2 _).trans ((World.cell?_alloc_past _ _ _ (by omega)).trans (X.cell o)), (o2 _).trans l0⟩)
  clear o1 o2
  exact ⟨rfl, _, rfl, .tuple #[], by simp [results, Try.results37, go_sem], rfl, rfl, HK.out⟩
set_option maxRecDepth 100000 in
set_option maxHeartbeats 8000000 in
theorem wholeF_any (s : ByteArray) (w : World) (hs : s.size ≤ 1048576) :
    Calls Try.prog 21 #[.string s, .func (Fn.func 22) #[] #[], .func (Fn.func 23) #[] #[]] w (RdF s.data.toList w) := by
  have hmf : ∀ (fn : Fn) (first cap : Array Value) (w : World), (Instr.makeFunc fn first cap).run Try.prog w = .ok (.func fn first cap) w := fun _ _ _ _ => rfl
  go_enter_defers Try.func21, Try.ntmps21
  go_wp2_with fail
  obtain ⟨W, hW, bW, zW, c0, f0, c1, f1, c2, f2⟩ := boxed3 w zF #[.bool false] #[.string s] 28 4 61
  simp only [hW]
  have hC : CurAt W (w.heap.size + 1 + 1) s := ⟨by omega, c2 0, f2 0⟩
  have X : Blk W w.heap.size zF := ⟨by omega, c0, f0⟩
  have Y : Blk W (w.heap.size + 1) #[.bool false] := ⟨by omega, c1, f1⟩
  clear hW c0 f0 c1 f1 c2 f2
  refine (frameC_any (w.heap.size + 1 + 1) s W hC hs).mono ?_
  rintro e w1 (⟨v, L, q', rfl, HO, HM, hc, hz, h6, hon⟩ | ⟨⟨pv, rfl⟩, HN, hon⟩)
  · have X1 := X.only hon (by omega)
    have Y1 := Y.only hon (by omega)
    have B1 : Below w.heap.size w w1 := bW.trans (hon.below (by omega) (fun k hk h => by omega))
    obtain ⟨va, vc, rfl⟩ := HM.out.slice
    have hq := hc.cell
    have y1 := bs_mtF hz
    clear X Y hon bW hC hc
    go_wp2_with fail
    refine (implFrameOk_any L _ w1.heap.size w1 (Nat.le_refl _) HM.out.rowAll).mono ?_
    rintro e w3 ⟨rfl, b3⟩
    have X3 := X1.kept b3
    have Y3 := Y1.kept b3
    have B3 := B1.trans (b3.mono B1.size)
    have z3 := b3.size
    replace HM := Hid.intro (HM.out.kept b3)
    clear X1 Y1 B1 b3 hq
    cases hcb : frameB L with
    | false =>
      have hne : ¬ w.heap.size + 1 = w.heap.size := by omega
      have hne2 : ¬ w.heap.size = w.heap.size + 1 := by omega
      have k0 : (w3.alloc (.cells #[.slice none 0 0] 28)).cell? ⟨w.heap.size, 0, none⟩ = some (.slice none 0 0) := (World.cell?_alloc_past _ _ _ (by have := X3.hi; omega)).trans (X3.cell 0)
      have f0 : (w3.alloc (.cells #[.slice none 0 0] 28)).frozen? ⟨w.heap.size, 0, none⟩ = false := (World.frozen?_alloc_past _ _ _ (by have := X3.hi; omega)).trans (X3.fro 0)
      have l0 : (w3.alloc (.cells #[.slice none 0 0] 28)).cell? ⟨w.heap.size + 1, 0, none⟩ = some (.bool false) := (World.cell?_alloc_past _ _ _ Y3.hi).trans (Y3.cell 0)
      have m0 : (w3.alloc (.cells #[.slice none 0 0] 28)).frozen? ⟨w.heap.size + 1, 0, none⟩ = false := (World.frozen?_alloc_past _ _ _ Y3.hi).trans (Y3.fro 0)
      go_wp2
      obtain ⟨o1, o2⟩ := caughtF_mk (w := w3) (Only.alloc (Only.refl _ _) _) k0 l0 _ rfl
      have r0 := (o2 _).trans k0
      have r9 := (o2 _).trans l0
      have B9 := B3.trans (o1.below B3.size (fun k hk h => by omega))
      clear o1 o2 k0 l0 f0 m0
      generalize ((w3.alloc (.cells #[.slice none 0 0] 28)).setCell ⟨w.heap.size, 0, none⟩ (.slice none 0 0)).setCell ⟨w.heap.size + 1, 0, none⟩ (.bool false) = V at r0 r9 B9 ⊢
      have ho : Hid (outF s.data.toList = none) := by
        unfold Hid outF
        rw [HO.out, Option.bind_some, if_neg (by rw [hcb]; exact Bool.false_ne_true)]
      refine leaves_cons (f := 37) (args := #[.pointer (some ⟨w.heap.size, 0, none⟩), .pointer (some ⟨w.heap.size + 1, 0, none⟩)]) (by simp) (by simp [go_sem]) ?_
      refine (catchF_idle w.heap.size V).mono ?_
      rintro e u' w'' ⟨rfl, rfl, rfl⟩
      exact ⟨_, by simp [results, Try.results21, go_sem, r0, r9], .inr ⟨rfl, ho⟩, B9⟩
    | true =>
      have ho : Hid (outF s.data.toList = some L) := by
        unfold Hid outF
        rw [HO.out, Option.bind_some, if_pos hcb]
      clear HO hcb
      have hne : ¬ w.heap.size + 1 = w.heap.size := by omega
      have hne2 : ¬ w.heap.size = w.heap.size + 1 := by omega
      have k0 : w3.cell? ⟨w.heap.size, 0, none⟩ = some (.slice none 0 0) := X3.cell 0
      have f0 : w3.frozen? ⟨w.heap.size, 0, none⟩ = false := X3.fro 0
      have l0 : w3.cell? ⟨w.heap.size + 1, 0, none⟩ = some (.bool false) := Y3.cell 0
      have m0 : w3.frozen? ⟨w.heap.size + 1, 0, none⟩ = false := Y3.fro 0
      have HOn : Only (fun k => k = w.heap.size ∨ k = w.heap.size + 1) w3 ((w3.setCell ⟨w.heap.size, 0, none⟩ (.slice va L.length vc)).setCell ⟨w.heap.size + 1, 0, none⟩ (.bool true)) := ((Only.refl (fun k => k = w.heap.size ∨ k = w.heap.size + 1) w3).setCell (p := ⟨w.heap.size, 0, none⟩) (.inl rfl) (.slice va L.length vc)).setCell (p := ⟨w.heap.size + 1, 0, none⟩) (.inr rfl) (.bool true)
      have B9 : Below w.heap.size w ((w3.setCell ⟨w.heap.size, 0, none⟩ (.slice va L.length vc)).setCell ⟨w.heap.size + 1, 0, none⟩ (.bool true)) := B3.trans (HOn.below B3.size (fun k hk h => by omega))
      have HV : Hid (Own slE 49 ((w3.setCell ⟨w.heap.size, 0, none⟩ (.slice va L.length vc)).setCell ⟨w.heap.size + 1, 0, none⟩ (.bool true)) w.heap.size (.slice va L.length vc) L) := (HM.out.only HOn (fun k hk h => by have := (HM.out.lt k hk).1; omega)).lower (by omega)
      clear X3 Y3 HM HOn
      go_wp2
      refine leaves_cons (f := 37) (args := #[.pointer (some ⟨w.heap.size, 0, none⟩), .pointer (some ⟨w.heap.size + 1, 0, none⟩)]) (by simp) (by simp [go_sem]) ?_
      refine (catchF_idle w.heap.size _).mono ?_
      rintro e u' w'' ⟨rfl, rfl, rfl⟩
      exact ⟨.tuple #[.slice va L.length vc, .bool true], by simp [results, Try.results21, go_sem, k0, l0], .inl ⟨_, L, rfl, ho, HV⟩, B9⟩
  · have X1 := X.only hon (by omega)
    have Y1 := Y.only hon (by omega)
    have B1 : Below w.heap.size w w1 := bW.trans (hon.below (by omega) (fun k hk h => by omega))
    clear X Y hon bW hC
    go_wp2
    refine leaves_cons (f := 37) (args := #[.pointer (some ⟨w.heap.size, 0, none⟩), .pointer (some ⟨w.heap.size + 1, 0, none⟩)]) (by simp) (by simp [go_sem]) ?_
    refine (catchF_panicking w.heap.size pv 9 w1 X1 Y1).mono ?_
    rintro e u' w'' ⟨rfl, rfl, h1, h2, h3⟩
    have B2 := B1.trans (h1.below B1.size (fun k hk h => by omega))
    have k0 : w''.cell? ⟨w.heap.size, 0, none⟩ = some (.slice none 0 0) := h2 0
    have ho : Hid (outF s.data.toList = none) := by unfold Hid outF; rw [HN.out]; rfl
    simp [Leaves, settle, results, Try.results21, go_sem, k0, h3]
    exact ⟨.inr ⟨rfl, ho⟩, B2⟩
set_option maxRecDepth 100000 in
set_option maxHeartbeats 2000000 in
theorem implReadFrame_any (s : ByteArray) (w : World) (hs : s.size ≤ 1048576) :
    Calls Try.prog 9 #[.string s] w (RdF s.data.toList w) := by
  go_enter Try.func9, Try.ntmps9
  go_wp2_with fail
  refine (wholeF_any s _ hs).mono ?_
  rintro e w1 ⟨⟨v, L, rfl, ho, hv⟩ | ⟨rfl, ho⟩, b1⟩
  · go_wp2_with fail
    exact bodyPost_ret (v := .tuple #[v, .bool true]) (by simp [results, Try.results9, go_sem]) rfl ⟨.inl ⟨v, L, rfl, ho, hv⟩, b1⟩
  · go_wp2_with fail
    exact bodyPost_ret (v := .tuple #[.slice none 0 0, .bool false]) (by simp [results, Try.results9, go_sem]) rfl ⟨.inr ⟨rfl, ho⟩, b1⟩
end Go.Proofs.Ythicdhjipebghaa
