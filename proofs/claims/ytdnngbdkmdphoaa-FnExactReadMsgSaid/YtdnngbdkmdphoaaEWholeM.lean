/- ReadMsg of the program: a cursor's panic is recovered. -/
import Derived.Test.YtdnngbdkmdphoaaECurM
import Derived.Test.YtdnngbdkmdphoaaEMsgJ
import Derived.Recover
namespace Go.Proofs.Ytdnngbdkmdphoaa
open Go.RowKit
set_option linter.unusedVariables false
/-- The message of which l is made. -/
noncomputable def outM (l : List UInt8) : Option Ms := (msO l).bind fun x => if msgB x = true then some x else none
/-- What ReadMsg hands back. -/
def RdM (l : List UInt8) (w : World) (e : Ending) (w' : World) : Prop :=
  ((∃ (a : Ms) (v : Value), e = .returned (.tuple #[msV a v, .bool true]) ∧ Hid (outM l = some a) ∧ Hid (Own enE 49 w' w.heap.size v a.es)) ∨ (e = .returned (.tuple #[.agg zM, .bool false]) ∧ Hid (outM l = none))) ∧ Below w.heap.size w w'
theorem reset1 {w0 w' : World} (h : ∀ q, w'.cell? q = w0.cell? q) {p : Addr} {v : Value} (hp : w0.cell? p = some v) : ∀ q, (w'.setCell p v).cell? q = w0.cell? q := fun q => by
  by_cases e : q = p
  · subst e; rw [World.cell?_setCell_same _ _ _ ((h _).trans hp), hp]
  · rw [World.cell?_setCell_other _ _ _ _ (fun h2 => e h2.symm), h]
abbrev zMV : Value := .agg zM
def CaughtM (g : Nat) (w w' : World) : Prop := Only (fun k => k = g ∨ k = g + 1) w w' ∧ (∀ o, w'.cell? ⟨g, o, none⟩ = zM[o]?) ∧ w'.cell? ⟨g + 1, 0, none⟩ = some (.bool false)
set_option maxRecDepth 100000 in
set_option maxHeartbeats 1000000 in
theorem catchM_idle (g : Nat) (w : World) :
    CallsD Try.prog 54 #[.pointer (some ⟨g, 0, none⟩), .pointer (some ⟨g + 1, 0, none⟩)] .returning w fun e u' w' => e = .returned (.tuple #[]) ∧ u' = .returning ∧ w' = w := by
  refine callsD_of_wpS Try.func54 rfl fun c₀ cs hu => ?_
  apply wpS_seq
  apply wpS_region
  simp [wpOpsS, go_sem, recoverD, hu, Try.ntmps54, Exit.thenS]
  refine wpS_cond (t := false) (by simp [Act.eval, Array.replicate]) ?_
  simp only [Bool.false_eq_true, if_false]
  refine wpS_of_wp (wp_skip ?_)
  cases c₀
  simp_all [bodyPostS, results, Try.results54]
theorem caughtM_mk {g : Nat} {w w0 : World} (h0 : Only (fun k => k = g ∨ k = g + 1) w w0) {a0 a1 a2 a3 a4 a5 a6 a7 a8 a9 b0 : Value} (k0 : w0.cell? ⟨g, 0, none⟩ = some a0) (k1 : w0.cell? ⟨g, 1, none⟩ = some a1) (k2 : w0.cell? ⟨g, 2, none⟩ = some a2) (k3 : w0.cell? ⟨g, 3, none⟩ = some a3) (k4 : w0.cell? ⟨g, 4, none⟩ = some a4) (k5 : w0.cell? ⟨g, 5, none⟩ = some a5) (k6 : w0.cell? ⟨g, 6, none⟩ = some a6) (k7 : w0.cell? ⟨g, 7, none⟩ = some a7) (k8 : w0.cell? ⟨g, 8, none⟩ = some a8) (k9 : w0.cell? ⟨g, 9, none⟩ = some a9) (l0 : w0.cell? ⟨g + 1, 0, none⟩ = some b0)
    (W : World) (hW : W = ((((((((((w0.setCell ⟨g, 0, none⟩ (a0)).setCell ⟨g, 1, none⟩ (a1)).setCell ⟨g, 2, none⟩ (a2)).setCell ⟨g, 3, none⟩ (a3)).setCell ⟨g, 4, none⟩ (a4)).setCell ⟨g, 5, none⟩ (a5)).setCell ⟨g, 6, none⟩ (a6)).setCell ⟨g, 7, none⟩ (a7)).setCell ⟨g, 8, none⟩ (a8)).setCell ⟨g, 9, none⟩ (a9)).setCell ⟨g + 1, 0, none⟩ (b0)) :
    Only (fun k => k = g ∨ k = g + 1) w W ∧ ∀ q, W.cell? q = w0.cell? q := by
  subst hW
  refine ⟨?_, ?_⟩
  · exact ((((((((((h0.setCell (p := ⟨g, 0, none⟩) (.inl rfl) a0).setCell (p := ⟨g, 1, none⟩) (.inl rfl) a1).setCell (p := ⟨g, 2, none⟩) (.inl rfl) a2).setCell (p := ⟨g, 3, none⟩) (.inl rfl) a3).setCell (p := ⟨g, 4, none⟩) (.inl rfl) a4).setCell (p := ⟨g, 5, none⟩) (.inl rfl) a5).setCell (p := ⟨g, 6, none⟩) (.inl rfl) a6).setCell (p := ⟨g, 7, none⟩) (.inl rfl) a7).setCell (p := ⟨g, 8, none⟩) (.inl rfl) a8).setCell (p := ⟨g, 9, none⟩) (.inl rfl) a9).setCell (p := ⟨g + 1, 0, none⟩) (.inr rfl) b0
  · exact reset1 (reset1 (reset1 (reset1 (reset1 (reset1 (reset1 (reset1 (reset1 (reset1 (reset1 (fun _ => rfl) k0) k1) k2) k3) k4) k5) k6) k7) k8) k9) l0
set_option maxRecDepth 100000 in
set_option maxHeartbeats 1000000 in
theorem catchM_panicking (g : Nat) (pv : Value) (u : TypeId) (w : World) (X : Blk w g zM) (Y : Blk w (g + 1) #[.bool false]) :
    CallsD Try.prog 54 #[.pointer (some ⟨g, 0, none⟩), .pointer (some ⟨g + 1, 0, none⟩)] (.panicking ({ v := .iface u pv, recovered := false } :: [])) w fun e u' w' => e = .returned (.tuple #[]) ∧ u' = .panicking ({ v := .iface u pv, recovered := true } :: []) ∧ CaughtM g w w' := by
  refine callsD_of_wpS Try.func54 rfl fun c₀ cs hu => ?_
  apply wpS_seq
  apply wpS_region
  simp [wpOpsS, go_sem, recoverD, hu, Try.ntmps54, Exit.thenS]
  refine wpS_cond (t := true) (by simp [Act.eval, Array.replicate]) ?_
  simp only [if_true]
  refine wpS_of_wp ?_
  have hg := Y.hi
  have hne : ¬ g + 1 = g := by omega
  have hne2 : ¬ g = g + 1 := by omega
  have k0 : (w.alloc (.cells #[.int .i64 0, .int .i64 0, .int .i64 0, .int .i64 0, .int .i64 0, .int .i64 0, .int .i64 0, .bool false, .slice none 0 0, .string ⟨#[]⟩] 29)).cell? ⟨g, 0, none⟩ = some (.int .i64 0) := (World.cell?_alloc_past _ _ _ (by have := X.hi; omega)).trans (X.cell 0)
  have f0 : (w.alloc (.cells #[.int .i64 0, .int .i64 0, .int .i64 0, .int .i64 0, .int .i64 0, .int .i64 0, .int .i64 0, .bool false, .slice none 0 0, .string ⟨#[]⟩] 29)).frozen? ⟨g, 0, none⟩ = false := (World.frozen?_alloc_past _ _ _ (by have := X.hi; omega)).trans (X.fro 0)
  have k1 : (w.alloc (.cells #[.int .i64 0, .int .i64 0, .int .i64 0, .int .i64 0, .int .i64 0, .int .i64 0, .int .i64 0, .bool false, .slice none 0 0, .string ⟨#[]⟩] 29)).cell? ⟨g, 1, none⟩ = some (.int .i64 0) := (World.cell?_alloc_past _ _ _ (by have := X.hi; omega)).trans (X.cell 1)
  have f1 : (w.alloc (.cells #[.int .i64 0, .int .i64 0, .int .i64 0, .int .i64 0, .int .i64 0, .int .i64 0, .int .i64 0, .bool false, .slice none 0 0, .string ⟨#[]⟩] 29)).frozen? ⟨g, 1, none⟩ = false := (World.frozen?_alloc_past _ _ _ (by have := X.hi; omega)).trans (X.fro 1)
  have k2 : (w.alloc (.cells #[.int .i64 0, .int .i64 0, .int .i64 0, .int .i64 0, .int .i64 0, .int .i64 0, .int .i64 0, .bool false, .slice none 0 0, .string ⟨#[]⟩] 29)).cell? ⟨g, 2, none⟩ = some (.int .i64 0) := (World.cell?_alloc_past _ _ _ (by have := X.hi; omega)).trans (X.cell 2)
  have f2 : (w.alloc (.cells #[.int .i64 0, .int .i64 0, .int .i64 0, .int .i64 0, .int .i64 0, .int .i64 0, .int .i64 0, .bool false, .slice none 0 0, .string ⟨#[]⟩] 29)).frozen? ⟨g, 2, none⟩ = false := (World.frozen?_alloc_past _ _ _ (by have := X.hi; omega)).trans (X.fro 2)
  have k3 : (w.alloc (.cells #[.int .i64 0, .int .i64 0, .int .i64 0, .int .i64 0, .int .i64 0, .int .i64 0, .int .i64 0, .bool false, .slice none 0 0, .string ⟨#[]⟩] 29)).cell? ⟨g, 3, none⟩ = some (.int .i64 0) := (World.cell?_alloc_past _ _ _ (by have := X.hi; omega)).trans (X.cell 3)
  have f3 : (w.alloc (.cells #[.int .i64 0, .int .i64 0, .int .i64 0, .int .i64 0, .int .i64 0, .int .i64 0, .int .i64 0, .bool false, .slice none 0 0, .string ⟨#[]⟩] 29)).frozen? ⟨g, 3, none⟩ = false := (World.frozen?_alloc_past _ _ _ (by have := X.hi; omega)).trans (X.fro 3)
  have k4 : (w.alloc (.cells #[.int .i64 0, .int .i64 0, .int .i64 0, .int .i64 0, .int .i64 0, .int .i64 0, .int .i64 0, .bool false, .slice none 0 0, .string ⟨#[]⟩] 29)).cell? ⟨g, 4, none⟩ = some (.int .i64 0) := (World.cell?_alloc_past _ _ _ (by have := X.hi; omega)).trans (X.cell 4)
  have f4 : (w.alloc (.cells #[.int .i64 0, .int .i64 0, .int .i64 0, .int .i64 0, .int .i64 0, .int .i64 0, .int .i64 0, .bool false, .slice none 0 0, .string ⟨#[]⟩] 29)).frozen? ⟨g, 4, none⟩ = false := (World.frozen?_alloc_past _ _ _ (by have := X.hi; omega)).trans (X.fro 4)
  have k5 : (w.alloc (.cells #[.int .i64 0, .int .i64 0, .int .i64 0, .int .i64 0, .int .i64 0, .int .i64 0, .int .i64 0, .bool false, .slice none 0 0, .string ⟨#[]⟩] 29)).cell? ⟨g, 5, none⟩ = some (.int .i64 0) := (World.cell?_alloc_past _ _ _ (by have := X.hi; omega)).trans (X.cell 5)
  have f5 : (w.alloc (.cells #[.int .i64 0, .int .i64 0, .int .i64 0, .int .i64 0, .int .i64 0, .int .i64 0, .int .i64 0, .bool false, .slice none 0 0, .string ⟨#[]⟩] 29)).frozen? ⟨g, 5, none⟩ = false := (World.frozen?_alloc_past _ _ _ (by have := X.hi; omega)).trans (X.fro 5)
  have k6 : (w.alloc (.cells #[.int .i64 0, .int .i64 0, .int .i64 0, .int .i64 0, .int .i64 0, .int .i64 0, .int .i64 0, .bool false, .slice none 0 0, .string ⟨#[]⟩] 29)).cell? ⟨g, 6, none⟩ = some (.int .i64 0) := (World.cell?_alloc_past _ _ _ (by have := X.hi; omega)).trans (X.cell 6)
  have f6 : (w.alloc (.cells #[.int .i64 0, .int .i64 0, .int .i64 0, .int .i64 0, .int .i64 0, .int .i64 0, .int .i64 0, .bool false, .slice none 0 0, .string ⟨#[]⟩] 29)).frozen? ⟨g, 6, none⟩ = false := (World.frozen?_alloc_past _ _ _ (by have := X.hi; omega)).trans (X.fro 6)
  have k7 : (w.alloc (.cells #[.int .i64 0, .int .i64 0, .int .i64 0, .int .i64 0, .int .i64 0, .int .i64 0, .int .i64 0, .bool false, .slice none 0 0, .string ⟨#[]⟩] 29)).cell? ⟨g, 7, none⟩ = some (.bool false) := (World.cell?_alloc_past _ _ _ (by have := X.hi; omega)).trans (X.cell 7)
  have f7 : (w.alloc (.cells #[.int .i64 0, .int .i64 0, .int .i64 0, .int .i64 0, .int .i64 0, .int .i64 0, .int .i64 0, .bool false, .slice none 0 0, .string ⟨#[]⟩] 29)).frozen? ⟨g, 7, none⟩ = false := (World.frozen?_alloc_past _ _ _ (by have := X.hi; omega)).trans (X.fro 7)
  have k8 : (w.alloc (.cells #[.int .i64 0, .int .i64 0, .int .i64 0, .int .i64 0, .int .i64 0, .int .i64 0, .int .i64 0, .bool false, .slice none 0 0, .string ⟨#[]⟩] 29)).cell? ⟨g, 8, none⟩ = some (.slice none 0 0) := (World.cell?_alloc_past _ _ _ (by have := X.hi; omega)).trans (X.cell 8)
  have f8 : (w.alloc (.cells #[.int .i64 0, .int .i64 0, .int .i64 0, .int .i64 0, .int .i64 0, .int .i64 0, .int .i64 0, .bool false, .slice none 0 0, .string ⟨#[]⟩] 29)).frozen? ⟨g, 8, none⟩ = false := (World.frozen?_alloc_past _ _ _ (by have := X.hi; omega)).trans (X.fro 8)
  have k9 : (w.alloc (.cells #[.int .i64 0, .int .i64 0, .int .i64 0, .int .i64 0, .int .i64 0, .int .i64 0, .int .i64 0, .bool false, .slice none 0 0, .string ⟨#[]⟩] 29)).cell? ⟨g, 9, none⟩ = some (.string ⟨#[]⟩) := (World.cell?_alloc_past _ _ _ (by have := X.hi; omega)).trans (X.cell 9)
  have f9 : (w.alloc (.cells #[.int .i64 0, .int .i64 0, .int .i64 0, .int .i64 0, .int .i64 0, .int .i64 0, .int .i64 0, .bool false, .slice none 0 0, .string ⟨#[]⟩] 29)).frozen? ⟨g, 9, none⟩ = false := (World.frozen?_alloc_past _ _ _ (by have := X.hi; omega)).trans (X.fro 9)
  have l0 : (w.alloc (.cells #[.int .i64 0, .int .i64 0, .int .i64 0, .int .i64 0, .int .i64 0, .int .i64 0, .int .i64 0, .bool false, .slice none 0 0, .string ⟨#[]⟩] 29)).cell? ⟨g + 1, 0, none⟩ = some (.bool false) := (World.cell?_alloc_past _ _ _ Y.hi).trans (Y.cell 0)
  have m0 : (w.alloc (.cells #[.int .i64 0, .int .i64 0, .int .i64 0, .int .i64 0, .int .i64 0, .int .i64 0, .int .i64 0, .bool false, .slice none 0 0, .string ⟨#[]⟩] 29)).frozen? ⟨g + 1, 0, none⟩ = false := (World.frozen?_alloc_past _ _ _ Y.hi).trans (Y.fro 0)
  go_wp2
  obtain ⟨o1, o2⟩ := caughtM_mk (w := w) (Only.alloc (Only.refl _ _) _) k0 k1 k2 k3 k4 k5 k6 k7 k8 k9 l0 _ rfl
  have HK := Hid.intro (show CaughtM g w _ from ⟨o1, fun o => (o2 _).trans ((World.cell?_alloc_past _ _ _ (by omega)).trans (X.cell o)), (o2 _).trans l0⟩)
  clear o1 o2
  exact ⟨rfl, _, rfl, .tuple #[], by simp [results, Try.results54, go_sem], rfl, rfl, HK.out⟩
set_option maxRecDepth 100000 in
set_option maxHeartbeats 8000000 in
theorem wholeM_any (s : ByteArray) (w : World) (hs : s.size ≤ 1048576) :
    Calls Try.prog 41 #[.string s, .func (Fn.func 42) #[] #[], .func (Fn.func 9) #[] #[]] w (RdM s.data.toList w) := by
  have hmf : ∀ (fn : Fn) (first cap : Array Value) (w : World), (Instr.makeFunc fn first cap).run Try.prog w = .ok (.func fn first cap) w := fun _ _ _ _ => rfl
  go_enter_defers Try.func41, Try.ntmps41
  go_wp2_with fail
  obtain ⟨W, hW, bW, zW, c0, f0, c1, f1, c2, f2⟩ := boxed3 w zM #[.bool false] #[.string s] 29 4 83
  simp only [hW]
  have hC : CurAt W (w.heap.size + 1 + 1) s := ⟨by omega, c2 0, f2 0⟩
  have X : Blk W w.heap.size zM := ⟨by omega, c0, f0⟩
  have Y : Blk W (w.heap.size + 1) #[.bool false] := ⟨by omega, c1, f1⟩
  clear hW c0 f0 c1 f1 c2 f2
  refine (msgC_any (w.heap.size + 1 + 1) s W hC hs).mono ?_
  rintro e w1 (⟨t, v, q', rfl, HO, hc, hz, h4, HM, hon⟩ | ⟨⟨pv, rfl⟩, HN, hon⟩)
  · have X1 := X.only hon (by omega)
    have Y1 := Y.only hon (by omega)
    have B1 : Below w.heap.size w w1 := bW.trans (hon.below (by omega) (fun k hk h => by omega))
    obtain ⟨va, vc, rfl⟩ := HM.out.slice
    go_upto_region 4 with fail
    obtain ⟨W2, hW2, bW2, zW2, cW2, fW2⟩ := boxed w1 (msA t (.slice va t.es.length vc)) 29
    simp only [hW2]
    have hq := (hc.kept bW2).cell
    have X2 := X1.kept bW2
    have Y2 := Y1.kept bW2
    have B2 := B1.trans (bW2.mono B1.size)
    have hlt1 := hc.lt
    replace HM := Hid.intro (HM.out.kept bW2)
    clear X Y hon bW hC hc X1 Y1 B1 hW2 bW2
    · have y1 := bs_mt hz
      go_wp2_with fail
      refine (implMsgOk_any t _ W2.heap.size W2 (Nat.le_refl _) HM.out.rowAll (by omega)).mono ?_
      rintro e w3 ⟨rfl, b3⟩
      have X3 := X2.kept b3
      have Y3 := Y2.kept b3
      have B3 := B2.trans (b3.mono B2.size)
      have cW3 := keepC b3 (by omega) cW2
      have z3 := b3.size
      replace HM := Hid.intro (HM.out.kept b3)
      clear X2 Y2 B2 b3 cW2 fW2 hq
      cases hcb : msgB t with
      | false =>
        have hne : ¬ w.heap.size + 1 = w.heap.size := by omega
        have hne2 : ¬ w.heap.size = w.heap.size + 1 := by omega
        have k0 : (w3.alloc (.cells #[.int .i64 0, .int .i64 0, .int .i64 0, .int .i64 0, .int .i64 0, .int .i64 0, .int .i64 0, .bool false, .slice none 0 0, .string ⟨#[]⟩] 29)).cell? ⟨w.heap.size, 0, none⟩ = some (.int .i64 0) := (World.cell?_alloc_past _ _ _ (by have := X3.hi; omega)).trans (X3.cell 0)
        have f0 : (w3.alloc (.cells #[.int .i64 0, .int .i64 0, .int .i64 0, .int .i64 0, .int .i64 0, .int .i64 0, .int .i64 0, .bool false, .slice none 0 0, .string ⟨#[]⟩] 29)).frozen? ⟨w.heap.size, 0, none⟩ = false := (World.frozen?_alloc_past _ _ _ (by have := X3.hi; omega)).trans (X3.fro 0)
        have k1 : (w3.alloc (.cells #[.int .i64 0, .int .i64 0, .int .i64 0, .int .i64 0, .int .i64 0, .int .i64 0, .int .i64 0, .bool false, .slice none 0 0, .string ⟨#[]⟩] 29)).cell? ⟨w.heap.size, 1, none⟩ = some (.int .i64 0) := (World.cell?_alloc_past _ _ _ (by have := X3.hi; omega)).trans (X3.cell 1)
        have f1 : (w3.alloc (.cells #[.int .i64 0, .int .i64 0, .int .i64 0, .int .i64 0, .int .i64 0, .int .i64 0, .int .i64 0, .bool false, .slice none 0 0, .string ⟨#[]⟩] 29)).frozen? ⟨w.heap.size, 1, none⟩ = false := (World.frozen?_alloc_past _ _ _ (by have := X3.hi; omega)).trans (X3.fro 1)
        have k2 : (w3.alloc (.cells #[.int .i64 0, .int .i64 0, .int .i64 0, .int .i64 0, .int .i64 0, .int .i64 0, .int .i64 0, .bool false, .slice none 0 0, .string ⟨#[]⟩] 29)).cell? ⟨w.heap.size, 2, none⟩ = some (.int .i64 0) := (World.cell?_alloc_past _ _ _ (by have := X3.hi; omega)).trans (X3.cell 2)
        have f2 : (w3.alloc (.cells #[.int .i64 0, .int .i64 0, .int .i64 0, .int .i64 0, .int .i64 0, .int .i64 0, .int .i64 0, .bool false, .slice none 0 0, .string ⟨#[]⟩] 29)).frozen? ⟨w.heap.size, 2, none⟩ = false := (World.frozen?_alloc_past _ _ _ (by have := X3.hi; omega)).trans (X3.fro 2)
        have k3 : (w3.alloc (.cells #[.int .i64 0, .int .i64 0, .int .i64 0, .int .i64 0, .int .i64 0, .int .i64 0, .int .i64 0, .bool false, .slice none 0 0, .string ⟨#[]⟩] 29)).cell? ⟨w.heap.size, 3, none⟩ = some (.int .i64 0) := (World.cell?_alloc_past _ _ _ (by have := X3.hi; omega)).trans (X3.cell 3)
        have f3 : (w3.alloc (.cells #[.int .i64 0, .int .i64 0, .int .i64 0, .int .i64 0, .int .i64 0, .int .i64 0, .int .i64 0, .bool false, .slice none 0 0, .string ⟨#[]⟩] 29)).frozen? ⟨w.heap.size, 3, none⟩ = false := (World.frozen?_alloc_past _ _ _ (by have := X3.hi; omega)).trans (X3.fro 3)
        have k4 : (w3.alloc (.cells #[.int .i64 0, .int .i64 0, .int .i64 0, .int .i64 0, .int .i64 0, .int .i64 0, .int .i64 0, .bool false, .slice none 0 0, .string ⟨#[]⟩] 29)).cell? ⟨w.heap.size, 4, none⟩ = some (.int .i64 0) := (World.cell?_alloc_past _ _ _ (by have := X3.hi; omega)).trans (X3.cell 4)
        have f4 : (w3.alloc (.cells #[.int .i64 0, .int .i64 0, .int .i64 0, .int .i64 0, .int .i64 0, .int .i64 0, .int .i64 0, .bool false, .slice none 0 0, .string ⟨#[]⟩] 29)).frozen? ⟨w.heap.size, 4, none⟩ = false := (World.frozen?_alloc_past _ _ _ (by have := X3.hi; omega)).trans (X3.fro 4)
        have k5 : (w3.alloc (.cells #[.int .i64 0, .int .i64 0, .int .i64 0, .int .i64 0, .int .i64 0, .int .i64 0, .int .i64 0, .bool false, .slice none 0 0, .string ⟨#[]⟩] 29)).cell? ⟨w.heap.size, 5, none⟩ = some (.int .i64 0) := (World.cell?_alloc_past _ _ _ (by have := X3.hi; omega)).trans (X3.cell 5)
        have f5 : (w3.alloc (.cells #[.int .i64 0, .int .i64 0, .int .i64 0, .int .i64 0, .int .i64 0, .int .i64 0, .int .i64 0, .bool false, .slice none 0 0, .string ⟨#[]⟩] 29)).frozen? ⟨w.heap.size, 5, none⟩ = false := (World.frozen?_alloc_past _ _ _ (by have := X3.hi; omega)).trans (X3.fro 5)
        have k6 : (w3.alloc (.cells #[.int .i64 0, .int .i64 0, .int .i64 0, .int .i64 0, .int .i64 0, .int .i64 0, .int .i64 0, .bool false, .slice none 0 0, .string ⟨#[]⟩] 29)).cell? ⟨w.heap.size, 6, none⟩ = some (.int .i64 0) := (World.cell?_alloc_past _ _ _ (by have := X3.hi; omega)).trans (X3.cell 6)
        have f6 : (w3.alloc (.cells #[.int .i64 0, .int .i64 0, .int .i64 0, .int .i64 0, .int .i64 0, .int .i64 0, .int .i64 0, .bool false, .slice none 0 0, .string ⟨#[]⟩] 29)).frozen? ⟨w.heap.size, 6, none⟩ = false := (World.frozen?_alloc_past _ _ _ (by have := X3.hi; omega)).trans (X3.fro 6)
        have k7 : (w3.alloc (.cells #[.int .i64 0, .int .i64 0, .int .i64 0, .int .i64 0, .int .i64 0, .int .i64 0, .int .i64 0, .bool false, .slice none 0 0, .string ⟨#[]⟩] 29)).cell? ⟨w.heap.size, 7, none⟩ = some (.bool false) := (World.cell?_alloc_past _ _ _ (by have := X3.hi; omega)).trans (X3.cell 7)
        have f7 : (w3.alloc (.cells #[.int .i64 0, .int .i64 0, .int .i64 0, .int .i64 0, .int .i64 0, .int .i64 0, .int .i64 0, .bool false, .slice none 0 0, .string ⟨#[]⟩] 29)).frozen? ⟨w.heap.size, 7, none⟩ = false := (World.frozen?_alloc_past _ _ _ (by have := X3.hi; omega)).trans (X3.fro 7)
        have k8 : (w3.alloc (.cells #[.int .i64 0, .int .i64 0, .int .i64 0, .int .i64 0, .int .i64 0, .int .i64 0, .int .i64 0, .bool false, .slice none 0 0, .string ⟨#[]⟩] 29)).cell? ⟨w.heap.size, 8, none⟩ = some (.slice none 0 0) := (World.cell?_alloc_past _ _ _ (by have := X3.hi; omega)).trans (X3.cell 8)
        have f8 : (w3.alloc (.cells #[.int .i64 0, .int .i64 0, .int .i64 0, .int .i64 0, .int .i64 0, .int .i64 0, .int .i64 0, .bool false, .slice none 0 0, .string ⟨#[]⟩] 29)).frozen? ⟨w.heap.size, 8, none⟩ = false := (World.frozen?_alloc_past _ _ _ (by have := X3.hi; omega)).trans (X3.fro 8)
        have k9 : (w3.alloc (.cells #[.int .i64 0, .int .i64 0, .int .i64 0, .int .i64 0, .int .i64 0, .int .i64 0, .int .i64 0, .bool false, .slice none 0 0, .string ⟨#[]⟩] 29)).cell? ⟨w.heap.size, 9, none⟩ = some (.string ⟨#[]⟩) := (World.cell?_alloc_past _ _ _ (by have := X3.hi; omega)).trans (X3.cell 9)
        have f9 : (w3.alloc (.cells #[.int .i64 0, .int .i64 0, .int .i64 0, .int .i64 0, .int .i64 0, .int .i64 0, .int .i64 0, .bool false, .slice none 0 0, .string ⟨#[]⟩] 29)).frozen? ⟨w.heap.size, 9, none⟩ = false := (World.frozen?_alloc_past _ _ _ (by have := X3.hi; omega)).trans (X3.fro 9)
        have l0 : (w3.alloc (.cells #[.int .i64 0, .int .i64 0, .int .i64 0, .int .i64 0, .int .i64 0, .int .i64 0, .int .i64 0, .bool false, .slice none 0 0, .string ⟨#[]⟩] 29)).cell? ⟨w.heap.size + 1, 0, none⟩ = some (.bool false) := (World.cell?_alloc_past _ _ _ Y3.hi).trans (Y3.cell 0)
        have m0 : (w3.alloc (.cells #[.int .i64 0, .int .i64 0, .int .i64 0, .int .i64 0, .int .i64 0, .int .i64 0, .int .i64 0, .bool false, .slice none 0 0, .string ⟨#[]⟩] 29)).frozen? ⟨w.heap.size + 1, 0, none⟩ = false := (World.frozen?_alloc_past _ _ _ Y3.hi).trans (Y3.fro 0)
        go_wp2
        obtain ⟨o1, o2⟩ := caughtM_mk (w := w3) (Only.alloc (Only.refl _ _) _) k0 k1 k2 k3 k4 k5 k6 k7 k8 k9 l0 _ rfl
        have r0 := (o2 _).trans k0
        have r1 := (o2 _).trans k1
        have r2 := (o2 _).trans k2
        have r3 := (o2 _).trans k3
        have r4 := (o2 _).trans k4
        have r5 := (o2 _).trans k5
        have r6 := (o2 _).trans k6
        have r7 := (o2 _).trans k7
        have r8 := (o2 _).trans k8
        have r9 := (o2 _).trans k9
        have rz := (o2 _).trans l0
        have B9 := B3.trans (o1.below B3.size (fun k hk h => by omega))
        clear o1 o2 k0 k1 k2 k3 k4 k5 k6 k7 k8 k9 l0 f0 f1 f2 f3 f4 f5 f6 f7 f8 f9 m0
        generalize (((((((((((w3.alloc (.cells #[.int .i64 0, .int .i64 0, .int .i64 0, .int .i64 0, .int .i64 0, .int .i64 0, .int .i64 0, .bool false, .slice none 0 0, .string ⟨#[]⟩] 29)).setCell ⟨w.heap.size, 0, none⟩ (.int .i64 0)).setCell ⟨w.heap.size, 1, none⟩ (.int .i64 0)).setCell ⟨w.heap.size, 2, none⟩ (.int .i64 0)).setCell ⟨w.heap.size, 3, none⟩ (.int .i64 0)).setCell ⟨w.heap.size, 4, none⟩ (.int .i64 0)).setCell ⟨w.heap.size, 5, none⟩ (.int .i64 0)).setCell ⟨w.heap.size, 6, none⟩ (.int .i64 0)).setCell ⟨w.heap.size, 7, none⟩ (.bool false)).setCell ⟨w.heap.size, 8, none⟩ (.slice none 0 0)).setCell ⟨w.heap.size, 9, none⟩ (.string ⟨#[]⟩)).setCell ⟨w.heap.size + 1, 0, none⟩ (.bool false) = V at r0 r1 r2 r3 r4 r5 r6 r7 r8 r9 rz B9 ⊢
        have ho : Hid (outM s.data.toList = none) := by
          unfold Hid outM
          rw [HO.out]
          simp only [Option.bind_some]
          rw [if_neg (fun h => by rw [h] at hcb; cases hcb)]
        refine leaves_cons (f := 54) (args := #[.pointer (some ⟨w.heap.size, 0, none⟩), .pointer (some ⟨w.heap.size + 1, 0, none⟩)]) (by simp) (by simp [go_sem]) ?_
        refine (catchM_idle w.heap.size V).mono ?_
        rintro e u' w'' ⟨rfl, rfl, rfl⟩
        exact ⟨_, by simp [results, Try.results41, go_sem, r0, r1, r2, r3, r4, r5, r6, r7, r8, r9, rz], .inr ⟨rfl, ho⟩, B9⟩
      | true =>
        have ho : Hid (outM s.data.toList = some t) := by
          unfold Hid outM
          rw [HO.out]
          simp [hcb]
        clear HO hcb
        have hne : ¬ w.heap.size + 1 = w.heap.size := by omega
        have hne2 : ¬ w.heap.size = w.heap.size + 1 := by omega
        have hne3 : ¬ w.heap.size = w1.heap.size := by omega
        have hne4 : ¬ w.heap.size + 1 = w1.heap.size := by omega
        have e0 : w3.cell? ⟨w1.heap.size, 0, none⟩ = some (.int .i64 t.k) := cW3 0
        have e1 : w3.cell? ⟨w1.heap.size, 1, none⟩ = some (.int .i64 t.f) := cW3 1
        have e2 : w3.cell? ⟨w1.heap.size, 2, none⟩ = some (.int .i64 t.g) := cW3 2
        have e3 : w3.cell? ⟨w1.heap.size, 3, none⟩ = some (.int .i64 t.m) := cW3 3
        have e4 : w3.cell? ⟨w1.heap.size, 4, none⟩ = some (.int .i64 t.i) := cW3 4
        have e5 : w3.cell? ⟨w1.heap.size, 5, none⟩ = some (.int .i64 t.j) := cW3 5
        have e6 : w3.cell? ⟨w1.heap.size, 6, none⟩ = some (.int .i64 t.c) := cW3 6
        have e7 : w3.cell? ⟨w1.heap.size, 7, none⟩ = some (.bool t.y) := cW3 7
        have e8 : w3.cell? ⟨w1.heap.size, 8, none⟩ = some (.slice va t.es.length vc) := cW3 8
        have e9 : w3.cell? ⟨w1.heap.size, 9, none⟩ = some (.string t.d) := cW3 9
        have k0 : w3.cell? ⟨w.heap.size, 0, none⟩ = some (.int .i64 0) := X3.cell 0
        have f0 : w3.frozen? ⟨w.heap.size, 0, none⟩ = false := X3.fro 0
        have k1 : w3.cell? ⟨w.heap.size, 1, none⟩ = some (.int .i64 0) := X3.cell 1
        have f1 : w3.frozen? ⟨w.heap.size, 1, none⟩ = false := X3.fro 1
        have k2 : w3.cell? ⟨w.heap.size, 2, none⟩ = some (.int .i64 0) := X3.cell 2
        have f2 : w3.frozen? ⟨w.heap.size, 2, none⟩ = false := X3.fro 2
        have k3 : w3.cell? ⟨w.heap.size, 3, none⟩ = some (.int .i64 0) := X3.cell 3
        have f3 : w3.frozen? ⟨w.heap.size, 3, none⟩ = false := X3.fro 3
        have k4 : w3.cell? ⟨w.heap.size, 4, none⟩ = some (.int .i64 0) := X3.cell 4
        have f4 : w3.frozen? ⟨w.heap.size, 4, none⟩ = false := X3.fro 4
        have k5 : w3.cell? ⟨w.heap.size, 5, none⟩ = some (.int .i64 0) := X3.cell 5
        have f5 : w3.frozen? ⟨w.heap.size, 5, none⟩ = false := X3.fro 5
        have k6 : w3.cell? ⟨w.heap.size, 6, none⟩ = some (.int .i64 0) := X3.cell 6
        have f6 : w3.frozen? ⟨w.heap.size, 6, none⟩ = false := X3.fro 6
        have k7 : w3.cell? ⟨w.heap.size, 7, none⟩ = some (.bool false) := X3.cell 7
        have f7 : w3.frozen? ⟨w.heap.size, 7, none⟩ = false := X3.fro 7
        have k8 : w3.cell? ⟨w.heap.size, 8, none⟩ = some (.slice none 0 0) := X3.cell 8
        have f8 : w3.frozen? ⟨w.heap.size, 8, none⟩ = false := X3.fro 8
        have k9 : w3.cell? ⟨w.heap.size, 9, none⟩ = some (.string ⟨#[]⟩) := X3.cell 9
        have f9 : w3.frozen? ⟨w.heap.size, 9, none⟩ = false := X3.fro 9
        have l0 : w3.cell? ⟨w.heap.size + 1, 0, none⟩ = some (.bool false) := Y3.cell 0
        have m0 : w3.frozen? ⟨w.heap.size + 1, 0, none⟩ = false := Y3.fro 0
        have HOn : Only (fun k => k = w.heap.size ∨ k = w.heap.size + 1) w3 (((((((((((w3.setCell ⟨w.heap.size, 0, none⟩ (.int .i64 t.k)).setCell ⟨w.heap.size, 1, none⟩ (.int .i64 t.f)).setCell ⟨w.heap.size, 2, none⟩ (.int .i64 t.g)).setCell ⟨w.heap.size, 3, none⟩ (.int .i64 t.m)).setCell ⟨w.heap.size, 4, none⟩ (.int .i64 t.i)).setCell ⟨w.heap.size, 5, none⟩ (.int .i64 t.j)).setCell ⟨w.heap.size, 6, none⟩ (.int .i64 t.c)).setCell ⟨w.heap.size, 7, none⟩ (.bool t.y)).setCell ⟨w.heap.size, 8, none⟩ (.slice va t.es.length vc)).setCell ⟨w.heap.size, 9, none⟩ (.string t.d)).setCell ⟨w.heap.size + 1, 0, none⟩ (.bool true)) :=
          (((((((((((Only.refl (fun k => k = w.heap.size ∨ k = w.heap.size + 1) w3).setCell (p := ⟨w.heap.size, 0, none⟩) (.inl rfl) (.int .i64 t.k)).setCell (p := ⟨w.heap.size, 1, none⟩) (.inl rfl) (.int .i64 t.f)).setCell (p := ⟨w.heap.size, 2, none⟩) (.inl rfl) (.int .i64 t.g)).setCell (p := ⟨w.heap.size, 3, none⟩) (.inl rfl) (.int .i64 t.m)).setCell (p := ⟨w.heap.size, 4, none⟩) (.inl rfl) (.int .i64 t.i)).setCell (p := ⟨w.heap.size, 5, none⟩) (.inl rfl) (.int .i64 t.j)).setCell (p := ⟨w.heap.size, 6, none⟩) (.inl rfl) (.int .i64 t.c)).setCell (p := ⟨w.heap.size, 7, none⟩) (.inl rfl) (.bool t.y)).setCell (p := ⟨w.heap.size, 8, none⟩) (.inl rfl) (.slice va t.es.length vc)).setCell (p := ⟨w.heap.size, 9, none⟩) (.inl rfl) (.string t.d)).setCell (p := ⟨w.heap.size + 1, 0, none⟩) (.inr rfl) (.bool true)
        have B9 : Below w.heap.size w (((((((((((w3.setCell ⟨w.heap.size, 0, none⟩ (.int .i64 t.k)).setCell ⟨w.heap.size, 1, none⟩ (.int .i64 t.f)).setCell ⟨w.heap.size, 2, none⟩ (.int .i64 t.g)).setCell ⟨w.heap.size, 3, none⟩ (.int .i64 t.m)).setCell ⟨w.heap.size, 4, none⟩ (.int .i64 t.i)).setCell ⟨w.heap.size, 5, none⟩ (.int .i64 t.j)).setCell ⟨w.heap.size, 6, none⟩ (.int .i64 t.c)).setCell ⟨w.heap.size, 7, none⟩ (.bool t.y)).setCell ⟨w.heap.size, 8, none⟩ (.slice va t.es.length vc)).setCell ⟨w.heap.size, 9, none⟩ (.string t.d)).setCell ⟨w.heap.size + 1, 0, none⟩ (.bool true)) := B3.trans (HOn.below B3.size (fun k hk h => by omega))
        have HV : Hid (Own enE 49 (((((((((((w3.setCell ⟨w.heap.size, 0, none⟩ (.int .i64 t.k)).setCell ⟨w.heap.size, 1, none⟩ (.int .i64 t.f)).setCell ⟨w.heap.size, 2, none⟩ (.int .i64 t.g)).setCell ⟨w.heap.size, 3, none⟩ (.int .i64 t.m)).setCell ⟨w.heap.size, 4, none⟩ (.int .i64 t.i)).setCell ⟨w.heap.size, 5, none⟩ (.int .i64 t.j)).setCell ⟨w.heap.size, 6, none⟩ (.int .i64 t.c)).setCell ⟨w.heap.size, 7, none⟩ (.bool t.y)).setCell ⟨w.heap.size, 8, none⟩ (.slice va t.es.length vc)).setCell ⟨w.heap.size, 9, none⟩ (.string t.d)).setCell ⟨w.heap.size + 1, 0, none⟩ (.bool true)) w.heap.size (.slice va t.es.length vc) t.es) := (HM.out.only HOn (fun k hk h => by have := (HM.out.lt k hk).1; omega)).lower (by omega)
        clear cW3 X3 Y3 HM HOn
        go_wp2
        refine leaves_cons (f := 54) (args := #[.pointer (some ⟨w.heap.size, 0, none⟩), .pointer (some ⟨w.heap.size + 1, 0, none⟩)]) (by simp) (by simp [go_sem]) ?_
        refine (catchM_idle w.heap.size _).mono ?_
        rintro e u' w'' ⟨rfl, rfl, rfl⟩
        exact ⟨.tuple #[msV t (.slice va t.es.length vc), .bool true], by simp [results, Try.results41, go_sem, k0, k1, k2, k3, k4, k5, k6, k7, k8, k9, l0], .inl ⟨t, _, rfl, ho, HV⟩, B9⟩
  · have X1 := X.only hon (by omega)
    have Y1 := Y.only hon (by omega)
    have B1 : Below w.heap.size w w1 := bW.trans (hon.below (by omega) (fun k hk h => by omega))
    clear X Y hon bW hC
    go_wp2
    refine leaves_cons (f := 54) (args := #[.pointer (some ⟨w.heap.size, 0, none⟩), .pointer (some ⟨w.heap.size + 1, 0, none⟩)]) (by simp) (by simp [go_sem]) ?_
    refine (catchM_panicking w.heap.size pv 9 w1 X1 Y1).mono ?_
    rintro e u' w'' ⟨rfl, rfl, h1, h2, h3⟩
    have B2 := B1.trans (h1.below B1.size (fun k hk h => by omega))
    have k0 : w''.cell? ⟨w.heap.size, 0, none⟩ = some (.int .i64 0) := h2 0
    have k1 : w''.cell? ⟨w.heap.size, 1, none⟩ = some (.int .i64 0) := h2 1
    have k2 : w''.cell? ⟨w.heap.size, 2, none⟩ = some (.int .i64 0) := h2 2
    have k3 : w''.cell? ⟨w.heap.size, 3, none⟩ = some (.int .i64 0) := h2 3
    have k4 : w''.cell? ⟨w.heap.size, 4, none⟩ = some (.int .i64 0) := h2 4
    have k5 : w''.cell? ⟨w.heap.size, 5, none⟩ = some (.int .i64 0) := h2 5
    have k6 : w''.cell? ⟨w.heap.size, 6, none⟩ = some (.int .i64 0) := h2 6
    have k7 : w''.cell? ⟨w.heap.size, 7, none⟩ = some (.bool false) := h2 7
    have k8 : w''.cell? ⟨w.heap.size, 8, none⟩ = some (.slice none 0 0) := h2 8
    have k9 : w''.cell? ⟨w.heap.size, 9, none⟩ = some (.string ⟨#[]⟩) := h2 9
    have ho : Hid (outM s.data.toList = none) := by unfold Hid outM; rw [HN.out]; rfl
    simp [Leaves, settle, results, Try.results41, go_sem, k0, k1, k2, k3, k4, k5, k6, k7, k8, k9, h3]
    exact ⟨.inr ⟨rfl, ho⟩, B2⟩
set_option maxRecDepth 100000 in
set_option maxHeartbeats 2000000 in
theorem implReadMsg_any (s : ByteArray) (w : World) (hs : s.size ≤ 1048576) :
    Calls Try.prog 14 #[.string s] w (RdM s.data.toList w) := by
  go_enter Try.func14, Try.ntmps14
  go_wp2_with fail
  obtain ⟨W, hW, bW, zW, cW, fW⟩ := boxed w zM 29
  simp only [hW]
  refine (wholeM_any s _ hs).mono ?_
  rintro e w1 ⟨h, b1⟩
  have X : Blk w1 w.heap.size zM := ⟨by have := b1.size; omega, keepC b1 (by omega) cW, keepF b1 (by omega) fW⟩
  have B1 := bW.trans (b1.mono (by omega))
  clear hW cW fW b1
  have k0 : w1.cell? ⟨w.heap.size, 0, none⟩ = some (.int .i64 0) := X.cell 0
  have f0 : w1.frozen? ⟨w.heap.size, 0, none⟩ = false := X.fro 0
  have k1 : w1.cell? ⟨w.heap.size, 1, none⟩ = some (.int .i64 0) := X.cell 1
  have f1 : w1.frozen? ⟨w.heap.size, 1, none⟩ = false := X.fro 1
  have k2 : w1.cell? ⟨w.heap.size, 2, none⟩ = some (.int .i64 0) := X.cell 2
  have f2 : w1.frozen? ⟨w.heap.size, 2, none⟩ = false := X.fro 2
  have k3 : w1.cell? ⟨w.heap.size, 3, none⟩ = some (.int .i64 0) := X.cell 3
  have f3 : w1.frozen? ⟨w.heap.size, 3, none⟩ = false := X.fro 3
  have k4 : w1.cell? ⟨w.heap.size, 4, none⟩ = some (.int .i64 0) := X.cell 4
  have f4 : w1.frozen? ⟨w.heap.size, 4, none⟩ = false := X.fro 4
  have k5 : w1.cell? ⟨w.heap.size, 5, none⟩ = some (.int .i64 0) := X.cell 5
  have f5 : w1.frozen? ⟨w.heap.size, 5, none⟩ = false := X.fro 5
  have k6 : w1.cell? ⟨w.heap.size, 6, none⟩ = some (.int .i64 0) := X.cell 6
  have f6 : w1.frozen? ⟨w.heap.size, 6, none⟩ = false := X.fro 6
  have k7 : w1.cell? ⟨w.heap.size, 7, none⟩ = some (.bool false) := X.cell 7
  have f7 : w1.frozen? ⟨w.heap.size, 7, none⟩ = false := X.fro 7
  have k8 : w1.cell? ⟨w.heap.size, 8, none⟩ = some (.slice none 0 0) := X.cell 8
  have f8 : w1.frozen? ⟨w.heap.size, 8, none⟩ = false := X.fro 8
  have k9 : w1.cell? ⟨w.heap.size, 9, none⟩ = some (.string ⟨#[]⟩) := X.cell 9
  have f9 : w1.frozen? ⟨w.heap.size, 9, none⟩ = false := X.fro 9
  rcases h with ⟨t, v, rfl, ho, hv⟩ | ⟨rfl, ho⟩
  · obtain ⟨va, vc, rfl⟩ := hv.out.slice
    have HOn : Only (fun k => k = w.heap.size) w1 ((((((((((w1.setCell ⟨w.heap.size, 0, none⟩ (.int .i64 t.k)).setCell ⟨w.heap.size, 1, none⟩ (.int .i64 t.f)).setCell ⟨w.heap.size, 2, none⟩ (.int .i64 t.g)).setCell ⟨w.heap.size, 3, none⟩ (.int .i64 t.m)).setCell ⟨w.heap.size, 4, none⟩ (.int .i64 t.i)).setCell ⟨w.heap.size, 5, none⟩ (.int .i64 t.j)).setCell ⟨w.heap.size, 6, none⟩ (.int .i64 t.c)).setCell ⟨w.heap.size, 7, none⟩ (.bool t.y)).setCell ⟨w.heap.size, 8, none⟩ (.slice va t.es.length vc)).setCell ⟨w.heap.size, 9, none⟩ (.string t.d)) := ((((((((((set_onlyM w.heap.size 0 w1 (.int .i64 t.k)).setCell (p := ⟨w.heap.size, 1, none⟩) rfl (.int .i64 t.f)).setCell (p := ⟨w.heap.size, 2, none⟩) rfl (.int .i64 t.g)).setCell (p := ⟨w.heap.size, 3, none⟩) rfl (.int .i64 t.m)).setCell (p := ⟨w.heap.size, 4, none⟩) rfl (.int .i64 t.i)).setCell (p := ⟨w.heap.size, 5, none⟩) rfl (.int .i64 t.j)).setCell (p := ⟨w.heap.size, 6, none⟩) rfl (.int .i64 t.c)).setCell (p := ⟨w.heap.size, 7, none⟩) rfl (.bool t.y)).setCell (p := ⟨w.heap.size, 8, none⟩) rfl (.slice va t.es.length vc)).setCell (p := ⟨w.heap.size, 9, none⟩) rfl (.string t.d))
    have HV : Hid (Own enE 49 ((((((((((w1.setCell ⟨w.heap.size, 0, none⟩ (.int .i64 t.k)).setCell ⟨w.heap.size, 1, none⟩ (.int .i64 t.f)).setCell ⟨w.heap.size, 2, none⟩ (.int .i64 t.g)).setCell ⟨w.heap.size, 3, none⟩ (.int .i64 t.m)).setCell ⟨w.heap.size, 4, none⟩ (.int .i64 t.i)).setCell ⟨w.heap.size, 5, none⟩ (.int .i64 t.j)).setCell ⟨w.heap.size, 6, none⟩ (.int .i64 t.c)).setCell ⟨w.heap.size, 7, none⟩ (.bool t.y)).setCell ⟨w.heap.size, 8, none⟩ (.slice va t.es.length vc)).setCell ⟨w.heap.size, 9, none⟩ (.string t.d)) w.heap.size (.slice va t.es.length vc) t.es) := (hv.out.only HOn (fun k hk h => by have := (hv.out.lt k hk).1; omega)).lower (by omega)
    have B2 := B1.trans (HOn.below B1.size (fun k hk h => by omega))
    clear hv HOn
    go_wp2
    exact bodyPost_ret (v := .tuple #[msV t (.slice va t.es.length vc), .bool true]) (by simp [results, Try.results14, go_sem, k0, k1, k2, k3, k4, k5, k6, k7, k8, k9]) rfl ⟨.inl ⟨t, _, rfl, ho, HV⟩, B2⟩
  · have HOn : Only (fun k => k = w.heap.size) w1 ((((((((((w1.setCell ⟨w.heap.size, 0, none⟩ (.int .i64 0)).setCell ⟨w.heap.size, 1, none⟩ (.int .i64 0)).setCell ⟨w.heap.size, 2, none⟩ (.int .i64 0)).setCell ⟨w.heap.size, 3, none⟩ (.int .i64 0)).setCell ⟨w.heap.size, 4, none⟩ (.int .i64 0)).setCell ⟨w.heap.size, 5, none⟩ (.int .i64 0)).setCell ⟨w.heap.size, 6, none⟩ (.int .i64 0)).setCell ⟨w.heap.size, 7, none⟩ (.bool false)).setCell ⟨w.heap.size, 8, none⟩ (.slice none 0 0)).setCell ⟨w.heap.size, 9, none⟩ (.string ⟨#[]⟩)) := ((((((((((set_onlyM w.heap.size 0 w1 (.int .i64 0)).setCell (p := ⟨w.heap.size, 1, none⟩) rfl (.int .i64 0)).setCell (p := ⟨w.heap.size, 2, none⟩) rfl (.int .i64 0)).setCell (p := ⟨w.heap.size, 3, none⟩) rfl (.int .i64 0)).setCell (p := ⟨w.heap.size, 4, none⟩) rfl (.int .i64 0)).setCell (p := ⟨w.heap.size, 5, none⟩) rfl (.int .i64 0)).setCell (p := ⟨w.heap.size, 6, none⟩) rfl (.int .i64 0)).setCell (p := ⟨w.heap.size, 7, none⟩) rfl (.bool false)).setCell (p := ⟨w.heap.size, 8, none⟩) rfl (.slice none 0 0)).setCell (p := ⟨w.heap.size, 9, none⟩) rfl (.string ⟨#[]⟩))
    have B2 := B1.trans (HOn.below B1.size (fun k hk h => by omega))
    clear HOn
    go_wp2
    exact bodyPost_ret (v := .tuple #[.agg zM, .bool false]) (by simp [results, Try.results14, go_sem, k0, k1, k2, k3, k4, k5, k6, k7, k8, k9]) rfl ⟨.inr ⟨rfl, ho⟩, B2⟩
end Go.Proofs.Ytdnngbdkmdphoaa
