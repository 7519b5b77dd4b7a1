/- ReadCall of the program: a cursor's panic is recovered. -/
import Derived.Test.YtdfcbbgboeonmaaTCurP
import Derived.Recover
namespace Go.Proofs.Ytdfcbbgboeonmaa
open Go.RowKit
set_option linter.unusedVariables false
def caZ : Ca := ⟨0, ⟨#[]⟩, ⟨#[]⟩, 0, 0, ⟨#[]⟩⟩
/-- The call of which s is made. -/
noncomputable def outC (l : List UInt8) : Option Ca := (callO l).bind fun x => if x.2 = [] ∧ callP (caOf x.1) then some (caOf x.1) else none
@[reducible] def ansC (o : Option Ca) : Value := .tuple #[caV (o.getD caZ), .bool o.isSome]
/-- What the caught panic leaves: the zero call, and false. -/
def Caught (g : Nat) (w w' : World) : Prop := Only (fun k => k = g ∨ k = g + 1) w w' ∧ (∀ o, w'.cell? ⟨g, o, none⟩ = #[Value.int .i64 0, .string ⟨#[]⟩, .string ⟨#[]⟩, .int .i64 0, .int .i64 0, .string ⟨#[]⟩][o]?) ∧ w'.cell? ⟨g + 1, 0, none⟩ = some (.bool false)
set_option maxRecDepth 100000 in
set_option maxHeartbeats 1000000 in
theorem catchC_idle (g : Nat) (w : World) :
    CallsD Try.prog 80 #[.pointer (some ⟨g, 0, none⟩), .pointer (some ⟨g + 1, 0, none⟩)] .returning w fun e u' w' => e = .returned (.tuple #[]) ∧ u' = .returning ∧ w' = w := by
  refine callsD_of_wpS Try.func80 rfl fun c₀ cs hu => ?_
  apply wpS_seq
  apply wpS_region
  simp [wpOpsS, go_sem, recoverD, hu, Try.ntmps80, Exit.thenS]
  refine wpS_cond (t := false) (by simp [Act.eval, Array.replicate]) ?_
  simp only [Bool.false_eq_true, if_false]
  refine wpS_of_wp (wp_skip ?_)
  cases c₀
  simp_all [bodyPostS, results, Try.results80]
theorem reset1 {w0 w' : World} (h : ∀ q, w'.cell? q = w0.cell? q) {p : Addr} {v : Value} (hp : w0.cell? p = some v) : ∀ q, (w'.setCell p v).cell? q = w0.cell? q := by
  intro q
  by_cases e : p = q
  · subst e
    rw [World.cell?_setCell_same _ _ _ ((h p).trans hp), hp]
  · rw [World.cell?_setCell_other _ _ _ _ e, h q]
theorem caught_mk {g : Nat} {w w0 : World} (h0 : Only (fun k => k = g ∨ k = g + 1) w w0) {a0 a1 a2 a3 a4 a5 b0 : Value} (k0 : w0.cell? ⟨g, 0, none⟩ = some a0) (k1 : w0.cell? ⟨g, 1, none⟩ = some a1) (k2 : w0.cell? ⟨g, 2, none⟩ = some a2) (k3 : w0.cell? ⟨g, 3, none⟩ = some a3) (k4 : w0.cell? ⟨g, 4, none⟩ = some a4) (k5 : w0.cell? ⟨g, 5, none⟩ = some a5) (l0 : w0.cell? ⟨g + 1, 0, none⟩ = some b0)
    (W : World) (hW : W = ((((((w0.setCell ⟨g, 0, none⟩ a0).setCell ⟨g, 1, none⟩ a1).setCell ⟨g, 2, none⟩ a2).setCell ⟨g, 3, none⟩ a3).setCell ⟨g, 4, none⟩ a4).setCell ⟨g, 5, none⟩ a5).setCell ⟨g + 1, 0, none⟩ b0) :
    Only (fun k => k = g ∨ k = g + 1) w W ∧ ∀ q, W.cell? q = w0.cell? q := by
  subst hW
  refine ⟨?_, ?_⟩
  · exact ((((((h0.setCell (p := ⟨g, 0, none⟩) (.inl rfl) a0).setCell (p := ⟨g, 1, none⟩) (.inl rfl) a1).setCell (p := ⟨g, 2, none⟩) (.inl rfl) a2).setCell (p := ⟨g, 3, none⟩) (.inl rfl) a3).setCell (p := ⟨g, 4, none⟩) (.inl rfl) a4).setCell (p := ⟨g, 5, none⟩) (.inl rfl) a5).setCell (p := ⟨g + 1, 0, none⟩) (.inr rfl) b0
  · exact reset1 (reset1 (reset1 (reset1 (reset1 (reset1 (reset1 (fun _ => rfl) k0) k1) k2) k3) k4) k5) l0
abbrev zC : Array Value := #[.int .i64 0, .string ⟨#[]⟩, .string ⟨#[]⟩, .int .i64 0, .int .i64 0, .string ⟨#[]⟩]
set_option maxRecDepth 100000 in
set_option maxHeartbeats 1000000 in
theorem catchC_panicking (g : Nat) (pv : Value) (u : TypeId) (w : World) (X : Blk w g zC) (Y : Blk w (g + 1) #[.bool false]) :
    CallsD Try.prog 80 #[.pointer (some ⟨g, 0, none⟩), .pointer (some ⟨g + 1, 0, none⟩)] (.panicking ({ v := .iface u pv, recovered := false } :: [])) w fun e u' w' => e = .returned (.tuple #[]) ∧ u' = .panicking ({ v := .iface u pv, recovered := true } :: []) ∧ Caught g w w' := by
  refine callsD_of_wpS Try.func80 rfl fun c₀ cs hu => ?_
  apply wpS_seq
  apply wpS_region
  simp [wpOpsS, go_sem, recoverD, hu, Try.ntmps80, Exit.thenS]
  refine wpS_cond (t := true) (by simp [Act.eval, Array.replicate]) ?_
  simp only [if_true]
  refine wpS_of_wp ?_
  have hg := Y.hi
  have hne : ¬ g + 1 = g := by omega
  have hne2 : ¬ g = g + 1 := by omega
  have k0 : (w.alloc (.cells #[.int .i64 0, .string ⟨#[]⟩, .string ⟨#[]⟩, .int .i64 0, .int .i64 0, .string ⟨#[]⟩] 41)).cell? ⟨g, 0, none⟩ = some (.int .i64 0) := (World.cell?_alloc_past _ _ _ (by omega)).trans (X.cell 0)
  have f0 : (w.alloc (.cells #[.int .i64 0, .string ⟨#[]⟩, .string ⟨#[]⟩, .int .i64 0, .int .i64 0, .string ⟨#[]⟩] 41)).frozen? ⟨g, 0, none⟩ = false := (World.frozen?_alloc_past _ _ _ (by omega)).trans (X.fro 0)
  have k1 : (w.alloc (.cells #[.int .i64 0, .string ⟨#[]⟩, .string ⟨#[]⟩, .int .i64 0, .int .i64 0, .string ⟨#[]⟩] 41)).cell? ⟨g, 1, none⟩ = some (.string ⟨#[]⟩) := (World.cell?_alloc_past _ _ _ (by omega)).trans (X.cell 1)
  have f1 : (w.alloc (.cells #[.int .i64 0, .string ⟨#[]⟩, .string ⟨#[]⟩, .int .i64 0, .int .i64 0, .string ⟨#[]⟩] 41)).frozen? ⟨g, 1, none⟩ = false := (World.frozen?_alloc_past _ _ _ (by omega)).trans (X.fro 1)
  have k2 : (w.alloc (.cells #[.int .i64 0, .string ⟨#[]⟩, .string ⟨#[]⟩, .int .i64 0, .int .i64 0, .string ⟨#[]⟩] 41)).cell? ⟨g, 2, none⟩ = some (.string ⟨#[]⟩) := (World.cell?_alloc_past _ _ _ (by omega)).trans (X.cell 2)
  have f2 : (w.alloc (.cells #[.int .i64 0, .string ⟨#[]⟩, .string ⟨#[]⟩, .int .i64 0, .int .i64 0, .string ⟨#[]⟩] 41)).frozen? ⟨g, 2, none⟩ = false := (World.frozen?_alloc_past _ _ _ (by omega)).trans (X.fro 2)
  have k3 : (w.alloc (.cells #[.int .i64 0, .string ⟨#[]⟩, .string ⟨#[]⟩, .int .i64 0, .int .i64 0, .string ⟨#[]⟩] 41)).cell? ⟨g, 3, none⟩ = some (.int .i64 0) := (World.cell?_alloc_past _ _ _ (by omega)).trans (X.cell 3)
  have f3 : (w.alloc (.cells #[.int .i64 0, .string ⟨#[]⟩, .string ⟨#[]⟩, .int .i64 0, .int .i64 0, .string ⟨#[]⟩] 41)).frozen? ⟨g, 3, none⟩ = false := (World.frozen?_alloc_past _ _ _ (by omega)).trans (X.fro 3)
  have k4 : (w.alloc (.cells #[.int .i64 0, .string ⟨#[]⟩, .string ⟨#[]⟩, .int .i64 0, .int .i64 0, .string ⟨#[]⟩] 41)).cell? ⟨g, 4, none⟩ = some (.int .i64 0) := (World.cell?_alloc_past _ _ _ (by omega)).trans (X.cell 4)
  have f4 : (w.alloc (.cells #[.int .i64 0, .string ⟨#[]⟩, .string ⟨#[]⟩, .int .i64 0, .int .i64 0, .string ⟨#[]⟩] 41)).frozen? ⟨g, 4, none⟩ = false := (World.frozen?_alloc_past _ _ _ (by omega)).trans (X.fro 4)
  have k5 : (w.alloc (.cells #[.int .i64 0, .string ⟨#[]⟩, .string ⟨#[]⟩, .int .i64 0, .int .i64 0, .string ⟨#[]⟩] 41)).cell? ⟨g, 5, none⟩ = some (.string ⟨#[]⟩) := (World.cell?_alloc_past _ _ _ (by omega)).trans (X.cell 5)
  have f5 : (w.alloc (.cells #[.int .i64 0, .string ⟨#[]⟩, .string ⟨#[]⟩, .int .i64 0, .int .i64 0, .string ⟨#[]⟩] 41)).frozen? ⟨g, 5, none⟩ = false := (World.frozen?_alloc_past _ _ _ (by omega)).trans (X.fro 5)
  have l0 : (w.alloc (.cells #[.int .i64 0, .string ⟨#[]⟩, .string ⟨#[]⟩, .int .i64 0, .int .i64 0, .string ⟨#[]⟩] 41)).cell? ⟨g + 1, 0, none⟩ = some (.bool false) := (World.cell?_alloc_past _ _ _ hg).trans (Y.cell 0)
  have m0 : (w.alloc (.cells #[.int .i64 0, .string ⟨#[]⟩, .string ⟨#[]⟩, .int .i64 0, .int .i64 0, .string ⟨#[]⟩] 41)).frozen? ⟨g + 1, 0, none⟩ = false := (World.frozen?_alloc_past _ _ _ hg).trans (Y.fro 0)
  go_wp2
  obtain ⟨o1, o2⟩ := caught_mk (w := w) (Only.alloc (Only.refl _ _) _) k0 k1 k2 k3 k4 k5 l0 _ rfl
  have HK := Hid.intro (show Caught g w _ from ⟨o1, fun o => (o2 _).trans ((World.cell?_alloc_past _ _ _ (by omega)).trans (X.cell o)), (o2 _).trans l0⟩)
  clear o1 o2
  exact ⟨rfl, _, rfl, .tuple #[], by simp [results, Try.results80, go_sem], rfl, rfl, HK.out⟩
set_option maxRecDepth 100000 in
set_option maxHeartbeats 4000000 in
theorem wholeC_any (s : ByteArray) (w : World) (hs : s.size ≤ 1048576) :
    Calls Try.prog 56 #[.string s, .func (Fn.func 57) #[] #[], .func (Fn.func 50) #[] #[]] w fun e w' => e = .returned (ansC (outC s.data.toList)) ∧ Below w.heap.size w w' := by
  have hmf : ∀ (fn : Fn) (first cap : Array Value) (w : World), (Instr.makeFunc fn first cap).run Try.prog w = .ok (.func fn first cap) w := fun _ _ _ _ => rfl
  go_enter_defers Try.func56, Try.ntmps56
  go_wp2_with fail
  obtain ⟨W, hW, bW, zW, c0, f0, c1, f1, c2, f2⟩ := boxed3 w #[.int .i64 0, .string ⟨#[]⟩, .string ⟨#[]⟩, .int .i64 0, .int .i64 0, .string ⟨#[]⟩] #[.bool false] #[.string s] 41 4 114
  simp only [hW]
  have hC : CurAt W (w.heap.size + 1 + 1) s := ⟨by omega, c2 0, f2 0⟩
  have X : Blk W w.heap.size zC := ⟨by omega, c0, f0⟩
  have Y : Blk W (w.heap.size + 1) #[.bool false] := ⟨by omega, c1, f1⟩
  clear hW c0 f0 c1 f1 c2 f2
  refine (callC_any (w.heap.size + 1 + 1) s W hC hs).mono ?_
  rintro e w1 (⟨c, q', rfl, HO, hc, hon⟩ | ⟨⟨pv, rfl⟩, HN, hon⟩)
  · have X1 := X.only hon (by omega)
    have Y1 := Y.only hon (by omega)
    have B1 : Below w.heap.size w w1 := bW.trans (hon.below (by omega) (fun k hk h => by omega))
    go_upto_region 4 with fail
    obtain ⟨W2, hW2, bW2, zW2, cW2, fW2⟩ := boxed w1 #[.int .i64 (caOf c).k, .string (caOf c).p, .string (caOf c).to, .int .i64 (caOf c).n, .int .i64 (caOf c).m, .string (caOf c).d] 41
    simp only [hW2]
    have hq := (hc.kept bW2).cell
    have X2 := X1.kept bW2
    have Y2 := Y1.kept bW2
    have B2 := B1.trans (bW2.mono B1.size)
    have hlt1 := hc.lt
    clear X Y hon bW hC hc X1 Y1 B1 hW2 bW2
    by_cases hz : q'.size = 0
    · have y1 := bs_mt hz
      have hq0 : q'.data.toList = [] := by
        have := empty_of hz
        rw [this]
      rw [hq0] at HO
      go_wp2_with fail
      refine (implCallOk_any (caOf c) _).mono ?_
      rintro e w3 ⟨rfl, b3⟩
      have X3 := X2.kept b3
      have Y3 := Y2.kept b3
      have B3 := B2.trans (b3.mono B2.size)
      have cW3 := keepC b3 (by omega) cW2
      have z3 := b3.size
      clear X2 Y2 B2 b3 cW2 fW2 hq
      cases hcb : callB (caOf c) with
      | false =>
        have hne : ¬ w.heap.size + 1 = w.heap.size := by omega
        have hne2 : ¬ w.heap.size = w.heap.size + 1 := by omega
        have k0 : (w3.alloc (.cells #[.int .i64 0, .string ⟨#[]⟩, .string ⟨#[]⟩, .int .i64 0, .int .i64 0, .string ⟨#[]⟩] 41)).cell? ⟨w.heap.size, 0, none⟩ = some (.int .i64 0) := (World.cell?_alloc_past _ _ _ (by have := X3.hi; omega)).trans (X3.cell 0)
        have f0 : (w3.alloc (.cells #[.int .i64 0, .string ⟨#[]⟩, .string ⟨#[]⟩, .int .i64 0, .int .i64 0, .string ⟨#[]⟩] 41)).frozen? ⟨w.heap.size, 0, none⟩ = false := (World.frozen?_alloc_past _ _ _ (by have := X3.hi; omega)).trans (X3.fro 0)
        have k1 : (w3.alloc (.cells #[.int .i64 0, .string ⟨#[]⟩, .string ⟨#[]⟩, .int .i64 0, .int .i64 0, .string ⟨#[]⟩] 41)).cell? ⟨w.heap.size, 1, none⟩ = some (.string ⟨#[]⟩) := (World.cell?_alloc_past _ _ _ (by have := X3.hi; omega)).trans (X3.cell 1)
        have f1 : (w3.alloc (.cells #[.int .i64 0, .string ⟨#[]⟩, .string ⟨#[]⟩, .int .i64 0, .int .i64 0, .string ⟨#[]⟩] 41)).frozen? ⟨w.heap.size, 1, none⟩ = false := (World.frozen?_alloc_past _ _ _ (by have := X3.hi; omega)).trans (X3.fro 1)
        have k2 : (w3.alloc (.cells #[.int .i64 0, .string ⟨#[]⟩, .string ⟨#[]⟩, .int .i64 0, .int .i64 0, .string ⟨#[]⟩] 41)).cell? ⟨w.heap.size, 2, none⟩ = some (.string ⟨#[]⟩) := (World.cell?_alloc_past _ _ _ (by have := X3.hi; omega)).trans (X3.cell 2)
        have f2 : (w3.alloc (.cells #[.int .i64 0, .string ⟨#[]⟩, .string ⟨#[]⟩, .int .i64 0, .int .i64 0, .string ⟨#[]⟩] 41)).frozen? ⟨w.heap.size, 2, none⟩ = false := (World.frozen?_alloc_past _ _ _ (by have := X3.hi; omega)).trans (X3.fro 2)
        have k3 : (w3.alloc (.cells #[.int .i64 0, .string ⟨#[]⟩, .string ⟨#[]⟩, .int .i64 0, .int .i64 0, .string ⟨#[]⟩] 41)).cell? ⟨w.heap.size, 3, none⟩ = some (.int .i64 0) := (World.cell?_alloc_past _ _ _ (by have := X3.hi; omega)).trans (X3.cell 3)
        have f3 : (w3.alloc (.cells #[.int .i64 0, .string ⟨#[]⟩, .string ⟨#[]⟩, .int .i64 0, .int .i64 0, .string ⟨#[]⟩] 41)).frozen? ⟨w.heap.size, 3, none⟩ = false := (World.frozen?_alloc_past _ _ _ (by have := X3.hi; omega)).trans (X3.fro 3)
        have k4 : (w3.alloc (.cells #[.int .i64 0, .string ⟨#[]⟩, .string ⟨#[]⟩, .int .i64 0, .int .i64 0, .string ⟨#[]⟩] 41)).cell? ⟨w.heap.size, 4, none⟩ = some (.int .i64 0) := (World.cell?_alloc_past _ _ _ (by have := X3.hi; omega)).trans (X3.cell 4)
        have f4 : (w3.alloc (.cells #[.int .i64 0, .string ⟨#[]⟩, .string ⟨#[]⟩, .int .i64 0, .int .i64 0, .string ⟨#[]⟩] 41)).frozen? ⟨w.heap.size, 4, none⟩ = false := (World.frozen?_alloc_past _ _ _ (by have := X3.hi; omega)).trans (X3.fro 4)
        have k5 : (w3.alloc (.cells #[.int .i64 0, .string ⟨#[]⟩, .string ⟨#[]⟩, .int .i64 0, .int .i64 0, .string ⟨#[]⟩] 41)).cell? ⟨w.heap.size, 5, none⟩ = some (.string ⟨#[]⟩) := (World.cell?_alloc_past _ _ _ (by have := X3.hi; omega)).trans (X3.cell 5)
        have f5 : (w3.alloc (.cells #[.int .i64 0, .string ⟨#[]⟩, .string ⟨#[]⟩, .int .i64 0, .int .i64 0, .string ⟨#[]⟩] 41)).frozen? ⟨w.heap.size, 5, none⟩ = false := (World.frozen?_alloc_past _ _ _ (by have := X3.hi; omega)).trans (X3.fro 5)
        have l0 : (w3.alloc (.cells #[.int .i64 0, .string ⟨#[]⟩, .string ⟨#[]⟩, .int .i64 0, .int .i64 0, .string ⟨#[]⟩] 41)).cell? ⟨w.heap.size + 1, 0, none⟩ = some (.bool false) := (World.cell?_alloc_past _ _ _ Y3.hi).trans (Y3.cell 0)
        have m0 : (w3.alloc (.cells #[.int .i64 0, .string ⟨#[]⟩, .string ⟨#[]⟩, .int .i64 0, .int .i64 0, .string ⟨#[]⟩] 41)).frozen? ⟨w.heap.size + 1, 0, none⟩ = false := (World.frozen?_alloc_past _ _ _ Y3.hi).trans (Y3.fro 0)
        go_wp2
        obtain ⟨o1, o2⟩ := caught_mk (w := w3) (Only.alloc (Only.refl _ _) _) k0 k1 k2 k3 k4 k5 l0 _ rfl
        have r0 := (o2 _).trans k0
        have r1 := (o2 _).trans k1
        have r2 := (o2 _).trans k2
        have r3 := (o2 _).trans k3
        have r4 := (o2 _).trans k4
        have r5 := (o2 _).trans k5
        have r6 := (o2 _).trans l0
        have B9 := B3.trans (o1.below B3.size (fun k hk h => by omega))
        clear o1 o2 k0 k1 k2 k3 k4 k5 l0 f0 f1 f2 f3 f4 f5 m0
        generalize (((((((w3.alloc (.cells #[.int .i64 0, .string ⟨#[]⟩, .string ⟨#[]⟩, .int .i64 0, .int .i64 0, .string ⟨#[]⟩] 41)).setCell ⟨w.heap.size, 0, none⟩ (.int .i64 0)).setCell ⟨w.heap.size, 1, none⟩ (.string ⟨#[]⟩)).setCell ⟨w.heap.size, 2, none⟩ (.string ⟨#[]⟩)).setCell ⟨w.heap.size, 3, none⟩ (.int .i64 0)).setCell ⟨w.heap.size, 4, none⟩ (.int .i64 0)).setCell ⟨w.heap.size, 5, none⟩ (.string ⟨#[]⟩)).setCell ⟨w.heap.size + 1, 0, none⟩ (.bool false) = V at r0 r1 r2 r3 r4 r5 r6 B9 ⊢
        have ho : outC s.data.toList = none := by
          unfold outC
          rw [HO.out]
          simp only [Option.bind_some]
          rw [if_neg (fun h => by rw [(callB_yes h.2).symm] at hcb; cases hcb)]
        rw [ho]
        refine leaves_cons (f := 80) (args := #[.pointer (some ⟨w.heap.size, 0, none⟩), .pointer (some ⟨w.heap.size + 1, 0, none⟩)]) (by simp) (by simp [go_sem]) ?_
        refine (catchC_idle w.heap.size V).mono ?_
        rintro e u' w'' ⟨rfl, rfl, rfl⟩
        simp [Leaves, settle, results, Try.results56, go_sem, r0, r1, r2, r3, r4, r5, r6, caZ, B9]
      | true =>
        have ho : outC s.data.toList = some (caOf c) := by
          unfold outC
          rw [HO.out]
          simp [(callB_iff _).1 hcb]
        clear HO hcb
        generalize caOf c = x at cW3 ho ⊢
        have hne : ¬ w.heap.size + 1 = w.heap.size := by omega
        have hne2 : ¬ w.heap.size = w.heap.size + 1 := by omega
        have hne3 : ¬ w.heap.size = w1.heap.size := by omega
        have hne4 : ¬ w.heap.size + 1 = w1.heap.size := by omega
        have e0 : w3.cell? ⟨w1.heap.size, 0, none⟩ = some (.int .i64 x.k) := cW3 0
        have e1 : w3.cell? ⟨w1.heap.size, 1, none⟩ = some (.string x.p) := cW3 1
        have e2 : w3.cell? ⟨w1.heap.size, 2, none⟩ = some (.string x.to) := cW3 2
        have e3 : w3.cell? ⟨w1.heap.size, 3, none⟩ = some (.int .i64 x.n) := cW3 3
        have e4 : w3.cell? ⟨w1.heap.size, 4, none⟩ = some (.int .i64 x.m) := cW3 4
        have e5 : w3.cell? ⟨w1.heap.size, 5, none⟩ = some (.string x.d) := cW3 5
        have k0 : w3.cell? ⟨w.heap.size, 0, none⟩ = some (.int .i64 0) := X3.cell 0
        have f0 : w3.frozen? ⟨w.heap.size, 0, none⟩ = false := X3.fro 0
        have k1 : w3.cell? ⟨w.heap.size, 1, none⟩ = some (.string ⟨#[]⟩) := X3.cell 1
        have f1 : w3.frozen? ⟨w.heap.size, 1, none⟩ = false := X3.fro 1
        have k2 : w3.cell? ⟨w.heap.size, 2, none⟩ = some (.string ⟨#[]⟩) := X3.cell 2
        have f2 : w3.frozen? ⟨w.heap.size, 2, none⟩ = false := X3.fro 2
        have k3 : w3.cell? ⟨w.heap.size, 3, none⟩ = some (.int .i64 0) := X3.cell 3
        have f3 : w3.frozen? ⟨w.heap.size, 3, none⟩ = false := X3.fro 3
        have k4 : w3.cell? ⟨w.heap.size, 4, none⟩ = some (.int .i64 0) := X3.cell 4
        have f4 : w3.frozen? ⟨w.heap.size, 4, none⟩ = false := X3.fro 4
        have k5 : w3.cell? ⟨w.heap.size, 5, none⟩ = some (.string ⟨#[]⟩) := X3.cell 5
        have f5 : w3.frozen? ⟨w.heap.size, 5, none⟩ = false := X3.fro 5
        have l0 : w3.cell? ⟨w.heap.size + 1, 0, none⟩ = some (.bool false) := Y3.cell 0
        have m0 : w3.frozen? ⟨w.heap.size + 1, 0, none⟩ = false := Y3.fro 0
        have o1 := set6_only w.heap.size w3 (.int .i64 x.k) (.string x.p) (.string x.to) (.int .i64 x.n) (.int .i64 x.m) (.string x.d)
        have B9 : Below w.heap.size w (((((((w3.setCell ⟨w.heap.size, 0, none⟩ (.int .i64 x.k)).setCell ⟨w.heap.size, 1, none⟩ (.string x.p)).setCell ⟨w.heap.size, 2, none⟩ (.string x.to)).setCell ⟨w.heap.size, 3, none⟩ (.int .i64 x.n)).setCell ⟨w.heap.size, 4, none⟩ (.int .i64 x.m)).setCell ⟨w.heap.size, 5, none⟩ (.string x.d)).setCell ⟨w.heap.size + 1, 0, none⟩ (.bool true)) := (B3.trans (o1.below B3.size (fun k hk h => by omega))).setCell (p := ⟨w.heap.size + 1, 0, none⟩) (by simp) _
        clear o1 cW3 X3 Y3
        go_wp2
        rw [ho]
        refine leaves_cons (f := 80) (args := #[.pointer (some ⟨w.heap.size, 0, none⟩), .pointer (some ⟨w.heap.size + 1, 0, none⟩)]) (by simp) (by simp [go_sem]) ?_
        refine (catchC_idle w.heap.size _).mono ?_
        rintro e u' w'' ⟨rfl, rfl, rfl⟩
        simp [Leaves, settle, results, Try.results56, go_sem, k0, k1, k2, k3, k4, k5, l0, B9]
    · have y1 := bs_ne hz
      have hne : ¬ w.heap.size + 1 = w.heap.size := by omega
      have hne2 : ¬ w.heap.size = w.heap.size + 1 := by omega
      have k0 : (W2.alloc (.cells #[.int .i64 0, .string ⟨#[]⟩, .string ⟨#[]⟩, .int .i64 0, .int .i64 0, .string ⟨#[]⟩] 41)).cell? ⟨w.heap.size, 0, none⟩ = some (.int .i64 0) := (World.cell?_alloc_past _ _ _ (by have := X2.hi; omega)).trans (X2.cell 0)
      have f0 : (W2.alloc (.cells #[.int .i64 0, .string ⟨#[]⟩, .string ⟨#[]⟩, .int .i64 0, .int .i64 0, .string ⟨#[]⟩] 41)).frozen? ⟨w.heap.size, 0, none⟩ = false := (World.frozen?_alloc_past _ _ _ (by have := X2.hi; omega)).trans (X2.fro 0)
      have k1 : (W2.alloc (.cells #[.int .i64 0, .string ⟨#[]⟩, .string ⟨#[]⟩, .int .i64 0, .int .i64 0, .string ⟨#[]⟩] 41)).cell? ⟨w.heap.size, 1, none⟩ = some (.string ⟨#[]⟩) := (World.cell?_alloc_past _ _ _ (by have := X2.hi; omega)).trans (X2.cell 1)
      have f1 : (W2.alloc (.cells #[.int .i64 0, .string ⟨#[]⟩, .string ⟨#[]⟩, .int .i64 0, .int .i64 0, .string ⟨#[]⟩] 41)).frozen? ⟨w.heap.size, 1, none⟩ = false := (World.frozen?_alloc_past _ _ _ (by have := X2.hi; omega)).trans (X2.fro 1)
      have k2 : (W2.alloc (.cells #[.int .i64 0, .string ⟨#[]⟩, .string ⟨#[]⟩, .int .i64 0, .int .i64 0, .string ⟨#[]⟩] 41)).cell? ⟨w.heap.size, 2, none⟩ = some (.string ⟨#[]⟩) := (World.cell?_alloc_past _ _ _ (by have := X2.hi; omega)).trans (X2.cell 2)
      have f2 : (W2.alloc (.cells #[.int .i64 0, .string ⟨#[]⟩, .string ⟨#[]⟩, .int .i64 0, .int .i64 0, .string ⟨#[]⟩] 41)).frozen? ⟨w.heap.size, 2, none⟩ = false := (World.frozen?_alloc_past _ _ _ (by have := X2.hi; omega)).trans (X2.fro 2)
      have k3 : (W2.alloc (.cells #[.int .i64 0, .string ⟨#[]⟩, .string ⟨#[]⟩, .int .i64 0, .int .i64 0, .string ⟨#[]⟩] 41)).cell? ⟨w.heap.size, 3, none⟩ = some (.int .i64 0) := (World.cell?_alloc_past _ _ _ (by have := X2.hi; omega)).trans (X2.cell 3)
      have f3 : (W2.alloc (.cells #[.int .i64 0, .string ⟨#[]⟩, .string ⟨#[]⟩, .int .i64 0, .int .i64 0, .string ⟨#[]⟩] 41)).frozen? ⟨w.heap.size, 3, none⟩ = false := (World.frozen?_alloc_past _ _ _ (by have := X2.hi; omega)).trans (X2.fro 3)
      have k4 : (W2.alloc (.cells #[.int .i64 0, .string ⟨#[]⟩, .string ⟨#[]⟩, .int .i64 0, .int .i64 0, .string ⟨#[]⟩] 41)).cell? ⟨w.heap.size, 4, none⟩ = some (.int .i64 0) := (World.cell?_alloc_past _ _ _ (by have := X2.hi; omega)).trans (X2.cell 4)
      have f4 : (W2.alloc (.cells #[.int .i64 0, .string ⟨#[]⟩, .string ⟨#[]⟩, .int .i64 0, .int .i64 0, .string ⟨#[]⟩] 41)).frozen? ⟨w.heap.size, 4, none⟩ = false := (World.frozen?_alloc_past _ _ _ (by have := X2.hi; omega)).trans (X2.fro 4)
      have k5 : (W2.alloc (.cells #[.int .i64 0, .string ⟨#[]⟩, .string ⟨#[]⟩, .int .i64 0, .int .i64 0, .string ⟨#[]⟩] 41)).cell? ⟨w.heap.size, 5, none⟩ = some (.string ⟨#[]⟩) := (World.cell?_alloc_past _ _ _ (by have := X2.hi; omega)).trans (X2.cell 5)
      have f5 : (W2.alloc (.cells #[.int .i64 0, .string ⟨#[]⟩, .string ⟨#[]⟩, .int .i64 0, .int .i64 0, .string ⟨#[]⟩] 41)).frozen? ⟨w.heap.size, 5, none⟩ = false := (World.frozen?_alloc_past _ _ _ (by have := X2.hi; omega)).trans (X2.fro 5)
      have l0 : (W2.alloc (.cells #[.int .i64 0, .string ⟨#[]⟩, .string ⟨#[]⟩, .int .i64 0, .int .i64 0, .string ⟨#[]⟩] 41)).cell? ⟨w.heap.size + 1, 0, none⟩ = some (.bool false) := (World.cell?_alloc_past _ _ _ Y2.hi).trans (Y2.cell 0)
      have m0 : (W2.alloc (.cells #[.int .i64 0, .string ⟨#[]⟩, .string ⟨#[]⟩, .int .i64 0, .int .i64 0, .string ⟨#[]⟩] 41)).frozen? ⟨w.heap.size + 1, 0, none⟩ = false := (World.frozen?_alloc_past _ _ _ Y2.hi).trans (Y2.fro 0)
      go_wp2
      obtain ⟨o1, o2⟩ := caught_mk (w := W2) (Only.alloc (Only.refl _ _) _) k0 k1 k2 k3 k4 k5 l0 _ rfl
      have r0 := (o2 _).trans k0
      have r1 := (o2 _).trans k1
      have r2 := (o2 _).trans k2
      have r3 := (o2 _).trans k3
      have r4 := (o2 _).trans k4
      have r5 := (o2 _).trans k5
      have r6 := (o2 _).trans l0
      have B9 := B2.trans (o1.below B2.size (fun k hk h => by omega))
      clear o1 o2 k0 k1 k2 k3 k4 k5 l0 f0 f1 f2 f3 f4 f5 m0
      generalize (((((((W2.alloc (.cells #[.int .i64 0, .string ⟨#[]⟩, .string ⟨#[]⟩, .int .i64 0, .int .i64 0, .string ⟨#[]⟩] 41)).setCell ⟨w.heap.size, 0, none⟩ (.int .i64 0)).setCell ⟨w.heap.size, 1, none⟩ (.string ⟨#[]⟩)).setCell ⟨w.heap.size, 2, none⟩ (.string ⟨#[]⟩)).setCell ⟨w.heap.size, 3, none⟩ (.int .i64 0)).setCell ⟨w.heap.size, 4, none⟩ (.int .i64 0)).setCell ⟨w.heap.size, 5, none⟩ (.string ⟨#[]⟩)).setCell ⟨w.heap.size + 1, 0, none⟩ (.bool false) = V at r0 r1 r2 r3 r4 r5 r6 B9 ⊢
      have ho : outC s.data.toList = none := by
        unfold outC
        rw [HO.out]
        simp only [Option.bind_some]
        rw [if_neg (fun h => hz (by have := congrArg List.length h.1; simpa using this))]
      rw [ho]
      refine leaves_cons (f := 80) (args := #[.pointer (some ⟨w.heap.size, 0, none⟩), .pointer (some ⟨w.heap.size + 1, 0, none⟩)]) (by simp) (by simp [go_sem]) ?_
      refine (catchC_idle w.heap.size V).mono ?_
      rintro e u' w'' ⟨rfl, rfl, rfl⟩
      simp [Leaves, settle, results, Try.results56, go_sem, r0, r1, r2, r3, r4, r5, r6, caZ, B9]
  · have X1 := X.only hon (by omega)
    have Y1 := Y.only hon (by omega)
    have B1 : Below w.heap.size w w1 := bW.trans (hon.below (by omega) (fun k hk h => by omega))
    clear X Y hon bW hC
    go_wp2
    refine leaves_cons (f := 80) (args := #[.pointer (some ⟨w.heap.size, 0, none⟩), .pointer (some ⟨w.heap.size + 1, 0, none⟩)]) (by simp) (by simp [go_sem]) ?_
    refine (catchC_panicking w.heap.size pv 9 w1 X1 Y1).mono ?_
    rintro e u' w'' ⟨rfl, rfl, h1, h2, h3⟩
    have B2 := B1.trans (h1.below B1.size (fun k hk h => by omega))
    have k0 := h2 0
    have k1 := h2 1
    have k2 := h2 2
    have k3 := h2 3
    have k4 := h2 4
    have k5 := h2 5
    have ho : outC s.data.toList = none := by unfold outC; rw [HN.out]; rfl
    rw [ho]
    simp [Leaves, settle, results, Try.results56, go_sem, k0, k1, k2, k3, k4, k5, h3, caZ, B2]
set_option maxRecDepth 100000 in
set_option maxHeartbeats 1000000 in
theorem implReadCall_any (s : ByteArray) (w : World) (hs : s.size ≤ 1048576) :
    Calls Try.prog 23 #[.string s] w fun e w' => e = .returned (ansC (outC s.data.toList)) ∧ Below w.heap.size w w' := by
  go_enter Try.func23, Try.ntmps23
  go_wp2_with fail
  obtain ⟨W, hW, bW, zW, cW, fW⟩ := boxed w #[.int .i64 0, .string ⟨#[]⟩, .string ⟨#[]⟩, .int .i64 0, .int .i64 0, .string ⟨#[]⟩] 41
  simp only [hW]
  refine (wholeC_any s _ hs).mono ?_
  rintro e w1 ⟨rfl, b1⟩
  have X : Blk w1 w.heap.size zC := ⟨by have := b1.size; omega, keepC b1 (by omega) cW, keepF b1 (by omega) fW⟩
  have B1 := bW.trans (b1.mono (by omega))
  clear hW bW cW fW b1
  generalize ho : outC s.data.toList = o
  generalize hv : o.getD caZ = x
  generalize hb : o.isSome = y
  have k0 : w1.cell? ⟨w.heap.size, 0, none⟩ = some (.int .i64 0) := X.cell 0
  have f0 : w1.frozen? ⟨w.heap.size, 0, none⟩ = false := X.fro 0
  have k1 : w1.cell? ⟨w.heap.size, 1, none⟩ = some (.string ⟨#[]⟩) := X.cell 1
  have f1 : w1.frozen? ⟨w.heap.size, 1, none⟩ = false := X.fro 1
  have k2 : w1.cell? ⟨w.heap.size, 2, none⟩ = some (.string ⟨#[]⟩) := X.cell 2
  have f2 : w1.frozen? ⟨w.heap.size, 2, none⟩ = false := X.fro 2
  have k3 : w1.cell? ⟨w.heap.size, 3, none⟩ = some (.int .i64 0) := X.cell 3
  have f3 : w1.frozen? ⟨w.heap.size, 3, none⟩ = false := X.fro 3
  have k4 : w1.cell? ⟨w.heap.size, 4, none⟩ = some (.int .i64 0) := X.cell 4
  have f4 : w1.frozen? ⟨w.heap.size, 4, none⟩ = false := X.fro 4
  have k5 : w1.cell? ⟨w.heap.size, 5, none⟩ = some (.string ⟨#[]⟩) := X.cell 5
  have f5 : w1.frozen? ⟨w.heap.size, 5, none⟩ = false := X.fro 5
  go_wp2
  have o1 := set6_only w.heap.size w1 (.int .i64 x.k) (.string x.p) (.string x.to) (.int .i64 x.n) (.int .i64 x.m) (.string x.d)
  exact bodyPost_ret (v := .tuple #[caV x, .bool y]) (by simp [results, Try.results23, go_sem, k0, k1, k2, k3, k4, k5]) rfl ⟨by subst hv hb ho; rfl, B1.trans (o1.below B1.size (fun k hk h => by omega))⟩
end Go.Proofs.Ytdfcbbgboeonmaa
