/- ReadVol of the program: a cursor's panic is recovered. -/
import Derived.Test.YtdfcbbgboeonmaaTCurVo
import Derived.Test.YtdfcbbgboeonmaaTShowVol
import Derived.Test.YtdfcbbgboeonmaaTWhole
import Derived.Test.YtdfcbbgboeonmaaTCallIff
namespace Go.Proofs.Ytdfcbbgboeonmaa
open Go.RowKit
set_option linter.unusedVariables false
/-- The volume of which l is made. -/
noncomputable def outV (l : List UInt8) : Option (Nat × List Nd) := (volO l).bind fun x => if x.2 = [] ∧ volB x.1.1 x.1.2 = true then some x.1 else none
/-- What ReadVol hands back. -/
def RdV (l : List UInt8) (w : World) (e : Ending) (w' : World) : Prop :=
  ((∃ (nx : Nat) (u : Value) (M : List Np), e = .returned (.tuple #[volV (nx : Nat) u, .bool true]) ∧ Hid (outV l = some (nx, M.map Np.n)) ∧ Hid (VolO w' w.heap.size u M ∧ Inc M)) ∨ (e = .returned (.tuple #[volV 0 (.slice none 0 0), .bool false]) ∧ Hid (outV l = none))) ∧ Below w.heap.size w w'
/-- The texts and numbers of what is read are such as there can be. -/
theorem nms_wf (n : Nat) : ∀ (l : List UInt8) (L : List Di) (r : List UInt8), nmsO n l = some (L, r) → l.length ≤ 1048576 → r.length ≤ l.length ∧ ∀ e ∈ L, e.nm.size ≤ 1048576 ∧ 0 ≤ e.id ∧ e.id ≤ 562949953421311 := by
  induction n with
  | zero =>
    intro l L r h _
    simp only [nmsO, Option.some.injEq, Prod.mk.injEq] at h
    obtain ⟨rfl, rfl⟩ := h
    exact ⟨Nat.le_refl _, fun e he => by cases he⟩
  | succ n ih =>
    intro l L r h hl
    rw [nmsO] at h
    cases h1 : pieO l with
    | none => rw [h1] at h; cases h
    | some a =>
      obtain ⟨p, r1⟩ := a
      rw [h1, Option.bind_some] at h
      cases h2 : numO r1 with
      | none => simp only [h2, Option.bind_none] at h; cases h
      | some c =>
        obtain ⟨x, r2⟩ := c
        simp only [h2, Option.bind_some] at h
        cases h3 : nmsO n r2 with
        | none => simp only [h3, Option.bind_none] at h; cases h
        | some d =>
          obtain ⟨L2, r3⟩ := d
          simp only [h3, Option.bind_some, Option.some.injEq, Prod.mk.injEq] at h
          obtain ⟨rfl, rfl⟩ := h
          have g1 := pieO_out h1
          have g2 := numO_out h2
          have l1 := pie_le g1
          have l2 := num_le g2
          obtain ⟨l3, h4⟩ := ih r2 L2 r3 h3 (by omega)
          refine ⟨by omega, fun e he => ?_⟩
          rcases List.mem_cons.1 he with rfl | he
          · have hp : p.length ≤ l.length := by
              have := congrArg List.length g1.2
              simp only [List.length_append] at this
              omega
            have hs : (⟨p.toArray⟩ : ByteArray).size = p.length := by
              show p.toArray.size = _
              simp
            exact ⟨by simp only [hs]; omega, by simp, by have := g2.1; simp only; omega⟩
          · exact h4 e he
theorem ino_wf {l r : List UInt8} {n : Nd} (h : inoO l = some (n, r)) (hl : l.length ≤ 1048576) : NdW n ∧ r.length ≤ l.length := by
  unfold inoO at h
  obtain ⟨⟨a, l1⟩, h1, h⟩ := bind_out h
  obtain ⟨⟨b, l2⟩, h2, h⟩ := bind_out h
  obtain ⟨⟨c, l3⟩, h3, h⟩ := bind_out h
  obtain ⟨⟨d, l4⟩, h4, h⟩ := bind_out h
  obtain ⟨⟨e, l5⟩, h5, h⟩ := bind_out h
  obtain ⟨⟨f, l6⟩, h6, h⟩ := bind_out h
  obtain ⟨⟨g, l7⟩, h7, h⟩ := bind_out h
  obtain ⟨⟨p, l8⟩, h8, h⟩ := bind_out h
  obtain ⟨⟨k, l9⟩, h9, h⟩ := bind_out h
  obtain ⟨⟨s, l10⟩, h10, h⟩ := bind_out h
  dsimp only at h1 h2 h3 h4 h5 h6 h7 h8 h9 h10
  simp only [Option.some.injEq, Prod.mk.injEq] at h
  obtain ⟨rfl, rfl⟩ := h
  have m1 := num_le (numO_out h1)
  have m2 := num_le (numO_out h2)
  have m3 := num_le (numO_out h3)
  have m4 := num_le (numO_out h4)
  have m5 := num_le (numO_out h5)
  have m6 := num_le (numO_out h6)
  have m7 := num_le (numO_out h7)
  have m8 := pie_le (pieO_out h8)
  have m9 : l9.length ≤ l8.length := by
    unfold cntO at h9
    obtain ⟨⟨x, y⟩, h11, h12⟩ := bind_out h9
    split at h12
    · simp only [Option.some.injEq, Prod.mk.injEq] at h12
      obtain ⟨rfl, rfl⟩ := h12
      exact Nat.le_of_lt (num_le (numO_out h11))
    · cases h12
  obtain ⟨m10, hn⟩ := nms_wf k l9 s l10 h10 (by omega)
  have hp : p.length ≤ l7.length := by
    have := congrArg List.length (pieO_out h8).2
    simp only [List.length_append] at this
    omega
  have hs : (⟨p.toArray⟩ : ByteArray).size = p.length := by
    show p.toArray.size = _
    simp
  refine ⟨⟨⟨by simp only [hs]; omega, fun e he => by have := (hn e he).1; omega⟩, fun e he => ?_⟩, by omega⟩
  have := (hn e he).2
  have hmin : IntKind.i64.min = -9223372036854775808 := by decide
  have hmax : IntKind.i64.max = 9223372036854775807 := by decide
  simp [Lit.wf]
  omega
theorem inos_wf (n : Nat) : ∀ (l : List UInt8) (L : List Nd) (r : List UInt8), inosO n l = some (L, r) → l.length ≤ 1048576 → ∀ x ∈ L, NdW x := by
  induction n with
  | zero =>
    intro l L r h _
    simp only [inosO, Option.some.injEq, Prod.mk.injEq] at h
    obtain ⟨rfl, rfl⟩ := h
    exact fun e he => by cases he
  | succ n ih =>
    intro l L r h hl
    rw [inosO] at h
    obtain ⟨⟨x, l1⟩, h1, h⟩ := bind_out h
    obtain ⟨⟨L2, l2⟩, h2, h⟩ := bind_out h
    simp only [Option.some.injEq, Prod.mk.injEq] at h
    obtain ⟨rfl, rfl⟩ := h
    obtain ⟨w1, w2⟩ := ino_wf h1 hl
    intro y hy
    rcases List.mem_cons.1 hy with rfl | hy
    · exact w1
    · exact ih l1 L2 l2 h2 (by omega) y hy
theorem vol_wf {l r : List UInt8} {nx : Nat} {L : List Nd} (h : volO l = some ((nx, L), r)) (hl : l.length ≤ 1048576) : ∀ x ∈ L, NdW x := by
  unfold volO at h
  obtain ⟨⟨a, l1⟩, h1, h⟩ := bind_out h
  obtain ⟨⟨k, l2⟩, h2, h⟩ := bind_out h
  obtain ⟨⟨s, l3⟩, h3, h⟩ := bind_out h
  dsimp only at h1 h2 h3
  simp only [Option.some.injEq, Prod.mk.injEq] at h
  obtain ⟨⟨rfl, rfl⟩, rfl⟩ := h
  have m1 := num_le (numO_out h1)
  have m2 : l2.length ≤ l1.length := by
    unfold cntO at h2
    obtain ⟨⟨x, y⟩, h11, h12⟩ := bind_out h2
    split at h12
    · simp only [Option.some.injEq, Prod.mk.injEq] at h12
      obtain ⟨rfl, rfl⟩ := h12
      exact Nat.le_of_lt (num_le (numO_out h11))
    · cases h12
  exact inos_wf k l2 s l3 h3 (by omega)
def CaughtV (g : Nat) (w w' : World) : Prop := Only (fun k => k = g ∨ k = g + 1) w w' ∧ (∀ o, w'.cell? ⟨g, o, none⟩ = #[Value.int .i64 0, .slice none 0 0][o]?) ∧ w'.cell? ⟨g + 1, 0, none⟩ = some (.bool false)
abbrev zV : Array Value := #[.int .i64 0, .slice none 0 0]
set_option maxRecDepth 100000 in
set_option maxHeartbeats 1000000 in
theorem catchV_idle (g : Nat) (w : World) :
    CallsD Try.prog 71 #[.pointer (some ⟨g, 0, none⟩), .pointer (some ⟨g + 1, 0, none⟩)] .returning w fun e u' w' => e = .returned (.tuple #[]) ∧ u' = .returning ∧ w' = w := by
  refine callsD_of_wpS Try.func71 rfl fun c₀ cs hu => ?_
  apply wpS_seq
  apply wpS_region
  simp [wpOpsS, go_sem, recoverD, hu, Try.ntmps71, Exit.thenS]
  refine wpS_cond (t := false) (by simp [Act.eval, Array.replicate]) ?_
  simp only [Bool.false_eq_true, if_false]
  refine wpS_of_wp (wp_skip ?_)
  cases c₀
  simp_all [bodyPostS, results, Try.results71]
theorem caughtV_mk {g : Nat} {w w0 : World} (h0 : Only (fun k => k = g ∨ k = g + 1) w w0) {a0 a1 b0 : Value} (k0 : w0.cell? ⟨g, 0, none⟩ = some a0) (k1 : w0.cell? ⟨g, 1, none⟩ = some a1) (l0 : w0.cell? ⟨g + 1, 0, none⟩ = some b0)
    (W : World) (hW : W = ((w0.setCell ⟨g, 0, none⟩ a0).setCell ⟨g, 1, none⟩ a1).setCell ⟨g + 1, 0, none⟩ b0) :
    Only (fun k => k = g ∨ k = g + 1) w W ∧ ∀ q, W.cell? q = w0.cell? q := by
  subst hW
  refine ⟨?_, ?_⟩
  · exact ((h0.setCell (p := ⟨g, 0, none⟩) (.inl rfl) a0).setCell (p := ⟨g, 1, none⟩) (.inl rfl) a1).setCell (p := ⟨g + 1, 0, none⟩) (.inr rfl) b0
  · exact reset1 (reset1 (reset1 (fun _ => rfl) k0) k1) l0
set_option maxRecDepth 100000 in
set_option maxHeartbeats 1000000 in
theorem catchV_panicking (g : Nat) (pv : Value) (u : TypeId) (w : World) (X : Blk w g zV) (Y : Blk w (g + 1) #[.bool false]) :
    CallsD Try.prog 71 #[.pointer (some ⟨g, 0, none⟩), .pointer (some ⟨g + 1, 0, none⟩)] (.panicking ({ v := .iface u pv, recovered := false } :: [])) w fun e u' w' => e = .returned (.tuple #[]) ∧ u' = .panicking ({ v := .iface u pv, recovered := true } :: []) ∧ CaughtV g w w' := by
  refine callsD_of_wpS Try.func71 rfl fun c₀ cs hu => ?_
  apply wpS_seq
  apply wpS_region
  simp [wpOpsS, go_sem, recoverD, hu, Try.ntmps71, Exit.thenS]
  refine wpS_cond (t := true) (by simp [Act.eval, Array.replicate]) ?_
  simp only [if_true]
  refine wpS_of_wp ?_
  have hg := Y.hi
  have hne : ¬ g + 1 = g := by omega
  have hne2 : ¬ g = g + 1 := by omega
  have k0 : (w.alloc (.cells #[.int .i64 0, .slice none 0 0] 29)).cell? ⟨g, 0, none⟩ = some (.int .i64 0) := (World.cell?_alloc_past _ _ _ (by have := X.hi; omega)).trans (X.cell 0)
  have f0 : (w.alloc (.cells #[.int .i64 0, .slice none 0 0] 29)).frozen? ⟨g, 0, none⟩ = false := (World.frozen?_alloc_past _ _ _ (by have := X.hi; omega)).trans (X.fro 0)
  have k1 : (w.alloc (.cells #[.int .i64 0, .slice none 0 0] 29)).cell? ⟨g, 1, none⟩ = some (.slice none 0 0) := (World.cell?_alloc_past _ _ _ (by have := X.hi; omega)).trans (X.cell 1)
  have f1 : (w.alloc (.cells #[.int .i64 0, .slice none 0 0] 29)).frozen? ⟨g, 1, none⟩ = false := (World.frozen?_alloc_past _ _ _ (by have := X.hi; omega)).trans (X.fro 1)
  have l0 : (w.alloc (.cells #[.int .i64 0, .slice none 0 0] 29)).cell? ⟨g + 1, 0, none⟩ = some (.bool false) := (World.cell?_alloc_past _ _ _ Y.hi).trans (Y.cell 0)
  have m0 : (w.alloc (.cells #[.int .i64 0, .slice none 0 0] 29)).frozen? ⟨g + 1, 0, none⟩ = false := (World.frozen?_alloc_past _ _ _ Y.hi).trans (Y.fro 0)
  go_wp2
  obtain ⟨o1, o2⟩ := caughtV_mk (w := w) (Only.alloc (Only.refl _ _) _) k0 k1 l0 _ rfl
  have HK := Hid.intro (show CaughtV g w _ from ⟨o1, fun o => (o2 _).trans ((World.cell?_alloc_past _ _ _ (by omega)).trans (X.cell o)), (o2 _).trans l0⟩)
  clear o1 o2
  exact ⟨rfl, _, rfl, .tuple #[], by simp [results, Try.results71, go_sem], rfl, rfl, HK.out⟩
set_option maxRecDepth 100000 in
set_option maxHeartbeats 4000000 in
theorem wholeV_any (s : ByteArray) (w : World) (hs : s.size ≤ 1048576) :
    Calls Try.prog 44 #[.string s, .func (Fn.func 45) #[] #[], .func (Fn.func 36) #[] #[]] w (RdV s.data.toList w) := by
  have hmf : ∀ (fn : Fn) (first cap : Array Value) (w : World), (Instr.makeFunc fn first cap).run Try.prog w = .ok (.func fn first cap) w := fun _ _ _ _ => rfl
  go_enter_defers Try.func44, Try.ntmps44
  go_wp2_with fail
  obtain ⟨W, hW, bW, zW, c0, f0, c1, f1, c2, f2⟩ := boxed3 w #[.int .i64 0, .slice none 0 0] #[.bool false] #[.string s] 29 4 114
  simp only [hW]
  have hC : CurAt W (w.heap.size + 1 + 1) s := ⟨by omega, c2 0, f2 0⟩
  have X : Blk W w.heap.size zV := ⟨by omega, c0, f0⟩
  have Y : Blk W (w.heap.size + 1) #[.bool false] := ⟨by omega, c1, f1⟩
  clear hW c0 f0 c1 f1 c2 f2
  refine (volC_any (w.heap.size + 1 + 1) s W hC hs).mono ?_
  rintro e w1 (⟨nx, u, M, q', rfl, HO, hc, sq, HM, hon⟩ | ⟨⟨pv, rfl⟩, HN, hon⟩)
  · have X1 := X.only hon (by omega)
    have Y1 := Y.only hon (by omega)
    have B1 : Below w.heap.size w w1 := bW.trans (hon.below (by omega) (fun k hk h => by omega))
    obtain ⟨ua, uc, rfl⟩ := HM.out.1.own.slice
    have hwf : ∀ p ∈ M, NdW p.n := fun p hp => vol_wf HO.out (by simpa using hs) p.n (List.mem_map_of_mem hp)
    have HWF := Hid.intro hwf
    clear hwf
    go_upto_region 4 with fail
    obtain ⟨W2, hW2, bW2, zW2, cW2, fW2⟩ := boxed w1 #[.int .i64 (nx : Nat), .slice ua M.length uc] 29
    simp only [hW2]
    have hq := (hc.kept bW2).cell
    have X2 := X1.kept bW2
    have Y2 := Y1.kept bW2
    have B2 := B1.trans (bW2.mono B1.size)
    have hlt1 := hc.lt
    replace HM := Hid.intro (And.intro (HM.out.1.kept bW2) HM.out.2)
    clear X Y hon bW hC hc X1 Y1 B1 hW2 bW2
    by_cases hz : q'.size = 0
    · have y1 := bs_mt hz
      have hq0 : q'.data.toList = [] := by
        have := empty_of hz
        rw [this]
      rw [hq0] at HO
      go_wp2_with fail
      refine (implVolOk_any nx M _ W2.heap.size W2 (Nat.le_refl _) HM.out.1.rowAll HWF.out).mono ?_
      rw [right_vol]
      rintro e w3 ⟨rfl, b3⟩
      have X3 := X2.kept b3
      have Y3 := Y2.kept b3
      have B3 := B2.trans (b3.mono B2.size)
      have cW3 := keepC b3 (by omega) cW2
      have z3 := b3.size
      replace HM := Hid.intro (And.intro (HM.out.1.kept b3) HM.out.2)
      clear X2 Y2 B2 b3 cW2 fW2 hq HWF
      cases hcb : volB nx (M.map Np.n) with
      | false =>
        have hne : ¬ w.heap.size + 1 = w.heap.size := by omega
        have hne2 : ¬ w.heap.size = w.heap.size + 1 := by omega
        have k0 : (w3.alloc (.cells #[.int .i64 0, .slice none 0 0] 29)).cell? ⟨w.heap.size, 0, none⟩ = some (.int .i64 0) := (World.cell?_alloc_past _ _ _ (by have := X3.hi; omega)).trans (X3.cell 0)
        have f0 : (w3.alloc (.cells #[.int .i64 0, .slice none 0 0] 29)).frozen? ⟨w.heap.size, 0, none⟩ = false := (World.frozen?_alloc_past _ _ _ (by have := X3.hi; omega)).trans (X3.fro 0)
        have k1 : (w3.alloc (.cells #[.int .i64 0, .slice none 0 0] 29)).cell? ⟨w.heap.size, 1, none⟩ = some (.slice none 0 0) := (World.cell?_alloc_past _ _ _ (by have := X3.hi; omega)).trans (X3.cell 1)
        have f1 : (w3.alloc (.cells #[.int .i64 0, .slice none 0 0] 29)).frozen? ⟨w.heap.size, 1, none⟩ = false := (World.frozen?_alloc_past _ _ _ (by have := X3.hi; omega)).trans (X3.fro 1)
        have l0 : (w3.alloc (.cells #[.int .i64 0, .slice none 0 0] 29)).cell? ⟨w.heap.size + 1, 0, none⟩ = some (.bool false) := (World.cell?_alloc_past _ _ _ Y3.hi).trans (Y3.cell 0)
        have m0 : (w3.alloc (.cells #[.int .i64 0, .slice none 0 0] 29)).frozen? ⟨w.heap.size + 1, 0, none⟩ = false := (World.frozen?_alloc_past _ _ _ Y3.hi).trans (Y3.fro 0)
        go_wp2
        obtain ⟨o1, o2⟩ := caughtV_mk (w := w3) (Only.alloc (Only.refl _ _) _) k0 k1 l0 _ rfl
        have r0 := (o2 _).trans k0
        have r1 := (o2 _).trans k1
        have r6 := (o2 _).trans l0
        have B9 := B3.trans (o1.below B3.size (fun k hk h => by omega))
        clear o1 o2 k0 k1 l0 f0 f1 m0
        generalize (((w3.alloc (.cells #[.int .i64 0, .slice none 0 0] 29)).setCell ⟨w.heap.size, 0, none⟩ (.int .i64 0)).setCell ⟨w.heap.size, 1, none⟩ (.slice none 0 0)).setCell ⟨w.heap.size + 1, 0, none⟩ (.bool false) = V at r0 r1 r6 B9 ⊢
        have ho : Hid (outV s.data.toList = none) := by
          unfold Hid outV
          rw [HO.out]
          simp only [Option.bind_some]
          rw [if_neg (fun h => by rw [h.2] at hcb; cases hcb)]
        refine leaves_cons (f := 71) (args := #[.pointer (some ⟨w.heap.size, 0, none⟩), .pointer (some ⟨w.heap.size + 1, 0, none⟩)]) (by simp) (by simp [go_sem]) ?_
        refine (catchV_idle w.heap.size V).mono ?_
        rintro e u' w'' ⟨rfl, rfl, rfl⟩
        exact ⟨_, by simp [results, Try.results44, go_sem, r0, r1, r6], .inr ⟨rfl, ho⟩, B9⟩
      | true =>
        have ho : Hid (outV s.data.toList = some (nx, M.map Np.n)) := by
          unfold Hid outV
          rw [HO.out]
          simp [hcb]
        clear HO hcb
        have hne : ¬ w.heap.size + 1 = w.heap.size := by omega
        have hne2 : ¬ w.heap.size = w.heap.size + 1 := by omega
        have hne3 : ¬ w.heap.size = w1.heap.size := by omega
        have hne4 : ¬ w.heap.size + 1 = w1.heap.size := by omega
        have e0 : w3.cell? ⟨w1.heap.size, 0, none⟩ = some (.int .i64 (nx : Nat)) := cW3 0
        have e1 : w3.cell? ⟨w1.heap.size, 1, none⟩ = some (.slice ua M.length uc) := cW3 1
        have k0 : w3.cell? ⟨w.heap.size, 0, none⟩ = some (.int .i64 0) := X3.cell 0
        have f0 : w3.frozen? ⟨w.heap.size, 0, none⟩ = false := X3.fro 0
        have k1 : w3.cell? ⟨w.heap.size, 1, none⟩ = some (.slice none 0 0) := X3.cell 1
        have f1 : w3.frozen? ⟨w.heap.size, 1, none⟩ = false := X3.fro 1
        have l0 : w3.cell? ⟨w.heap.size + 1, 0, none⟩ = some (.bool false) := Y3.cell 0
        have m0 : w3.frozen? ⟨w.heap.size + 1, 0, none⟩ = false := Y3.fro 0
        have HOn : Only (fun k => k = w.heap.size ∨ k = w.heap.size + 1) w3 (((w3.setCell ⟨w.heap.size, 0, none⟩ (.int .i64 (nx : Nat))).setCell ⟨w.heap.size, 1, none⟩ (.slice ua M.length uc)).setCell ⟨w.heap.size + 1, 0, none⟩ (.bool true)) :=
          (((Only.refl (fun k => k = w.heap.size ∨ k = w.heap.size + 1) w3).setCell (p := ⟨w.heap.size, 0, none⟩) (.inl rfl) (.int .i64 (nx : Nat))).setCell (p := ⟨w.heap.size, 1, none⟩) (.inl rfl) (.slice ua M.length uc)).setCell (p := ⟨w.heap.size + 1, 0, none⟩) (.inr rfl) (.bool true)
        have B9 : Below w.heap.size w (((w3.setCell ⟨w.heap.size, 0, none⟩ (.int .i64 (nx : Nat))).setCell ⟨w.heap.size, 1, none⟩ (.slice ua M.length uc)).setCell ⟨w.heap.size + 1, 0, none⟩ (.bool true)) := B3.trans (HOn.below B3.size (fun k hk h => by omega))
        have HV : Hid (VolO (((w3.setCell ⟨w.heap.size, 0, none⟩ (.int .i64 (nx : Nat))).setCell ⟨w.heap.size, 1, none⟩ (.slice ua M.length uc)).setCell ⟨w.heap.size + 1, 0, none⟩ (.bool true)) w.heap.size (.slice ua M.length uc) M ∧ Inc M) := ⟨(HM.out.1.only HOn (fun k hk h => by omega)).lower (by omega), HM.out.2⟩
        clear cW3 X3 Y3 HM HOn
        go_wp2
        refine leaves_cons (f := 71) (args := #[.pointer (some ⟨w.heap.size, 0, none⟩), .pointer (some ⟨w.heap.size + 1, 0, none⟩)]) (by simp) (by simp [go_sem]) ?_
        refine (catchV_idle w.heap.size _).mono ?_
        rintro e u' w'' ⟨rfl, rfl, rfl⟩
        exact ⟨.tuple #[volV (nx : Nat) (.slice ua M.length uc), .bool true], by simp [results, Try.results44, go_sem, k0, k1, l0], .inl ⟨nx, _, M, rfl, ho, HV⟩, B9⟩
    · have y1 := bs_ne hz
      have hne : ¬ w.heap.size + 1 = w.heap.size := by omega
      have hne2 : ¬ w.heap.size = w.heap.size + 1 := by omega
      have k0 : (W2.alloc (.cells #[.int .i64 0, .slice none 0 0] 29)).cell? ⟨w.heap.size, 0, none⟩ = some (.int .i64 0) := (World.cell?_alloc_past _ _ _ (by have := X2.hi; omega)).trans (X2.cell 0)
      have f0 : (W2.alloc (.cells #[.int .i64 0, .slice none 0 0] 29)).frozen? ⟨w.heap.size, 0, none⟩ = false := (World.frozen?_alloc_past _ _ _ (by have := X2.hi; omega)).trans (X2.fro 0)
      have k1 : (W2.alloc (.cells #[.int .i64 0, .slice none 0 0] 29)).cell? ⟨w.heap.size, 1, none⟩ = some (.slice none 0 0) := (World.cell?_alloc_past _ _ _ (by have := X2.hi; omega)).trans (X2.cell 1)
      have f1 : (W2.alloc (.cells #[.int .i64 0, .slice none 0 0] 29)).frozen? ⟨w.heap.size, 1, none⟩ = false := (World.frozen?_alloc_past _ _ _ (by have := X2.hi; omega)).trans (X2.fro 1)
      have l0 : (W2.alloc (.cells #[.int .i64 0, .slice none 0 0] 29)).cell? ⟨w.heap.size + 1, 0, none⟩ = some (.bool false) := (World.cell?_alloc_past _ _ _ Y2.hi).trans (Y2.cell 0)
      have m0 : (W2.alloc (.cells #[.int .i64 0, .slice none 0 0] 29)).frozen? ⟨w.heap.size + 1, 0, none⟩ = false := (World.frozen?_alloc_past _ _ _ Y2.hi).trans (Y2.fro 0)
      go_wp2
      obtain ⟨o1, o2⟩ := caughtV_mk (w := W2) (Only.alloc (Only.refl _ _) _) k0 k1 l0 _ rfl
      have r0 := (o2 _).trans k0
      have r1 := (o2 _).trans k1
      have r6 := (o2 _).trans l0
      have B9 := B2.trans (o1.below B2.size (fun k hk h => by omega))
      clear o1 o2 k0 k1 l0 f0 f1 m0
      generalize (((W2.alloc (.cells #[.int .i64 0, .slice none 0 0] 29)).setCell ⟨w.heap.size, 0, none⟩ (.int .i64 0)).setCell ⟨w.heap.size, 1, none⟩ (.slice none 0 0)).setCell ⟨w.heap.size + 1, 0, none⟩ (.bool false) = V at r0 r1 r6 B9 ⊢
      have ho : Hid (outV s.data.toList = none) := by
        unfold Hid outV
        rw [HO.out]
        simp only [Option.bind_some]
        rw [if_neg (fun h => hz (by have := congrArg List.length h.1; simpa using this))]
      refine leaves_cons (f := 71) (args := #[.pointer (some ⟨w.heap.size, 0, none⟩), .pointer (some ⟨w.heap.size + 1, 0, none⟩)]) (by simp) (by simp [go_sem]) ?_
      refine (catchV_idle w.heap.size V).mono ?_
      rintro e u' w'' ⟨rfl, rfl, rfl⟩
      exact ⟨_, by simp [results, Try.results44, go_sem, r0, r1, r6], .inr ⟨rfl, ho⟩, B9⟩
  · have X1 := X.only hon (by omega)
    have Y1 := Y.only hon (by omega)
    have B1 : Below w.heap.size w w1 := bW.trans (hon.below (by omega) (fun k hk h => by omega))
    clear X Y hon bW hC
    go_wp2
    refine leaves_cons (f := 71) (args := #[.pointer (some ⟨w.heap.size, 0, none⟩), .pointer (some ⟨w.heap.size + 1, 0, none⟩)]) (by simp) (by simp [go_sem]) ?_
    refine (catchV_panicking w.heap.size pv 9 w1 X1 Y1).mono ?_
    rintro e u' w'' ⟨rfl, rfl, h1, h2, h3⟩
    have B2 := B1.trans (h1.below B1.size (fun k hk h => by omega))
    have k0 := h2 0
    have k1 := h2 1
    have ho : Hid (outV s.data.toList = none) := by unfold Hid outV; rw [HN.out]; rfl
    simp [Leaves, settle, results, Try.results44, go_sem, k0, k1, h3]
    exact ⟨.inr ⟨rfl, ho⟩, B2⟩
end Go.Proofs.Ytdfcbbgboeonmaa
