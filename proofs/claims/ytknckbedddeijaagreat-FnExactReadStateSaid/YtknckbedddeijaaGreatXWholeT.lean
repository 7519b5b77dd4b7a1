/- ReadTenant of the program: a cursor's panic is recovered. -/
import Derived.Test.YtknckbedddeijaaGreatXCurTen
import Derived.Test.YtknckbedddeijaaGreatTWholeV
import Derived.Test.YtknckbedddeijaaGreatXTenOkI
namespace Go.Proofs.YtknckbedddeijaaGreat
open Go.RowKit
set_option linter.unusedVariables false
/-- The tenant of which l is made. -/
noncomputable def outT (l : List UInt8) : Option (Int × List Nd × Int × List Nt × List Se) := (tenO l).bind fun x => if x.2 = [] ∧ tenB x.1 = true then some x.1 else none
/-- What is handed back: the volume's memory below g3, the notes' and the sessions' behind it. -/
structure TnO (w' : World) (B g3 : Nat) (t : Ten) : Prop where
 vol : VolO w' B t.u t.L
 aud : Own ntE 55 w' (g3 + 1) t.va t.A
 ses : Own seE 61 w' (g3 + 1) t.vs t.S
 lt : B < g3
 vt : ∀ k, t.u.ownBlock = some k → k < g3
 vn : ∀ p ∈ t.L, ∀ k, p.v.ownBlock = some k → k < g3
 inc : Inc t.L
theorem TnO.only {w w' : World} {B g3 : Nat} {t : Ten} {S : Nat → Prop} (h : TnO w B g3 t) (ho : Only S w w') (hs : ∀ k, B ≤ k → ¬ S k) : TnO w' B g3 t :=
 ⟨⟨h.vol.own.only ho (fun k hk => hs k (h.vol.own.lt k hk).1), fun p hp => (h.vol.nms p hp).only ho (fun k hk => hs k ((h.vol.nms p hp).lt k hk).1)⟩, h.aud.only ho (fun k hk => hs k (by have := (h.aud.lt k hk).1; have := h.lt; omega)), h.ses.only ho (fun k hk => hs k (by have := (h.ses.lt k hk).1; have := h.lt; omega)), h.lt, h.vt, h.vn, h.inc⟩
theorem TnO.kept {w w' : World} {B g3 : Nat} {t : Ten} (h : TnO w B g3 t) (hb : Below w.heap.size w w') : TnO w' B g3 t :=
 ⟨h.vol.kept hb, h.aud.kept hb, h.ses.kept hb, h.lt, h.vt, h.vn, h.inc⟩
theorem TnO.lower {w : World} {B B' g3 : Nat} {t : Ten} (h : TnO w B g3 t) (hb : B' ≤ B) : TnO w B' g3 t :=
 ⟨h.vol.lower hb, h.aud, h.ses, by have := h.lt; omega, h.vt, h.vn, h.inc⟩
theorem TnO.rowAll {w : World} {B g3 : Nat} {t : Ten} (h : TnO w B g3 t) : TenR w w.heap.size t := ⟨h.vol.rowAll, h.aud.rowAll, h.ses.rowAll⟩
/-- What ReadTenant hands back. -/
def RdT (l : List UInt8) (w : World) (e : Ending) (w' : World) : Prop :=
 ((∃ (t : Ten) (g3 : Nat), e = .returned (.tuple #[t.v, .bool true]) ∧ Hid (outT l = some t.key) ∧ Hid (TnO w' w.heap.size g3 t)) ∨ (e = .returned (.tuple #[.agg zTn, .bool false]) ∧ Hid (outT l = none))) ∧ Below w.heap.size w w'
/-- The texts and numbers of what is read are such as there can be. -/
theorem pie_wf {l p r : List UInt8} (h : pieO l = some (p, r)) : p.length ≤ l.length ∧ r.length ≤ l.length := by
 have g := pieO_out h
 have l1 := pie_le g
 have := congrArg List.length g.2
 simp only [List.length_append] at this
 omega
theorem cnt_wf {m n : Nat} {l r : List UInt8} (h : cntO m l = some (n, r)) : r.length ≤ l.length := by
 unfold cntO at h
 obtain ⟨⟨x, y⟩, h11, h12⟩ := bind_out h
 split at h12
 ·simp only [Option.some.injEq, Prod.mk.injEq] at h12
  obtain ⟨rfl, rfl⟩ := h12
  exact Nat.le_of_lt (num_le (numO_out h11))
 ·cases h12
theorem insV_wf {l r : List UInt8} {v : Nat × List Nd} (h : insVO l = some (v, r)) (hl : l.length ≤ 1048576) : (∀ x ∈ v.2, NdW x) ∧ r.length ≤ l.length := by
 unfold insVO at h
 obtain ⟨⟨p, r1⟩, h1, h⟩ := bind_out h
 obtain ⟨⟨x, r2⟩, h2, h⟩ := bind_out h
 dsimp only at h1 h2 h
 obtain ⟨p1, p2⟩ := pie_wf h1
 split at h
 ·simp only [Option.some.injEq, Prod.mk.injEq] at h
  obtain ⟨rfl, rfl⟩ := h
  obtain ⟨nx, L⟩ := x
  exact ⟨vol_wf h2 (by omega), p2⟩
 ·cases h
theorem notsO_wf (n : Nat) : ∀ (l : List UInt8) (L : List Nt) (r : List UInt8), notsO n l = some (L, r) → r.length ≤ l.length := by
 induction n with
 | zero =>
  intro l L r h
  simp only [notsO, Option.some.injEq, Prod.mk.injEq] at h
  obtain ⟨rfl, rfl⟩ := h
  exact Nat.le_refl _
 | succ n ih =>
  intro l L r h
  rw [notsO] at h
  obtain ⟨⟨x, l1⟩, h1, h⟩ := bind_out h
  obtain ⟨⟨L2, l2⟩, h2, h⟩ := bind_out h
  simp only [Option.some.injEq, Prod.mk.injEq] at h
  obtain ⟨rfl, rfl⟩ := h
  have h3 := ih l1 L2 l2 h2
  unfold notO at h1
  obtain ⟨⟨a, l3⟩, g1, h1⟩ := bind_out h1
  obtain ⟨⟨b, l4⟩, g2, h1⟩ := bind_out h1
  obtain ⟨⟨c, l5⟩, g3, h1⟩ := bind_out h1
  obtain ⟨⟨d, l6⟩, g4, h1⟩ := bind_out h1
  obtain ⟨⟨e, l7⟩, g5, h1⟩ := bind_out h1
  dsimp only at g1 g2 g3 g4 g5
  simp only [Option.some.injEq, Prod.mk.injEq] at h1
  obtain ⟨rfl, rfl⟩ := h1
  have m1 := num_le (numO_out g1)
  have m2 := num_le (numO_out g2)
  have m3 := num_le (numO_out g3)
  have m4 := num_le (numO_out g4)
  have m5 := num_le (numO_out g5)
  omega
theorem sesO_wf {l r : List UInt8} {a : Se} (h : sesO l = some (a, r)) (hl : l.length ≤ 1048576) : a.r.d.size ≤ 1048576 ∧ r.length ≤ l.length := by
 unfold sesO at h
 obtain ⟨⟨x, l3⟩, g1, h⟩ := bind_out h
 obtain ⟨⟨b, l4⟩, g2, h⟩ := bind_out h
 obtain ⟨⟨c, l5⟩, g3, h⟩ := bind_out h
 obtain ⟨⟨d, l6⟩, g4, h⟩ := bind_out h
 dsimp only at g1 g2 g3 g4
 simp only [Option.some.injEq, Prod.mk.injEq] at h
 obtain ⟨rfl, rfl⟩ := h
 have m1 := num_le (numO_out g1)
 have m2 := num_le (numO_out g2)
 have m3 := num_le (numO_out g3)
 unfold insRO at g4
 obtain ⟨⟨p, l7⟩, k1, g4⟩ := bind_out g4
 obtain ⟨⟨v, l8⟩, k2, g4⟩ := bind_out g4
 dsimp only at k1 k2 g4
 simp only [Option.some.injEq, Prod.mk.injEq] at g4
 obtain ⟨rfl, rfl⟩ := g4
 obtain ⟨p1, p2⟩ := pie_wf k1
 have m4 := num_le (numO_out k2)
 have hs : (⟨l8.toArray⟩ : ByteArray).size = l8.length := by
  show l8.toArray.size = _
  simp
 refine ⟨?_, by omega⟩
 show (⟨l8.toArray⟩ : ByteArray).size ≤ 1048576
 omega
theorem sessO_wf (n : Nat) : ∀ (l : List UInt8) (L : List Se) (r : List UInt8), sessO n l = some (L, r) → l.length ≤ 1048576 → (∀ e ∈ L, e.r.d.size ≤ 1048576) ∧ r.length ≤ l.length := by
 induction n with
 | zero =>
  intro l L r h hl
  simp only [sessO, Option.some.injEq, Prod.mk.injEq] at h
  obtain ⟨rfl, rfl⟩ := h
  exact ⟨fun e he => (by cases he), Nat.le_refl _⟩
 | succ n ih =>
  intro l L r h hl
  rw [sessO] at h
  obtain ⟨⟨x, l1⟩, h1, h⟩ := bind_out h
  obtain ⟨⟨L2, l2⟩, h2, h⟩ := bind_out h
  simp only [Option.some.injEq, Prod.mk.injEq] at h
  obtain ⟨rfl, rfl⟩ := h
  obtain ⟨w1, w2⟩ := sesO_wf h1 hl
  dsimp only at h2 w2
  obtain ⟨w3, w4⟩ := ih l1 L2 l2 h2 (by omega)
  refine ⟨fun y hy => ?_, by omega⟩
  rcases List.mem_cons.1 hy with rfl | hy
  ·exact w1
  ·exact w3 y hy
theorem ten_wf {l r : List UInt8} {t : Ten} (h : tenO l = some (t.key, r)) (hl : l.length ≤ 1048576) : TenW t ∧ r.length ≤ l.length := by
 unfold tenO at h
 obtain ⟨⟨v, l1⟩, g1, h⟩ := bind_out h
 obtain ⟨⟨k, l2⟩, g2, h⟩ := bind_out h
 obtain ⟨⟨n, l3⟩, g3, h⟩ := bind_out h
 obtain ⟨⟨a, l4⟩, g4, h⟩ := bind_out h
 obtain ⟨⟨m, l5⟩, g5, h⟩ := bind_out h
 obtain ⟨⟨s, l6⟩, g6, h⟩ := bind_out h
 dsimp only at g1 g2 g3 g4 g5 g6
 simp only [Option.some.injEq, Prod.mk.injEq, Ten.key] at h
 obtain ⟨⟨_, e2, _, _, e5⟩, rfl⟩ := h
 obtain ⟨w1, w2⟩ := insV_wf g1 hl
 have m2 := num_le (numO_out g2)
 have m3 := cnt_wf g3
 have m4 := notsO_wf _ _ _ _ g4
 have m5 := cnt_wf g5
 obtain ⟨w3, w4⟩ := sessO_wf _ _ _ _ g6 (by omega)
 refine ⟨⟨fun p hp => w1 p.n (by rw [e2]; exact List.mem_map_of_mem hp), fun e he => ?_⟩, by omega⟩
 have := w3 e (by rw [e5]; exact he)
 omega
abbrev zTnV : Value := .agg zTn
def CaughtT (g : Nat) (w w' : World) : Prop := Only (fun k => k = g ∨ k = g + 1) w w' ∧ (∀ o, w'.cell? ⟨g, o, none⟩ = zTn[o]?) ∧ w'.cell? ⟨g + 1, 0, none⟩ = some (.bool false)
theorem caughtT_mk {g : Nat} {w w0 : World} (h0 : Only (fun k => k = g ∨ k = g + 1) w w0) {a0 a1 a2 a3 a4 b0 : Value} (k0 : w0.cell? ⟨g, 0, none⟩ = some a0) (k1 : w0.cell? ⟨g, 1, none⟩ = some a1) (k2 : w0.cell? ⟨g, 2, none⟩ = some a2) (k3 : w0.cell? ⟨g, 3, none⟩ = some a3) (k4 : w0.cell? ⟨g, 4, none⟩ = some a4) (l0 : w0.cell? ⟨g + 1, 0, none⟩ = some b0)
  (W : World) (hW : W = (((((w0.setCell ⟨g, 0, none⟩ (a0)).setCell ⟨g, 1, none⟩ (a1)).setCell ⟨g, 2, none⟩ (a2)).setCell ⟨g, 3, none⟩ (a3)).setCell ⟨g, 4, none⟩ (a4)).setCell ⟨g + 1, 0, none⟩ (b0)) :
  Only (fun k => k = g ∨ k = g + 1) w W ∧ ∀ q, W.cell? q = w0.cell? q := by
 subst hW
 refine ⟨?_, ?_⟩
 ·exact (((((h0.setCell (p := ⟨g, 0, none⟩) (.inl rfl) a0).setCell (p := ⟨g, 1, none⟩) (.inl rfl) a1).setCell (p := ⟨g, 2, none⟩) (.inl rfl) a2).setCell (p := ⟨g, 3, none⟩) (.inl rfl) a3).setCell (p := ⟨g, 4, none⟩) (.inl rfl) a4).setCell (p := ⟨g + 1, 0, none⟩) (.inr rfl) b0
 ·exact reset1 (reset1 (reset1 (reset1 (reset1 (reset1 (fun _ => rfl) k0) k1) k2) k3) k4) l0
end Go.Proofs.YtknckbedddeijaaGreat
