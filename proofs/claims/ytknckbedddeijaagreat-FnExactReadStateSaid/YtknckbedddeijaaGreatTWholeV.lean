/- ReadVol of the program: a cursor's panic is recovered. -/
import Derived.Test.YtknckbedddeijaaGreatTCurVo
import Derived.Test.YtknckbedddeijaaGreatTShowVol
import Derived.Test.YtknckbedddeijaaGreatTWhole
import Derived.Test.YtknckbedddeijaaGreatTCallIff
namespace Go.Proofs.YtknckbedddeijaaGreat
open Go.RowKit
set_option linter.unusedVariables false
/-- The volume of which l is made. -/
noncomputable def outV (l : List UInt8) : Option (Nat × List Nd) := (volO l).bind fun x => if x.2 = [] ∧ volB x.1.1 x.1.2 = true then some x.1 else none
/-- What ReadVol hands back. -/
def RdV (l : List UInt8) (w : World) (e : Ending) (w' : World) : Prop :=
 ((∃ (nx : Nat) (u : Value) (M : List Np), e = .returned (.tuple #[volV (nx : Nat) u, .bool true]) ∧ Hid (outV l = some (nx, M.map Np.n)) ∧ Hid (VolO w' w.heap.size u M ∧ Inc M)) ∨ (e = .returned (.tuple #[volV 0 (.slice none 0 0), .bool false]) ∧ Hid (outV l = none))) ∧ Below w.heap.size w w'
/-- The texts and numbers of what is read are such as there can be. -/
theorem nms_wf (n : Nat) : ∀ (l : List UInt8) (L : List Di) (r : List UInt8), nmsO n l = some (L, r) → l.length ≤ 1048576 → r.length ≤ l.length ∧ ∀ e ∈ L, e.nm.size ≤ 1048576 ∧ 0 ≤ e.id ∧ e.id ≤ 562949953421311 := by
 induction n with
 | zero =>
  intro l L r h _
  simp only [nmsO, Option.some.injEq, Prod.mk.injEq] at h
  obtain ⟨rfl, rfl⟩ := h
  exact ⟨Nat.le_refl _, fun e he => by cases he⟩
 | succ n ih =>
  intro l L r h hl
  rw [nmsO] at h
  cases h1 : pieO l with
  | none => rw [h1] at h; cases h
  | some a =>
   obtain ⟨p, r1⟩ := a
   rw [h1, Option.bind_some] at h
   cases h2 : numO r1 with
   | none => simp only [h2, Option.bind_none] at h; cases h
   | some c =>
    obtain ⟨x, r2⟩ := c
    simp only [h2, Option.bind_some] at h
    cases h3 : nmsO n r2 with
    | none => simp only [h3, Option.bind_none] at h; cases h
    | some d =>
     obtain ⟨L2, r3⟩ := d
     simp only [h3, Option.bind_some, Option.some.injEq, Prod.mk.injEq] at h
     obtain ⟨rfl, rfl⟩ := h
     have g1 := pieO_out h1
     have g2 := numO_out h2
     have l1 := pie_le g1
     have l2 := num_le g2
     obtain ⟨l3, h4⟩ := ih r2 L2 r3 h3 (by omega)
     refine ⟨by omega, fun e he => ?_⟩
     rcases List.mem_cons.1 he with rfl | he
     ·have hp : p.length ≤ l.length := by
       have := congrArg List.length g1.2
       simp only [List.length_append] at this
       omega
      have hs : (⟨p.toArray⟩ : ByteArray).size = p.length := by
       show p.toArray.size = _
       simp
      exact ⟨by simp only [hs]; omega, by simp, by have := g2.1; simp only; omega⟩
     ·exact h4 e he
theorem ino_wf {l r : List UInt8} {n : Nd} (h : inoO l = some (n, r)) (hl : l.length ≤ 1048576) : NdW n ∧ r.length ≤ l.length := by
 unfold inoO at h
 obtain ⟨⟨a, l1⟩, h1, h⟩ := bind_out h
 obtain ⟨⟨b, l2⟩, h2, h⟩ := bind_out h
 obtain ⟨⟨c, l3⟩, h3, h⟩ := bind_out h
 obtain ⟨⟨d, l4⟩, h4, h⟩ := bind_out h
 obtain ⟨⟨e, l5⟩, h5, h⟩ := bind_out h
 obtain ⟨⟨f, l6⟩, h6, h⟩ := bind_out h
 obtain ⟨⟨g, l7⟩, h7, h⟩ := bind_out h
 obtain ⟨⟨p, l8⟩, h8, h⟩ := bind_out h
 obtain ⟨⟨k, l9⟩, h9, h⟩ := bind_out h
 obtain ⟨⟨s, l10⟩, h10, h⟩ := bind_out h
 dsimp only at h1 h2 h3 h4 h5 h6 h7 h8 h9 h10
 simp only [Option.some.injEq, Prod.mk.injEq] at h
 obtain ⟨rfl, rfl⟩ := h
 have m1 := num_le (numO_out h1)
 have m2 := num_le (numO_out h2)
 have m3 := num_le (numO_out h3)
 have m4 := num_le (numO_out h4)
 have m5 := num_le (numO_out h5)
 have m6 := num_le (numO_out h6)
 have m7 := num_le (numO_out h7)
 have m8 := pie_le (pieO_out h8)
 have m9 : l9.length ≤ l8.length := by
  unfold cntO at h9
  obtain ⟨⟨x, y⟩, h11, h12⟩ := bind_out h9
  split at h12
  ·simp only [Option.some.injEq, Prod.mk.injEq] at h12
   obtain ⟨rfl, rfl⟩ := h12
   exact Nat.le_of_lt (num_le (numO_out h11))
  ·cases h12
 obtain ⟨m10, hn⟩ := nms_wf k l9 s l10 h10 (by omega)
 have hp : p.length ≤ l7.length := by
  have := congrArg List.length (pieO_out h8).2
  simp only [List.length_append] at this
  omega
 have hs : (⟨p.toArray⟩ : ByteArray).size = p.length := by
  show p.toArray.size = _
  simp
 refine ⟨⟨⟨by simp only [hs]; omega, fun e he => by have := (hn e he).1; omega⟩, fun e he => ?_⟩, by omega⟩
 have := (hn e he).2
 have hmin : IntKind.i64.min = -9223372036854775808 := by decide
 have hmax : IntKind.i64.max = 9223372036854775807 := by decide
 simp [Lit.wf]
 omega
theorem inos_wf (n : Nat) : ∀ (l : List UInt8) (L : List Nd) (r : List UInt8), inosO n l = some (L, r) → l.length ≤ 1048576 → ∀ x ∈ L, NdW x := by
 induction n with
 | zero =>
  intro l L r h _
  simp only [inosO, Option.some.injEq, Prod.mk.injEq] at h
  obtain ⟨rfl, rfl⟩ := h
  exact fun e he => by cases he
 | succ n ih =>
  intro l L r h hl
  rw [inosO] at h
  obtain ⟨⟨x, l1⟩, h1, h⟩ := bind_out h
  obtain ⟨⟨L2, l2⟩, h2, h⟩ := bind_out h
  simp only [Option.some.injEq, Prod.mk.injEq] at h
  obtain ⟨rfl, rfl⟩ := h
  obtain ⟨w1, w2⟩ := ino_wf h1 hl
  intro y hy
  rcases List.mem_cons.1 hy with rfl | hy
  ·exact w1
  ·exact ih l1 L2 l2 h2 (by omega) y hy
theorem vol_wf {l r : List UInt8} {nx : Nat} {L : List Nd} (h : volO l = some ((nx, L), r)) (hl : l.length ≤ 1048576) : ∀ x ∈ L, NdW x := by
 unfold volO at h
 obtain ⟨⟨a, l1⟩, h1, h⟩ := bind_out h
 obtain ⟨⟨k, l2⟩, h2, h⟩ := bind_out h
 obtain ⟨⟨s, l3⟩, h3, h⟩ := bind_out h
 dsimp only at h1 h2 h3
 simp only [Option.some.injEq, Prod.mk.injEq] at h
 obtain ⟨⟨rfl, rfl⟩, rfl⟩ := h
 have m1 := num_le (numO_out h1)
 have m2 : l2.length ≤ l1.length := by
  unfold cntO at h2
  obtain ⟨⟨x, y⟩, h11, h12⟩ := bind_out h2
  split at h12
  ·simp only [Option.some.injEq, Prod.mk.injEq] at h12
   obtain ⟨rfl, rfl⟩ := h12
   exact Nat.le_of_lt (num_le (numO_out h11))
  ·cases h12
 exact inos_wf k l2 s l3 h3 (by omega)
def CaughtV (g : Nat) (w w' : World) : Prop := Only (fun k => k = g ∨ k = g + 1) w w' ∧ (∀ o, w'.cell? ⟨g, o, none⟩ = #[Value.int .i64 0, .slice none 0 0][o]?) ∧ w'.cell? ⟨g + 1, 0, none⟩ = some (.bool false)
abbrev zV : Array Value := #[.int .i64 0, .slice none 0 0]
theorem caughtV_mk {g : Nat} {w w0 : World} (h0 : Only (fun k => k = g ∨ k = g + 1) w w0) {a0 a1 b0 : Value} (k0 : w0.cell? ⟨g, 0, none⟩ = some a0) (k1 : w0.cell? ⟨g, 1, none⟩ = some a1) (l0 : w0.cell? ⟨g + 1, 0, none⟩ = some b0)
  (W : World) (hW : W = ((w0.setCell ⟨g, 0, none⟩ a0).setCell ⟨g, 1, none⟩ a1).setCell ⟨g + 1, 0, none⟩ b0) :
  Only (fun k => k = g ∨ k = g + 1) w W ∧ ∀ q, W.cell? q = w0.cell? q := by
 subst hW
 refine ⟨?_, ?_⟩
 ·exact ((h0.setCell (p := ⟨g, 0, none⟩) (.inl rfl) a0).setCell (p := ⟨g, 1, none⟩) (.inl rfl) a1).setCell (p := ⟨g + 1, 0, none⟩) (.inr rfl) b0
 ·exact reset1 (reset1 (reset1 (fun _ => rfl) k0) k1) l0
end Go.Proofs.YtknckbedddeijaaGreat
