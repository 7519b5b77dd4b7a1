/- ReadCall of the program: a cursor's panic is recovered. -/
import Derived.Test.YtknckbedddeijaaGreatTCurP
import Derived.Recover
namespace Go.Proofs.YtknckbedddeijaaGreat
open Go.RowKit
set_option linter.unusedVariables false
def caZ : Ca := ⟨0, ⟨#[]⟩, ⟨#[]⟩, 0, 0, ⟨#[]⟩⟩
/-- The call of which s is made. -/
noncomputable def outC (l : List UInt8) : Option Ca := (callO l).bind fun x => if x.2 = [] ∧ callP (caOf x.1) then some (caOf x.1) else none
@[reducible] def ansC (o : Option Ca) : Value := .tuple #[caV (o.getD caZ), .bool o.isSome]
/-- What the caught panic leaves: the zero call, and false. -/
def Caught (g : Nat) (w w' : World) : Prop := Only (fun k => k = g ∨ k = g + 1) w w' ∧ (∀ o, w'.cell? ⟨g, o, none⟩ = #[Value.int .i64 0, .string ⟨#[]⟩, .string ⟨#[]⟩, .int .i64 0, .int .i64 0, .string ⟨#[]⟩][o]?) ∧ w'.cell? ⟨g + 1, 0, none⟩ = some (.bool false)
theorem reset1 {w0 w' : World} (h : ∀ q, w'.cell? q = w0.cell? q) {p : Addr} {v : Value} (hp : w0.cell? p = some v) : ∀ q, (w'.setCell p v).cell? q = w0.cell? q := by
 intro q
 by_cases e : p = q
 ·subst e
  rw [World.cell?_setCell_same _ _ _ ((h p).trans hp), hp]
 ·rw [World.cell?_setCell_other _ _ _ _ e, h q]
theorem caught_mk {g : Nat} {w w0 : World} (h0 : Only (fun k => k = g ∨ k = g + 1) w w0) {a0 a1 a2 a3 a4 a5 b0 : Value} (k0 : w0.cell? ⟨g, 0, none⟩ = some a0) (k1 : w0.cell? ⟨g, 1, none⟩ = some a1) (k2 : w0.cell? ⟨g, 2, none⟩ = some a2) (k3 : w0.cell? ⟨g, 3, none⟩ = some a3) (k4 : w0.cell? ⟨g, 4, none⟩ = some a4) (k5 : w0.cell? ⟨g, 5, none⟩ = some a5) (l0 : w0.cell? ⟨g + 1, 0, none⟩ = some b0)
  (W : World) (hW : W = ((((((w0.setCell ⟨g, 0, none⟩ a0).setCell ⟨g, 1, none⟩ a1).setCell ⟨g, 2, none⟩ a2).setCell ⟨g, 3, none⟩ a3).setCell ⟨g, 4, none⟩ a4).setCell ⟨g, 5, none⟩ a5).setCell ⟨g + 1, 0, none⟩ b0) :
  Only (fun k => k = g ∨ k = g + 1) w W ∧ ∀ q, W.cell? q = w0.cell? q := by
 subst hW
 refine ⟨?_, ?_⟩
 ·exact ((((((h0.setCell (p := ⟨g, 0, none⟩) (.inl rfl) a0).setCell (p := ⟨g, 1, none⟩) (.inl rfl) a1).setCell (p := ⟨g, 2, none⟩) (.inl rfl) a2).setCell (p := ⟨g, 3, none⟩) (.inl rfl) a3).setCell (p := ⟨g, 4, none⟩) (.inl rfl) a4).setCell (p := ⟨g, 5, none⟩) (.inl rfl) a5).setCell (p := ⟨g + 1, 0, none⟩) (.inr rfl) b0
 ·exact reset1 (reset1 (reset1 (reset1 (reset1 (reset1 (reset1 (fun _ => rfl) k0) k1) k2) k3) k4) k5) l0
abbrev zC : Array Value := #[.int .i64 0, .string ⟨#[]⟩, .string ⟨#[]⟩, .int .i64 0, .int .i64 0, .string ⟨#[]⟩]
end Go.Proofs.YtknckbedddeijaaGreat
