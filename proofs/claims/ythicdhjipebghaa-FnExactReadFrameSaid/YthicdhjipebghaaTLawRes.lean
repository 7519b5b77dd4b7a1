/- The laws ResultOk and ShowResult. -/
import Derived.Test.YthicdhjipebghaaTRes
import Derived.Test.YthicdhjipebghaaGOpen
namespace Go.Proofs.Ythicdhjipebghaa
open Go.ChangeShapes Go.WideShapes Go.ChangeAt Go.RowKit
set_option linter.unusedVariables false
theorem tlist2 {α : Type} {cs : List α} (h : cs.length = 2) : ∃ c0 c1, cs = [c0, c1] := by
  match cs, h with
  | [c0, c1], _ => exact ⟨c0, c1, rfl⟩
theorem tcells_i : Try.prog.cellsOf 3 = 1 := by kernel_rfl
theorem tcells_s : Try.prog.cellsOf 9 = 1 := by kernel_rfl
section
variable {H : Type} {enc : TypeId × Value → H} {W : World} {sp : Nat → Bool} {held : Bool}
end
end Go.Proofs.Ythicdhjipebghaa
