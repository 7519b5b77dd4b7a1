/- The laws ResultOk and ShowResult. -/
import Derived.Test.YtegdogdlohoheaaGreatTRes
import Derived.Test.YtegdogdlohoheaaGreatGOpen
namespace Go.Proofs.YtegdogdlohoheaaGreat
open Go.ChangeShapes Go.WideShapes Go.ChangeAt Go.RowKit
set_option linter.unusedVariables false
theorem tlist2 {α : Type} {cs : List α} (h : cs.length = 2) : ∃ c0 c1, cs = [c0, c1] := by
 match cs, h with
 | [c0, c1], _ => exact ⟨c0, c1, rfl⟩
theorem tcells_i : Tryz.prog.cellsOf 3 = 1 := by kernel_rfl
theorem tcells_s : Tryz.prog.cellsOf 9 = 1 := by kernel_rfl
section
variable {H : Type} {enc : TypeId × Value → H} {W : World} {sp : Nat → Bool} {held : Bool}
end
end Go.Proofs.YtegdogdlohoheaaGreat
