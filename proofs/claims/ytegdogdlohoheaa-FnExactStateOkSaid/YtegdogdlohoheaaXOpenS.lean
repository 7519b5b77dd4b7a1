/- What the laws' arguments look like: states. -/
import Derived.Test.YtegdogdlohoheaaXOpenT
import Derived.Test.YtegdogdlohoheaaXSta
namespace Go.Proofs.Ytegdogdlohoheaa
open Go.ChangeShapes Go.WideShapes Go.ChangeAt Go.RowKit Go.Joins Go.Deep
set_option linter.unusedVariables false
section
variable {H : Type} {enc : TypeId × Value → H} {W : World} {sp : Nat → Bool} {held : Bool}
set_option maxRecDepth 100000 in
theorem open_TenantS {r0 : Go.Reach} {b0 : Nat} {v : Value} {d : DataW H} {p : List MemPlace} (hval : Value.okWide Try.prog W r0 b0 34 v) (h : DataW.Trod enc Try.prog W 0 sp held 34 v d p) : ∃ L : List Ten, StR W W.heap.size v L ∧ ∀ t ∈ L, TenW t := by
  obtain ⟨fuel, hf⟩ := h
  obtain ⟨a, n, cap, rfl⟩ := okWide_slice Try.underlying34 hval
  obtain ⟨L, hL, hP⟩ := open_row tnE (fun t => TenR W W.heap.size t ∧ TenW t) Try.underlying34 cells_Tenant (fun _ _ _ h => by obtain ⟨t, e, h1, h2⟩ := tenant_cells h; exact ⟨t, e, h1, h2⟩) (c := .slice a n cap) (by simpa [Value.cells] using hf)
  exact ⟨L, ⟨hL, fun t ht => (hP t ht).1⟩, fun t ht => (hP t ht).2⟩
end
end Go.Proofs.Ytegdogdlohoheaa
