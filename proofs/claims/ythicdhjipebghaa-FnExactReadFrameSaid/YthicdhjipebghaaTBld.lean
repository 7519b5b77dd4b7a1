/- A builder of texts that the call has made: written to, and read out. -/
import Derived.Test.YthicdhjipebghaaGBase
import Derived.Shelf.Strings.Builder1
namespace Go.Proofs.Ythicdhjipebghaa
open Go.RowKit Go.Shelf
set_option linter.unusedVariables false
/-- All blocks of cells but b and but rows of bytes stand as they stood. -/
def Kept8 (b : Nat) (w w' : World) : Prop := ∀ k cs T fr, k ≠ b → T ≠ 5 → w.heap[k]? = some (.cells cs T fr) → w'.heap[k]? = some (.cells cs T fr)
theorem Kept8.set {b : Nat} {w w' : World} (h : Kept8 b w w') (o : Nat) (v : Value) : Kept8 b w (w'.setCell ⟨b, o, none⟩ v) := fun k cs T fr hk hT hc => (Below.heap_setCell _ _ _ _ hk).trans (h k cs T fr hk hT hc)
theorem Try.infoU8b : (Try.prog.info? 5).map (fun i => (i.zero, i.size, i.bytes)) = some (some (.int .u8 0), 1, 1) := by kernel_rfl
theorem bytesCells_app (l : List UInt8) (s : ByteArray) : Lib.byteCells l ++ Lib.strCells s = Lib.byteCells (l ++ s.data.toList) := by
  simp [Lib.byteCells, Lib.strCells]
end Go.Proofs.Ythicdhjipebghaa
