/-
  DERIVED. GIVEN WITH THE SEED: THE PROGRAM's TIES (one call each: nine closed facts by the kernel) AND EACH ROW's TIE, after the 31st guide's Derived/Test/Toyas{Tie, Card}.lean. No idea stands in it: it is a product of the set-up. Laid BY PROGRAM, IN A SANDBOX (cutbox-door.mjs). By AI agents, Wed Nov 11 2026. No macro, syntax, notation, axiom, sorry.
-/
import Derived.Test.YtmkegmndcbpblaaGreatDoorRows
import Derived.LaidByTextLater
import Derived.SevenTiedAt
import Derived.LaidSub
import Derived.LaidOnce
namespace Go.Proofs.YtmkegmndcbpblaaGreatDoor
open Go
set_option maxRecDepth 100000
theorem seatTie1 : Tryz.prog.laidByTextLater [("loop.example/g00757/impl.errAccess", Rows.laid_loop_example_g00757_impl_errAccess), ("loop.example/g00757/impl.errLoop", Rows.laid_loop_example_g00757_impl_errLoop), ("loop.example/g00757/impl.errMissing", Rows.laid_loop_example_g00757_impl_errMissing), ("loop.example/g00757/impl.errNotDir", Rows.laid_loop_example_g00757_impl_errNotDir), ("loop.example/g00757/impl.errTooLong", Rows.laid_loop_example_g00757_impl_errTooLong), ("loop.example/g00757/impl.errWrong", Rows.laid_loop_example_g00757_impl_errWrong)] [.sentinel, .sentinel, .sentinel, .sentinel, .sentinel, .sentinel] true :=
  Program.laidByTextLater_by_one 123 8 2 (by kernel_rfl) (by kernel_rfl) (by kernel_rfl) (by kernel_rfl) (by kernel_rfl) (by kernel_rfl) (fun _ _ => by kernel_rfl)
theorem noOwnUnsafe : Tryz.pinned.checked.prog.headLifts.contains "ownunsafe" = false := by kernel_rfl
theorem tie : Tryz.prog.laidByTextLater [("loop.example/g00757/impl.errAccess", Rows.laid_loop_example_g00757_impl_errAccess), ("loop.example/g00757/impl.errLoop", Rows.laid_loop_example_g00757_impl_errLoop), ("loop.example/g00757/impl.errMissing", Rows.laid_loop_example_g00757_impl_errMissing), ("loop.example/g00757/impl.errNotDir", Rows.laid_loop_example_g00757_impl_errNotDir), ("loop.example/g00757/impl.errTooLong", Rows.laid_loop_example_g00757_impl_errTooLong), ("loop.example/g00757/impl.errWrong", Rows.laid_loop_example_g00757_impl_errWrong)] [.sentinel, .sentinel, .sentinel, .sentinel, .sentinel, .sentinel] true :=
  Program.laidByTextLater.sub seatTie1 ["loop.example/g00757/impl.errAccess", "loop.example/g00757/impl.errLoop", "loop.example/g00757/impl.errMissing", "loop.example/g00757/impl.errNotDir", "loop.example/g00757/impl.errTooLong", "loop.example/g00757/impl.errWrong"] (by kernel_rfl) (by kernel_rfl)
theorem fnExactWalk_row_tie : Rows.fnExactWalkRow.laidByTextAt .later Tryz.pinned [.sentinel, .sentinel, .sentinel, .sentinel, .sentinel, .sentinel] true :=
  OpenClaim.laidByTextAt_later rfl rfl tie noOwnUnsafe
theorem fnExactWalkUpto_row_tie : Rows.fnExactWalkUptoRow.laidByTextAt .later Tryz.pinned [.sentinel, .sentinel, .sentinel, .sentinel, .sentinel, .sentinel] true :=
  OpenClaim.laidByTextAt_later rfl rfl tie noOwnUnsafe
end Go.Proofs.YtmkegmndcbpblaaGreatDoor
