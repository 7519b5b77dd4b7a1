/-
  NARROWER THAN 'FOR EVERY INPUT', by the rows' own cells (each row's printed sentence says how): FnExactWalk: ifaces, laid.
  DERIVED. THE GIVEN ROWS OF THIS SEAT. 1 by the template 'for every input the law returns true; each argument reads behind the call as it read before'; 0 by the template 'total and deterministic' (their statements: YtmkegmndcbpblaaGreatDoorTotals.lean).
  GIVEN WITH THE SEED: the statements are not yours to turn. If you find one false, say at which input.
  Laid BY PROGRAM, IN A SANDBOX (cutbox-rows.mjs): the forced cells as the released guide's own fill.sh prints them over the translation a062eca8f0f3ad09… (all of the seat's roots in one cut). By AI agents, Wed Nov 11 2026. No macro, syntax, notation, axiom, sorry.
-/
import Derived.Test.YtmkegmndcbpblaaGreatDoorChecked
import GoSem.Claim
import GoSem.ClaimJoined
import GoSem.ClaimMapViews
import Derived.JoinedTies
import Derived.KernelRfl
namespace Go.Proofs.YtmkegmndcbpblaaGreatDoor
/- THE CELL 'sum', in the pinned program and in every row, IS THE sha256 OF THE DUMP (.gsa) THAT YtmkegmndcbpblaaGreatDoorProg.lean LOADS. Nothing in Lean hashes anything: it is a label: what it is worth is what the hold of that sum in a sandbox is worth. -/
noncomputable def Tryz.pinned : Pinned := { name := "ytmkegmndcbpblaagreatdoor", sum := "a062eca8f0f3ad09c394b416518cf84f751b6d686400c5f2e43183b8b3cca038", checked := Tryz.checked }
namespace Rows
def none {H : Type} : Left H := { results := [], args := [] }

/- WHAT THE LISTED PACKAGE-LEVEL VARIABLES READ AS WHEN THE CALL BEGINS. Each datum BY PROGRAM (the guide's laid-datum.mjs) off the statement by which the dump's own 'gosem.cut.vars' lays the variable. In a bare row this is a premise. The card (YtmkegmndcbpblaaGreatDoorCards.lean) ties it to the program's text. -/
def laid_loop_example_g00757_impl_errAccess {H : Type} : DataW H := .iface "*errors.errorString" (.ptr (.agg [.lit (.string [116, 104, 101, 32, 100, 105, 114, 101, 99, 116, 111, 114, 121, 32, 109, 97, 121, 32, 110, 111, 116, 32, 98, 101, 32, 108, 111, 111, 107, 101, 100, 32, 105, 110, 116, 111])]))
def laid_loop_example_g00757_impl_errLoop {H : Type} : DataW H := .iface "*errors.errorString" (.ptr (.agg [.lit (.string [116, 111, 111, 32, 109, 97, 110, 121, 32, 108, 105, 110, 107, 115])]))
def laid_loop_example_g00757_impl_errMissing {H : Type} : DataW H := .iface "*errors.errorString" (.ptr (.agg [.lit (.string [110, 111, 32, 115, 117, 99, 104, 32, 110, 97, 109, 101])]))
def laid_loop_example_g00757_impl_errNotDir {H : Type} : DataW H := .iface "*errors.errorString" (.ptr (.agg [.lit (.string [110, 111, 32, 100, 105, 114, 101, 99, 116, 111, 114, 121])]))
def laid_loop_example_g00757_impl_errTooLong {H : Type} : DataW H := .iface "*errors.errorString" (.ptr (.agg [.lit (.string [97, 32, 110, 97, 109, 101, 32, 116, 111, 111, 32, 108, 111, 110, 103, 44, 32, 111, 114, 32, 116, 111, 111, 32, 109, 97, 110, 121, 32, 112, 97, 114, 116, 115])]))
def laid_loop_example_g00757_impl_errWrong {H : Type} : DataW H := .iface "*errors.errorString" (.ptr (.agg [.lit (.string [97, 32, 118, 111, 108, 117, 109, 101, 44, 32, 97, 32, 99, 114, 101, 100, 32, 111, 114, 32, 97, 32, 112, 97, 116, 104, 32, 116, 104, 97, 116, 32, 105, 115, 32, 110, 111, 116, 32, 114, 105, 103, 104, 116])]))

/-- 'laws.FnExactWalk': WHATEVER THE INPUT: true; the input reads as it did. -/
def fnExactWalkSpec : ChangeSpec := { name := "fnExactWalk", vars := ["loop.example/g00757/impl.errWrong", "loop.example/g00757/impl.errAccess", "loop.example/g00757/impl.errTooLong", "loop.example/g00757/impl.errMissing", "loop.example/g00757/impl.errNotDir", "loop.example/g00757/impl.errLoop"], fn := fun _ => fun
  | [d1, d2, d3, d4, g1, g2, g3, g4, g5, g6] => { results := [.lit (.bool true)], args := [d1, d2, d3, d4], vars := [g1, g2, g3, g4, g5, g6] }
  | _ => none }
def fnExactWalkRow : OpenClaim := { program := "ytmkegmndcbpblaagreatdoor", sum := "a062eca8f0f3ad09c394b416518cf84f751b6d686400c5f2e43183b8b3cca038", func := "loop.example/g00757/laws.FnExactWalk", spec := "fnExactWalk", inPlace := ["internal/reflectlite.TypeOf"], unfollowed := true, recurses := true, named := ["loop.example/g00757/impl.errWrong", "loop.example/g00757/impl.errAccess", "loop.example/g00757/impl.errTooLong", "loop.example/g00757/impl.errMissing", "loop.example/g00757/impl.errNotDir", "loop.example/g00757/impl.errLoop"], ifaces := true, apart := false, laid := [("loop.example/g00757/impl.errAccess", laid_loop_example_g00757_impl_errAccess), ("loop.example/g00757/impl.errLoop", laid_loop_example_g00757_impl_errLoop), ("loop.example/g00757/impl.errMissing", laid_loop_example_g00757_impl_errMissing), ("loop.example/g00757/impl.errNotDir", laid_loop_example_g00757_impl_errNotDir), ("loop.example/g00757/impl.errTooLong", laid_loop_example_g00757_impl_errTooLong), ("loop.example/g00757/impl.errWrong", laid_loop_example_g00757_impl_errWrong)] }
def FnExactWalkSaid : Prop := fnExactWalkRow.holds Tryz.pinned (OpenSpec.ofChange fnExactWalkSpec)

/-- ITS FALSE NEIGHBOUR: 'it returns false'. Refute it at one input. -/
def fnExactWalkWrong : ChangeSpec := { name := "fnExactWalk", vars := ["loop.example/g00757/impl.errWrong", "loop.example/g00757/impl.errAccess", "loop.example/g00757/impl.errTooLong", "loop.example/g00757/impl.errMissing", "loop.example/g00757/impl.errNotDir", "loop.example/g00757/impl.errLoop"], fn := fun _ => fun
  | [d1, d2, d3, d4, g1, g2, g3, g4, g5, g6] => { results := [.lit (.bool false)], args := [d1, d2, d3, d4], vars := [g1, g2, g3, g4, g5, g6] }
  | _ => none }
def FnExactWalkWrongFalsely : Prop := fnExactWalkRow.holds Tryz.pinned (OpenSpec.ofChange fnExactWalkWrong)

/- THE SECOND FORM. 'bulk': how many values and letters a reading holds, each counted each time it is reached (what is shared counts as often as it is met; a slice's spare places count too). A statement '..UptoSaid' is the law's where the arguments, and the package variables that the reading takes, are together of bulk at most 1048576: NARROWER than '..Said'. Prove '..Said' where nothing that the law and all that it calls make is longer than what came in: it says more and counts as full. Else prove '..UptoSaid'. A law counts once. -/
mutual
def uptoBulk {H : Type} : DataW H → Nat
  | .lit (.string bytes) => bytes.length + 1
  | .lit _ => 1
  | .nil => 1
  | .ptr d => uptoBulk d + 1
  | .slice elems spare => uptoBulkAll elems + uptoBulkAll spare + 1
  | .agg parts => uptoBulkAll parts + 1
  | .iface _ d => uptoBulk d + 1
  | .map entries => uptoBulkEntries entries + 1
  | .held _ => 1
def uptoBulkAll {H : Type} : List (DataW H) → Nat
  | [] => 0
  | d :: r => uptoBulk d + uptoBulkAll r
def uptoBulkEntries {H : Type} : List (Lit × DataW H) → Nat
  | [] => 0
  | x :: r => uptoBulkEntry x + uptoBulkEntries r
def uptoBulkEntry {H : Type} : Lit × DataW H → Nat
  | (.string bytes, d) => bytes.length + uptoBulk d + 1
  | (_, d) => uptoBulk d + 1
 end
def uptoSmall : (H : Type) → List (DataW H) → Bool := fun _ ds => decide (uptoBulkAll ds ≤ 1048576)
def OpenSpec.upto (s : _root_.Go.ChangeSpec) : _root_.Go.OpenSpec := { _root_.Go.OpenSpec.ofChange s with cond := some uptoSmall }

/-- 'laws.FnExactWalk', WHERE WHAT IT READS IS OF BULK AT MOST 1048576: true; the input reads as it did. -/
def fnExactWalkUptoRow : OpenClaim := { program := "ytmkegmndcbpblaagreatdoor", sum := "a062eca8f0f3ad09c394b416518cf84f751b6d686400c5f2e43183b8b3cca038", func := "loop.example/g00757/laws.FnExactWalk", spec := "fnExactWalk", inPlace := ["internal/reflectlite.TypeOf"], unfollowed := true, recurses := true, named := ["loop.example/g00757/impl.errWrong", "loop.example/g00757/impl.errAccess", "loop.example/g00757/impl.errTooLong", "loop.example/g00757/impl.errMissing", "loop.example/g00757/impl.errNotDir", "loop.example/g00757/impl.errLoop"], ifaces := true, apart := false, laid := [("loop.example/g00757/impl.errAccess", laid_loop_example_g00757_impl_errAccess), ("loop.example/g00757/impl.errLoop", laid_loop_example_g00757_impl_errLoop), ("loop.example/g00757/impl.errMissing", laid_loop_example_g00757_impl_errMissing), ("loop.example/g00757/impl.errNotDir", laid_loop_example_g00757_impl_errNotDir), ("loop.example/g00757/impl.errTooLong", laid_loop_example_g00757_impl_errTooLong), ("loop.example/g00757/impl.errWrong", laid_loop_example_g00757_impl_errWrong)], narrowed := true }
def FnExactWalkUptoSaid : Prop := fnExactWalkUptoRow.holds Tryz.pinned (OpenSpec.upto fnExactWalkSpec)

end Rows
end Go.Proofs.YtmkegmndcbpblaaGreatDoor
