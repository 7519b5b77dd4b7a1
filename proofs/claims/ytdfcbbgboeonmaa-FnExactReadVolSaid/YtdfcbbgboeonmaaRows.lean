/-
  No cell of these rows narrows 'for every input' (looked for: loops, veiled, ifaces, maps, wideKeys, modest, calm, conditions, laid).
  DERIVED. THE GIVEN ROWS OF THIS SEAT. 6 by the template 'for every input the law returns true; each argument reads behind the call as it read before'; 0 by the template 'total and deterministic' (their statements: YtdfcbbgboeonmaaTotals.lean).
  GIVEN WITH THE SEED: the statements are not yours to turn. If you find one false, say at which input.
  Laid BY PROGRAM, IN A SANDBOX (cutbox-rows.mjs): the forced cells as the released guide's own fill.sh prints them over the translation 139a4b1fd8e6c13a… (all of the seat's roots in one cut). By AI agents, Wed Nov 11 2026. No macro, syntax, notation, axiom, sorry.
-/
import Derived.Test.YtdfcbbgboeonmaaChecked
import GoSem.Claim
import GoSem.ClaimJoined
import GoSem.ClaimMapViews
import Derived.JoinedTies
import Derived.KernelRfl
namespace Go.Proofs.Ytdfcbbgboeonmaa
/- THE CELL 'sum', in the pinned program and in every row, IS THE sha256 OF THE DUMP (.gsa) THAT YtdfcbbgboeonmaaProg.lean LOADS. Nothing in Lean hashes anything: it is a label: what it is worth is what the hold of that sum in a sandbox is worth. -/
noncomputable def Try.pinned : Pinned := { name := "ytdfcbbgboeonmaa", sum := "139a4b1fd8e6c13a6b89b5dcf73c22a735f8e66458f063a5347d4b3673fa446c", checked := Try.checked }
namespace Rows
def none {H : Type} : Left H := { results := [], args := [] }

/-- 'laws.FnExactShowVol': WHATEVER THE INPUT: true; the input reads as it did. -/
def fnExactShowVolSpec : ChangeSpec := { name := "fnExactShowVol", fn := fun _ => fun
  | [d] => { results := [.lit (.bool true)], args := [d] }
  | _ => none }
def fnExactShowVolRow : OpenClaim := { program := "ytdfcbbgboeonmaa", sum := "139a4b1fd8e6c13a6b89b5dcf73c22a735f8e66458f063a5347d4b3673fa446c", func := "loop.example/g00757/laws.FnExactShowVol", spec := "fnExactShowVol", inPlace := ["internal/abi.NoEscape"], unfollowed := true, recurses := true, apart := false }
def FnExactShowVolSaid : Prop := fnExactShowVolRow.holds Try.pinned (OpenSpec.ofChange fnExactShowVolSpec)

/-- ITS FALSE NEIGHBOUR: 'it returns false'. Refute it at one input. -/
def fnExactShowVolWrong : ChangeSpec := { name := "fnExactShowVol", fn := fun _ => fun
  | [d] => { results := [.lit (.bool false)], args := [d] }
  | _ => none }
def FnExactShowVolWrongFalsely : Prop := fnExactShowVolRow.holds Try.pinned (OpenSpec.ofChange fnExactShowVolWrong)

/-- 'laws.FnExactReadVol': WHATEVER THE INPUT: true; the input reads as it did. -/
def fnExactReadVolSpec : ChangeSpec := { name := "fnExactReadVol", fn := fun _ => fun
  | [d] => { results := [.lit (.bool true)], args := [d] }
  | _ => none }
def fnExactReadVolRow : OpenClaim := { program := "ytdfcbbgboeonmaa", sum := "139a4b1fd8e6c13a6b89b5dcf73c22a735f8e66458f063a5347d4b3673fa446c", func := "loop.example/g00757/laws.FnExactReadVol", spec := "fnExactReadVol", unfollowed := true, recurses := true, apart := false }
def FnExactReadVolSaid : Prop := fnExactReadVolRow.holds Try.pinned (OpenSpec.ofChange fnExactReadVolSpec)

/-- ITS FALSE NEIGHBOUR: 'it returns false'. Refute it at one input. -/
def fnExactReadVolWrong : ChangeSpec := { name := "fnExactReadVol", fn := fun _ => fun
  | [d] => { results := [.lit (.bool false)], args := [d] }
  | _ => none }
def FnExactReadVolWrongFalsely : Prop := fnExactReadVolRow.holds Try.pinned (OpenSpec.ofChange fnExactReadVolWrong)

/-- 'laws.FnExactShowCall': WHATEVER THE INPUT: true; the input reads as it did. -/
def fnExactShowCallSpec : ChangeSpec := { name := "fnExactShowCall", fn := fun _ => fun
  | [d] => { results := [.lit (.bool true)], args := [d] }
  | _ => none }
def fnExactShowCallRow : OpenClaim := { program := "ytdfcbbgboeonmaa", sum := "139a4b1fd8e6c13a6b89b5dcf73c22a735f8e66458f063a5347d4b3673fa446c", func := "loop.example/g00757/laws.FnExactShowCall", spec := "fnExactShowCall", inPlace := ["internal/abi.NoEscape"], apart := false }
def FnExactShowCallSaid : Prop := fnExactShowCallRow.holds Try.pinned (OpenSpec.ofChange fnExactShowCallSpec)

/-- ITS FALSE NEIGHBOUR: 'it returns false'. Refute it at one input. -/
def fnExactShowCallWrong : ChangeSpec := { name := "fnExactShowCall", fn := fun _ => fun
  | [d] => { results := [.lit (.bool false)], args := [d] }
  | _ => none }
def FnExactShowCallWrongFalsely : Prop := fnExactShowCallRow.holds Try.pinned (OpenSpec.ofChange fnExactShowCallWrong)

/-- 'laws.FnExactReadCall': WHATEVER THE INPUT: true; the input reads as it did. -/
def fnExactReadCallSpec : ChangeSpec := { name := "fnExactReadCall", fn := fun _ => fun
  | [d] => { results := [.lit (.bool true)], args := [d] }
  | _ => none }
def fnExactReadCallRow : OpenClaim := { program := "ytdfcbbgboeonmaa", sum := "139a4b1fd8e6c13a6b89b5dcf73c22a735f8e66458f063a5347d4b3673fa446c", func := "loop.example/g00757/laws.FnExactReadCall", spec := "fnExactReadCall", unfollowed := true, recurses := true, apart := false }
def FnExactReadCallSaid : Prop := fnExactReadCallRow.holds Try.pinned (OpenSpec.ofChange fnExactReadCallSpec)

/-- ITS FALSE NEIGHBOUR: 'it returns false'. Refute it at one input. -/
def fnExactReadCallWrong : ChangeSpec := { name := "fnExactReadCall", fn := fun _ => fun
  | [d] => { results := [.lit (.bool false)], args := [d] }
  | _ => none }
def FnExactReadCallWrongFalsely : Prop := fnExactReadCallRow.holds Try.pinned (OpenSpec.ofChange fnExactReadCallWrong)

/-- 'laws.FnExactResultOk': WHATEVER THE INPUT: true; the input reads as it did. -/
def fnExactResultOkSpec : ChangeSpec := { name := "fnExactResultOk", fn := fun _ => fun
  | [d] => { results := [.lit (.bool true)], args := [d] }
  | _ => none }
def fnExactResultOkRow : OpenClaim := { program := "ytdfcbbgboeonmaa", sum := "139a4b1fd8e6c13a6b89b5dcf73c22a735f8e66458f063a5347d4b3673fa446c", func := "loop.example/g00757/laws.FnExactResultOk", spec := "fnExactResultOk", apart := false }
def FnExactResultOkSaid : Prop := fnExactResultOkRow.holds Try.pinned (OpenSpec.ofChange fnExactResultOkSpec)

/-- ITS FALSE NEIGHBOUR: 'it returns false'. Refute it at one input. -/
def fnExactResultOkWrong : ChangeSpec := { name := "fnExactResultOk", fn := fun _ => fun
  | [d] => { results := [.lit (.bool false)], args := [d] }
  | _ => none }
def FnExactResultOkWrongFalsely : Prop := fnExactResultOkRow.holds Try.pinned (OpenSpec.ofChange fnExactResultOkWrong)

/-- 'laws.FnExactShowResult': WHATEVER THE INPUT: true; the input reads as it did. -/
def fnExactShowResultSpec : ChangeSpec := { name := "fnExactShowResult", fn := fun _ => fun
  | [d] => { results := [.lit (.bool true)], args := [d] }
  | _ => none }
def fnExactShowResultRow : OpenClaim := { program := "ytdfcbbgboeonmaa", sum := "139a4b1fd8e6c13a6b89b5dcf73c22a735f8e66458f063a5347d4b3673fa446c", func := "loop.example/g00757/laws.FnExactShowResult", spec := "fnExactShowResult", apart := false }
def FnExactShowResultSaid : Prop := fnExactShowResultRow.holds Try.pinned (OpenSpec.ofChange fnExactShowResultSpec)

/-- ITS FALSE NEIGHBOUR: 'it returns false'. Refute it at one input. -/
def fnExactShowResultWrong : ChangeSpec := { name := "fnExactShowResult", fn := fun _ => fun
  | [d] => { results := [.lit (.bool false)], args := [d] }
  | _ => none }
def FnExactShowResultWrongFalsely : Prop := fnExactShowResultRow.holds Try.pinned (OpenSpec.ofChange fnExactShowResultWrong)

/- THE SECOND FORM. 'bulk': how many values and letters a reading holds, each counted each time it is reached (what is shared counts as often as it is met; a slice's spare places count too). A statement '..UptoSaid' is the law's where the arguments, and the package variables that the reading takes, are together of bulk at most 1048576: NARROWER than '..Said'. Prove '..Said' where nothing that the law and all that it calls make is longer than what came in: it says more and counts as full. Else prove '..UptoSaid'. A law counts once. -/
mutual
def uptoBulk {H : Type} : DataW H → Nat
  | .lit (.string bytes) => bytes.length + 1
  | .lit _ => 1
  | .nil => 1
  | .ptr d => uptoBulk d + 1
  | .slice elems spare => uptoBulkAll elems + uptoBulkAll spare + 1
  | .agg parts => uptoBulkAll parts + 1
  | .iface _ d => uptoBulk d + 1
  | .map entries => uptoBulkEntries entries + 1
  | .held _ => 1
def uptoBulkAll {H : Type} : List (DataW H) → Nat
  | [] => 0
  | d :: r => uptoBulk d + uptoBulkAll r
def uptoBulkEntries {H : Type} : List (Lit × DataW H) → Nat
  | [] => 0
  | x :: r => uptoBulkEntry x + uptoBulkEntries r
def uptoBulkEntry {H : Type} : Lit × DataW H → Nat
  | (.string bytes, d) => bytes.length + uptoBulk d + 1
  | (_, d) => uptoBulk d + 1
 end
def uptoSmall : (H : Type) → List (DataW H) → Bool := fun _ ds => decide (uptoBulkAll ds ≤ 1048576)
def OpenSpec.upto (s : _root_.Go.ChangeSpec) : _root_.Go.OpenSpec := { _root_.Go.OpenSpec.ofChange s with cond := some uptoSmall }

/-- 'laws.FnExactShowVol', WHERE WHAT IT READS IS OF BULK AT MOST 1048576: true; the input reads as it did. -/
def fnExactShowVolUptoRow : OpenClaim := { program := "ytdfcbbgboeonmaa", sum := "139a4b1fd8e6c13a6b89b5dcf73c22a735f8e66458f063a5347d4b3673fa446c", func := "loop.example/g00757/laws.FnExactShowVol", spec := "fnExactShowVol", inPlace := ["internal/abi.NoEscape"], unfollowed := true, recurses := true, apart := false, narrowed := true }
def FnExactShowVolUptoSaid : Prop := fnExactShowVolUptoRow.holds Try.pinned (OpenSpec.upto fnExactShowVolSpec)

/-- 'laws.FnExactReadVol', WHERE WHAT IT READS IS OF BULK AT MOST 1048576: true; the input reads as it did. -/
def fnExactReadVolUptoRow : OpenClaim := { program := "ytdfcbbgboeonmaa", sum := "139a4b1fd8e6c13a6b89b5dcf73c22a735f8e66458f063a5347d4b3673fa446c", func := "loop.example/g00757/laws.FnExactReadVol", spec := "fnExactReadVol", unfollowed := true, recurses := true, apart := false, narrowed := true }
def FnExactReadVolUptoSaid : Prop := fnExactReadVolUptoRow.holds Try.pinned (OpenSpec.upto fnExactReadVolSpec)

/-- 'laws.FnExactShowCall', WHERE WHAT IT READS IS OF BULK AT MOST 1048576: true; the input reads as it did. -/
def fnExactShowCallUptoRow : OpenClaim := { program := "ytdfcbbgboeonmaa", sum := "139a4b1fd8e6c13a6b89b5dcf73c22a735f8e66458f063a5347d4b3673fa446c", func := "loop.example/g00757/laws.FnExactShowCall", spec := "fnExactShowCall", inPlace := ["internal/abi.NoEscape"], apart := false, narrowed := true }
def FnExactShowCallUptoSaid : Prop := fnExactShowCallUptoRow.holds Try.pinned (OpenSpec.upto fnExactShowCallSpec)

/-- 'laws.FnExactReadCall', WHERE WHAT IT READS IS OF BULK AT MOST 1048576: true; the input reads as it did. -/
def fnExactReadCallUptoRow : OpenClaim := { program := "ytdfcbbgboeonmaa", sum := "139a4b1fd8e6c13a6b89b5dcf73c22a735f8e66458f063a5347d4b3673fa446c", func := "loop.example/g00757/laws.FnExactReadCall", spec := "fnExactReadCall", unfollowed := true, recurses := true, apart := false, narrowed := true }
def FnExactReadCallUptoSaid : Prop := fnExactReadCallUptoRow.holds Try.pinned (OpenSpec.upto fnExactReadCallSpec)

/-- 'laws.FnExactResultOk', WHERE WHAT IT READS IS OF BULK AT MOST 1048576: true; the input reads as it did. -/
def fnExactResultOkUptoRow : OpenClaim := { program := "ytdfcbbgboeonmaa", sum := "139a4b1fd8e6c13a6b89b5dcf73c22a735f8e66458f063a5347d4b3673fa446c", func := "loop.example/g00757/laws.FnExactResultOk", spec := "fnExactResultOk", apart := false, narrowed := true }
def FnExactResultOkUptoSaid : Prop := fnExactResultOkUptoRow.holds Try.pinned (OpenSpec.upto fnExactResultOkSpec)

/-- 'laws.FnExactShowResult', WHERE WHAT IT READS IS OF BULK AT MOST 1048576: true; the input reads as it did. -/
def fnExactShowResultUptoRow : OpenClaim := { program := "ytdfcbbgboeonmaa", sum := "139a4b1fd8e6c13a6b89b5dcf73c22a735f8e66458f063a5347d4b3673fa446c", func := "loop.example/g00757/laws.FnExactShowResult", spec := "fnExactShowResult", apart := false, narrowed := true }
def FnExactShowResultUptoSaid : Prop := fnExactShowResultUptoRow.holds Try.pinned (OpenSpec.upto fnExactShowResultSpec)

end Rows
end Go.Proofs.Ytdfcbbgboeonmaa
