/-
  DERIVED. GIVEN WITH THE SEED: THE CARDS: each row of YtkmhednmgoolgabDoorRows.lean that lists a variable, with what it lists TIED to the program's text (the seventh form; the later family's looks); each row that meets fmt, with fmt's text TOLD by the authors' own Lean function (tested against real Go, not proved from fmt's source: count such statements apart). THE CARD IS WHAT COUNTS. Prove the row's statement (the work); the ties are given (YtkmhednmgoolgabDoorTie.lean); close each card by the builder's one call (the guide's Derived/Test/ToyasCard.lean, 'card_holds'). Laid BY PROGRAM, IN A SANDBOX (cutbox-door.mjs). By AI agents, Wed Nov 11 2026. No macro, syntax, notation, axiom, sorry.
-/
import Derived.Test.YtkmhednmgoolgabDoorRows
import GoSem.ClaimSeven
namespace Go.Proofs.YtkmhednmgoolgabDoor
namespace Rows

/-- THE TIED CARD OF 'laws.FnExactShowAudit'. -/
def fnExactShowAuditCard : Claim7 := { stood := { row := fnExactShowAuditRow, standIns := [], harness := (true, "37ed8276e533dbe723632600bc20427bff76f6c3d88f7ec8ef372705ec6c1be6"), looks := false }, kinds := [], alts := [], laidByText := true, laidKinds := [.data, .data, .data], laidTests := true, laidLooks := .later }
def FnExactShowAuditCardSaid : Prop := Claim7.holds Tryd.pinned (.plain (OpenSpec.ofChange fnExactShowAuditSpec)) fnExactShowAuditCard

/-- THE SECOND FORM's CARD OF 'laws.FnExactShowAudit'. -/
def fnExactShowAuditUptoCard : Claim7 := { stood := { row := fnExactShowAuditUptoRow, standIns := [], harness := (true, "37ed8276e533dbe723632600bc20427bff76f6c3d88f7ec8ef372705ec6c1be6"), looks := false }, kinds := [], alts := [], laidByText := true, laidKinds := [.data, .data, .data], laidTests := true, laidLooks := .later }
def FnExactShowAuditUptoCardSaid : Prop := Claim7.holds Tryd.pinned (.plain (OpenSpec.upto fnExactShowAuditSpec)) fnExactShowAuditUptoCard
end Rows
end Go.Proofs.YtkmhednmgoolgabDoor
