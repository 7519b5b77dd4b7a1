/- Variables that hold creds and inodes: a block and its row. -/
import Derived.Test.YtbbckkdinlladaaPLawB
namespace Go.Proofs.Ytbbckkdinlladaa
open Go.RowKit
set_option linter.unusedVariables false
/-- Block b holds the cred c, its row lies at v. -/
structure VC (u : World) (b : Nat) (c : Cr) (v : Value) : Prop where
  hi : b < u.heap.size
  cell : ∀ o, u.cell? ⟨b, o, none⟩ = (#[.int .i64 c.u, .int .i64 c.g, v] : Array Value)[o]?
  row : Row intE u u.heap.size v c.l
theorem VC.kept {u u' : World} {b : Nat} {c : Cr} {v : Value} (h : VC u b c v) (hb : Below u.heap.size u u') : VC u' b c v := ⟨Nat.lt_of_lt_of_le h.hi hb.size, keepC hb h.hi h.cell, (h.row.kept hb).up hb.size⟩
/-- Block b holds the inode n, its row lies at v. -/
structure VN (u : World) (b : Nat) (n : Nd) (v : Value) : Prop where
  hi : b < u.heap.size
  cell : ∀ o, u.cell? ⟨b, o, none⟩ = (ndA n v)[o]?
  row : Row diE u u.heap.size v n.names
theorem VN.kept {u u' : World} {b : Nat} {n : Nd} {v : Value} (h : VN u b n v) (hb : Below u.heap.size u u') : VN u' b n v := ⟨Nat.lt_of_lt_of_le h.hi hb.size, keepC hb h.hi h.cell, (h.row.kept hb).up hb.size⟩
theorem New.row {α : Type} {E : Enc α} {T : TypeId} {w w' : World} {v : Value} {L : List α} (h : New E T w w' v L) : Row E w' w'.heap.size v L := h.own.rowAll
theorem toCred_at (c : Cr) (v : Value) (b : Nat) (u : World) (h : VC u b c v) (hl : c.l.length ≤ 1048576) :
    Calls Try.prog 14 #[crV c v] u fun e u' => ∃ a cap, e = .returned (crV c (.slice a c.l.length cap)) ∧ Row intE u' u'.heap.size (.slice a c.l.length cap) c.l ∧ Below u.heap.size u u' := by
  refine (toCred_any c v u.heap.size u (Nat.le_refl _) h.row hl).mono ?_
  rintro e u' ⟨v', rfl, o, b'⟩
  obtain ⟨a, cap, rfl⟩ := o.slice
  exact ⟨a, cap, rfl, o.rowAll, b'⟩
theorem toInode_at (n : Nd) (v : Value) (b : Nat) (u : World) (h : VN u b n v) (hl : n.names.length ≤ 1048576) :
    Calls Try.prog 21 #[ndV n v] u fun e u' => ∃ a cap, e = .returned (ndV n (.slice a n.names.length cap)) ∧ Row diE u' u'.heap.size (.slice a n.names.length cap) n.names ∧ Below u.heap.size u u' := by
  refine (toInode_any n v u.heap.size u (Nat.le_refl _) h.row hl).mono ?_
  rintro e u' ⟨v', rfl, o, b'⟩
  obtain ⟨a, cap, rfl⟩ := o.slice
  exact ⟨a, cap, rfl, o.rowAll, b'⟩
theorem Row.on {α : Type} {E : Enc α} {u u' : World} {v : Value} {L : List α} (h : Row E u u.heap.size v L) (hb : Below u.heap.size u u') : Row E u' u'.heap.size v L := (h.kept hb).up hb.size
end Go.Proofs.Ytbbckkdinlladaa
