/- What chapter 5's functions answer. -/
import Derived.Test.YtmkegmndcbpblaaGreatDoorGRow
namespace Go.Proofs.YtmkegmndcbpblaaGreatDoor
open Go.RowKit
set_option linter.unusedVariables false
def intE : Enc Int := ⟨1, fun x => [.int .i64 x], 0, fun _ => rfl, by decide, by simp [Value.oneCell']⟩
structure Di where
 nm : ByteArray
 id : Int
def diE : Enc Di := ⟨2, fun d => [.string d.nm, .int .i64 d.id], ⟨⟨#[]⟩, 0⟩, fun _ => rfl, by decide, by intro a u hu; simp at hu; rcases hu with rfl | rfl <;> rfl⟩
structure Cr where
 u : Int
 g : Int
 l : List Int
structure Nd where
 id : Int
 kind : Int
 mode : Int
 uid : Int
 gid : Int
 data : ByteArray
 names : List Di
 maxb : Int
 maxi : Int
abbrev crV (c : Cr) (v : Value) : Value := .agg #[.int .i64 c.u, .int .i64 c.g, v]
abbrev ndA (n : Nd) (v : Value) : Array Value := #[.int .i64 n.id, .int .i64 n.kind, .int .i64 n.mode, .int .i64 n.uid, .int .i64 n.gid, .string n.data, v, .int .i64 n.maxb, .int .i64 n.maxi]
abbrev ndV (n : Nd) (v : Value) : Value := .agg (ndA n v)
theorem intE_cell {w : World} {N : Nat} {v : Value} {L : List Int} (h : Row intE w N v L) : ∃ a cap, v = .slice a L.length cap ∧ L.length ≤ cap ∧ cap ≤ 9223372036854775807 ∧
  (L ≠ [] → ∃ b off, a = some ⟨b, off, none⟩ ∧ b < N ∧ ∀ j (h : j < L.length), w.cell? ⟨b, off + j, none⟩ = some (.int .i64 L[j])) := by
 obtain ⟨a, cap, h0, h1, h2, h3⟩ := h
 refine ⟨a, cap, h0, h1, h2, fun hL => ?_⟩
 obtain ⟨b, off, ha, hb, hc⟩ := h3 hL
 refine ⟨b, off, ha, hb, fun j hj => ?_⟩
 have := hc j hj 0 (by decide)
 simpa [intE] using this
theorem diE_cell {w : World} {N : Nat} {v : Value} {L : List Di} (h : Row diE w N v L) : ∃ a cap, v = .slice a L.length cap ∧ L.length ≤ cap ∧ cap ≤ 9223372036854775807 ∧
  (L ≠ [] → ∃ b off, a = some ⟨b, off, none⟩ ∧ b < N ∧ ∀ j (h : j < L.length), w.cell? ⟨b, off + j * 2, none⟩ = some (.string L[j].nm) ∧ w.cell? ⟨b, off + j * 2 + 1, none⟩ = some (.int .i64 L[j].id)) := by
 obtain ⟨a, cap, h0, h1, h2, h3⟩ := h
 refine ⟨a, cap, h0, h1, h2, fun hL => ?_⟩
 obtain ⟨b, off, ha, hb, hc⟩ := h3 hL
 refine ⟨b, off, ha, hb, fun j hj => ⟨?_, ?_⟩⟩
 ·have := hc j hj 0 (by decide)
  simpa [diE] using this
 ·have := hc j hj 1 (by decide)
  simpa [diE] using this
/-- Is x from a to b? -/
def inB (x a b : Int) : Bool := decide (a ≤ x) && decide (x ≤ b)
theorem inB_true {x a b : Int} (h : a ≤ x ∧ x ≤ b) : inB x a b = true := by simp [inB, h]
theorem inB_false {x a b : Int} (h : ¬ (a ≤ x ∧ x ≤ b)) : inB x a b = false := by
 simp only [inB, Bool.and_eq_false_iff, decide_eq_false_iff_not]; omega
def uidB (x : Int) : Bool := inB x 0 1000
/-- Who calls is right. -/
def credB (c : Cr) : Bool := uidB c.u && uidB c.g && decide (c.l.length ≤ 4) && c.l.all uidB
def memB (l : List Int) (x : Int) : Bool := l.any (fun y => decide (y = x))
def inGB (c : Cr) (x : Int) : Bool := credB c && (decide (c.g = x) || memB c.l x)
theorem memB_take_succ (l : List Int) (x : Int) (j : Nat) (h : j < l.length) : memB (l.take (j + 1)) x = (memB (l.take j) x || decide (l[j] = x)) := by
 unfold memB; rw [List.take_succ_eq_append_getElem h]; simp only [List.any_append, List.any_cons, List.any_nil, Bool.or_false]
theorem memB_drop (l : List Int) (x : Int) (j : Nat) (h : j < l.length) : memB (l.drop j) x = (decide (l[j] = x) || memB (l.drop (j + 1)) x) := by
 unfold memB; rw [List.drop_eq_getElem_cons h, List.any_cons]
theorem all_drop (l : List Int) (j : Nat) (h : j < l.length) : (l.drop j).all uidB = (uidB l[j] && (l.drop (j + 1)).all uidB) := by
 rw [List.drop_eq_getElem_cons h, List.all_cons]
end Go.Proofs.YtmkegmndcbpblaaGreatDoor
