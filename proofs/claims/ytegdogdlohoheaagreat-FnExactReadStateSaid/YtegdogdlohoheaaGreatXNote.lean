/- Notes: how they lie, when a list of them is right; is x from a to b? -/
import Derived.Test.YtegdogdlohoheaaGreatVName
namespace Go.Proofs.YtegdogdlohoheaaGreat
open Go.RowKit
set_option linter.unusedVariables false
/-- A note. -/
structure Nt where
  i : Int
  c : Int
  s : Int
  k : Int
  d : Int
def ntE : Enc Nt := ⟨5, fun a => [.int .i64 a.i, .int .i64 a.c, .int .i64 a.s, .int .i64 a.k, .int .i64 a.d], ⟨0, 0, 0, 0, 0⟩, fun _ => rfl, by decide, by intro a u hu; simp at hu; rcases hu with rfl | rfl | rfl | rfl | rfl <;> rfl⟩
abbrev ntA (a : Nt) : Array Value := #[.int .i64 a.i, .int .i64 a.c, .int .i64 a.s, .int .i64 a.k, .int .i64 a.d]
abbrev ntV (a : Nt) : Value := .agg (ntA a)
theorem ntE_cell {w : World} {N : Nat} {v : Value} {L : List Nt} (h : Row ntE w N v L) : ∃ a cap, v = .slice a L.length cap ∧ L.length ≤ cap ∧ cap ≤ 9223372036854775807 ∧
    (L ≠ [] → ∃ b off, a = some ⟨b, off, none⟩ ∧ b < N ∧ ∀ j (h : j < L.length), w.cell? ⟨b, off + j * 5, none⟩ = some (.int .i64 L[j].i) ∧ w.cell? ⟨b, off + j * 5 + 1, none⟩ = some (.int .i64 L[j].c) ∧ w.cell? ⟨b, off + j * 5 + 2, none⟩ = some (.int .i64 L[j].s) ∧ w.cell? ⟨b, off + j * 5 + 3, none⟩ = some (.int .i64 L[j].k) ∧ w.cell? ⟨b, off + j * 5 + 4, none⟩ = some (.int .i64 L[j].d)) := by
  obtain ⟨a, cap, h0, h1, h2, h3⟩ := h
  refine ⟨a, cap, h0, h1, h2, fun hL => ?_⟩
  obtain ⟨b, off, ha, hb, hc⟩ := h3 hL
  refine ⟨b, off, ha, hb, fun j hj => ⟨?_, ?_, ?_, ?_, ?_⟩⟩
  · have := hc j hj 0 (by decide)
    simpa [ntE] using this
  · have := hc j hj 1 (by decide)
    simpa [ntE] using this
  · have := hc j hj 2 (by decide)
    simpa [ntE] using this
  · have := hc j hj 3 (by decide)
    simpa [ntE] using this
  · have := hc j hj 4 (by decide)
    simpa [ntE] using this
/-- Is a note right but for its number? -/
def noteB (a : Nt) : Bool := inB a.c 1 3 && (inB a.s 1 1000000 && (inB a.k 1 22 && inB a.d 0 200))
/-- Are the notes right, the numbers from m on? -/
def auditFrom (m : Int) : List Nt → Bool
  | [] => true
  | a :: l => inB a.i m 100000 && noteB a && auditFrom a.i l
def auditB (l : List Nt) : Bool := decide (l.length ≤ 20) && auditFrom 1 l
theorem auditB_long {l : List Nt} (h : ¬ l.length ≤ 20) : auditB l = false := by simp [auditB, h]
theorem auditB_from {l : List Nt} (h : l.length ≤ 20) : auditB l = auditFrom 1 l := by simp [auditB, h]
theorem auditFrom_drop (m : Int) (l : List Nt) (j : Nat) (h : j < l.length) : auditFrom m (l.drop j) = (inB l[j].i m 100000 && noteB l[j] && auditFrom l[j].i (l.drop (j + 1))) := by
  rw [List.drop_eq_getElem_cons h, auditFrom]
theorem auditFrom_end (m : Int) (l : List Nt) : auditFrom m (l.drop l.length) = true := by
  rw [List.drop_length]; rfl
theorem inB_of' {x a b : Int} (h : inB x a b = true) : a ≤ x ∧ x ≤ b := by simpa [inB] using h
theorem inB_not {x a b : Int} (h : inB x a b = false) : ¬ (a ≤ x ∧ x ≤ b) := by
  intro h2; rw [inB_true h2] at h; cases h
end Go.Proofs.YtegdogdlohoheaaGreat
