/- Sessions: how they lie, when a list of them is right. -/
import Derived.Test.YtegdogdlohoheaaGreatTRes
namespace Go.Proofs.YtegdogdlohoheaaGreat
open Go.RowKit
set_option linter.unusedVariables false
/-- A session. -/
structure Se where
  c : Int
  s : Int
  i : Int
  r : Re
def seE : Enc Se := ⟨5, fun a => [.int .i64 a.c, .int .i64 a.s, .int .i64 a.i, .int .i64 a.r.c, .string a.r.d], ⟨0, 0, 0, ⟨0, ⟨#[]⟩⟩⟩, fun _ => rfl, by decide, by intro a u hu; simp at hu; rcases hu with rfl | rfl | rfl | rfl | rfl <;> rfl⟩
abbrev seA (a : Se) : Array Value := #[.int .i64 a.c, .int .i64 a.s, .int .i64 a.i, .int .i64 a.r.c, .string a.r.d]
abbrev seV (a : Se) : Value := .agg (seA a)
theorem seE_cell {w : World} {N : Nat} {v : Value} {L : List Se} (h : Row seE w N v L) : ∃ a cap, v = .slice a L.length cap ∧ L.length ≤ cap ∧ cap ≤ 9223372036854775807 ∧
    (L ≠ [] → ∃ b off, a = some ⟨b, off, none⟩ ∧ b < N ∧ ∀ j (h : j < L.length), w.cell? ⟨b, off + j * 5, none⟩ = some (.int .i64 L[j].c) ∧ w.cell? ⟨b, off + j * 5 + 1, none⟩ = some (.int .i64 L[j].s) ∧ w.cell? ⟨b, off + j * 5 + 2, none⟩ = some (.int .i64 L[j].i) ∧ w.cell? ⟨b, off + j * 5 + 3, none⟩ = some (.int .i64 L[j].r.c) ∧ w.cell? ⟨b, off + j * 5 + 4, none⟩ = some (.string L[j].r.d)) := by
  obtain ⟨a, cap, h0, h1, h2, h3⟩ := h
  refine ⟨a, cap, h0, h1, h2, fun hL => ?_⟩
  obtain ⟨b, off, ha, hb, hc⟩ := h3 hL
  refine ⟨b, off, ha, hb, fun j hj => ⟨?_, ?_, ?_, ?_, ?_⟩⟩
  · have := hc j hj 0 (by decide)
    simpa [seE] using this
  · have := hc j hj 1 (by decide)
    simpa [seE] using this
  · have := hc j hj 2 (by decide)
    simpa [seE] using this
  · have := hc j hj 3 (by decide)
    simpa [seE] using this
  · have := hc j hj 4 (by decide)
    simpa [seE] using this
/-- Is a session right but for its client? -/
def sesB (a : Se) : Bool := inB a.s 1 1000000 && (inB a.i 1 100000 && resB a.r)
/-- Are the sessions right, the clients from m on? -/
def sessFrom (m : Int) : List Se → Bool
  | [] => true
  | a :: l => inB a.c m 3 && sesB a && sessFrom (a.c + 1) l
theorem sessFrom_drop (m : Int) (l : List Se) (j : Nat) (h : j < l.length) : sessFrom m (l.drop j) = (inB l[j].c m 3 && sesB l[j] && sessFrom (l[j].c + 1) (l.drop (j + 1))) := by
  rw [List.drop_eq_getElem_cons h, sessFrom]
theorem sessFrom_end (m : Int) (l : List Se) : sessFrom m (l.drop l.length) = true := by
  rw [List.drop_length]; rfl
theorem sessFrom_len {m : Int} {l : List Se} (h : sessFrom m l = true) (hm : m ≤ 4) : (l.length : Int) ≤ 4 - m := by
  induction l generalizing m with
  | nil => simp; omega
  | cons a l ih =>
    simp only [sessFrom, Bool.and_eq_true] at h
    obtain ⟨⟨h1, _⟩, h3⟩ := h
    have h4 : m ≤ a.c ∧ a.c ≤ 3 := by simpa [inB] using h1
    have := ih h3 (by omega)
    simp only [List.length_cons, Int.natCast_add, Int.natCast_one]
    omega
theorem sessFrom_long {l : List Se} (h : ¬ l.length ≤ 3) : sessFrom 1 l = false := by
  cases h2 : sessFrom 1 l with
  | false => rfl
  | true => have := sessFrom_len h2 (by omega); omega
end Go.Proofs.YtegdogdlohoheaaGreat
