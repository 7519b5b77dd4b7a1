/- The laws' marks over a volume; the bounds of a right volume. -/
import Derived.Test.YtegdogdlohoheaaGreatZMarkH
import Derived.Test.YtegdogdlohoheaaGreatVSpecE
namespace Go.Proofs.YtegdogdlohoheaaGreat
open Go.RowKit
set_option linter.unusedVariables false
theorem nodeB_names {L : List Nd} {n : Nd} (h : nodeB L n = true) : n.names.length ≤ 12 := by
 unfold nodeB at h
 simp only [Bool.and_eq_true] at h
 obtain ⟨_, h⟩ := h
 split at h
 ·simp only [Bool.and_eq_true, plainB, decide_eq_true_eq] at h
  omega
 ·split at h
  ·simp only [Bool.and_eq_true, plainB, decide_eq_true_eq] at h
   omega
  ·split at h
   ·simp only [Bool.and_eq_true, decide_eq_true_eq] at h
    omega
   ·cases h
theorem volB_bd {next : Int} {L : List Nd} (h : volB next L = true) : L.length ≤ 24 ∧ ∀ n ∈ L, n.names.length ≤ 12 := by
 unfold volB at h
 simp only [Bool.and_eq_true] at h
 obtain ⟨⟨⟨⟨⟨⟨_, h2⟩, _⟩, h4⟩, _⟩, _⟩, _⟩ := h
 refine ⟨?_, fun n hn => nodeB_names (indB_mem L h4 n hn)⟩
 have : (1 : Int) ≤ (L.length : Int) ∧ (L.length : Int) ≤ 24 := by simpa [inB] using h2
 omega
end Go.Proofs.YtegdogdlohoheaaGreat
