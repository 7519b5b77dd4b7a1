/- l3Fits. -/
import Derived.Test.YtkilepoimocoeaaFits
namespace Go.Proofs.Ytkilepoimocoeaa
open Go.RowKit
set_option linter.unusedVariables false
/-- Small enough for the sentence's steps, right or not. -/
def Sx (K : Kp) : Prop := -1000 ≤ K.si ∧ K.si ≤ 1000000 ∧ K.e.length ≤ 1000
theorem Sm.x {K : Kp} (h : Sm K) : Sx K := by
  unfold Sm at h
  unfold Sx
  omega
set_option maxRecDepth 100000 in
set_option maxHeartbeats 4000000 in
theorem l3Fits_134 (K : Kp) (a : Option Addr) (cap : Nat) (r : Rc) (w : World) (hs : Sx K) (h2 : ¬ r.k = 2) :
    Calls Try.prog 78 #[kpV K (.slice a K.e.length cap), rcV r] w fun e w' => e = .returned (.bool (fitsB K r)) ∧ Below w.heap.size w w' := by
  obtain ⟨k, t, i, v, d⟩ := r
  obtain ⟨s1, s2, s3⟩ := hs
  have h2' : (k == 2) = false := by simpa using h2
  rcases kinds k with rfl | rfl | rfl | rfl | ⟨h1, h2, h3, h4⟩
  · go_enter Try.func78, Try.ntmps78
    go_wp2
    all_goals go_ret
    all_goals refine ⟨ret_bool ?_, ((Below.refl _ _).alloc (Nat.le_refl _) _).alloc (by simp) _⟩
    all_goals
      rw [Bool.eq_iff_iff]
      simp [fitsB, fitsP]
      try omega
  · exact absurd rfl h2
  · go_enter Try.func78, Try.ntmps78
    go_wp2
    all_goals go_ret
    all_goals refine ⟨ret_bool ?_, ((Below.refl _ _).alloc (Nat.le_refl _) _).alloc (by simp) _⟩
    all_goals
      rw [Bool.eq_iff_iff]
      simp [fitsB, fitsP]
      try omega
  · go_enter Try.func78, Try.ntmps78
    go_wp2
    all_goals go_ret
    all_goals refine ⟨ret_bool ?_, ((Below.refl _ _).alloc (Nat.le_refl _) _).alloc (by simp) _⟩
    all_goals
      rw [Bool.eq_iff_iff]
      simp [fitsB, fitsP]
      try omega
  · go_enter Try.func78, Try.ntmps78
    go_wp2
    all_goals go_ret
    refine ⟨ret_bool ?_, ((Below.refl _ _).alloc (Nat.le_refl _) _).alloc (by simp) _⟩
    simp at h1 h2 h3 h4
    rw [fitsB_no]
    simp only [fitsP]
    omega
end Go.Proofs.Ytkilepoimocoeaa
