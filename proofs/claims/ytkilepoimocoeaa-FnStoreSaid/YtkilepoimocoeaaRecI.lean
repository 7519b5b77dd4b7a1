/- impl.RecOk. -/
import Derived.Test.YtkilepoimocoeaaRecIA
import Derived.Test.YtkilepoimocoeaaRecIB
import Derived.Test.YtkilepoimocoeaaRecIC
namespace Go.Proofs.Ytkilepoimocoeaa
open Go.RowKit
set_option linter.unusedVariables false
theorem calls_bool {f : FuncId} {args : Array Value} {w : World} {a b : Bool} (h : Calls Try.prog f args w fun e w' => e = .returned (.bool a) ∧ Below w.heap.size w w') (e : a = b) : Calls Try.prog f args w fun e w' => e = .returned (.bool b) ∧ Below w.heap.size w w' := by rw [← e]; exact h
theorem recB_iff (r : Rc) : recB r = true ↔ recP r := ⟨recB_out, recB_yes⟩
theorem size_mt : (ByteArray.mk #[]).size = 0 := rfl
theorem inb1 (t v : Int) : inbB ⟨1, t, 0, v, ⟨#[]⟩⟩ = recB ⟨1, t, 0, v, ⟨#[]⟩⟩ := by
  show hardB t v = _
  rw [Bool.eq_iff_iff, recB_iff]
  unfold recP
  dsimp only
  rw [size_mt]
  simp only [hardB, inB, Bool.and_eq_true, decide_eq_true_eq, true_and, eq_self, and_true]
  omega
theorem inb2 (t i : Int) (d : ByteArray) : inbB ⟨2, t, i, 0, d⟩ = recB ⟨2, t, i, 0, d⟩ := by
  show ((inB t 1 100000 && decide ((d.size : Int) ≤ 1600)) && inB i 1 100000) = _
  rw [Bool.eq_iff_iff, recB_iff]
  unfold recP
  dsimp only
  simp only [inB, Bool.and_eq_true, decide_eq_true_eq, true_and, eq_self]
  omega
theorem inb3 (i : Int) : inbB ⟨3, 0, i, 0, ⟨#[]⟩⟩ = recB ⟨3, 0, i, 0, ⟨#[]⟩⟩ := by
  show inB i 1 100000 = _
  rw [Bool.eq_iff_iff, recB_iff]
  unfold recP
  dsimp only
  rw [size_mt]
  simp only [inB, Bool.and_eq_true, decide_eq_true_eq, true_and, eq_self, and_true]
  omega
theorem inb4 (t i : Int) (d : ByteArray) : inbB ⟨4, t, i, 0, d⟩ = recB ⟨4, t, i, 0, d⟩ := by
  show ((inB t 1 100000 && decide ((d.size : Int) ≤ 20000)) && inB i 1 100000) = _
  rw [Bool.eq_iff_iff, recB_iff]
  unfold recP
  dsimp only
  simp only [inB, Bool.and_eq_true, decide_eq_true_eq, true_and, eq_self]
  omega
theorem recOk_any (r : Rc) (w : World) : Calls Try.prog 24 #[rcV r] w fun e w' => e = .returned (.bool (recB r)) ∧ Below w.heap.size w w' := by
  by_cases h1 : r.k = 1
  · obtain ⟨k, t, i, v, d⟩ := r
    obtain rfl : k = 1 := h1
    by_cases hi : i = 0
    · subst hi
      by_cases hd : d.size = 0
      · obtain rfl := empty_of hd
        exact calls_bool (recOk_1y t v w) (inb1 t v)
      · refine calls_bool (recOk_1d t v d w hd) (recB_no ?_).symm
        simp only [recP]; omega
    · refine calls_bool (recOk_1i t i v d w hi) (recB_no ?_).symm
      simp only [recP]; omega
  by_cases h2 : r.k = 2
  · obtain ⟨k, t, i, v, d⟩ := r
    obtain rfl : k = 2 := h2
    by_cases hv : v = 0
    · subst hv
      exact calls_bool (recOk_2y t i d w) (inb2 t i d)
    · refine calls_bool (recOk_2v t i v d w hv) (recB_no ?_).symm
      simp only [recP]; omega
  by_cases h3 : r.k = 3
  · obtain ⟨k, t, i, v, d⟩ := r
    obtain rfl : k = 3 := h3
    by_cases ht : t = 0
    · subst ht
      by_cases hv : v = 0
      · subst hv
        by_cases hd : d.size = 0
        · obtain rfl := empty_of hd
          exact calls_bool (recOk_3y i w) (inb3 i)
        · refine calls_bool (recOk_3d i d w hd) (recB_no ?_).symm
          simp only [recP]; omega
      · refine calls_bool (recOk_3v i v d w hv) (recB_no ?_).symm
        simp only [recP]; omega
    · refine calls_bool (recOk_3t t i v d w ht) (recB_no ?_).symm
      simp only [recP]; omega
  by_cases h4 : r.k = 4
  · obtain ⟨k, t, i, v, d⟩ := r
    obtain rfl : k = 4 := h4
    by_cases hv : v = 0
    · subst hv
      exact calls_bool (recOk_4y t i d w) (inb4 t i d)
    · refine calls_bool (recOk_4v t i v d w hv) (recB_no ?_).symm
      simp only [recP]; omega
  · exact calls_bool (recOk_no r w h1 h2 h3 h4) (recB_no (by unfold recP; omega)).symm
end Go.Proofs.Ytkilepoimocoeaa
