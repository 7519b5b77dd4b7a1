/- Calls: how one lies in memory; what it is to be right; CallOk on both sides. -/
import Derived.Test.YtdnngbdkmdphoaaTLeaf
import Derived.Deep.Cut
namespace Go.Proofs.Ytdnngbdkmdphoaa
open Go.RowKit
set_option linter.unusedVariables false
/-- A call. -/
structure Ca where
  k : Int
  p : ByteArray
  to : ByteArray
  n : Int
  m : Int
  d : ByteArray
def caC (c : Ca) : List Value := [.int .i64 c.k, .string c.p, .string c.to, .int .i64 c.n, .int .i64 c.m, .string c.d]
@[reducible] def caV (c : Ca) : Value := .agg #[.int .i64 c.k, .string c.p, .string c.to, .int .i64 c.n, .int .i64 c.m, .string c.d]
def callP (c : Ca) : Prop := ((1 ≤ c.k ∧ c.k ≤ 22) ∧ c.p.size ≤ 60 ∧ c.to.size ≤ 60 ∧ c.d.size ≤ 64 ∧ (-1000000 ≤ c.n ∧ c.n ≤ 1000000) ∧ (-1000000 ≤ c.m ∧ c.m ≤ 1000000)) ∧ (c.to.size = 0 ∨ c.k = 9 ∨ c.k = 10 ∨ c.k = 12) ∧ (c.d.size = 0 ∨ c.k = 5 ∨ c.k = 6)
instance (c : Ca) : Decidable (callP c) := by unfold callP; infer_instance
def callB (c : Ca) : Bool := decide (callP c)
theorem toList_go (s : ByteArray) : s.toList = s.data.toList := by rw [ByteArray.toList_eq]
theorem empty_of {d : ByteArray} (h : d.size = 0) : d = ⟨#[]⟩ := by
  obtain ⟨a⟩ := d
  congr
  exact Array.eq_empty_of_size_eq_zero h
theorem bs_mt {d : ByteArray} (h : d.size = 0) : d.toList.isEmpty = true := by rw [empty_of h, toList_go]; rfl
theorem size_of_nil {d : ByteArray} (h : d.toList = []) : d.size = 0 := by
  rw [toList_go] at h
  have := congrArg List.length h
  simpa using this
theorem bs_ne {d : ByteArray} (h : ¬ d.size = 0) : d.toList.isEmpty = false := by
  cases h2 : d.toList.isEmpty with
  | true => exact absurd (size_of_nil (List.isEmpty_iff.1 h2)) h
  | false => rfl
theorem callB_iff (c : Ca) : callB c = true ↔ callP c := decide_eq_true_iff
theorem callB_yes {c : Ca} (h : callP c) : true = callB c := ((callB_iff c).2 h).symm
theorem callB_no {c : Ca} (h : ¬ callP c) : false = callB c := by
  cases hb : callB c with
  | false => rfl
  | true => exact absurd ((callB_iff c).1 hb) h
end Go.Proofs.Ytdnngbdkmdphoaa
