/- What Changes comes to. -/
import Derived.Test.YtkilepoimocoeaaTake2
namespace Go.Proofs.Ytkilepoimocoeaa
open Go.RowKit
set_option linter.unusedVariables false
def eqE (a b : En) : Bool := a.t == b.t && decide (a.d = b.d)
theorem eqE_yes {a b : En} (h : eqE a b = true) : a = b := by
  obtain ⟨t, d⟩ := a
  obtain ⟨t', d'⟩ := b
  simp only [eqE, Bool.and_eq_true, beq_iff_eq, decide_eq_true_eq] at h
  rw [h.1, h.2]
/-- How many entries both begin with. -/
def alikeN : List En → List En → Nat
  | a :: A, b :: B => if eqE a b = true then alikeN A B + 1 else 0
  | _, _ => 0
theorem alikeN_le (A B : List En) : alikeN A B ≤ A.length ∧ alikeN A B ≤ B.length := by
  induction A generalizing B with
  | nil => cases B <;> simp [alikeN]
  | cons a A ih =>
    cases B with
    | nil => simp [alikeN]
    | cons b B =>
      simp only [alikeN]
      split
      · have := ih B; simp only [List.length_cons]; omega
      · omega
theorem alikeN_at (A B : List En) (j : Nat) (h1 : j < A.length) (h2 : j < B.length) : alikeN (A.drop j) (B.drop j) = if eqE A[j] B[j] = true then alikeN (A.drop (j + 1)) (B.drop (j + 1)) + 1 else 0 := by
  rw [List.drop_eq_getElem_cons h1, List.drop_eq_getElem_cons h2, alikeN]
theorem alikeN_end (A B : List En) (j : Nat) (h : ¬ (j < A.length ∧ j < B.length)) : alikeN (A.drop j) (B.drop j) = 0 := by
  by_cases h1 : j < A.length
  · have : B.drop j = [] := List.drop_eq_nil_of_le (by omega)
    rw [this]
    cases A.drop j <;> rfl
  · have : A.drop j = [] := List.drop_eq_nil_of_le (by omega)
    rw [this]
    cases B.drop j <;> rfl
def hardD (A B : Kp) : Bool := A.t != B.t || A.v != B.v
def snapD (A B : Kp) : Bool := !(A.si == B.si && A.st == B.st && decide (A.sd = B.sd))
def hardR (B : Kp) : Rc := ⟨1, B.t, 0, B.v, ⟨#[]⟩⟩
def snapR (B : Kp) : Rc := ⟨4, B.st, B.si, 0, B.sd⟩
def cutR (B : Kp) (k : Nat) : Rc := ⟨3, 0, B.si + k + 1, 0, ⟨#[]⟩⟩
def entR (B : Kp) (k : Nat) (e : En) : Rc := ⟨2, e.t, B.si + k + 1, 0, e.d⟩
def hardL (A B : Kp) : List Rc := if hardD A B = true then [hardR B] else []
def snapL (A B : Kp) : List Rc := if snapD A B = true then [snapR B] else []
def haveE (A B : Kp) : List En := if snapD A B = true then behL A.e (B.si - A.si) B.st else A.e
def cutL (B : Kp) (E : List En) : List Rc := if alikeN E B.e < E.length then [cutR B (alikeN E B.e)] else []
/-- The records of the entries from k on, n of them. -/
def entsL (B : Kp) (k : Nat) : Nat → List Rc
  | 0 => []
  | n + 1 => entsL B k n ++ [entR B (k + n) (B.e.getD (k + n) ⟨0, ⟨#[]⟩⟩)]
theorem entsL_len (B : Kp) (k n : Nat) : (entsL B k n).length = n := by
  induction n with
  | zero => rfl
  | succ n ih => simp [entsL, ih]
def headL (A B : Kp) : List Rc := hardL A B ++ snapL A B
def tailL (B : Kp) (E : List En) : List Rc := cutL B E ++ entsL B (alikeN E B.e) (B.e.length - alikeN E B.e)
def chL (A B : Kp) : List Rc := headL A B ++ tailL B (haveE A B)
def chB (A B : Kp) : Bool := keptB A && keptB B && (foldK A (chL A B)).isSome
def chR (A B : Kp) : List Rc := if chB A B = true then chL A B else []
/-- Where a way by records stands: those so far, whether each fitted, where they led. -/
structure Tr (A : Kp) (l : List Rc) (K : Kp) (f : Bool) : Prop where
  is : f = (foldK A l).isSome
  at_ : f = true → foldK A l = some K
  sm : Sm K
theorem Tr.zero {A : Kp} (h : Sm A) : Tr A [] A true := ⟨rfl, fun _ => rfl, h⟩
def trK (K : Kp) (f : Bool) (r : Rc) : Kp := if f = true then nextK K r else K
theorem Tr.add {A K : Kp} {l : List Rc} {f : Bool} (h : Tr A l K f) (r : Rc) : Tr A (l ++ [r]) (trK K f r) (f && goB K r) := by
  have hs := foldK_snoc A l r
  cases hf : f with
  | false =>
    have h1 := h.is
    rw [hf] at h1
    have h2 : foldK A l = none := by
      cases h3 : foldK A l with
      | none => rfl
      | some x => rw [h3] at h1; cases h1
    rw [h2] at hs
    refine ⟨?_, fun e => ?_, ?_⟩
    · rw [hs]; rfl
    · simp at e
    · simpa [trK] using h.sm
  | true =>
    have h2 := h.at_ hf
    rw [h2] at hs
    simp only [Option.bind_some] at hs
    cases hg : goB K r with
    | false =>
      rw [hg] at hs
      refine ⟨by rw [hs]; rfl, fun e => by simp at e, ?_⟩
      simp only [trK, if_true]
      exact h.sm.next
    | true =>
      rw [hg] at hs
      simp only [if_true] at hs
      refine ⟨by rw [hs]; rfl, fun _ => ?_, ?_⟩
      · rw [hs]; simp [trK, nextK, hg]
      · simp only [trK, if_true]; exact h.sm.next
/-- Behind the first records what is there is what the model looks at. -/
theorem foldK_one (A : Kp) (r : Rc) : foldK A [r] = if goB A r = true then some (stepK A r) else none := rfl
theorem foldK_two (A : Kp) (r s : Rc) : foldK A [r, s] = if goB A r = true then (if goB (stepK A r) s = true then some (stepK (stepK A r) s) else none) else none := rfl
theorem head_e {A B K : Kp} (h : foldK A (headL A B) = some K) : K.e = haveE A B := by
  unfold headL hardL snapL at h
  unfold haveE
  cases h1 : hardD A B with
  | true =>
    cases h2 : snapD A B with
    | true =>
      rw [h1, h2, if_pos rfl, if_pos rfl, List.singleton_append, foldK_two] at h
      rw [if_pos rfl]
      split at h
      · split at h
        · simp only [Option.some.injEq] at h
          subst h
          simp [stepK, snapR, hardR]
        · cases h
      · cases h
    | false =>
      rw [h1, h2, if_pos rfl, if_neg (by simp), List.append_nil, foldK_one] at h
      rw [if_neg (by simp)]
      split at h
      · simp only [Option.some.injEq] at h
        subst h
        simp [stepK, hardR]
      · cases h
  | false =>
    cases h2 : snapD A B with
    | true =>
      rw [h1, h2, if_neg (by simp), if_pos rfl, List.nil_append, foldK_one] at h
      rw [if_pos rfl]
      split at h
      · simp only [Option.some.injEq] at h
        subst h
        simp [stepK, snapR]
      · cases h
    | false =>
      rw [if_neg (by simp)]
      have h' : foldK A [] = some K := by rw [← h, h1, h2]; rfl
      simp only [foldK, Option.some.injEq] at h'
      rw [h']
theorem ch_same {A B K : Kp} {f : Bool} (h : Tr A (headL A B) K f) : (foldK A (headL A B ++ tailL B K.e)).isSome = (foldK A (chL A B)).isSome ∧ ((foldK A (headL A B ++ tailL B K.e)).isSome = true → headL A B ++ tailL B K.e = chL A B) := by
  unfold chL
  cases hf : f with
  | true =>
    have := head_e (h.at_ hf)
    rw [this]
    exact ⟨rfl, fun _ => rfl⟩
  | false =>
    have h1 := h.is
    rw [hf] at h1
    have h2 : foldK A (headL A B) = none := by
      cases h3 : foldK A (headL A B) with
      | none => rfl
      | some x => rw [h3] at h1; cases h1
    rw [foldK_append, foldK_append, h2]
    exact ⟨rfl, fun e => by simp at e⟩
theorem headL_len (A B : Kp) : (headL A B).length ≤ 2 := by
  unfold headL hardL snapL
  split <;> split <;> simp
theorem tailL_len (B : Kp) (E : List En) (h : B.e.length ≤ 60) : (tailL B E).length ≤ 61 := by
  unfold tailL cutL
  have := (alikeN_le E B.e).2
  split <;> simp [entsL_len] <;> omega
end Go.Proofs.Ytkilepoimocoeaa
