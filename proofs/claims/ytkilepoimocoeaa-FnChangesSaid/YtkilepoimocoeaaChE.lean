/- Where the records of Changes lead: to the other Kept. -/
import Derived.Test.YtkilepoimocoeaaChM
namespace Go.Proofs.Ytkilepoimocoeaa
set_option linter.unusedVariables false
theorem eqE_out {a b : En} (h : eqE a b = true) : a = b := by
  obtain ⟨t, d⟩ := a
  obtain ⟨t2, d2⟩ := b
  simp only [eqE, Bool.and_eq_true, decide_eq_true_eq, beq_iff_eq] at h
  rw [h.1, h.2]
theorem eqE_self (a : En) : eqE a a = true := by simp [eqE]
theorem alikeN_take : ∀ (A B : List En), A.take (alikeN A B) = B.take (alikeN A B)
  | [], B => by cases B <;> simp [alikeN]
  | a :: A, [] => by simp [alikeN]
  | a :: A, b :: B => by
    unfold alikeN
    split
    · rename_i h
      rw [List.take_succ_cons, List.take_succ_cons, eqE_out h, alikeN_take A B]
    · simp
theorem alikeN_self : ∀ (A : List En), alikeN A A = A.length
  | [] => by simp [alikeN]
  | a :: A => by
    unfold alikeN
    rw [if_pos (eqE_self a), alikeN_self A]
    simp
theorem chL_self (B : Kp) : chL B B = [] := by
  have h1 : hardD B B = false := by simp [hardD]
  have h2 : snapD B B = false := by simp [snapD]
  unfold chL headL hardL snapL haveE tailL cutL
  rw [h1, h2]
  simp [alikeN_self, entsL]
theorem chB_self (B : Kp) : chB B B = keptB B := by
  unfold chB
  rw [chL_self]
  simp [foldK]
/-- Behind the first two records all but the entries is as in B. -/
theorem head_all {A B K : Kp} (h : foldK A (headL A B) = some K) : K = ⟨B.t, B.v, B.si, B.st, B.sd, haveE A B⟩ := by
  have he := head_e h
  have key : K.t = B.t ∧ K.v = B.v ∧ K.si = B.si ∧ K.st = B.st ∧ K.sd = B.sd := by
    unfold headL hardL snapL at h
    cases h1 : hardD A B with
    | true =>
      cases h2 : snapD A B with
      | true =>
        rw [h1, h2, if_pos rfl, if_pos rfl, List.singleton_append, foldK_two] at h
        split at h
        · split at h
          · simp only [Option.some.injEq] at h
            subst h
            simp [stepK, snapR, hardR]
          · cases h
        · cases h
      | false =>
        rw [h1, h2, if_pos rfl, if_neg (by simp), List.append_nil, foldK_one] at h
        simp only [snapD, Bool.not_eq_false', Bool.and_eq_true, beq_iff_eq, decide_eq_true_eq] at h2
        split at h
        · simp only [Option.some.injEq] at h
          subst h
          simp [stepK, hardR, h2.1.1, h2.1.2, h2.2]
        · cases h
    | false =>
      simp only [hardD, Bool.or_eq_false_iff, bne_eq_false_iff_eq] at h1
      cases h2 : snapD A B with
      | true =>
        have hh : hardD A B = false := by simp [hardD, h1.1, h1.2]
        rw [hh, h2, if_neg (by simp), if_pos rfl, List.nil_append, foldK_one] at h
        split at h
        · simp only [Option.some.injEq] at h
          subst h
          simp [stepK, snapR, h1.1, h1.2]
        · cases h
      | false =>
        have hh : hardD A B = false := by simp [hardD, h1.1, h1.2]
        have h' : foldK A [] = some K := by rw [← h, hh, h2]; rfl
        simp only [snapD, Bool.not_eq_false', Bool.and_eq_true, beq_iff_eq, decide_eq_true_eq] at h2
        simp only [foldK, Option.some.injEq] at h'
        subst h'
        exact ⟨h1.1, h1.2, h2.1.1, h2.1.2, h2.2⟩
  obtain ⟨t, v, si, st, sd, e⟩ := K
  obtain ⟨k1, k2, k3, k4, k5⟩ := key
  simp only at k1 k2 k3 k4 k5 he
  subst k1 k2 k3 k4 k5 he
  rfl
theorem ents_end {B K : Kp} {k : Nat} : ∀ {n : Nat} {K2 : Kp}, K.e.length = k → K.si = B.si → foldK K (entsL B k n) = some K2 → K2 = { K with e := K.e ++ (List.range n).map fun i => B.e.getD (k + i) ⟨0, ⟨#[]⟩⟩ } := by
  intro n
  induction n with
  | zero => intro K2 _ _ h; simp only [entsL, foldK, Option.some.injEq] at h; subst h; simp
  | succ n ih =>
    intro K2 hk hs h
    rw [entsL, foldK_snoc] at h
    cases h1 : foldK K (entsL B k n) with
    | none => rw [h1] at h; cases h
    | some K1 =>
      rw [h1, Option.bind_some] at h
      have h2 := ih hk hs h1
      split at h
      · simp only [Option.some.injEq] at h
        subst h
        rw [h2]
        simp [stepK, entR, List.range_succ]
      · cases h
/-- The records lead to B. -/
theorem ch_end {A B K : Kp} (h : foldK A (chL A B) = some K) : K = B := by
  unfold chL at h
  rw [foldK_append] at h
  cases h1 : foldK A (headL A B) with
  | none => rw [h1] at h; cases h
  | some K1 =>
    rw [h1, Option.bind_some] at h
    have hK1 := head_all h1
    generalize haveE A B = E at h hK1
    have hle := alikeN_le E B.e
    have htk := alikeN_take E B.e
    unfold tailL cutL at h
    generalize alikeN E B.e = k at h hle htk
    have key : ∃ K2 : Kp, K2 = ⟨B.t, B.v, B.si, B.st, B.sd, B.e.take k⟩ ∧ foldK K2 (entsL B k (B.e.length - k)) = some K := by
      by_cases hc : k < E.length
      · rw [if_pos hc, foldK_append, foldK_one] at h
        split at h
        · rw [Option.bind_some] at h
          refine ⟨_, ?_, h⟩
          rw [hK1]
          have e1 : (B.si + (k : Int) + 1 - B.si - 1).toNat = k := by omega
          simp [stepK, cutR, e1, htk]
        · cases h
      · rw [if_neg hc, List.nil_append] at h
        refine ⟨K1, ?_, h⟩
        rw [hK1, ← htk, List.take_of_length_le (by omega)]
    obtain ⟨K2, hK2, h2⟩ := key
    have hl : K2.e.length = k := by rw [hK2]; simp; omega
    have h3 := ents_end hl (by rw [hK2]) h2
    rw [h3, hK2]
    obtain ⟨t, v, si, st, sd, e⟩ := B
    simp only at hle ⊢
    congr 1
    apply List.ext_getElem?
    intro i
    rw [List.getElem?_append]
    by_cases hi : i < k
    · have : i < (e.take k).length := by simp; omega
      rw [if_pos this, List.getElem?_take_of_lt hi]
    · have : ¬ i < (e.take k).length := by simp; omega
      have hlk : (e.take k).length = k := by simp; omega
      rw [if_neg this, hlk, List.getElem?_map]
      by_cases hi2 : i < e.length
      · rw [List.getElem?_range (by omega), Option.map_some, List.getElem?_eq_getElem hi2, List.getD_eq_getElem?_getD, show k + (i - k) = i by omega, List.getElem?_eq_getElem hi2]
        rfl
      · rw [List.getElem?_eq_none (by simp; omega), List.getElem?_eq_none (by omega)]
        rfl
/-- Each record of a way that leads somewhere is right. -/
theorem fold_rec {K K2 : Kp} {l : List Rc} (h : foldK K l = some K2) : ∀ r ∈ l, recB r = true := by
  induction l generalizing K with
  | nil => intro r hr; cases hr
  | cons a l ih =>
    intro r hr
    unfold foldK at h
    split at h
    · rename_i hg
      rcases List.mem_cons.1 hr with rfl | hr
      · simp only [goB, Bool.and_eq_true] at hg
        exact hg.1
      · exact ih h r hr
    · cases h
end Go.Proofs.Ytkilepoimocoeaa
