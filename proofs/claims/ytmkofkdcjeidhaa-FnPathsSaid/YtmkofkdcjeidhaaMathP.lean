/- What FnPaths asks: cleaning twice is cleaning once; what is below goes on. -/
import Derived.Test.YtmkofkdcjeidhaaMath
namespace Go.Proofs.Ytmkofkdcjeidhaa

/-- A part: not empty, no 47 in it. -/
def Part (p : List UInt8) : Prop := p ≠ [] ∧ ∀ c ∈ p, c ≠ 47
theorem pAux_parts (r cur : List UInt8) (hc : ∀ c ∈ cur, c ≠ 47) : ∀ p ∈ pAux cur r, Part p ∧ ∀ c ∈ p, c ∈ cur ∨ c ∈ r := by
  induction r generalizing cur with
  | nil =>
    intro p hp
    unfold pAux at hp
    split at hp
    · cases hp
    · simp at hp
      subst hp
      exact ⟨⟨by assumption, hc⟩, fun c h => .inl h⟩
  | cons x r ih =>
    intro p hp
    unfold pAux at hp
    split at hp
    · split at hp
      · obtain ⟨h1, h2⟩ := ih [] (by simp) p hp
        exact ⟨h1, fun c h => by have := h2 c h; simp at this ⊢; exact .inr (.inr this)⟩
      · rcases List.mem_cons.1 hp with rfl | hp
        · exact ⟨⟨by assumption, hc⟩, fun c h => .inl h⟩
        · obtain ⟨h1, h2⟩ := ih [] (by simp) p hp
          exact ⟨h1, fun c h => by have := h2 c h; simp at this ⊢; exact .inr (.inr this)⟩
    · rename_i hx
      obtain ⟨h1, h2⟩ := ih (cur ++ [x]) (by
        intro c h
        rcases List.mem_append.1 h with h | h
        · exact hc c h
        · simp at h; subst h; exact hx) p hp
      refine ⟨h1, fun c h => ?_⟩
      have := h2 c h
      simp at this ⊢
      rcases this with (h | h) | h
      · exact .inl h
      · exact .inr (.inl h)
      · exact .inr (.inr h)
theorem parts_part {l : List UInt8} : ∀ p ∈ partsL l, Part p := fun p hp => (pAux_parts l [] (by simp) p hp).1
theorem parts_in {l : List UInt8} : ∀ p ∈ partsL l, ∀ c ∈ p, c ∈ l := fun p hp c hc => by
  have := (pAux_parts l [] (by simp) p hp).2 c hc
  simpa using this

theorem pAux_run (p t cur : List UInt8) (hp : ∀ c ∈ p, c ≠ 47) : pAux cur (p ++ t) = pAux (cur ++ p) t := by
  induction p generalizing cur with
  | nil => simp
  | cons x p ih =>
    have hx : x ≠ 47 := hp x (by simp)
    rw [List.cons_append, pAux_other _ hx, ih _ (fun c h => hp c (by simp [h]))]
    simp
theorem parts_cat (C : List (List UInt8)) (hC : ∀ p ∈ C, Part p) : partsL (cat C) = C := by
  induction C with
  | nil => rfl
  | cons p r ih =>
    have hp := hC p (by simp)
    have hr := ih (fun q hq => hC q (by simp [hq]))
    unfold partsL at hr ⊢
    rw [cat, pAux_slash_nil, pAux_run _ _ _ hp.2, List.nil_append]
    cases r with
    | nil => rw [cat, pAux_end hp.1]
    | cons q r =>
      rw [cat] at hr ⊢
      rw [pAux_slash hp.1, ← pAux_slash_nil, hr]
theorem parts_join (C : List (List UInt8)) (hC : ∀ p ∈ C, Part p) : partsL (joinL C) = C := by
  unfold joinL
  split
  · rename_i h; subst h; rfl
  · exact parts_cat C hC

/-- What is left holds no points and is made of the parts. -/
theorem cleanFrom_mem (ps st : List (List UInt8)) : ∀ p ∈ cleanFrom st ps, p ∈ st ∨ (p ∈ ps ∧ p ≠ [46] ∧ p ≠ [46, 46]) := by
  induction ps generalizing st with
  | nil => intro p hp; exact .inl hp
  | cons q r ih =>
    intro p hp
    rcases ih (stepC st q) p hp with h | ⟨h1, h2⟩
    · unfold stepC at h
      split at h
      · exact .inl h
      · split at h
        · exact .inl (List.dropLast_subset _ h)
        · rcases List.mem_append.1 h with h | h
          · exact .inl h
          · simp at h
            subst h
            exact .inr ⟨by simp, by assumption, by assumption⟩
    · exact .inr ⟨by simp [h1], h2⟩
theorem cleanL_mem {ps : List (List UInt8)} : ∀ p ∈ cleanL ps, p ∈ ps ∧ p ≠ [46] ∧ p ≠ [46, 46] := by
  intro p hp
  rcases cleanFrom_mem ps [] p hp with h | h
  · cases h
  · exact h
theorem cleanFrom_same (C st : List (List UInt8)) (hC : ∀ p ∈ C, p ≠ [46] ∧ p ≠ [46, 46]) : cleanFrom st C = st ++ C := by
  induction C generalizing st with
  | nil => simp [cleanFrom]
  | cons p r ih =>
    have hp := hC p (by simp)
    have e : stepC st p = st ++ [p] := by rw [stepC, if_neg hp.1, if_neg hp.2]
    show cleanFrom (stepC st p) r = _
    rw [e, ih _ (fun q hq => hC q (by simp [hq]))]
    simp
theorem cleanL_same {C : List (List UInt8)} (hC : ∀ p ∈ C, p ≠ [46] ∧ p ≠ [46, 46]) : cleanL C = C := by
  unfold cleanL
  rw [cleanFrom_same C [] hC]
  rfl

/-- The parts of a path, cleaned. -/
def cleanP (l : List UInt8) : List (List UInt8) := cleanL (partsL l)
theorem cleanP_part {l : List UInt8} : ∀ p ∈ cleanP l, Part p := fun p hp => parts_part p (cleanL_mem p hp).1
theorem cleanP_good {l : List UInt8} : ∀ p ∈ cleanP l, p ≠ [46] ∧ p ≠ [46, 46] := fun p hp => (cleanL_mem p hp).2

theorem pathB_parts {l : List UInt8} (h : pathB l = true) : (1 ≤ l.length ∧ l.length ≤ 60) ∧ l.getD 0 0 = 47 ∧ l.all okB = true := by
  simp only [pathB, Bool.and_eq_true, decide_eq_true_eq] at h
  exact ⟨h.1.1, h.1.2, h.2⟩
theorem cat_bytes (C : List (List UInt8)) : ∀ c ∈ cat C, c = 47 ∨ ∃ p ∈ C, c ∈ p := by
  induction C with
  | nil => intro c hc; cases hc
  | cons p r ih =>
    intro c hc
    rw [cat] at hc
    rcases List.mem_cons.1 hc with rfl | hc
    · exact .inl rfl
    · rcases List.mem_append.1 hc with hc | hc
      · exact .inr ⟨p, by simp, hc⟩
      · rcases ih c hc with h | ⟨q, hq, h⟩
        · exact .inl h
        · exact .inr ⟨q, by simp [hq], h⟩
theorem okB47 : okB 47 = true := by decide
theorem path_len {l : List UInt8} (h : pathB l = true) : (cat (cleanP l)).length ≤ 60 := by
  obtain ⟨⟨h1, h2⟩, h3, _⟩ := pathB_parts h
  cases l with
  | nil => simp at h1
  | cons x r =>
    simp at h3
    subst h3
    have e1 := cat_cleanFrom (partsL (47 :: r)) []
    have e2 := cat_pAux r []
    have e3 : partsL (47 :: r) = pAux [] r := pAux_slash_nil r
    rw [e3] at e1
    unfold cleanP cleanL
    rw [e3]
    simp [cat] at e1 e2 h2
    omega
theorem join_ok {l : List UInt8} (h : pathB l = true) : pathB (joinL (cleanP l)) = true := by
  obtain ⟨_, _, h4⟩ := pathB_parts h
  have hl := path_len h
  unfold joinL
  split
  · decide
  · rename_i hne
    have e1 : 1 ≤ (cat (cleanP l)).length ∧ (cat (cleanP l)).getD 0 0 = 47 := by
      cases hc : cleanP l with
      | nil => exact absurd hc hne
      | cons p r => simp [cat]
    simp only [pathB, Bool.and_eq_true, decide_eq_true_eq]
    refine ⟨⟨⟨e1.1, hl⟩, e1.2⟩, ?_⟩
    rw [List.all_eq_true]
    intro c hc
    rcases cat_bytes _ c hc with rfl | ⟨p, hp, hcp⟩
    · exact okB47
    · exact List.all_eq_true.1 h4 c (parts_in p (cleanL_mem p hp).1 c hcp)
/-- Cleaning twice. -/
theorem clean_clean {l : List UInt8} (h : pathB l = true) : clean (clean l) = clean l := by
  have e : clean l = joinL (cleanP l) := by simp [clean, h, cleanP]
  rw [e]
  have h2 := join_ok h
  have e2 : clean (joinL (cleanP l)) = joinL (cleanL (partsL (joinL (cleanP l)))) := by simp [clean, h2]
  rw [e2, parts_join _ cleanP_part, cleanL_same cleanP_good]
theorem clean_path {l : List UInt8} (h : pathB l = true) : pathB (clean l) = true ∧ partsL (clean l) = cleanP l ∧ clean l = joinL (cleanP l) := by
  have e : clean l = joinL (cleanP l) := by simp [clean, h, cleanP]
  rw [e]
  exact ⟨join_ok h, parts_join _ cleanP_part, rfl⟩
theorem clean_nil {l : List UInt8} (h : pathB l = true) : clean l ≠ [] := by
  have := (pathB_len (clean_path h).1).1
  intro e
  rw [e] at this
  simp at this

theorem below_self {l : List UInt8} (h : pathB l = true) : belowL l l = true := by simp [belowL, h, belowC]
theorem below_root {l : List UInt8} (h : pathB l = true) : belowL l [47] = true := by
  have h1 : pathB [47] = true := by decide
  have h2 : clean [47] = [47] := by decide
  simp [belowL, h, h1, h2, belowC]
theorem below_trans {a b c : List UInt8} (h1 : belowL a b = true) (h2 : belowL b c = true) : belowL a c = true := by
  simp only [belowL, Bool.and_eq_true] at h1 h2 ⊢
  obtain ⟨⟨ha, hb⟩, h1⟩ := h1
  obtain ⟨⟨_, hc⟩, h2⟩ := h2
  refine ⟨⟨ha, hc⟩, ?_⟩
  have hz := clean_nil hc
  generalize clean a = X at *
  generalize clean b = Y at *
  generalize clean c = Z at *
  simp only [belowC, Bool.or_eq_true, decide_eq_true_eq, List.isPrefixOf_iff_prefix] at h1 h2 ⊢
  rcases h2 with (h2 | h2) | h2
  · exact .inl (.inl h2)
  · subst h2; exact h1
  · rcases h1 with (h1 | h1) | h1
    · subst h1
      have := h2.length_le
      simp at this
      exact absurd this hz
    · subst h1; exact .inr h2
    · exact .inr (h2.trans ((List.prefix_append Y [47]).trans h1))

end Go.Proofs.Ytmkofkdcjeidhaa
