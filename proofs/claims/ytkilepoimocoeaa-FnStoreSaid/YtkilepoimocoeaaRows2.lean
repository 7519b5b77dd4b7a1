/- Rows of entries and of records: a place is stored; rows of zeros. -/
import Derived.Test.YtkilepoimocoeaaCopyS
import Derived.Laws.MakeOwn
namespace Go.Proofs.Ytkilepoimocoeaa
open Go.RowKit
set_option linter.unusedVariables false

theorem enF_set (M : List En) (j : Nat) (e : En) (h : j < M.length) : enF (M.set j e) = ((enF M).set (j * 2) (.int .i64 e.t)).set (j * 2 + 1) (.string e.d) := by
  apply List.ext_getElem?
  intro q
  by_cases hq : q < M.length * 2
  · have hd : q / 2 < M.length := by omega
    have e1 := enF_at (M.set j e) (q / 2) (by simpa using hd) (q % 2) (Nat.mod_lt _ (by omega))
    have e2 := enF_at M (q / 2) hd (q % 2) (Nat.mod_lt _ (by omega))
    rw [show q / 2 * 2 + q % 2 = q by omega] at e1 e2
    rw [e1]
    simp only [List.getElem?_set, List.length_set, enF_len, List.getElem_set]
    have hr : q % 2 < 2 := Nat.mod_lt _ (by omega)
    by_cases hj : j = q / 2
    · subst hj
      have hq2 : q = q / 2 * 2 + q % 2 := by omega
      generalize q % 2 = r at *
      generalize q / 2 = p at *
      subst hq2
      match r, hr with
      | 0, _ => first | (simp [enC]; done) | (simp [enC]; omega)
      | 1, _ => simp [enC, hq]
    · rw [e2]
      have hn : ∀ i, i < 2 → ¬ j * 2 + i = q := by omega
      have h0 := hn 0 (by omega)
      have h1 := hn 1 (by omega)
      simp only [Nat.add_zero] at h0
      simp only [h0, h1, hj, if_false]
  · rw [List.getElem?_eq_none (by rw [enF_len, List.length_set]; omega), List.getElem?_eq_none (by simp only [List.length_set]; rw [enF_len]; omega)]
def enFZ : En := ⟨0, ⟨#[]⟩⟩
theorem enF_rep (n : Nat) : (madeCells (Value.agg #[.int .i64 0, .string ⟨#[]⟩]).cells (n * 2)).toList = enF (List.replicate n enFZ) := by
  apply List.ext_getElem?
  intro q
  by_cases hq : q < n * 2
  · have e1 := enF_at (List.replicate n enFZ) (q / 2) (by simp; omega) (q % 2) (Nat.mod_lt _ (by omega))
    rw [show q / 2 * 2 + q % 2 = q by omega] at e1
    rw [e1, List.getElem_replicate]
    have hr : q % 2 < 2 := Nat.mod_lt _ (by omega)
    simp only [madeCells, Array.toList_map, List.getElem?_map, Array.toList_range, List.getElem?_range hq, Option.map_some]
    have hsz : (Value.agg #[.int .i64 0, .string ⟨#[]⟩]).cells.size = 2 := rfl
    rw [hsz]
    generalize q % 2 = r at *
    match r, hr with
    | 0, _ => rfl
    | 1, _ => rfl
  · rw [List.getElem?_eq_none (by rw [Array.length_toList, size_madeCells]; omega), List.getElem?_eq_none (by rw [enF_len]; simp; omega)]
/-- The first j of L, then zeros. -/
def enFMix (L : List En) (j : Nat) : List En := L.take j ++ List.replicate (L.length - j) enFZ
theorem enFMix_len (L : List En) (j : Nat) (h : j ≤ L.length) : (enFMix L j).length = L.length := by simp [enFMix]; omega
theorem enFMix_zero (L : List En) : enFMix L 0 = List.replicate L.length enFZ := by simp [enFMix]
theorem enFMix_all (L : List En) : enFMix L L.length = L := by simp [enFMix]
theorem enFMix_step (L : List En) (j : Nat) (h : j < L.length) : (enFMix L j).set j L[j] = enFMix L (j + 1) := by
  unfold enFMix
  obtain ⟨m, hm⟩ : ∃ m, L.length - j = m + 1 := ⟨L.length - j - 1, by omega⟩
  have hl : (L.take j).length = j := by simp; omega
  rw [List.set_append_right _ _ (by omega), hl, Nat.sub_self, hm, List.replicate_succ, List.set_cons_zero, show L.length - (j + 1) = m by omega, List.take_succ_eq_append_getElem h, List.append_assoc]
  rfl
theorem OwnE.store {w : World} {base g cap n j : Nat} {M : List En} (h : OwnE w base (.slice (some ⟨g, 0, none⟩) n cap) M) (hn : M.length = n) (hj : j < n) (e : En) :
    OwnE ((w.setCell ⟨g, j * 2, none⟩ (.int .i64 e.t)).setCell ⟨g, j * 2 + 1, none⟩ (.string e.d)) base (.slice (some ⟨g, 0, none⟩) n cap) (M.set j e) := by
  subst hn
  unfold OwnE
  rw [enF_set M j e hj, List.length_set]
  have h1 := (World.ownsRow.stored h (j * 2) (.int .i64 e.t)).1
  have h2 := (World.ownsRow.stored h1 (j * 2 + 1) (.string e.d)).1
  exact h2
theorem OwnE.has {w : World} {base g cap n j i : Nat} {M : List En} (h : OwnE w base (.slice (some ⟨g, 0, none⟩) n cap) M) (hn : M.length = n) (hj : j < n) (hi : i < 2) : ∃ u, w.cell? ⟨g, j * 2 + i, none⟩ = some u := by
  rw [h.at j (by omega) i hi, List.getElem?_eq_getElem (by rw [enC_len]; exact hi)]
  exact ⟨_, rfl⟩
theorem OwnE.frozen {w : World} {base g cap n : Nat} {M : List En} (h : OwnE w base (.slice (some ⟨g, 0, none⟩) n cap) M) (hn : M.length = n) (o : Nat) : w.frozen? ⟨g, o, none⟩ = false := by subst hn; exact World.ownsRow.frozenAt h o

theorem rcF_set (M : List Rc) (j : Nat) (e : Rc) (h : j < M.length) : rcF (M.set j e) = (((((rcF M).set (j * 5) (.int .i64 e.k)).set (j * 5 + 1) (.int .i64 e.t)).set (j * 5 + 2) (.int .i64 e.i)).set (j * 5 + 3) (.int .i64 e.v)).set (j * 5 + 4) (.string e.d) := by
  apply List.ext_getElem?
  intro q
  by_cases hq : q < M.length * 5
  · have hd : q / 5 < M.length := by omega
    have e1 := rcF_at (M.set j e) (q / 5) (by simpa using hd) (q % 5) (Nat.mod_lt _ (by omega))
    have e2 := rcF_at M (q / 5) hd (q % 5) (Nat.mod_lt _ (by omega))
    rw [show q / 5 * 5 + q % 5 = q by omega] at e1 e2
    rw [e1]
    simp only [List.getElem?_set, List.length_set, rcF_len, List.getElem_set]
    have hr : q % 5 < 5 := Nat.mod_lt _ (by omega)
    by_cases hj : j = q / 5
    · subst hj
      have hq2 : q = q / 5 * 5 + q % 5 := by omega
      generalize q % 5 = r at *
      generalize q / 5 = p at *
      subst hq2
      match r, hr with
      | 0, _ => first | (simp [rcC]; done) | (simp [rcC]; omega)
      | 1, _ => simp [rcC, hq]
      | 2, _ => simp [rcC, hq]
      | 3, _ => simp [rcC, hq]
      | 4, _ => simp [rcC, hq]
    · rw [e2]
      have hn : ∀ i, i < 5 → ¬ j * 5 + i = q := by omega
      have h0 := hn 0 (by omega)
      have h1 := hn 1 (by omega)
      have h2 := hn 2 (by omega)
      have h3 := hn 3 (by omega)
      have h4 := hn 4 (by omega)
      simp only [Nat.add_zero] at h0
      simp only [h0, h1, h2, h3, h4, hj, if_false]
  · rw [List.getElem?_eq_none (by rw [rcF_len, List.length_set]; omega), List.getElem?_eq_none (by simp only [List.length_set]; rw [rcF_len]; omega)]
def rcFZ : Rc := ⟨0, 0, 0, 0, ⟨#[]⟩⟩
theorem rcF_rep (n : Nat) : (madeCells (Value.agg #[.int .i64 0, .int .i64 0, .int .i64 0, .int .i64 0, .string ⟨#[]⟩]).cells (n * 5)).toList = rcF (List.replicate n rcFZ) := by
  apply List.ext_getElem?
  intro q
  by_cases hq : q < n * 5
  · have e1 := rcF_at (List.replicate n rcFZ) (q / 5) (by simp; omega) (q % 5) (Nat.mod_lt _ (by omega))
    rw [show q / 5 * 5 + q % 5 = q by omega] at e1
    rw [e1, List.getElem_replicate]
    have hr : q % 5 < 5 := Nat.mod_lt _ (by omega)
    simp only [madeCells, Array.toList_map, List.getElem?_map, Array.toList_range, List.getElem?_range hq, Option.map_some]
    have hsz : (Value.agg #[.int .i64 0, .int .i64 0, .int .i64 0, .int .i64 0, .string ⟨#[]⟩]).cells.size = 5 := rfl
    rw [hsz]
    generalize q % 5 = r at *
    match r, hr with
    | 0, _ => rfl
    | 1, _ => rfl
    | 2, _ => rfl
    | 3, _ => rfl
    | 4, _ => rfl
  · rw [List.getElem?_eq_none (by rw [Array.length_toList, size_madeCells]; omega), List.getElem?_eq_none (by rw [rcF_len]; simp; omega)]
/-- The first j of L, then zeros. -/
def rcFMix (L : List Rc) (j : Nat) : List Rc := L.take j ++ List.replicate (L.length - j) rcFZ
theorem rcFMix_len (L : List Rc) (j : Nat) (h : j ≤ L.length) : (rcFMix L j).length = L.length := by simp [rcFMix]; omega
theorem rcFMix_zero (L : List Rc) : rcFMix L 0 = List.replicate L.length rcFZ := by simp [rcFMix]
theorem rcFMix_all (L : List Rc) : rcFMix L L.length = L := by simp [rcFMix]
theorem rcFMix_step (L : List Rc) (j : Nat) (h : j < L.length) : (rcFMix L j).set j L[j] = rcFMix L (j + 1) := by
  unfold rcFMix
  obtain ⟨m, hm⟩ : ∃ m, L.length - j = m + 1 := ⟨L.length - j - 1, by omega⟩
  have hl : (L.take j).length = j := by simp; omega
  rw [List.set_append_right _ _ (by omega), hl, Nat.sub_self, hm, List.replicate_succ, List.set_cons_zero, show L.length - (j + 1) = m by omega, List.take_succ_eq_append_getElem h, List.append_assoc]
  rfl
theorem OwnR.store {w : World} {base g cap n j : Nat} {M : List Rc} (h : OwnR w base (.slice (some ⟨g, 0, none⟩) n cap) M) (hn : M.length = n) (hj : j < n) (e : Rc) :
    OwnR (((((w.setCell ⟨g, j * 5, none⟩ (.int .i64 e.k)).setCell ⟨g, j * 5 + 1, none⟩ (.int .i64 e.t)).setCell ⟨g, j * 5 + 2, none⟩ (.int .i64 e.i)).setCell ⟨g, j * 5 + 3, none⟩ (.int .i64 e.v)).setCell ⟨g, j * 5 + 4, none⟩ (.string e.d)) base (.slice (some ⟨g, 0, none⟩) n cap) (M.set j e) := by
  subst hn
  unfold OwnR
  rw [rcF_set M j e hj, List.length_set]
  have h1 := (World.ownsRow.stored h (j * 5) (.int .i64 e.k)).1
  have h2 := (World.ownsRow.stored h1 (j * 5 + 1) (.int .i64 e.t)).1
  have h3 := (World.ownsRow.stored h2 (j * 5 + 2) (.int .i64 e.i)).1
  have h4 := (World.ownsRow.stored h3 (j * 5 + 3) (.int .i64 e.v)).1
  have h5 := (World.ownsRow.stored h4 (j * 5 + 4) (.string e.d)).1
  exact h5
theorem OwnR.has {w : World} {base g cap n j i : Nat} {M : List Rc} (h : OwnR w base (.slice (some ⟨g, 0, none⟩) n cap) M) (hn : M.length = n) (hj : j < n) (hi : i < 5) : ∃ u, w.cell? ⟨g, j * 5 + i, none⟩ = some u := by
  rw [h.at j (by omega) i hi, List.getElem?_eq_getElem (by rw [rcC_len]; exact hi)]
  exact ⟨_, rfl⟩
theorem OwnR.frozen {w : World} {base g cap n : Nat} {M : List Rc} (h : OwnR w base (.slice (some ⟨g, 0, none⟩) n cap) M) (hn : M.length = n) (o : Nat) : w.frozen? ⟨g, o, none⟩ = false := by subst hn; exact World.ownsRow.frozenAt h o
end Go.Proofs.Ytkilepoimocoeaa
