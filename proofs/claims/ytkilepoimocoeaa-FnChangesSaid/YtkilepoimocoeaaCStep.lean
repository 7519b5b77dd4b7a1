/- A right Kept that takes a record that fits stays right. -/
import Derived.Test.YtkilepoimocoeaaChE
import Derived.Test.YtkilepoimocoeaaAfter
import Derived.Test.YtkilepoimocoeaaKStepI
namespace Go.Proofs.Ytkilepoimocoeaa
open Go.RowKit
set_option linter.unusedVariables false
theorem entsB_cons {lo top : Int} {e : En} {r : List En} : entsB lo top (e :: r) = true ↔ (lo ≤ e.t ∧ e.t ≤ top ∧ e.d.size ≤ 1600) ∧ entsB e.t top r = true := by
  simp only [entsB, Bool.and_eq_true, decide_eq_true_eq]
theorem entsB_top {top top' : Int} (ht : top ≤ top') : ∀ (L : List En) (lo : Int), entsB lo top L = true → entsB lo top' L = true
  | [], lo, h => rfl
  | e :: r, lo, h => by
    rw [entsB_cons] at h ⊢
    exact ⟨⟨h.1.1, by omega, h.1.2.2⟩, entsB_top ht r e.t h.2⟩
theorem entsB_take {top : Int} : ∀ (L : List En) (lo : Int) (n : Nat), entsB lo top L = true → entsB lo top (L.take n) = true
  | [], lo, n, h => by simp [entsB]
  | e :: r, lo, 0, h => rfl
  | e :: r, lo, n + 1, h => by
    rw [List.take_succ_cons]
    rw [entsB_cons] at h ⊢
    exact ⟨h.1, entsB_take r e.t n h.2⟩
theorem entsB_drop {top : Int} : ∀ (L : List En) (lo : Int) (n : Nat) (hn : n < L.length), entsB lo top L = true → entsB L[n].t top (L.drop (n + 1)) = true
  | [], lo, n, hn, h => by simp at hn
  | e :: r, lo, 0, hn, h => by
    rw [entsB_cons] at h
    exact h.2
  | e :: r, lo, n + 1, hn, h => by
    rw [entsB_cons] at h
    have := entsB_drop r e.t n (by simpa using hn) h.2
    simpa using this
def lastLo (lo : Int) (L : List En) : Int := match L.getLast? with | none => lo | some e => e.t
theorem lastLo_cons (lo : Int) (a : En) (L : List En) : lastLo lo (a :: L) = lastLo a.t L := by
  cases L with
  | nil => rfl
  | cons b r =>
    unfold lastLo
    rw [List.getLast?_cons_cons]
    cases h : (b :: r).getLast? with
    | none => simp at h
    | some x => rfl
theorem entsB_app {top : Int} (x : En) (hx : x.t ≤ top) (hs : x.d.size ≤ 1600) : ∀ (L : List En) (lo : Int), entsB lo top L = true → lastLo lo L ≤ x.t → entsB lo top (L ++ [x]) = true
  | [], lo, h, hl => by
    rw [List.nil_append, entsB_cons]
    exact ⟨⟨hl, hx, hs⟩, rfl⟩
  | e :: r, lo, h, hl => by
    rw [lastLo_cons] at hl
    rw [entsB_cons] at h
    rw [List.cons_append, entsB_cons]
    exact ⟨h.1, entsB_app x hx hs r e.t h.2 hl⟩
theorem kept_step {K : Kp} {r : Rc} (hk : keptB K = true) (hg : goB K r = true) : keptB (stepK K r) = true := by
  have hh := keptB_head hk
  have he := keptB_ents hk
  obtain ⟨hr, hf⟩ := goB_out hg
  clear hk hg
  obtain ⟨t, v, si, st, sd, e⟩ := K
  obtain ⟨k, rt, ri, rv, rd⟩ := r
  unfold headP at hh
  unfold recP at hr
  unfold fitsP at hf
  dsimp only at hh he hr hf
  have hk4 : k = 1 ∨ k = 2 ∨ k = 3 ∨ k = 4 := by omega
  rcases hk4 with rfl | rfl | rfl | rfl
  · refine keptB_mk ?_ ?_
    · show headP ⟨rt, rv, si, st, sd, e⟩
      unfold headP
      dsimp only
      omega
    · show entsB (max st 1) rt e = true
      exact entsB_top (by omega) e _ he
  · refine keptB_mk ?_ ?_
    · show headP ⟨t, v, si, st, sd, e ++ [⟨rt, rd⟩]⟩
      unfold headP
      dsimp only
      rw [List.length_append, List.length_singleton]
      omega
    · show entsB (max st 1) t (e ++ [⟨rt, rd⟩]) = true
      have hl : lastT ⟨t, v, si, st, sd, e⟩ ≤ rt := by omega
      refine entsB_app ⟨rt, rd⟩ (by show rt ≤ t; omega) (by show rd.size ≤ 1600; omega) e _ he ?_
      show lastLo (max st 1) e ≤ rt
      unfold lastT at hl
      unfold lastLo
      dsimp only at hl
      cases hg : e.getLast? with
      | none =>
        rw [hg] at hl
        dsimp only at hl ⊢
        omega
      | some x =>
        rw [hg] at hl
        exact hl
  · refine keptB_mk ?_ ?_
    · show headP ⟨t, v, si, st, sd, e.take (ri - si - 1).toNat⟩
      unfold headP
      dsimp only
      have := List.length_take_le (ri - si - 1).toNat e
      have h2 : (e.take (ri - si - 1).toNat).length ≤ e.length := by simp [List.length_take]; omega
      omega
    · show entsB (max st 1) t (e.take (ri - si - 1).toNat) = true
      exact entsB_take e _ _ he
  · refine keptB_mk ?_ ?_
    · show headP ⟨t, v, ri, rt, rd, behL e (ri - si) rt⟩
      unfold headP
      dsimp only
      have h1 := behL_len e (ri - si) rt
      have h2 : ri + ((behL e (ri - si) rt).length : Int) ≤ 100000 := by
        unfold behL
        split
        · rename_i h
          rw [List.length_drop]
          omega
        · simp; omega
      omega
    · show entsB (max rt 1) t (behL e (ri - si) rt) = true
      unfold behL
      split
      · rename_i h
        obtain ⟨h1, h2, h3⟩ := h
        have hn : (ri - si - 1).toNat < e.length := by omega
        have h4 := entsB_drop e _ _ hn he
        have h5 : e[(ri - si - 1).toNat].t = rt := by
          rw [List.getD_eq_getElem?_getD, List.getElem?_eq_getElem hn] at h3
          exact h3
        rw [h5] at h4
        have h6 : (ri - si - 1).toNat + 1 = (ri - si).toNat := by omega
        rw [h6] at h4
        have h7 : max rt 1 = rt := by omega
        rw [h7]
        exact h4
      · rfl
/-- One step of a way that leads on. -/
theorem fold_at {A B K : Kp} {R : List Rc} {j : Nat} (hj : j < R.length) (hk : keptB K = true) (h : foldK A R = some B) (hK : foldK A (R.take j) = some K) :
    ksB K R[j] = true ∧ recB R[j] = true ∧ foldK A (R.take (j + 1)) = some (ksK K R[j]) ∧ keptB (ksK K R[j]) = true := by
  cases hg : goB K R[j] with
  | false =>
    rw [foldK_stop hj hK hg] at h
    cases h
  | true =>
    have h1 := foldK_at hj hK hg
    have e : ksK K R[j] = stepK K R[j] := by rw [ksK_yes hk]; simp [nextK, hg]
    rw [e]
    exact ⟨by rw [ksB_yes hk, hg], (by simp only [goB, Bool.and_eq_true] at hg; exact hg.1), h1, kept_step hk hg⟩
end Go.Proofs.Ytkilepoimocoeaa
