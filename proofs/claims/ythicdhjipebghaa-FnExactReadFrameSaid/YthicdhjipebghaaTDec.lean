/- What is read off the front of a row of bytes: a number, a piece. -/
import Derived.Test.YthicdhjipebghaaTMath
namespace Go.Proofs.Ythicdhjipebghaa
open Go.RowKit
set_option linter.unusedVariables false
theorem rv_front (x : Nat) (r : List UInt8) (h : x ≤ 562949953421311) : RV (varL x ++ r) x (varL x).length := by
  have hl := vby_length 6 x
  have hl' : 1 ≤ (varL x).length ∧ (varL x).length ≤ 7 := hl
  have ht : (varL x ++ r).take (varL x).length = varL x := by simp
  refine .inl ⟨hl'.1, hl'.2, by simp, ?_, ?_⟩
  · rw [ht]; exact varL_good x h
  · rw [ht, vnum_varL x h]
/-- Is a number at the front, and what is left behind it? -/
def Num (l : List UInt8) (x : Nat) (r : List UInt8) : Prop := x ≤ 562949953421311 ∧ l = varL x ++ r
theorem num_of_rv {l : List UInt8} {x k : Nat} (h : RV l x k) (hk : 1 ≤ k) : Num l x (l.drop k) := by
  rcases h with ⟨_, h7, hl, hg, rfl⟩ | ⟨_, h0, _⟩
  · have h7' : (l.take k).length ≤ 7 := Nat.le_trans (List.length_take_le _ _) h7
    refine ⟨vnum_le _ h7', ?_⟩
    rw [varL_vnum hg h7', List.take_append_drop]
  · omega
theorem rv_none_num {l : List UInt8} {x : Nat} (h : RV l x 0) : ∀ y r, ¬ Num l y r := by
  rintro y r ⟨hy, rfl⟩
  have := (RV_unique h (rv_front y r hy)).2
  have := (vby_length 6 y).1
  have e : (varL y).length = (vby 6 y).length := rfl
  omega
theorem num_unique {l : List UInt8} {x y : Nat} {r q : List UInt8} (h : Num l x r) (k : Num l y q) : x = y ∧ r = q := by
  obtain ⟨hx, rfl⟩ := h
  obtain ⟨hy, e⟩ := k
  have h1 := rv_front x r hx
  have h2 := rv_front y q hy
  rw [← e] at h2
  obtain ⟨rfl, _⟩ := RV_unique h1 h2
  exact ⟨rfl, List.append_cancel_left e⟩
/-- Is a piece at the front? -/
def Pie (l : List UInt8) (p r : List UInt8) : Prop := p.length ≤ 562949953421311 ∧ l = varL p.length ++ (p ++ r)
theorem pie_num {l p r : List UInt8} (h : Pie l p r) : Num l p.length (p ++ r) := h
theorem pie_unique {l p r p' r' : List UInt8} (h : Pie l p r) (k : Pie l p' r') : p = p' ∧ r = r' := by
  obtain ⟨h1, h2⟩ := num_unique (pie_num h) (pie_num k)
  exact List.append_inj h2 h1
theorem pie_of {l r : List UInt8} {n : Nat} (h : Num l n r) (hn : n ≤ r.length) : Pie l (r.take n) (r.drop n) := by
  have e : (r.take n).length = n := by simp; omega
  unfold Pie
  rw [e, List.take_append_drop]
  exact h
theorem no_pie_num {l : List UInt8} (h : ∀ y r, ¬ Num l y r) : ∀ p r, ¬ Pie l p r := fun p r k => h _ _ (pie_num k)
theorem no_pie_short {l r : List UInt8} {n : Nat} (h : Num l n r) (hn : ¬ n ≤ r.length) : ∀ p q, ¬ Pie l p q := by
  intro p q k
  obtain ⟨e1, e2⟩ := num_unique h (pie_num k)
  rw [e2] at hn
  simp at hn; omega
theorem num_le {l : List UInt8} {x : Nat} {r : List UInt8} (h : Num l x r) : r.length < l.length := by
  obtain ⟨_, rfl⟩ := h
  have := (vby_length 6 x).1
  have e : (varL x).length = (vby 6 x).length := rfl
  rw [List.length_append]; omega
theorem pie_le {l p r : List UInt8} (h : Pie l p r) : r.length < l.length := by
  have := num_le (pie_num h)
  rw [List.length_append] at this; omega
end Go.Proofs.Ythicdhjipebghaa
