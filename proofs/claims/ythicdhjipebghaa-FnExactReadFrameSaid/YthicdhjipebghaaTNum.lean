/- What is read off the front, as functions. -/
import Derived.Test.YthicdhjipebghaaTDec
namespace Go.Proofs.Ythicdhjipebghaa
open Go.RowKit
set_option linter.unusedVariables false
theorem extract_toList (s : ByteArray) (k : Nat) : (s.extract k s.size).data.toList = s.data.toList.drop k := by
  obtain ⟨⟨l⟩⟩ := s
  simp
  exact List.take_of_length_le (by simp [ByteArray.size])
theorem extract0_toList (s : ByteArray) (k : Nat) : (s.extract 0 k).data.toList = s.data.toList.take k := by
  obtain ⟨⟨l⟩⟩ := s
  simp
open Classical in
/-- The number at the front, and what is left. -/
noncomputable def numO (l : List UInt8) : Option (Nat × List UInt8) := if h : ∃ p : Nat × List UInt8, Num l p.1 p.2 then some h.choose else none
open Classical in
/-- The piece at the front, and what is left. -/
noncomputable def pieO (l : List UInt8) : Option (List UInt8 × List UInt8) := if h : ∃ p : List UInt8 × List UInt8, Pie l p.1 p.2 then some h.choose else none
theorem numO_yes {l : List UInt8} {x : Nat} {r : List UInt8} (h : Num l x r) : numO l = some (x, r) := by
  have hx : ∃ p : Nat × List UInt8, Num l p.1 p.2 := ⟨(x, r), h⟩
  unfold numO
  rw [dif_pos hx]
  obtain ⟨e1, e2⟩ := num_unique hx.choose_spec h
  exact congrArg some (Prod.ext e1 e2)
theorem numO_no {l : List UInt8} (h : ∀ x r, ¬ Num l x r) : numO l = none := by
  unfold numO
  rw [dif_neg]
  rintro ⟨p, hp⟩
  exact h _ _ hp
theorem pieO_yes {l p r : List UInt8} (h : Pie l p r) : pieO l = some (p, r) := by
  have hx : ∃ q : List UInt8 × List UInt8, Pie l q.1 q.2 := ⟨(p, r), h⟩
  unfold pieO
  rw [dif_pos hx]
  obtain ⟨e1, e2⟩ := pie_unique hx.choose_spec h
  exact congrArg some (Prod.ext e1 e2)
theorem pieO_no {l : List UInt8} (h : ∀ p r, ¬ Pie l p r) : pieO l = none := by
  unfold pieO
  rw [dif_neg]
  rintro ⟨p, hp⟩
  exact h _ _ hp
theorem numO_out {l : List UInt8} {x : Nat} {r : List UInt8} (h : numO l = some (x, r)) : Num l x r := by
  by_cases hx : ∃ p : Nat × List UInt8, Num l p.1 p.2
  · obtain ⟨⟨a, b⟩, hp⟩ := hx
    rw [numO_yes hp] at h
    cases h; exact hp
  · rw [numO_no (fun x r k => hx ⟨(x, r), k⟩)] at h
    cases h
theorem pieO_out {l p r : List UInt8} (h : pieO l = some (p, r)) : Pie l p r := by
  by_cases hx : ∃ p : List UInt8 × List UInt8, Pie l p.1 p.2
  · obtain ⟨⟨a, b⟩, hp⟩ := hx
    rw [pieO_yes hp] at h
    cases h; exact hp
  · rw [pieO_no (fun x r k => hx ⟨(x, r), k⟩)] at h
    cases h
end Go.Proofs.Ythicdhjipebghaa
