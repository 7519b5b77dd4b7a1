/- What is shown of a call that was read. -/
import Derived.Test.YtknckbedddeijaaGreatTWhole
import Derived.Test.YtknckbedddeijaaGreatTTake
namespace Go.Proofs.YtknckbedddeijaaGreat
open Go.RowKit
set_option linter.unusedVariables false
theorem bind_out {α β : Type} {o : Option α} {f : α → Option β} {b : β} (h : o.bind f = some b) : ∃ a, o = some a ∧ f a = some b := by
 cases o with
 | none => cases h
 | some a => exact ⟨a, rfl, h⟩
theorem ba_app (a b : ByteArray) : (a ++ b).data.toList = a.data.toList ++ b.data.toList := by
 rw [ByteArray.data_append, Array.toList_append]
theorem varS_list (n : Nat) : (varS n).data.toList = varL n := rfl
theorem piece_list (p : List UInt8) : (piece ⟨p.toArray⟩).data.toList = varL p.length ++ p := by
 rw [piece, ba_app, varS_list]
 rfl
theorem shC_parse {l r : List UInt8} {c : Cn} (h : callO l = some (c, r)) (hc : callP (caOf c)) : (shC (caOf c)).data.toList ++ r = l := by
 unfold callO at h
 obtain ⟨⟨k, l1⟩, h1, h⟩ := bind_out h
 obtain ⟨⟨p, l2⟩, h2, h⟩ := bind_out h
 obtain ⟨⟨to, l3⟩, h3, h⟩ := bind_out h
 obtain ⟨⟨n, l4⟩, h4, h⟩ := bind_out h
 obtain ⟨⟨m, l5⟩, h5, h⟩ := bind_out h
 obtain ⟨⟨d, l6⟩, h6, h⟩ := bind_out h
 simp only [Option.some.injEq, Prod.mk.injEq] at h
 obtain ⟨rfl, rfl⟩ := h
 rw [shC_yes hc]
 simp only [caOf, Int.toNat_natCast, fold_unfold, ba_app, varS_list, piece_list]
 have e1 := (numO_out h1).2
 have e2 := (pieO_out h2).2
 have e3 := (pieO_out h3).2
 have e4 := (numO_out h4).2
 have e5 := (numO_out h5).2
 have e6 := (pieO_out h6).2
 dsimp only at e1 e2 e3 e4 e5 e6
 rw [e1, e2, e3, e4, e5, e6]
 simp only [List.append_assoc]
theorem callO_ne {l r : List UInt8} {c : Cn} (h : callO l = some (c, r)) : l ≠ [] := by
 unfold callO at h
 obtain ⟨⟨k, l1⟩, h1, h⟩ := bind_out h
 have := num_le (numO_out h1)
 rintro rfl
 simp at this
theorem shC_is {s : ByteArray} {r : List UInt8} {c : Cn} (h : callO s.data.toList = some (c, r)) : shC (caOf c) = s ↔ (r = [] ∧ callP (caOf c)) := by
 constructor
 ·intro e
  by_cases hc : callP (caOf c)
  ·have := shC_parse h hc
   rw [e] at this
   exact ⟨by simpa using this, hc⟩
  ·rw [shC_no hc] at e
   exact absurd (by rw [← e]; rfl) (callO_ne h)
 ·rintro ⟨rfl, hc⟩
  have := shC_parse h hc
  rw [List.append_nil] at this
  have e := congrArg (fun l : List UInt8 => (⟨l.toArray⟩ : ByteArray)) this
  exact (ba_of _).symm.trans (e.trans (ba_of _))
theorem outC_of {l r : List UInt8} {c : Cn} (h : callO l = some (c, r)) : outC l = if r = [] ∧ callP (caOf c) then some (caOf c) else none := by
 unfold outC; rw [h]; rfl
theorem varsO_two_yes {l r : List UInt8} {xs : List Nat} (h : varsO 2 l = some (xs, r)) : ∃ n m r1, xs = [n, m] ∧ numO l = some (n, r1) ∧ numO r1 = some (m, r) := by
 simp only [varsO] at h
 obtain ⟨⟨n, r1⟩, h1, h⟩ := bind_out h
 obtain ⟨⟨ys, r2⟩, h2, h⟩ := bind_out h
 obtain ⟨⟨m, r3⟩, h3, h2⟩ := bind_out h2
 simp only [Option.bind_some, Option.some.injEq, Prod.mk.injEq] at h h2
 obtain ⟨rfl, rfl⟩ := h
 obtain ⟨rfl, rfl⟩ := h2
 exact ⟨n, m, r1, rfl, h1, h3⟩
theorem varsO_two_no {l : List UInt8} (h : varsO 2 l = none) {β : Type} (f : Nat × List UInt8 → Nat × List UInt8 → Option β) : ((numO l).bind fun d => (numO d.2).bind fun e => f d e) = none := by
 simp only [varsO] at h
 cases h1 : numO l with
 | none => rfl
 | some a =>
  rw [h1] at h
  simp only [Option.bind_some] at h ⊢
  cases h2 : numO a.2 with
  | none => rfl
  | some b =>
   rw [h2] at h
   cases h
end Go.Proofs.YtknckbedddeijaaGreat
