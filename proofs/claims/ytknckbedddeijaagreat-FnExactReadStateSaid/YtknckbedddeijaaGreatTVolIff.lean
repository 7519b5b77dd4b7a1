/- What is shown of a volume that was read. -/
import Derived.Test.YtknckbedddeijaaGreatTWholeV
namespace Go.Proofs.YtknckbedddeijaaGreat
open Go.RowKit
set_option linter.unusedVariables false
theorem nms_parse (n : Nat) : ∀ (l : List UInt8) (L : List Di) (r : List UInt8), nmsO n l = some (L, r) → L.length = n ∧ l = nmsL L ++ r := by
 induction n with
 | zero =>
  intro l L r h
  simp only [nmsO, Option.some.injEq, Prod.mk.injEq] at h
  obtain ⟨rfl, rfl⟩ := h
  exact ⟨rfl, rfl⟩
 | succ n ih =>
  intro l L r h
  rw [nmsO] at h
  obtain ⟨⟨p, l1⟩, h1, h⟩ := bind_out h
  obtain ⟨⟨x, l2⟩, h2, h⟩ := bind_out h
  obtain ⟨⟨L2, l3⟩, h3, h⟩ := bind_out h
  dsimp only at h1 h2 h3
  simp only [Option.some.injEq, Prod.mk.injEq] at h
  obtain ⟨rfl, rfl⟩ := h
  obtain ⟨e1, e2⟩ := ih l2 L2 l3 h3
  refine ⟨by simp [e1], ?_⟩
  have g1 := (pieO_out h1).2
  have g2 := (numO_out h2).2
  have hs : (⟨p.toArray⟩ : ByteArray).size = p.length := by
   show p.toArray.size = _
   simp
  rw [g1, g2, e2]
  simp only [nmsL, List.flatMap_cons, nmL, hs, Int.toNat_natCast, List.append_assoc]
theorem cnt_parse {m : Nat} {l r : List UInt8} {n : Nat} (h : cntO m l = some (n, r)) : l = varL n ++ r ∧ n ≤ m := by
 unfold cntO at h
 obtain ⟨⟨x, y⟩, h1, h2⟩ := bind_out h
 split at h2
 ·rename_i hm
  simp only [Option.some.injEq, Prod.mk.injEq] at h2
  obtain ⟨rfl, rfl⟩ := h2
  exact ⟨(numO_out h1).2, hm⟩
 ·cases h2
theorem ino_parse {l r : List UInt8} {n : Nd} (h : inoO l = some (n, r)) : l = shN n ++ r := by
 unfold inoO at h
 obtain ⟨⟨a, l1⟩, h1, h⟩ := bind_out h
 obtain ⟨⟨b, l2⟩, h2, h⟩ := bind_out h
 obtain ⟨⟨c, l3⟩, h3, h⟩ := bind_out h
 obtain ⟨⟨d, l4⟩, h4, h⟩ := bind_out h
 obtain ⟨⟨e, l5⟩, h5, h⟩ := bind_out h
 obtain ⟨⟨f, l6⟩, h6, h⟩ := bind_out h
 obtain ⟨⟨g, l7⟩, h7, h⟩ := bind_out h
 obtain ⟨⟨p, l8⟩, h8, h⟩ := bind_out h
 obtain ⟨⟨k, l9⟩, h9, h⟩ := bind_out h
 obtain ⟨⟨s, l10⟩, h10, h⟩ := bind_out h
 dsimp only at h1 h2 h3 h4 h5 h6 h7 h8 h9 h10
 simp only [Option.some.injEq, Prod.mk.injEq] at h
 obtain ⟨rfl, rfl⟩ := h
 obtain ⟨e9, _⟩ := cnt_parse h9
 obtain ⟨e10, e11⟩ := nms_parse k l9 s l10 h10
 have hs : (⟨p.toArray⟩ : ByteArray).size = p.length := by
  show p.toArray.size = _
  simp
 rw [(numO_out h1).2, (numO_out h2).2, (numO_out h3).2, (numO_out h4).2, (numO_out h5).2, (numO_out h6).2, (numO_out h7).2, (pieO_out h8).2, e9, e11]
 simp only [shN, varsL, List.flatMap_cons, List.flatMap_nil, List.append_nil, Int.toNat_natCast, hs, e10, List.append_assoc]
theorem inos_parse (n : Nat) : ∀ (l : List UInt8) (L : List Nd) (r : List UInt8), inosO n l = some (L, r) → L.length = n ∧ l = inosL L ++ r := by
 induction n with
 | zero =>
  intro l L r h
  simp only [inosO, Option.some.injEq, Prod.mk.injEq] at h
  obtain ⟨rfl, rfl⟩ := h
  exact ⟨rfl, rfl⟩
 | succ n ih =>
  intro l L r h
  rw [inosO] at h
  obtain ⟨⟨x, l1⟩, h1, h⟩ := bind_out h
  obtain ⟨⟨L2, l2⟩, h2, h⟩ := bind_out h
  dsimp only at h1 h2
  simp only [Option.some.injEq, Prod.mk.injEq] at h
  obtain ⟨rfl, rfl⟩ := h
  obtain ⟨e1, e2⟩ := ih l1 L2 l2 h2
  refine ⟨by simp [e1], ?_⟩
  rw [ino_parse h1, e2]
  simp only [inosL, List.flatMap_cons, List.append_assoc]
theorem vol_parse {l r : List UInt8} {nx : Nat} {L : List Nd} (h : volO l = some ((nx, L), r)) : l = varL nx ++ varL L.length ++ inosL L ++ r := by
 unfold volO at h
 obtain ⟨⟨a, l1⟩, h1, h⟩ := bind_out h
 obtain ⟨⟨k, l2⟩, h2, h⟩ := bind_out h
 obtain ⟨⟨s, l3⟩, h3, h⟩ := bind_out h
 dsimp only at h1 h2 h3
 simp only [Option.some.injEq, Prod.mk.injEq] at h
 obtain ⟨⟨rfl, rfl⟩, rfl⟩ := h
 obtain ⟨e2, _⟩ := cnt_parse h2
 obtain ⟨e3, e4⟩ := inos_parse k l2 s l3 h3
 rw [(numO_out h1).2, e2, e4, e3]
 simp only [List.append_assoc]
theorem volO_ne {l r : List UInt8} {nx : Nat} {L : List Nd} (h : volO l = some ((nx, L), r)) : l ≠ [] := by
 unfold volO at h
 obtain ⟨⟨a, l1⟩, h1, h⟩ := bind_out h
 have := num_le (numO_out h1)
 rintro rfl
 simp at this
theorem shV_is {s : ByteArray} {r : List UInt8} {nx : Nat} {L : List Nd} (h : volO s.data.toList = some ((nx, L), r)) : shV (nx : Nat) L = s ↔ (r = [] ∧ volB (nx : Nat) L = true) := by
 have hp := vol_parse h
 constructor
 ·intro e
  cases hv : volB (nx : Nat) L with
  | false =>
   rw [shV_no hv] at e
   exact absurd (by rw [← e]; rfl) (volO_ne h)
  | true =>
   rw [shV_yes hv] at e
   have e2 := congrArg (fun t : ByteArray => t.data.toList) e
   simp only [Int.toNat_natCast] at e2
   rw [← e2] at hp
   exact ⟨by simpa using hp, rfl⟩
 ·rintro ⟨rfl, hv⟩
  rw [shV_yes hv, Int.toNat_natCast]
  rw [List.append_nil] at hp
  rw [← hp]
theorem outV_of {l r : List UInt8} {nx : Nat} {L : List Nd} (h : volO l = some ((nx, L), r)) : outV l = if r = [] ∧ volB (nx : Nat) L = true then some (nx, L) else none := by
 unfold outV; rw [h]; rfl
end Go.Proofs.YtknckbedddeijaaGreat
