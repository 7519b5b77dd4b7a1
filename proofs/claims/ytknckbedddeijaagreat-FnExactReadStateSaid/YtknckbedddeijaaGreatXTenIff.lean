/- What is shown of a tenant that was read; what the sentence reads of a tenant. -/
import Derived.Test.YtknckbedddeijaaGreatXWholeT
import Derived.Test.YtknckbedddeijaaGreatXShowM
import Derived.Test.YtknckbedddeijaaGreatXSpecRR
import Derived.Test.YtknckbedddeijaaGreatTVolIff
namespace Go.Proofs.YtknckbedddeijaaGreat
open Go.RowKit
set_option linter.unusedVariables false
theorem insV_parse {l r : List UInt8} {v : Nat × List Nd} (h : insVO l = some (v, r)) (hv : volB (v.1 : Int) v.2 = true) : l = varL (shV (v.1 : Int) v.2).size ++ ((shV (v.1 : Int) v.2).data.toList ++ r) := by
 unfold insVO at h
 obtain ⟨⟨p, r1⟩, h1, h⟩ := bind_out h
 obtain ⟨⟨x, r2⟩, h2, h⟩ := bind_out h
 dsimp only at h1 h2 h
 split at h
 ·rename_i he
  subst he
  simp only [Option.some.injEq, Prod.mk.injEq] at h
  obtain ⟨rfl, rfl⟩ := h
  obtain ⟨nx, L⟩ := x
  have h3 := vol_parse h2
  rw [List.append_nil] at h3
  have hs : (shV (nx : Int) L).data.toList = p := by rw [shV_yes hv, Int.toNat_natCast, h3]
  have hz : (shV (nx : Int) L).size = p.length := by
   rw [← hs]; simp
  rw [hz, hs]
  exact (pieO_out h1).2
 ·cases h
theorem not_parse {l r : List UInt8} {a : Nt} (h : notO l = some (a, r)) : l = notL a ++ r := by
 unfold notO at h
 obtain ⟨⟨x1, l3⟩, g1, h⟩ := bind_out h
 obtain ⟨⟨x2, l4⟩, g2, h⟩ := bind_out h
 obtain ⟨⟨x3, l5⟩, g3, h⟩ := bind_out h
 obtain ⟨⟨x4, l6⟩, g4, h⟩ := bind_out h
 obtain ⟨⟨x5, l7⟩, g5, h⟩ := bind_out h
 dsimp only at g1 g2 g3 g4 g5
 simp only [Option.some.injEq, Prod.mk.injEq] at h
 obtain ⟨rfl, rfl⟩ := h
 rw [(numO_out g1).2, (numO_out g2).2, (numO_out g3).2, (numO_out g4).2, (numO_out g5).2]
 simp only [notL, varsL, List.flatMap_cons, List.flatMap_nil, List.append_nil, Int.toNat_natCast, List.append_assoc]
theorem nots_parse (n : Nat) : ∀ (l : List UInt8) (L : List Nt) (r : List UInt8), notsO n l = some (L, r) → L.length = n ∧ l = notsL L ++ r := by
 induction n with
 | zero =>
  intro l L r h
  simp only [notsO, Option.some.injEq, Prod.mk.injEq] at h
  obtain ⟨rfl, rfl⟩ := h
  exact ⟨rfl, rfl⟩
 | succ n ih =>
  intro l L r h
  rw [notsO] at h
  obtain ⟨⟨x, l1⟩, h1, h⟩ := bind_out h
  obtain ⟨⟨L2, l2⟩, h2, h⟩ := bind_out h
  dsimp only at h1 h2
  simp only [Option.some.injEq, Prod.mk.injEq] at h
  obtain ⟨rfl, rfl⟩ := h
  obtain ⟨e1, e2⟩ := ih l1 L2 l2 h2
  refine ⟨by simp [e1], ?_⟩
  rw [not_parse h1, e2]
  simp only [notsL, List.flatMap_cons, List.append_assoc]
theorem ses_parse {l r : List UInt8} {a : Se} (h : sesO l = some (a, r)) (hp : resP a.r) : l = sesL a ++ r := by
 unfold sesO at h
 obtain ⟨⟨x1, l3⟩, g1, h⟩ := bind_out h
 obtain ⟨⟨x2, l4⟩, g2, h⟩ := bind_out h
 obtain ⟨⟨x3, l5⟩, g3, h⟩ := bind_out h
 obtain ⟨⟨x4, l6⟩, g4, h⟩ := bind_out h
 dsimp only at g1 g2 g3 g4
 simp only [Option.some.injEq, Prod.mk.injEq] at h
 obtain ⟨rfl, rfl⟩ := h
 unfold insRO at g4
 obtain ⟨⟨p, l7⟩, k1, g4⟩ := bind_out g4
 obtain ⟨⟨v, l8⟩, k2, g4⟩ := bind_out g4
 dsimp only at k1 k2 g4
 simp only [Option.some.injEq, Prod.mk.injEq] at g4
 obtain ⟨rfl, rfl⟩ := g4
 dsimp only at hp ⊢
 have hs : (shR ⟨(v : Int), ⟨l8.toArray⟩⟩).data.toList = p := by
  rw [shR_yes hp, ba_app, varS_list, (numO_out k2).2, Int.toNat_natCast]
 have hz : (shR ⟨(v : Int), ⟨l8.toArray⟩⟩).size = p.length := by
  rw [← hs]; simp
 rw [sesL, hz, hs, (numO_out g1).2, (numO_out g2).2, (numO_out g3).2]
 conv => lhs; rw [(pieO_out k1).2]
 simp only [varsL, List.flatMap_cons, List.flatMap_nil, List.append_nil, Int.toNat_natCast, List.append_assoc]
theorem sess_parse (n : Nat) : ∀ (l : List UInt8) (L : List Se) (r : List UInt8), sessO n l = some (L, r) → (∀ a ∈ L, resP a.r) → L.length = n ∧ l = sessL L ++ r := by
 induction n with
 | zero =>
  intro l L r h _
  simp only [sessO, Option.some.injEq, Prod.mk.injEq] at h
  obtain ⟨rfl, rfl⟩ := h
  exact ⟨rfl, rfl⟩
 | succ n ih =>
  intro l L r h hp
  rw [sessO] at h
  obtain ⟨⟨x, l1⟩, h1, h⟩ := bind_out h
  obtain ⟨⟨L2, l2⟩, h2, h⟩ := bind_out h
  dsimp only at h1 h2
  simp only [Option.some.injEq, Prod.mk.injEq] at h
  obtain ⟨rfl, rfl⟩ := h
  obtain ⟨e1, e2⟩ := ih l1 L2 l2 h2 (fun a ha => hp a (List.mem_cons_of_mem _ ha))
  refine ⟨by simp [e1], ?_⟩
  rw [ses_parse h1 (hp x (List.mem_cons_self ..)), e2]
  simp only [sessL, List.flatMap_cons, List.append_assoc]
/-- What is read of a right tenant is what is shown of it. -/
theorem ten_parse {l r : List UInt8} {x : Int × List Nd × Int × List Nt × List Se} (h : tenO l = some (x, r)) (hb : tenB x = true) : l = tenL x ++ r := by
 unfold tenO at h
 obtain ⟨⟨v, l1⟩, g1, h⟩ := bind_out h
 obtain ⟨⟨k, l2⟩, g2, h⟩ := bind_out h
 obtain ⟨⟨n, l3⟩, g3, h⟩ := bind_out h
 obtain ⟨⟨a, l4⟩, g4, h⟩ := bind_out h
 obtain ⟨⟨m, l5⟩, g5, h⟩ := bind_out h
 obtain ⟨⟨s, l6⟩, g6, h⟩ := bind_out h
 dsimp only at g1 g2 g3 g4 g5 g6
 simp only [Option.some.injEq, Prod.mk.injEq] at h
 obtain ⟨rfl, rfl⟩ := h
 obtain ⟨b1, b2, b3, b4, b5, b6⟩ := tenB_of hb
 obtain ⟨e1, e2⟩ := nots_parse n l3 a l4 g4
 obtain ⟨e3, e4⟩ := sess_parse m l5 s l6 g6 (fun y hy => (b6 y hy).r)
 obtain ⟨e5, _⟩ := cnt_parse g3
 obtain ⟨e6, _⟩ := cnt_parse g5
 rw [insV_parse g1 b1, (numO_out g2).2, e5, e2, e6, e4, ← e1, ← e3]
 simp only [tenL, varsL, List.flatMap_cons, List.flatMap_nil, List.append_nil, Int.toNat_natCast, List.append_assoc]
/-- The volume that the sentence reads of a piece: none where there is none. -/
noncomputable def volZ (l : List UInt8) : Nat × List Nd := (outV l).getD (0, [])
noncomputable def sesS (l : List UInt8) : Option (Se × List UInt8) :=
 (numO l).bind fun a => (numO a.2).bind fun b => (numO b.2).bind fun c => (pieO c.2).bind fun d => (outR d.1).bind fun r => some (⟨(a.1 : Int), (b.1 : Int), (c.1 : Int), r⟩, d.2)
noncomputable def sessS : Nat → List UInt8 → Option (List Se × List UInt8)
 | 0, l => some ([], l)
 | n + 1, l => (sesS l).bind fun a => (sessS n a.2).bind fun d => some (a.1 :: d.1, d.2)
theorem sessS_no {n : Nat} {l : List UInt8} (hn : 0 < n) (h : sesS l = none) : sessS n l = none := by
 obtain ⟨m, rfl⟩ : ∃ m, n = m + 1 := ⟨n - 1, by omega⟩
 simp only [sessS, h, Option.bind_none]
theorem sessS_yes {n : Nat} {l q : List UInt8} {x : Se} (hn : 0 < n) (h : sesS l = some (x, q)) : sessS n l = (sessS (n - 1) q).map fun y => (x :: y.1, y.2) := by
 obtain ⟨m, rfl⟩ : ∃ m, n = m + 1 := ⟨n - 1, by omega⟩
 simp only [sessS, h, Option.bind_some, Nat.add_sub_cancel]
 cases sessS m q <;> rfl
noncomputable def tenS (l : List UInt8) : Option ((Int × List Nd × Int × List Nt × List Se) × List UInt8) :=
 (pieO l).bind fun p => (numO p.2).bind fun k => (cntO 20 k.2).bind fun n => (notsO n.1 n.2).bind fun a => (cntO 3 a.2).bind fun m => (sessS m.1 m.2).bind fun s => some ((((volZ p.1).1 : Int), (volZ p.1).2, (k.1 : Int), a.1, s.1), s.2)
theorem outR_out {l : List UInt8} {r : Re} (h : outR l = some r) : ∃ n d, numO l = some (n, d) ∧ r = ⟨(n : Int), ⟨d.toArray⟩⟩ ∧ resP r := by
 unfold outR at h
 obtain ⟨⟨n, d⟩, h1, h⟩ := bind_out h
 split at h
 ·simp only [Option.some.injEq] at h
  subst h
  rename_i hp
  exact ⟨n, d, h1, rfl, hp⟩
 ·cases h
theorem outR_mk {l d : List UInt8} {n : Nat} (h : numO l = some (n, d)) (hp : resP ⟨(n : Int), ⟨d.toArray⟩⟩) : outR l = some ⟨(n : Int), ⟨d.toArray⟩⟩ := by
 unfold outR
 rw [h, Option.bind_some, if_pos hp]
theorem sesS_of {l r : List UInt8} {a : Se} (h : sesO l = some (a, r)) (hp : resP a.r) : sesS l = some (a, r) := by
 unfold sesO at h
 obtain ⟨⟨x1, l3⟩, g1, h⟩ := bind_out h
 obtain ⟨⟨x2, l4⟩, g2, h⟩ := bind_out h
 obtain ⟨⟨x3, l5⟩, g3, h⟩ := bind_out h
 obtain ⟨⟨x4, l6⟩, g4, h⟩ := bind_out h
 dsimp only at g1 g2 g3 g4
 simp only [Option.some.injEq, Prod.mk.injEq] at h
 obtain ⟨rfl, rfl⟩ := h
 unfold insRO at g4
 obtain ⟨⟨p, l7⟩, k1, g4⟩ := bind_out g4
 obtain ⟨⟨v, l8⟩, k2, g4⟩ := bind_out g4
 dsimp only at k1 k2 g4
 simp only [Option.some.injEq, Prod.mk.injEq] at g4
 obtain ⟨rfl, rfl⟩ := g4
 unfold sesS
 simp only [g1, g2, g3, k1, Option.bind_some, outR_mk k2 hp]
theorem sesO_of {l r : List UInt8} {a : Se} (h : sesS l = some (a, r)) : sesO l = some (a, r) := by
 unfold sesS at h
 obtain ⟨⟨x1, l3⟩, g1, h⟩ := bind_out h
 obtain ⟨⟨x2, l4⟩, g2, h⟩ := bind_out h
 obtain ⟨⟨x3, l5⟩, g3, h⟩ := bind_out h
 obtain ⟨⟨d, l6⟩, g4, h⟩ := bind_out h
 obtain ⟨q, g5, h⟩ := bind_out h
 dsimp only at g1 g2 g3 g4 g5
 simp only [Option.some.injEq, Prod.mk.injEq] at h
 obtain ⟨rfl, rfl⟩ := h
 obtain ⟨n, e, h1, rfl, _⟩ := outR_out g5
 unfold sesO insRO
 simp only [g1, g2, g3, g4, h1, Option.bind_some]
theorem sessS_of (n : Nat) : ∀ (l : List UInt8) (L : List Se) (r : List UInt8), sessO n l = some (L, r) → (∀ a ∈ L, resP a.r) → sessS n l = some (L, r) := by
 induction n with
 | zero => intro l L r h _; exact h
 | succ n ih =>
  intro l L r h hp
  rw [sessO] at h
  obtain ⟨⟨x, l1⟩, h1, h⟩ := bind_out h
  obtain ⟨⟨L2, l2⟩, h2, h⟩ := bind_out h
  dsimp only at h1 h2
  simp only [Option.some.injEq, Prod.mk.injEq] at h
  obtain ⟨rfl, rfl⟩ := h
  rw [sessS, sesS_of h1 (hp x (List.mem_cons_self ..)), Option.bind_some, ih l1 L2 l2 h2 (fun a ha => hp a (List.mem_cons_of_mem _ ha)), Option.bind_some]
theorem sessO_of (n : Nat) : ∀ (l : List UInt8) (L : List Se) (r : List UInt8), sessS n l = some (L, r) → sessO n l = some (L, r) := by
 induction n with
 | zero => intro l L r h; exact h
 | succ n ih =>
  intro l L r h
  rw [sessS] at h
  obtain ⟨⟨x, l1⟩, h1, h⟩ := bind_out h
  obtain ⟨⟨L2, l2⟩, h2, h⟩ := bind_out h
  dsimp only at h1 h2
  simp only [Option.some.injEq, Prod.mk.injEq] at h
  obtain ⟨rfl, rfl⟩ := h
  rw [sessO, sesO_of h1, Option.bind_some, ih l1 L2 l2 h2, Option.bind_some]
theorem outV_out {l : List UInt8} {v : Nat × List Nd} (h : outV l = some v) : volO l = some (v, []) ∧ volB (v.1 : Int) v.2 = true := by
 unfold outV at h
 obtain ⟨⟨x, r⟩, h1, h⟩ := bind_out h
 dsimp only at h
 split at h
 ·rename_i he
  simp only [Option.some.injEq] at h
  subst h
  obtain ⟨e, hb⟩ := he
  subst e
  exact ⟨h1, hb⟩
 ·cases h
theorem insV_of {l p r : List UInt8} {v : Nat × List Nd} (h1 : pieO l = some (p, r)) (h2 : outV p = some v) : insVO l = some (v, r) := by
 unfold insVO
 rw [h1, Option.bind_some]
 simp only [(outV_out h2).1, Option.bind_some, if_true]
theorem insV_out {l r : List UInt8} {v : Nat × List Nd} (h : insVO l = some (v, r)) (hv : volB (v.1 : Int) v.2 = true) : ∃ p, pieO l = some (p, r) ∧ outV p = some v := by
 unfold insVO at h
 obtain ⟨⟨p, r1⟩, h1, h⟩ := bind_out h
 obtain ⟨⟨x, r2⟩, h2, h⟩ := bind_out h
 dsimp only at h1 h2 h
 split at h
 ·rename_i he
  subst he
  simp only [Option.some.injEq, Prod.mk.injEq] at h
  obtain ⟨rfl, rfl⟩ := h
  refine ⟨p, h1, ?_⟩
  unfold outV
  rw [h2, Option.bind_some]
  simp [hv]
 ·cases h
theorem volZ_yes {l : List UInt8} {v : Nat × List Nd} (h : outV l = some v) : volZ l = v := by unfold volZ; rw [h]; rfl
theorem volZ_no {l : List UInt8} (h : outV l = none) : volZ l = (0, []) := by unfold volZ; rw [h]; rfl
theorem vol_zero : volB 0 [] = false := by decide
theorem tenS_of {l r : List UInt8} {x : Int × List Nd × Int × List Nt × List Se} (h : tenO l = some (x, r)) (hb : tenB x = true) : tenS l = some (x, r) := by
 unfold tenO at h
 obtain ⟨⟨v, l1⟩, g1, h⟩ := bind_out h
 obtain ⟨⟨k, l2⟩, g2, h⟩ := bind_out h
 obtain ⟨⟨n, l3⟩, g3, h⟩ := bind_out h
 obtain ⟨⟨a, l4⟩, g4, h⟩ := bind_out h
 obtain ⟨⟨m, l5⟩, g5, h⟩ := bind_out h
 obtain ⟨⟨s, l6⟩, g6, h⟩ := bind_out h
 dsimp only at g1 g2 g3 g4 g5 g6
 simp only [Option.some.injEq, Prod.mk.injEq] at h
 obtain ⟨rfl, rfl⟩ := h
 obtain ⟨b1, b2, b3, b4, b5, b6⟩ := tenB_of hb
 obtain ⟨p, e1, e2⟩ := insV_out g1 b1
 unfold tenS
 rw [e1, Option.bind_some]
 dsimp only
 rw [g2, Option.bind_some]
 dsimp only
 rw [g3, Option.bind_some]
 dsimp only
 rw [g4, Option.bind_some]
 dsimp only
 rw [g5, Option.bind_some]
 dsimp only
 rw [sessS_of m l5 s l6 g6 (fun y hy => (b6 y hy).r), Option.bind_some, volZ_yes e2]
theorem tenO_of {l r : List UInt8} {x : Int × List Nd × Int × List Nt × List Se} (h : tenS l = some (x, r)) (hb : tenB x = true) : tenO l = some (x, r) := by
 unfold tenS at h
 obtain ⟨⟨p, l1⟩, g1, h⟩ := bind_out h
 obtain ⟨⟨k, l2⟩, g2, h⟩ := bind_out h
 obtain ⟨⟨n, l3⟩, g3, h⟩ := bind_out h
 obtain ⟨⟨a, l4⟩, g4, h⟩ := bind_out h
 obtain ⟨⟨m, l5⟩, g5, h⟩ := bind_out h
 obtain ⟨⟨s, l6⟩, g6, h⟩ := bind_out h
 dsimp only at g1 g2 g3 g4 g5 g6
 simp only [Option.some.injEq, Prod.mk.injEq] at h
 obtain ⟨rfl, rfl⟩ := h
 obtain ⟨b1, b2, b3, b4, b5, b6⟩ := tenB_of hb
 cases hv : outV p with
 | none =>
  rw [volZ_no hv] at b1
  have := vol_zero
  simp only [Int.natCast_zero] at b1
  rw [this] at b1
  cases b1
 | some v =>
  have e1 := insV_of g1 hv
  unfold tenO
  rw [e1, Option.bind_some]
  dsimp only
  rw [g2, Option.bind_some]
  dsimp only
  rw [g3, Option.bind_some]
  dsimp only
  rw [g4, Option.bind_some]
  dsimp only
  rw [g5, Option.bind_some]
  dsimp only
  rw [sessO_of m l5 s l6 g6, Option.bind_some, volZ_yes hv]
theorem outT_out {l : List UInt8} {x : Int × List Nd × Int × List Nt × List Se} (h : outT l = some x) : tenO l = some (x, []) ∧ tenB x = true := by
 unfold outT at h
 obtain ⟨⟨y, r⟩, h1, h⟩ := bind_out h
 dsimp only at h
 split at h
 ·rename_i he
  simp only [Option.some.injEq] at h
  subst h
  obtain ⟨e, hb⟩ := he
  subst e
  exact ⟨h1, hb⟩
 ·cases h
/-- Where the sentence can't read a tenant there is none. -/
theorem outT_none {l : List UInt8} (h : tenS l = none) : outT l = none := by
 cases h2 : outT l with
 | none => rfl
 | some x =>
  obtain ⟨h3, h4⟩ := outT_out h2
  rw [tenS_of h3 h4] at h
  cases h
theorem tenS_ne {l r : List UInt8} {x : Int × List Nd × Int × List Nt × List Se} (h : tenS l = some (x, r)) : l ≠ [] := by
 unfold tenS at h
 obtain ⟨⟨p, l1⟩, g1, h⟩ := bind_out h
 have := pie_le (pieO_out g1)
 rintro rfl
 simp at this
theorem shT_yes {s : ByteArray} {r : List UInt8} {x : Int × List Nd × Int × List Nt × List Se} (h : tenS s.data.toList = some (x, r)) (e : shTen x = s) : outT s.data.toList = some x := by
 cases hb : tenB x with
 | false =>
  rw [shTen_no hb] at e
  exact absurd (by rw [← e]; rfl) (tenS_ne h)
 | true =>
  have h1 := tenO_of h hb
  have h2 := ten_parse h1 hb
  rw [shTen_yes hb] at e
  have e2 : tenL x = s.data.toList := by rw [← e]
  rw [← e2] at h2
  have hr : r = [] := by simpa using h2
  subst hr
  unfold outT
  rw [h1, Option.bind_some]
  simp [hb]
theorem shT_not {s : ByteArray} {r : List UInt8} {x : Int × List Nd × Int × List Nt × List Se} (h : tenS s.data.toList = some (x, r)) (e : ¬ shTen x = s) : outT s.data.toList = none := by
 cases h2 : outT s.data.toList with
 | none => rfl
 | some y =>
  obtain ⟨h3, h4⟩ := outT_out h2
  have h5 := tenS_of h3 h4
  rw [h] at h5
  simp only [Option.some.injEq, Prod.mk.injEq] at h5
  obtain ⟨rfl, rfl⟩ := h5
  have h6 := ten_parse h3 h4
  rw [List.append_nil] at h6
  exfalso
  apply e
  rw [shTen_yes h4, ← h6]
end Go.Proofs.YtknckbedddeijaaGreat
