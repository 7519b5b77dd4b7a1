/- What is shown of a frame that was read; the sentence's ReadFrame. -/
import Derived.Test.YthicdhjipebghaaFWhole
import Derived.Test.YthicdhjipebghaaFShow
import Derived.Test.YthicdhjipebghaaTSpecCall
import Derived.Test.YthicdhjipebghaaTTake
import Derived.Test.YthicdhjipebghaaTCallIff
import Derived.Test.YthicdhjipebghaaPReg
import Derived.Deep.RegionHeld3
import Derived.Deep.AppendLies
import Derived.Deep.CutRange
namespace Go.Proofs.Ythicdhjipebghaa
open Go.RowKit
set_option linter.unusedVariables false
theorem insC_parse {l r : List UInt8} {c : Cn} (h : insCO l = some (c, r)) (hc : callP (caOf c)) : l = varL (shC (caOf c)).size ++ ((shC (caOf c)).data.toList ++ r) := by
  unfold insCO at h
  obtain ⟨⟨p, r1⟩, h1, h⟩ := bind_out h
  obtain ⟨⟨x, r2⟩, h2, h⟩ := bind_out h
  dsimp only at h1 h2 h
  split at h
  · rename_i he
    subst he
    simp only [Option.some.injEq, Prod.mk.injEq] at h
    obtain ⟨rfl, rfl⟩ := h
    have h3 := shC_parse h2 hc
    rw [List.append_nil] at h3
    have hz : (shC (caOf x)).size = p.length := by rw [← h3]; simp
    rw [hz, h3]
    exact (pieO_out h1).2
  · cases h
theorem slo_parse {l r : List UInt8} {a : Sl} (h : sloO l = some (a, r)) (hc : callP a.x) : l = slotL a ++ r := by
  unfold sloO at h
  obtain ⟨⟨x1, l3⟩, g1, h⟩ := bind_out h
  obtain ⟨⟨x2, l4⟩, g2, h⟩ := bind_out h
  obtain ⟨⟨x3, l5⟩, g3, h⟩ := bind_out h
  obtain ⟨⟨x4, l6⟩, g4, h⟩ := bind_out h
  dsimp only at g1 g2 g3 g4
  simp only [Option.some.injEq, Prod.mk.injEq] at h
  obtain ⟨rfl, rfl⟩ := h
  rw [(numO_out g1).2, (numO_out g2).2, (numO_out g3).2, insC_parse g4 hc]
  simp only [slotL, varsL, List.flatMap_cons, List.flatMap_nil, List.append_nil, Int.toNat_natCast, List.append_assoc]
theorem slos_parse (n : Nat) : ∀ (l : List UInt8) (L : List Sl), slosO n l = some L → (∀ a ∈ L, callP a.x) → l = slotsL L := by
  induction n with
  | zero =>
    intro l L h _
    simp only [slosO] at h
    split at h
    · rename_i he
      simp only [Option.some.injEq] at h
      subst he h
      rfl
    · cases h
  | succ n ih =>
    intro l L h hc
    simp only [slosO] at h
    split at h
    · rename_i he
      simp only [Option.some.injEq] at h
      subst he h
      rfl
    · obtain ⟨⟨x, l1⟩, h1, h⟩ := bind_out h
      obtain ⟨L2, h2, h⟩ := bind_out h
      dsimp only at h1 h2
      simp only [Option.some.injEq] at h
      subst h
      rw [slo_parse h1 (hc x (List.mem_cons_self ..)), ih l1 L2 h2 (fun a ha => hc a (List.mem_cons_of_mem _ ha))]
      simp only [slotsL, List.flatMap_cons]
/-- A slot as the sentence reads it. -/
noncomputable def sloS (l : List UInt8) : Option (Sl × List UInt8) :=
  (numO l).bind fun a => (numO a.2).bind fun b => (numO b.2).bind fun c => (pieO c.2).bind fun d => (outC d.1).bind fun x => some (⟨(a.1 : Int), (b.1 : Int), (c.1 : Int), x⟩, d.2)
theorem outC_out {l : List UInt8} {x : Ca} (h : outC l = some x) : ∃ c, callO l = some (c, []) ∧ x = caOf c ∧ callP x := by
  unfold outC at h
  obtain ⟨⟨c, r⟩, h1, h⟩ := bind_out h
  dsimp only at h
  split at h
  · rename_i he
    simp only [Option.some.injEq] at h
    subst h
    obtain ⟨e, hp⟩ := he
    subst e
    exact ⟨c, h1, rfl, hp⟩
  · cases h
theorem sloS_of {l r : List UInt8} {a : Sl} (h : sloO l = some (a, r)) (hp : callP a.x) : sloS l = some (a, r) := by
  unfold sloO at h
  obtain ⟨⟨x1, l3⟩, g1, h⟩ := bind_out h
  obtain ⟨⟨x2, l4⟩, g2, h⟩ := bind_out h
  obtain ⟨⟨x3, l5⟩, g3, h⟩ := bind_out h
  obtain ⟨⟨x4, l6⟩, g4, h⟩ := bind_out h
  dsimp only at g1 g2 g3 g4
  simp only [Option.some.injEq, Prod.mk.injEq] at h
  obtain ⟨rfl, rfl⟩ := h
  unfold insCO at g4
  obtain ⟨⟨p, r1⟩, h1, g4⟩ := bind_out g4
  obtain ⟨⟨x, r2⟩, h2, g4⟩ := bind_out g4
  dsimp only at h1 h2 g4
  split at g4
  · rename_i he
    subst he
    simp only [Option.some.injEq, Prod.mk.injEq] at g4
    obtain ⟨rfl, rfl⟩ := g4
    have e := outC_of h2
    rw [if_pos ⟨rfl, hp⟩] at e
    unfold sloS
    simp only [g1, g2, g3, h1, e, Option.bind_some]
  · cases g4
theorem sloO_of {l r : List UInt8} {a : Sl} (h : sloS l = some (a, r)) : sloO l = some (a, r) ∧ callP a.x := by
  unfold sloS at h
  obtain ⟨⟨x1, l3⟩, g1, h⟩ := bind_out h
  obtain ⟨⟨x2, l4⟩, g2, h⟩ := bind_out h
  obtain ⟨⟨x3, l5⟩, g3, h⟩ := bind_out h
  obtain ⟨⟨p, l6⟩, g4, h⟩ := bind_out h
  obtain ⟨x, g5, h⟩ := bind_out h
  dsimp only at g1 g2 g3 g4 g5
  simp only [Option.some.injEq, Prod.mk.injEq] at h
  obtain ⟨rfl, rfl⟩ := h
  obtain ⟨c, h1, rfl, hp⟩ := outC_out g5
  refine ⟨?_, hp⟩
  unfold sloO insCO
  simp only [g1, g2, g3, g4, h1, Option.bind_some, if_true]
theorem sloS_nil : sloS [] = none := by
  unfold sloS
  rw [numO_no (fun x r h => by have := num_le h; simp at this)]
  rfl
theorem sloS_le {l r : List UInt8} {a : Sl} (h : sloS l = some (a, r)) : r.length < l.length := by
  unfold sloS at h
  obtain ⟨⟨x1, l3⟩, g1, h⟩ := bind_out h
  obtain ⟨⟨x2, l4⟩, g2, h⟩ := bind_out h
  obtain ⟨⟨x3, l5⟩, g3, h⟩ := bind_out h
  obtain ⟨⟨p, l6⟩, g4, h⟩ := bind_out h
  obtain ⟨x, g5, h⟩ := bind_out h
  dsimp only at g1 g2 g3 g4 g5
  simp only [Option.some.injEq, Prod.mk.injEq] at h
  obtain ⟨rfl, rfl⟩ := h
  have m1 := num_le (numO_out g1)
  have m2 := num_le (numO_out g2)
  have m3 := num_le (numO_out g3)
  have m4 := pie_le (pieO_out g4)
  omega
/-- So many slots, and what is left. -/
noncomputable def rdS : Nat → List UInt8 → Option (List Sl × List UInt8)
  | 0, l => some ([], l)
  | n + 1, l => (sloS l).bind fun a => (rdS n a.2).bind fun d => some (a.1 :: d.1, d.2)
theorem rdS_snoc (n : Nat) : ∀ {l q r : List UInt8} {L : List Sl} {x : Sl}, rdS n l = some (L, q) → sloS q = some (x, r) → rdS (n + 1) l = some (L ++ [x], r) := by
  induction n with
  | zero =>
    intro l q r L x h hx
    simp only [rdS, Option.some.injEq, Prod.mk.injEq] at h
    obtain ⟨rfl, rfl⟩ := h
    simp only [rdS, hx, Option.bind_some, List.nil_append]
  | succ n ih =>
    intro l q r L x h hx
    rw [rdS] at h
    obtain ⟨⟨y, l1⟩, h1, h⟩ := bind_out h
    obtain ⟨⟨L2, l2⟩, h2, h⟩ := bind_out h
    dsimp only at h1 h2
    simp only [Option.some.injEq, Prod.mk.injEq] at h
    obtain ⟨rfl, rfl⟩ := h
    rw [rdS, h1, Option.bind_some, ih h2 hx, Option.bind_some, List.cons_append]
theorem rdS_det (k : Nat) : ∀ {l q : List UInt8} {L M : List Sl} {m : Nat}, rdS k l = some (L, q) → rdS m l = some (M, []) → k ≤ m ∧ rdS (m - k) q = some (M.drop k, []) ∧ M.take k = L := by
  induction k with
  | zero =>
    intro l q L M m h hm
    simp only [rdS, Option.some.injEq, Prod.mk.injEq] at h
    obtain ⟨rfl, rfl⟩ := h
    exact ⟨Nat.zero_le _, hm, rfl⟩
  | succ k ih =>
    intro l q L M m h hm
    rw [rdS] at h
    obtain ⟨⟨y, l1⟩, h1, h⟩ := bind_out h
    obtain ⟨⟨L2, l2⟩, h2, h⟩ := bind_out h
    dsimp only at h1 h2
    simp only [Option.some.injEq, Prod.mk.injEq] at h
    obtain ⟨rfl, rfl⟩ := h
    cases m with
    | zero =>
      simp only [rdS, Option.some.injEq, Prod.mk.injEq] at hm
      obtain ⟨_, rfl⟩ := hm
      rw [sloS_nil] at h1
      cases h1
    | succ m =>
      rw [rdS, h1, Option.bind_some] at hm
      obtain ⟨⟨M2, l3⟩, h3, hm⟩ := bind_out hm
      simp only [Option.some.injEq, Prod.mk.injEq] at hm
      obtain ⟨rfl, rfl⟩ := hm
      obtain ⟨e1, e2, e3⟩ := ih h2 h3
      refine ⟨by omega, ?_, ?_⟩
      · rw [Nat.succ_sub_succ, List.drop_succ_cons]; exact e2
      · rw [List.take_succ_cons, e3]
theorem rdS_of (n : Nat) : ∀ (l : List UInt8) (L : List Sl), slosO n l = some L → (∀ a ∈ L, callP a.x) → rdS L.length l = some (L, []) := by
  induction n with
  | zero =>
    intro l L h _
    simp only [slosO] at h
    split at h
    · rename_i he
      simp only [Option.some.injEq] at h
      subst he h
      rfl
    · cases h
  | succ n ih =>
    intro l L h hc
    simp only [slosO] at h
    split at h
    · rename_i he
      simp only [Option.some.injEq] at h
      subst he h
      rfl
    · obtain ⟨⟨x, l1⟩, h1, h⟩ := bind_out h
      obtain ⟨L2, h2, h⟩ := bind_out h
      dsimp only at h1 h2
      simp only [Option.some.injEq] at h
      subst h
      rw [List.length_cons, rdS, sloS_of h1 (hc x (List.mem_cons_self ..)), Option.bind_some, ih l1 L2 h2 (fun a ha => hc a (List.mem_cons_of_mem _ ha)), Option.bind_some]
theorem slosO_of (n : Nat) : ∀ (l : List UInt8) (L : List Sl), rdS L.length l = some (L, []) → L.length ≤ n → slosO n l = some L := by
  induction n with
  | zero =>
    intro l L h hn
    obtain rfl : L = [] := List.eq_nil_of_length_eq_zero (by omega)
    simp only [List.length_nil, rdS, Option.some.injEq, Prod.mk.injEq] at h
    simp [slosO, h.2]
  | succ n ih =>
    intro l L h hn
    cases L with
    | nil =>
      simp only [List.length_nil, rdS, Option.some.injEq, Prod.mk.injEq] at h
      simp [slosO, h.2]
    | cons x L =>
      rw [List.length_cons, rdS] at h
      obtain ⟨⟨y, l1⟩, h1, h⟩ := bind_out h
      obtain ⟨⟨L2, l2⟩, h2, h⟩ := bind_out h
      dsimp only at h1 h2
      simp only [Option.some.injEq, Prod.mk.injEq, List.cons.injEq] at h
      obtain ⟨⟨rfl, rfl⟩, rfl⟩ := h
      have hl : l ≠ [] := fun e => by rw [e, sloS_nil] at h1; cases h1
      simp only [slosO, if_neg hl, (sloO_of h1).1, Option.bind_some, ih l1 L2 h2 (by simp at hn; omega)]
/-- What it is for a text to be a frame's. -/
theorem outF_out {l : List UInt8} {M : List Sl} (h : outF l = some M) : frameB M = true ∧ l = frameL M ∧ rdS M.length (l.drop 1) = some (M, []) := by
  unfold outF at h
  obtain ⟨L, h1, h⟩ := bind_out h
  split at h
  · rename_i hb
    simp only [Option.some.injEq] at h
    subst h
    unfold frmO at h1
    split at h1
    · cases h1
    · rename_i c r
      split at h1
      · rename_i hc
        subst hc
        have hp : ∀ a ∈ L, callP a.x := fun a ha => (frFrom_mem L hb a ha).x
        exact ⟨hb, by rw [frameL, ← slos_parse 6 r L h1 hp], rdS_of 6 r L h1 hp⟩
      · cases h1
  · cases h
theorem outF_stop {l q : List UInt8} {L : List Sl} {k : Nat} (h : rdS k (l.drop 1) = some (L, q)) (hq : q ≠ []) (hs : sloS q = none) : outF l = none := by
  cases h2 : outF l with
  | none => rfl
  | some M =>
    obtain ⟨_, _, h3⟩ := outF_out h2
    obtain ⟨e1, e2, _⟩ := rdS_det k h h3
    exfalso
    cases hm : M.length - k with
    | zero =>
      rw [hm] at e2
      simp only [rdS, Option.some.injEq, Prod.mk.injEq] at e2
      exact hq e2.2
    | succ j =>
      rw [hm, rdS, hs] at e2
      cases e2
theorem shF_is {s : ByteArray} {L : List Sl} {k : Nat} (hk : k = L.length) (h : rdS k (s.data.toList.drop 1) = some (L, [])) (hne : s.size ≠ 0) : outF s.data.toList = if shF L = s then some L else none := by
  subst hk
  by_cases e : shF L = s
  · rw [if_pos e]
    cases hb : frameB L with
    | false =>
      rw [shF_no hb] at e
      exact absurd (by rw [← e]; rfl) hne
    | true =>
      rw [shF_yes hb] at e
      have e2 : s.data.toList = 102 :: slotsL L := by rw [← e]; rfl
      rw [e2] at h
      unfold outF
      rw [e2]
      simp only [frmO, if_true]
      have hh : slosO 6 (slotsL L) = some L := slosO_of 6 (slotsL L) L h (frameB_len hb)
      rw [hh, Option.bind_some, if_pos hb]
  · rw [if_neg e]
    cases h2 : outF s.data.toList with
    | none => rfl
    | some M =>
      obtain ⟨h1, h3, h4⟩ := outF_out h2
      obtain ⟨e1, e2, e3⟩ := rdS_det _ h h4
      exfalso
      apply e
      have hm : M = L := by
        cases hm : M.length - L.length with
        | zero => rw [← e3, List.take_of_length_le (by omega)]
        | succ j =>
          rw [hm, rdS, sloS_nil] at e2
          cases e2
      rw [← hm, shF_yes h1, ← h3]
theorem outF_long {s : ByteArray} (h : 1600 < s.size) : outF s.data.toList = none := by
  cases h2 : outF s.data.toList with
  | none => rfl
  | some M =>
    obtain ⟨h1, h3, _⟩ := outF_out h2
    have h4 := shF_le h1
    rw [shF_yes h1, ← h3] at h4
    have e : (⟨s.data.toList.toArray⟩ : ByteArray).size = s.size := by rw [ba_of]
    omega
theorem outF_nil {s : ByteArray} (h : s.size = 0) : outF s.data.toList = none := by
  have h0 : s.data.toList = [] := List.eq_nil_of_length_eq_zero (by simpa using h)
  rw [h0]
  rfl
theorem outC_nil : outC [] = none := by
  unfold outC callO
  rw [numO_no (fun x r h => by have := num_le h; simp at this)]
  rfl
theorem specReadCall_nil (w : World) :
    Calls Try.prog 19 #[.string ⟨#[]⟩] w fun e w' => e = .returned (.tuple #[caV caZ, .bool false]) ∧ Below w.heap.size w w' := by
  have h := specReadCall_any ⟨#[]⟩ w (by decide)
  have e : outC (⟨#[]⟩ : ByteArray).data.toList = none := outC_nil
  rw [e] at h
  exact h
theorem vars3_yes {l r : List UInt8} {xs : List Nat} (h : varsO 3 l = some (xs, r)) : ∃ a b c r1 r2, xs = [a, b, c] ∧ numO l = some (a, r1) ∧ numO r1 = some (b, r2) ∧ numO r2 = some (c, r) := by
  rw [varsO] at h
  obtain ⟨⟨a, r1⟩, h1, h⟩ := bind_out h
  obtain ⟨⟨ys, r2⟩, h2, h⟩ := bind_out h
  dsimp only at h1 h2
  simp only [Option.some.injEq, Prod.mk.injEq] at h
  obtain ⟨rfl, rfl⟩ := h
  obtain ⟨n, m, r3, rfl, h3, h4⟩ := varsO_two_yes h2
  exact ⟨a, n, m, r1, r3, rfl, h1, h3, h4⟩
theorem slo_no_vars {l : List UInt8} (h : varsO 3 l = none) : sloS l = none := by
  unfold sloS
  cases h1 : numO l with
  | none => rfl
  | some a =>
    rw [varsO, h1, Option.bind_some] at h
    rw [Option.bind_some]
    have h2 : varsO 2 a.2 = none := by
      cases h3 : varsO 2 a.2 with
      | none => rfl
      | some y => rw [h3] at h; cases h
    exact varsO_two_no h2 (fun d e => (pieO e.2).bind fun f => (outC f.1).bind fun x => some ((⟨(a.1 : Int), (d.1 : Int), (e.1 : Int), x⟩ : Sl), f.2))
/-- What the sentence's ReadFrame hands back. -/
def RdFS (l : List UInt8) (w : World) (e : Ending) (w' : World) : Prop :=
  (∃ (v : Value) (L : List Sl) (b : Bool), e = .returned (.tuple #[v, .bool b]) ∧ Hid (Row slE w' w'.heap.size v L) ∧ Hid ((outF l = none ∧ L = [] ∧ b = false) ∨ (outF l = some L ∧ b = true))) ∧ Below w.heap.size w w'
theorem rowZ (w : World) : Own slE 49 (w.alloc (.cells #[] 49)) w.heap.size (.slice (some ⟨w.heap.size, 0, none⟩) 0 0) [] :=
  World.ownsRow_made w #[] 0 (Nat.le_refl _) (by decide) rfl
theorem step_Sl {w : World} {ops : Array Oper} {o : Oper} {a : Act} {KK : Act → World → Prop} {Q : Exit → Act → World → Prop} {Z : Prop} (hgd : o.guard = none) (s x : Operand)
    (ho : o.op = .call { callee := .builtin .append, args := #[s, x], argTypes := #[28, 28] })
    (base : Nat) (v : Value) (L : List Sl) (d : Sl) (hs : a.eval s = v) (hown : Own slE 49 w base v L) (ad : Addr) (c : Nat) (hx : a.eval x = .slice (some ad) 1 c)
    (hnews : ∀ j u, (slE.f [d])[j]? = some u → w.cell? (ad.add j) = some u) (hlen : L.length ≤ 2000000) (hbase : base ≤ w.heap.size)
    (h : ∀ g cap' w', Own slE 49 w' base (.slice (some ⟨g, 0, none⟩) (L.length + 1) cap') (L ++ [d]) → Only (fun k => some k = v.ownBlock) w w' → (v.ownBlock = some g ∨ g = w.heap.size) → g < w'.heap.size →
      KK (a.put o.dst (.slice (some ⟨g, 0, none⟩) (L.length + 1) cap')) w') : if Region.wanted o (yielded ops a.tmps) = true then Oper.wp Try.prog o a w KK Q else Z := by
  obtain ⟨i0, hi, hz0, hz1, hz2⟩ := infoSlX
  refine step_append_lies w hgd s x 28 ho base 49 i0 (.agg zSl) 9 96 Try.underlying28 hi hz0 hz1 hz2 rfl (by decide) v L.length (slE.f L) hs hown ad 1 c (slE.f [d]) hx (slE.f_len [d]) hnews (slE.f_one [d]) (by omega) (by unfold maxLen; omega) (by omega) hbase w.heap.size rfl ?_
  intro g cap' w' hown' hgrow hloc hg
  refine h g cap' w' (Own.mk hown' (by simp) (by rw [slE.f_append])) (grown_only hgrow) hloc hg
def SlIn3 (g : Nat) (a b c : Nat) (g2 : Nat) (x : Ca) (w' : World) : Prop := w'.cell? ⟨g, 0, none⟩ = some (.int .i64 (a : Nat)) ∧ w'.cell? ⟨g, 1, none⟩ = some (.int .i64 (b : Nat)) ∧ w'.cell? ⟨g, 2, none⟩ = some (.int .i64 (c : Nat)) ∧ w'.cell? ⟨g2, 0, none⟩ = some (.int .i64 x.k) ∧ w'.cell? ⟨g2, 1, none⟩ = some (.string x.p) ∧ w'.cell? ⟨g2, 2, none⟩ = some (.string x.to) ∧ w'.cell? ⟨g2, 3, none⟩ = some (.int .i64 x.n) ∧ w'.cell? ⟨g2, 4, none⟩ = some (.int .i64 x.m) ∧ w'.cell? ⟨g2, 5, none⟩ = some (.string x.d)
set_option maxRecDepth 100000 in
set_option maxHeartbeats 16000000 in
theorem specReadFrame_any (s : ByteArray) (w : World) (hs : s.size ≤ 1048576) :
    Calls Try.prog 8 #[.string s] w (RdFS s.data.toList w) := by
  go_enter Try.func8, Try.ntmps8
  go_upto_region 2 with fail
  obtain ⟨W, hW⟩ : ∃ W, w.alloc (.cells #[] 49) = W := ⟨_, rfl⟩
  have HO : Hid (Own slE 49 W w.heap.size (.slice (some ⟨w.heap.size, 0, none⟩) 0 0) []) := by rw [← hW]; exact rowZ w
  have HB : Hid (Below w.heap.size w W) := by rw [← hW]; exact one_below _ _
  simp only [hW]
  clear hW
  by_cases hz : s.size = 0
  · have h1 : ((s.size : Int) == 0) = true := by rw [hz]; rfl
    have HP : Hid (outF s.data.toList = none) := outF_nil hz
    have HF : Hid (Row slE W W.heap.size (.slice (some ⟨w.heap.size, 0, none⟩) 0 0) []) := HO.out.rowAll
    clear HO hz
    go_wp2_with fail
    exact bodyPost_ret (v := .tuple #[.slice (some ⟨w.heap.size, 0, none⟩) 0 0, .bool false]) (by simp [results, Try.results8, go_sem]) rfl ⟨⟨_, [], false, rfl, HF, .inl ⟨HP.out, rfl, rfl⟩⟩, HB.out⟩
  have h1 : ((s.size : Int) == 0) = false := by rw [beq_eq_false_iff_ne]; omega
  by_cases hl : 1600 < s.size
  · have h2 : (1600 : Int) < (s.size : Int) := by omega
    have HP : Hid (outF s.data.toList = none) := outF_long hl
    have HF : Hid (Row slE W W.heap.size (.slice (some ⟨w.heap.size, 0, none⟩) 0 0) []) := HO.out.rowAll
    clear HO hz hl
    go_wp2_with fail
    exact bodyPost_ret (v := .tuple #[.slice (some ⟨w.heap.size, 0, none⟩) 0 0, .bool false]) (by simp [results, Try.results8, go_sem]) rfl ⟨⟨_, [], false, rfl, HF, .inl ⟨HP.out, rfl, rfl⟩⟩, HB.out⟩
  have h2 : ¬ (1600 : Int) < (s.size : Int) := by omega
  have HZ := Hid.intro hz
  have hl2 : s.size ≤ 1600 := by omega
  have hs1 : 1 ≤ s.size := by omega
  clear hz hl
  go_wp2_with fail
  clear h1 h2
  go_loopw [4, 5] (fun x i wr => ∃ (a : Nat) (va : Option Addr) (vc : Nat) (L : List Sl), i = .int .i64 (a : Nat) ∧ x = .slice va L.length vc ∧ a ≤ s.size ∧ L.length ≤ a ∧ Hid (rdS L.length (s.data.toList.drop 1) = some (L, s.data.toList.drop a)) ∧ Hid (Own slE 49 wr w.heap.size (.slice va L.length vc) L) ∧ Hid (Below w.heap.size w wr)) (fun _ i _ => s.size - (intOf i).toNat)
  case atStart => exact ⟨1, _, _, [], rfl, rfl, hs1, by simp, by unfold Hid; rfl, HO, HB⟩
  case round =>
    clear HO HB
    obtain ⟨a, va, vc, L, rfl, rfl, hal, hLa, HN, HO, HB⟩ := hrel
    have hwr := HB.out.size
    by_cases hlt : a < s.size
    · have hjn : (a : Int) < (s.size : Int) := by omega
      have HQN : Hid (s.data.toList.drop a ≠ []) := fun h => by
        have e := congrArg List.length h
        have e2 : s.data.toList.length = s.size := by simp
        rw [List.length_drop, List.length_nil] at e
        omega
      go_wp2_with fail
      refine (l8Vars_any s a 3 _ hs hal (by omega) (by omega)).mono ?_
      rintro e x7 ⟨⟨v5, ⟨xs, a5, rfl, HV, ha5, hl, hn5⟩ | ⟨rfl, HV⟩⟩, b⟩
      rotate_left 1
      · have HP : Hid (outF s.data.toList = none) := outF_stop HN.out HQN.out (slo_no_vars HV.out)
        clear HV
        replace HB := Hid.intro (HB.out.trans (b.mono hwr))
        clear b
        go_wp2_with fail
        refine (l8Take_none s _).mono ?_
        rintro e x8 ⟨rfl, b⟩
        replace HB := Hid.intro (HB.out.trans (b.mono HB.out.size))
        clear b
        go_wp2_with fail
        refine (specReadCall_nil _).mono ?_
        rintro e x9 ⟨rfl, b⟩
        replace HB := Hid.intro (HB.out.trans (b.mono HB.out.size))
        clear b
        go_upto_region 9 with fail
        obtain ⟨xA, hY, bY, zY, cY, fY⟩ := boxed x9 #[.int .i64 caZ.k, .string caZ.p, .string caZ.to, .int .i64 caZ.n, .int .i64 caZ.m, .string caZ.d] 45
        try simp only [hY]
        replace HB := Hid.intro (HB.out.trans (bY.mono HB.out.size))
        clear hY cY fY zY bY
        clear HO
        go_wp2
        exact bodyPost_ret (v := .tuple #[.slice (some ⟨xA.heap.size, 0, none⟩) 0 0, .bool false]) (by simp [results, Try.results8, go_sem]) rfl ⟨⟨_, [], false, rfl, (rowZ xA).rowAll, .inl ⟨HP.out, rfl, rfl⟩⟩, HB.out.trans ((one_below xA _).mono HB.out.size)⟩
      obtain ⟨x0, x1, x2, r1, r2, rfl, hx0, hx1, hx2⟩ := vars3_yes HV.out
      have HX : Hid (numO (s.data.toList.drop a) = some (x0, r1) ∧ numO r1 = some (x1, r2) ∧ numO r2 = some (x2, s.data.toList.drop a5)) := ⟨hx0, hx1, hx2⟩
      obtain ⟨g5, cap5, rfl, hcap5, hg5, hlt5, hcell5⟩ := hn5
      simp only [List.length_cons, List.length_nil, Nat.zero_add, Nat.reduceAdd] at hcap5 ⊢
      have HC5 : Hid (x7.cell? ⟨g5, 0, none⟩ = some (.int .i64 (x0 : Nat)) ∧ x7.cell? ⟨g5, 1, none⟩ = some (.int .i64 (x1 : Nat)) ∧ x7.cell? ⟨g5, 2, none⟩ = some (.int .i64 (x2 : Nat))) := ⟨hcell5 0 (by simp), hcell5 1 (by simp), hcell5 2 (by simp)⟩
      have hg5v : ¬ (Value.slice va L.length vc).ownBlock = some g5 := fun h => by have := (HO.out.lt g5 h).2; omega
      replace HO := Hid.intro (HO.out.kept b)
      replace HB := Hid.intro (HB.out.trans (b.mono hwr))
      clear HV hcell5 hl b hx0 hx1 hx2
      go_wp2_with fail
      refine (l8Take_any s a5 _ hs ha5).mono ?_
      rintro e x8 ⟨⟨p7, a8, rfl, HPI, ha8⟩ | ⟨rfl, HPI⟩, b⟩
      rotate_left 1
      · have HP : Hid (outF s.data.toList = none) := outF_stop HN.out HQN.out (by unfold sloS; simp only [HX.out.1, HX.out.2.1, HX.out.2.2, HPI.out, Option.bind_some, Option.bind_none])
        replace HB := Hid.intro (HB.out.trans (b.mono HB.out.size))
        clear b HC5
        go_wp2_with fail
        refine (specReadCall_nil _).mono ?_
        rintro e x9 ⟨rfl, b⟩
        replace HB := Hid.intro (HB.out.trans (b.mono HB.out.size))
        clear b
        go_upto_region 9 with fail
        obtain ⟨xA, hY, bY, zY, cY, fY⟩ := boxed x9 #[.int .i64 caZ.k, .string caZ.p, .string caZ.to, .int .i64 caZ.n, .int .i64 caZ.m, .string caZ.d] 45
        try simp only [hY]
        replace HB := Hid.intro (HB.out.trans (bY.mono HB.out.size))
        clear hY cY fY zY bY
        clear HO
        go_wp2
        exact bodyPost_ret (v := .tuple #[.slice (some ⟨xA.heap.size, 0, none⟩) 0 0, .bool false]) (by simp [results, Try.results8, go_sem]) rfl ⟨⟨_, [], false, rfl, (rowZ xA).rowAll, .inl ⟨HP.out, rfl, rfl⟩⟩, HB.out.trans ((one_below xA _).mono HB.out.size)⟩
      have hp7 : p7.size ≤ 1048576 := by
        have h := congrArg List.length (pieO_out HPI.out).2
        simp only [List.length_append, List.length_drop, Array.length_toList] at h
        have h2 : p7.data.size = p7.size := rfl
        have h3 : s.data.size = s.size := rfl
        omega
      replace HO := Hid.intro (HO.out.kept b)
      replace HB := Hid.intro (HB.out.trans (b.mono HB.out.size))
      have hwx8 : x7.heap.size ≤ x8.heap.size := b.size
      replace HC5 := Hid.intro (And.intro (atCell b HC5.out.1 hlt5) (And.intro (atCell b HC5.out.2.1 hlt5) (atCell b HC5.out.2.2 hlt5)))
      clear b
      go_wp2_with fail
      refine (specReadCall_any p7 _ hp7).mono ?_
      rintro e y9 ⟨rfl, b⟩
      replace HO := Hid.intro (HO.out.kept b)
      replace HB := Hid.intro (HB.out.trans (b.mono HB.out.size))
      have hwx9 : x8.heap.size ≤ y9.heap.size := b.size
      replace HC5 := Hid.intro (And.intro (atCell b HC5.out.1 (by omega)) (And.intro (atCell b HC5.out.2.1 (by omega)) (atCell b HC5.out.2.2 (by omega))))
      clear b
      have i5 : ¬ (a8 : Int) < 0 := by omega
      cases hor : outC p7.data.toList with
      | none =>
        have HP : Hid (outF s.data.toList = none) := outF_stop HN.out HQN.out (by unfold sloS; simp only [HX.out.1, HX.out.2.1, HX.out.2.2, HPI.out, hor, Option.bind_some, Option.bind_none])
        clear HC5
        go_upto_region 9 with fail
        obtain ⟨xA, hY, bY, zY, cY, fY⟩ := boxed y9 #[.int .i64 caZ.k, .string caZ.p, .string caZ.to, .int .i64 caZ.n, .int .i64 caZ.m, .string caZ.d] 45
        try simp only [hY]
        replace HB := Hid.intro (HB.out.trans (bY.mono HB.out.size))
        clear hY cY fY zY bY
        clear HO
        go_wp2
        exact bodyPost_ret (v := .tuple #[.slice (some ⟨xA.heap.size, 0, none⟩) 0 0, .bool false]) (by simp [results, Try.results8, go_sem]) rfl ⟨⟨_, [], false, rfl, (rowZ xA).rowAll, .inl ⟨HP.out, rfl, rfl⟩⟩, HB.out.trans ((one_below xA _).mono HB.out.size)⟩
      | some rr =>
        have HT : Hid (sloS (s.data.toList.drop a) = some (⟨(x0 : Nat), (x1 : Nat), (x2 : Nat), rr⟩, s.data.toList.drop a8)) := by
          unfold Hid sloS
          simp only [HX.out.1, HX.out.2.1, HX.out.2.2, HPI.out, hor, Option.bind_some]
        have HN2 : Hid (rdS (L.length + 1) (s.data.toList.drop 1) = some (L ++ [(⟨(x0 : Nat), (x1 : Nat), (x2 : Nat), rr⟩ : Sl)], s.data.toList.drop a8)) := rdS_snoc L.length HN.out HT.out
        have ha58 : a < a8 := by
          have h := sloS_le HT.out
          simp only [List.length_drop, Array.length_toList] at h
          have h3 : s.data.size = s.size := rfl
          omega
        clear hor HX HPI HT HN
        go_upto_region 9 with fail
        obtain ⟨x9, hY, bY, zY, cY, fY⟩ := boxed y9 #[.int .i64 rr.k, .string rr.p, .string rr.to, .int .i64 rr.n, .int .i64 rr.m, .string rr.d] 45
        try simp only [hY]
        replace HC5 := Hid.intro (And.intro (atCell bY HC5.out.1 (by omega)) (And.intro (atCell bY HC5.out.2.1 (by omega)) (atCell bY HC5.out.2.2 (by omega))))
        have hgrv : ¬ (Value.slice va L.length vc).ownBlock = some y9.heap.size := fun h => by have := (HO.out.lt _ h).2; omega
        replace HO := Hid.intro (HO.out.kept bY)
        replace HB := Hid.intro (HB.out.trans (bY.mono HB.out.size))
        have hltr : y9.heap.size < x9.heap.size := by omega
        have HSF0 : Hid (∀ y, Below x9.heap.size x9 y → SlIn3 g5 x0 x1 x2 y9.heap.size rr y) := fun y hy => ⟨atCell hy HC5.out.1 (by omega), atCell hy HC5.out.2.1 (by omega), atCell hy HC5.out.2.2 (by omega), atCell hy (cY 0) hltr, atCell hy (cY 1) hltr, atCell hy (cY 2) hltr, atCell hy (cY 3) hltr, atCell hy (cY 4) hltr, atCell hy (cY 5) hltr⟩
        clear hY cY fY zY bY HC5
        generalize y9.heap.size = gr at HSF0 hgrv ⊢
        have HSF := HSF0
        clear HSF0 hltr
        have i0 : (0 : Int) ≤ 0 ∧ (0 : Int) < (cap5 : Int) := by omega
        have i1 : (0 : Int) ≤ 1 ∧ (1 : Int) < (cap5 : Int) := by omega
        have i2 : (0 : Int) ≤ 2 ∧ (2 : Int) < (cap5 : Int) := by omega
        clear hcap5 hg5
        go_upto_region 11 with fail
        refine wp_region_held_drew (S := SlIn3 g5 x0 x1 x2 gr rr) (by kernel_rfl) (HSF.out _ (Below.refl _ _).drew) (fun hHeld => ?_)
        have BD : Hid (Below x9.heap.size x9 x9.drew) := (Below.refl _ _).drew
        replace HO := Hid.intro (HO.out.kept (w' := x9.drew) (Below.refl _ _).drew)
        replace HB : Hid (Below w.heap.size w x9.drew) := HB.out.drew
        generalize x9.drew = D at HO HB BD hHeld ⊢
        refine take1 (i := 0) (d := some 49) (v := ?_) rfl rfl (by kernel_rfl) (by kernel_rfl) (by kernel_rfl) (fun _ _ _ h => h) (Or.inl ⟨by rfl, ?_⟩) (by assumption) ?_
        rotate_left 1
        · intro w hSw
          obtain ⟨q0, q1, q2, q3, q4, q5, q6, q7, q8⟩ := hSw
          go_simp <;> with_reducible rfl
        simp only [Act.put, List.setIfInBounds_toArray]
        dsimp only [List.set_cons_succ, List.set_cons_zero]
        refine take1 (i := 1) (d := some 50) (v := ?_) rfl rfl (by kernel_rfl) (by kernel_rfl) (by kernel_rfl) (fun _ _ _ h => h) (Or.inl ⟨by rfl, ?_⟩) (by assumption) ?_
        rotate_left 1
        · intro w hSw
          obtain ⟨q0, q1, q2, q3, q4, q5, q6, q7, q8⟩ := hSw
          go_simp <;> with_reducible rfl
        simp only [Act.put, List.setIfInBounds_toArray]
        dsimp only [List.set_cons_succ, List.set_cons_zero]
        refine take1 (i := 2) (d := some 51) (v := ?_) rfl rfl (by kernel_rfl) (by kernel_rfl) (by kernel_rfl) (fun _ _ _ h => h) (Or.inl ⟨by rfl, ?_⟩) (by assumption) ?_
        rotate_left 1
        · intro w hSw
          obtain ⟨q0, q1, q2, q3, q4, q5, q6, q7, q8⟩ := hSw
          go_simp <;> with_reducible rfl
        simp only [Act.put, List.setIfInBounds_toArray]
        dsimp only [List.set_cons_succ, List.set_cons_zero]
        refine take1 (i := 3) (d := some 52) (v := ?_) rfl rfl (by kernel_rfl) (by kernel_rfl) (by kernel_rfl) (fun _ _ _ h => h) (Or.inl ⟨by rfl, ?_⟩) (by assumption) ?_
        rotate_left 1
        · intro w hSw
          obtain ⟨q0, q1, q2, q3, q4, q5, q6, q7, q8⟩ := hSw
          go_simp <;> with_reducible rfl
        simp only [Act.put, List.setIfInBounds_toArray]
        dsimp only [List.set_cons_succ, List.set_cons_zero]
        refine take1 (i := 4) (d := some 53) (v := ?_) rfl rfl (by kernel_rfl) (by kernel_rfl) (by kernel_rfl) (fun _ _ _ h => h) (Or.inl ⟨by rfl, ?_⟩) (by assumption) ?_
        rotate_left 1
        · intro w hSw
          obtain ⟨q0, q1, q2, q3, q4, q5, q6, q7, q8⟩ := hSw
          go_simp <;> with_reducible rfl
        simp only [Act.put, List.setIfInBounds_toArray]
        dsimp only [List.set_cons_succ, List.set_cons_zero]
        refine take1 (i := 5) (d := some 54) (v := ?_) rfl rfl (by kernel_rfl) (by kernel_rfl) (by kernel_rfl) (fun _ _ _ h => h) (Or.inl ⟨by rfl, ?_⟩) (by assumption) ?_
        rotate_left 1
        · intro w hSw
          obtain ⟨q0, q1, q2, q3, q4, q5, q6, q7, q8⟩ := hSw
          go_simp <;> with_reducible rfl
        simp only [Act.put, List.setIfInBounds_toArray]
        dsimp only [List.set_cons_succ, List.set_cons_zero]
        refine take1 (i := 6) (d := some 55) (v := ?_) rfl rfl (by kernel_rfl) (by kernel_rfl) (by kernel_rfl) (fun _ _ _ h => h) (Or.inl ⟨by rfl, ?_⟩) (by assumption) ?_
        rotate_left 1
        · intro w hSw
          obtain ⟨q0, q1, q2, q3, q4, q5, q6, q7, q8⟩ := hSw
          go_simp <;> with_reducible rfl
        simp only [Act.put, List.setIfInBounds_toArray]
        dsimp only [List.set_cons_succ, List.set_cons_zero]
        refine take1 (i := 7) (d := some 56) (v := ?_) rfl rfl (by kernel_rfl) (by kernel_rfl) (by kernel_rfl) (fun _ _ _ h => h) (Or.inl ⟨by rfl, ?_⟩) (by assumption) ?_
        rotate_left 1
        · intro w hSw
          obtain ⟨q0, q1, q2, q3, q4, q5, q6, q7, q8⟩ := hSw
          go_simp <;> with_reducible rfl
        simp only [Act.put, List.setIfInBounds_toArray]
        dsimp only [List.set_cons_succ, List.set_cons_zero]
        refine take1 (i := 8) (d := some 57) (v := ?_) rfl rfl (by kernel_rfl) (by kernel_rfl) (by kernel_rfl) (fun _ _ _ h => h) (Or.inl ⟨by rfl, ?_⟩) (by assumption) ?_
        rotate_left 1
        · intro w hSw
          obtain ⟨q0, q1, q2, q3, q4, q5, q6, q7, q8⟩ := hSw
          go_simp <;> with_reducible rfl
        simp only [Act.put, List.setIfInBounds_toArray]
        dsimp only [List.set_cons_succ, List.set_cons_zero]
        refine take1 (i := 9) (d := some 58) (v := ?_) rfl rfl (by kernel_rfl) (by kernel_rfl) (by kernel_rfl) (fun _ _ _ h => h) (Or.inl ⟨by rfl, ?_⟩) (by assumption) ?_
        rotate_left 1
        · intro w hSw
          obtain ⟨q0, q1, q2, q3, q4, q5, q6, q7, q8⟩ := hSw
          go_simp <;> with_reducible rfl
        simp only [Act.put, List.setIfInBounds_toArray]
        dsimp only [List.set_cons_succ, List.set_cons_zero]
        refine take1 (i := 10) (d := some 59) (v := ?_) rfl rfl (by kernel_rfl) (by kernel_rfl) (by kernel_rfl) (fun _ _ _ h => h) (Or.inl ⟨by rfl, ?_⟩) (by assumption) ?_
        rotate_left 1
        · intro w hSw
          obtain ⟨q0, q1, q2, q3, q4, q5, q6, q7, q8⟩ := hSw
          go_simp <;> with_reducible rfl
        simp only [Act.put, List.setIfInBounds_toArray]
        dsimp only [List.set_cons_succ, List.set_cons_zero]
        refine take1 (i := 11) (d := some 60) (v := ?_) rfl rfl (by kernel_rfl) (by kernel_rfl) (by kernel_rfl) (fun _ _ _ h => h) (Or.inl ⟨by rfl, ?_⟩) (by assumption) ?_
        rotate_left 1
        · intro w hSw
          obtain ⟨q0, q1, q2, q3, q4, q5, q6, q7, q8⟩ := hSw
          go_simp <;> with_reducible rfl
        simp only [Act.put, List.setIfInBounds_toArray]
        dsimp only [List.set_cons_succ, List.set_cons_zero]
        refine wpAnyH_ready (rs := [12]) (by kernel_rfl) (by simp) ?_
        refine (AllReadyH.cons rfl (fun KK hKK => ?_) AllReadyH.nil)
        go_simp
        have bM : Below D.heap.size D (D.alloc (.cells #[.int .i64 (x0 : Nat), .int .i64 (x1 : Nat), .int .i64 (x2 : Nat), .int .i64 rr.k, .string rr.p, .string rr.to, .int .i64 rr.n, .int .i64 rr.m, .string rr.d] 49)) := one_below _ _
        have cM : ∀ o, (D.alloc (.cells #[.int .i64 (x0 : Nat), .int .i64 (x1 : Nat), .int .i64 (x2 : Nat), .int .i64 rr.k, .string rr.p, .string rr.to, .int .i64 rr.n, .int .i64 rr.m, .string rr.d] 49)).cell? ⟨D.heap.size, o, none⟩ = (#[.int .i64 (x0 : Nat), .int .i64 (x1 : Nat), .int .i64 (x2 : Nat), .int .i64 rr.k, .string rr.p, .string rr.to, .int .i64 rr.n, .int .i64 rr.m, .string rr.d] : Array Value)[o]? := fun o => World.cell?_alloc_at _ _ _ _ rfl
        replace HO := Hid.intro (HO.out.kept bM)
        replace HB := Hid.intro (HB.out.trans (bM.mono HB.out.size))
        replace BD := Hid.intro (BD.out.trans (bM.mono BD.out.size))
        revert HO HB cM BD
        generalize D.alloc (.cells #[.int .i64 (x0 : Nat), .int .i64 (x1 : Nat), .int .i64 (x2 : Nat), .int .i64 rr.k, .string rr.p, .string rr.to, .int .i64 rr.n, .int .i64 rr.m, .string rr.d] 49) = Mw at bM
        generalize D.heap.size = sb
        intro cM HO HB BD
        refine hKK.out _ _ (HSF.out _ BD.out) (fun hHeld2 => ?_)
        clear hKK KK hHeld
        have hHeld := hHeld2
        clear hHeld2
        refine wpAnyH_ready (rs := [13]) (by kernel_rfl) (by simp) ?_
        refine (AllReadyH.cons rfl (fun KK hKK => ?_) AllReadyH.nil)
        have hnews : ∀ j u, (slE.f [(⟨(x0 : Nat), (x1 : Nat), (x2 : Nat), rr⟩ : Sl)])[j]? = some u → Mw.cell? ((⟨sb, 0, none⟩ : Addr).add j) = some u := fun j u hj => by
          rw [add_none, Nat.zero_add, cM]
          simpa [slE, Enc.f] using hj
        refine step_Sl rfl _ _ rfl w.heap.size (.slice va L.length vc) L ⟨(x0 : Nat), (x1 : Nat), (x2 : Nat), rr⟩ rfl HO.out ⟨sb, 0, none⟩ 1 rfl hnews (by omega) HB.out.size ?_
        intro g9 cap2 w9 hown ho hloc hg
        have HE := Hid.intro hown
        have HB9 : Hid (Below w.heap.size w w9) := HB.out.trans (ho.below HB.out.size (fun k hk e => by have := (HO.out.lt k e.symm).1; omega))
        have HSE : Hid (SlIn3 g5 x0 x1 x2 gr rr w9) := by obtain ⟨e0, e1, e2, e3, e4, e5, e6, e7, e8⟩ := hHeld; have hq : ∀ i u, Mw.cell? ⟨g5, i, none⟩ = some u → w9.cell? ⟨g5, i, none⟩ = some u := fun i u hu => (ho.cell (o := i) (World.block_lt_of_cell? Mw _ hu) (fun e => hg5v e.symm)).trans hu; have hq2 : ∀ i u, Mw.cell? ⟨gr, i, none⟩ = some u → w9.cell? ⟨gr, i, none⟩ = some u := fun i u hu => (ho.cell (o := i) (World.block_lt_of_cell? Mw _ hu) (fun e => hgrv e.symm)).trans hu; exact ⟨hq _ _ e0, hq _ _ e1, hq _ _ e2, hq2 _ _ e3, hq2 _ _ e4, hq2 _ _ e5, hq2 _ _ e6, hq2 _ _ e7, hq2 _ _ e8⟩
        clear HO HB hown ho hloc hg hnews cM bM
        go_simp
        refine hKK.out _ _ (HSE.out) (fun hHeld2 => ?_)
        clear hKK KK hHeld
        have hHeld := hHeld2
        clear hHeld2
        refine take1 (i := 14) (d := some 4) (v := ?_) rfl rfl (by kernel_rfl) (by kernel_rfl) (by kernel_rfl) (fun _ _ _ h => h) (Or.inl ⟨by rfl, ?_⟩) (by assumption) ?_
        rotate_left 1
        · intro w hSw
          go_simp <;> with_reducible rfl
        simp only [Act.put, List.setIfInBounds_toArray]
        try simp only [List.set_cons_succ]
        try simp only [List.set_cons_zero]
        refine wpAnyH_done (by kernel_rfl) ?_ _
        clear hHeld
        go_wp2
        go_roundw
        case rel => exact ⟨a8, _, _, L ++ [⟨(x0 : Nat), (x1 : Nat), (x2 : Nat), rr⟩], by go_num, by rw [List.length_append]; rfl, ha8, by rw [List.length_append, List.length_singleton]; omega, by unfold Hid; rw [List.length_append, List.length_singleton]; exact HN2.out, by unfold Hid; rw [List.length_append, List.length_singleton]; exact HE.out, HB9⟩
        case measure => simp [intOf]; omega
    · have hjn : ¬ (a : Int) < (s.size : Int) := by omega
      obtain rfl : a = s.size := by omega
      have HQ : Hid (rdS L.length (s.data.toList.drop 1) = some (L, [])) := by
        have h := HN.out
        have e : s.data.toList.drop s.size = [] := List.drop_of_length_le (by simp)
        rw [e] at h
        exact h
      have HI := Hid.intro (shF_is rfl HQ.out HZ.out)
      clear HN HQ
      go_wp2_with fail
      refine (specShowFrame_any L _ wr.heap.size wr (Nat.le_refl _) HO.out.rowAll).mono ?_
      rintro e wz ⟨rfl, b⟩
      replace HO := Hid.intro (HO.out.kept b)
      replace HB := Hid.intro (HB.out.trans (b.mono hwr))
      clear b
      by_cases hE : shF L = s
      · have hb : ((shF L).toList == s.toList) = true := by rw [hE]; exact beq_self_eq_true _
        have HP : Hid (outF s.data.toList = some L) := by unfold Hid; rw [HI.out, if_pos hE]
        have HF : Hid (Row slE wz wz.heap.size (.slice va L.length vc) L) := HO.out.rowAll
        generalize shF L = sh at hb HI hE
        clear hE HI HO
        go_wp2
        exact bodyPost_ret (v := .tuple #[.slice va L.length vc, .bool true]) (by simp [results, Try.results8, go_sem]) rfl ⟨⟨_, L, true, rfl, HF, .inr ⟨HP.out, rfl⟩⟩, HB.out⟩
      · have hb : ((shF L).toList == s.toList) = false := by
          rw [beq_eq_false_iff_ne]
          intro e
          rw [toList_go, toList_go] at e
          exact hE ((ba_of _).symm.trans ((congrArg (fun l : List UInt8 => (⟨l.toArray⟩ : ByteArray)) e).trans (ba_of s)))
        have HP : Hid (outF s.data.toList = none) := by unfold Hid; rw [HI.out, if_neg hE]
        generalize shF L = sh at hb HI hE
        clear hE HI
        clear HO
        go_wp2
        exact bodyPost_ret (v := .tuple #[.slice (some ⟨wz.heap.size, 0, none⟩) 0 0, .bool false]) (by simp [results, Try.results8, go_sem]) rfl ⟨⟨_, [], false, rfl, (rowZ wz).rowAll, .inl ⟨HP.out, rfl, rfl⟩⟩, HB.out.trans ((one_below wz _).mono HB.out.size)⟩
end Go.Proofs.Ythicdhjipebghaa
