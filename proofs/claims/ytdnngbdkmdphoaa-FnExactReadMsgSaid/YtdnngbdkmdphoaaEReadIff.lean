/- What is shown of a message is what is read: the sentence and the program read alike. -/
import Derived.Test.YtdnngbdkmdphoaaEWholeM
import Derived.Test.YtdnngbdkmdphoaaTVars
import Derived.Test.YtdnngbdkmdphoaaEShow
namespace Go.Proofs.Ytdnngbdkmdphoaa
open Go.RowKit
set_option linter.unusedVariables false
theorem bind_outE {α β : Type} {o : Option α} {f : α → Option β} {b : β} (h : o.bind f = some b) : ∃ a, o = some a ∧ f a = some b := by
  cases o with
  | none => cases h
  | some a => exact ⟨a, rfl, h⟩
theorem numO_nil : numO [] = none := numO_no fun x r h => by
  have h1 := (vby_length 6 x).1
  have h2 := congrArg List.length h.2
  simp only [List.length_nil, List.length_append, varL] at h2
  omega
theorem varsO_nil {n : Nat} (hn : 0 < n) : varsO n [] = none := varsO_no hn numO_nil
theorem varsO_moreE {n : Nat} {l r : List UInt8} {xs : List Nat} (h : varsO (n + 1) l = some (xs, r)) : ∃ x ys r1, xs = x :: ys ∧ numO l = some (x, r1) ∧ varsO n r1 = some (ys, r) := by
  rw [varsO] at h
  obtain ⟨⟨x, r1⟩, h1, h⟩ := bind_outE h
  obtain ⟨⟨ys, r2⟩, h2, h⟩ := bind_outE h
  dsimp only at h2
  simp only [Option.some.injEq, Prod.mk.injEq] at h
  obtain ⟨rfl, rfl⟩ := h
  exact ⟨x, ys, r1, rfl, h1, h2⟩
/-- Numbers that stand at the front are read. -/
theorem varsO_of (L : List Nat) (r : List UInt8) (h : ∀ x ∈ L, x ≤ 562949953421311) : varsO L.length (varsL L ++ r) = some (L, r) := by
  induction L with
  | nil => rfl
  | cons a L ih =>
    have h1 : numO (varsL (a :: L) ++ r) = some (a, varsL L ++ r) := numO_yes ⟨h a (by simp), by simp [varsL]⟩
    rw [List.length_cons, varsO_yes (by omega) h1, Nat.add_sub_cancel, ih (fun x hx => h x (by simp [hx]))]
    rfl
/-- What stands behind the nine numbers. -/
noncomputable def smR (k f g m i j c y n : Nat) (r : List UInt8) : Option Ms :=
  if n ≤ 4 then (ensO n r).bind fun s => some ⟨(k : Int), (f : Int), (g : Int), (m : Int), (i : Int), (j : Int), (c : Int), decide (y = 1), s.1, ⟨s.2.toArray⟩⟩ else none
/-- The message that the sentence reads, ahead of its test. -/
noncomputable def smO (l : List UInt8) : Option Ms := (varsO 9 (l.drop 1)).bind fun v => match v.1 with
  | [k, f, g, m, i, j, c, y, n] => smR k f g m i j c y n v.2
  | _ => none
/-- What the sentence answers. -/
noncomputable def outSM (l : List UInt8) : Option Ms := (smO l).bind fun a => if shMs a = ⟨l.toArray⟩ then some a else none
theorem smO_no {l : List UInt8} (h : varsO 9 (l.drop 1) = none) : smO l = none := by rw [smO, h]; rfl
theorem vars9_out {l r : List UInt8} {xs : List Nat} (h : varsO 9 l = some (xs, r)) : ∃ k f g m i j c y n r0 r1 r2 r3 r4 r5 r6 r7, xs = [k, f, g, m, i, j, c, y, n] ∧ numO l = some (k, r0) ∧ numO r0 = some (f, r1) ∧ numO r1 = some (g, r2) ∧ numO r2 = some (m, r3) ∧ numO r3 = some (i, r4) ∧ numO r4 = some (j, r5) ∧ numO r5 = some (c, r6) ∧ numO r6 = some (y, r7) ∧ numO r7 = some (n, r) := by
  obtain ⟨a, y1, r1, rfl, h1, h⟩ := varsO_moreE h
  obtain ⟨b, y2, r2, rfl, h2, h⟩ := varsO_moreE h
  obtain ⟨c, y3, r3, rfl, h3, h⟩ := varsO_moreE h
  obtain ⟨d, y4, r4, rfl, h4, h⟩ := varsO_moreE h
  obtain ⟨e, y5, r5, rfl, h5, h⟩ := varsO_moreE h
  obtain ⟨f, y6, r6, rfl, h6, h⟩ := varsO_moreE h
  obtain ⟨g, y7, r7, rfl, h7, h⟩ := varsO_moreE h
  obtain ⟨y, y8, r8, rfl, h8, h⟩ := varsO_moreE h
  obtain ⟨n, y9, r9, rfl, h9, h⟩ := varsO_moreE h
  rw [varsO] at h
  simp only [Option.some.injEq, Prod.mk.injEq] at h
  obtain ⟨rfl, rfl⟩ := h
  exact ⟨a, b, c, d, e, f, g, y, n, r1, r2, r3, r4, r5, r6, r7, r8, rfl, h1, h2, h3, h4, h5, h6, h7, h8, h9⟩
theorem smO_yes {l r : List UInt8} {xs : List Nat} (h : varsO 9 (l.drop 1) = some (xs, r)) : ∃ k f g m i j c y n, xs = [k, f, g, m, i, j, c, y, n] ∧ smO l = smR k f g m i j c y n r := by
  obtain ⟨k, f, g, m, i, j, c, y, n, _, _, _, _, _, _, _, _, rfl, _⟩ := vars9_out h
  exact ⟨k, f, g, m, i, j, c, y, n, rfl, by rw [smO, h]; rfl⟩
theorem ensO_is (n : Nat) : ∀ (l : List UInt8) (L : List En) (r : List UInt8), ensO n l = some (L, r) → l = ensL L ++ r ∧ L.length = n := by
  induction n with
  | zero =>
    intro l L r h
    simp only [ensO, Option.some.injEq, Prod.mk.injEq] at h
    obtain ⟨rfl, rfl⟩ := h
    exact ⟨rfl, rfl⟩
  | succ n ih =>
    intro l L r h
    rw [ensO] at h
    obtain ⟨⟨x, l1⟩, h1, h⟩ := bind_outE h
    obtain ⟨⟨p, l2⟩, h2, h⟩ := bind_outE h
    obtain ⟨⟨L2, l3⟩, h3, h⟩ := bind_outE h
    dsimp only at h1 h2 h3 h
    simp only [Option.some.injEq, Prod.mk.injEq] at h
    obtain ⟨rfl, rfl⟩ := h
    obtain ⟨e1, e2⟩ := ih _ _ _ h3
    have g1 := (numO_out h1).2
    have g2 := (pieO_out h2).2
    refine ⟨?_, by rw [List.length_cons, e2]⟩
    rw [g1, g2, e1]
    simp [ensL, enL, ba_sizeE]
theorem ba_toArr (l : List UInt8) : (⟨l.toArray⟩ : ByteArray).data.toList = l := rfl
/-- What the program reads is made of that message. -/
theorem msO_is {l : List UInt8} {a : Ms} (h : msO l = some a) : l = msgL a ∧ smO l = some a := by
  unfold msO at h
  obtain ⟨z, h0, h⟩ := bind_outE h
  obtain ⟨⟨x1, l1⟩, h1, h⟩ := bind_outE h
  obtain ⟨⟨x2, l2⟩, h2, h⟩ := bind_outE h
  obtain ⟨⟨x3, l3⟩, h3, h⟩ := bind_outE h
  obtain ⟨⟨x4, l4⟩, h4, h⟩ := bind_outE h
  obtain ⟨⟨x5, l5⟩, h5, h⟩ := bind_outE h
  obtain ⟨⟨x6, l6⟩, h6, h⟩ := bind_outE h
  obtain ⟨⟨x7, l7⟩, h7, h⟩ := bind_outE h
  obtain ⟨⟨x8, l8⟩, h8, h⟩ := bind_outE h
  obtain ⟨⟨x9, l9⟩, h9, h⟩ := bind_outE h
  obtain ⟨⟨L, r⟩, h10, hfin⟩ := bind_outE h
  dsimp only at h1 h2 h3 h4 h5 h6 h7 h8 h9 h10 hfin
  simp only [Option.some.injEq] at hfin
  unfold cntO at h8 h9
  obtain ⟨⟨y8, m8⟩, i8, k8⟩ := bind_outE h8
  obtain ⟨⟨y9, m9⟩, i9, k9⟩ := bind_outE h9
  clear h8 h9
  dsimp only at k8 k9
  split at k8
  · rename_i hy
    simp only [Option.some.injEq, Prod.mk.injEq] at k8
    obtain ⟨rfl, rfl⟩ := k8
    split at k9
    · rename_i hn
      simp only [Option.some.injEq, Prod.mk.injEq] at k9
      obtain ⟨rfl, rfl⟩ := k9
      have hz : l = 109 :: z := by
        cases l with
        | nil => cases h0
        | cons x t =>
          simp only [letO] at h0
          split at h0
          · rename_i hx
            simp only [Option.some.injEq] at h0
            rw [hx, h0]
          · cases h0
      obtain ⟨e1, e2⟩ := ensO_is _ _ _ _ h10
      have hbi : bi (decide (y8 = 1)) = y8 := by
        have : y8 = 0 ∨ y8 = 1 := by omega
        rcases this with rfl | rfl <;> rfl
      subst hfin
      refine ⟨?_, ?_⟩
      · rw [hz]
        simp only [msgL, mNums, Int.toNat_natCast, hbi, e2, varsL, List.flatMap_cons, List.flatMap_nil, List.append_nil, List.append_assoc]
        rw [(numO_out h1).2, (numO_out h2).2, (numO_out h3).2, (numO_out h4).2, (numO_out h5).2, (numO_out h6).2, (numO_out h7).2, (numO_out i8).2, (numO_out i9).2, e1]
      · have hv : varsO 9 z = some ([x1, x2, x3, x4, x5, x6, x7, y8, y9], m9) := by
          rw [varsO_yes (by omega) h1, varsO_yes (by omega) h2, varsO_yes (by omega) h3, varsO_yes (by omega) h4, varsO_yes (by omega) h5, varsO_yes (by omega) h6, varsO_yes (by omega) h7, varsO_yes (by omega) i8, varsO_yes (by omega) i9]
          rfl
        rw [hz, smO]
        simp only [List.drop_succ_cons, List.drop_zero]
        rw [hv, Option.bind_some]
        simp only [smR]
        rw [if_pos hn, h10]
        rfl
    · cases k9
  · cases k8
theorem letO_109 (r : List UInt8) : letO 109 (109 :: r) = some r := letO_yes 109 r
/-- What the sentence reads, and shows as it was, the program reads. -/
theorem smO_is {l : List UInt8} {a : Ms} (h : smO l = some a) (hl : shMs a = ⟨l.toArray⟩) : msgB a = true ∧ msO l = some a := by
  cases hv : varsO 9 (l.drop 1) with
  | none => rw [smO_no hv] at h; cases h
  | some p =>
    obtain ⟨xs, r⟩ := p
    obtain ⟨k, f, g, m, i, j, c, y, n, r0, r1, r2, r3, r4, r5, r6, r7, rfl, h1, h2, h3, h4, h5, h6, h7, h8, h9⟩ := vars9_out hv
    have hs : smO l = smR k f g m i j c y n r := by rw [smO, hv]; rfl
    rw [hs, smR] at h
    split at h
    · rename_i hn
      obtain ⟨⟨L, t⟩, h10, hfin⟩ := bind_outE h
      simp only [Option.some.injEq] at hfin
      obtain ⟨e1, e2⟩ := ensO_is _ _ _ _ h10
      have hne : l ≠ [] := by
        rintro rfl
        rw [List.drop_nil, varsO_nil (by omega)] at hv
        cases hv
      have hb : msgB a = true := by
        cases hb : msgB a with
        | true => rfl
        | false =>
          rw [shMs_no hb] at hl
          have := congrArg (fun q : ByteArray => q.data.toList) hl
          exact absurd this.symm hne
      refine ⟨hb, ?_⟩
      rw [shMs_yes hb] at hl
      have hml : msgL a = l := congrArg (fun q : ByteArray => q.data.toList) hl
      have hz : l = 109 :: (varsL (mNums a) ++ (ensL a.es ++ a.d.data.toList)) := by rw [← hml]; rfl
      have hB := msB_of ((msgB_iff a).1 hb)
      have hbi : bi a.y ≤ 1 := by cases a.y <;> decide
      have hr := varsO_of (mNums a) (ensL a.es ++ a.d.data.toList) (by
        intro x hx
        simp only [mNums, List.mem_cons, List.not_mem_nil, or_false] at hx
        obtain ⟨⟨_, _⟩, ⟨_, _⟩, ⟨_, _⟩, ⟨_, _⟩, ⟨_, _⟩, ⟨_, _⟩, ⟨_, _⟩, _, _, _⟩ := hB
        omega)
      rw [hz] at hv
      simp only [List.drop_succ_cons, List.drop_zero] at hv
      have hlen : (mNums a).length = 9 := rfl
      rw [hlen, hv] at hr
      simp only [Option.some.injEq, Prod.mk.injEq, mNums, List.cons.injEq, and_true] at hr
      have hy : y ≤ 1 := by omega
      have hd : l.drop 1 = varsL (mNums a) ++ (ensL a.es ++ a.d.data.toList) := by rw [hz]; rfl
      rw [hz, msO]
      rw [letO_109, Option.bind_some]
      rw [hd] at h1
      have c8 : cntO 1 r6 = some (y, r7) := by rw [cntO, h8, Option.bind_some, if_pos hy]
      have c9 : cntO 4 r7 = some (n, r) := by rw [cntO, h9, Option.bind_some, if_pos hn]
      simp only [h1, h2, h3, h4, h5, h6, h7, c8, c9, h10, Option.bind_some]
      rw [← hfin]
    · cases h
theorem outSM_eq (l : List UInt8) : outSM l = outM l := by
  unfold outSM outM
  cases h : msO l with
  | some a =>
    obtain ⟨e1, e2⟩ := msO_is h
    rw [e2, Option.bind_some, Option.bind_some]
    cases hb : msgB a with
    | true => rw [shMs_yes hb, ← e1, if_pos rfl, if_pos rfl]
    | false =>
      rw [shMs_no hb]
      rw [if_neg, if_neg Bool.false_ne_true]
      intro hq
      have := congrArg (fun q : ByteArray => q.data.toList) hq
      rw [e1] at this
      cases this
  | none =>
    rw [Option.bind_none]
    cases hs : smO l with
    | none => rfl
    | some a =>
      rw [Option.bind_some]
      by_cases hl : shMs a = ⟨l.toArray⟩
      · have := (smO_is hs hl).2
        rw [h] at this
        cases this
      · rw [if_neg hl]
end Go.Proofs.Ytdnngbdkmdphoaa
