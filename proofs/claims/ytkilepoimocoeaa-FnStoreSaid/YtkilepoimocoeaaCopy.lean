/- Copies of rows: copiedEntries, copied, l3Copy. -/
import Derived.Test.YtkilepoimocoeaaOwn
import Derived.OwnWalk
namespace Go.Proofs.Ytkilepoimocoeaa
open Go.RowKit
set_option linter.unusedVariables false
theorem Try.infoE : (Try.prog.info? 96).map (fun i => (i.zero, i.size, i.bytes)) = some (some (.agg #[.int .i64 0, .string ⟨#[]⟩]), 2, 24) := by kernel_rfl
theorem Try.infoR : (Try.prog.info? 43).map (fun i => (i.zero, i.size, i.bytes)) = some (some (.agg #[.int .i64 0, .int .i64 0, .int .i64 0, .int .i64 0, .string ⟨#[]⟩]), 5, 48) := by kernel_rfl

/-- A row that was just made, in a block of its own. -/
def NewE (w w' : World) (v : Value) (L : List En) : Prop := OwnE w' w.heap.size v L ∧ Below w.heap.size w w'
theorem OwnE.mk {w : World} {base n : Nat} {v : Value} {L : List En} {xs : List Value} (h : w.ownsRow base 96 2 v n xs) (hn : n = L.length) (hx : xs = enF L) : OwnE w base v L := by subst hn; subst hx; exact h

set_option maxHeartbeats 1000000 in
theorem copiedEntries_any (L : List En) (v : Value) (N : Nat) (w : World) (hN : N ≤ w.heap.size) (hr : RowE w N v L) (hl : L.length ≤ 2000000) :
    Calls Try.prog 79 #[v] w fun e w' => ∃ v', e = .returned v' ∧ NewE w w' v' L := by
  obtain ⟨i0, hi, hz0, hz1, hz2⟩ := info_parts Try.infoE
  by_cases h0 : L = []
  · subst h0
    obtain ⟨a, cap, rfl, h1, h2, h3⟩ := hr
    cases a with
    | none =>
      go_enter Try.func79, Try.ntmps79
      go_wp2
      go_ret
      exact ⟨_, rfl, OwnE.nil _ _, Below.refl _ _⟩
    | some a =>
      go_enter Try.func79, Try.ntmps79
      go_wp2
      go_ret
      exact ⟨_, rfl, OwnE.nil _ _, Below.refl _ _⟩
  · obtain ⟨a, cap, rfl, h1, h2, h3⟩ := id hr
    obtain ⟨b, off, rfl, hb, h4⟩ := h3 h0
    have hcl := (hr.cells h0).2
    have HCL := Hid.intro hcl
    have HL := Hid.intro hl
    clear hcl h3 h4 hr
    go_enter Try.func79, Try.ntmps79
    go_wp2_with (at_builtin; refine wpList_append_own_at _ rfl _ _ 26 rfl w.heap.size 96 i0 (.agg #[.int .i64 0, .string ⟨#[]⟩]) 2 24 Try.underlying26 hi hz0 hz1 hz2 rfl (by decide) (.slice none 0 0) 0 [] rfl (World.ownsRow_nil _ _ _ _) ⟨b, off, none⟩ L.length cap (enF L) rfl (enF_len L) HCL.out enF_one (by unfold maxLen; have := HL.out; omega) (by have := HL.out; omega) (Nat.le_refl _) ?_; intro v' w1 hown hgrow hnil hloc)
    go_ret
    exact ⟨_, rfl, OwnE.mk hown (by omega) rfl, (grown_only hgrow).below (Nat.le_refl _) (fun k _ h => by cases h)⟩

theorem OwnE.slice {w : World} {base : Nat} {v : Value} {L : List En} (h : OwnE w base v L) : ∃ a cap, v = .slice a L.length cap := by
  rcases h.look with ⟨rfl, rfl⟩ | ⟨g, cap, rfl, _⟩
  · exact ⟨_, _, rfl⟩
  · exact ⟨_, _, rfl⟩
set_option maxHeartbeats 1000000 in
theorem copied_any (K : Kp) (v : Value) (N : Nat) (w : World) (hN : N ≤ w.heap.size) (hr : RowE w N v K.e) (hl : K.e.length ≤ 2000000) :
    Calls Try.prog 47 #[kpV K v] w fun e w' => ∃ v', e = .returned (kpV K v') ∧ NewE w w' v' K.e := by
  have HR := Hid.intro hr
  clear hr
  go_enter Try.func47, Try.ntmps47
  go_wp2_with fail
  obtain ⟨W, hW, bW, zW, cW, fW⟩ := boxed w #[.int .i64 K.t, .int .i64 K.v, .int .i64 K.si, .int .i64 K.st, .string K.sd, v] 28
  simp only [hW]
  obtain ⟨X, hX, bX, zX, cX, fX⟩ := boxed W #[.int .i64 0, .int .i64 0, .int .i64 0, .int .i64 0, .string ⟨#[]⟩, .slice none 0 0] 28
  simp only [hX]
  have B1 : Below w.heap.size w X := bW.trans (bX.mono (by omega))
  refine (copiedEntries_any K.e v N X (by omega) (HR.out.kept (B1.mono hN)) hl).mono ?_
  rintro e w1 ⟨v', rfl, h1, b1⟩
  obtain ⟨a', cap', rfl⟩ := h1.slice
  have k0 := atCell b1 (atCell bX (cW 0) (by omega)) (by omega)
  have k1 := atCell b1 (atCell bX (cW 1) (by omega)) (by omega)
  have k2 := atCell b1 (atCell bX (cW 2) (by omega)) (by omega)
  have k3 := atCell b1 (atCell bX (cW 3) (by omega)) (by omega)
  have k4 := atCell b1 (atCell bX (cW 4) (by omega)) (by omega)
  have k5 := atCell b1 (atCell bX (cW 5) (by omega)) (by omega)
  have f5 := atFrozen b1 (atFrozen bX (fW 5) (by omega)) (by omega)
  have x0 := atCell b1 (cX 0) (by omega)
  have x1 := atCell b1 (cX 1) (by omega)
  have x2 := atCell b1 (cX 2) (by omega)
  have x3 := atCell b1 (cX 3) (by omega)
  have x4 := atCell b1 (cX 4) (by omega)
  have x5 := atCell b1 (cX 5) (by omega)
  have g0 := atFrozen b1 (fX 0) (by omega)
  have g1 := atFrozen b1 (fX 1) (by omega)
  have g2 := atFrozen b1 (fX 2) (by omega)
  have g3 := atFrozen b1 (fX 3) (by omega)
  have g4 := atFrozen b1 (fX 4) (by omega)
  have g5 := atFrozen b1 (fX 5) (by omega)
  simp at k0 k1 k2 k3 k4 k5 x0 x1 x2 x3 x4 x5
  have hz := b1.size
  have HO := Hid.intro h1
  have HX := zX
  rw [zW] at HX
  have B2 := Hid.intro (B1.trans (b1.mono (by omega)))
  simp only [zW] at x0 x1 x2 x3 x4 x5 g0 g1 g2 g3 g4 g5
  have hz1 : w.heap.size + 1 < w1.heap.size := by omega
  have HY := Hid.intro HX
  clear hW bW cW fW hX bX cX fX B1 b1 h1 zW zX hz HX
  go_wp2
  refine bodyPost_ret (v := kpV K (.slice a' K.e.length cap')) (by simp [results, Try.results47, go_sem, x0, x1, x2, x3, x4, x5]) rfl ⟨_, rfl, ?_, ?_⟩
  · refine OwnE.lower (OwnE.only HO.out (S := fun k => k = w.heap.size ∨ k = w.heap.size + 1) ?_ ?_) (by have := HY.out; omega)
    · repeat (refine Only.setCell ?_ (by simp) _)
      exact Only.refl _ _
    · intro k hk h
      have := (HO.out.lt k hk).1
      have := HY.out
      omega
  · repeat (refine Below.setCell ?_ (by simp) _)
    exact B2.out
/-- append of entries, not none, onto a row of the call's own. -/
theorem app_E {w : World} {ops : Array Oper} {rest : List Oper} {o : Oper} {a : Act} {Q : Exit → Act → World → Prop} (hgd : o.guard = none) (s x : Operand)
    (ho : o.op = .call { callee := .builtin .append, args := #[s, x], argTypes := #[26, 26] })
    (base : Nat) (v : Value) (L M : List En) (hs : a.eval s = v) (hown : OwnE w base v L) (ad : Addr) (c : Nat) (hx : a.eval x = .slice (some ad) M.length c)
    (hnews : ∀ j u, (enF M)[j]? = some u → w.cell? (ad.add j) = some u) (hlen : L.length + M.length ≤ 4000000) (hbase : base ≤ w.heap.size) (hne : M ≠ [])
    (h : ∀ g cap' w', OwnE w' base (.slice (some ⟨g, 0, none⟩) (L.length + M.length) cap') (L ++ M) → Only (fun k => some k = v.ownBlock) w w' → (some g = v.ownBlock ∨ g = w.heap.size) →
      wpList Try.prog ops Q rest (a.put o.dst (.slice (some ⟨g, 0, none⟩) (L.length + M.length) cap')) w') : wpList Try.prog ops Q (o :: rest) a w := by
  obtain ⟨i0, hi, hz0, hz1, hz2⟩ := info_parts Try.infoE
  refine wpList_append_own_at w hgd s x 26 ho base 96 i0 (.agg #[.int .i64 0, .string ⟨#[]⟩]) 2 24 Try.underlying26 hi hz0 hz1 hz2 rfl (by decide) v L.length (enF L) hs hown ad M.length c (enF M) hx (enF_len M) hnews enF_one (by unfold maxLen; omega) (by omega) hbase ?_
  intro v' w' hown' hgrow hnil hloc
  have hpos := List.length_pos_iff.2 hne
  rcases hown'.2 with ⟨_, h0⟩ | ⟨g, cap', cur, rfl, hb, hg, rest'⟩
  · omega
  · refine h g cap' w' (OwnE.mk hown' (by simp) (by rw [enF_append])) (grown_only hgrow) ?_
    rcases hloc with h1 | h1
    · exact .inl h1
    · simp only [Value.ownBlock, Option.some.injEq] at h1
      exact .inr h1
/-- append of records, not none, onto a row of the call's own. -/
theorem OwnR.mk {w : World} {base n : Nat} {v : Value} {L : List Rc} {xs : List Value} (h : w.ownsRow base 43 5 v n xs) (hn : n = L.length) (hx : xs = rcF L) : OwnR w base v L := by subst hn; subst hx; exact h
theorem OwnR.slice {w : World} {base : Nat} {v : Value} {L : List Rc} (h : OwnR w base v L) : ∃ a cap, v = .slice a L.length cap := by
  rcases h.look with ⟨rfl, rfl⟩ | ⟨g, cap, rfl, _⟩
  · exact ⟨_, _, rfl⟩
  · exact ⟨_, _, rfl⟩
theorem app_R {w : World} {ops : Array Oper} {rest : List Oper} {o : Oper} {a : Act} {Q : Exit → Act → World → Prop} (hgd : o.guard = none) (s x : Operand)
    (ho : o.op = .call { callee := .builtin .append, args := #[s, x], argTypes := #[29, 29] })
    (base : Nat) (v : Value) (L M : List Rc) (hs : a.eval s = v) (hown : OwnR w base v L) (ad : Addr) (c : Nat) (hx : a.eval x = .slice (some ad) M.length c)
    (hnews : ∀ j u, (rcF M)[j]? = some u → w.cell? (ad.add j) = some u) (hlen : L.length + M.length ≤ 4000000) (hbase : base ≤ w.heap.size) (hne : M ≠ [])
    (h : ∀ g cap' w', OwnR w' base (.slice (some ⟨g, 0, none⟩) (L.length + M.length) cap') (L ++ M) → Only (fun k => some k = v.ownBlock) w w' → (some g = v.ownBlock ∨ g = w.heap.size) →
      wpList Try.prog ops Q rest (a.put o.dst (.slice (some ⟨g, 0, none⟩) (L.length + M.length) cap')) w') : wpList Try.prog ops Q (o :: rest) a w := by
  obtain ⟨i0, hi, hz0, hz1, hz2⟩ := info_parts Try.infoR
  refine wpList_append_own_at w hgd s x 29 ho base 43 i0 (.agg #[.int .i64 0, .int .i64 0, .int .i64 0, .int .i64 0, .string ⟨#[]⟩]) 5 48 Try.underlying29 hi hz0 hz1 hz2 rfl (by decide) v L.length (rcF L) hs hown ad M.length c (rcF M) hx (rcF_len M) hnews rcF_one (by unfold maxLen; omega) (by omega) hbase ?_
  intro v' w' hown' hgrow hnil hloc
  have hpos := List.length_pos_iff.2 hne
  rcases hown'.2 with ⟨_, h0⟩ | ⟨g, cap', cur, rfl, hb, hg, rest'⟩
  · omega
  · refine h g cap' w' (OwnR.mk hown' (by simp) (by rw [rcF_append])) (grown_only hgrow) ?_
    rcases hloc with h1 | h1
    · exact .inl h1
    · simp only [Value.ownBlock, Option.some.injEq] at h1
      exact .inr h1
end Go.Proofs.Ytkilepoimocoeaa
