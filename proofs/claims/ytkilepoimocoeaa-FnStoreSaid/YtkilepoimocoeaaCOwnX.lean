/- A row of entries of the call's own that need not start its block; append onto it. -/
import Derived.Test.YtkilepoimocoeaaCEnt
import Derived.Test.YtkilepoimocoeaaTakeE
namespace Go.Proofs.Ytkilepoimocoeaa
open Go.RowKit
set_option linter.unusedVariables false
/-- The slice v, of memory from block base on, holds L, and what is behind it in its block is its room. -/
def OwnX (w : World) (base : Nat) (v : Value) (L : List En) : Prop := (v = .slice none 0 0 ∧ L = []) ∨
  ∃ g o cap cur, v = .slice (some ⟨g, o, none⟩) L.length cap ∧ base ≤ g ∧ w.heap[g]? = some (.cells cur 96 (0, 0)) ∧ L.length ≤ cap ∧ cap ≤ maxLen ∧ o + cap * 2 ≤ cur.size ∧ (cur.toList.drop o).take (L.length * 2) = enF L
theorem OwnE.x {w : World} {base : Nat} {v : Value} {L : List En} (h : OwnE w base v L) : OwnX w base v L := by
  rcases h.2 with ⟨hv, hn⟩ | ⟨g, cap, cur, rfl, hg, hgg, hc, hm, hs, ht⟩
  · exact .inl ⟨hv, List.eq_nil_of_length_eq_zero hn⟩
  · exact .inr ⟨g, 0, cap, cur, rfl, hg, hgg, hc, hm, by omega, by simpa using ht⟩
theorem OwnX.of_block {w w' : World} {base : Nat} {v : Value} {L : List En} (h : OwnX w base v L) (hb : ∀ k, v.ownBlock = some k → w'.heap[k]? = w.heap[k]?) : OwnX w' base v L := by
  rcases h with hn | ⟨g, o, cap, cur, rfl, hg, hgg, rest⟩
  · exact .inl hn
  · exact .inr ⟨g, o, cap, cur, rfl, hg, (hb g rfl).trans hgg, rest⟩
theorem OwnX.lt {w : World} {base : Nat} {v : Value} {L : List En} (h : OwnX w base v L) : ∀ k, v.ownBlock = some k → base ≤ k ∧ k < w.heap.size := by
  intro k hk
  rcases h with ⟨rfl, _⟩ | ⟨g, o, cap, cur, rfl, hg, hgg, rest⟩
  · cases hk
  · simp only [Value.ownBlock, Option.some.injEq] at hk
    subst hk
    exact ⟨hg, (Array.getElem?_eq_some_iff.1 hgg).1⟩
theorem OwnX.only {w w' : World} {base : Nat} {S : Nat → Prop} {v : Value} {L : List En} (h : OwnX w base v L) (hb : Only S w w') (hv : ∀ k, v.ownBlock = some k → ¬ S k) : OwnX w' base v L := h.of_block fun k hk => hb.block k (h.lt k hk).2 (hv k hk)
theorem OwnX.kept {w w' : World} {base : Nat} {v : Value} {L : List En} (h : OwnX w base v L) (hb : Below w.heap.size w w') : OwnX w' base v L := h.of_block fun k hk => hb.block k (h.lt k hk).2
theorem OwnX.lower {w : World} {base base' : Nat} {v : Value} {L : List En} (h : OwnX w base v L) (hb : base' ≤ base) : OwnX w base' v L := by
  rcases h with hn | ⟨g, o, cap, cur, rfl, hg, rest⟩
  · exact .inl hn
  · exact .inr ⟨g, o, cap, cur, rfl, by omega, rest⟩
theorem OwnX.step {B : Nat} {w w' : World} {base : Nat} {v : Value} {L : List En} (h : OwnX w base v L) (g : w.grownBy w' (some B)) (hB : B < base) : OwnX w' base v L :=
  h.only (grown_only g) (fun k hk e => by have := (h.lt k hk).1; simp at e; omega)
theorem OwnX.slice {w : World} {base : Nat} {v : Value} {L : List En} (h : OwnX w base v L) : ∃ a cap, v = .slice a L.length cap := by
  rcases h with ⟨rfl, rfl⟩ | ⟨g, o, cap, cur, rfl, rest⟩
  · exact ⟨_, _, rfl⟩
  · exact ⟨_, _, rfl⟩
theorem OwnX.nil (w : World) (base : Nat) : OwnX w base (.slice none 0 0) [] := .inl ⟨rfl, rfl⟩
theorem OwnX.cells {w : World} {base g o n cap : Nat} {L : List En} (h : OwnX w base (.slice (some ⟨g, o, none⟩) n cap) L) : ∀ j u, (enF L)[j]? = some u → w.cell? ((⟨g, o, none⟩ : Addr).add j) = some u := by
  intro j u hu
  rcases h with ⟨hv, _⟩ | ⟨g', o', cap', cur, hv, hg, hgg, hc, hm, hs, ht⟩
  · cases hv
  · simp only [Value.slice.injEq, Option.some.injEq, Addr.mk.injEq, and_true] at hv
    obtain ⟨⟨rfl, rfl⟩, rfl, rfl⟩ := hv
    rw [Addr.add_lit, cell_of_row w g (o + j) cur 96 (0, 0) hgg]
    rw [← ht, List.getElem?_take] at hu
    split at hu
    · rw [List.getElem?_drop] at hu
      simpa using hu
    · cases hu
theorem OwnX.rowAll {w : World} {base : Nat} {v : Value} {L : List En} (h : OwnX w base v L) : RowE w w.heap.size v L := by
  have h0 := h
  rcases h with ⟨rfl, rfl⟩ | ⟨g, o, cap, cur, rfl, hg, hgg, hc, hm, hs, ht⟩
  · exact ⟨none, 0, rfl, Nat.le_refl _, by omega, fun h => absurd rfl h⟩
  · refine ⟨some ⟨g, o, none⟩, cap, rfl, hc, hm, fun _ => ⟨g, o, rfl, (Array.getElem?_eq_some_iff.1 hgg).1, fun j hj => ?_⟩⟩
    have key : ∀ i (hi : i < 2) u, (enC L[j])[i]? = some u → w.cell? ⟨g, o + (j * 2 + i), none⟩ = some u := by
      intro i hi u hu
      have := h0.cells (j * 2 + i) u (by rw [enF_at L j hj i hi]; exact hu)
      rwa [Addr.add_lit] at this
    exact ⟨key 0 (by omega) _ (by simp [enC]), by have := key 1 (by omega) _ (by simp [enC]; rfl); rwa [← Nat.add_assoc] at this⟩
/-- What is behind the first m. -/
theorem OwnX.drop {w : World} {base g o n cap : Nat} {L : List En} (h : OwnX w base (.slice (some ⟨g, o, none⟩) n cap) L) (m : Nat) (hm : m ≤ L.length) : OwnX w base (.slice (some ⟨g, o + m * 2, none⟩) (n - m) (cap - m)) (L.drop m) := by
  rcases h with ⟨hv, _⟩ | ⟨g', o', cap', cur, hv, hg, hgg, hc, hmx, hs, ht⟩
  · cases hv
  · simp only [Value.slice.injEq, Option.some.injEq, Addr.mk.injEq, and_true] at hv
    obtain ⟨⟨rfl, rfl⟩, rfl, rfl⟩ := hv
    refine .inr ⟨g, o + m * 2, cap - m, cur, by simp, hg, hgg, by simp; omega, by omega, by omega, ?_⟩
    rw [enF_drop, ← ht, List.drop_take, List.drop_drop, List.length_drop, ← Nat.sub_mul]
/-- What is behind the first m, as a slice expression gives it. -/
theorem OwnX.cut {w : World} {base g o n cap : Nat} {L : List En} (h : OwnX w base (.slice (some ⟨g, o, none⟩) n cap) L) (m : Nat) (hm : m ≤ L.length) : OwnX w base (.slice (if cap = m then some ⟨g, o, none⟩ else some ⟨g, o + m * 2, none⟩) (n - m) (cap - m)) (L.drop m) := by
  by_cases hc : cap = m
  · rw [if_pos hc]
    rcases h with ⟨hv, _⟩ | ⟨g', o', cap', cur, hv, hg, hgg, hcc, hmx, hs, ht⟩
    · cases hv
    · simp only [Value.slice.injEq, Option.some.injEq, Addr.mk.injEq, and_true] at hv
      obtain ⟨⟨rfl, rfl⟩, rfl, rfl⟩ := hv
      refine .inr ⟨g, o, cap - m, cur, by simp, hg, hgg, by simp; omega, by omega, by omega, ?_⟩
      have hl : L.drop m = [] := by rw [List.drop_eq_nil_iff]; omega
      rw [hl]
      simp [enF]
  · rw [if_neg hc]
    exact h.drop m hm
/-- The first m. -/
theorem OwnX.take {w : World} {base g o n cap : Nat} {L : List En} (h : OwnX w base (.slice (some ⟨g, o, none⟩) n cap) L) (m : Nat) (hm : m ≤ L.length) : OwnX w base (.slice (some ⟨g, o, none⟩) m cap) (L.take m) := by
  rcases h with ⟨hv, _⟩ | ⟨g', o', cap', cur, hv, hg, hgg, hc, hmx, hs, ht⟩
  · cases hv
  · simp only [Value.slice.injEq, Option.some.injEq, Addr.mk.injEq, and_true] at hv
    obtain ⟨⟨rfl, rfl⟩, rfl, rfl⟩ := hv
    have hl : (L.take m).length = m := by simp; omega
    refine .inr ⟨g, o, cap, cur, by rw [hl], hg, hgg, by omega, hmx, hs, ?_⟩
    rw [hl, enF_take, ← ht, List.take_take, Nat.min_eq_left (Nat.mul_le_mul_right _ hm)]
/-- append, where there is room. -/
theorem run_append_roomX {P : Program} (w : World) (t ty e : TypeId) (i : TypeInfo) (ht : P.underlying t = some (.slice e)) (hi : P.info? e = some i)
    (g o sLen sCap : Nat) (cur : Array Value) (hg : w.heap[g]? = some (.cells cur e (0, 0)))
    (a : Addr) (m c : Nat) (news : List Value) (hl : news.length = m * i.size) (hnews : ∀ j u, news[j]? = some u → w.cell? (a.add j) = some u) (h1 : ∀ u ∈ news, u.oneCell' = true)
    (hroom : sLen + m ≤ sCap) (hfit : o + sLen * i.size + news.length ≤ cur.size) :
    (Builtin.append_ #[t, t] ty #[.slice (some ⟨g, o, none⟩) sLen sCap, .slice (some a) m c]).run P w =
      .ok (.slice (some ⟨g, o, none⟩) (sLen + m) sCap) (w.setRow g (cur.toList.take (o + sLen * i.size) ++ news ++ cur.toList.drop (o + sLen * i.size + news.length)).toArray) := by
  have hf := run_firstCells_some (P := P) w i.size m a m c news hl hnews
  have hst := run_storeCells_at P g (o + sLen * i.size) e news 0 cur w hg (by simpa using hfit) h1
  simp only [Nat.add_zero] at hst
  simp [Builtin.append_, run_underlying ht, sizeOf, typeInfo, hi, Builtin.lenOf, hroom, hf, Addr.add_lit, hst]
theorem run_append_X (w : World) (ty : TypeId) (base : Nat) (v : Value) (L M : List En) (hown : OwnX w base v L) (ad : Addr) (c : Nat)
    (hnews : ∀ j u, (enF M)[j]? = some u → w.cell? (ad.add j) = some u) (hlen : L.length + M.length ≤ 4000000) (hbase : base ≤ w.heap.size) (hne : 0 < M.length) :
    ∃ v' w', (Builtin.append_ #[26, 26] ty #[v, .slice (some ad) M.length c]).run Try.prog w = .ok v' w' ∧ OwnX w' base v' (L ++ M) ∧ Only (fun k => some k = v.ownBlock) w w' ∧ (v'.ownBlock = v.ownBlock ∨ v'.ownBlock = some w.heap.size) := by
  obtain ⟨i0, hi, hz0, hz1, hz2⟩ := info_parts Try.infoE
  have viaE : OwnE w base v L → ∃ v' w', (Builtin.append_ #[26, 26] ty #[v, .slice (some ad) M.length c]).run Try.prog w = .ok v' w' ∧ OwnX w' base v' (L ++ M) ∧ Only (fun k => some k = v.ownBlock) w w' ∧ (v'.ownBlock = v.ownBlock ∨ v'.ownBlock = some w.heap.size) := by
    intro ho
    obtain ⟨v', w', h1, h2, h3, _, h5⟩ := run_append_own_at (P := Try.prog) w base 26 ty 96 i0 _ 2 24 Try.underlying26 hi hz0 hz1 hz2 rfl (by decide) v L.length (enF L) ho ad M.length c (enF M) (enF_len M) hnews enF_one (by unfold maxLen; omega) (by omega) hbase
    exact ⟨v', w', h1, (OwnE.mk h2 (by simp) (by rw [enF_append])).x, grown_only h3, h5⟩
  rcases hown with ⟨rfl, rfl⟩ | ⟨g, o, cap, cur, rfl, hg, hgg, hc, hmx, hs, ht⟩
  · exact viaE (OwnE.nil _ _)
  · by_cases hroom : L.length + M.length ≤ cap
    · have hfit : o + L.length * i0.size + (enF M).length ≤ cur.size := by rw [hz1, enF_len]; omega
      have hr := run_append_roomX (P := Try.prog) w 26 ty 96 i0 Try.underlying26 hi g o L.length cap cur hgg ad M.length c (enF M) (by rw [hz1]; exact enF_len M) hnews enF_one hroom hfit
      rw [hz1] at hr
      have hlenc : o + cap * 2 ≤ cur.toList.length := by simpa using hs
      have hM := enF_len M
      refine ⟨_, _, hr, .inr ⟨g, o, cap, _, by simp, hg, setRow_heap w g cur _ _ _ hgg, by simpa using hroom, hmx, ?_, ?_⟩, ?_, .inl rfl⟩
      · simp only [List.size_toArray, List.length_append, List.length_take, List.length_drop, hM]
        omega
      · have h1 : (cur.toList.take (o + L.length * 2)).length = o + L.length * 2 := by rw [List.length_take]; omega
        have h2 : (cur.toList.take (o + L.length * 2)).drop o = enF L := by rw [List.drop_take, Nat.add_sub_cancel_left, ht]
        rw [List.append_assoc, List.drop_append_of_le_length (by rw [h1]; omega), h2, ← List.append_assoc, enF_append]
        have h3 : (enF L ++ enF M).length = (L ++ M).length * 2 := by simp [enF_len]; omega
        rw [← h3]
        exact List.take_left
      · exact ⟨rfl, rfl, rfl, by simp, fun k _ hk => setRow_other w g k _ (fun e => hk (by simp [Value.ownBlock, e]))⟩
    · have holds : ∀ j u, (enF L)[j]? = some u → w.cell? ((⟨g, o, none⟩ : Addr).add j) = some u := OwnX.cells (.inr ⟨g, o, cap, cur, rfl, hg, hgg, hc, hmx, hs, ht⟩)
      have hr := run_append_grow (P := Try.prog) w 26 ty 96 i0 _ Try.underlying26 hi hz0 ⟨g, o, none⟩ L.length cap (enF L) (by rw [hz1]; exact enF_len L) holds ad M.length c (enF M) (by rw [hz1]; exact enF_len M) hnews (by omega) (by omega) (by rw [hz2]; exact growslice_fits (by omega) (by omega))
      refine ⟨_, _, hr, .inr ⟨w.heap.size, 0, grownCap w (L.length + M.length) cap 96, _, by rw [List.length_append], hbase, heap_alloc_new w.drew _, by rw [List.length_append]; exact grownCap_ge w _ _ _, grownCap_le_maxLen w _ _ _ (by unfold maxLen; omega), ?_, ?_⟩, ?_, .inr rfl⟩
      · have := grownCap_ge w (L.length + M.length) cap 96
        simp only [Array.size_append, List.size_toArray, size_zeroCells, enF_len]
        rw [show (Value.agg #[.int .i64 0, .string ⟨#[]⟩]).cells.size = 2 from rfl]
        omega
      · simp only [Array.toList_append, List.append_assoc, List.drop_zero]
        rw [← List.append_assoc, ← enF_append, ← enF_len (L ++ M)]
        exact List.take_left
      · exact ⟨rfl, rfl, rfl, by simp, fun k hk _ => heap_alloc_old w.drew _ hk⟩
/-- At the list of a plain region's operations. -/
theorem app_X {w : World} {ops : Array Oper} {rest : List Oper} {o : Oper} {a : Act} {Q : Exit → Act → World → Prop} (hgd : o.guard = none) (s x : Operand)
    (ho : o.op = .call { callee := .builtin .append, args := #[s, x], argTypes := #[26, 26] })
    (base : Nat) (v : Value) (L M : List En) (hs : a.eval s = v) (hown : OwnX w base v L) (ad : Addr) (m c : Nat) (hx : a.eval x = .slice (some ad) m c) (hm : m = M.length)
    (hnews : ∀ j u, (enF M)[j]? = some u → w.cell? (ad.add j) = some u) (hlen : L.length + M.length ≤ 4000000) (hbase : base ≤ w.heap.size) (hne : 0 < M.length)
    (h : ∀ b cap' w', OwnX w' base (.slice b (L ++ M).length cap') (L ++ M) → Only (fun k => some k = v.ownBlock) w w' → ((Value.slice b (L ++ M).length cap').ownBlock = v.ownBlock ∨ (Value.slice b (L ++ M).length cap').ownBlock = some w.heap.size) →
      wpList Try.prog ops Q rest (a.put o.dst (.slice b (L ++ M).length cap')) w') : wpList Try.prog ops Q (o :: rest) a w := by
  subst hm
  refine wpList_plain hgd fun K hK => ?_
  obtain ⟨v', w', hr, h2, h3, h4⟩ := run_append_X w o.type base v L M hown ad c hnews hlen hbase hne
  obtain ⟨b, cap', rfl⟩ := h2.slice
  unfold Oper.wp execOp
  simp only [ho, resolve, invoke, builtin, Sem.run_bind, Sem.run_pure, Result.andThen_ok, List.map_toArray, List.map_cons, List.map_nil, hs, hx, hr]
  exact hK _ _ (h b cap' w' h2 h3 h4)
/-- At a step of a region that draws its order. -/
theorem step_X {w : World} {ops : Array Oper} {o : Oper} {a : Act} {KK : Act → World → Prop} {Q : Exit → Act → World → Prop} {E : Prop} (hgd : o.guard = none) (s x : Operand)
    (ho : o.op = .call { callee := .builtin .append, args := #[s, x], argTypes := #[26, 26] })
    (base : Nat) (v : Value) (L M : List En) (hs : a.eval s = v) (hown : OwnX w base v L) (ad : Addr) (m c : Nat) (hx : a.eval x = .slice (some ad) m c) (hm : m = M.length)
    (hnews : ∀ j u, (enF M)[j]? = some u → w.cell? (ad.add j) = some u) (hlen : L.length + M.length ≤ 4000000) (hbase : base ≤ w.heap.size) (hne : 0 < M.length)
    (h : ∀ b cap' w', OwnX w' base (.slice b (L ++ M).length cap') (L ++ M) → Only (fun k => some k = v.ownBlock) w w' → ((Value.slice b (L ++ M).length cap').ownBlock = v.ownBlock ∨ (Value.slice b (L ++ M).length cap').ownBlock = some w.heap.size) →
      KK (a.put o.dst (.slice b (L ++ M).length cap')) w') : if Region.wanted o (yielded ops a.tmps) = true then Oper.wp Try.prog o a w KK Q else E := by
  subst hm
  have hw : Region.wanted o (yielded ops a.tmps) = true := by simp [Region.wanted, hgd]
  rw [if_pos hw]
  obtain ⟨v', w', hr, h2, h3, h4⟩ := run_append_X w o.type base v L M hown ad c hnews hlen hbase hne
  obtain ⟨b, cap', rfl⟩ := h2.slice
  unfold Oper.wp execOp
  simp only [ho, resolve, invoke, builtin, Sem.run_bind, Sem.run_pure, Result.andThen_ok, List.map_toArray, List.map_cons, List.map_nil, hs, hx, hr]
  exact h b cap' w' h2 h3 h4
end Go.Proofs.Ytkilepoimocoeaa
