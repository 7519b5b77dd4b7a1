/- A whole row is appended to an empty one. -/
import Derived.Test.YtnhjicbgmocilaaGreatGRow
import Derived.Deep.AppendLies
namespace Go.Proofs.YtnhjicbgmocilaaGreat
open Go.RowKit
set_option linter.unusedVariables false
theorem run_app_none {P : Program} (w : World) (t ty e : TypeId) (i : TypeInfo) (ht : P.underlying t = some (.slice e)) (hi : P.info? e = some i) (base a : Option Addr) (c cap : Nat) :
    (Builtin.append_ #[t, t] ty #[.slice base 0 c, .slice a 0 cap]).run P w = .ok (.slice base 0 c) w := by
  cases base <;> cases a <;> simp [Builtin.append_, run_underlying ht, sizeOf, typeInfo, hi, Builtin.lenOf, Builtin.firstCells, storeCells, loadCells, loadCellsFrom]
section
variable {α : Type} {E : Enc α} {T TS : TypeId}
theorem wp_app_all {w : World} {o : Oper} {a : Act} {K : Act → World → Prop} {Q : Exit → Act → World → Prop} (s x : Operand)
    (ho : o.op = .call { callee := .builtin .append, args := #[s, x], argTypes := #[TS, TS] })
    (i0 : TypeInfo) (z : Value) (bytes : Nat) (ht : Tryz.prog.underlying TS = some (.slice T)) (hi : Tryz.prog.info? T = some i0) (hz : i0.zero = some z) (hsz : i0.size = E.n) (hby : i0.bytes = bytes) (hzs : z.cells.size = E.n)
    (base N : Nat) (v : Value) (hs : a.eval s = v) (hown : Own E T w base v []) (u : Value) (L : List α) (hx : a.eval x = u) (hr : Row E w N u L) (hl : L.length ≤ 1048576) (hb : bytes ≤ 1000000) (hbase : base ≤ w.heap.size)
    (h : ∀ a' c' w', Own E T w' base (.slice a' L.length c') L → Only (fun k => some k = v.ownBlock) w w' → K (a.put o.dst (.slice a' L.length c')) w') : o.wp Tryz.prog a w K Q := by
  obtain ⟨ra, rc, rfl, h1, h2, h3⟩ := hr
  by_cases hL : L = []
  · subst hL
    obtain ⟨va, vc, rfl⟩ := hown.slice
    have hrun := run_app_none (P := Tryz.prog) w TS o.type T i0 ht hi va ra vc rc
    unfold Oper.wp execOp
    simp only [ho, resolve, invoke, builtin, Sem.run_bind, Sem.run_pure, Result.andThen_ok, List.map_toArray, List.map_cons, List.map_nil, hs, hx, List.length_nil, hrun]
    exact h _ _ _ hown (Only.refl _ _)
  · obtain ⟨b, off, rfl, hbN, hc⟩ := h3 hL
    have hpos : 0 < L.length := by
      rcases Nat.eq_zero_or_pos L.length with h0 | h0
      · exact absurd (List.eq_nil_of_length_eq_zero h0) hL
      · exact h0
    have hrow : Row E w N (.slice (some ⟨b, off, none⟩) L.length rc) L := ⟨_, _, rfl, h1, h2, h3⟩
    refine wp_append_lies w s x TS ho base T i0 z E.n bytes ht hi hz hsz hby hzs E.pos v 0 [] hs hown ⟨b, off, none⟩ L.length rc (E.f L) hx (E.f_len L) (hrow.cells hL).2 (E.f_one L) hpos (by unfold maxLen; omega) ?_ hbase w.heap.size rfl ?_
    · have : (0 + L.length) * bytes ≤ 1048576 * 1000000 := Nat.mul_le_mul (by omega) hb
      omega
    · intro g cap w' hown' hgrow hloc hg
      have e : (.slice (some ⟨g, 0, none⟩) (0 + L.length) cap : Value) = .slice (some ⟨g, 0, none⟩) L.length cap := by rw [Nat.zero_add]
      rw [e] at hown' ⊢
      exact h _ _ _ (Own.mk hown' (by simp) (by simp)) (grown_only hgrow)
theorem step_app_all {w : World} {ops : Array Oper} {o : Oper} {a : Act} {K : Act → World → Prop} {Q : Exit → Act → World → Prop} {X : Prop} (hgd : o.guard = none) (s x : Operand)
    (ho : o.op = .call { callee := .builtin .append, args := #[s, x], argTypes := #[TS, TS] })
    (i0 : TypeInfo) (z : Value) (bytes : Nat) (ht : Tryz.prog.underlying TS = some (.slice T)) (hi : Tryz.prog.info? T = some i0) (hz : i0.zero = some z) (hsz : i0.size = E.n) (hby : i0.bytes = bytes) (hzs : z.cells.size = E.n)
    (base N : Nat) (v : Value) (hs : a.eval s = v) (hown : Own E T w base v []) (u : Value) (L : List α) (hx : a.eval x = u) (hr : Row E w N u L) (hl : L.length ≤ 1048576) (hb : bytes ≤ 1000000) (hbase : base ≤ w.heap.size)
    (h : ∀ a' c' w', Own E T w' base (.slice a' L.length c') L → Only (fun k => some k = v.ownBlock) w w' → K (a.put o.dst (.slice a' L.length c')) w') : if Region.wanted o (yielded ops a.tmps) = true then Oper.wp Tryz.prog o a w K Q else X := by
  have hw : Region.wanted o (yielded ops a.tmps) = true := by simp [Region.wanted, hgd]
  rw [if_pos hw]
  exact wp_app_all s x ho i0 z bytes ht hi hz hsz hby hzs base N v hs hown u L hx hr hl hb hbase h
theorem wpList_app_all {w : World} {ops : Array Oper} {rest : List Oper} {o : Oper} {a : Act} {Q : Exit → Act → World → Prop} (hgd : o.guard = none) (s x : Operand)
    (ho : o.op = .call { callee := .builtin .append, args := #[s, x], argTypes := #[TS, TS] })
    (i0 : TypeInfo) (z : Value) (bytes : Nat) (ht : Tryz.prog.underlying TS = some (.slice T)) (hi : Tryz.prog.info? T = some i0) (hz : i0.zero = some z) (hsz : i0.size = E.n) (hby : i0.bytes = bytes) (hzs : z.cells.size = E.n)
    (base N : Nat) (v : Value) (hs : a.eval s = v) (hown : Own E T w base v []) (u : Value) (L : List α) (hx : a.eval x = u) (hr : Row E w N u L) (hl : L.length ≤ 1048576) (hb : bytes ≤ 1000000) (hbase : base ≤ w.heap.size)
    (h : ∀ a' c' w', Own E T w' base (.slice a' L.length c') L → Only (fun k => some k = v.ownBlock) w w' → wpList Tryz.prog ops Q rest (a.put o.dst (.slice a' L.length c')) w') : wpList Tryz.prog ops Q (o :: rest) a w :=
  wpList_plain hgd fun _ hK => wp_app_all s x ho i0 z bytes ht hi hz hsz hby hzs base N v hs hown u L hx hr hl hb hbase fun a' c' w' h2 h3 => hK _ _ (h a' c' w' h2 h3)
end
end Go.Proofs.YtnhjicbgmocilaaGreat
