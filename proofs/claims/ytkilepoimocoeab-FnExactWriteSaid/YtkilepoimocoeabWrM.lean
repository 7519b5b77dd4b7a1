/- What Write comes to; what stands in its loop; append of records in a region that draws. -/
import Derived.Test.YtkilepoimocoeabLoseI
import Derived.Test.YtkilepoimocoeabTake2
import Derived.Test.YtkilepoimocoeabBlk
import Derived.Deep.AppendLies
namespace Go.Proofs.Ytkilepoimocoeab
open Go.RowKit
set_option linter.unusedVariables false
def setC (w : World) (g o : Nat) : List Value → World
  | [] => w
  | u :: us => setC (w.setCell ⟨g, o, none⟩ u) g (o + 1) us
theorem setC_out (g : Nat) (us : List Value) : ∀ (u : World) (o q : Nat), (q < o ∨ o + us.length ≤ q) → (setC u g o us).cell? ⟨g, q, none⟩ = u.cell? ⟨g, q, none⟩ := by
  induction us with
  | nil => intro u o q _; rfl
  | cons x us ih =>
    intro u o q h
    simp only [List.length_cons] at h
    rw [setC, ih _ _ _ (by omega)]
    exact World.cell?_setCell_other _ _ _ _ (by intro e; simp at e <;> omega)
theorem setC_in (g : Nat) (us : List Value) : ∀ (u : World) (o q : Nat), o ≤ q → q < o + us.length → (u.cell? ⟨g, q, none⟩).isSome = true → (setC u g o us).cell? ⟨g, q, none⟩ = us[q - o]? := by
  induction us with
  | nil => intro u o q h1 h2; simp at h2; omega
  | cons x us ih =>
    intro u o q h1 h2 h3
    simp only [List.length_cons] at h2
    rw [setC]
    by_cases hq : q = o
    · subst hq
      rw [setC_out g us _ _ _ (by omega)]
      obtain ⟨y, hy⟩ := Option.isSome_iff_exists.1 h3
      simp [go_sem, hy]
    · have e : (u.setCell ⟨g, o, none⟩ x).cell? ⟨g, q, none⟩ = u.cell? ⟨g, q, none⟩ := World.cell?_setCell_other _ _ _ _ (by intro e; simp at e <;> omega)
      rw [ih _ _ _ (by omega) (by omega) (by rw [e]; exact h3)]
      obtain ⟨d, hd⟩ : ∃ d, q - o = d + 1 := ⟨q - o - 1, by omega⟩
      rw [hd, List.getElem?_cons_succ]
      congr 1; omega
theorem setC_frozen (g : Nat) (us : List Value) : ∀ (u : World) (o q : Nat), (setC u g o us).frozen? ⟨g, q, none⟩ = u.frozen? ⟨g, q, none⟩ := by
  induction us with
  | nil => intro u o q; rfl
  | cons x us ih => intro u o q; rw [setC, ih]; simp
theorem setC_size (g : Nat) (us : List Value) : ∀ (u : World) (o : Nat), (setC u g o us).heap.size = u.heap.size := by
  induction us with
  | nil => intro u o; rfl
  | cons x us ih => intro u o; rw [setC, ih]; simp
theorem Blk.all {u : World} {g : Nat} {A : Array Value} (h : Blk u g A) (xs : List Value) (hx : xs.length = A.size) : Blk (setC u g 0 xs) g xs.toArray := by
  refine ⟨by rw [setC_size]; exact h.hi, fun q => ?_, fun q => by rw [setC_frozen]; exact h.fro q⟩
  by_cases hq : q < A.size
  · rw [setC_in _ _ _ _ _ (by omega) (by omega) (by rw [h.cell]; simp [hq])]; simp
  · rw [setC_out _ _ _ _ _ (by omega), h.cell, Array.getElem?_eq_none (by omega), Array.getElem?_eq_none (by simp; omega)]
theorem Only.setC {S : Nat → Prop} {g : Nat} (hg : S g) (us : List Value) : ∀ {a w : World} (o : Nat), Only S a w → Only S a (setC w g o us) := by
  induction us with
  | nil => intro a w o h; exact h
  | cons u us ih => intro a w o h; exact ih (o + 1) (h.setCell hg u)
theorem only_setC (u : World) (g o : Nat) (us : List Value) : Only (fun k => k = g) u (setC u g o us) := by
  refine Only.setC ?_ us o ?_
  · rfl
  · exact Only.refl _ _
def wrN (S : Sto) (l : List Rc) (n : Int) : Nat := if storeB S = true then came (heldK S) (80 - S.l.length) (firstN n l) else 0
def wrS (S : Sto) (l : List Rc) (n : Int) : Sto := if storeB S = true then ⟨S.k, S.l ++ l.take (wrN S l n)⟩ else ⟨kpZ, []⟩
theorem wrN_no {S : Sto} {l : List Rc} {n : Int} (h : storeB S = false) : wrN S l n = 0 := by simp [wrN, h]
theorem wrS_no {S : Sto} {l : List Rc} {n : Int} (h : storeB S = false) : wrS S l n = ⟨kpZ, []⟩ := by simp [wrS, h]
theorem wrN_yes {S : Sto} {l : List Rc} {n : Int} (h : storeB S = true) : wrN S l n = came (heldK S) (80 - S.l.length) (firstN n l) := by simp [wrN, h]
theorem wrS_yes {S : Sto} {l : List Rc} {n : Int} (h : storeB S = true) : wrS S l n = ⟨S.k, S.l ++ l.take (wrN S l n)⟩ := by simp [wrS, h]
theorem came_le (K : Kp) (room : Nat) (l : List Rc) : came K room l ≤ l.length ∧ came K room l ≤ room := by
  induction l generalizing K room with
  | nil => simp [came]
  | cons r l ih =>
    cases room with
    | zero => simp [came]
    | succ m =>
      simp only [came]
      split
      · have := ih (stepK K r) m
        simp only [List.length_cons]
        omega
      · omega
/-- Where the loop of Write stands: j records were taken, K is what stands. -/
structure CameI (K0 : Kp) (room : Nat) (L : List Rc) (j : Nat) (K : Kp) : Prop where
  eq : came K0 room L = j + came K (room - j) (L.drop j)
  jr : j ≤ room
  jl : j ≤ L.length
  sm : Sm K
theorem CameI.zero {K0 : Kp} {room : Nat} {L : List Rc} (h : Sm K0) : CameI K0 room L 0 K0 := ⟨by simp, Nat.zero_le _, Nat.zero_le _, h⟩
theorem CameI.step {K0 K : Kp} {room j : Nat} {L : List Rc} (h : CameI K0 room L j K) (h1 : j < L.length) (h2 : j < room) (hg : goB K L[j] = true) : CameI K0 room L (j + 1) (stepK K L[j]) := by
  refine ⟨?_, by omega, by omega, h.sm.step (goB_out hg).1 (goB_out hg).2⟩
  rw [h.eq, List.drop_eq_getElem_cons h1, show room - j = (room - (j + 1)) + 1 by omega]
  simp only [came, hg, if_true]
  omega
theorem CameI.out {K0 K : Kp} {room : Nat} {L : List Rc} (h : CameI K0 room L L.length K) : came K0 room L = L.length := by
  rw [h.eq, List.drop_length]
  simp [came]
theorem CameI.full {K0 K : Kp} {room : Nat} {L : List Rc} (h : CameI K0 room L room K) : came K0 room L = room := by
  rw [h.eq, Nat.sub_self]
  cases L.drop room <;> simp [came]
theorem CameI.stop {K0 K : Kp} {room j : Nat} {L : List Rc} (h : CameI K0 room L j K) (h1 : j < L.length) (hg : goB K L[j] = false) : came K0 room L = j := by
  rw [h.eq, List.drop_eq_getElem_cons h1]
  cases room - j with
  | zero => simp [came]
  | succ m => simp [came, hg]
/-- append of records onto a row of the call's own, inside a region that draws its order. -/
theorem step_R {w : World} {ops : Array Oper} {o : Oper} {a : Act} {KK : Act → World → Prop} {Q : Exit → Act → World → Prop} {E : Prop} (hgd : o.guard = none) (s x : Operand)
    (ho : o.op = .call { callee := .builtin .append, args := #[s, x], argTypes := #[36, 36] })
    (base : Nat) (v : Value) (L M : List Rc) (hs : a.eval s = v) (hown : OwnR w base v L) (ad : Addr) (m c : Nat) (hx : a.eval x = .slice (some ad) m c) (hm : m = M.length)
    (hnews : ∀ j u, (rcF M)[j]? = some u → w.cell? (ad.add j) = some u) (hlen : L.length + M.length ≤ 2000000) (hbase : base ≤ w.heap.size) (hne : 0 < M.length)
    (h : ∀ g cap' w', OwnR w' base (.slice (some ⟨g, 0, none⟩) (L.length + m) cap') (L ++ M) → Only (fun k => some k = v.ownBlock) w w' → (v.ownBlock = some g ∨ g = w.heap.size) → g < w'.heap.size →
      KK (a.put o.dst (.slice (some ⟨g, 0, none⟩) (L.length + m) cap')) w') : if Region.wanted o (yielded ops a.tmps) = true then Oper.wp Try.prog o a w KK Q else E := by
  obtain ⟨i0, hi, hz0, hz1, hz2⟩ := info_parts Try.infoR
  subst hm
  refine step_append_lies w hgd s x 36 ho base 70 i0 (.agg #[.int .i64 0, .int .i64 0, .int .i64 0, .int .i64 0, .string ⟨#[]⟩]) 5 48 Try.underlying36 hi hz0 hz1 hz2 rfl (by decide) v L.length (rcF L) hs hown ad M.length c (rcF M) hx (rcF_len M) hnews rcF_one hne (by unfold maxLen; omega) (by omega) hbase w.heap.size rfl ?_
  intro g cap' w' hown' hgrow hloc hg
  exact h g cap' w' (OwnR.mk hown' (by simp) (by rw [rcF_append])) (grown_only hgrow) hloc hg
end Go.Proofs.Ytkilepoimocoeab
