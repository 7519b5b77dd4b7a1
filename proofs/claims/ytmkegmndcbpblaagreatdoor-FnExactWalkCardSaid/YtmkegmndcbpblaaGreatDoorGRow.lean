/- Rows of things that each take n cells: rows that are read, rows that the call owns. -/
import Derived.Test.YtmkegmndcbpblaaGreatDoorGBase
import Derived.Laws.OwnMore
import Derived.Laws.MakeOwn
import Derived.Maps.AppendAt
namespace Go.Proofs.YtmkegmndcbpblaaGreatDoor
open Go.RowKit
set_option linter.unusedVariables false

/-- How a thing lies in cells. -/
structure Enc (α : Type) where
 n : Nat
 c : α → List Value
 z : α
 len : ∀ a, (c a).length = n
 pos : 0 < n
 one : ∀ a, ∀ u ∈ c a, u.oneCell' = true

section
variable {α : Type} (E : Enc α)
def Enc.f (L : List α) : List Value := L.flatMap E.c
theorem Enc.f_len (L : List α) : (E.f L).length = L.length * E.n := by
 induction L with
 | nil => simp [Enc.f]
 | cons a L ih => simp only [Enc.f, List.flatMap_cons, List.length_append, List.length_cons, E.len] at ih ⊢; rw [ih, Nat.add_mul, Nat.one_mul, Nat.add_comm]
theorem Enc.f_nil : E.f [] = [] := rfl
theorem Enc.f_append (A B : List α) : E.f (A ++ B) = E.f A ++ E.f B := by simp [Enc.f]
theorem Enc.f_cons (a : α) (B : List α) : E.f (a :: B) = E.c a ++ E.f B := by simp [Enc.f]
theorem Enc.f_one1 (a : α) : E.f [a] = E.c a := by simp [Enc.f]
theorem Enc.f_at (L : List α) (j : Nat) (h : j < L.length) (i : Nat) (hi : i < E.n) : (E.f L)[j * E.n + i]? = (E.c L[j])[i]? := by
 induction L generalizing j with
 | nil => simp at h
 | cons a L ih =>
  rw [E.f_cons]
  cases j with
  | zero =>
   rw [List.getElem?_append_left (by rw [E.len]; omega)]
   simp
  | succ j =>
   rw [List.getElem?_append_right (by rw [E.len, Nat.add_mul]; omega)]
   simp only [List.getElem_cons_succ]
   rw [← ih j (by simpa using h)]
   congr 1
   rw [E.len, Nat.add_mul, Nat.one_mul]; omega
theorem Enc.f_one (L : List α) : ∀ u ∈ E.f L, u.oneCell' = true := by
 intro u hu
 simp only [Enc.f, List.mem_flatMap] at hu
 obtain ⟨e, _, hu⟩ := hu
 exact E.one e u hu
theorem Enc.f_drop (L : List α) (k : Nat) : E.f (L.drop k) = (E.f L).drop (k * E.n) := by
 induction L generalizing k with
 | nil => simp [Enc.f]
 | cons a L ih =>
  cases k with
  | zero => simp
  | succ k =>
   rw [List.drop_succ_cons, ih, E.f_cons, show (k + 1) * E.n = (E.c a).length + k * E.n by rw [E.len, Nat.add_mul, Nat.one_mul, Nat.add_comm], List.drop_length_add_append]
theorem Enc.f_take (L : List α) (k : Nat) : E.f (L.take k) = (E.f L).take (k * E.n) := by
 induction L generalizing k with
 | nil => simp [Enc.f]
 | cons a L ih =>
  cases k with
  | zero => simp [Enc.f]
  | succ k =>
   rw [List.take_succ_cons, E.f_cons, ih, E.f_cons, show (k + 1) * E.n = (E.c a).length + k * E.n by rw [E.len, Nat.add_mul, Nat.one_mul, Nat.add_comm], List.take_length_add_append]
/-- Every place of a row is some cell of some element. -/
theorem Enc.place (L : List α) (q : Nat) (hq : q < L.length * E.n) : ∃ (j i : Nat) (h : j < L.length), i < E.n ∧ q = j * E.n + i ∧ (E.f L)[q]? = (E.c L[j])[i]? := by
 have hp := E.pos
 have hd : q / E.n < L.length := Nat.div_lt_of_lt_mul (by rw [Nat.mul_comm]; exact hq)
 have hm : q % E.n < E.n := Nat.mod_lt _ hp
 have e : q = q / E.n * E.n + q % E.n := by rw [Nat.mul_comm]; exact (Nat.div_add_mod q E.n).symm
 refine ⟨q / E.n, q % E.n, hd, hm, e, ?_⟩
 rw [← E.f_at L _ hd _ hm, ← e]

/-- The slice v, in memory below block N, holds L. -/
def Row (w : World) (N : Nat) (v : Value) (L : List α) : Prop := ∃ a cap, v = .slice a L.length cap ∧ L.length ≤ cap ∧ cap ≤ 9223372036854775807 ∧
 (L ≠ [] → ∃ b off, a = some ⟨b, off, none⟩ ∧ b < N ∧ ∀ j (h : j < L.length) i, i < E.n → w.cell? ⟨b, off + j * E.n + i, none⟩ = (E.c L[j])[i]?)
/-- The slice v, of memory from block base on, holds L; it starts its block. -/
def Own (T : TypeId) (w : World) (base : Nat) (v : Value) (L : List α) : Prop := w.ownsRow base T E.n v L.length (E.f L)
variable {E}
theorem Row.kept {w w' : World} {N : Nat} {v : Value} {L : List α} (h : Row E w N v L) (hb : Below N w w') : Row E w' N v L := by
 obtain ⟨a, cap, rfl, h1, h2, h3⟩ := h
 refine ⟨a, cap, rfl, h1, h2, fun hL => ?_⟩
 obtain ⟨b, off, rfl, hbN, hc⟩ := h3 hL
 exact ⟨b, off, rfl, hbN, fun j hj i hi => (hb.cell (p := ⟨b, off + j * E.n + i, none⟩) hbN).trans (hc j hj i hi)⟩
theorem Row.up {w : World} {N N' : Nat} {v : Value} {L : List α} (h : Row E w N v L) (hN : N ≤ N') : Row E w N' v L := by
 obtain ⟨a, cap, rfl, h1, h2, h3⟩ := h
 refine ⟨a, cap, rfl, h1, h2, fun hL => ?_⟩
 obtain ⟨b, off, rfl, hbN, hc⟩ := h3 hL
 exact ⟨b, off, rfl, by omega, hc⟩
theorem Row.nil {w : World} {N : Nat} : Row E w N (.slice none 0 0) ([] : List α) := ⟨none, 0, rfl, Nat.le_refl _, by omega, fun h => absurd rfl h⟩
theorem Row.slice {w : World} {N : Nat} {v : Value} {L : List α} (h : Row E w N v L) : ∃ a cap, v = .slice a L.length cap ∧ L.length ≤ cap ∧ cap ≤ 9223372036854775807 := by
 obtain ⟨a, cap, h0, h1, h2, h3⟩ := h
 exact ⟨a, cap, h0, h1, h2⟩
theorem Row.cells {w : World} {N b off cap : Nat} {L : List α} (h : Row E w N (.slice (some ⟨b, off, none⟩) L.length cap) L) (hL : L ≠ []) : b < N ∧ ∀ j u, (E.f L)[j]? = some u → w.cell? ((⟨b, off, none⟩ : Addr).add j) = some u := by
 obtain ⟨a, cap', hv, h1, h2, h3⟩ := h
 simp only [Value.slice.injEq, true_and] at hv
 obtain ⟨rfl, rfl⟩ := hv
 obtain ⟨b', off', hb, hbN, h4⟩ := h3 hL
 simp only [Option.some.injEq, Addr.mk.injEq, and_true] at hb
 obtain ⟨rfl, rfl⟩ := hb
 refine ⟨hbN, fun q u hu => ?_⟩
 have hq : q < L.length * E.n := by
  have := (List.getElem?_eq_some_iff.1 hu).1
  rwa [E.f_len] at this
 obtain ⟨j, i, hj, hi, rfl, e⟩ := E.place L q hq
 rw [add_none, ← Nat.add_assoc, h4 j hj i hi, ← e, hu]
theorem Row.take {w : World} {N k cap : Nat} {a : Option Addr} {L : List α} (h : Row E w N (.slice a L.length cap) L) (hn : k ≤ L.length) : Row E w N (.slice a k cap) (L.take k) := by
 obtain ⟨a', cap', hv, h1, h2, h3⟩ := h
 simp only [Value.slice.injEq, true_and] at hv
 obtain ⟨rfl, rfl⟩ := hv
 have hl : (L.take k).length = k := by simp; omega
 refine ⟨a, cap, by rw [hl], by omega, h2, fun hL => ?_⟩
 obtain ⟨b, off, rfl, hbN, h4⟩ := h3 (by rintro rfl; simp at hL)
 refine ⟨b, off, rfl, hbN, fun j hj i hi => ?_⟩
 rw [hl] at hj
 have h5 := h4 j (by omega) i hi
 simpa using h5
theorem Row.drop {w : World} {N b off k cap : Nat} {L : List α} (h : Row E w N (.slice (some ⟨b, off, none⟩) L.length cap) L) (hn : k ≤ L.length) : Row E w N (.slice (some ⟨b, off + k * E.n, none⟩) (L.length - k) (cap - k)) (L.drop k) := by
 obtain ⟨a, cap', hv, h1, h2, h3⟩ := h
 simp only [Value.slice.injEq, true_and] at hv
 obtain ⟨rfl, rfl⟩ := hv
 refine ⟨_, _, by rw [List.length_drop], by rw [List.length_drop]; omega, by omega, fun hL => ?_⟩
 obtain ⟨b', off', hb, hbN, h4⟩ := h3 (by rintro rfl; simp at hL)
 simp only [Option.some.injEq, Addr.mk.injEq, and_true] at hb
 obtain ⟨rfl, rfl⟩ := hb
 refine ⟨b, off + k * E.n, rfl, hbN, fun j hj i hi => ?_⟩
 rw [List.length_drop] at hj
 have h5 := h4 (k + j) (by omega) i hi
 rw [Nat.add_mul, ← Nat.add_assoc] at h5
 simpa using h5

variable {T : TypeId}
theorem Own.of_block {w w' : World} {base : Nat} {v : Value} {L : List α} (h : Own E T w base v L) (hb : ∀ k, v.ownBlock = some k → w'.heap[k]? = w.heap[k]?) : Own E T w' base v L := by
 refine ⟨h.1, ?_⟩
 rcases h.2 with hn | ⟨g, cap, cur, rfl, hg, hgg, rest⟩
 ·exact .inl hn
 ·exact .inr ⟨g, cap, cur, rfl, hg, (hb g rfl).trans hgg, rest⟩
theorem Own.lt {w : World} {base : Nat} {v : Value} {L : List α} (h : Own E T w base v L) : ∀ k, v.ownBlock = some k → base ≤ k ∧ k < w.heap.size := World.ownsRow.lt h
theorem Own.kept {w w' : World} {base : Nat} {v : Value} {L : List α} (h : Own E T w base v L) (hb : Below w.heap.size w w') : Own E T w' base v L := h.of_block fun k hk => hb.block k (h.lt k hk).2
theorem Own.keptB {w w' : World} {base B : Nat} {v : Value} {L : List α} (h : Own E T w base v L) (hb : Below B w w') (hv : ∀ k, v.ownBlock = some k → k < B) : Own E T w' base v L := h.of_block fun k hk => hb.block k (hv k hk)
theorem Own.only {w w' : World} {base : Nat} {S : Nat → Prop} {v : Value} {L : List α} (h : Own E T w base v L) (hb : Only S w w') (hv : ∀ k, v.ownBlock = some k → ¬ S k) : Own E T w' base v L := h.of_block fun k hk => hb.block k (h.lt k hk).2 (hv k hk)
theorem Own.lower {w : World} {base base' : Nat} {v : Value} {L : List α} (h : Own E T w base v L) (hb : base' ≤ base) : Own E T w base' v L := by
 refine ⟨h.1, ?_⟩
 rcases h.2 with hn | ⟨g, cap, cur, rfl, hg, hgg, rest⟩
 ·exact .inl hn
 ·exact .inr ⟨g, cap, cur, rfl, by omega, hgg, rest⟩
/-- Its block lies from base' on. -/
theorem Own.raise {w : World} {base base' : Nat} {v : Value} {L : List α} (h : Own E T w base v L) (hb : ∀ k, v.ownBlock = some k → base' ≤ k) : Own E T w base' v L := by
 refine ⟨h.1, ?_⟩
 rcases h.2 with hn | ⟨g, cap, cur, rfl, hg, hgg, rest⟩
 ·exact .inl hn
 ·exact .inr ⟨g, cap, cur, rfl, hb g rfl, hgg, rest⟩
theorem Own.look {w : World} {base : Nat} {v : Value} {L : List α} (h : Own E T w base v L) : (v = .slice none 0 0 ∧ L = []) ∨ ∃ g cap, v = .slice (some ⟨g, 0, none⟩) L.length cap ∧ base ≤ g ∧ g < w.heap.size ∧ L.length ≤ cap ∧ cap ≤ 9223372036854775807 := by
 rcases h.2 with ⟨hv, hn⟩ | ⟨g, cap, cur, rfl, hg, hgg, hc, hm, rest⟩
 ·exact .inl ⟨hv, List.eq_nil_of_length_eq_zero hn⟩
 ·exact .inr ⟨g, cap, rfl, hg, (Array.getElem?_eq_some_iff.1 hgg).1, hc, hm⟩
theorem Own.slice {w : World} {base : Nat} {v : Value} {L : List α} (h : Own E T w base v L) : ∃ a cap, v = .slice a L.length cap := by
 rcases h.look with ⟨rfl, rfl⟩ | ⟨g, cap, rfl, _⟩
 ·exact ⟨_, _, rfl⟩
 ·exact ⟨_, _, rfl⟩
theorem Own.at {w : World} {base g cap n : Nat} {L : List α} (h : Own E T w base (.slice (some ⟨g, 0, none⟩) n cap) L) (j : Nat) (hj : j < L.length) (i : Nat) (hi : i < E.n) : w.cell? ⟨g, j * E.n + i, none⟩ = (E.c L[j])[i]? := by
 have h1 := World.ownsRow.cells h (g := g) rfl (j * E.n + i)
 have h2 := E.f_at L j hj i hi
 have hlt : i < (E.c L[j]).length := by rw [E.len]; exact hi
 rw [List.getElem?_eq_getElem hlt] at h2 ⊢
 have h3 := h1 _ h2
 rw [add_none, Nat.zero_add] at h3
 exact h3
theorem Own.nil (w : World) (base : Nat) : Own E T w base (.slice none 0 0) ([] : List α) := World.ownsRow_nil w base _ _
theorem Own.pop {w : World} {base g cap n m : Nat} {L : List α} (h : Own E T w base (.slice (some ⟨g, 0, none⟩) n cap) L) (hm : m ≤ L.length) : Own E T w base (.slice (some ⟨g, 0, none⟩) m cap) (L.take m) := by
 have hl : (L.take m).length = m := by simp; omega
 refine ⟨by rw [E.f_len], .inr ?_⟩
 rcases h.2 with ⟨hv, _⟩ | ⟨g', cap', cur, hv, hg, hgg, hc, hmx, hcs, htk⟩
 ·cases hv
 ·simp only [Value.slice.injEq, Option.some.injEq, Addr.mk.injEq, and_true] at hv
  obtain ⟨rfl, rfl, rfl⟩ := hv
  refine ⟨g, cap, cur, by rw [hl], hg, hgg, by omega, hmx, hcs, ?_⟩
  rw [hl, E.f_take, ← htk, List.take_take]
  congr 1
  rw [Nat.min_eq_left (Nat.mul_le_mul_right _ hm)]
theorem Own.row {w : World} {base N : Nat} {v : Value} {L : List α} (h : Own E T w base v L) (hN : ∀ k, v.ownBlock = some k → k < N) : Row E w N v L := by
 rcases h.look with ⟨rfl, rfl⟩ | ⟨g, cap, rfl, hb, hg, hc, hm⟩
 ·exact Row.nil
 ·refine ⟨some ⟨g, 0, none⟩, cap, rfl, hc, hm, fun _ => ⟨g, 0, rfl, hN g rfl, fun j hj i hi => ?_⟩⟩
  rw [Nat.zero_add]
  exact h.at j hj i hi
theorem Own.rowAll {w : World} {base : Nat} {v : Value} {L : List α} (h : Own E T w base v L) : Row E w w.heap.size v L := h.row fun k hk => (h.lt k hk).2
theorem Own.mk {w : World} {base n : Nat} {v : Value} {xs : List Value} {L : List α} (h : w.ownsRow base T E.n v n xs) (hn : L.length = n) (hx : xs = E.f L) : Own E T w base v L := by
 subst hn hx
 exact h

/-! A place is stored. -/
def setL (xs : List Value) (o : Nat) : List Value → List Value
 | [] => xs
 | u :: us => setL (xs.set o u) (o + 1) us
def setC (w : World) (g o : Nat) : List Value → World
 | [] => w
 | u :: us => setC (w.setCell ⟨g, o, none⟩ u) g (o + 1) us
theorem setL_at (us : List Value) : ∀ (xs : List Value) (o q : Nat), (setL xs o us)[q]? = if o ≤ q ∧ q < o + us.length ∧ q < xs.length then us[q - o]? else xs[q]? := by
 induction us with
 | nil => intro xs o q; rw [setL, if_neg (by simp; omega)]
 | cons u us ih =>
  intro xs o q
  rw [setL, ih]
  simp only [List.length_set, List.length_cons, List.getElem?_set]
  by_cases h1 : o = q
  ·subst h1
   rw [if_neg (by omega), if_pos rfl]
   by_cases h2 : o < xs.length
   ·rw [if_pos h2, if_pos (by omega)]; simp
   ·rw [if_neg h2, if_neg (by omega), List.getElem?_eq_none (by omega)]
  ·rw [if_neg h1]
   by_cases h2 : o + 1 ≤ q ∧ q < o + 1 + us.length ∧ q < xs.length
   ·rw [if_pos h2, if_pos (by omega)]
    obtain ⟨d, hd⟩ : ∃ d, q - o = d + 1 := ⟨q - o - 1, by omega⟩
    rw [hd, List.getElem?_cons_succ]
    congr 1; omega
   ·rw [if_neg h2, if_neg (by omega)]
theorem Enc.f_set (E : Enc α) (M : List α) (j : Nat) (e : α) (h : j < M.length) : E.f (M.set j e) = setL (E.f M) (j * E.n) (E.c e) := by
 apply List.ext_getElem?
 intro q
 rw [setL_at, E.len, E.f_len]
 by_cases hq : q < M.length * E.n
 ·obtain ⟨p, i, hp, hi, rfl, e2⟩ := E.place M q hq
  have e1 := E.f_at (M.set j e) p (by simpa using hp) i hi
  rw [e1]
  by_cases hj : j = p
  ·subst hj
   rw [if_pos (by omega), List.getElem_set_self]
   congr 1; omega
  ·rw [List.getElem_set_ne hj, if_neg, e2]
   intro hc
   rcases Nat.lt_or_gt_of_ne hj with hlt | hlt
   ·have := Nat.mul_le_mul_right E.n (show j + 1 ≤ p from hlt)
    rw [Nat.add_mul, Nat.one_mul] at this; omega
   ·have := Nat.mul_le_mul_right E.n (show p + 1 ≤ j from hlt)
    rw [Nat.add_mul, Nat.one_mul] at this; omega
 ·rw [List.getElem?_eq_none (by rw [E.f_len, List.length_set]; omega), if_neg (by omega), List.getElem?_eq_none (by rw [E.f_len]; omega)]
theorem owns_setC {base g cap n s : Nat} (us : List Value) : ∀ {w : World} {xs : List Value} (o : Nat), w.ownsRow base T s (.slice (some ⟨g, 0, none⟩) n cap) n xs → (setC w g o us).ownsRow base T s (.slice (some ⟨g, 0, none⟩) n cap) n (setL xs o us) := by
 induction us with
 | nil => intro w xs o h; exact h
 | cons u us ih => intro w xs o h; exact ih (o + 1) (World.ownsRow.stored h o u).1
theorem Only.setC {S : Nat → Prop} {g : Nat} (hg : S g) (us : List Value) : ∀ {a w : World} (o : Nat), Only S a w → Only S a (setC w g o us) := by
 induction us with
 | nil => intro a w o h; exact h
 | cons u us ih => intro a w o h; exact ih (o + 1) (h.setCell hg u)
theorem Below.setC {B g : Nat} (hg : B ≤ g) (us : List Value) : ∀ {a w : World} (o : Nat), Below B a w → Below B a (setC w g o us) := by
 induction us with
 | nil => intro a w o h; exact h
 | cons u us ih => intro a w o h; exact ih (o + 1) (h.setCell hg u)
theorem Own.store {w : World} {base g cap n j : Nat} {M : List α} (h : Own E T w base (.slice (some ⟨g, 0, none⟩) n cap) M) (hn : M.length = n) (hj : j < n) (e : α) :
  Own E T (setC w g (j * E.n) (E.c e)) base (.slice (some ⟨g, 0, none⟩) n cap) (M.set j e) := by
 subst hn
 unfold Own
 rw [E.f_set M j e hj, List.length_set]
 exact owns_setC _ _ h
theorem Own.has {w : World} {base g cap n j i : Nat} {M : List α} (h : Own E T w base (.slice (some ⟨g, 0, none⟩) n cap) M) (hn : M.length = n) (hj : j < n) (hi : i < E.n) : ∃ u, w.cell? ⟨g, j * E.n + i, none⟩ = some u := by
 rw [h.at j (by omega) i hi, List.getElem?_eq_getElem (by rw [E.len]; exact hi)]
 exact ⟨_, rfl⟩
theorem Own.frozen {w : World} {base g cap n : Nat} {M : List α} (h : Own E T w base (.slice (some ⟨g, 0, none⟩) n cap) M) (hn : M.length = n) (o : Nat) : w.frozen? ⟨g, o, none⟩ = false := by subst hn; exact World.ownsRow.frozenAt h o

theorem Enc.rep (E : Enc α) (zv : Value) (hz : zv.cells.toList = E.c E.z) (k : Nat) : (madeCells zv.cells (k * E.n)).toList = E.f (List.replicate k E.z) := by
 have hsz : zv.cells.size = E.n := by rw [← Array.length_toList, hz, E.len]
 apply List.ext_getElem?
 intro q
 by_cases hq : q < k * E.n
 ·obtain ⟨j, i, hj, hi, rfl, e1⟩ := E.place (List.replicate k E.z) q (by simpa using hq)
  rw [e1, List.getElem_replicate]
  simp only [madeCells, Array.toList_map, List.getElem?_map, Array.toList_range, List.getElem?_range hq, Option.map_some, hsz]
  rw [Nat.add_comm, Nat.add_mul_mod_self_right, Nat.mod_eq_of_lt hi, ← hz, Array.getElem?_toList]
  rw [Array.getElem?_eq_getElem (by omega), getElem!_pos _ _ (by omega)]
 ·rw [List.getElem?_eq_none (by rw [Array.length_toList, size_madeCells]; omega), List.getElem?_eq_none (by rw [E.f_len]; simp; omega)]
/-- The first j of L, then zeros. -/
def Enc.mix (E : Enc α) (L : List α) (j : Nat) : List α := L.take j ++ List.replicate (L.length - j) E.z
theorem Enc.mix_len (E : Enc α) (L : List α) (j : Nat) (h : j ≤ L.length) : (E.mix L j).length = L.length := by simp [Enc.mix]; omega
theorem Enc.mix_zero (E : Enc α) (L : List α) : E.mix L 0 = List.replicate L.length E.z := by simp [Enc.mix]
theorem Enc.mix_all (E : Enc α) (L : List α) : E.mix L L.length = L := by simp [Enc.mix]
theorem Enc.mix_step (E : Enc α) (L : List α) (j : Nat) (h : j < L.length) : (E.mix L j).set j L[j] = E.mix L (j + 1) := by
 unfold Enc.mix
 obtain ⟨m, hm⟩ : ∃ m, L.length - j = m + 1 := ⟨L.length - j - 1, by omega⟩
 have hl : (L.take j).length = j := by simp; omega
 rw [List.set_append_right _ _ (by omega), hl, Nat.sub_self, hm, List.replicate_succ, List.set_cons_zero, show L.length - (j + 1) = m by omega, List.take_succ_eq_append_getElem h, List.append_assoc]
 rfl
/-- What is new since w: the row v. -/
structure New (E : Enc α) (T : TypeId) (w w' : World) (v : Value) (L : List α) : Prop where
 own : Own E T w' w.heap.size v L
 bel : Below w.heap.size w w'
end
end Go.Proofs.YtmkegmndcbpblaaGreatDoor
