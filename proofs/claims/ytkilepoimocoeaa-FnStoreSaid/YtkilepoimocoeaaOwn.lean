/- Rows of entries and of records that the call owns, and rows that it reads. -/
import Derived.Test.YtkilepoimocoeaaRecA
import Derived.Laws.OwnMore
import Derived.Maps.AppendAt
namespace Go.Proofs.Ytkilepoimocoeaa
open Go.RowKit
set_option linter.unusedVariables false

/-- Outside of S the world w' is as w was. -/
structure Only (S : Nat → Prop) (w w' : World) : Prop where
  os : w'.os = w.os
  tape : w'.tape = w.tape
  output : w'.output = w.output
  size : w.heap.size ≤ w'.heap.size
  block : ∀ k, k < w.heap.size → ¬ S k → w'.heap[k]? = w.heap[k]?
theorem Only.refl (S : Nat → Prop) (w : World) : Only S w w := ⟨rfl, rfl, rfl, Nat.le_refl _, fun _ _ _ => rfl⟩
theorem Only.trans {S : Nat → Prop} {a b c : World} (h : Only S a b) (k : Only S b c) : Only S a c :=
  ⟨k.os.trans h.os, k.tape.trans h.tape, k.output.trans h.output, Nat.le_trans h.size k.size, fun i hi hs => (k.block i (Nat.lt_of_lt_of_le hi h.size) hs).trans (h.block i hi hs)⟩
theorem Only.mono {S T : Nat → Prop} {w w' : World} (h : Only S w w') (hs : ∀ k, k < w.heap.size → S k → T k) : Only T w w' := ⟨h.os, h.tape, h.output, h.size, fun k hk ht => h.block k hk (fun hh => ht (hs k hk hh))⟩
/-- Behind a first step, one that turns what S allows or what is new. -/
theorem Only.then {S T : Nat → Prop} {a b c : World} (h : Only S a b) (k : Only T b c) (hs : ∀ k, k < a.heap.size → T k → S k) : Only S a c :=
  ⟨k.os.trans h.os, k.tape.trans h.tape, k.output.trans h.output, Nat.le_trans h.size k.size, fun i hi hns => (k.block i (Nat.lt_of_lt_of_le hi h.size) (fun ht => hns (hs i hi ht))).trans (h.block i hi hns)⟩
theorem Only.below {S : Nat → Prop} {B : Nat} {w w' : World} (h : Only S w w') (hB : B ≤ w.heap.size) (hs : ∀ k, k < B → ¬ S k) : Below B w w' := ⟨h.os, h.tape, h.output, h.size, fun k hk => h.block k (by omega) (hs k hk)⟩
theorem Below.only {B : Nat} {w w' : World} (h : Below B w w') : Only (fun k => B ≤ k) w w' := ⟨h.os, h.tape, h.output, h.size, fun k hk hs => h.block k (by omega)⟩
theorem Below.any {S : Nat → Prop} {w w' : World} (h : Below w.heap.size w w') : Only S w w' := ⟨h.os, h.tape, h.output, h.size, fun k hk hs => h.block k hk⟩
theorem Only.cell {S : Nat → Prop} {w w' : World} (h : Only S w w') {b o : Nat} (hb : b < w.heap.size) (hs : ¬ S b) : w'.cell? ⟨b, o, none⟩ = w.cell? ⟨b, o, none⟩ := World.cell?_of_block (w := w) (h.block b hb hs)
theorem Only.frozen {S : Nat → Prop} {w w' : World} (h : Only S w w') {b o : Nat} (hb : b < w.heap.size) (hs : ¬ S b) : w'.frozen? ⟨b, o, none⟩ = w.frozen? ⟨b, o, none⟩ := World.frozen?_of_block (w := w) (h.block b hb hs)
theorem Only.setCell {S : Nat → Prop} {a w : World} (h : Only S a w) {p : Addr} (hp : S p.block) (u : Value) : Only S a (w.setCell p u) :=
  h.trans ⟨rfl, rfl, rfl, by simp [World.setCell], fun k hk hs => Below.heap_setCell _ _ _ _ (fun e => hs (by rw [e]; exact hp))⟩
theorem Only.alloc {S : Nat → Prop} {a w : World} (h : Only S a w) (o : Obj) : Only S a (w.alloc o) :=
  h.trans ⟨rfl, rfl, rfl, by simp, fun k hk hs => Below.heap_alloc _ _ _ hk⟩
theorem Only.drew {S : Nat → Prop} {a w : World} (h : Only S a w) : Only S a w.drew := ⟨h.os, h.tape, h.output, h.size, h.block⟩
theorem grown_only {w w' : World} {row : Option Nat} (hg : w.grownBy w' row) : Only (fun k => some k = row) w w' := ⟨hg.os, hg.tape, hg.output, hg.size, fun k hk hs => hg.block k hk hs⟩

/-! Entries -/
def enC (e : En) : List Value := [.int .i64 e.t, .string e.d]
def enF (L : List En) : List Value := L.flatMap enC
theorem enF_len (L : List En) : (enF L).length = L.length * 2 := by
  induction L with
  | nil => rfl
  | cons a L ih => simp only [enF, List.flatMap_cons, List.length_append, List.length_cons] at ih ⊢; rw [ih]; simp [enC]; omega
theorem enF_append (A B : List En) : enF (A ++ B) = enF A ++ enF B := by simp [enF]
theorem enF_cons (a : En) (B : List En) : enF (a :: B) = enC a ++ enF B := by simp [enF]
theorem enF_at (L : List En) (j : Nat) (h : j < L.length) (i : Nat) (hi : i < 2) : (enF L)[j * 2 + i]? = (enC L[j])[i]? := by
  induction L generalizing j with
  | nil => simp at h
  | cons a L ih =>
    rw [enF_cons]
    cases j with
    | zero =>
      rw [List.getElem?_append_left (by simp [enC]; omega)]
      simp
    | succ j =>
      rw [List.getElem?_append_right (by simp [enC]; omega)]
      simp only [List.getElem_cons_succ]
      rw [← ih j (by simpa using h)]
      congr 1
      simp [enC]; omega
theorem enF_one {L : List En} : ∀ u ∈ enF L, u.oneCell' = true := by
  intro u hu
  simp only [enF, List.mem_flatMap] at hu
  obtain ⟨e, _, hu⟩ := hu
  simp only [enC, List.mem_cons, List.not_mem_nil, or_false] at hu
  rcases hu with rfl | rfl <;> rfl
theorem enC_len (a : En) : (enC a).length = 2 := rfl
theorem enF_drop (L : List En) (n : Nat) : enF (L.drop n) = (enF L).drop (n * 2) := by
  induction L generalizing n with
  | nil => simp [enF]
  | cons a L ih =>
    cases n with
    | zero => simp
    | succ n =>
      rw [List.drop_succ_cons, ih, enF_cons, show (n + 1) * 2 = (enC a).length + n * 2 by rw [enC_len]; omega, List.drop_length_add_append]
theorem enF_take (L : List En) (n : Nat) : enF (L.take n) = (enF L).take (n * 2) := by
  induction L generalizing n with
  | nil => simp [enF]
  | cons a L ih =>
    cases n with
    | zero => simp [enF]
    | succ n =>
      rw [List.take_succ_cons, enF_cons, ih, enF_cons, show (n + 1) * 2 = (enC a).length + n * 2 by rw [enC_len]; omega, List.take_length_add_append]
/-- The slice v, of memory from block base on, holds L; it starts its block. -/
def OwnE (w : World) (base : Nat) (v : Value) (L : List En) : Prop := w.ownsRow base 96 2 v L.length (enF L)
theorem OwnE.of_block {w w' : World} {base : Nat} {v : Value} {L : List En} (h : OwnE w base v L) (hb : ∀ k, v.ownBlock = some k → w'.heap[k]? = w.heap[k]?) : OwnE w' base v L := by
  refine ⟨h.1, ?_⟩
  rcases h.2 with hn | ⟨g, cap, cur, rfl, hg, hgg, rest⟩
  · exact .inl hn
  · exact .inr ⟨g, cap, cur, rfl, hg, (hb g rfl).trans hgg, rest⟩
theorem OwnE.lt {w : World} {base : Nat} {v : Value} {L : List En} (h : OwnE w base v L) : ∀ k, v.ownBlock = some k → base ≤ k ∧ k < w.heap.size := World.ownsRow.lt h
theorem OwnE.kept {w w' : World} {base : Nat} {v : Value} {L : List En} (h : OwnE w base v L) (hb : Below w.heap.size w w') : OwnE w' base v L := h.of_block fun k hk => hb.block k (h.lt k hk).2
theorem OwnE.keptB {w w' : World} {base B : Nat} {v : Value} {L : List En} (h : OwnE w base v L) (hb : Below B w w') (hv : ∀ k, v.ownBlock = some k → k < B) : OwnE w' base v L := h.of_block fun k hk => hb.block k (hv k hk)
theorem OwnE.only {w w' : World} {base : Nat} {S : Nat → Prop} {v : Value} {L : List En} (h : OwnE w base v L) (hb : Only S w w') (hv : ∀ k, v.ownBlock = some k → ¬ S k) : OwnE w' base v L := h.of_block fun k hk => hb.block k (h.lt k hk).2 (hv k hk)
theorem OwnE.lower {w : World} {base base' : Nat} {v : Value} {L : List En} (h : OwnE w base v L) (hb : base' ≤ base) : OwnE w base' v L := by
  refine ⟨h.1, ?_⟩
  rcases h.2 with hn | ⟨g, cap, cur, rfl, hg, hgg, rest⟩
  · exact .inl hn
  · exact .inr ⟨g, cap, cur, rfl, by omega, hgg, rest⟩
theorem OwnE.look {w : World} {base : Nat} {v : Value} {L : List En} (h : OwnE w base v L) : (v = .slice none 0 0 ∧ L = []) ∨ ∃ g cap, v = .slice (some ⟨g, 0, none⟩) L.length cap ∧ base ≤ g ∧ g < w.heap.size ∧ L.length ≤ cap ∧ cap ≤ 9223372036854775807 := by
  rcases h.2 with ⟨hv, hn⟩ | ⟨g, cap, cur, rfl, hg, hgg, hc, hm, rest⟩
  · exact .inl ⟨hv, List.eq_nil_of_length_eq_zero hn⟩
  · exact .inr ⟨g, cap, rfl, hg, (Array.getElem?_eq_some_iff.1 hgg).1, hc, hm⟩
theorem OwnE.at {w : World} {base g cap n : Nat} {L : List En} (h : OwnE w base (.slice (some ⟨g, 0, none⟩) n cap) L) (j : Nat) (hj : j < L.length) (i : Nat) (hi : i < 2) : w.cell? ⟨g, j * 2 + i, none⟩ = (enC L[j])[i]? := by
  have h1 := World.ownsRow.cells h (g := g) rfl (j * 2 + i)
  have h2 := enF_at L j hj i hi
  have hlt : i < (enC L[j]).length := by simpa [enC] using hi
  rw [List.getElem?_eq_getElem hlt] at h2 ⊢
  have h3 := h1 _ h2
  rw [← h3]
  unfold Addr.add
  split
  · rename_i h0; simp [h0]
  · simp
theorem OwnE.nil (w : World) (base : Nat) : OwnE w base (.slice none 0 0) [] := World.ownsRow_nil w base _ _
/-- The first n of a row that is owned. -/
theorem OwnE.pop {w : World} {base g cap n m : Nat} {L : List En} (h : OwnE w base (.slice (some ⟨g, 0, none⟩) n cap) L) (hm : m ≤ L.length) : OwnE w base (.slice (some ⟨g, 0, none⟩) m cap) (L.take m) := by
  have hl : (L.take m).length = m := by simp; omega
  refine ⟨by rw [enF_len], .inr ?_⟩
  rcases h.2 with ⟨hv, _⟩ | ⟨g', cap', cur, hv, hg, hgg, hc, hmx, hcs, htk⟩
  · cases hv
  · simp only [Value.slice.injEq, Option.some.injEq, Addr.mk.injEq, and_true] at hv
    obtain ⟨rfl, rfl, rfl⟩ := hv
    refine ⟨g, cap, cur, by rw [hl], hg, hgg, by omega, hmx, hcs, ?_⟩
    rw [hl, enF_take, ← htk, List.take_take]
    congr 1
    rw [Nat.min_eq_left (Nat.mul_le_mul_right _ hm)]

theorem OwnE.row {w : World} {base N : Nat} {v : Value} {L : List En} (h : OwnE w base v L) (hN : ∀ k, v.ownBlock = some k → k < N) : RowE w N v L := by
  rcases h.look with ⟨rfl, rfl⟩ | ⟨g, cap, rfl, hb, hg, hc, hm⟩
  · exact ⟨none, 0, rfl, Nat.le_refl _, by omega, fun h => absurd rfl h⟩
  · refine ⟨some ⟨g, 0, none⟩, cap, rfl, hc, hm, fun _ => ⟨g, 0, rfl, hN g rfl, fun j hj => ?_⟩⟩
    simp only [Nat.zero_add]
    exact ⟨by simpa [enC] using h.at j hj 0 (by omega), by simpa [enC] using h.at j hj 1 (by omega)⟩
theorem OwnE.rowAll {w : World} {base : Nat} {v : Value} {L : List En} (h : OwnE w base v L) : RowE w w.heap.size v L := h.row fun k hk => (h.lt k hk).2

/-- What lies behind the first n. -/
theorem RowE.drop {w : World} {N b off n cap : Nat} {L : List En} (h : RowE w N (.slice (some ⟨b, off, none⟩) L.length cap) L) (hn : n ≤ L.length) : RowE w N (.slice (some ⟨b, off + n * 2, none⟩) (L.length - n) (cap - n)) (L.drop n) := by
  obtain ⟨a, cap', hv, h1, h2, h3⟩ := h
  simp only [Value.slice.injEq, true_and] at hv
  obtain ⟨rfl, rfl⟩ := hv
  refine ⟨_, _, by rw [List.length_drop], by rw [List.length_drop]; omega, by omega, fun hL => ?_⟩
  obtain ⟨b', off', hb, hbN, h4⟩ := h3 (by rintro rfl; simp at hL)
  simp only [Option.some.injEq, Addr.mk.injEq, and_true] at hb
  obtain ⟨rfl, rfl⟩ := hb
  refine ⟨b, off + n * 2, rfl, hbN, fun j hj => ?_⟩
  rw [List.length_drop] at hj
  have h5 := h4 (n + j) (by omega)
  rw [show off + (n + j) * 2 = off + n * 2 + j * 2 by omega] at h5
  simpa using h5
theorem RowE.take {w : World} {N n cap : Nat} {a : Option Addr} {L : List En} (h : RowE w N (.slice a L.length cap) L) (hn : n ≤ L.length) : RowE w N (.slice a n cap) (L.take n) := by
  obtain ⟨a', cap', hv, h1, h2, h3⟩ := h
  simp only [Value.slice.injEq, true_and] at hv
  obtain ⟨rfl, rfl⟩ := hv
  have hl : (L.take n).length = n := by simp; omega
  refine ⟨a, cap, by rw [hl], by omega, h2, fun hL => ?_⟩
  obtain ⟨b, off, rfl, hbN, h4⟩ := h3 (by rintro rfl; simp at hL)
  refine ⟨b, off, rfl, hbN, fun j hj => ?_⟩
  rw [hl] at hj
  have h5 := h4 j (by omega)
  simpa using h5
theorem RowE.cells {w : World} {N b off cap : Nat} {L : List En} (h : RowE w N (.slice (some ⟨b, off, none⟩) L.length cap) L) (hL : L ≠ []) : b < N ∧ ∀ j u, (enF L)[j]? = some u → w.cell? ((⟨b, off, none⟩ : Addr).add j) = some u := by
  obtain ⟨a, cap', hv, h1, h2, h3⟩ := h
  simp only [Value.slice.injEq, true_and] at hv
  obtain ⟨rfl, rfl⟩ := hv
  obtain ⟨b', off', hb, hbN, h4⟩ := h3 hL
  simp only [Option.some.injEq, Addr.mk.injEq, and_true] at hb
  obtain ⟨rfl, rfl⟩ := hb
  refine ⟨hbN, fun j u hu => ?_⟩
  have hj : j < L.length * 2 := by
    have := (List.getElem?_eq_some_iff.1 hu).1
    rwa [enF_len] at this
  have hq : j / 2 < L.length := by omega
  have e := enF_at L (j / 2) hq (j % 2) (Nat.mod_lt _ (by omega))
  rw [show j / 2 * 2 + j % 2 = j by omega, hu] at e
  have ha : (⟨b, off, none⟩ : Addr).add j = ⟨b, off + j, none⟩ := by
    unfold Addr.add; split <;> simp_all
  have h5 := h4 (j / 2) hq
  have hr : j % 2 < 2 := Nat.mod_lt _ (by omega)
  have hj2 : off + j = off + j / 2 * 2 + j % 2 := by omega
  rw [ha, hj2]
  generalize j % 2 = r at *
  generalize j / 2 = q at *
  match r, hr with
  | 0, _ => rw [e]; simpa [enC] using h5.1
  | 1, _ => rw [e]; simpa [enC] using h5.2

/-! Records -/
def rcC (e : Rc) : List Value := [.int .i64 e.k, .int .i64 e.t, .int .i64 e.i, .int .i64 e.v, .string e.d]
def rcF (L : List Rc) : List Value := L.flatMap rcC
theorem rcF_len (L : List Rc) : (rcF L).length = L.length * 5 := by
  induction L with
  | nil => rfl
  | cons a L ih => simp only [rcF, List.flatMap_cons, List.length_append, List.length_cons] at ih ⊢; rw [ih]; simp [rcC]; omega
theorem rcF_append (A B : List Rc) : rcF (A ++ B) = rcF A ++ rcF B := by simp [rcF]
theorem rcF_cons (a : Rc) (B : List Rc) : rcF (a :: B) = rcC a ++ rcF B := by simp [rcF]
theorem rcF_at (L : List Rc) (j : Nat) (h : j < L.length) (i : Nat) (hi : i < 5) : (rcF L)[j * 5 + i]? = (rcC L[j])[i]? := by
  induction L generalizing j with
  | nil => simp at h
  | cons a L ih =>
    rw [rcF_cons]
    cases j with
    | zero =>
      rw [List.getElem?_append_left (by simp [rcC]; omega)]
      simp
    | succ j =>
      rw [List.getElem?_append_right (by simp [rcC]; omega)]
      simp only [List.getElem_cons_succ]
      rw [← ih j (by simpa using h)]
      congr 1
      simp [rcC]; omega
theorem rcF_one {L : List Rc} : ∀ u ∈ rcF L, u.oneCell' = true := by
  intro u hu
  simp only [rcF, List.mem_flatMap] at hu
  obtain ⟨e, _, hu⟩ := hu
  simp only [rcC, List.mem_cons, List.not_mem_nil, or_false] at hu
  rcases hu with rfl | rfl | rfl | rfl | rfl <;> rfl
theorem rcC_len (a : Rc) : (rcC a).length = 5 := rfl
theorem rcF_drop (L : List Rc) (n : Nat) : rcF (L.drop n) = (rcF L).drop (n * 5) := by
  induction L generalizing n with
  | nil => simp [rcF]
  | cons a L ih =>
    cases n with
    | zero => simp
    | succ n =>
      rw [List.drop_succ_cons, ih, rcF_cons, show (n + 1) * 5 = (rcC a).length + n * 5 by rw [rcC_len]; omega, List.drop_length_add_append]
theorem rcF_take (L : List Rc) (n : Nat) : rcF (L.take n) = (rcF L).take (n * 5) := by
  induction L generalizing n with
  | nil => simp [rcF]
  | cons a L ih =>
    cases n with
    | zero => simp [rcF]
    | succ n =>
      rw [List.take_succ_cons, rcF_cons, ih, rcF_cons, show (n + 1) * 5 = (rcC a).length + n * 5 by rw [rcC_len]; omega, List.take_length_add_append]
/-- The slice v, of memory from block base on, holds L; it starts its block. -/
def OwnR (w : World) (base : Nat) (v : Value) (L : List Rc) : Prop := w.ownsRow base 43 5 v L.length (rcF L)
theorem OwnR.of_block {w w' : World} {base : Nat} {v : Value} {L : List Rc} (h : OwnR w base v L) (hb : ∀ k, v.ownBlock = some k → w'.heap[k]? = w.heap[k]?) : OwnR w' base v L := by
  refine ⟨h.1, ?_⟩
  rcases h.2 with hn | ⟨g, cap, cur, rfl, hg, hgg, rest⟩
  · exact .inl hn
  · exact .inr ⟨g, cap, cur, rfl, hg, (hb g rfl).trans hgg, rest⟩
theorem OwnR.lt {w : World} {base : Nat} {v : Value} {L : List Rc} (h : OwnR w base v L) : ∀ k, v.ownBlock = some k → base ≤ k ∧ k < w.heap.size := World.ownsRow.lt h
theorem OwnR.kept {w w' : World} {base : Nat} {v : Value} {L : List Rc} (h : OwnR w base v L) (hb : Below w.heap.size w w') : OwnR w' base v L := h.of_block fun k hk => hb.block k (h.lt k hk).2
theorem OwnR.keptB {w w' : World} {base B : Nat} {v : Value} {L : List Rc} (h : OwnR w base v L) (hb : Below B w w') (hv : ∀ k, v.ownBlock = some k → k < B) : OwnR w' base v L := h.of_block fun k hk => hb.block k (hv k hk)
theorem OwnR.only {w w' : World} {base : Nat} {S : Nat → Prop} {v : Value} {L : List Rc} (h : OwnR w base v L) (hb : Only S w w') (hv : ∀ k, v.ownBlock = some k → ¬ S k) : OwnR w' base v L := h.of_block fun k hk => hb.block k (h.lt k hk).2 (hv k hk)
theorem OwnR.lower {w : World} {base base' : Nat} {v : Value} {L : List Rc} (h : OwnR w base v L) (hb : base' ≤ base) : OwnR w base' v L := by
  refine ⟨h.1, ?_⟩
  rcases h.2 with hn | ⟨g, cap, cur, rfl, hg, hgg, rest⟩
  · exact .inl hn
  · exact .inr ⟨g, cap, cur, rfl, by omega, hgg, rest⟩
theorem OwnR.look {w : World} {base : Nat} {v : Value} {L : List Rc} (h : OwnR w base v L) : (v = .slice none 0 0 ∧ L = []) ∨ ∃ g cap, v = .slice (some ⟨g, 0, none⟩) L.length cap ∧ base ≤ g ∧ g < w.heap.size ∧ L.length ≤ cap ∧ cap ≤ 9223372036854775807 := by
  rcases h.2 with ⟨hv, hn⟩ | ⟨g, cap, cur, rfl, hg, hgg, hc, hm, rest⟩
  · exact .inl ⟨hv, List.eq_nil_of_length_eq_zero hn⟩
  · exact .inr ⟨g, cap, rfl, hg, (Array.getElem?_eq_some_iff.1 hgg).1, hc, hm⟩
theorem OwnR.at {w : World} {base g cap n : Nat} {L : List Rc} (h : OwnR w base (.slice (some ⟨g, 0, none⟩) n cap) L) (j : Nat) (hj : j < L.length) (i : Nat) (hi : i < 5) : w.cell? ⟨g, j * 5 + i, none⟩ = (rcC L[j])[i]? := by
  have h1 := World.ownsRow.cells h (g := g) rfl (j * 5 + i)
  have h2 := rcF_at L j hj i hi
  have hlt : i < (rcC L[j]).length := by simpa [rcC] using hi
  rw [List.getElem?_eq_getElem hlt] at h2 ⊢
  have h3 := h1 _ h2
  rw [← h3]
  unfold Addr.add
  split
  · rename_i h0; simp [h0]
  · simp
theorem OwnR.nil (w : World) (base : Nat) : OwnR w base (.slice none 0 0) [] := World.ownsRow_nil w base _ _
/-- The first n of a row that is owned. -/
theorem OwnR.pop {w : World} {base g cap n m : Nat} {L : List Rc} (h : OwnR w base (.slice (some ⟨g, 0, none⟩) n cap) L) (hm : m ≤ L.length) : OwnR w base (.slice (some ⟨g, 0, none⟩) m cap) (L.take m) := by
  have hl : (L.take m).length = m := by simp; omega
  refine ⟨by rw [rcF_len], .inr ?_⟩
  rcases h.2 with ⟨hv, _⟩ | ⟨g', cap', cur, hv, hg, hgg, hc, hmx, hcs, htk⟩
  · cases hv
  · simp only [Value.slice.injEq, Option.some.injEq, Addr.mk.injEq, and_true] at hv
    obtain ⟨rfl, rfl, rfl⟩ := hv
    refine ⟨g, cap, cur, by rw [hl], hg, hgg, by omega, hmx, hcs, ?_⟩
    rw [hl, rcF_take, ← htk, List.take_take]
    congr 1
    rw [Nat.min_eq_left (Nat.mul_le_mul_right _ hm)]

/-- The slice v, in memory below block N, holds the records L. -/
def RowR (w : World) (N : Nat) (v : Value) (L : List Rc) : Prop := ∃ a cap, v = .slice a L.length cap ∧ L.length ≤ cap ∧ cap ≤ 9223372036854775807 ∧
  (L ≠ [] → ∃ b off, a = some ⟨b, off, none⟩ ∧ b < N ∧ ∀ j (h : j < L.length), w.cell? ⟨b, off + j * 5, none⟩ = some (.int .i64 L[j].k) ∧ w.cell? ⟨b, off + j * 5 + 1, none⟩ = some (.int .i64 L[j].t) ∧ w.cell? ⟨b, off + j * 5 + 2, none⟩ = some (.int .i64 L[j].i) ∧ w.cell? ⟨b, off + j * 5 + 3, none⟩ = some (.int .i64 L[j].v) ∧ w.cell? ⟨b, off + j * 5 + 4, none⟩ = some (.string L[j].d))
theorem RowR.of {w w' : World} {N : Nat} {v : Value} {L : List Rc} (h : RowR w N v L) (hc : ∀ b o, b < N → w'.cell? ⟨b, o, none⟩ = w.cell? ⟨b, o, none⟩) : RowR w' N v L := by
  obtain ⟨a, cap, rfl, h1, h2, h3⟩ := h
  refine ⟨a, cap, rfl, h1, h2, fun hL => ?_⟩
  obtain ⟨b, off, rfl, hbN, h4⟩ := h3 hL
  refine ⟨b, off, rfl, hbN, fun j hj => ?_⟩
  simp only [hc _ _ hbN]
  exact h4 j hj
theorem RowR.kept {w w' : World} {N : Nat} {v : Value} {L : List Rc} (h : RowR w N v L) (hb : Below N w w') : RowR w' N v L := h.of fun b o hN => hb.cell (p := ⟨b, o, none⟩) hN
theorem RowR.up {w : World} {N N' : Nat} {v : Value} {L : List Rc} (h : RowR w N v L) (hN : N ≤ N') : RowR w N' v L := by
  obtain ⟨a, cap, rfl, h1, h2, h3⟩ := h
  refine ⟨a, cap, rfl, h1, h2, fun hL => ?_⟩
  obtain ⟨b, off, rfl, hbN, hc⟩ := h3 hL
  exact ⟨b, off, rfl, by omega, hc⟩

theorem OwnR.row {w : World} {base N : Nat} {v : Value} {L : List Rc} (h : OwnR w base v L) (hN : ∀ k, v.ownBlock = some k → k < N) : RowR w N v L := by
  rcases h.look with ⟨rfl, rfl⟩ | ⟨g, cap, rfl, hb, hg, hc, hm⟩
  · exact ⟨none, 0, rfl, Nat.le_refl _, by omega, fun h => absurd rfl h⟩
  · refine ⟨some ⟨g, 0, none⟩, cap, rfl, hc, hm, fun _ => ⟨g, 0, rfl, hN g rfl, fun j hj => ?_⟩⟩
    simp only [Nat.zero_add]
    exact ⟨by simpa [rcC] using h.at j hj 0 (by omega), by simpa [rcC] using h.at j hj 1 (by omega), by simpa [rcC] using h.at j hj 2 (by omega), by simpa [rcC] using h.at j hj 3 (by omega), by simpa [rcC] using h.at j hj 4 (by omega)⟩
theorem OwnR.rowAll {w : World} {base : Nat} {v : Value} {L : List Rc} (h : OwnR w base v L) : RowR w w.heap.size v L := h.row fun k hk => (h.lt k hk).2

/-- What lies behind the first n. -/
theorem RowR.drop {w : World} {N b off n cap : Nat} {L : List Rc} (h : RowR w N (.slice (some ⟨b, off, none⟩) L.length cap) L) (hn : n ≤ L.length) : RowR w N (.slice (some ⟨b, off + n * 5, none⟩) (L.length - n) (cap - n)) (L.drop n) := by
  obtain ⟨a, cap', hv, h1, h2, h3⟩ := h
  simp only [Value.slice.injEq, true_and] at hv
  obtain ⟨rfl, rfl⟩ := hv
  refine ⟨_, _, by rw [List.length_drop], by rw [List.length_drop]; omega, by omega, fun hL => ?_⟩
  obtain ⟨b', off', hb, hbN, h4⟩ := h3 (by rintro rfl; simp at hL)
  simp only [Option.some.injEq, Addr.mk.injEq, and_true] at hb
  obtain ⟨rfl, rfl⟩ := hb
  refine ⟨b, off + n * 5, rfl, hbN, fun j hj => ?_⟩
  rw [List.length_drop] at hj
  have h5 := h4 (n + j) (by omega)
  rw [show off + (n + j) * 5 = off + n * 5 + j * 5 by omega] at h5
  simpa using h5
theorem RowR.take {w : World} {N n cap : Nat} {a : Option Addr} {L : List Rc} (h : RowR w N (.slice a L.length cap) L) (hn : n ≤ L.length) : RowR w N (.slice a n cap) (L.take n) := by
  obtain ⟨a', cap', hv, h1, h2, h3⟩ := h
  simp only [Value.slice.injEq, true_and] at hv
  obtain ⟨rfl, rfl⟩ := hv
  have hl : (L.take n).length = n := by simp; omega
  refine ⟨a, cap, by rw [hl], by omega, h2, fun hL => ?_⟩
  obtain ⟨b, off, rfl, hbN, h4⟩ := h3 (by rintro rfl; simp at hL)
  refine ⟨b, off, rfl, hbN, fun j hj => ?_⟩
  rw [hl] at hj
  have h5 := h4 j (by omega)
  simpa using h5
theorem RowR.cells {w : World} {N b off cap : Nat} {L : List Rc} (h : RowR w N (.slice (some ⟨b, off, none⟩) L.length cap) L) (hL : L ≠ []) : b < N ∧ ∀ j u, (rcF L)[j]? = some u → w.cell? ((⟨b, off, none⟩ : Addr).add j) = some u := by
  obtain ⟨a, cap', hv, h1, h2, h3⟩ := h
  simp only [Value.slice.injEq, true_and] at hv
  obtain ⟨rfl, rfl⟩ := hv
  obtain ⟨b', off', hb, hbN, h4⟩ := h3 hL
  simp only [Option.some.injEq, Addr.mk.injEq, and_true] at hb
  obtain ⟨rfl, rfl⟩ := hb
  refine ⟨hbN, fun j u hu => ?_⟩
  have hj : j < L.length * 5 := by
    have := (List.getElem?_eq_some_iff.1 hu).1
    rwa [rcF_len] at this
  have hq : j / 5 < L.length := by omega
  have e := rcF_at L (j / 5) hq (j % 5) (Nat.mod_lt _ (by omega))
  rw [show j / 5 * 5 + j % 5 = j by omega, hu] at e
  have ha : (⟨b, off, none⟩ : Addr).add j = ⟨b, off + j, none⟩ := by
    unfold Addr.add; split <;> simp_all
  have h5 := h4 (j / 5) hq
  have hr : j % 5 < 5 := Nat.mod_lt _ (by omega)
  have hj2 : off + j = off + j / 5 * 5 + j % 5 := by omega
  rw [ha, hj2]
  generalize j % 5 = r at *
  generalize j / 5 = q at *
  match r, hr with
  | 0, _ => rw [e]; simpa [rcC] using h5.1
  | 1, _ => rw [e]; simpa [rcC] using h5.2.1
  | 2, _ => rw [e]; simpa [rcC] using h5.2.2.1
  | 3, _ => rw [e]; simpa [rcC] using h5.2.2.2.1
  | 4, _ => rw [e]; simpa [rcC] using h5.2.2.2.2

theorem RowE.of {w w' : World} {N : Nat} {v : Value} {L : List En} (h : RowE w N v L) (hc : ∀ b o, b < N → w'.cell? ⟨b, o, none⟩ = w.cell? ⟨b, o, none⟩) : RowE w' N v L := by
  obtain ⟨a, cap, rfl, h1, h2, h3⟩ := h
  refine ⟨a, cap, rfl, h1, h2, fun hL => ?_⟩
  obtain ⟨b, off, rfl, hbN, h4⟩ := h3 hL
  refine ⟨b, off, rfl, hbN, fun j hj => ?_⟩
  simp only [hc _ _ hbN]
  exact h4 j hj
/-- Two blocks that were just laid. -/
theorem boxed2 (w : World) (A B : Array Value) (T T' : TypeId) : ∃ W, (w.alloc (.cells A T)).alloc (.cells B T') = W ∧ Below w.heap.size w W ∧ W.heap.size = w.heap.size + 1 + 1 ∧ (∀ o, W.cell? ⟨w.heap.size, o, none⟩ = A[o]?) ∧ (∀ o, W.frozen? ⟨w.heap.size, o, none⟩ = false) ∧ (∀ o, W.cell? ⟨w.heap.size + 1, o, none⟩ = B[o]?) ∧ (∀ o, W.frozen? ⟨w.heap.size + 1, o, none⟩ = false) := by
  refine ⟨_, rfl, ((Below.refl _ _).alloc (Nat.le_refl _) _).alloc (by simp) _, by simp, fun o => ?_, fun o => ?_, fun o => ?_, fun o => ?_⟩
  · rw [World.cell?_alloc_past _ _ _ (by simp), World.cell?_alloc_at _ _ _ _ rfl]
  · rw [World.frozen?_alloc_past _ _ _ (by simp), World.frozen?_alloc_at _ _ _ _ rfl]
  · rw [World.cell?_alloc_at _ _ _ _ (by simp)]
  · rw [World.frozen?_alloc_at _ _ _ _ (by simp)]
/-- Three blocks that were just laid. -/
theorem boxed3 (w : World) (A B C : Array Value) (T T' T2 : TypeId) : ∃ W, ((w.alloc (.cells A T)).alloc (.cells B T')).alloc (.cells C T2) = W ∧ Below w.heap.size w W ∧ W.heap.size = w.heap.size + 1 + 1 + 1 ∧ (∀ o, W.cell? ⟨w.heap.size, o, none⟩ = A[o]?) ∧ (∀ o, W.frozen? ⟨w.heap.size, o, none⟩ = false) ∧ (∀ o, W.cell? ⟨w.heap.size + 1, o, none⟩ = B[o]?) ∧ (∀ o, W.frozen? ⟨w.heap.size + 1, o, none⟩ = false) ∧ (∀ o, W.cell? ⟨w.heap.size + 1 + 1, o, none⟩ = C[o]?) ∧ (∀ o, W.frozen? ⟨w.heap.size + 1 + 1, o, none⟩ = false) := by
  refine ⟨_, rfl, (((Below.refl _ _).alloc (Nat.le_refl _) _).alloc (by simp) _).alloc (by simp; omega) _, by simp, fun o => ?_, fun o => ?_, fun o => ?_, fun o => ?_, fun o => ?_, fun o => ?_⟩
  · rw [World.cell?_alloc_past _ _ _ (by simp; omega), World.cell?_alloc_past _ _ _ (by simp), World.cell?_alloc_at _ _ _ _ rfl]
  · rw [World.frozen?_alloc_past _ _ _ (by simp; omega), World.frozen?_alloc_past _ _ _ (by simp), World.frozen?_alloc_at _ _ _ _ rfl]
  · rw [World.cell?_alloc_past _ _ _ (by simp), World.cell?_alloc_at _ _ _ _ (by simp)]
  · rw [World.frozen?_alloc_past _ _ _ (by simp), World.frozen?_alloc_at _ _ _ _ (by simp)]
  · rw [World.cell?_alloc_at _ _ _ _ (by simp)]
  · rw [World.frozen?_alloc_at _ _ _ _ (by simp)]
/-- A block's cells stay. -/
theorem keepC {B : Nat} {w w' : World} {b : Nat} {A : Array Value} (hb : Below B w w') (hlt : b < B) (h : ∀ o, w.cell? ⟨b, o, none⟩ = A[o]?) : ∀ o, w'.cell? ⟨b, o, none⟩ = A[o]? := fun o => (hb.cell (p := ⟨b, o, none⟩) hlt).trans (h o)
theorem keepF {B : Nat} {w w' : World} {b : Nat} (hb : Below B w w') (hlt : b < B) (h : ∀ o, w.frozen? ⟨b, o, none⟩ = false) : ∀ o, w'.frozen? ⟨b, o, none⟩ = false := fun o => (hb.frozen (p := ⟨b, o, none⟩) hlt).trans (h o)
end Go.Proofs.Ytkilepoimocoeaa
