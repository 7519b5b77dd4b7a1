/- A cursor's piece and call; a number that was laid between the others. -/
import Derived.Test.YtknckbedddeijaaGreatRows
import Derived.WalkKit
import Derived.WalkSpells
import Derived.WalkLawsBesides
import Derived.Deep.QuietTactic
import Derived.BigQuiet
import Derived.OpenShut
import Derived.Below
import Derived.Lib.SmallJoins
import Derived.Deep.RegionWith
import Derived.Laws.OwnMore
import Derived.Laws.MakeOwn
import Derived.Maps.AppendAt
import Derived.ProofKit
import Derived.ShutString
import Derived.ChangeOld
import Derived.Deep.Slices
import Derived.OwnWalk
import Derived.Shelf.LaysM
import Derived.Shelf.Strconv.Clone
import Derived.Defers
import Derived.Deep.Cut
import Derived.Shelf.Strings.Builder1
import Derived.Deep.RegionHeld3
namespace Go.Proofs.YtknckbedddeijaaGreat
open Go.RowKit
set_option linter.unusedVariables false
theorem Hid.intro {p : Prop} (h : p) : Hid p := h

theorem ret_bool {a b : Bool} (h : a = b) : Ending.returned (.bool a) = .returned (.bool b) := by rw [h]

theorem ret_int {k : IntKind} {a b : Int} (h : a = b) : Ending.returned (.int k a) = .returned (.int k b) := by rw [h]

theorem bcell {W w1 : World} (hb : Below W.heap.size W w1) : (∀ b o, b < W.heap.size → w1.cell? ⟨b, o, none⟩ = W.cell? ⟨b, o, none⟩) ∧ (∀ b o, b < W.heap.size → w1.frozen? ⟨b, o, none⟩ = W.frozen? ⟨b, o, none⟩) :=
 ⟨fun b o h => hb.cell (p := ⟨b, o, none⟩) h, fun b o h => hb.frozen (p := ⟨b, o, none⟩) h⟩

theorem atCell {B : Nat} {w w' : World} (hb : Below B w w') {b o : Nat} {x : Value} (h : w.cell? ⟨b, o, none⟩ = some x) (hB : b < B) : w'.cell? ⟨b, o, none⟩ = some x := (hb.cell (p := ⟨b, o, none⟩) hB).trans h

theorem atFrozen {B : Nat} {w w' : World} (hb : Below B w w') {b o : Nat} {x : Bool} (h : w.frozen? ⟨b, o, none⟩ = x) (hB : b < B) : w'.frozen? ⟨b, o, none⟩ = x := (hb.frozen (p := ⟨b, o, none⟩) hB).trans h

/-- A block of cells that was just laid. -/
theorem boxed (w : World) (A : Array Value) (T : TypeId) : ∃ W, w.alloc (.cells A T) = W ∧ Below w.heap.size w W ∧ W.heap.size = w.heap.size + 1 ∧ (∀ o, W.cell? ⟨w.heap.size, o, none⟩ = A[o]?) ∧ (∀ o, W.frozen? ⟨w.heap.size, o, none⟩ = false) :=
 ⟨_, rfl, (Below.refl _ _).alloc (Nat.le_refl _) _, by simp, fun o => World.cell?_alloc_at _ _ _ _ rfl, fun o => World.frozen?_alloc_at _ _ _ _ rfl⟩

/-- Outside of S the world w' is as w was. -/
structure Only (S : Nat → Prop) (w w' : World) : Prop where
 os : w'.os = w.os
 tape : w'.tape = w.tape
 output : w'.output = w.output
 size : w.heap.size ≤ w'.heap.size
 block : ∀ k, k < w.heap.size → ¬ S k → w'.heap[k]? = w.heap[k]?

theorem Only.refl (S : Nat → Prop) (w : World) : Only S w w := ⟨rfl, rfl, rfl, Nat.le_refl _, fun _ _ _ => rfl⟩

theorem Only.trans {S : Nat → Prop} {a b c : World} (h : Only S a b) (k : Only S b c) : Only S a c :=
 ⟨k.os.trans h.os, k.tape.trans h.tape, k.output.trans h.output, Nat.le_trans h.size k.size, fun i hi hs => (k.block i (Nat.lt_of_lt_of_le hi h.size) hs).trans (h.block i hi hs)⟩

theorem Only.mono {S T : Nat → Prop} {w w' : World} (h : Only S w w') (hs : ∀ k, k < w.heap.size → S k → T k) : Only T w w' := ⟨h.os, h.tape, h.output, h.size, fun k hk ht => h.block k hk (fun hh => ht (hs k hk hh))⟩

/-- Behind a first step, one that turns what S allows or what is new. -/
theorem Only.then {S T : Nat → Prop} {a b c : World} (h : Only S a b) (k : Only T b c) (hs : ∀ k, k < a.heap.size → T k → S k) : Only S a c :=
 ⟨k.os.trans h.os, k.tape.trans h.tape, k.output.trans h.output, Nat.le_trans h.size k.size, fun i hi hns => (k.block i (Nat.lt_of_lt_of_le hi h.size) (fun ht => hns (hs i hi ht))).trans (h.block i hi hns)⟩

theorem Only.below {S : Nat → Prop} {B : Nat} {w w' : World} (h : Only S w w') (hB : B ≤ w.heap.size) (hs : ∀ k, k < B → ¬ S k) : Below B w w' := ⟨h.os, h.tape, h.output, h.size, fun k hk => h.block k (by omega) (hs k hk)⟩

theorem Only.cell {S : Nat → Prop} {w w' : World} (h : Only S w w') {b o : Nat} (hb : b < w.heap.size) (hs : ¬ S b) : w'.cell? ⟨b, o, none⟩ = w.cell? ⟨b, o, none⟩ := World.cell?_of_block (w := w) (h.block b hb hs)

theorem Only.frozen {S : Nat → Prop} {w w' : World} (h : Only S w w') {b o : Nat} (hb : b < w.heap.size) (hs : ¬ S b) : w'.frozen? ⟨b, o, none⟩ = w.frozen? ⟨b, o, none⟩ := World.frozen?_of_block (w := w) (h.block b hb hs)

theorem Only.setCell {S : Nat → Prop} {a w : World} (h : Only S a w) {p : Addr} (hp : S p.block) (u : Value) : Only S a (w.setCell p u) :=
 h.trans ⟨rfl, rfl, rfl, by simp [World.setCell], fun k hk hs => Below.heap_setCell _ _ _ _ (fun e => hs (by rw [e]; exact hp))⟩

theorem Only.alloc {S : Nat → Prop} {a w : World} (h : Only S a w) (o : Obj) : Only S a (w.alloc o) :=
 h.trans ⟨rfl, rfl, rfl, by simp, fun k hk hs => Below.heap_alloc _ _ _ hk⟩

theorem Only.drew {S : Nat → Prop} {a w : World} (h : Only S a w) : Only S a w.drew := ⟨h.os, h.tape, h.output, h.size, h.block⟩

/-- Two blocks that were just laid. -/
theorem boxed2 (w : World) (A B : Array Value) (T T' : TypeId) : ∃ W, (w.alloc (.cells A T)).alloc (.cells B T') = W ∧ Below w.heap.size w W ∧ W.heap.size = w.heap.size + 1 + 1 ∧ (∀ o, W.cell? ⟨w.heap.size, o, none⟩ = A[o]?) ∧ (∀ o, W.frozen? ⟨w.heap.size, o, none⟩ = false) ∧ (∀ o, W.cell? ⟨w.heap.size + 1, o, none⟩ = B[o]?) ∧ (∀ o, W.frozen? ⟨w.heap.size + 1, o, none⟩ = false) := by
 refine ⟨_, rfl, ((Below.refl _ _).alloc (Nat.le_refl _) _).alloc (by simp) _, by simp, fun o => ?_, fun o => ?_, fun o => ?_, fun o => ?_⟩
 ·rw [World.cell?_alloc_past _ _ _ (by simp), World.cell?_alloc_at _ _ _ _ rfl]
 ·rw [World.frozen?_alloc_past _ _ _ (by simp), World.frozen?_alloc_at _ _ _ _ rfl]
 ·rw [World.cell?_alloc_at _ _ _ _ (by simp)]
 ·rw [World.frozen?_alloc_at _ _ _ _ (by simp)]

/-- Three blocks that were just laid. -/
theorem boxed3 (w : World) (A B C : Array Value) (T T' T2 : TypeId) : ∃ W, ((w.alloc (.cells A T)).alloc (.cells B T')).alloc (.cells C T2) = W ∧ Below w.heap.size w W ∧ W.heap.size = w.heap.size + 1 + 1 + 1 ∧ (∀ o, W.cell? ⟨w.heap.size, o, none⟩ = A[o]?) ∧ (∀ o, W.frozen? ⟨w.heap.size, o, none⟩ = false) ∧ (∀ o, W.cell? ⟨w.heap.size + 1, o, none⟩ = B[o]?) ∧ (∀ o, W.frozen? ⟨w.heap.size + 1, o, none⟩ = false) ∧ (∀ o, W.cell? ⟨w.heap.size + 1 + 1, o, none⟩ = C[o]?) ∧ (∀ o, W.frozen? ⟨w.heap.size + 1 + 1, o, none⟩ = false) := by
 refine ⟨_, rfl, (((Below.refl _ _).alloc (Nat.le_refl _) _).alloc (by simp) _).alloc (by simp; omega) _, by simp, fun o => ?_, fun o => ?_, fun o => ?_, fun o => ?_, fun o => ?_, fun o => ?_⟩
 ·rw [World.cell?_alloc_past _ _ _ (by simp; omega), World.cell?_alloc_past _ _ _ (by simp), World.cell?_alloc_at _ _ _ _ rfl]
 ·rw [World.frozen?_alloc_past _ _ _ (by simp; omega), World.frozen?_alloc_past _ _ _ (by simp), World.frozen?_alloc_at _ _ _ _ rfl]
 ·rw [World.cell?_alloc_past _ _ _ (by simp), World.cell?_alloc_at _ _ _ _ (by simp)]
 ·rw [World.frozen?_alloc_past _ _ _ (by simp), World.frozen?_alloc_at _ _ _ _ (by simp)]
 ·rw [World.cell?_alloc_at _ _ _ _ (by simp)]
 ·rw [World.frozen?_alloc_at _ _ _ _ (by simp)]

/-- A block's cells stay. -/
theorem keepC {B : Nat} {w w' : World} {b : Nat} {A : Array Value} (hb : Below B w w') (hlt : b < B) (h : ∀ o, w.cell? ⟨b, o, none⟩ = A[o]?) : ∀ o, w'.cell? ⟨b, o, none⟩ = A[o]? := fun o => (hb.cell (p := ⟨b, o, none⟩) hlt).trans (h o)

theorem keepF {B : Nat} {w w' : World} {b : Nat} (hb : Below B w w') (hlt : b < B) (h : ∀ o, w.frozen? ⟨b, o, none⟩ = false) : ∀ o, w'.frozen? ⟨b, o, none⟩ = false := fun o => (hb.frozen (p := ⟨b, o, none⟩) hlt).trans (h o)

theorem ret_str {a b : ByteArray} (h : a = b) : Ending.returned (.string a) = .returned (.string b) := by rw [h]

theorem val_str {a b : ByteArray} (h : a = b) : Value.string a = .string b := by rw [h]

theorem Below.only {B : Nat} {w w' : World} (h : Below B w w') : Only (fun k => B ≤ k) w w' := ⟨h.os, h.tape, h.output, h.size, fun k hk hs => h.block k (by omega)⟩
theorem Below.any {S : Nat → Prop} {w w' : World} (h : Below w.heap.size w w') : Only S w w' := ⟨h.os, h.tape, h.output, h.size, fun k hk hs => h.block k hk⟩
theorem grown_only {w w' : World} {row : Option Nat} (hg : w.grownBy w' row) : Only (fun k => some k = row) w w' := ⟨hg.os, hg.tape, hg.output, hg.size, fun k hk hs => hg.block k hk hs⟩
theorem add_none (b off j : Nat) : (⟨b, off, none⟩ : Addr).add j = ⟨b, off + j, none⟩ := by unfold Addr.add; split <;> simp_all
theorem one_below (w : World) (A : Obj) : Below w.heap.size w (w.alloc A) := (Below.refl _ _).alloc (Nat.le_refl _) _
theorem two_below (w : World) (A B : Obj) : Below w.heap.size w ((w.alloc A).alloc B) := ((Below.refl _ _).alloc (Nat.le_refl _) _).alloc (by simp) _
theorem three_below (w : World) (A B C : Obj) : Below w.heap.size w (((w.alloc A).alloc B).alloc C) := (((Below.refl _ _).alloc (Nat.le_refl _) _).alloc (by simp) _).alloc (by simp; omega) _
/-- The block g holds A, and may be written. -/
structure Blk (w : World) (g : Nat) (A : Array Value) : Prop where
 hi : g < w.heap.size
 cell : ∀ o, w.cell? ⟨g, o, none⟩ = A[o]?
 fro : ∀ o, w.frozen? ⟨g, o, none⟩ = false
theorem Blk.keptB {w w' : World} {g B : Nat} {A : Array Value} (h : Blk w g A) (hb : Below B w w') (hB : g < B) : Blk w' g A := ⟨Nat.lt_of_lt_of_le h.hi hb.size, keepC hb hB h.cell, keepF hb hB h.fro⟩
theorem Blk.kept {w w' : World} {g : Nat} {A : Array Value} (h : Blk w g A) (hb : Below w.heap.size w w') : Blk w' g A := h.keptB hb h.hi
theorem Blk.only {w w' : World} {g : Nat} {A : Array Value} {S : Nat → Prop} (h : Blk w g A) (hb : Only S w w') (hs : ¬ S g) : Blk w' g A := ⟨Nat.lt_of_lt_of_le h.hi hb.size, fun o => (hb.cell h.hi hs).trans (h.cell o), fun o => (hb.frozen h.hi hs).trans (h.fro o)⟩
end Go.Proofs.YtknckbedddeijaaGreat
namespace Go.Proofs.YtknckbedddeijaaGreat
open Go.RowKit
set_option linter.unusedVariables false

/-- How a thing lies in cells. -/
structure Enc (α : Type) where
 n : Nat
 c : α → List Value
 z : α
 len : ∀ a, (c a).length = n
 pos : 0 < n
 one : ∀ a, ∀ u ∈ c a, u.oneCell' = true

section
variable {α : Type} (E : Enc α)
def Enc.f (L : List α) : List Value := L.flatMap E.c
theorem Enc.f_len (L : List α) : (E.f L).length = L.length * E.n := by
 induction L with
 | nil => simp [Enc.f]
 | cons a L ih => simp only [Enc.f, List.flatMap_cons, List.length_append, List.length_cons, E.len] at ih ⊢; rw [ih, Nat.add_mul, Nat.one_mul, Nat.add_comm]
theorem Enc.f_nil : E.f [] = [] := rfl
theorem Enc.f_append (A B : List α) : E.f (A ++ B) = E.f A ++ E.f B := by simp [Enc.f]
theorem Enc.f_cons (a : α) (B : List α) : E.f (a :: B) = E.c a ++ E.f B := by simp [Enc.f]
theorem Enc.f_one1 (a : α) : E.f [a] = E.c a := by simp [Enc.f]
theorem Enc.f_at (L : List α) (j : Nat) (h : j < L.length) (i : Nat) (hi : i < E.n) : (E.f L)[j * E.n + i]? = (E.c L[j])[i]? := by
 induction L generalizing j with
 | nil => simp at h
 | cons a L ih =>
  rw [E.f_cons]
  cases j with
  | zero =>
   rw [List.getElem?_append_left (by rw [E.len]; omega)]
   simp
  | succ j =>
   rw [List.getElem?_append_right (by rw [E.len, Nat.add_mul]; omega)]
   simp only [List.getElem_cons_succ]
   rw [← ih j (by simpa using h)]
   congr 1
   rw [E.len, Nat.add_mul, Nat.one_mul]; omega
theorem Enc.f_one (L : List α) : ∀ u ∈ E.f L, u.oneCell' = true := by
 intro u hu
 simp only [Enc.f, List.mem_flatMap] at hu
 obtain ⟨e, _, hu⟩ := hu
 exact E.one e u hu
theorem Enc.f_drop (L : List α) (k : Nat) : E.f (L.drop k) = (E.f L).drop (k * E.n) := by
 induction L generalizing k with
 | nil => simp [Enc.f]
 | cons a L ih =>
  cases k with
  | zero => simp
  | succ k =>
   rw [List.drop_succ_cons, ih, E.f_cons, show (k + 1) * E.n = (E.c a).length + k * E.n by rw [E.len, Nat.add_mul, Nat.one_mul, Nat.add_comm], List.drop_length_add_append]
theorem Enc.f_take (L : List α) (k : Nat) : E.f (L.take k) = (E.f L).take (k * E.n) := by
 induction L generalizing k with
 | nil => simp [Enc.f]
 | cons a L ih =>
  cases k with
  | zero => simp [Enc.f]
  | succ k =>
   rw [List.take_succ_cons, E.f_cons, ih, E.f_cons, show (k + 1) * E.n = (E.c a).length + k * E.n by rw [E.len, Nat.add_mul, Nat.one_mul, Nat.add_comm], List.take_length_add_append]
/-- Every place of a row is some cell of some element. -/
theorem Enc.place (L : List α) (q : Nat) (hq : q < L.length * E.n) : ∃ (j i : Nat) (h : j < L.length), i < E.n ∧ q = j * E.n + i ∧ (E.f L)[q]? = (E.c L[j])[i]? := by
 have hp := E.pos
 have hd : q / E.n < L.length := Nat.div_lt_of_lt_mul (by rw [Nat.mul_comm]; exact hq)
 have hm : q % E.n < E.n := Nat.mod_lt _ hp
 have e : q = q / E.n * E.n + q % E.n := by rw [Nat.mul_comm]; exact (Nat.div_add_mod q E.n).symm
 refine ⟨q / E.n, q % E.n, hd, hm, e, ?_⟩
 rw [← E.f_at L _ hd _ hm, ← e]

/-- The slice v, in memory below block N, holds L. -/
def Row (w : World) (N : Nat) (v : Value) (L : List α) : Prop := ∃ a cap, v = .slice a L.length cap ∧ L.length ≤ cap ∧ cap ≤ 9223372036854775807 ∧
 (L ≠ [] → ∃ b off, a = some ⟨b, off, none⟩ ∧ b < N ∧ ∀ j (h : j < L.length) i, i < E.n → w.cell? ⟨b, off + j * E.n + i, none⟩ = (E.c L[j])[i]?)
/-- The slice v, of memory from block base on, holds L; it starts its block. -/
def Own (T : TypeId) (w : World) (base : Nat) (v : Value) (L : List α) : Prop := w.ownsRow base T E.n v L.length (E.f L)
variable {E}
theorem Row.kept {w w' : World} {N : Nat} {v : Value} {L : List α} (h : Row E w N v L) (hb : Below N w w') : Row E w' N v L := by
 obtain ⟨a, cap, rfl, h1, h2, h3⟩ := h
 refine ⟨a, cap, rfl, h1, h2, fun hL => ?_⟩
 obtain ⟨b, off, rfl, hbN, hc⟩ := h3 hL
 exact ⟨b, off, rfl, hbN, fun j hj i hi => (hb.cell (p := ⟨b, off + j * E.n + i, none⟩) hbN).trans (hc j hj i hi)⟩
theorem Row.up {w : World} {N N' : Nat} {v : Value} {L : List α} (h : Row E w N v L) (hN : N ≤ N') : Row E w N' v L := by
 obtain ⟨a, cap, rfl, h1, h2, h3⟩ := h
 refine ⟨a, cap, rfl, h1, h2, fun hL => ?_⟩
 obtain ⟨b, off, rfl, hbN, hc⟩ := h3 hL
 exact ⟨b, off, rfl, by omega, hc⟩
theorem Row.nil {w : World} {N : Nat} : Row E w N (.slice none 0 0) ([] : List α) := ⟨none, 0, rfl, Nat.le_refl _, by omega, fun h => absurd rfl h⟩
theorem Row.slice {w : World} {N : Nat} {v : Value} {L : List α} (h : Row E w N v L) : ∃ a cap, v = .slice a L.length cap ∧ L.length ≤ cap ∧ cap ≤ 9223372036854775807 := by
 obtain ⟨a, cap, h0, h1, h2, h3⟩ := h
 exact ⟨a, cap, h0, h1, h2⟩
theorem Row.cells {w : World} {N b off cap : Nat} {L : List α} (h : Row E w N (.slice (some ⟨b, off, none⟩) L.length cap) L) (hL : L ≠ []) : b < N ∧ ∀ j u, (E.f L)[j]? = some u → w.cell? ((⟨b, off, none⟩ : Addr).add j) = some u := by
 obtain ⟨a, cap', hv, h1, h2, h3⟩ := h
 simp only [Value.slice.injEq, true_and] at hv
 obtain ⟨rfl, rfl⟩ := hv
 obtain ⟨b', off', hb, hbN, h4⟩ := h3 hL
 simp only [Option.some.injEq, Addr.mk.injEq, and_true] at hb
 obtain ⟨rfl, rfl⟩ := hb
 refine ⟨hbN, fun q u hu => ?_⟩
 have hq : q < L.length * E.n := by
  have := (List.getElem?_eq_some_iff.1 hu).1
  rwa [E.f_len] at this
 obtain ⟨j, i, hj, hi, rfl, e⟩ := E.place L q hq
 rw [add_none, ← Nat.add_assoc, h4 j hj i hi, ← e, hu]
theorem Row.take {w : World} {N k cap : Nat} {a : Option Addr} {L : List α} (h : Row E w N (.slice a L.length cap) L) (hn : k ≤ L.length) : Row E w N (.slice a k cap) (L.take k) := by
 obtain ⟨a', cap', hv, h1, h2, h3⟩ := h
 simp only [Value.slice.injEq, true_and] at hv
 obtain ⟨rfl, rfl⟩ := hv
 have hl : (L.take k).length = k := by simp; omega
 refine ⟨a, cap, by rw [hl], by omega, h2, fun hL => ?_⟩
 obtain ⟨b, off, rfl, hbN, h4⟩ := h3 (by rintro rfl; simp at hL)
 refine ⟨b, off, rfl, hbN, fun j hj i hi => ?_⟩
 rw [hl] at hj
 have h5 := h4 j (by omega) i hi
 simpa using h5
theorem Row.drop {w : World} {N b off k cap : Nat} {L : List α} (h : Row E w N (.slice (some ⟨b, off, none⟩) L.length cap) L) (hn : k ≤ L.length) : Row E w N (.slice (some ⟨b, off + k * E.n, none⟩) (L.length - k) (cap - k)) (L.drop k) := by
 obtain ⟨a, cap', hv, h1, h2, h3⟩ := h
 simp only [Value.slice.injEq, true_and] at hv
 obtain ⟨rfl, rfl⟩ := hv
 refine ⟨_, _, by rw [List.length_drop], by rw [List.length_drop]; omega, by omega, fun hL => ?_⟩
 obtain ⟨b', off', hb, hbN, h4⟩ := h3 (by rintro rfl; simp at hL)
 simp only [Option.some.injEq, Addr.mk.injEq, and_true] at hb
 obtain ⟨rfl, rfl⟩ := hb
 refine ⟨b, off + k * E.n, rfl, hbN, fun j hj i hi => ?_⟩
 rw [List.length_drop] at hj
 have h5 := h4 (k + j) (by omega) i hi
 rw [Nat.add_mul, ← Nat.add_assoc] at h5
 simpa using h5

variable {T : TypeId}
theorem Own.of_block {w w' : World} {base : Nat} {v : Value} {L : List α} (h : Own E T w base v L) (hb : ∀ k, v.ownBlock = some k → w'.heap[k]? = w.heap[k]?) : Own E T w' base v L := by
 refine ⟨h.1, ?_⟩
 rcases h.2 with hn | ⟨g, cap, cur, rfl, hg, hgg, rest⟩
 ·exact .inl hn
 ·exact .inr ⟨g, cap, cur, rfl, hg, (hb g rfl).trans hgg, rest⟩
theorem Own.lt {w : World} {base : Nat} {v : Value} {L : List α} (h : Own E T w base v L) : ∀ k, v.ownBlock = some k → base ≤ k ∧ k < w.heap.size := World.ownsRow.lt h
theorem Own.kept {w w' : World} {base : Nat} {v : Value} {L : List α} (h : Own E T w base v L) (hb : Below w.heap.size w w') : Own E T w' base v L := h.of_block fun k hk => hb.block k (h.lt k hk).2
theorem Own.keptB {w w' : World} {base B : Nat} {v : Value} {L : List α} (h : Own E T w base v L) (hb : Below B w w') (hv : ∀ k, v.ownBlock = some k → k < B) : Own E T w' base v L := h.of_block fun k hk => hb.block k (hv k hk)
theorem Own.only {w w' : World} {base : Nat} {S : Nat → Prop} {v : Value} {L : List α} (h : Own E T w base v L) (hb : Only S w w') (hv : ∀ k, v.ownBlock = some k → ¬ S k) : Own E T w' base v L := h.of_block fun k hk => hb.block k (h.lt k hk).2 (hv k hk)
theorem Own.lower {w : World} {base base' : Nat} {v : Value} {L : List α} (h : Own E T w base v L) (hb : base' ≤ base) : Own E T w base' v L := by
 refine ⟨h.1, ?_⟩
 rcases h.2 with hn | ⟨g, cap, cur, rfl, hg, hgg, rest⟩
 ·exact .inl hn
 ·exact .inr ⟨g, cap, cur, rfl, by omega, hgg, rest⟩
/-- Its block lies from base' on. -/
theorem Own.raise {w : World} {base base' : Nat} {v : Value} {L : List α} (h : Own E T w base v L) (hb : ∀ k, v.ownBlock = some k → base' ≤ k) : Own E T w base' v L := by
 refine ⟨h.1, ?_⟩
 rcases h.2 with hn | ⟨g, cap, cur, rfl, hg, hgg, rest⟩
 ·exact .inl hn
 ·exact .inr ⟨g, cap, cur, rfl, hb g rfl, hgg, rest⟩
theorem Own.look {w : World} {base : Nat} {v : Value} {L : List α} (h : Own E T w base v L) : (v = .slice none 0 0 ∧ L = []) ∨ ∃ g cap, v = .slice (some ⟨g, 0, none⟩) L.length cap ∧ base ≤ g ∧ g < w.heap.size ∧ L.length ≤ cap ∧ cap ≤ 9223372036854775807 := by
 rcases h.2 with ⟨hv, hn⟩ | ⟨g, cap, cur, rfl, hg, hgg, hc, hm, rest⟩
 ·exact .inl ⟨hv, List.eq_nil_of_length_eq_zero hn⟩
 ·exact .inr ⟨g, cap, rfl, hg, (Array.getElem?_eq_some_iff.1 hgg).1, hc, hm⟩
theorem Own.slice {w : World} {base : Nat} {v : Value} {L : List α} (h : Own E T w base v L) : ∃ a cap, v = .slice a L.length cap := by
 rcases h.look with ⟨rfl, rfl⟩ | ⟨g, cap, rfl, _⟩
 ·exact ⟨_, _, rfl⟩
 ·exact ⟨_, _, rfl⟩
theorem Own.at {w : World} {base g cap n : Nat} {L : List α} (h : Own E T w base (.slice (some ⟨g, 0, none⟩) n cap) L) (j : Nat) (hj : j < L.length) (i : Nat) (hi : i < E.n) : w.cell? ⟨g, j * E.n + i, none⟩ = (E.c L[j])[i]? := by
 have h1 := World.ownsRow.cells h (g := g) rfl (j * E.n + i)
 have h2 := E.f_at L j hj i hi
 have hlt : i < (E.c L[j]).length := by rw [E.len]; exact hi
 rw [List.getElem?_eq_getElem hlt] at h2 ⊢
 have h3 := h1 _ h2
 rw [add_none, Nat.zero_add] at h3
 exact h3
theorem Own.nil (w : World) (base : Nat) : Own E T w base (.slice none 0 0) ([] : List α) := World.ownsRow_nil w base _ _
theorem Own.pop {w : World} {base g cap n m : Nat} {L : List α} (h : Own E T w base (.slice (some ⟨g, 0, none⟩) n cap) L) (hm : m ≤ L.length) : Own E T w base (.slice (some ⟨g, 0, none⟩) m cap) (L.take m) := by
 have hl : (L.take m).length = m := by simp; omega
 refine ⟨by rw [E.f_len], .inr ?_⟩
 rcases h.2 with ⟨hv, _⟩ | ⟨g', cap', cur, hv, hg, hgg, hc, hmx, hcs, htk⟩
 ·cases hv
 ·simp only [Value.slice.injEq, Option.some.injEq, Addr.mk.injEq, and_true] at hv
  obtain ⟨rfl, rfl, rfl⟩ := hv
  refine ⟨g, cap, cur, by rw [hl], hg, hgg, by omega, hmx, hcs, ?_⟩
  rw [hl, E.f_take, ← htk, List.take_take]
  congr 1
  rw [Nat.min_eq_left (Nat.mul_le_mul_right _ hm)]
theorem Own.row {w : World} {base N : Nat} {v : Value} {L : List α} (h : Own E T w base v L) (hN : ∀ k, v.ownBlock = some k → k < N) : Row E w N v L := by
 rcases h.look with ⟨rfl, rfl⟩ | ⟨g, cap, rfl, hb, hg, hc, hm⟩
 ·exact Row.nil
 ·refine ⟨some ⟨g, 0, none⟩, cap, rfl, hc, hm, fun _ => ⟨g, 0, rfl, hN g rfl, fun j hj i hi => ?_⟩⟩
  rw [Nat.zero_add]
  exact h.at j hj i hi
theorem Own.rowAll {w : World} {base : Nat} {v : Value} {L : List α} (h : Own E T w base v L) : Row E w w.heap.size v L := h.row fun k hk => (h.lt k hk).2
theorem Own.mk {w : World} {base n : Nat} {v : Value} {xs : List Value} {L : List α} (h : w.ownsRow base T E.n v n xs) (hn : L.length = n) (hx : xs = E.f L) : Own E T w base v L := by
 subst hn hx
 exact h

/-! A place is stored. -/
def setL (xs : List Value) (o : Nat) : List Value → List Value
 | [] => xs
 | u :: us => setL (xs.set o u) (o + 1) us
def setC (w : World) (g o : Nat) : List Value → World
 | [] => w
 | u :: us => setC (w.setCell ⟨g, o, none⟩ u) g (o + 1) us
theorem setL_at (us : List Value) : ∀ (xs : List Value) (o q : Nat), (setL xs o us)[q]? = if o ≤ q ∧ q < o + us.length ∧ q < xs.length then us[q - o]? else xs[q]? := by
 induction us with
 | nil => intro xs o q; rw [setL, if_neg (by simp; omega)]
 | cons u us ih =>
  intro xs o q
  rw [setL, ih]
  simp only [List.length_set, List.length_cons, List.getElem?_set]
  by_cases h1 : o = q
  ·subst h1
   rw [if_neg (by omega), if_pos rfl]
   by_cases h2 : o < xs.length
   ·rw [if_pos h2, if_pos (by omega)]; simp
   ·rw [if_neg h2, if_neg (by omega), List.getElem?_eq_none (by omega)]
  ·rw [if_neg h1]
   by_cases h2 : o + 1 ≤ q ∧ q < o + 1 + us.length ∧ q < xs.length
   ·rw [if_pos h2, if_pos (by omega)]
    obtain ⟨d, hd⟩ : ∃ d, q - o = d + 1 := ⟨q - o - 1, by omega⟩
    rw [hd, List.getElem?_cons_succ]
    congr 1; omega
   ·rw [if_neg h2, if_neg (by omega)]
theorem Enc.f_set (E : Enc α) (M : List α) (j : Nat) (e : α) (h : j < M.length) : E.f (M.set j e) = setL (E.f M) (j * E.n) (E.c e) := by
 apply List.ext_getElem?
 intro q
 rw [setL_at, E.len, E.f_len]
 by_cases hq : q < M.length * E.n
 ·obtain ⟨p, i, hp, hi, rfl, e2⟩ := E.place M q hq
  have e1 := E.f_at (M.set j e) p (by simpa using hp) i hi
  rw [e1]
  by_cases hj : j = p
  ·subst hj
   rw [if_pos (by omega), List.getElem_set_self]
   congr 1; omega
  ·rw [List.getElem_set_ne hj, if_neg, e2]
   intro hc
   rcases Nat.lt_or_gt_of_ne hj with hlt | hlt
   ·have := Nat.mul_le_mul_right E.n (show j + 1 ≤ p from hlt)
    rw [Nat.add_mul, Nat.one_mul] at this; omega
   ·have := Nat.mul_le_mul_right E.n (show p + 1 ≤ j from hlt)
    rw [Nat.add_mul, Nat.one_mul] at this; omega
 ·rw [List.getElem?_eq_none (by rw [E.f_len, List.length_set]; omega), if_neg (by omega), List.getElem?_eq_none (by rw [E.f_len]; omega)]
theorem owns_setC {base g cap n s : Nat} (us : List Value) : ∀ {w : World} {xs : List Value} (o : Nat), w.ownsRow base T s (.slice (some ⟨g, 0, none⟩) n cap) n xs → (setC w g o us).ownsRow base T s (.slice (some ⟨g, 0, none⟩) n cap) n (setL xs o us) := by
 induction us with
 | nil => intro w xs o h; exact h
 | cons u us ih => intro w xs o h; exact ih (o + 1) (World.ownsRow.stored h o u).1
theorem Only.setC {S : Nat → Prop} {g : Nat} (hg : S g) (us : List Value) : ∀ {a w : World} (o : Nat), Only S a w → Only S a (setC w g o us) := by
 induction us with
 | nil => intro a w o h; exact h
 | cons u us ih => intro a w o h; exact ih (o + 1) (h.setCell hg u)
theorem Below.setC {B g : Nat} (hg : B ≤ g) (us : List Value) : ∀ {a w : World} (o : Nat), Below B a w → Below B a (setC w g o us) := by
 induction us with
 | nil => intro a w o h; exact h
 | cons u us ih => intro a w o h; exact ih (o + 1) (h.setCell hg u)
theorem Own.store {w : World} {base g cap n j : Nat} {M : List α} (h : Own E T w base (.slice (some ⟨g, 0, none⟩) n cap) M) (hn : M.length = n) (hj : j < n) (e : α) :
  Own E T (setC w g (j * E.n) (E.c e)) base (.slice (some ⟨g, 0, none⟩) n cap) (M.set j e) := by
 subst hn
 unfold Own
 rw [E.f_set M j e hj, List.length_set]
 exact owns_setC _ _ h
theorem Own.has {w : World} {base g cap n j i : Nat} {M : List α} (h : Own E T w base (.slice (some ⟨g, 0, none⟩) n cap) M) (hn : M.length = n) (hj : j < n) (hi : i < E.n) : ∃ u, w.cell? ⟨g, j * E.n + i, none⟩ = some u := by
 rw [h.at j (by omega) i hi, List.getElem?_eq_getElem (by rw [E.len]; exact hi)]
 exact ⟨_, rfl⟩
theorem Own.frozen {w : World} {base g cap n : Nat} {M : List α} (h : Own E T w base (.slice (some ⟨g, 0, none⟩) n cap) M) (hn : M.length = n) (o : Nat) : w.frozen? ⟨g, o, none⟩ = false := by subst hn; exact World.ownsRow.frozenAt h o

theorem Enc.rep (E : Enc α) (zv : Value) (hz : zv.cells.toList = E.c E.z) (k : Nat) : (madeCells zv.cells (k * E.n)).toList = E.f (List.replicate k E.z) := by
 have hsz : zv.cells.size = E.n := by rw [← Array.length_toList, hz, E.len]
 apply List.ext_getElem?
 intro q
 by_cases hq : q < k * E.n
 ·obtain ⟨j, i, hj, hi, rfl, e1⟩ := E.place (List.replicate k E.z) q (by simpa using hq)
  rw [e1, List.getElem_replicate]
  simp only [madeCells, Array.toList_map, List.getElem?_map, Array.toList_range, List.getElem?_range hq, Option.map_some, hsz]
  rw [Nat.add_comm, Nat.add_mul_mod_self_right, Nat.mod_eq_of_lt hi, ← hz, Array.getElem?_toList]
  rw [Array.getElem?_eq_getElem (by omega), getElem!_pos _ _ (by omega)]
 ·rw [List.getElem?_eq_none (by rw [Array.length_toList, size_madeCells]; omega), List.getElem?_eq_none (by rw [E.f_len]; simp; omega)]
/-- The first j of L, then zeros. -/
def Enc.mix (E : Enc α) (L : List α) (j : Nat) : List α := L.take j ++ List.replicate (L.length - j) E.z
theorem Enc.mix_len (E : Enc α) (L : List α) (j : Nat) (h : j ≤ L.length) : (E.mix L j).length = L.length := by simp [Enc.mix]; omega
theorem Enc.mix_zero (E : Enc α) (L : List α) : E.mix L 0 = List.replicate L.length E.z := by simp [Enc.mix]
theorem Enc.mix_all (E : Enc α) (L : List α) : E.mix L L.length = L := by simp [Enc.mix]
theorem Enc.mix_step (E : Enc α) (L : List α) (j : Nat) (h : j < L.length) : (E.mix L j).set j L[j] = E.mix L (j + 1) := by
 unfold Enc.mix
 obtain ⟨m, hm⟩ : ∃ m, L.length - j = m + 1 := ⟨L.length - j - 1, by omega⟩
 have hl : (L.take j).length = j := by simp; omega
 rw [List.set_append_right _ _ (by omega), hl, Nat.sub_self, hm, List.replicate_succ, List.set_cons_zero, show L.length - (j + 1) = m by omega, List.take_succ_eq_append_getElem h, List.append_assoc]
 rfl
/-- What is new since w: the row v. -/
structure New (E : Enc α) (T : TypeId) (w w' : World) (v : Value) (L : List α) : Prop where
 own : Own E T w' w.heap.size v L
 bel : Below w.heap.size w w'
end
end Go.Proofs.YtknckbedddeijaaGreat
namespace Go.Proofs.YtknckbedddeijaaGreat
open Go.ChangeShapes Go.WideShapes Go.ChangeAt Go.RowKit Go.Joins Go.Deep
set_option linter.unusedVariables false
theorem open_row {H : Type} {enc : TypeId × Value → H} {W : World} {sp : Nat → Bool} {held : Bool} {α : Type} (E : Enc α) (P : α → Prop) {TS Te : TypeId} (hu : Tryz.prog.underlying TS = some (.slice Te)) (hcl : Tryz.prog.cellsOf Te = E.n)
  (hel : ∀ fuel cs x, DataW.trod enc Tryz.prog W 0 sp held fuel Te cs = some x → ∃ a, cs = E.c a ∧ P a) {fuel : Nat} {c : Value} {x : DataW H × List MemPlace} (h : DataW.trod enc Tryz.prog W 0 sp held fuel TS [c] = some x) :
  ∃ L : List α, Row E W W.heap.size c L ∧ ∀ a ∈ L, P a := by
 rcases open_slice hu h with ⟨hc, _⟩ | ⟨a, len, cap, m, n, D, Pl, hc, _, hl, hm, hmm, _, hx⟩
 ·simp only [List.cons.injEq, and_true] at hc
  subst hc
  exact ⟨[], Row.nil, by simp⟩
 ·simp only [List.cons.injEq, and_true] at hc
  subst hc
  have hlm : len ≤ m := by rw [hmm]; split <;> omega
  have each : ∀ i, i < len → ∃ e : α, (∀ k, k < E.n → W.cell? (a.add (i * E.n + k)) = (E.c e)[k]?) ∧ P e := by
   intro i hi
   obtain ⟨cs, h1, h2⟩ := hx i (by omega)
   rw [hcl] at h1
   obtain ⟨e, rfl, hp⟩ := hel _ _ _ h2
   obtain ⟨_, hlen, hcell⟩ := World.cells?_some h1
   refine ⟨e, fun k hk => ?_, hp⟩
   have := hcell k hk
   rwa [Go.Deep.add_add] at this
  haveI : Inhabited α := ⟨E.z⟩
  obtain ⟨q, hq⟩ := choose_lt each
  have hll : ((List.range len).map q).length = len := by simp
  refine ⟨(List.range len).map q, ⟨some a, cap, by rw [hll], by rw [hll]; exact hl, hm, fun hL => ?_⟩, ?_⟩
  ·have hpos : 0 < len := by
    rcases Nat.eq_zero_or_pos len with h0 | h0
    ·subst h0; simp at hL
    ·exact h0
   obtain ⟨b, off, spot⟩ := a
   have h00 := (hq 0 hpos).1 0 E.pos
   have hsome : ∃ u, (E.c (q 0))[0]? = some u := ⟨_, List.getElem?_eq_getElem (by rw [E.len]; exact E.pos)⟩
   obtain ⟨u0, hu0⟩ := hsome
   rw [hu0] at h00
   have hspot : spot = none := by simpa [Addr.add] using World.cell?_spot h00
   subst hspot
   refine ⟨b, off, rfl, by simpa [Addr.add] using World.block_lt_of_cell? W _ h00, fun j hj k hk => ?_⟩
   rw [hll] at hj
   have hjq := (hq j hj).1 k hk
   rw [add_none, ← Nat.add_assoc] at hjq
   simp only [List.getElem_map, List.getElem_range]
   exact hjq
  ·intro e he
   simp only [List.mem_map, List.mem_range] at he
   obtain ⟨j, hj, rfl⟩ := he
   exact (hq j hj).2
theorem list1 {α : Type} {cs : List α} (h : cs.length = 1) : ∃ c0, cs = [c0] := by
 match cs, h with
 | [c0], _ => exact ⟨c0, rfl⟩
theorem list2 {α : Type} {cs : List α} (h : cs.length = 2) : ∃ c0 c1, cs = [c0, c1] := by
 match cs, h with
 | [c0, c1], _ => exact ⟨c0, c1, rfl⟩
theorem list3 {α : Type} {cs : List α} (h : cs.length = 3) : ∃ c0 c1 c2, cs = [c0, c1, c2] := by
 match cs, h with
 | [c0, c1, c2], _ => exact ⟨c0, c1, c2, rfl⟩
theorem list9 {α : Type} {cs : List α} (h : cs.length = 9) : ∃ c0 c1 c2 c3 c4 c5 c6 c7 c8, cs = [c0, c1, c2, c3, c4, c5, c6, c7, c8] := by
 match cs, h with
 | [c0, c1, c2, c3, c4, c5, c6, c7, c8], _ => exact ⟨c0, c1, c2, c3, c4, c5, c6, c7, c8, rfl⟩
end Go.Proofs.YtknckbedddeijaaGreat
namespace Go.Proofs.YtknckbedddeijaaGreat
open Go.RowKit
set_option linter.unusedVariables false
def intE : Enc Int := ⟨1, fun x => [.int .i64 x], 0, fun _ => rfl, by decide, by simp [Value.oneCell']⟩
structure Di where
 nm : ByteArray
 id : Int
def diE : Enc Di := ⟨2, fun d => [.string d.nm, .int .i64 d.id], ⟨⟨#[]⟩, 0⟩, fun _ => rfl, by decide, by intro a u hu; simp at hu; rcases hu with rfl | rfl <;> rfl⟩
structure Cr where
 u : Int
 g : Int
 l : List Int
structure Nd where
 id : Int
 kind : Int
 mode : Int
 uid : Int
 gid : Int
 data : ByteArray
 names : List Di
 maxb : Int
 maxi : Int
abbrev crV (c : Cr) (v : Value) : Value := .agg #[.int .i64 c.u, .int .i64 c.g, v]
abbrev ndA (n : Nd) (v : Value) : Array Value := #[.int .i64 n.id, .int .i64 n.kind, .int .i64 n.mode, .int .i64 n.uid, .int .i64 n.gid, .string n.data, v, .int .i64 n.maxb, .int .i64 n.maxi]
abbrev ndV (n : Nd) (v : Value) : Value := .agg (ndA n v)
theorem intE_cell {w : World} {N : Nat} {v : Value} {L : List Int} (h : Row intE w N v L) : ∃ a cap, v = .slice a L.length cap ∧ L.length ≤ cap ∧ cap ≤ 9223372036854775807 ∧
  (L ≠ [] → ∃ b off, a = some ⟨b, off, none⟩ ∧ b < N ∧ ∀ j (h : j < L.length), w.cell? ⟨b, off + j, none⟩ = some (.int .i64 L[j])) := by
 obtain ⟨a, cap, h0, h1, h2, h3⟩ := h
 refine ⟨a, cap, h0, h1, h2, fun hL => ?_⟩
 obtain ⟨b, off, ha, hb, hc⟩ := h3 hL
 refine ⟨b, off, ha, hb, fun j hj => ?_⟩
 have := hc j hj 0 (by decide)
 simpa [intE] using this
theorem diE_cell {w : World} {N : Nat} {v : Value} {L : List Di} (h : Row diE w N v L) : ∃ a cap, v = .slice a L.length cap ∧ L.length ≤ cap ∧ cap ≤ 9223372036854775807 ∧
  (L ≠ [] → ∃ b off, a = some ⟨b, off, none⟩ ∧ b < N ∧ ∀ j (h : j < L.length), w.cell? ⟨b, off + j * 2, none⟩ = some (.string L[j].nm) ∧ w.cell? ⟨b, off + j * 2 + 1, none⟩ = some (.int .i64 L[j].id)) := by
 obtain ⟨a, cap, h0, h1, h2, h3⟩ := h
 refine ⟨a, cap, h0, h1, h2, fun hL => ?_⟩
 obtain ⟨b, off, ha, hb, hc⟩ := h3 hL
 refine ⟨b, off, ha, hb, fun j hj => ⟨?_, ?_⟩⟩
 ·have := hc j hj 0 (by decide)
  simpa [diE] using this
 ·have := hc j hj 1 (by decide)
  simpa [diE] using this
/-- Is x from a to b? -/
def inB (x a b : Int) : Bool := decide (a ≤ x) && decide (x ≤ b)
theorem inB_true {x a b : Int} (h : a ≤ x ∧ x ≤ b) : inB x a b = true := by simp [inB, h]
theorem inB_false {x a b : Int} (h : ¬ (a ≤ x ∧ x ≤ b)) : inB x a b = false := by
 simp only [inB, Bool.and_eq_false_iff, decide_eq_false_iff_not]; omega
def uidB (x : Int) : Bool := inB x 0 1000
/-- Who calls is right. -/
def credB (c : Cr) : Bool := uidB c.u && uidB c.g && decide (c.l.length ≤ 4) && c.l.all uidB
def memB (l : List Int) (x : Int) : Bool := l.any (fun y => decide (y = x))
def inGB (c : Cr) (x : Int) : Bool := credB c && (decide (c.g = x) || memB c.l x)
theorem memB_take_succ (l : List Int) (x : Int) (j : Nat) (h : j < l.length) : memB (l.take (j + 1)) x = (memB (l.take j) x || decide (l[j] = x)) := by
 unfold memB; rw [List.take_succ_eq_append_getElem h]; simp only [List.any_append, List.any_cons, List.any_nil, Bool.or_false]
theorem memB_drop (l : List Int) (x : Int) (j : Nat) (h : j < l.length) : memB (l.drop j) x = (decide (l[j] = x) || memB (l.drop (j + 1)) x) := by
 unfold memB; rw [List.drop_eq_getElem_cons h, List.any_cons]
theorem all_drop (l : List Int) (j : Nat) (h : j < l.length) : (l.drop j).all uidB = (uidB l[j] && (l.drop (j + 1)).all uidB) := by
 rw [List.drop_eq_getElem_cons h, List.all_cons]
end Go.Proofs.YtknckbedddeijaaGreat
namespace Go.Proofs.YtknckbedddeijaaGreat
open Go.RowKit
set_option linter.unusedVariables false
/-- A byte that a name may have. -/
def nbI (x : Int) : Bool := (decide (97 ≤ x) && decide (x ≤ 122)) || (decide (48 ≤ x) && decide (x ≤ 57)) || decide (x = 46) || decide (x = 95) || decide (x = 45)
def nb (c : UInt8) : Bool := nbI (c.toNat : Int)
/-- A byte that a path may have. -/
def okB (c : UInt8) : Bool := decide ((c.toNat : Int) = 47) || nb c
def nameB (l : List UInt8) : Bool := decide (1 ≤ l.length) && decide (l.length ≤ 8) && decide (l ≠ [46]) && decide (l ≠ [46, 46]) && l.all nb
def pathB (l : List UInt8) : Bool := decide (1 ≤ l.length) && decide (l.length ≤ 60) && decide (l.getD 0 0 = 47) && l.all okB

theorem nb47 : nb 47 = false := by decide
theorem u8_of_int {c : UInt8} {n : Nat} (h : (c.toNat : Int) = n) (hn : n < 256) : c = UInt8.ofNat n := by
 apply UInt8.toNat_inj.1
 simp
 omega
theorem is47 {c : UInt8} : c = 47 ↔ (c.toNat : Int) = 47 := by
 constructor
 ·rintro rfl; rfl
 ·intro h; exact u8_of_int (n := 47) h (by decide)

set_option maxHeartbeats 400000 in
theorem within_any (x a b : Int) (w : World) :
  Calls Tryz.prog 52 #[.int .i64 x, .int .i64 a, .int .i64 b] w fun e w' => e = .returned (.bool (inB x a b)) ∧ w = w' := by
 by_cases h1 : a ≤ x
 ·by_cases h2 : x ≤ b
  ·rw [inB_true ⟨h1, h2⟩]
   go_enter Tryz.func52, Tryz.ntmps52
   go_wp2
   go_ret
   exact ⟨rfl, rfl⟩
  ·rw [inB_false (by omega)]
   go_enter Tryz.func52, Tryz.ntmps52
   go_wp2
   go_ret
   exact ⟨rfl, rfl⟩
 ·rw [inB_false (by omega)]
  go_enter Tryz.func52, Tryz.ntmps52
  go_wp2
  go_ret
  exact ⟨rfl, rfl⟩

set_option maxHeartbeats 400000 in
theorem l1In_any (x a b : Int) (w : World) :
  Calls Tryz.prog 60 #[.int .i64 x, .int .i64 a, .int .i64 b] w fun e w' => e = .returned (.bool (inB x a b)) ∧ w = w' := by
 by_cases h1 : a ≤ x
 ·by_cases h2 : x ≤ b
  ·rw [inB_true ⟨h1, h2⟩]
   go_enter Tryz.func60, Tryz.ntmps60
   go_wp2
   go_ret
   exact ⟨rfl, rfl⟩
  ·rw [inB_false (by omega)]
   go_enter Tryz.func60, Tryz.ntmps60
   go_wp2
   go_ret
   exact ⟨rfl, rfl⟩
 ·rw [inB_false (by omega)]
  go_enter Tryz.func60, Tryz.ntmps60
  go_wp2
  go_ret
  exact ⟨rfl, rfl⟩

theorem nbI_yes {x : Int} (h : (97 ≤ x ∧ x ≤ 122) ∨ (48 ≤ x ∧ x ≤ 57) ∨ x = 46 ∨ x = 95 ∨ x = 45) : nbI x = true := by
 simp only [nbI, Bool.or_eq_true, Bool.and_eq_true, decide_eq_true_eq]; omega
theorem nbI_no {x : Int} (h : ¬ ((97 ≤ x ∧ x ≤ 122) ∨ (48 ≤ x ∧ x ≤ 57) ∨ x = 46 ∨ x = 95 ∨ x = 45)) : nbI x = false := by
 simp only [nbI, Bool.or_eq_false_iff, Bool.and_eq_false_iff, decide_eq_false_iff_not]; omega

set_option maxHeartbeats 1000000 in
theorem nameByte_any (x : Int) (w : World) :
  Calls Tryz.prog 103 #[.int .u8 x] w fun e w' => e = .returned (.bool (nbI x)) ∧ w = w' := by
 go_enter Tryz.func103, Tryz.ntmps103
 go_wp2
 all_goals go_ret
 all_goals refine ⟨ret_bool ?_, rfl⟩
 all_goals first | (simp_all [nbI]; done) | (rw [Bool.eq_iff_iff]; simp [nbI]; omega)

set_option maxHeartbeats 1000000 in
theorem l2Byte_any (x : Int) (w : World) :
  Calls Tryz.prog 98 #[.int .u8 x] w fun e w' => e = .returned (.bool (nbI x)) ∧ w = w' := by
 go_enter Tryz.func98, Tryz.ntmps98
 go_wp2
 all_goals go_ret
 all_goals refine ⟨ret_bool ?_, rfl⟩
 all_goals first | (simp_all [nbI]; done) | (rw [Bool.eq_iff_iff]; simp [nbI]; omega)

theorem getD_data (s : ByteArray) (k : Nat) (h : k < s.size) : s.data.toList.getD k 0 = s[k] := by
 rw [List.getD_eq_getElem?_getD, List.getElem?_eq_getElem (by simpa using h)]
 rfl
theorem size_data (s : ByteArray) : s.data.toList.length = s.size := by simp

/-- The first k bytes are such as f wants. -/
def firstOk (f : UInt8 → Bool) (s : ByteArray) (k : Nat) : Prop := ∀ j, j < k → f (s.data.toList.getD j 0) = true
theorem firstOk_zero (f : UInt8 → Bool) (s : ByteArray) : firstOk f s 0 := fun j hj => absurd hj (by omega)
theorem firstOk_succ {f : UInt8 → Bool} {s : ByteArray} {k : Nat} (h : firstOk f s k) (hk : k < s.size) (e : f s[k] = true) : firstOk f s (k + 1) := by
 intro j hj
 by_cases h1 : j = k
 ·subst h1; rw [getD_data s j hk]; exact e
 ·exact h j (by omega)
theorem all_of {f : UInt8 → Bool} {s : ByteArray} (h : firstOk f s s.size) : s.data.toList.all f = true := by
 rw [List.all_eq_true]
 intro c hc
 obtain ⟨j, hj, rfl⟩ := List.mem_iff_getElem.1 hc
 have := h j (by simpa using hj)
 rwa [List.getD_eq_getElem?_getD, List.getElem?_eq_getElem hj] at this
theorem not_all_of {f : UInt8 → Bool} {s : ByteArray} {k : Nat} (hk : k < s.size) (e : f s[k] = false) : s.data.toList.all f = false := by
 rw [List.all_eq_false]
 exact ⟨s[k], List.mem_iff_getElem.2 ⟨k, by simpa using hk, rfl⟩, by simp [e]⟩

theorem pathB_yes {s : ByteArray} (h1 : 1 ≤ s.size) (h2 : s.size ≤ 60) (h0 : ((s[0].toNat : Int) != 47) = false) (h : firstOk okB s s.size) : pathB s.data.toList = true := by
 have e : s.data.toList.getD 0 0 = 47 := by
  rw [getD_data s 0 (by omega), is47]
  simpa using h0
 simp only [pathB, Bool.and_eq_true, decide_eq_true_eq, size_data]
 exact ⟨⟨⟨h1, h2⟩, e⟩, all_of h⟩
theorem pathB_short {s : ByteArray} (h : s.size < 1) : pathB s.data.toList = false := by
 have : ¬ 1 ≤ s.data.toList.length := by rw [size_data]; omega
 simp only [pathB, decide_eq_false this, Bool.false_and]
theorem pathB_long {s : ByteArray} (h : 60 < s.size) : pathB s.data.toList = false := by
 have : ¬ s.data.toList.length ≤ 60 := by rw [size_data]; omega
 simp only [pathB, decide_eq_false this, Bool.false_and, Bool.and_false]
theorem pathB_first {s : ByteArray} (h1 : 1 ≤ s.size) (h0 : ((s[0].toNat : Int) != 47) = true) : pathB s.data.toList = false := by
 have e : ¬ s.data.toList.getD 0 0 = 47 := by
  rw [getD_data s 0 (by omega), is47]
  simpa using h0
 simp only [pathB, decide_eq_false e, Bool.false_and, Bool.and_false]
theorem pathB_bad {s : ByteArray} {k : Nat} (hk : k < s.size) (e : okB s[k] = false) : pathB s.data.toList = false := by
 simp only [pathB, not_all_of hk e, Bool.and_false]
theorem okB_slash {c : UInt8} (h : ((c.toNat : Int) != 47) = false) : okB c = true := by
 have : (c.toNat : Int) = 47 := by simpa using h
 simp [okB, this]
theorem okB_name {c : UInt8} (h : nbI (c.toNat : Int) = true) : okB c = true := by
 simp [okB, nb, h]
theorem okB_no {c : UInt8} (h : ((c.toNat : Int) != 47) = true) (h' : nbI (c.toNat : Int) = false) : okB c = false := by
 have : ¬ (c.toNat : Int) = 47 := by simpa using h
 simp [okB, nb, h', this]

def pbB (l : List UInt8) : Bool := decide (1 ≤ l.length) && decide (l.length ≤ 60) && l.all okB
theorem pbB_path (s : ByteArray) (h : 0 < s.size) : (pbB s.data.toList && ((s[0].toNat : Int) == 47)) = pathB s.data.toList := by
 have e : decide (s.data.toList.getD 0 0 = 47) = ((s[0].toNat : Int) == 47) := by
  rw [getD_data s 0 h, Bool.eq_iff_iff, decide_eq_true_eq, is47]
  simp
 unfold pbB pathB
 rw [e]
 cases decide (1 ≤ s.data.toList.length) <;> cases decide (s.data.toList.length ≤ 60) <;> cases s.data.toList.all okB <;> cases ((s[0].toNat : Int) == 47) <;> rfl
theorem pbB_yes {s : ByteArray} (h1 : 1 ≤ s.size) (h2 : s.size ≤ 60) (h : firstOk okB s s.size) : pbB s.data.toList = true := by
 simp only [pbB, Bool.and_eq_true, decide_eq_true_eq, size_data]
 exact ⟨⟨h1, h2⟩, all_of h⟩
theorem pbB_short {s : ByteArray} (h : s.size < 1) : pbB s.data.toList = false := by
 have : ¬ 1 ≤ s.data.toList.length := by rw [size_data]; omega
 simp only [pbB, decide_eq_false this, Bool.false_and]
theorem pbB_long {s : ByteArray} (h : 60 < s.size) : pbB s.data.toList = false := by
 have : ¬ s.data.toList.length ≤ 60 := by rw [size_data]; omega
 simp only [pbB, decide_eq_false this, Bool.false_and, Bool.and_false]
theorem pbB_bad {s : ByteArray} {k : Nat} (hk : k < s.size) (e : okB s[k] = false) : pbB s.data.toList = false := by
 simp only [pbB, not_all_of hk e, Bool.and_false]
set_option maxHeartbeats 1000000 in
theorem pathBytes_any (s : ByteArray) (w : World) (hs : s.size ≤ 9223372036854775807) :
  Calls Tryz.prog 100 #[.string s] w fun e w' => e = .returned (.bool (pbB s.data.toList)) ∧ w = w' := by
 by_cases h1 : (s.size : Int) < 1
 ·go_enter Tryz.func100, Tryz.ntmps100
  go_wp2
  go_ret
  exact ⟨ret_bool (pbB_short (by omega)).symm, rfl⟩
 by_cases h2 : 60 < (s.size : Int)
 ·go_enter Tryz.func100, Tryz.ntmps100
  go_wp2
  go_ret
  exact ⟨ret_bool (pbB_long (by omega)).symm, rfl⟩
 go_enter Tryz.func100, Tryz.ntmps100
 go_wp2
 go_loop [14] (fun c => ∃ k : Nat, k ≤ s.size ∧ c = .int .i64 k ∧ Hid (firstOk okB s k)) (fun c => s.size - (intOf c).toNat)
 case atStart => exact ⟨0, Nat.zero_le _, rfl, firstOk_zero _ _⟩
 case round =>
  obtain ⟨k, hk, rfl, HF⟩ := hrel
  by_cases hlt : k < s.size
  ·cases hd : ((s[k].toNat : Int) != 47) with
   | false =>
    have HD := Hid.intro hd
    go_wp2
    go_round
    case rel => exact ⟨k + 1, by omega, by go_num, firstOk_succ HF.out hlt (okB_slash HD.out)⟩
    case measure => simp [intOf]; omega
   | true =>
    have HD := Hid.intro hd
    cases hn : nbI (s[k].toNat : Int) with
    | true =>
     have HN := Hid.intro hn
     go_wp2_with (go_at_call 103; refine (nameByte_any _ _).mono ?_; rintro e w' ⟨rfl, rfl⟩)
     go_round
     case rel => exact ⟨k + 1, by omega, by go_num, firstOk_succ HF.out hlt (okB_name HN.out)⟩
     case measure => simp [intOf]; omega
    | false =>
     have HN := Hid.intro hn
     go_wp2_with (go_at_call 103; refine (nameByte_any _ _).mono ?_; rintro e w' ⟨rfl, rfl⟩)
     go_ret
     exact ⟨ret_bool (pbB_bad hlt (okB_no HD.out HN.out)).symm, rfl⟩
  ·obtain rfl : k = s.size := by omega
   go_wp2
   go_ret
   exact ⟨ret_bool (pbB_yes (by omega) (by omega) HF.out).symm, rfl⟩
theorem toList_data (s : ByteArray) : s.toList = s.data.toList := ByteArray.toList_eq s
theorem nameB_short {s : ByteArray} (h : s.size < 1) : nameB s.data.toList = false := by
 have : ¬ 1 ≤ s.data.toList.length := by rw [size_data]; omega
 simp only [nameB, decide_eq_false this, Bool.false_and]
theorem nameB_long {s : ByteArray} (h : 8 < s.size) : nameB s.data.toList = false := by
 have : ¬ s.data.toList.length ≤ 8 := by rw [size_data]; omega
 simp only [nameB, decide_eq_false this, Bool.false_and, Bool.and_false]
theorem nameB_one {s : ByteArray} (h : (s.toList == [46]) = true) : nameB s.data.toList = false := by
 have : ¬ s.data.toList ≠ [46] := by rw [← toList_data]; simpa using h
 simp only [nameB, decide_eq_false this, Bool.false_and, Bool.and_false]
theorem nameB_two {s : ByteArray} (h : (s.toList == [46, 46]) = true) : nameB s.data.toList = false := by
 have : ¬ s.data.toList ≠ [46, 46] := by rw [← toList_data]; simpa using h
 simp only [nameB, decide_eq_false this, Bool.false_and, Bool.and_false]
theorem nameB_bad {s : ByteArray} {k : Nat} (hk : k < s.size) (e : nbI (s[k].toNat : Int) = false) : nameB s.data.toList = false := by
 simp only [nameB, not_all_of (f := nb) hk e, Bool.and_false]
theorem nameB_yes {s : ByteArray} (h1 : 1 ≤ s.size) (h2 : s.size ≤ 8) (h3 : (s.toList == [46]) = false) (h4 : (s.toList == [46, 46]) = false) (h : firstOk nb s s.size) : nameB s.data.toList = true := by
 have e3 : s.data.toList ≠ [46] := by rw [← toList_data]; simpa using h3
 have e4 : s.data.toList ≠ [46, 46] := by rw [← toList_data]; simpa using h4
 simp only [nameB, Bool.and_eq_true, decide_eq_true_eq, size_data]
 exact ⟨⟨⟨⟨h1, h2⟩, e3⟩, e4⟩, all_of h⟩

set_option maxHeartbeats 1000000 in
theorem implNameOk_any (s : ByteArray) (w : World) (hs : s.size ≤ 9223372036854775807) :
  Calls Tryz.prog 101 #[.string s] w fun e w' => e = .returned (.bool (nameB s.data.toList)) ∧ w = w' := by
 by_cases h1 : (s.size : Int) < 1
 ·go_enter Tryz.func101, Tryz.ntmps101
  go_wp2
  go_ret
  exact ⟨ret_bool (nameB_short (by omega)).symm, rfl⟩
 by_cases h2 : 8 < (s.size : Int)
 ·go_enter Tryz.func101, Tryz.ntmps101
  go_wp2
  go_ret
  exact ⟨ret_bool (nameB_long (by omega)).symm, rfl⟩
 have hp : 0 < s.size := by omega
 cases h3 : (s.toList == [46]) with
 | true =>
  go_enter Tryz.func101, Tryz.ntmps101
  go_wp2
  go_ret
  exact ⟨ret_bool (nameB_one h3).symm, rfl⟩
 | false =>
  cases h4 : (s.toList == [46, 46]) with
  | true =>
   go_enter Tryz.func101, Tryz.ntmps101
   go_wp2
   go_ret
   exact ⟨ret_bool (nameB_two h4).symm, rfl⟩
  | false =>
   have H3 := Hid.intro h3
   have H4 := Hid.intro h4
   go_enter Tryz.func101, Tryz.ntmps101
   go_wp2
   go_loop [22] (fun c => ∃ k : Nat, k ≤ s.size ∧ c = .int .i64 k ∧ Hid (firstOk nb s k)) (fun c => s.size - (intOf c).toNat)
   case atStart => exact ⟨0, Nat.zero_le _, rfl, firstOk_zero _ _⟩
   case round =>
    obtain ⟨k, hk, rfl, HF⟩ := hrel
    clear h3 h4
    by_cases hlt : k < s.size
    ·cases hn : nbI (s[k].toNat : Int) with
     | true =>
      have HN := Hid.intro hn
      go_wp2_with (go_at_call 103; refine (nameByte_any _ _).mono ?_; rintro e w' ⟨rfl, rfl⟩)
      go_round
      case rel => exact ⟨k + 1, by omega, by go_num, firstOk_succ HF.out hlt HN.out⟩
      case measure => simp [intOf]; omega
     | false =>
      have HN := Hid.intro hn
      go_wp2_with (go_at_call 103; refine (nameByte_any _ _).mono ?_; rintro e w' ⟨rfl, rfl⟩)
      go_ret
      exact ⟨ret_bool (nameB_bad hlt HN.out).symm, rfl⟩
    ·obtain rfl : k = s.size := by omega
     go_wp2
     go_ret
     exact ⟨ret_bool (nameB_yes (by omega) (by omega) H3.out H4.out HF.out).symm, rfl⟩

set_option maxHeartbeats 1000000 in
theorem specNameOk_any (s : ByteArray) (w : World) (hs : s.size ≤ 9223372036854775807) :
  Calls Tryz.prog 86 #[.string s] w fun e w' => e = .returned (.bool (nameB s.data.toList)) ∧ w = w' := by
 by_cases h1 : (s.size : Int) < 1
 ·have hb : inB s.size 1 8 = false := inB_false (by omega)
  go_enter Tryz.func86, Tryz.ntmps86
  go_wp2_with (go_at_call 60; refine (l1In_any _ _ _ _).mono ?_; rintro e w1 ⟨rfl, rfl⟩)
  go_ret
  exact ⟨ret_bool (nameB_short (by omega)).symm, rfl⟩
 by_cases h2 : 8 < (s.size : Int)
 ·have hb : inB s.size 1 8 = false := inB_false (by omega)
  go_enter Tryz.func86, Tryz.ntmps86
  go_wp2_with (go_at_call 60; refine (l1In_any _ _ _ _).mono ?_; rintro e w1 ⟨rfl, rfl⟩)
  go_ret
  exact ⟨ret_bool (nameB_long (by omega)).symm, rfl⟩
 have hp : 0 < s.size := by omega
 have hb : inB s.size 1 8 = true := inB_true (by omega)
 cases h3 : (s.toList == [46]) with
 | true =>
  go_enter Tryz.func86, Tryz.ntmps86
  go_wp2_with (go_at_call 60; refine (l1In_any _ _ _ _).mono ?_; rintro e w1 ⟨rfl, rfl⟩)
  go_ret
  exact ⟨ret_bool (nameB_one h3).symm, rfl⟩
 | false =>
  cases h4 : (s.toList == [46, 46]) with
  | true =>
   go_enter Tryz.func86, Tryz.ntmps86
   go_wp2_with (go_at_call 60; refine (l1In_any _ _ _ _).mono ?_; rintro e w1 ⟨rfl, rfl⟩)
   go_ret
   exact ⟨ret_bool (nameB_two h4).symm, rfl⟩
  | false =>
   have H3 := Hid.intro h3
   have H4 := Hid.intro h4
   go_enter Tryz.func86, Tryz.ntmps86
   go_wp2_with (go_at_call 60; refine (l1In_any _ _ _ _).mono ?_; rintro e w1 ⟨rfl, rfl⟩)
   go_loop [3] (fun c => ∃ k : Nat, k ≤ s.size ∧ c = .int .i64 k ∧ Hid (firstOk nb s k)) (fun c => s.size - (intOf c).toNat)
   case atStart => exact ⟨0, Nat.zero_le _, rfl, firstOk_zero _ _⟩
   case round =>
    obtain ⟨k, hk, rfl, HF⟩ := hrel
    clear h3 h4
    by_cases hlt : k < s.size
    ·cases hn : nbI (s[k].toNat : Int) with
     | true =>
      have HN := Hid.intro hn
      go_wp2_with (go_at_call 98; refine (l2Byte_any _ _).mono ?_; rintro e w' ⟨rfl, rfl⟩)
      go_round
      case rel => exact ⟨k + 1, by omega, by go_num, firstOk_succ HF.out hlt HN.out⟩
      case measure => simp [intOf]; omega
     | false =>
      have HN := Hid.intro hn
      go_wp2_with (go_at_call 98; refine (l2Byte_any _ _).mono ?_; rintro e w' ⟨rfl, rfl⟩)
      go_ret
      exact ⟨ret_bool (nameB_bad hlt HN.out).symm, rfl⟩
    ·obtain rfl : k = s.size := by omega
     go_wp2
     go_ret
     exact ⟨ret_bool (nameB_yes (by omega) (by omega) H3.out H4.out HF.out).symm, rfl⟩


end Go.Proofs.YtknckbedddeijaaGreat

namespace Go.Proofs.YtknckbedddeijaaGreat
open Go.RowKit
set_option linter.unusedVariables false
theorem take_snoc (s : ByteArray) (k : Nat) (h : k < s.size) : s.data.toList.take (k + 1) = s.data.toList.take k ++ [s[k]] := by
 rw [List.take_succ_eq_append_getElem (by simpa using h)]; rfl

theorem wraps_i64 (n : Int) (h₀ : 0 ≤ n) (h₁ : n < 2 ^ 63) : IntKind.i64.wrap n = n := by rw [IntKind.wrap_i64]; omega

/-- The bytes of n to the base 128, the lowest first, with f bytes more at most. -/
def vby : Nat → Nat → List UInt8
 | 0, n => [UInt8.ofNat n]
 | f + 1, n => if n < 128 then [UInt8.ofNat n] else UInt8.ofNat (128 + n % 128) :: vby f (n / 128)

theorem vby_last (f n : Nat) (h : n < 128) : vby f n = [UInt8.ofNat n] := by
 cases f with
 | zero => rfl
 | succ f => simp [vby, h]
theorem vby_more (f n : Nat) (h : 128 ≤ n) : vby (f + 1) n = UInt8.ofNat (128 + n % 128) :: vby f (n / 128) := by
 simp [vby, show ¬ n < 128 by omega]

/-- What Var answers for n from 0 to MaxVar. -/
def varL (n : Nat) : List UInt8 := vby 6 n
def varS (n : Nat) : ByteArray := ⟨(varL n).toArray⟩

theorem vby_length (f n : Nat) : 1 ≤ (vby f n).length ∧ (vby f n).length ≤ f + 1 := by
 induction f generalizing n with
 | zero => simp [vby]
 | succ f ih =>
  unfold vby
  split
  ·simp
  ·have := ih (n / 128)
   simp; omega

/-- The cells of a row of bytes. -/
def cellsOf (l : List UInt8) : List Value := l.map (fun c => Value.int .u8 (c.toNat : Int))
theorem cellsOf_length (l : List UInt8) : (cellsOf l).length = l.length := by simp [cellsOf]
theorem cellsOf_snoc (l : List UInt8) (c : UInt8) : cellsOf (l ++ [c]) = cellsOf l ++ [.int .u8 (c.toNat : Int)] := by simp [cellsOf]

theorem strOfNums_bytes (l : List UInt8) : strOfNums (l.map (fun c => (c.toNat : Int))) = ⟨l.toArray⟩ := by
 unfold strOfNums
 congr 2
 rw [List.map_map]
 conv => rhs; rw [← List.map_id l]
 apply List.map_congr_left
 intro c _
 simp

/-- One step of Var's loop: f + 1 bytes may still come; m has at least two. -/
theorem var_step {n m f : Nat} {pre : List UInt8} (h : pre ++ vby (f + 1) m = varL n) (hm : 128 ≤ m) : (pre ++ [UInt8.ofNat (128 + m % 128)]) ++ vby f (m / 128) = varL n := by
 rw [← h, vby_more f m hm, List.append_assoc]; rfl
theorem var_end {n m f : Nat} {pre : List UInt8} (h : pre ++ vby f m = varL n) (hm : m < 128) : pre ++ [UInt8.ofNat m] = varL n := by
 rw [← h, vby_last f m hm]
theorem var_fuel {f m : Nat} (h : m < 128 ^ (f + 1)) (hm : 128 ≤ m) : ∃ g, f = g + 1 ∧ m / 128 < 128 ^ (g + 1) := by
 cases f with
 | zero => simp at h; omega
 | succ g =>
  refine ⟨g, rfl, ?_⟩
  rw [Nat.pow_succ] at h
  exact Nat.div_lt_of_lt_mul (by omega)
theorem byte_hi (m : Nat) : ((UInt8.ofNat (128 + m % 128)).toNat : Int) = 128 + (m : Int) % 128 := by
 simp; omega
theorem byte_lo (m : Nat) (h : m < 128) : ((UInt8.ofNat m).toNat : Int) = (m : Int) := by
 simp; omega

/-- The number whose bytes to the base 128, the lowest first, are l (what is above 127 is not counted). -/
def vnum : List UInt8 → Nat
 | [] => 0
 | c :: l => c.toNat % 128 + 128 * vnum l

theorem vnum_lt (l : List UInt8) : vnum l < 128 ^ l.length := by
 induction l with
 | nil => simp [vnum]
 | cons c l ih =>
  simp only [vnum, List.length_cons, Nat.pow_succ]
  have : c.toNat % 128 < 128 := Nat.mod_lt _ (by omega)
  omega

theorem vnum_snoc (l : List UInt8) (c : UInt8) : vnum (l ++ [c]) = vnum l + c.toNat % 128 * 128 ^ l.length := by
 induction l with
 | nil => simp [vnum]
 | cons d l ih =>
  simp only [List.cons_append, vnum, List.length_cons, Nat.pow_succ, ih, Nat.mul_add]
  have : 128 * (c.toNat % 128 * 128 ^ l.length) = c.toNat % 128 * (128 ^ l.length * 128) := by
   rw [Nat.mul_comm 128, Nat.mul_assoc]
  omega

theorem pow128_7 (k : Nat) (h : k ≤ 7) : 128 ^ k ≤ 562949953421312 := by
 have h1 := Nat.pow_le_pow_right (n := 128) (by omega) h
 have h2 : 128 ^ 7 = 562949953421312 := by decide
 omega

theorem vnum_le (l : List UInt8) (h : l.length ≤ 7) : vnum l ≤ 562949953421311 := by
 have h1 := vnum_lt l
 have h2 := pow128_7 l.length h
 omega

/-- A text that Var makes: all bytes but the last have 128 added; the last one is not 0 behind others. -/
def VarT (t : List UInt8) : Prop := ∃ pre c, t = pre ++ [c] ∧ c.toNat < 128 ∧ (∀ d ∈ pre, 128 ≤ d.toNat) ∧ (pre ≠ [] → c.toNat ≠ 0)

theorem vby_good (f n : Nat) (h : n < 128 ^ (f + 1)) : ∃ pre m, vby f n = pre ++ [UInt8.ofNat m] ∧ m < 128 ∧ (∀ d ∈ pre, 128 ≤ d.toNat) ∧ (1 ≤ n → 1 ≤ m) ∧ (pre ≠ [] → 1 ≤ n) := by
 induction f generalizing n with
 | zero =>
  simp at h
  exact ⟨[], n, rfl, h, by simp, fun h => h, fun h => absurd rfl h⟩
 | succ f ih =>
  by_cases hn : n < 128
  ·exact ⟨[], n, by rw [vby_last _ _ hn]; rfl, hn, by simp, fun h => h, fun h => absurd rfl h⟩
  ·rw [Nat.pow_succ] at h
   obtain ⟨pre, m, e, hm, hp, h1, h2⟩ := ih (n / 128) (Nat.div_lt_of_lt_mul (by omega))
   refine ⟨UInt8.ofNat (128 + n % 128) :: pre, m, by rw [vby_more f n (by omega), e]; rfl, hm, ?_, fun _ => h1 (by omega), fun _ => by omega⟩
   intro d hd
   rcases List.mem_cons.1 hd with rfl | hd
   ·simp; omega
   ·exact hp d hd

theorem varL_good (n : Nat) (h : n ≤ 562949953421311) : VarT (varL n) := by
 obtain ⟨pre, m, e, hm, hp, h1, h2⟩ := vby_good 6 n (by omega)
 refine ⟨pre, UInt8.ofNat m, e, by simp; omega, hp, fun hne => ?_⟩
 have := h1 (h2 hne)
 simp; omega

theorem vnum_pos (pre : List UInt8) (c : UInt8) (h : c.toNat < 128) (hc : c.toNat ≠ 0) : 1 ≤ vnum (pre ++ [c]) := by
 rw [vnum_snoc]
 have h1 : 0 < 128 ^ pre.length := Nat.pow_pos (by omega)
 have h2 : 1 ≤ c.toNat % 128 := by omega
 have := Nat.mul_le_mul h2 h1
 omega

theorem vby_vnum (pre : List UInt8) (c : UInt8) (f : Nat) (h : c.toNat < 128) (hp : ∀ d ∈ pre, 128 ≤ d.toNat) (hc : pre ≠ [] → c.toNat ≠ 0) (hf : pre.length ≤ f) : vby f (vnum (pre ++ [c])) = pre ++ [c] := by
 induction pre generalizing f with
 | nil =>
  have e : vnum ([] ++ [c]) = c.toNat := by simp [vnum]; omega
  rw [e, vby_last f _ h]
  simp
 | cons d pre ih =>
  have hc' : c.toNat ≠ 0 := hc (by simp)
  have hpos := vnum_pos pre c h hc'
  cases f with
  | zero => simp at hf
  | succ f =>
   have hd : 128 ≤ d.toNat := hp d (by simp)
   have hd2 := d.toNat_lt
   have e : vnum ((d :: pre) ++ [c]) = d.toNat % 128 + 128 * vnum (pre ++ [c]) := rfl
   rw [e, vby_more f _ (by omega)]
   have e1 : (d.toNat % 128 + 128 * vnum (pre ++ [c])) / 128 = vnum (pre ++ [c]) := by omega
   have e2 : 128 + (d.toNat % 128 + 128 * vnum (pre ++ [c])) % 128 = d.toNat := by omega
   rw [e1, e2, ih f (fun x hx => hp x (by simp [hx])) (fun _ => hc') (by simpa using hf)]
   simp

theorem varL_vnum {t : List UInt8} (hg : VarT t) (h7 : t.length ≤ 7) : varL (vnum t) = t := by
 obtain ⟨pre, c, rfl, h, hp, hc⟩ := hg
 exact vby_vnum pre c 6 h hp hc (by simp at h7; omega)

/-- A text of at most seven bytes is the Var of what it says just where it is such a text. -/
theorem varL_iff {t : List UInt8} (h7 : t.length ≤ 7) : varL (vnum t) = t ↔ VarT t :=
 ⟨fun h => h ▸ varL_good (vnum t) (vnum_le t h7), fun h => varL_vnum h h7⟩

/-- What ReadVar answers: x and k. -/
def RV (l : List UInt8) (x k : Nat) : Prop :=
 (1 ≤ k ∧ k ≤ 7 ∧ k ≤ l.length ∧ VarT (l.take k) ∧ x = vnum (l.take k)) ∨ (x = 0 ∧ k = 0 ∧ ∀ j, 1 ≤ j → j ≤ 7 → j ≤ l.length → ¬ VarT (l.take j))

theorem good_at {l : List UInt8} {k : Nat} (h1 : 1 ≤ k) (hk : k ≤ l.length) (hg : VarT (l.take k)) : (l.getD (k - 1) 0).toNat < 128 ∧ ∀ j, j < k - 1 → 128 ≤ (l.getD j 0).toNat := by
 obtain ⟨pre, c, e, h, hp, _⟩ := hg
 have hl : pre.length + 1 = k := by
  have := congrArg List.length e
  simp at this; omega
 have get : ∀ j, j < k → l.getD j 0 = (pre ++ [c]).getD j 0 := by
  intro j hj
  rw [← e]
  simp [hj]
 constructor
 ·rw [get (k - 1) (by omega)]
  have : k - 1 = pre.length := by omega
  rw [this]; simpa using h
 ·intro j hj
  rw [get j (by omega)]
  have hj' : j < pre.length := by omega
  have : (pre ++ [c]).getD j 0 = pre[j] := by simp [List.getElem?_append_left hj', hj']
  rw [this]
  exact hp _ (List.getElem_mem hj')

theorem RV_unique {l : List UInt8} {x y j k : Nat} (h1 : RV l x j) (h2 : RV l y k) : x = y ∧ j = k := by
 rcases h1 with ⟨a1, a7, al, ag, ax⟩ | ⟨ax, aj, an⟩
 ·rcases h2 with ⟨b1, b7, bl, bg, bx⟩ | ⟨bx, bk, bn⟩
  ·have ha := good_at a1 al ag
   have hb := good_at b1 bl bg
   have e : j = k := by
    rcases Nat.lt_trichotomy j k with h | h | h
    ·have := hb.2 (j - 1) (by omega); have := ha.1; omega
    ·exact h
    ·have := ha.2 (k - 1) (by omega); have := hb.1; omega
   subst e
   exact ⟨ax.trans bx.symm, rfl⟩
  ·exact absurd ag (bn j a1 a7 al)
 ·rcases h2 with ⟨b1, b7, bl, bg, bx⟩ | ⟨bx, bk, bn⟩
  ·exact absurd bg (an k b1 b7 bl)
  ·exact ⟨ax.trans bx.symm, aj.trans bk.symm⟩


theorem mem_take_getD {l : List UInt8} {k : Nat} {d : UInt8} (h : d ∈ l.take k) : ∃ j, j < k ∧ l.getD j 0 = d := by
 obtain ⟨j, hj, e⟩ := List.mem_iff_getElem.1 h
 have hj' : j < k ∧ j < l.length := by simp at hj; omega
 refine ⟨j, hj'.1, ?_⟩
 rw [List.getElem_take] at e
 simp [hj'.2, e]

theorem rv_high {s : ByteArray} {k : Nat} (hk : k < s.size) (HA : ∀ j, j < k → 128 ≤ (s.data.toList.getD j 0).toNat) (hd : 128 ≤ s[k].toNat) : ∀ j, j < k + 1 → 128 ≤ (s.data.toList.getD j 0).toNat := by
 intro j hj
 by_cases h : j < k
 ·exact HA j h
 ·obtain rfl : j = k := by omega
  rw [getD_data s j hk]; exact hd

theorem rv_good {s : ByteArray} {k : Nat} (hk : k < s.size) (h7 : k < 7) (HA : ∀ j, j < k → 128 ≤ (s.data.toList.getD j 0).toNat) (hd : s[k].toNat < 128) (hz : k = 0 ∨ s[k].toNat ≠ 0) : RV s.data.toList (vnum (s.data.toList.take (k + 1))) (k + 1) := by
 refine .inl ⟨by omega, by omega, by simpa using Nat.succ_le_of_lt hk, ?_, rfl⟩
 refine ⟨s.data.toList.take k, s[k], take_snoc s k hk, hd, ?_, ?_⟩
 ·intro d hd
  obtain ⟨j, hj, e⟩ := mem_take_getD hd
  rw [← e]; exact HA j hj
 ·intro hne
  rcases hz with rfl | hz
  ·exact absurd rfl hne
  ·exact hz

theorem rv_zero {s : ByteArray} {k : Nat} (hk : k < s.size) (HA : ∀ j, j < k → 128 ≤ (s.data.toList.getD j 0).toNat) (hz : s[k].toNat = 0) (h0 : 0 < k) : RV s.data.toList 0 0 := by
 refine .inr ⟨rfl, rfl, fun j h1 _ hl hg => ?_⟩
 have ga := good_at h1 hl hg
 have e : j = k + 1 := by
  rcases Nat.lt_trichotomy j (k + 1) with h | h | h
  ·have := HA (j - 1) (by omega); have := ga.1; omega
  ·exact h
  ·have := ga.2 k (by omega)
   rw [getD_data s k hk] at this; omega
 subst e
 obtain ⟨pre, c, e, _, _, hc⟩ := hg
 rw [take_snoc s k hk] at e
 have e1 := List.append_inj' e rfl
 have hpre : pre ≠ [] := by
  rw [← e1.1]
  intro h
  have h2 : (s.data.toList.take k).length = 0 := by rw [h]; rfl
  rw [List.length_take] at h2
  have h3 : s.data.toList.length = s.size := by simp
  omega
 have := hc hpre
 rw [← (List.cons.inj e1.2).1] at this
 exact this hz

theorem rv_none {l : List UInt8} {L : Nat} (HA : ∀ j, j < L → 128 ≤ (l.getD j 0).toNat) (hL : 7 ≤ L ∨ l.length ≤ L) : RV l 0 0 := by
 refine .inr ⟨rfl, rfl, fun j h1 h7 hl hg => ?_⟩
 have ga := (good_at h1 hl hg).1
 have := HA (j - 1) (by omega)
 omega

theorem pow2_7i (k : Nat) : (2 : Int) ^ (7 * k) = ((128 ^ k : Nat) : Int) := by
 have : (2 ^ (7 * k) : Nat) = 128 ^ k := by rw [Nat.pow_mul]
 rw [← this, Int.natCast_pow]; rfl

/-- 'x | d << (7 * k)' where x has k digits. -/
theorem or_shift (x d k : Nat) (hk : k < 7) (hx : x < 128 ^ k) (hd : d < 128) : bits .or .i64 (x : Int) (wrap64 ((d : Int) * 2 ^ (7 * k))) = ((x + d * 128 ^ k : Nat) : Int) := by
 have h6 : 128 ^ k ≤ 128 ^ 6 := Nat.pow_le_pow_right (by omega) (by omega)
 have e6 : 128 ^ 6 = 4398046511104 := by decide
 have hm : d * 128 ^ k ≤ 127 * 4398046511104 := Nat.mul_le_mul (by omega) (by omega)
 have hv : (d : Int) * 2 ^ (7 * k) = ((d * 128 ^ k : Nat) : Int) := by rw [pow2_7i, Int.natCast_mul]
 rw [hv, IntWalk.wrap64_in _ ⟨by omega, by omega⟩]
 have hc : bits .or .i64 (x : Int) ((d * 128 ^ k : Nat) : Int) = bits .or .i64 ((d * 128 ^ k : Nat) : Int) (x : Int) := by simp only [bits, BitVec.or_comm]
 have hj := bits_join .i64 63 (by decide) wraps_i64 (7 * k) ((d * 128 ^ k : Nat) : Int) (x : Int) (by omega) (by rw [pow2_7i, ← Int.natCast_emod, Nat.mul_mod_left]; rfl) (by omega) (by omega) (by rw [pow2_7i]; omega) (by omega)
 rw [hc, hj, Int.natCast_add]
 omega

theorem or_take {s : ByteArray} {k : Nat} (hk : k < s.size) (h7 : k < 7) (d : Int) (hd : d = ((s[k].toNat % 128 : Nat) : Int)) : bits .or .i64 ((vnum (s.data.toList.take k) : Nat) : Int) (wrap64 (d * 2 ^ (7 * k))) = ((vnum (s.data.toList.take (k + 1)) : Nat) : Int) := by
 subst hd
 have hl : (s.data.toList.take k).length = k := by
  simp; omega
 have hx := vnum_lt (s.data.toList.take k)
 rw [hl] at hx
 rw [or_shift _ _ k h7 hx (Nat.mod_lt _ (by omega)), take_snoc s k hk, vnum_snoc, hl]

theorem varS_size (n : Nat) : (varS n).size = (varL n).length := by
 show (varL n).toArray.size = _
 simp
theorem varS_le (n : Nat) : 1 ≤ (varS n).size ∧ (varS n).size ≤ 7 := by
 rw [varS_size]; exact vby_length 6 n

theorem vnum_vby (f n : Nat) (h : n < 128 ^ (f + 1)) : vnum (vby f n) = n := by
 induction f generalizing n with
 | zero =>
  simp at h
  rw [vby_last 0 n (by omega)]
  simp [vnum]; omega
 | succ f ih =>
  by_cases hn : n < 128
  ·rw [vby_last _ _ hn]
   simp [vnum]; omega
  ·rw [Nat.pow_succ] at h
   rw [vby_more f n (by omega)]
   simp only [vnum]
   rw [ih (n / 128) (Nat.div_lt_of_lt_mul (by omega))]
   simp; omega
theorem vnum_varL (n : Nat) (h : n ≤ 562949953421311) : vnum (varL n) = n := vnum_vby 6 n (by omega)

end Go.Proofs.YtknckbedddeijaaGreat
namespace Go.Proofs.YtknckbedddeijaaGreat
open Go.RowKit
set_option linter.unusedVariables false
/-- A row of bytes that the call owns, made a text. -/
theorem Tryz.infoU8' : (Tryz.prog.info? 5).map (fun i => (i.zero, i.size, i.bytes)) = some (some (.int .u8 0), 1, 1) := by kernel_rfl

theorem conv_own {w : World} {base : Nat} {v : Value} {n : Nat} {l : List UInt8} (h : w.ownsRow base 5 1 v n (cellsOf l)) :
  (convert 100 9 v).run Tryz.prog w = .ok (.string ⟨l.toArray⟩) w := by
 obtain ⟨hl, h2⟩ := h
 rcases h2 with ⟨rfl, rfl⟩ | ⟨g, cap, cur, rfl, hb, hg, hn, hc, hs, ht⟩
 ·have : l = [] := by simpa [cellsOf] using hl
  subst this
  exact run_convert_bytes_nil (P := Tryz.prog) w 100 5 Tryz.underlying100 Tryz.underlying5 0 0 9 Tryz.underlying9
 ·have hlen : l.length = n := by simpa [cellsOf] using hl
  have h := run_convert_bytes_arg (P := Tryz.prog) w 100 5 Tryz.underlying100 Tryz.underlying5 g 0 n cap (l.map (fun c => (c.toNat : Int))) (by simpa using hlen) (fun i hi => by
   rw [cell_of_row w g (0 + i) cur 5 (0, 0) hg, Nat.zero_add]
   have e : (cur.toList.take (n * 1))[i]? = (cellsOf l)[i]? := by rw [ht]
   rw [List.getElem?_take, if_pos (by omega)] at e
   have hi' : i < l.length := by omega
   simp [cellsOf, hi'] at e
   simp [hi', e]) 9 Tryz.underlying9
  rw [h, strOfNums_bytes]

theorem varStart (w : World) : (w.alloc (.cells #[] 5)).ownsRow w.heap.size 5 1 (.slice (some ⟨w.heap.size, 0, none⟩) 0 0) 0 (cellsOf []) :=
 World.ownsRow_made w #[] 0 (Nat.le_refl _) (by decide) rfl

set_option maxHeartbeats 400000 in
theorem specVar_no (n : Int) (w : World) (h : n < 0 ∨ 562949953421311 < n) :
  Calls Tryz.prog 43 #[.int .i64 n] w fun e w' => e = .returned (.string ByteArray.empty) ∧ w = w' := by
 have hb : inB n 0 562949953421311 = false := inB_false (by omega)
 clear h
 go_enter Tryz.func43, Tryz.ntmps43
 go_wp2_with (go_at_call 60; refine (l1In_any _ _ _ _).mono ?_; rintro e w' ⟨rfl, rfl⟩)
 go_ret
 exact ⟨rfl, rfl⟩

set_option maxHeartbeats 400000 in
set_option maxRecDepth 100000 in
theorem specVar_yes (n : Nat) (w : World) (hn : n ≤ 562949953421311) :
  Calls Tryz.prog 43 #[.int .i64 n] w fun e w' => e = .returned (.string (varS n)) ∧ Below w.heap.size w w' := by
 have hb : inB n 0 562949953421311 = true := inB_true (by omega)
 obtain ⟨i0, hi, hz0, hz1, hz2⟩ := info_parts Tryz.infoU8'
 go_enter Tryz.func43, Tryz.ntmps43
 go_wp2_with (go_at_call 60; refine (l1In_any _ _ _ _).mono ?_; rintro e w' ⟨rfl, rfl⟩)
 go_loopw [0, 3] (fun t v wr => ∃ (f m : Nat) (pre : List UInt8), t = .int .i64 m ∧ Hid (m < 128 ^ (f + 1)) ∧ m ≤ 562949953421311 ∧ pre.length + f ≤ 6 ∧ Hid (pre ++ vby f m = varL n) ∧ wr.ownsRow w.heap.size 5 1 v pre.length (cellsOf pre) ∧ Below w.heap.size w wr) (fun t _ _ => (intOf t).toNat)
 case atStart => exact ⟨6, n, [], rfl, by unfold Hid; omega, hn, by simp, rfl, varStart w, (Below.refl _ _).alloc (Nat.le_refl _) _⟩
 case round =>
  obtain ⟨f, m, pre, rfl, HF, hm, hl, HP, hown, hbel⟩ := hrel
  have hbs := hbel.size
  by_cases hlt : 128 ≤ m
  ·obtain ⟨g, rfl, hg⟩ := var_fuel HF.out hlt
   have HG : Hid (m / 128 < 128 ^ (g + 1)) := hg
   clear hg HF
   go_wp2_with (at_builtin; refine wpList_append_own _ rfl _ _ 100 rfl w.heap.size 5 i0 (.int .u8 0) 1 1 Tryz.underlying100 hi hz0 hz1 hz2 rfl (by decide) _ _ _ rfl (hown.alloc _) ⟨wr.heap.size, 0, none⟩ 1 1 [.int .u8 (128 + (m : Int) % 128)] rfl rfl ?c1 ?c2 ?c3 ?c4 ?c5 ?_)
   case c1 => exact cell_one_new _ _ _
   case c2 => intro u hu; simp at hu; subst hu; rfl
   case c3 => unfold maxLen; omega
   case c4 => omega
   case c5 => simp; omega
   intro v' w1 hown' hgrow _
   rw [← byte_hi, ← cellsOf_snoc] at hown'
   have hb' := hbel.trans (((Below.refl _ _).alloc hbs _).grown hgrow (by simp; omega) (fun k hk => (hown.lt k hk).1))
   clear hgrow
   go_wp2
   go_roundw
   case rel => exact ⟨g, m / 128, pre ++ [UInt8.ofNat (128 + m % 128)], by go_num, HG, by omega, by simp; omega, var_step HP.out hlt, by simpa using hown', hb'⟩
   case measure => simp [intOf]; omega
  ·have hlt' : m < 128 := by omega
   go_wp2_with (at_builtin; refine wpList_append_own _ rfl _ _ 100 rfl w.heap.size 5 i0 (.int .u8 0) 1 1 Tryz.underlying100 hi hz0 hz1 hz2 rfl (by decide) _ _ _ rfl (hown.alloc _) ⟨wr.heap.size, 0, none⟩ 1 1 [.int .u8 (m : Int)] rfl rfl ?d1 ?d2 ?d3 ?d4 ?d5 ?_)
   case d1 => exact cell_one_new _ _ _
   case d2 => intro u hu; simp at hu; subst hu; rfl
   case d3 => unfold maxLen; omega
   case d4 => omega
   case d5 => simp; omega
   intro v' w1 hown' hgrow _
   rw [← byte_lo m hlt', ← cellsOf_snoc, var_end HP.out hlt'] at hown'
   have hb' := hbel.trans (((Below.refl _ _).alloc hbs _).grown hgrow (by simp; omega) (fun k hk => (hown.lt k hk).1))
   have hcv := conv_own hown'
   clear hgrow hown' hown
   go_wp2
   go_ret
   exact ⟨rfl, hb'⟩

theorem i64_or128 (y : Int) (h₀ : 0 ≤ y) (h₁ : y < 128) : bits .or .i64 y 128 = 128 + y := by
 have hc : bits .or .i64 y 128 = bits .or .i64 128 y := by simp only [bits, BitVec.or_comm]
 rw [hc, bits_join .i64 63 (by decide) wraps_i64 7 128 y (by decide) (by decide) (by decide) h₀ (by omega) (by omega)]

theorem ret2_ints {a b c d : Int} (h : a = b) (h' : c = d) : Ending.returned (.tuple #[.int .i64 a, .int .i64 c]) = .returned (.tuple #[.int .i64 b, .int .i64 d]) := by rw [h, h']

set_option maxHeartbeats 400000 in
set_option maxRecDepth 100000 in
theorem implReadVar_long (s : ByteArray) (w : World) (hs : s.size ≤ 1048576) (h7 : (7 : Int) < (s.size : Int)) :
  Calls Tryz.prog 64 #[.string s] w fun e w' => ∃ x k : Nat, e = .returned (.tuple #[.int .i64 x, .int .i64 k]) ∧ RV s.data.toList x k ∧ w = w' := by
 have h7' : 7 < s.size := by omega
 go_enter Tryz.func64, Tryz.ntmps64
 go_wp2
 go_loop [4, 10] (fun t c => ∃ k : Nat, k ≤ 7 ∧ c = .int .i64 k ∧ t = .int .i64 (vnum (s.data.toList.take k) : Nat) ∧ Hid (∀ j, j < k → 128 ≤ (s.data.toList.getD j 0).toNat)) (fun _ c => 7 - (intOf c).toNat)
 case atStart => exact ⟨0, Nat.zero_le _, rfl, rfl, fun j hj => absurd hj (by omega)⟩
 case round =>
  obtain ⟨k, hk, rfl, rfl, HA⟩ := hrel
  by_cases hlt : k < 7
  ·have hks : k < s.size := by omega
   have hk7 : k < 7 := by omega
   have hb := (s[k]).toNat_lt
   by_cases hd : 128 ≤ (s[k].toNat : Int)
   ·go_wp2
    go_round
    case rel => exact ⟨k + 1, by omega, by go_num, by rw [or_take hks hk7 _ (by omega)], rv_high hks HA.out (by omega)⟩
    case measure => simp [intOf]; omega
   ·by_cases hz : (s[k].toNat : Int) = 0
    ·have hz' : ((s[k].toNat : Int) == 0) = true := by simpa using hz
     have HZ : Hid ((s[k].toNat : Int) = 0) := hz
     clear hz
     by_cases hk0 : 0 < k
     ·have hk0' : (0 : Int) < (k : Int) := by omega
      go_wp2
      go_ret2
      exact ⟨0, 0, rfl, rv_zero hks HA.out (by have := HZ.out; omega) hk0, rfl⟩
     ·have hk0' : ¬ (0 : Int) < (k : Int) := by omega
      go_wp2
      go_ret2
      exact ⟨vnum (s.data.toList.take (k + 1)), k + 1, ret2_ints (or_take hks hk7 _ (by have := HZ.out; omega)) (by omega), rv_good hks hk7 HA.out (by have := HZ.out; omega) (.inl (by omega)), rfl⟩
    ·have hz' : ((s[k].toNat : Int) == 0) = false := by simpa using hz
     go_wp2
     go_ret2
     exact ⟨vnum (s.data.toList.take (k + 1)), k + 1, ret2_ints (or_take hks hk7 _ (by omega)) (by omega), rv_good hks hk7 HA.out (by omega) (.inr (by omega)), rfl⟩
  ·go_wp2
   go_ret2
   exact ⟨0, 0, rfl, rv_none HA.out (by omega), rfl⟩

set_option maxHeartbeats 400000 in
set_option maxRecDepth 100000 in
theorem implReadVar_short (s : ByteArray) (w : World) (hs : s.size ≤ 1048576) (h7 : ¬ (7 : Int) < (s.size : Int)) :
  Calls Tryz.prog 64 #[.string s] w fun e w' => ∃ x k : Nat, e = .returned (.tuple #[.int .i64 x, .int .i64 k]) ∧ RV s.data.toList x k ∧ w = w' := by
 have h7' : s.size ≤ 7 := by omega
 go_enter Tryz.func64, Tryz.ntmps64
 go_wp2
 go_loop [4, 10] (fun t c => ∃ k : Nat, k ≤ s.size ∧ c = .int .i64 k ∧ t = .int .i64 (vnum (s.data.toList.take k) : Nat) ∧ Hid (∀ j, j < k → 128 ≤ (s.data.toList.getD j 0).toNat)) (fun _ c => s.size - (intOf c).toNat)
 case atStart => exact ⟨0, Nat.zero_le _, rfl, rfl, fun j hj => absurd hj (by omega)⟩
 case round =>
  obtain ⟨k, hk, rfl, rfl, HA⟩ := hrel
  by_cases hlt : k < s.size
  ·have hks : k < s.size := by omega
   have hk7 : k < 7 := by omega
   have hb := (s[k]).toNat_lt
   by_cases hd : 128 ≤ (s[k].toNat : Int)
   ·go_wp2
    go_round
    case rel => exact ⟨k + 1, by omega, by go_num, by rw [or_take hks hk7 _ (by omega)], rv_high hks HA.out (by omega)⟩
    case measure => simp [intOf]; omega
   ·by_cases hz : (s[k].toNat : Int) = 0
    ·have hz' : ((s[k].toNat : Int) == 0) = true := by simpa using hz
     have HZ : Hid ((s[k].toNat : Int) = 0) := hz
     clear hz
     by_cases hk0 : 0 < k
     ·have hk0' : (0 : Int) < (k : Int) := by omega
      go_wp2
      go_ret2
      exact ⟨0, 0, rfl, rv_zero hks HA.out (by have := HZ.out; omega) hk0, rfl⟩
     ·have hk0' : ¬ (0 : Int) < (k : Int) := by omega
      go_wp2
      go_ret2
      exact ⟨vnum (s.data.toList.take (k + 1)), k + 1, ret2_ints (or_take hks hk7 _ (by have := HZ.out; omega)) (by omega), rv_good hks hk7 HA.out (by have := HZ.out; omega) (.inl (by omega)), rfl⟩
    ·have hz' : ((s[k].toNat : Int) == 0) = false := by simpa using hz
     go_wp2
     go_ret2
     exact ⟨vnum (s.data.toList.take (k + 1)), k + 1, ret2_ints (or_take hks hk7 _ (by omega)) (by omega), rv_good hks hk7 HA.out (by omega) (.inr (by omega)), rfl⟩
  ·go_wp2
   go_ret2
   exact ⟨0, 0, rfl, rv_none HA.out (by simp; omega), rfl⟩

theorem implReadVar_any (s : ByteArray) (w : World) (hs : s.size ≤ 1048576) :
  Calls Tryz.prog 64 #[.string s] w fun e w' => ∃ x k : Nat, e = .returned (.tuple #[.int .i64 x, .int .i64 k]) ∧ RV s.data.toList x k ∧ w = w' := by
 by_cases h7 : (7 : Int) < (s.size : Int)
 ·exact implReadVar_long s w hs h7
 ·exact implReadVar_short s w hs h7

theorem drop_step (s : ByteArray) (k p : Nat) (hp : p < k) (hk : k ≤ s.size) : vnum ((s.data.toList.take k).drop p) = (s[p]'(by omega)).toNat % 128 + 128 * vnum ((s.data.toList.take k).drop (p + 1)) := by
 have hl : p < (s.data.toList.take k).length := by
  have : s.data.toList.length = s.size := by simp
  rw [List.length_take]; omega
 rw [List.drop_eq_getElem_cons hl]
 have : (s.data.toList.take k)[p] = s[p]'(by omega) := by rw [List.getElem_take]; rfl
 rw [this]; rfl

theorem drop_le (l : List UInt8) (k p : Nat) (h : k ≤ p + 6) : vnum ((l.take k).drop p) ≤ 4398046511103 := by
 have h1 := vnum_lt ((l.take k).drop p)
 have h2 : 128 ^ ((l.take k).drop p).length ≤ 128 ^ 6 := Nat.pow_le_pow_right (by omega) (by simp; omega)
 have h3 : 128 ^ 6 = 4398046511104 := by decide
 omega

theorem extract_take (s : ByteArray) (k : Nat) : (s.extract 0 k).toList = s.data.toList.take k := by
 rw [ByteArray.toList_eq]
 obtain ⟨⟨l⟩⟩ := s
 simp

theorem varS_toList (n : Nat) : (varS n).toList = varL n := by
 rw [ByteArray.toList_eq]; rfl

theorem beq_take (s : ByteArray) (k : Nat) (h7 : k ≤ 7) : ((varS (vnum (s.data.toList.take k))).toList == (s.extract 0 k).toList) = true ↔ VarT (s.data.toList.take k) := by
 rw [extract_take, varS_toList, beq_iff_eq]
 exact varL_iff (Nat.le_trans (List.length_take_le _ _) h7)

set_option maxHeartbeats 800000 in
set_option maxRecDepth 100000 in
theorem specReadVar_any (s : ByteArray) (w : World) (hs : s.size ≤ 1048576) :
  Calls Tryz.prog 38 #[.string s] w fun e w' => ∃ x k : Nat, e = .returned (.tuple #[.int .i64 x, .int .i64 k]) ∧ RV s.data.toList x k ∧ Below w.heap.size w w' := by
 go_enter Tryz.func38, Tryz.ntmps38
 go_wp2
 go_loopw [4] (fun c wr => ∃ k : Nat, 1 ≤ k ∧ k ≤ 8 ∧ k ≤ s.size + 1 ∧ c = .int .i64 k ∧ Hid (∀ j, 1 ≤ j → j < k → ¬ VarT (s.data.toList.take j)) ∧ Below w.heap.size w wr) (fun c _ => 8 - (intOf c).toNat)
 case atStart => exact ⟨1, by omega, by omega, by omega, rfl, fun j h1 h2 => absurd h2 (by omega), Below.refl _ _⟩
 case round =>
  obtain ⟨k, hk1, hk8, hks, rfl, HA, hbel⟩ := hrel
  by_cases hlt : k ≤ 7
  ·by_cases hle : k ≤ s.size
   ·have g1 : (k : Int) ≤ 7 := by omega
    have g2 : (k : Int) ≤ (s.size : Int) := by omega
    go_wp2
    go_loop [5, 6] (fun t c => ∃ i : Nat, i ≤ k ∧ c = .int .i64 ((i : Int) - 1) ∧ t = .int .i64 (vnum ((s.data.toList.take k).drop i) : Nat)) (fun _ c => (intOf c + 1).toNat)
    case atStart => exact ⟨k, Nat.le_refl _, rfl, by simp [vnum]⟩
    case round =>
     obtain ⟨i, hik, rfl, rfl⟩ := hrel
     rcases i with _ | p
     ·have hv := vnum_le (s.data.toList.take k) (Nat.le_trans (List.length_take_le _ _) hlt)
      have hbs := hbel.size
      go_wp2
      go_region_with (go_at_call 43; refine (specVar_yes _ _ hv).mono ?_; rintro e w1 ⟨rfl, hb1⟩)
      all_goals go_wp2
      ·have ht : ((varS (vnum (s.data.toList.take k))).toList == (s.extract 0 k).toList) = true := by assumption
       go_ret2
       exact ⟨vnum (s.data.toList.take k), k, rfl, .inl ⟨hk1, hlt, by simpa using hle, (beq_take s k hlt).1 ht, rfl⟩, hbel.drew.trans (Below.mono hb1 hbs)⟩
      ·have ht : ((varS (vnum (s.data.toList.take k))).toList == (s.extract 0 k).toList) = false := by assumption
       go_roundw
       case rel =>
        refine ⟨k + 1, by omega, by omega, by omega, by go_num, ?_, hbel.drew.trans (Below.mono hb1 hbs)⟩
        intro j h1 h2 hg
        by_cases hj : j < k
        ·exact HA.out j h1 hj hg
        ·obtain rfl : j = k := by omega
         rw [(beq_take s j hlt).2 hg] at ht
         cases ht
       case measure => simp [intOf]; omega
     ·have hps : p < s.size := by omega
      have hb := (s[p]).toNat_lt
      have hd := drop_le s.data.toList k (p + 1) (by omega)
      have HS : Hid (vnum ((s.data.toList.take k).drop p) = (s[p]).toNat % 128 + 128 * vnum ((s.data.toList.take k).drop (p + 1))) := drop_step s k p (by omega) hle
      go_wp2
      go_round
      case rel => exact ⟨p, by omega, by go_num, by rw [HS.out]; go_num⟩
      case measure => simp [intOf]
   ·have g1 : (k : Int) ≤ 7 := by omega
    have g2 : ¬ (k : Int) ≤ (s.size : Int) := by omega
    go_wp2
    go_ret2
    exact ⟨0, 0, rfl, .inr ⟨rfl, rfl, fun j h1 _ hl => HA.out j h1 (by simp at hl; omega)⟩, hbel⟩
  ·have g1 : ¬ (k : Int) ≤ 7 := by omega
   go_wp2
   go_ret2
   exact ⟨0, 0, rfl, .inr ⟨rfl, rfl, fun j h1 h7 _ => HA.out j h1 (by omega)⟩, hbel⟩

end Go.Proofs.YtknckbedddeijaaGreat
namespace Go.Proofs.YtknckbedddeijaaGreat
open Go.RowKit
set_option linter.unusedVariables false
/-- A result. -/
structure Re where
 c : Int
 d : ByteArray
@[reducible] def reV (r : Re) : Value := .agg #[.int .i64 r.c, .string r.d]
def resP (r : Re) : Prop := (0 ≤ r.c ∧ r.c ≤ 200) ∧ r.d.size ≤ 400
instance (r : Re) : Decidable (resP r) := by unfold resP; infer_instance
def resB (r : Re) : Bool := decide (resP r)
theorem resB_yes {r : Re} (h : resP r) : resB r = true := decide_eq_true h
theorem resB_no {r : Re} (h : ¬ resP r) : resB r = false := decide_eq_false h
/-- What is shown of a result. -/
def shR (r : Re) : ByteArray := if resP r then varS r.c.toNat ++ r.d else ByteArray.empty
theorem shR_yes {r : Re} (h : resP r) : shR r = varS r.c.toNat ++ r.d := if_pos h
theorem shR_no {r : Re} (h : ¬ resP r) : shR r = ByteArray.empty := if_neg h
set_option maxRecDepth 100000 in
set_option maxHeartbeats 800000 in
theorem specResultOk_any (r : Re) (w : World) :
  Calls Tryz.prog 59 #[reV r] w fun e w' => e = .returned (.bool (resB r)) ∧ Below w.heap.size w w' := by
 by_cases h1 : 0 ≤ r.c ∧ r.c ≤ 200
 ·have b1 := inB_true h1
  by_cases h2 : (r.d.size : Int) ≤ 400
  ·rw [resB_yes ⟨h1, by omega⟩]
   go_enter Tryz.func59, Tryz.ntmps59
   go_wp2_with (go_at_call 60; refine (l1In_any _ _ _ _).mono ?_; rintro e w9 ⟨rfl, rfl⟩)
   go_ret
   exact ⟨rfl, one_below _ _⟩
  ·rw [resB_no (by unfold resP; omega)]
   go_enter Tryz.func59, Tryz.ntmps59
   go_wp2_with (go_at_call 60; refine (l1In_any _ _ _ _).mono ?_; rintro e w9 ⟨rfl, rfl⟩)
   go_ret
   exact ⟨ret_bool (decide_eq_false (by omega)), one_below _ _⟩
 ·have b1 := inB_false h1
  rw [resB_no (by unfold resP; omega)]
  go_enter Tryz.func59, Tryz.ntmps59
  go_wp2_with (go_at_call 60; refine (l1In_any _ _ _ _).mono ?_; rintro e w9 ⟨rfl, rfl⟩)
  go_ret
  exact ⟨rfl, one_below _ _⟩
set_option maxRecDepth 100000 in
set_option maxHeartbeats 800000 in
theorem implResultOk_any (r : Re) (w : World) :
  Calls Tryz.prog 69 #[reV r] w fun e w' => e = .returned (.bool (resB r)) ∧ Below w.heap.size w w' := by
 by_cases h1 : 0 ≤ r.c ∧ r.c ≤ 200
 ·have b1 := inB_true h1
  by_cases h2 : (r.d.size : Int) ≤ 400
  ·rw [resB_yes ⟨h1, by omega⟩]
   go_enter Tryz.func69, Tryz.ntmps69
   go_wp2_with (go_at_call 52; refine (within_any _ _ _ _).mono ?_; rintro e w9 ⟨rfl, rfl⟩)
   go_ret
   exact ⟨rfl, one_below _ _⟩
  ·rw [resB_no (by unfold resP; omega)]
   go_enter Tryz.func69, Tryz.ntmps69
   go_wp2_with (go_at_call 52; refine (within_any _ _ _ _).mono ?_; rintro e w9 ⟨rfl, rfl⟩)
   go_ret
   exact ⟨ret_bool (decide_eq_false (by omega)), one_below _ _⟩
 ·have b1 := inB_false h1
  rw [resB_no (by unfold resP; omega)]
  go_enter Tryz.func69, Tryz.ntmps69
  go_wp2_with (go_at_call 52; refine (within_any _ _ _ _).mono ?_; rintro e w9 ⟨rfl, rfl⟩)
  go_ret
  exact ⟨rfl, one_below _ _⟩
set_option maxRecDepth 100000 in
set_option maxHeartbeats 1600000 in
theorem specShowResult_any (r : Re) (w : World) (hd : r.d.size ≤ 1048576) :
  Calls Tryz.prog 41 #[reV r] w fun e w' => e = .returned (.string (shR r)) ∧ Below w.heap.size w w' := by
 by_cases h : resP r
 ·have hb := resB_yes h
  rw [shR_yes h]
  obtain ⟨c, d⟩ := r
  obtain ⟨n, rfl⟩ := Int.eq_ofNat_of_zero_le h.1.1
  have hn : n ≤ 200 := by have := h.1.2; simp only at this; omega
  clear h
  simp only [Int.toNat_natCast] at hb hd ⊢
  go_enter Tryz.func41, Tryz.ntmps41
  go_wp2_with fail
  obtain ⟨W, hW, bW, zW, cW, fW⟩ := boxed w #[.int .i64 n, .string d] 57
  simp only [hW]
  have c0 : W.cell? ⟨w.heap.size, 0, none⟩ = some (.int .i64 n) := cW 0
  have c1 : W.cell? ⟨w.heap.size, 1, none⟩ = some (.string d) := cW 1
  clear hW fW cW
  refine (specResultOk_any ⟨n, d⟩ _).mono ?_
  rintro e w1 ⟨rfl, b1⟩
  have d0 := (b1.cell (p := ⟨w.heap.size, 0, none⟩) (by simp; omega)).trans c0
  have d1 := (b1.cell (p := ⟨w.heap.size, 1, none⟩) (by simp; omega)).trans c1
  have z1 := b1.size
  have B1 := bW.trans (b1.mono (by omega))
  have HC : Hid (∀ w2, Below w1.heap.size w1 w2 → w2.cell? ⟨w.heap.size, 1, none⟩ = some (.string d)) := fun w2 b => (b.cell (p := ⟨w.heap.size, 1, none⟩) (by simp; omega)).trans d1
  clear c0 c1 b1 bW
  have hv := varS_le n
  go_wp2
  go_region_with (go_at_call 43; refine (specVar_yes _ _ (by omega)).mono ?_; rintro e w2 ⟨rfl, b2⟩; have hc1 := HC.out w2 ((Below.refl w1.heap.size w1).drew.trans b2))
  all_goals
   go_wp2
   go_ret
   exact ⟨rfl, B1.trans (((Below.refl w1.heap.size w1).drew.trans b2).mono (by omega))⟩
 ·have hb := resB_no h
  rw [shR_no h]
  go_enter Tryz.func41, Tryz.ntmps41
  go_wp2_with fail
  refine (specResultOk_any r _).mono ?_
  rintro e w1 ⟨rfl, b1⟩
  have B1 := (one_below w _).trans (b1.mono (by simp))
  go_wp2
  go_ret
  exact ⟨rfl, B1⟩
end Go.Proofs.YtknckbedddeijaaGreat
namespace Go.Proofs.YtknckbedddeijaaGreat
open Go.ChangeShapes Go.WideShapes Go.ChangeAt Go.RowKit
set_option linter.unusedVariables false
theorem tlist2 {α : Type} {cs : List α} (h : cs.length = 2) : ∃ c0 c1, cs = [c0, c1] := by
 match cs, h with
 | [c0, c1], _ => exact ⟨c0, c1, rfl⟩
theorem tcells_i : Tryz.prog.cellsOf 3 = 1 := by kernel_rfl
theorem tcells_s : Tryz.prog.cellsOf 9 = 1 := by kernel_rfl
section
variable {H : Type} {enc : TypeId × Value → H} {W : World} {sp : Nat → Bool} {held : Bool}
end
end Go.Proofs.YtknckbedddeijaaGreat
namespace Go.Proofs.YtknckbedddeijaaGreat
open Go.RowKit
set_option linter.unusedVariables false
theorem rv_front (x : Nat) (r : List UInt8) (h : x ≤ 562949953421311) : RV (varL x ++ r) x (varL x).length := by
 have hl := vby_length 6 x
 have hl' : 1 ≤ (varL x).length ∧ (varL x).length ≤ 7 := hl
 have ht : (varL x ++ r).take (varL x).length = varL x := by simp
 refine .inl ⟨hl'.1, hl'.2, by simp, ?_, ?_⟩
 ·rw [ht]; exact varL_good x h
 ·rw [ht, vnum_varL x h]
/-- Is a number at the front, and what is left behind it? -/
def Num (l : List UInt8) (x : Nat) (r : List UInt8) : Prop := x ≤ 562949953421311 ∧ l = varL x ++ r
theorem num_of_rv {l : List UInt8} {x k : Nat} (h : RV l x k) (hk : 1 ≤ k) : Num l x (l.drop k) := by
 rcases h with ⟨_, h7, hl, hg, rfl⟩ | ⟨_, h0, _⟩
 ·have h7' : (l.take k).length ≤ 7 := Nat.le_trans (List.length_take_le _ _) h7
  refine ⟨vnum_le _ h7', ?_⟩
  rw [varL_vnum hg h7', List.take_append_drop]
 ·omega
theorem rv_none_num {l : List UInt8} {x : Nat} (h : RV l x 0) : ∀ y r, ¬ Num l y r := by
 rintro y r ⟨hy, rfl⟩
 have := (RV_unique h (rv_front y r hy)).2
 have := (vby_length 6 y).1
 have e : (varL y).length = (vby 6 y).length := rfl
 omega
theorem num_unique {l : List UInt8} {x y : Nat} {r q : List UInt8} (h : Num l x r) (k : Num l y q) : x = y ∧ r = q := by
 obtain ⟨hx, rfl⟩ := h
 obtain ⟨hy, e⟩ := k
 have h1 := rv_front x r hx
 have h2 := rv_front y q hy
 rw [← e] at h2
 obtain ⟨rfl, _⟩ := RV_unique h1 h2
 exact ⟨rfl, List.append_cancel_left e⟩
/-- Is a piece at the front? -/
def Pie (l : List UInt8) (p r : List UInt8) : Prop := p.length ≤ 562949953421311 ∧ l = varL p.length ++ (p ++ r)
theorem pie_num {l p r : List UInt8} (h : Pie l p r) : Num l p.length (p ++ r) := h
theorem pie_unique {l p r p' r' : List UInt8} (h : Pie l p r) (k : Pie l p' r') : p = p' ∧ r = r' := by
 obtain ⟨h1, h2⟩ := num_unique (pie_num h) (pie_num k)
 exact List.append_inj h2 h1
theorem pie_of {l r : List UInt8} {n : Nat} (h : Num l n r) (hn : n ≤ r.length) : Pie l (r.take n) (r.drop n) := by
 have e : (r.take n).length = n := by simp; omega
 unfold Pie
 rw [e, List.take_append_drop]
 exact h
theorem no_pie_num {l : List UInt8} (h : ∀ y r, ¬ Num l y r) : ∀ p r, ¬ Pie l p r := fun p r k => h _ _ (pie_num k)
theorem no_pie_short {l r : List UInt8} {n : Nat} (h : Num l n r) (hn : ¬ n ≤ r.length) : ∀ p q, ¬ Pie l p q := by
 intro p q k
 obtain ⟨e1, e2⟩ := num_unique h (pie_num k)
 rw [e2] at hn
 simp at hn; omega
theorem num_le {l : List UInt8} {x : Nat} {r : List UInt8} (h : Num l x r) : r.length < l.length := by
 obtain ⟨_, rfl⟩ := h
 have := (vby_length 6 x).1
 have e : (varL x).length = (vby 6 x).length := rfl
 rw [List.length_append]; omega
theorem pie_le {l p r : List UInt8} (h : Pie l p r) : r.length < l.length := by
 have := num_le (pie_num h)
 rw [List.length_append] at this; omega
end Go.Proofs.YtknckbedddeijaaGreat
namespace Go.Proofs.YtknckbedddeijaaGreat
open Go.RowKit
set_option linter.unusedVariables false
theorem extract_toList (s : ByteArray) (k : Nat) : (s.extract k s.size).data.toList = s.data.toList.drop k := by
 obtain ⟨⟨l⟩⟩ := s
 simp
 exact List.take_of_length_le (by simp [ByteArray.size])
theorem extract0_toList (s : ByteArray) (k : Nat) : (s.extract 0 k).data.toList = s.data.toList.take k := by
 obtain ⟨⟨l⟩⟩ := s
 simp
open Classical in
/-- The number at the front, and what is left. -/
noncomputable def numO (l : List UInt8) : Option (Nat × List UInt8) := if h : ∃ p : Nat × List UInt8, Num l p.1 p.2 then some h.choose else none
open Classical in
/-- The piece at the front, and what is left. -/
noncomputable def pieO (l : List UInt8) : Option (List UInt8 × List UInt8) := if h : ∃ p : List UInt8 × List UInt8, Pie l p.1 p.2 then some h.choose else none
theorem numO_yes {l : List UInt8} {x : Nat} {r : List UInt8} (h : Num l x r) : numO l = some (x, r) := by
 have hx : ∃ p : Nat × List UInt8, Num l p.1 p.2 := ⟨(x, r), h⟩
 unfold numO
 rw [dif_pos hx]
 obtain ⟨e1, e2⟩ := num_unique hx.choose_spec h
 exact congrArg some (Prod.ext e1 e2)
theorem numO_no {l : List UInt8} (h : ∀ x r, ¬ Num l x r) : numO l = none := by
 unfold numO
 rw [dif_neg]
 rintro ⟨p, hp⟩
 exact h _ _ hp
theorem pieO_yes {l p r : List UInt8} (h : Pie l p r) : pieO l = some (p, r) := by
 have hx : ∃ q : List UInt8 × List UInt8, Pie l q.1 q.2 := ⟨(p, r), h⟩
 unfold pieO
 rw [dif_pos hx]
 obtain ⟨e1, e2⟩ := pie_unique hx.choose_spec h
 exact congrArg some (Prod.ext e1 e2)
theorem pieO_no {l : List UInt8} (h : ∀ p r, ¬ Pie l p r) : pieO l = none := by
 unfold pieO
 rw [dif_neg]
 rintro ⟨p, hp⟩
 exact h _ _ hp
theorem numO_out {l : List UInt8} {x : Nat} {r : List UInt8} (h : numO l = some (x, r)) : Num l x r := by
 by_cases hx : ∃ p : Nat × List UInt8, Num l p.1 p.2
 ·obtain ⟨⟨a, b⟩, hp⟩ := hx
  rw [numO_yes hp] at h
  cases h; exact hp
 ·rw [numO_no (fun x r k => hx ⟨(x, r), k⟩)] at h
  cases h
theorem pieO_out {l p r : List UInt8} (h : pieO l = some (p, r)) : Pie l p r := by
 by_cases hx : ∃ p : List UInt8 × List UInt8, Pie l p.1 p.2
 ·obtain ⟨⟨a, b⟩, hp⟩ := hx
  rw [pieO_yes hp] at h
  cases h; exact hp
 ·rw [pieO_no (fun x r k => hx ⟨(x, r), k⟩)] at h
  cases h
end Go.Proofs.YtknckbedddeijaaGreat
namespace Go.Proofs.YtknckbedddeijaaGreat
open Go.RowKit Go.Shelf
set_option linter.unusedVariables false
def sh_laysM316_ren : Go.Shelf.Ren := ⟨fun | 316 => 89 | n => n, fun | 9 => 9 | 3 => 3 | 4 => 4 | 37 => 100 | 0 => 0 | 127 => 132 | 5 => 5 | n => n, fun | n => n⟩
theorem sh_laysM316 : Go.Proofs.LaysM.n316 Tryz.prog sh_laysM316_ren := {
 mixed := by kernel_rfl
 f316 := Tryz.func89.trans (congrArg some (by kernel_rfl))
 t0 := Tryz.underlying0
 a0 := Tryz.isAgg0
 z0 := Tryz.sizeOf0
 v0 := Tryz.zeroValue0
 t3 := Tryz.underlying3
 a3 := Tryz.isAgg3
 z3 := Tryz.sizeOf3
 v3 := Tryz.zeroValue3
 t4 := Tryz.underlying4
 a4 := Tryz.isAgg4
 z4 := Tryz.sizeOf4
 v4 := Tryz.zeroValue4
 t9 := Tryz.underlying9
 a9 := Tryz.isAgg9
 z9 := Tryz.sizeOf9
 v9 := Tryz.zeroValue9
 t37 := Tryz.underlying100
 a37 := Tryz.isAgg100
 z37 := Tryz.sizeOf100
 v37 := Tryz.zeroValue100
 t127 := Tryz.underlying132
 a127 := Tryz.isAgg132
 z127 := Tryz.sizeOf132
 v127 := Tryz.zeroValue132
 t5 := Tryz.underlying5
 a5 := Tryz.isAgg5
 z5 := Tryz.sizeOf5
 v5 := Tryz.zeroValue5
 i0 := by kernel_rfl
 i3 := by kernel_rfl
 i4 := by kernel_rfl
 i5 := by kernel_rfl
 i9 := by kernel_rfl
 i37 := by kernel_rfl
 i127 := by kernel_rfl }
theorem sh_stringslite_Clone (s : ByteArray) (w : World) (hlim : s.size ≤ 281474976710656) :
  Calls Tryz.prog 89 #[.string s] w fun e w' => e = .returned (.string s) ∧ Below w.heap.size w w' := Any.stringslite_Clone sh_laysM316 s w hlim
set_option maxRecDepth 100000 in
set_option maxHeartbeats 800000 in
theorem clone_any (s : ByteArray) (w : World) (hs : s.size ≤ 1048576) :
  Calls Tryz.prog 77 #[.string s] w fun e w' => e = .returned (.string s) ∧ Below w.heap.size w w' := by
 go_enter Tryz.func77, Tryz.ntmps77
 go_wp2_with fail
 refine (sh_stringslite_Clone s _ (by omega)).mono ?_
 rintro e w1 ⟨rfl, b1⟩
 go_wp2
 go_ret
 exact ⟨rfl, b1⟩
end Go.Proofs.YtknckbedddeijaaGreat
namespace Go.Proofs.YtknckbedddeijaaGreat
open Go.RowKit
set_option linter.unusedVariables false
/-- The panic of a cursor. -/
def Lack (e : Ending) : Prop := ∃ pv : Value, e = .panicked [{ v := .iface 9 pv, recovered := false }]
/-- The cursor in block b stands ahead of q. -/
structure CurAt (w : World) (b : Nat) (q : ByteArray) : Prop where
 lt : b < w.heap.size
 cell : w.cell? ⟨b, 0, none⟩ = some (.string q)
 fro : w.frozen? ⟨b, 0, none⟩ = false
set_option maxRecDepth 100000 in
set_option maxHeartbeats 800000 in
theorem number_any (b : Nat) (q : ByteArray) (w : World) (hc : CurAt w b q) (hs : q.size ≤ 1048576) :
  Calls Tryz.prog 47 #[.pointer (some ⟨b, 0, none⟩)] w fun e w' =>
   (∃ (x : Nat) (q' : ByteArray), e = .returned (.int .i64 x) ∧ Num q.data.toList x q'.data.toList ∧ w' = w.setCell ⟨b, 0, none⟩ (.string q')) ∨ (Lack e ∧ (∀ x r, ¬ Num q.data.toList x r) ∧ w' = w) := by
 obtain ⟨hlt, hcell, hfro⟩ := hc
 go_enter Tryz.func47, Tryz.ntmps47
 go_wp2_with fail
 refine (implReadVar_any q _ hs).mono ?_
 rintro e w1 ⟨x, k, rfl, hrv, rfl⟩
 have HR := Hid.intro hrv
 have hk : k ≤ q.size := by
  rcases hrv with ⟨_, _, h, _⟩ | ⟨_, h, _⟩
  ·simpa using h
  ·omega
 clear hrv
 by_cases h0 : k = 0
 ·subst h0
  go_wp2
  first | exact ⟨rfl, .inr ⟨⟨_, rfl⟩, rv_none_num HR.out, rfl⟩⟩ | exact .inr ⟨⟨_, rfl⟩, rv_none_num HR.out, rfl⟩ | (simp [bodyPost]; exact .inr ⟨⟨_, rfl⟩, rv_none_num HR.out, rfl⟩)
 ·have h0' : ((k : Int) == 0) = false := by simp; omega
  have h1 : (0 : Int) ≤ (k : Int) ∧ (k : Int) ≤ (q.size : Int) := by omega
  go_wp2
  go_ret
  exact .inl ⟨x, q.extract k q.size, rfl, by rw [extract_toList]; exact num_of_rv HR.out (by omega), rfl⟩
theorem lack_bytes {q : ByteArray} {n : Nat} (h : ¬ n ≤ q.size) : ¬ n ≤ q.data.toList.length := by simpa using h
set_option maxRecDepth 100000 in
set_option maxHeartbeats 800000 in
theorem bytes_any (b : Nat) (q : ByteArray) (n : Nat) (w : World) (hc : CurAt w b q) (hs : q.size ≤ 1048576) :
  Calls Tryz.prog 62 #[.pointer (some ⟨b, 0, none⟩), .int .i64 (n : Nat)] w fun e w' =>
   (∃ (w1 : World), n ≤ q.size ∧ e = .returned (.string (q.extract 0 n)) ∧ Below w.heap.size w w1 ∧ w' = w1.setCell ⟨b, 0, none⟩ (.string (q.extract n q.size))) ∨ (Lack e ∧ ¬ n ≤ q.size ∧ w' = w) := by
 obtain ⟨hlt, hcell, hfro⟩ := hc
 by_cases hn : n ≤ q.size
 ·have hn1 : ¬ (q.size : Int) < (n : Int) := by omega
  have h1 : (0 : Int) ≤ (n : Int) ∧ (n : Int) ≤ (q.size : Int) := by omega
  go_enter Tryz.func62, Tryz.ntmps62
  go_wp2_with fail
  refine (clone_any (q.extract 0 n) _ (by simp; omega)).mono ?_
  rintro e w1 ⟨rfl, b1⟩
  have c1 := (b1.cell (p := ⟨b, 0, none⟩) hlt).trans hcell
  have f1 := (b1.frozen (p := ⟨b, 0, none⟩) hlt).trans hfro
  clear hcell hfro
  go_wp2
  go_ret
  exact .inl ⟨w1, hn, rfl, b1, rfl⟩
 ·have hn1 : (q.size : Int) < (n : Int) := by omega
  go_enter Tryz.func62, Tryz.ntmps62
  go_wp2
  first | exact ⟨rfl, .inr ⟨⟨_, rfl⟩, hn, rfl⟩⟩ | exact .inr ⟨⟨_, rfl⟩, hn, rfl⟩ | (simp [bodyPost]; exact .inr ⟨⟨_, rfl⟩, hn, rfl⟩)
theorem CurAt.set {w : World} {b : Nat} {q q' : ByteArray} (h : CurAt w b q) : CurAt (w.setCell ⟨b, 0, none⟩ (.string q')) b q' := by
 obtain ⟨h1, h2, h3⟩ := h
 refine ⟨by simpa using h1, ?_, ?_⟩
 ·rw [World.cell?_setCell_same _ _ _ h2]
 ·rw [World.frozen?_setCell]; exact h3
theorem CurAt.kept {w w' : World} {b : Nat} {q : ByteArray} (h : CurAt w b q) (hb : Below w.heap.size w w') : CurAt w' b q :=
 ⟨Nat.lt_of_lt_of_le h.lt hb.size, (hb.cell (p := ⟨b, 0, none⟩) h.lt).trans h.cell, (hb.frozen (p := ⟨b, 0, none⟩) h.lt).trans h.fro⟩
theorem CurAt.inB {w : World} {b : Nat} {q q' : ByteArray} (h : CurAt w b q) : Below b w (w.setCell ⟨b, 0, none⟩ (.string q')) := (Below.refl b w).setCell (p := ⟨b, 0, none⟩) (Nat.le_refl _) _
end Go.Proofs.YtknckbedddeijaaGreat
namespace Go.Proofs.YtknckbedddeijaaGreat
open Go.RowKit
set_option linter.unusedVariables false
/-- A call. -/
structure Ca where
 k : Int
 p : ByteArray
 to : ByteArray
 n : Int
 m : Int
 d : ByteArray
def caC (c : Ca) : List Value := [.int .i64 c.k, .string c.p, .string c.to, .int .i64 c.n, .int .i64 c.m, .string c.d]
@[reducible] def caV (c : Ca) : Value := .agg #[.int .i64 c.k, .string c.p, .string c.to, .int .i64 c.n, .int .i64 c.m, .string c.d]
def callP (c : Ca) : Prop := ((1 ≤ c.k ∧ c.k ≤ 22) ∧ c.p.size ≤ 60 ∧ c.to.size ≤ 60 ∧ c.d.size ≤ 64 ∧ (-1000000 ≤ c.n ∧ c.n ≤ 1000000) ∧ (-1000000 ≤ c.m ∧ c.m ≤ 1000000)) ∧ (c.to.size = 0 ∨ c.k = 9 ∨ c.k = 10 ∨ c.k = 12) ∧ (c.d.size = 0 ∨ c.k = 5 ∨ c.k = 6)
instance (c : Ca) : Decidable (callP c) := by unfold callP; infer_instance
def callB (c : Ca) : Bool := decide (callP c)
theorem toList_go (s : ByteArray) : s.toList = s.data.toList := by rw [ByteArray.toList_eq]
theorem empty_of {d : ByteArray} (h : d.size = 0) : d = ⟨#[]⟩ := by
 obtain ⟨a⟩ := d
 congr
 exact Array.eq_empty_of_size_eq_zero h
theorem bs_mt {d : ByteArray} (h : d.size = 0) : d.toList.isEmpty = true := by rw [empty_of h, toList_go]; rfl
theorem size_of_nil {d : ByteArray} (h : d.toList = []) : d.size = 0 := by
 rw [toList_go] at h
 have := congrArg List.length h
 simpa using this
theorem bs_ne {d : ByteArray} (h : ¬ d.size = 0) : d.toList.isEmpty = false := by
 cases h2 : d.toList.isEmpty with
 | true => exact absurd (size_of_nil (List.isEmpty_iff.1 h2)) h
 | false => rfl
theorem callB_iff (c : Ca) : callB c = true ↔ callP c := decide_eq_true_iff
theorem callB_yes {c : Ca} (h : callP c) : true = callB c := ((callB_iff c).2 h).symm
theorem callB_no {c : Ca} (h : ¬ callP c) : false = callB c := by
 cases hb : callB c with
 | false => rfl
 | true => exact absurd ((callB_iff c).1 hb) h
end Go.Proofs.YtknckbedddeijaaGreat
namespace Go.Proofs.YtknckbedddeijaaGreat
open Go.RowKit Go.Shelf
set_option linter.unusedVariables false
/-- All blocks of cells but b and but rows of bytes stand as they stood. -/
def Kept8 (b : Nat) (w w' : World) : Prop := ∀ k cs T fr, k ≠ b → T ≠ 5 → w.heap[k]? = some (.cells cs T fr) → w'.heap[k]? = some (.cells cs T fr)
theorem Kept8.set {b : Nat} {w w' : World} (h : Kept8 b w w') (o : Nat) (v : Value) : Kept8 b w (w'.setCell ⟨b, o, none⟩ v) := fun k cs T fr hk hT hc => (Below.heap_setCell _ _ _ _ hk).trans (h k cs T fr hk hT hc)
theorem Tryz.infoU8b : (Tryz.prog.info? 5).map (fun i => (i.zero, i.size, i.bytes)) = some (some (.int .u8 0), 1, 1) := by kernel_rfl
theorem bytesCells_app (l : List UInt8) (s : ByteArray) : Lib.byteCells l ++ Lib.strCells s = Lib.byteCells (l ++ s.data.toList) := by
 simp [Lib.byteCells, Lib.strCells]
end Go.Proofs.YtknckbedddeijaaGreat
namespace Go.Proofs.YtknckbedddeijaaGreat
open Go.RowKit
set_option linter.unusedVariables false
/-- A text behind its length. -/
def piece (s : ByteArray) : ByteArray := varS s.size ++ s
theorem piece_le (s : ByteArray) : (piece s).size ≤ s.size + 7 := by
 have := varS_le s.size
 simp only [piece, ByteArray.size_append]; omega
/-- A number that may be below 0, laid between the others. -/
def foldN (n : Int) : Nat := if n < 0 then (-2 * n - 1).toNat else (2 * n).toNat
theorem foldN_neg {n : Int} (h : n < 0) : (foldN n : Int) = -2 * n - 1 := by rw [foldN, if_pos h]; omega
theorem foldN_pos {n : Int} (h : ¬ n < 0) : (foldN n : Int) = 2 * n := by rw [foldN, if_neg h]; omega
theorem foldN_le {n : Int} (h : -1000000 ≤ n ∧ n ≤ 1000000) : foldN n ≤ 562949953421311 := by
 rw [foldN]; split <;> omega
set_option maxRecDepth 100000 in
set_option maxHeartbeats 800000 in
theorem specPiece_any (s : ByteArray) (w : World) (hs : s.size ≤ 1048576) :
  Calls Tryz.prog 27 #[.string s] w fun e w' => e = .returned (.string (piece s)) ∧ Below w.heap.size w w' := by
 have hv := varS_le s.size
 go_enter Tryz.func27, Tryz.ntmps27
 go_wp2_with (go_at_call 43; refine (specVar_yes s.size _ (by omega)).mono ?_; rintro e w2 ⟨rfl, b2⟩)
 go_ret
 exact ⟨rfl, b2⟩
/-- A row of numbers as a text. -/
def varsL (L : List Nat) : List UInt8 := L.flatMap varL
theorem varsL_snoc (L : List Nat) (j : Nat) (h : j < L.length) : varsL (L.take j) ++ varL L[j] = varsL (L.take (j + 1)) := by
 rw [List.take_succ_eq_append_getElem h]
 unfold varsL
 rw [List.flatMap_append]
 congr 1
 simp only [List.flatMap_cons, List.flatMap_nil, List.append_nil]
theorem varL_le (n : Nat) : (varL n).length ≤ 7 := (vby_length 6 n).2
theorem varsL_le (L : List Nat) : (varsL L).length ≤ 7 * L.length := by
 induction L with
 | nil => simp [varsL]
 | cons a L ih =>
  have := varL_le a
  simp only [varsL, List.flatMap_cons, List.length_append, List.length_cons] at ih ⊢
  omega
end Go.Proofs.YtknckbedddeijaaGreat
namespace Go.Proofs.YtknckbedddeijaaGreat
open Go.RowKit
set_option linter.unusedVariables false
theorem take1 {P : Program} {md : Region.Mode} {ops : Array Oper} {Q : Exit → Act → World → Prop} {S : World → Prop} {i : Nat} {oi : Oper} {d : Option Nat} {v : Value} {fuel : Nat} {listed : Array Bool} {a : Act} {w : World} (hi : ops[i]? = some oi) (hd : oi.dst = d)
  (hs : Region.noSelect ops = true) (hf : Region.free md ops listed i = true) (hr : (Region.ready md ops listed).contains i = true)
  (hQ : ∀ c a w, Q (.panic c) (a.put oi.dst v) w → Q (.panic c) a w) (hy : YieldsIf P ops S oi v a) (hS : S w)
  (h : wpAnyH P md ops Q S fuel (listed.setIfInBounds i true) (a.put d v) w) : wpAnyH P md ops Q S (fuel + 1) listed a w := by
 subst hd
 exact wpAnyH_take hi hs hf hr hQ hy hS h
theorem tkk {P : Program} {md : Region.Mode} {ops : Array Oper} {Q : Exit → Act → World → Prop} {S : World → Prop} {v : Value} {fuel : Nat} {listed : Array Bool} {a : Act} {w : World} (i d : Nat) {oi : Oper}
  (hy : ∀ w, S w → (execOp a.eval oi).run P w = .ok (.value v) w) (h : wpAnyH P md ops Q S fuel (listed.setIfInBounds i true) (a.put (some d) v) w) (hi : ops[i]? = some oi := by rfl) (hd : oi.dst = some d := by rfl)
  (hs : Region.noSelect ops = true := by kernel_rfl) (hf : Region.free md ops listed i = true := by kernel_rfl) (hr : (Region.ready md ops listed).contains i = true := by kernel_rfl)
  (hQ : ∀ c a w, Q (.panic c) (a.put oi.dst v) w → Q (.panic c) a w := by exact fun _ _ _ h => h) (hw : Region.wanted oi (yielded ops a.tmps) = true := by rfl) (hS : S w := by assumption) : wpAnyH P md ops Q S (fuel + 1) listed a w :=
 take1 hi hd hs hf hr hQ (Or.inl ⟨hw, hy⟩) hS h
theorem skk {P : Program} {md : Region.Mode} {ops : Array Oper} {Q : Exit → Act → World → Prop} {S : World → Prop} {fuel : Nat} {listed : Array Bool} {a : Act} {w : World} (i d : Nat) {oi : Oper}
  (h : wpAnyH P md ops Q S fuel (listed.setIfInBounds i true) (a.put (some d) undef) w) (hi : ops[i]? = some oi := by rfl) (hd : oi.dst = some d := by rfl)
  (hs : Region.noSelect ops = true := by kernel_rfl) (hf : Region.free md ops listed i = true := by kernel_rfl) (hr : (Region.ready md ops listed).contains i = true := by kernel_rfl)
  (hQ : ∀ c a w, Q (.panic c) (a.put oi.dst undef) w → Q (.panic c) a w := by exact fun _ _ _ h => h) (hw : Region.wanted oi (yielded ops a.tmps) = false := by rfl) (hS : S w := by assumption) : wpAnyH P md ops Q S (fuel + 1) listed a w :=
 take1 hi hd hs hf hr hQ (Or.inr ⟨hw, rfl⟩) hS h
end Go.Proofs.YtknckbedddeijaaGreat
namespace Go.Proofs.YtknckbedddeijaaGreat
open Go.RowKit
set_option linter.unusedVariables false
/-- What is shown of a call. -/
def shC (c : Ca) : ByteArray := if callP c then varS c.k.toNat ++ piece c.p ++ piece c.to ++ varS (foldN c.n) ++ varS (foldN c.m) ++ piece c.d else ByteArray.empty
theorem shC_yes {c : Ca} (h : callP c) : shC c = varS c.k.toNat ++ piece c.p ++ piece c.to ++ varS (foldN c.n) ++ varS (foldN c.m) ++ piece c.d := if_pos h
theorem shC_no {c : Ca} (h : ¬ callP c) : shC c = ByteArray.empty := if_neg h
theorem stepB {w a b : World} (h : Below w.heap.size w a) (k : Below a.heap.size a b) : Below w.heap.size w b := h.trans (k.mono h.size)
def SC (n : Nat) (p to : ByteArray) (x y : Int) (d : ByteArray) (b : Nat) (w' : World) : Prop := w'.cell? ⟨b, 0, none⟩ = some (.int .i64 n) ∧ w'.cell? ⟨b, 1, none⟩ = some (.string p) ∧ w'.cell? ⟨b, 2, none⟩ = some (.string to) ∧ w'.cell? ⟨b, 3, none⟩ = some (.int .i64 x) ∧ w'.cell? ⟨b, 4, none⟩ = some (.int .i64 y) ∧ w'.cell? ⟨b, 5, none⟩ = some (.string d)
theorem two_vars (a b : Nat) : (⟨(varsL [a, b]).toArray⟩ : ByteArray) = varS a ++ varS b := by
 unfold varS
 show _ = (ByteArray.mk (varL a).toArray ++ ByteArray.mk (varL b).toArray)
 rw [ByteArray.mk_append_mk]
 congr 1
 simp [varsL]
theorem varsL2_le (a b : Nat) : (⟨(varsL [a, b]).toArray⟩ : ByteArray).size ≤ 14 := by
 have h1 := varS_le a
 have h2 := varS_le b
 rw [two_vars, ByteArray.size_append]; omega
theorem two_at {a b : Nat} (p : Nat → Prop) (ha : p a) (hb : p b) (j : Nat) (h : j < [a, b].length) : p [a, b][j] := by
 match j, h with
 | 0, _ => exact ha
 | 1, _ => exact hb
theorem two_cells {w : World} {g : Nat} {a b : Nat} (hc : ∀ o, w.cell? ⟨g, o, none⟩ = #[Value.int .i64 (a : Nat), .int .i64 (b : Nat)][o]?) (j : Nat) (h : j < [a, b].length) : w.cell? ⟨g, 0 + j, none⟩ = some (.int .i64 ([a, b][j] : Nat)) := by
 rw [Nat.zero_add, hc]
 match j, h with
 | 0, _ => rfl
 | 1, _ => rfl
end Go.Proofs.YtknckbedddeijaaGreat
namespace Go.Proofs.YtknckbedddeijaaGreat
open Go.RowKit
/-- The number that is laid at z. -/
def unfoldI (z : Nat) : Int := if z % 2 = 1 then -(((z : Int) + 1) / 2) else (z : Int) / 2
theorem fold_unfold (z : Nat) : foldN (unfoldI z) = z := by
 unfold unfoldI foldN
 split <;> split <;> omega
/-- What a call is made of. -/
structure Cn where
 k : Nat
 p : List UInt8
 to : List UInt8
 n : Nat
 m : Nat
 d : List UInt8
def caOf (c : Cn) : Ca := ⟨c.k, ⟨c.p.toArray⟩, ⟨c.to.toArray⟩, unfoldI c.n, unfoldI c.m, ⟨c.d.toArray⟩⟩
/-- A call at the front, and what is left. -/
noncomputable def callO (l : List UInt8) : Option (Cn × List UInt8) :=
 (numO l).bind fun a => (pieO a.2).bind fun b => (pieO b.2).bind fun c => (numO c.2).bind fun d => (numO d.2).bind fun e => (pieO e.2).bind fun f => some (⟨a.1, b.1, c.1, d.1, e.1, f.1⟩, f.2)
theorem ob_any {b : Nat} {w w' : World} (h : Below w.heap.size w w') : Only (fun k => k = b) w w' := Below.any h
theorem ob_set (b : Nat) (w : World) (v : Value) : Only (fun k => k = b) w (w.setCell ⟨b, 0, none⟩ v) := (Only.refl (fun k => k = b) w).setCell (p := ⟨b, 0, none⟩) rfl v
theorem CurAt.only {w w' : World} {b : Nat} {q : ByteArray} {S : Nat → Prop} (h : CurAt w b q) (ho : Only S w w') (hs : ¬ S b) : CurAt w' b q :=
 ⟨Nat.lt_of_lt_of_le h.lt ho.size, (ho.cell h.lt hs).trans h.cell, (ho.frozen h.lt hs).trans h.fro⟩
theorem set6_only (g : Nat) (w : World) (a b c d e f : Value) : Only (fun x => x = g) w ((((((w.setCell ⟨g, 0, none⟩ a).setCell ⟨g, 1, none⟩ b).setCell ⟨g, 2, none⟩ c).setCell ⟨g, 3, none⟩ d).setCell ⟨g, 4, none⟩ e).setCell ⟨g, 5, none⟩ f) :=
 ((((((Only.refl (fun x => x = g) w).setCell (p := ⟨g, 0, none⟩) rfl a).setCell (p := ⟨g, 1, none⟩) rfl b).setCell (p := ⟨g, 2, none⟩) rfl c).setCell (p := ⟨g, 3, none⟩) rfl d).setCell (p := ⟨g, 4, none⟩) rfl e).setCell (p := ⟨g, 5, none⟩) rfl f
theorem num_size {q q' : ByteArray} {x : Nat} (h : Num q.data.toList x q'.data.toList) (hs : q.size ≤ 1048576) : q'.size ≤ 1048576 := by
 have hl : q'.size < q.size := by simpa using num_le h
 omega
theorem ba_of (s : ByteArray) : (⟨s.data.toList.toArray⟩ : ByteArray) = s := by
 obtain ⟨⟨l⟩⟩ := s
 rfl
set_option linter.unusedVariables false
set_option maxRecDepth 100000 in
set_option maxHeartbeats 800000 in
theorem pieceC_any (b : Nat) (q : ByteArray) (w : World) (hc : CurAt w b q) (hs : q.size ≤ 1048576) :
  Calls Tryz.prog 44 #[.pointer (some ⟨b, 0, none⟩)] w fun e w' =>
   (∃ (p q' : ByteArray), e = .returned (.string p) ∧ Hid (pieO q.data.toList = some (p.data.toList, q'.data.toList)) ∧ CurAt w' b q' ∧ q'.size ≤ 1048576 ∧ Only (fun k => k = b) w w') ∨ (Lack e ∧ Hid (pieO q.data.toList = none) ∧ Only (fun k => k = b) w w') := by
 have hlt := hc.lt
 go_enter Tryz.func44, Tryz.ntmps44
 go_wp2_with fail
 refine (number_any b q _ hc hs).mono ?_
 rintro e w1 (⟨x, q1, rfl, hn, rfl⟩ | ⟨⟨pv, rfl⟩, hn, rfl⟩)
 ·have HN := Hid.intro hn
  have hl : q1.size < q.size := by simpa using num_le hn
  have c1 : CurAt (w.setCell ⟨b, 0, none⟩ (.string q1)) b q1 := hc.set
  have b1 : Only (fun k => k = b) w (w.setCell ⟨b, 0, none⟩ (.string q1)) := ob_set _ _ _
  generalize w.setCell ⟨b, 0, none⟩ (.string q1) = w1 at c1 b1 ⊢
  clear hn hc
  go_wp2_with fail
  refine (bytes_any b q1 x _ c1 (by omega)).mono ?_
  rintro e w2 (⟨w3, hx, rfl, b3, rfl⟩ | ⟨⟨pv, rfl⟩, hx, rfl⟩)
  ·have c3 : CurAt (w3.setCell ⟨b, 0, none⟩ (.string (q1.extract x q1.size))) b (q1.extract x q1.size) := (c1.kept b3).set
   have b4 : Only (fun k => k = b) w (w3.setCell ⟨b, 0, none⟩ (.string (q1.extract x q1.size))) := (b1.trans (ob_any b3)).trans (ob_set _ _ _)
   have hz : (q1.extract x q1.size).size ≤ 1048576 := by simp; omega
   have HP : Hid (pieO q.data.toList = some ((q1.extract 0 x).data.toList, (q1.extract x q1.size).data.toList)) := by
    rw [extract_toList, extract0_toList]
    exact pieO_yes (pie_of HN.out (by simpa using hx))
   clear c1 b1 b3 HN
   go_wp2
   go_ret
   exact .inl ⟨_, _, rfl, HP, c3, hz, b4⟩
  ·have HP : Hid (pieO q.data.toList = none) := pieO_no (no_pie_short HN.out (by simpa using hx))
   clear HN
   go_wp2
   exact ⟨rfl, .inr ⟨⟨_, rfl⟩, HP, b1⟩⟩
 ·have HP : Hid (pieO q.data.toList = none) := pieO_no (no_pie_num hn)
  clear hn
  go_wp2
  exact ⟨rfl, .inr ⟨⟨_, rfl⟩, HP, Only.refl _ _⟩⟩
/-- What a cursor's call hands back. -/
def CallC (b : Nat) (q : ByteArray) (w : World) (e : Ending) (w' : World) : Prop :=
 (∃ (c : Cn) (q' : ByteArray), e = .returned (caV (caOf c)) ∧ Hid (callO q.data.toList = some (c, q'.data.toList)) ∧ CurAt w' b q' ∧ Only (fun k => k = b) w w') ∨ (Lack e ∧ Hid (callO q.data.toList = none) ∧ Only (fun k => k = b) w w')
end Go.Proofs.YtknckbedddeijaaGreat
