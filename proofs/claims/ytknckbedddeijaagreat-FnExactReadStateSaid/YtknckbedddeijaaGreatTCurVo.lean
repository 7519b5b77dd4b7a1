/- A cursor's volume. -/
import Derived.Test.YtknckbedddeijaaGreatTCurP
import Derived.Laws.OwnMore
import Derived.Deep.AppendLies
import Derived.Deep.Cut
import Derived.Deep.RegionWith
import Derived.OwnWalk
import Derived.RegionTactic
import Derived.ChangeAlike
namespace Go.Proofs.YtknckbedddeijaaGreat
open Go.RowKit
set_option linter.unusedVariables false
/-- The place of an inode. -/
def atN (L : List Nd) (id : Int) : Option Nat := L.findIdx? (fun n => decide (n.id = id))
theorem atN_some {L : List Nd} {id : Int} {i : Nat} : atN L id = some i ↔ ∃ h : i < L.length, L[i].id = id ∧ ∀ j (hj : j < i), ¬ (L[j]'(by omega)).id = id := by
 unfold atN
 rw [List.findIdx?_eq_some_iff_getElem]
 simp
theorem atN_none {L : List Nd} {id : Int} : atN L id = none ↔ ∀ n ∈ L, ¬ n.id = id := by
 unfold atN
 rw [List.findIdx?_eq_none_iff]
 simp
theorem atN_lt {L : List Nd} {id : Int} {i : Nat} (h : atN L id = some i) : i < L.length := (atN_some.1 h).1
/-- A name of i leads to x. -/
def Edge (L : List Nd) (i x : Nat) : Prop := ∃ n e, L[i]? = some n ∧ e ∈ n.names ∧ atN L e.id = some x
/-- x is below i. -/
inductive Reach (L : List Nd) (i : Nat) : Nat → Prop
 | one {x : Nat} : Edge L i x → Reach L i x
 | more {x y : Nat} : Reach L i x → Edge L x y → Reach L i y
theorem Edge.lt {L : List Nd} {i x : Nat} (h : Edge L i x) : x < L.length := by
 obtain ⟨n, e, _, _, h⟩ := h
 exact atN_lt h
theorem Reach.lt {L : List Nd} {i x : Nat} (h : Reach L i x) : x < L.length := by
 cases h with
 | one h => exact h.lt
 | more _ h => exact h.lt
/-! The sentence's way: sweeps. -/
def isT (s : List Bool) (x : Nat) : Prop := s[x]? = some true
def markB (L : List Nd) (s : List Bool) (e : Di) : List Bool := match atN L e.id with | some x => s.set x true | none => s
def opB (a : Nat) (s : List Bool) (i : Nat) : Prop := i = a ∨ isT s i
instance (a : Nat) (s : List Bool) (i : Nat) : Decidable (opB a s i) := inferInstanceAs (Decidable (_ ∨ _ = _))
def lookB (L : List Nd) (a : Nat) (s : List Bool) (i : Nat) : List Bool := if opB a s i then ((L[i]?.map Nd.names).getD []).foldl (markB L) s else s
def sweepB (L : List Nd) (a : Nat) (s : List Bool) : List Bool := (List.range L.length).foldl (lookB L a) s
def timesB (L : List Nd) (a : Nat) : Nat → List Bool
 | 0 => List.replicate L.length false
 | k + 1 => sweepB L a (timesB L a k)
def belowB (L : List Nd) (a : Nat) : List Bool := timesB L a L.length
/-- s lies within t. -/
def Sub (s t : List Bool) : Prop := s.length = t.length ∧ ∀ x, isT s x → isT t x
theorem Sub.refl (s : List Bool) : Sub s s := ⟨rfl, fun _ h => h⟩
theorem Sub.trans {s t u : List Bool} (h : Sub s t) (k : Sub t u) : Sub s u := ⟨h.1.trans k.1, fun x hx => k.2 x (h.2 x hx)⟩
theorem Sub.anti {s t : List Bool} (h : Sub s t) (k : Sub t s) : s = t := by
 apply List.ext_getElem?
 intro x
 by_cases hx : x < s.length
 ·have hy : x < t.length := by rw [← h.1]; exact hx
  have h1 := h.2 x
  have h2 := k.2 x
  unfold isT at h1 h2
  rw [List.getElem?_eq_getElem hx, List.getElem?_eq_getElem hy] at *
  simp only [Option.some.injEq] at *
  cases hs : s[x] <;> cases ht : t[x] <;> simp_all
 ·rw [List.getElem?_eq_none (by omega), List.getElem?_eq_none (by rw [← h.1]; omega)]
theorem isT_set {s : List Bool} {x y : Nat} : isT (s.set x true) y ↔ (x = y ∧ x < s.length) ∨ isT s y := by
 unfold isT
 rw [List.getElem?_set]
 by_cases h : x = y
 ·subst h
  by_cases hx : x < s.length
  ·simp [hx]
  ·simp [hx]
 ·simp [h]
theorem Sub.set (s : List Bool) (x : Nat) : Sub s (s.set x true) := ⟨by simp, fun y h => isT_set.2 (.inr h)⟩
theorem markB_sub (L : List Nd) (s : List Bool) (e : Di) : Sub s (markB L s e) := by
 unfold markB
 split
 ·exact Sub.set _ _
 ·exact Sub.refl _
theorem fold_sub {α : Type} {f : List Bool → α → List Bool} (hf : ∀ s a, Sub s (f s a)) (l : List α) : ∀ s, Sub s (l.foldl f s) := by
 induction l with
 | nil => intro s; exact Sub.refl _
 | cons a l ih => intro s; exact (hf s a).trans (ih _)
theorem lookB_sub (L : List Nd) (a : Nat) (s : List Bool) (i : Nat) : Sub s (lookB L a s i) := by
 unfold lookB
 split
 ·exact fold_sub (markB_sub L) _ _
 ·exact Sub.refl _
theorem sweepB_sub (L : List Nd) (a : Nat) (s : List Bool) : Sub s (sweepB L a s) := fold_sub (lookB_sub L a) _ _
theorem timesB_len (L : List Nd) (a k : Nat) : (timesB L a k).length = L.length := by
 induction k with
 | zero => simp [timesB]
 | succ k ih => rw [timesB, ← (sweepB_sub L a _).1, ih]
/-- All that is marked is below a. -/
def SoundB (L : List Nd) (a : Nat) (s : List Bool) : Prop := ∀ x, isT s x → Reach L a x
theorem markB_isT {L : List Nd} {s : List Bool} {e : Di} {x : Nat} (h : isT (markB L s e) x) : atN L e.id = some x ∨ isT s x := by
 unfold markB at h
 split at h
 ·rename_i y hy
  rcases isT_set.1 h with ⟨rfl, _⟩ | h
  ·exact .inl hy
  ·exact .inr h
 ·exact .inr h
theorem markB_has {L : List Nd} {s : List Bool} {e : Di} {x : Nat} (hs : s.length = L.length) (h : atN L e.id = some x) : isT (markB L s e) x := by
 unfold markB
 rw [h]
 exact isT_set.2 (.inl ⟨rfl, by rw [hs]; exact atN_lt h⟩)
theorem names_isT {L : List Nd} (l : List Di) : ∀ {s : List Bool} {x : Nat}, isT (l.foldl (markB L) s) x → (∃ e ∈ l, atN L e.id = some x) ∨ isT s x := by
 induction l with
 | nil => intro s x h; exact .inr h
 | cons e l ih =>
  intro s x h
  rcases ih h with ⟨e', he, hx⟩ | h
  ·exact .inl ⟨e', List.mem_cons_of_mem _ he, hx⟩
  ·rcases markB_isT h with h | h
   ·exact .inl ⟨e, by simp, h⟩
   ·exact .inr h
theorem names_has {L : List Nd} (l : List Di) : ∀ {s : List Bool} {e : Di} {x : Nat}, s.length = L.length → e ∈ l → atN L e.id = some x → isT (l.foldl (markB L) s) x := by
 induction l with
 | nil => intro s e x _ h; cases h
 | cons d l ih =>
  intro s e x hs he hx
  rcases List.mem_cons.1 he with rfl | he
  ·exact (fold_sub (markB_sub L) l _).2 x (markB_has hs hx)
  ·exact ih ((markB_sub L s d).1.symm.trans hs) he hx
theorem lookB_sound {L : List Nd} {a i : Nat} {s : List Bool} (h : SoundB L a s) : SoundB L a (lookB L a s i) := by
 unfold lookB
 split
 ·rename_i ho
  intro x hx
  rcases names_isT _ hx with ⟨e, he, hx⟩ | hx
  ·cases hn : L[i]? with
   | none => rw [hn] at he; simp at he
   | some n =>
    rw [hn] at he
    have hE : Edge L i x := ⟨n, e, hn, by simpa using he, hx⟩
    rcases ho with rfl | ho
    ·exact .one hE
    ·exact .more (h i ho) hE
  ·exact h x hx
 ·exact h
theorem fold_sound {L : List Nd} {a : Nat} (l : List Nat) : ∀ {s : List Bool}, SoundB L a s → SoundB L a (l.foldl (lookB L a) s) := by
 induction l with
 | nil => intro s h; exact h
 | cons i l ih => intro s h; exact ih (lookB_sound h)
theorem timesB_sound (L : List Nd) (a k : Nat) : SoundB L a (timesB L a k) := by
 induction k with
 | zero =>
  intro x hx
  unfold isT timesB at hx
  rw [List.getElem?_replicate] at hx
  split at hx <;> simp at hx
 | succ k ih => exact fold_sound _ ih
/-- What an open one leads to is marked. -/
def ShutB (L : List Nd) (a : Nat) (s : List Bool) : Prop := ∀ i x, opB a s i → Edge L i x → isT s x
theorem fold_same {L : List Nd} {a : Nat} (l : List Nat) : ∀ {s : List Bool}, s.length = L.length → l.foldl (lookB L a) s = s → ∀ i ∈ l, ∀ x, opB a s i → Edge L i x → isT s x := by
 induction l with
 | nil => intro s _ _ i hi; cases hi
 | cons j l ih =>
  intro s hs h i hi x ho hE
  have h1 := lookB_sub L a s j
  have h2 := fold_sub (lookB_sub L a) l (lookB L a s j)
  rw [List.foldl_cons] at h
  have e1 : s = lookB L a s j := h1.anti (by rw [h] at h2; exact h2)
  rcases List.mem_cons.1 hi with rfl | hi
  ·obtain ⟨n, e, hn, he, hx⟩ := hE
   have h3 := names_has (L := L) n.names (s := s) hs he hx
   rw [e1, lookB, if_pos ho, hn]
   exact h3
  ·rw [← e1] at h
   exact ih hs h i hi x ho hE
theorem shut_of_same {L : List Nd} {a : Nat} {s : List Bool} (hs : s.length = L.length) (h : sweepB L a s = s) : ShutB L a s := by
 intro i x ho hE
 have hi : i < L.length := by
  obtain ⟨n, e, hn, _⟩ := hE
  exact (List.getElem?_eq_some_iff.1 hn).1
 exact fold_same _ hs h i (List.mem_range.2 hi) x ho hE
theorem names_shut {L : List Nd} (l : List Di) {s : List Bool} (h : ∀ e ∈ l, ∀ x, atN L e.id = some x → isT s x) : l.foldl (markB L) s = s := by
 induction l with
 | nil => rfl
 | cons e l ih =>
  have h1 : markB L s e = s := by
   unfold markB
   split
   ·rename_i x hx
    refine Sub.anti ⟨by simp, fun y hy => ?_⟩ (Sub.set _ _)
    rcases isT_set.1 hy with ⟨rfl, _⟩ | hy
    ·exact h e (by simp) _ hx
    ·exact hy
   ·rfl
  rw [List.foldl_cons, h1]
  exact ih fun e' he => h e' (List.mem_cons_of_mem _ he)
theorem lookB_shut {L : List Nd} {a i : Nat} {s : List Bool} (h : ShutB L a s) : lookB L a s i = s := by
 unfold lookB
 split
 ·rename_i ho
  refine names_shut _ fun e he x hx => ?_
  cases hn : L[i]? with
  | none => rw [hn] at he; simp at he
  | some n =>
   rw [hn] at he
   exact h i x ho ⟨n, e, hn, by simpa using he, hx⟩
 ·rfl
theorem sweepB_shut {L : List Nd} {a : Nat} {s : List Bool} (h : ShutB L a s) : sweepB L a s = s := by
 unfold sweepB
 induction (List.range L.length) with
 | nil => rfl
 | cons i l ih => rw [List.foldl_cons, lookB_shut h]; exact ih
theorem count_lt {s t : List Bool} (h : Sub s t) (hne : ¬ t = s) : s.count true < t.count true := by
 obtain ⟨hl, hx⟩ := h
 revert t
 induction s with
 | nil =>
  intro t hne hl hx
  cases t with
  | nil => exact absurd rfl hne
  | cons b t => simp at hl
 | cons a s ih =>
  intro t hne hl hx
  cases t with
  | nil => simp at hl
  | cons b t =>
   have hl' : s.length = t.length := by simpa using hl
   have hx' : ∀ x, isT s x → isT t x := fun x h => by have := hx (x + 1); simpa [isT] using this (by simpa [isT] using h)
   have h0 : a = true → b = true := fun h => by have := hx 0; simpa [isT, h] using this
   by_cases hts : t = s
   ·subst hts
    have hab : ¬ b = a := fun h => hne (by rw [h])
    cases a <;> cases b <;> simp_all
   ·have := ih hts hl' hx'
    have e1 : (a :: s).count true = s.count true + (if a = true then 1 else 0) := by cases a <;> simp
    have e2 : (b :: t).count true = t.count true + (if b = true then 1 else 0) := by cases b <;> simp
    rw [e1, e2]
    cases a <;> cases b <;> simp at h0 ⊢ <;> omega
theorem count_all {s : List Bool} (h : s.length ≤ s.count true) : ∀ x, x < s.length → isT s x := by
 have h1 : s.count true = s.length := Nat.le_antisymm List.count_le_length h
 rw [List.count_eq_length] at h1
 intro x hx
 unfold isT
 rw [List.getElem?_eq_getElem hx, ← h1 _ (List.getElem_mem hx)]
theorem timesB_end (L : List Nd) (a k : Nat) : ShutB L a (timesB L a k) ∨ k ≤ (timesB L a k).count true := by
 induction k with
 | zero => exact .inr (Nat.zero_le _)
 | succ k ih =>
  rw [timesB]
  rcases ih with h | h
  ·rw [sweepB_shut h]; exact .inl h
  ·by_cases hs : sweepB L a (timesB L a k) = timesB L a k
   ·rw [hs]
    exact .inl (shut_of_same (timesB_len L a k) hs)
   ·right
    have := count_lt (sweepB_sub L a (timesB L a k)) hs
    omega
theorem belowB_shut (L : List Nd) (a : Nat) : ShutB L a (belowB L a) := by
 rcases timesB_end L a L.length with h | h
 ·exact h
 ·intro i x _ hE
  exact count_all (s := timesB L a L.length) (by rw [timesB_len]; exact h) x (by rw [timesB_len]; exact hE.lt)
/-- The sweeps find just what is below. -/
theorem belowB_iff (L : List Nd) (a x : Nat) : isT (belowB L a) x ↔ Reach L a x := by
 refine ⟨timesB_sound L a _ x, fun h => ?_⟩
 induction h with
 | one h => exact belowB_shut L a _ _ (.inl rfl) h
 | more _ h ih => exact belowB_shut L a _ _ (.inr ih) h
theorem belowB_len (L : List Nd) (a : Nat) : (belowB L a).length = L.length := timesB_len L a _
/-! The program's way: what is found is looked into. -/
/-- Between F and G a look into i was had. -/
structure Looked (L : List Nd) (i : Nat) (F G : Nat → Prop) : Prop where
 sub : ∀ x, F x → G x
 sound : ∀ x, G x → F x ∨ Reach L i x
 kids : ∀ x, Edge L i x → G x
 shut : ∀ x, G x → ¬ F x → ∀ y, Edge L x y → G y
theorem Looked.all {L : List Nd} {i : Nat} {G : Nat → Prop} (h : Looked L i (fun _ => False) G) (x : Nat) : G x ↔ Reach L i x := by
 refine ⟨fun hx => ?_, fun hx => ?_⟩
 ·rcases h.sound x hx with h | h
  ·exact absurd h id
  ·exact h
 ·induction hx with
  | one h1 => exact h.kids _ h1
  | more _ h1 ih => exact h.shut _ ih id _ h1
theorem Reach.trans {L : List Nd} {i x y : Nat} (h : Reach L i x) (k : Reach L x y) : Reach L i y := by
 induction k with
 | one h1 => exact .more h h1
 | more _ h1 ih => exact .more ih h1
end Go.Proofs.YtknckbedddeijaaGreat
namespace Go.Proofs.YtknckbedddeijaaGreat
open Go.RowKit
set_option linter.unusedVariables false
/-- An inode and where its names lie. -/
structure Np where
 n : Nd
 a : Option Addr
 cap : Nat
abbrev Np.v (p : Np) : Value := .slice p.a p.n.names.length p.cap
def ndZ : Nd := ⟨0, 0, 0, 0, 0, ⟨#[]⟩, [], 0, 0⟩
def ndE : Enc Np := ⟨9, fun p => (ndA p.n p.v).toList, ⟨ndZ, none, 0⟩, fun _ => rfl, by decide, by intro p u hu; simp at hu; rcases hu with rfl | rfl | rfl | rfl | rfl | rfl | rfl | rfl | rfl <;> rfl⟩
/-- An inode lies at a place. -/
structure NdAt (w : World) (b o : Nat) (n : Nd) (v : Value) : Prop where
 c0 : w.cell? ⟨b, o, none⟩ = some (.int .i64 n.id)
 c1 : w.cell? ⟨b, o + 1, none⟩ = some (.int .i64 n.kind)
 c2 : w.cell? ⟨b, o + 2, none⟩ = some (.int .i64 n.mode)
 c3 : w.cell? ⟨b, o + 3, none⟩ = some (.int .i64 n.uid)
 c4 : w.cell? ⟨b, o + 4, none⟩ = some (.int .i64 n.gid)
 c5 : w.cell? ⟨b, o + 5, none⟩ = some (.string n.data)
 c6 : w.cell? ⟨b, o + 6, none⟩ = some v
 c7 : w.cell? ⟨b, o + 7, none⟩ = some (.int .i64 n.maxb)
 c8 : w.cell? ⟨b, o + 8, none⟩ = some (.int .i64 n.maxi)
theorem NdAt.kept {w w' : World} {B b o : Nat} {n : Nd} {v : Value} (h : NdAt w b o n v) (hb : Below B w w') (hB : b < B) : NdAt w' b o n v :=
 ⟨atCell hb h.c0 hB, atCell hb h.c1 hB, atCell hb h.c2 hB, atCell hb h.c3 hB, atCell hb h.c4 hB, atCell hb h.c5 hB, atCell hb h.c6 hB, atCell hb h.c7 hB, atCell hb h.c8 hB⟩
theorem ndE_cell {w : World} {N : Nat} {v : Value} {L : List Np} (h : Row ndE w N v L) : ∃ a cap, v = .slice a L.length cap ∧ L.length ≤ cap ∧ cap ≤ 9223372036854775807 ∧
  (L ≠ [] → ∃ b off, a = some ⟨b, off, none⟩ ∧ b < N ∧ ∀ j (h : j < L.length), NdAt w b (off + j * 9) L[j].n L[j].v) := by
 obtain ⟨a, cap, h0, h1, h2, h3⟩ := h
 refine ⟨a, cap, h0, h1, h2, fun hL => ?_⟩
 obtain ⟨b, off, ha, hb, hc⟩ := h3 hL
 refine ⟨b, off, ha, hb, fun j hj => ?_⟩
 have H := fun i hi => hc j hj i hi
 simp only [show ndE.n = 9 from rfl] at H
 exact ⟨H 0 (by decide), H 1 (by decide), H 2 (by decide), H 3 (by decide), H 4 (by decide), H 5 (by decide), H 6 (by decide), H 7 (by decide), H 8 (by decide)⟩
/-- The slice u, in memory below block N, holds the inodes L. -/
structure VolR (w : World) (N : Nat) (u : Value) (L : List Np) : Prop where
 row : Row ndE w N u L
 nms : ∀ p ∈ L, Row diE w N p.v p.n.names
theorem VolR.kept {w w' : World} {N : Nat} {u : Value} {L : List Np} (h : VolR w N u L) (hb : Below N w w') : VolR w' N u L := ⟨h.row.kept hb, fun p hp => (h.nms p hp).kept hb⟩
theorem VolR.up {w : World} {N N' : Nat} {u : Value} {L : List Np} (h : VolR w N u L) (hN : N ≤ N') : VolR w N' u L := ⟨h.row.up hN, fun p hp => (h.nms p hp).up hN⟩
abbrev volV (next : Int) (u : Value) : Value := .agg #[.int .i64 next, u]
/-- The texts of an inode are such as there can be. -/
def NdSz (n : Nd) : Prop := n.data.size ≤ 9223372036854775807 ∧ ∀ a ∈ n.names, a.nm.size ≤ 9223372036854775807
end Go.Proofs.YtknckbedddeijaaGreat
namespace Go.Proofs.YtknckbedddeijaaGreat
open Go.RowKit
set_option linter.unusedVariables false
/-- So many numbers from the front on, and what is left. -/
noncomputable def varsO : Nat → List UInt8 → Option (List Nat × List UInt8)
 | 0, l => some ([], l)
 | n + 1, l => (numO l).bind fun a => (varsO n a.2).bind fun b => some (a.1 :: b.1, b.2)
theorem varsO_zero (l : List UInt8) : varsO 0 l = some ([], l) := rfl
theorem varsO_no {n : Nat} {l : List UInt8} (hn : 0 < n) (h : numO l = none) : varsO n l = none := by
 obtain ⟨m, rfl⟩ : ∃ m, n = m + 1 := ⟨n - 1, by omega⟩
 simp only [varsO, h, Option.bind_none]
theorem varsO_yes {n x : Nat} {l r : List UInt8} (hn : 0 < n) (h : numO l = some (x, r)) : varsO n l = (varsO (n - 1) r).map fun y => (x :: y.1, y.2) := by
 obtain ⟨m, rfl⟩ : ∃ m, n = m + 1 := ⟨n - 1, by omega⟩
 simp only [varsO, h, Option.bind_some, Nat.add_sub_cancel]
 cases varsO m r <;> rfl
theorem varsO_one (l : List UInt8) : varsO 1 l = (numO l).map fun y => ([y.1], y.2) := by
 simp only [varsO]
 cases numO l <;> rfl
def cellsN (L : List Nat) : List Value := L.map (fun x => Value.int .i64 (x : Nat))
theorem cellsN_snoc (L : List Nat) (x : Nat) : cellsN (L ++ [x]) = cellsN L ++ [.int .i64 (x : Nat)] := by simp [cellsN]
/-- The numbers L lie in the slice v, in a block from B on. -/
def NumsAt (w : World) (B : Nat) (v : Value) (L : List Nat) : Prop := ∃ g cap, v = .slice (some ⟨g, 0, none⟩) L.length cap ∧ L.length ≤ cap ∧ B ≤ g ∧ g < w.heap.size ∧ ∀ j (h : j < L.length), w.cell? ⟨g, j, none⟩ = some (.int .i64 (L[j] : Nat))
theorem Tryz.infoI8 : (Tryz.prog.info? 3).map (fun i => (i.zero, i.size, i.bytes)) = some (some (.int .i64 0), 1, 8) := by kernel_rfl
theorem numsStart (w : World) : (w.alloc (.cells #[] 3)).ownsRow w.heap.size 3 1 (.slice (some ⟨w.heap.size, 0, none⟩) 0 0) 0 (cellsN []) :=
 World.ownsRow_made w #[] 0 (Nat.le_refl _) (by decide) rfl
theorem nums_of {w : World} {B : Nat} {v : Value} {L : List Nat} (h : w.ownsRow B 3 1 v L.length (cellsN L)) (hL : 0 < L.length) : NumsAt w B v L := by
 have hlt := h.lt
 have h0 := h
 obtain ⟨hl, h2⟩ := h
 rcases h2 with ⟨rfl, h3⟩ | ⟨g, cap, cur, rfl, hb, hg, hn, hc, hs, ht⟩
 ·omega
 ·refine ⟨g, cap, rfl, hn, (hlt g rfl).1, (hlt g rfl).2, fun j hj => ?_⟩
  have := h0.cellAt j (by omega)
  rw [this]
  simp [cellsN, hj]
theorem drop_extract (s : ByteArray) (a k : Nat) : ((s.extract a s.size).data.toList).drop k = s.data.toList.drop (a + k) := by
 rw [extract_toList, List.drop_drop]
set_option maxHeartbeats 1600000 in
set_option maxRecDepth 100000 in
theorem l8Vars_any (s : ByteArray) (a0 n : Nat) (w : World) (hs : s.size ≤ 1048576) (ha : a0 ≤ s.size) (hn : 1 ≤ n) (hn7 : n ≤ 20) :
  Calls Tryz.prog 22 #[.string s, .int .i64 (a0 : Nat), .int .i64 (n : Nat)] w fun e w' => (∃ v, (∃ (xs : List Nat) (a : Nat), e = .returned (.tuple #[v, .int .i64 (a : Nat)]) ∧ Hid (varsO n (s.data.toList.drop a0) = some (xs, s.data.toList.drop a)) ∧ a ≤ s.size ∧ xs.length = n ∧ NumsAt w' w.heap.size v xs) ∨ (e = .returned (.tuple #[v, .int .i64 (-1)]) ∧ Hid (varsO n (s.data.toList.drop a0) = none))) ∧ Below w.heap.size w w' := by
 obtain ⟨i0, hi, hz0, hz1, hz2⟩ := info_parts Tryz.infoI8
 go_enter Tryz.func22, Tryz.ntmps22
 go_wp2
 go_loopw [1, 8, 9] (fun at' v i wr => ∃ (j a : Nat) (pre : List Nat), at' = .int .i64 (a : Nat) ∧ i = .int .i64 (j : Nat) ∧ a ≤ s.size ∧ j ≤ n ∧ pre.length = j ∧ Hid (varsO n (s.data.toList.drop a0) = (varsO (n - j) (s.data.toList.drop a)).map fun y => (pre ++ y.1, y.2)) ∧ Hid (wr.ownsRow w.heap.size 3 1 v pre.length (cellsN pre)) ∧ Below w.heap.size w wr) (fun _ _ i _ => n - (intOf i).toNat)
 case atStart => exact ⟨0, a0, [], rfl, rfl, ha, by omega, rfl, by unfold Hid; simp, numsStart w, (Below.refl _ _).alloc (Nat.le_refl _) _⟩
 case round =>
  obtain ⟨j, a, pre, rfl, rfl, hale, hjn, hpl, HV, HO, hbel⟩ := hrel
  have hbs := hbel.size
  by_cases hlt : j < n
  ·have g1 : (j : Int) < (n : Int) := by omega
   have g2 : ¬ (a : Int) < 0 := by omega
   have g3 : ¬ (s.size : Int) < (a : Int) := by omega
   have g4 : (0 : Int) ≤ (a : Int) ∧ (a : Int) ≤ (s.size : Int) := by omega
   go_wp2_with fail
   refine (specReadVar_any (s.extract a s.size) _ (by simp; omega)).mono ?_
   rintro e w1 ⟨x, k, rfl, hrv, b1⟩
   rw [extract_toList] at hrv
   have hk : k ≤ s.size - a := by
    rcases hrv with ⟨_, _, h, _⟩ | ⟨_, h, _⟩
    ·simpa using h
    ·omega
   have B1 := hbel.trans (b1.mono hbs)
   have HO1 : Hid (w1.ownsRow w.heap.size 3 1 u8 pre.length (cellsN pre)) := HO.out.kept (row := none) ⟨b1.os, b1.tape, b1.output, b1.size, fun k hk _ => b1.block k hk⟩ (Classical.em _)
   clear HO hbel
   by_cases h0 : k = 0
   ·subst h0
    have HN : Hid (varsO n (s.data.toList.drop a0) = none) := by
     unfold Hid
     rw [HV.out, varsO_no (by omega) (numO_no (rv_none_num hrv))]
     rfl
    clear hrv HV
    go_wp2
    go_ret2
    exact ⟨⟨_, .inr ⟨rfl, HN⟩⟩, B1⟩
   ·have hk0 : ((k : Int) == 0) = false := by simp; omega
    have HN : Hid (varsO n (s.data.toList.drop a0) = (varsO (n - (j + 1)) (s.data.toList.drop (a + k))).map fun y => ((pre ++ [x]) ++ y.1, y.2)) := by
     have hnum := numO_yes (num_of_rv hrv (by omega))
     rw [List.drop_drop] at hnum
     unfold Hid
     rw [HV.out, varsO_yes (by omega) hnum, Nat.sub_sub]
     cases varsO (n - (j + 1)) (s.data.toList.drop (a + k)) <;> simp
    clear hrv HV
    have hbs1 := B1.size
    have hown := HO1.out
    clear HO1
    go_wp2_with (at_builtin; refine wpList_append_own _ rfl _ _ 49 rfl w.heap.size 3 i0 (.int .i64 0) 1 8 Tryz.underlying49 hi hz0 hz1 hz2 rfl (by decide) _ _ _ rfl (hown.alloc _) ⟨w1.heap.size, 0, none⟩ 1 1 [.int .i64 (x : Nat)] rfl rfl ?c1 ?c2 ?c3 ?c4 ?c5 ?_)
    case c1 => exact cell_one_new _ _ _
    case c2 => intro u hu; simp at hu; subst hu; rfl
    case c3 => unfold maxLen; omega
    case c4 => omega
    case c5 => simp; omega
    intro v' w2 hown' hgrow _
    rw [← cellsN_snoc] at hown'
    have B2 := B1.trans (((Below.refl _ _).alloc hbs1 _).grown hgrow (by simp; omega) (fun k hk => (hown.lt k hk).1))
    have HO2 : Hid (w2.ownsRow w.heap.size 3 1 v' (pre ++ [x]).length (cellsN (pre ++ [x]))) := by
     unfold Hid
     rw [List.length_append, hpl]
     simpa using hown'
    clear hgrow hown hown'
    go_wp2
    go_roundw
    case rel => exact ⟨j + 1, a + k, pre ++ [x], by go_num, by go_num, by omega, by omega, by simp; omega, HN, HO2, B2⟩
    case measure => simp [intOf]; omega
  ·have g1 : ¬ (j : Int) < (n : Int) := by omega
   have e1 : n - j = 0 := by omega
   have HN : Hid (varsO n (s.data.toList.drop a0) = some (pre, s.data.toList.drop a)) := by
    unfold Hid
    rw [HV.out, e1, varsO_zero]
    simp
   have HA := Hid.intro (nums_of HO.out (by omega))
   clear HV HO
   go_wp2
   go_ret2
   exact ⟨⟨_, .inl ⟨pre, a, rfl, HN, hale, by omega, HA.out⟩⟩, hbel⟩
set_option maxHeartbeats 800000 in
set_option maxRecDepth 100000 in
theorem l8Vars_none (s : ByteArray) (n : Nat) (w : World) (hn : 1 ≤ n) (hn7 : n ≤ 20) :
  Calls Tryz.prog 22 #[.string s, .int .i64 (-1), .int .i64 (n : Nat)] w fun e w' => (∃ v, e = .returned (.tuple #[v, .int .i64 (-1)])) ∧ Below w.heap.size w w' := by
 have g1 : (0 : Int) < (n : Int) := by omega
 go_enter Tryz.func22, Tryz.ntmps22
 go_wp2
 go_loopw [1, 9] (fun at' i wr => at' = .int .i64 (-1) ∧ i = .int .i64 0 ∧ Below w.heap.size w wr) (fun _ _ _ => 0)
 case atStart => exact ⟨rfl, rfl, (Below.refl _ _).alloc (Nat.le_refl _) _⟩
 case round =>
  obtain ⟨rfl, rfl, hbel⟩ := hrel
  go_wp2
  go_ret2
  exact ⟨⟨_, rfl⟩, hbel⟩
end Go.Proofs.YtknckbedddeijaaGreat
namespace Go.Proofs.YtknckbedddeijaaGreat
open Go.RowKit
set_option linter.unusedVariables false
/-- A count at the front that is not above most. -/
noncomputable def cntO (most : Nat) (l : List UInt8) : Option (Nat × List UInt8) := (numO l).bind fun x => if x.1 ≤ most then some x else none
set_option maxRecDepth 100000 in
set_option maxHeartbeats 800000 in
theorem countC_any (b most : Nat) (q : ByteArray) (w : World) (hc : CurAt w b q) (hs : q.size ≤ 1048576) :
  Calls Tryz.prog 48 #[.pointer (some ⟨b, 0, none⟩), .int .i64 (most : Nat)] w fun e w' =>
   (∃ (n : Nat) (q' : ByteArray), e = .returned (.int .i64 (n : Nat)) ∧ Hid (cntO most q.data.toList = some (n, q'.data.toList)) ∧ n ≤ most ∧ CurAt w' b q' ∧ q'.size ≤ 1048576 ∧ Only (fun k => k = b) w w') ∨ (Lack e ∧ Hid (cntO most q.data.toList = none) ∧ Only (fun k => k = b) w w') := by
 have hlt := hc.lt
 go_enter Tryz.func48, Tryz.ntmps48
 go_wp2_with fail
 refine (number_any b q _ hc hs).mono ?_
 rintro e w1 (⟨x, q1, rfl, hn, rfl⟩ | ⟨⟨pv, rfl⟩, hn, rfl⟩)
 ·have hsz := num_size hn hs
  have c1 : CurAt (w.setCell ⟨b, 0, none⟩ (.string q1)) b q1 := hc.set
  have b1 : Only (fun k => k = b) w (w.setCell ⟨b, 0, none⟩ (.string q1)) := ob_set _ _ _
  have e1 := numO_yes hn
  by_cases hm : x ≤ most
  ·have g1 : ¬ (most : Int) < (x : Int) := by omega
   have HP : Hid (cntO most q.data.toList = some (x, q1.data.toList)) := by
    unfold Hid cntO
    rw [e1, Option.bind_some, if_pos hm]
   clear e1 hn hc
   generalize w.setCell ⟨b, 0, none⟩ (.string q1) = w1 at c1 b1 ⊢
   go_wp2
   go_ret
   exact .inl ⟨x, q1, rfl, HP, hm, c1, hsz, b1⟩
  ·have g1 : (most : Int) < (x : Int) := by omega
   have HP : Hid (cntO most q.data.toList = none) := by
    unfold Hid cntO
    rw [e1, Option.bind_some, if_neg hm]
   clear e1 hn hc
   generalize w.setCell ⟨b, 0, none⟩ (.string q1) = w1 at c1 b1 ⊢
   go_wp2
   exact ⟨rfl, .inr ⟨⟨_, rfl⟩, HP, b1⟩⟩
 ·have HP : Hid (cntO most q.data.toList = none) := by
   unfold Hid cntO
   rw [numO_no hn]
   rfl
  clear hn
  go_wp2
  exact ⟨rfl, .inr ⟨⟨_, rfl⟩, HP, Only.refl _ _⟩⟩
theorem Tryz.infoDi : (Tryz.prog.info? 102).map (fun i => (i.zero, i.size, i.bytes)) = some (some (.agg #[.string ⟨#[]⟩, .int .i64 0]), 2, 24) := by kernel_rfl
/-- append of names onto a row of the call's own, inside a region that draws its order. -/
theorem step_Di {w : World} {ops : Array Oper} {o : Oper} {a : Act} {KK : Act → World → Prop} {Q : Exit → Act → World → Prop} {E : Prop} (hgd : o.guard = none) (s x : Operand)
  (ho : o.op = .call { callee := .builtin .append, args := #[s, x], argTypes := #[74, 74] })
  (base : Nat) (v : Value) (L : List Di) (d : Di) (hs : a.eval s = v) (hown : Own diE 102 w base v L) (ad : Addr) (c : Nat) (hx : a.eval x = .slice (some ad) 1 c)
  (hnews : ∀ j u, (diE.f [d])[j]? = some u → w.cell? (ad.add j) = some u) (hlen : L.length ≤ 2000000) (hbase : base ≤ w.heap.size)
  (h : ∀ g cap' w', Own diE 102 w' base (.slice (some ⟨g, 0, none⟩) (L ++ [d]).length cap') (L ++ [d]) → Only (fun k => some k = v.ownBlock) w w' → (v.ownBlock = some g ∨ g = w.heap.size) → g < w'.heap.size →
   KK (a.put o.dst (.slice (some ⟨g, 0, none⟩) (L.length + 1) cap')) w') : if Region.wanted o (yielded ops a.tmps) = true then Oper.wp Tryz.prog o a w KK Q else E := by
 obtain ⟨i0, hi, hz0, hz1, hz2⟩ := info_parts Tryz.infoDi
 refine step_append_lies w hgd s x 74 ho base 102 i0 (.agg #[.string ⟨#[]⟩, .int .i64 0]) 2 24 Tryz.underlying74 hi hz0 hz1 hz2 rfl (by decide) v L.length (diE.f L) hs hown ad 1 c (diE.f [d]) hx (diE.f_len [d]) hnews (diE.f_one [d]) (by omega) (by unfold maxLen; omega) (by omega) hbase w.heap.size rfl ?_
 intro g cap' w' hown' hgrow hloc hg
 refine h g cap' w' ?_ (grown_only hgrow) hloc hg
 have e : (L ++ [d]).length = L.length + 1 := by simp
 unfold Own
 rw [e, diE.f_append]
 exact hown'
end Go.Proofs.YtknckbedddeijaaGreat
namespace Go.Proofs.YtknckbedddeijaaGreat
open Go.RowKit
set_option linter.unusedVariables false
/-- So many names from the front on, and what is left. -/
noncomputable def nmsO : Nat → List UInt8 → Option (List Di × List UInt8)
 | 0, l => some ([], l)
 | n + 1, l => (pieO l).bind fun a => (numO a.2).bind fun c => (nmsO n c.2).bind fun d => some (⟨⟨a.1.toArray⟩, (c.1 : Int)⟩ :: d.1, d.2)
theorem nmsO_no1 {n : Nat} {l : List UInt8} (hn : 0 < n) (h : pieO l = none) : nmsO n l = none := by
 obtain ⟨m, rfl⟩ : ∃ m, n = m + 1 := ⟨n - 1, by omega⟩
 simp only [nmsO, h, Option.bind_none]
theorem nmsO_no2 {n : Nat} {l p r : List UInt8} (hn : 0 < n) (h : pieO l = some (p, r)) (k : numO r = none) : nmsO n l = none := by
 obtain ⟨m, rfl⟩ : ∃ m, n = m + 1 := ⟨n - 1, by omega⟩
 simp only [nmsO, h, k, Option.bind_some, Option.bind_none]
theorem nmsO_yes {n x : Nat} {l p r q : List UInt8} (hn : 0 < n) (h : pieO l = some (p, r)) (k : numO r = some (x, q)) : nmsO n l = (nmsO (n - 1) q).map fun y => (⟨⟨p.toArray⟩, (x : Int)⟩ :: y.1, y.2) := by
 obtain ⟨m, rfl⟩ : ∃ m, n = m + 1 := ⟨n - 1, by omega⟩
 simp only [nmsO, h, k, Option.bind_some, Nat.add_sub_cancel]
 cases nmsO m q <;> rfl
/-- An inode at the front, and what is left. -/
noncomputable def inoO (l : List UInt8) : Option (Nd × List UInt8) :=
 (numO l).bind fun a => (numO a.2).bind fun b => (numO b.2).bind fun c => (numO c.2).bind fun d => (numO d.2).bind fun e => (numO e.2).bind fun f => (numO f.2).bind fun g => (pieO g.2).bind fun p => (cntO 12 p.2).bind fun n => (nmsO n.1 n.2).bind fun s =>
  some (⟨(a.1 : Int), (b.1 : Int), (c.1 : Int), (d.1 : Int), (e.1 : Int), ⟨p.1.toArray⟩, s.1, (f.1 : Int), (g.1 : Int)⟩, s.2)
/-- What a cursor's inode hands back. -/
def InoC (b : Nat) (q : ByteArray) (w : World) (e : Ending) (w' : World) : Prop :=
 (∃ (n : Nd) (v : Value) (q' : ByteArray), e = .returned (ndV n v) ∧ Hid (inoO q.data.toList = some (n, q'.data.toList)) ∧ CurAt w' b q' ∧ q'.size ≤ 1048576 ∧ Hid (Own diE 102 w' w.heap.size v n.names) ∧ Only (fun k => k = b) w w') ∨ (Lack e ∧ Hid (inoO q.data.toList = none) ∧ Only (fun k => k = b) w w')
abbrev zN : Array Value := #[.int .i64 0, .int .i64 0, .int .i64 0, .int .i64 0, .int .i64 0, .string ⟨#[]⟩, .slice none 0 0, .int .i64 0, .int .i64 0]
/-- What stands while names are read. -/
structure InI (w : World) (b g2 g3 : Nat) (n : Nd) (wr : World) (q : ByteArray) (v : Value) (L : List Di) : Prop where
 cur : CurAt wr b q
 box : Blk wr g3 (ndA n v)
 res : Blk wr g2 zN
 own : Own diE 102 wr (g3 + 1) v L
 only : Only (fun k => k = b) w wr
 lt : b < g2 ∧ g2 < g3 ∧ w.heap.size ≤ g2
theorem InI.step {w : World} {b g2 g3 : Nat} {n : Nd} {wr w2 : World} {q q2 : ByteArray} {v : Value} {L : List Di} (h : InI w b g2 g3 n wr q v L) (ho : Only (fun k => k = b) wr w2) (hc : CurAt w2 b q2) : InI w b g2 g3 n w2 q2 v L :=
 ⟨hc, h.box.only ho (by have := h.lt; omega), h.res.only ho (by have := h.lt; omega), h.own.only ho (fun k hk e => by have := (h.own.lt k hk).1; have := h.lt; omega), h.only.trans ho, h.lt⟩
theorem InI.kept {w : World} {b g2 g3 : Nat} {n : Nd} {wr w2 : World} {q : ByteArray} {v : Value} {L : List Di} (h : InI w b g2 g3 n wr q v L) (hb : Below wr.heap.size wr w2) : InI w b g2 g3 n w2 q v L :=
 h.step (ob_any hb) (h.cur.kept hb)
theorem set9_only (g : Nat) (w : World) (a b c d e f h i j : Value) : Only (fun x => x = g) w (((((((((w.setCell ⟨g, 0, none⟩ a).setCell ⟨g, 1, none⟩ b).setCell ⟨g, 2, none⟩ c).setCell ⟨g, 3, none⟩ d).setCell ⟨g, 4, none⟩ e).setCell ⟨g, 5, none⟩ f).setCell ⟨g, 6, none⟩ h).setCell ⟨g, 7, none⟩ i).setCell ⟨g, 8, none⟩ j) :=
 (((set6_only g w a b c d e f).setCell (p := ⟨g, 6, none⟩) rfl h).setCell (p := ⟨g, 7, none⟩) rfl i).setCell (p := ⟨g, 8, none⟩) rfl j
theorem set_only (g o : Nat) (w : World) (v : Value) : Only (fun k => k = g) w (w.setCell ⟨g, o, none⟩ v) := (Only.refl (fun k => k = g) w).setCell (p := ⟨g, o, none⟩) rfl v
theorem ndA_set (n : Nd) (v v2 : Value) (o : Nat) (h : o ≠ 6) : (ndA n v)[o]? = (ndA n v2)[o]? := by
 match o, h with
 | 0, _ => rfl
 | 1, _ => rfl
 | 2, _ => rfl
 | 3, _ => rfl
 | 4, _ => rfl
 | 5, _ => rfl
 | 7, _ => rfl
 | 8, _ => rfl
 | o + 9, _ => simp
theorem InI.put {w : World} {b g2 g3 : Nat} {n : Nd} {wr w4 : World} {q : ByteArray} {v : Value} {L L' : List Di} {g m cap : Nat} (h : InI w b g2 g3 n wr q v L) (ho : Only (fun k => some k = v.ownBlock) wr w4) (hown : Own diE 102 w4 (g3 + 1) (.slice (some ⟨g, 0, none⟩) m cap) L') :
  InI w b g2 g3 n (w4.setCell ⟨g3, 6, none⟩ (.slice (some ⟨g, 0, none⟩) m cap)) q (.slice (some ⟨g, 0, none⟩) m cap) L' := by
 have hlt := h.lt
 have nb : ∀ k, some k = v.ownBlock → g3 + 1 ≤ k := fun k hk => (h.own.lt k hk.symm).1
 have hb : ¬ some b = v.ownBlock := fun e => by have := nb b e; omega
 have h3 : ¬ some g3 = v.ownBlock := fun e => by have := nb g3 e; omega
 have h2 : ¬ some g2 = v.ownBlock := fun e => by have := nb g2 e; omega
 have bx := h.box.only ho h3
 refine ⟨(h.cur.only ho hb).only (set_only g3 6 w4 _) (by omega), ⟨by simpa using bx.hi, fun o => ?_, fun o => ?_⟩, (h.res.only ho h2).only (set_only g3 6 w4 _) (by omega), hown.only (set_only g3 6 w4 _) (fun k hk e => ?_), ?_, hlt⟩
 ·by_cases e : o = 6
  ·subst e
   exact World.cell?_setCell_same _ _ _ (bx.cell 6)
  ·rw [World.cell?_setCell_other _ _ _ _ (by intro e2; simp at e2 <;> omega), bx.cell o]
   exact ndA_set n _ _ o e
 ·rw [World.frozen?_setCell]; exact bx.fro o
 ·have := (hown.lt k hk).1; omega
 ·exact (h.only.then ho (fun k hk e => by have := nb k e; omega)).then (set_only g3 6 w4 _) (fun k hk e => by omega)
set_option maxRecDepth 100000 in
set_option maxHeartbeats 4000000 in
theorem inodeC_any (b : Nat) (q0 : ByteArray) (w : World) (hc : CurAt w b q0) (s0 : q0.size ≤ 1048576) :
  Calls Tryz.prog 63 #[.pointer (some ⟨b, 0, none⟩)] w (InoC b q0 w) := by
 have hlt := hc.lt
 go_enter Tryz.func63, Tryz.ntmps63
 go_wp2_with fail
 obtain ⟨W0, hW, bW, zW, cW, fW⟩ := boxed w #[.int .i64 0, .int .i64 0, .int .i64 0, .int .i64 0, .int .i64 0, .string ⟨#[]⟩, .slice none 0 0, .int .i64 0, .int .i64 0] 76
 simp only [hW]
 have c0 : CurAt W0 b q0 := hc.kept bW
 have b0 : Only (fun k => k = b) w W0 := ob_any bW
 have X0 : Hid (Blk W0 w.heap.size zN) := ⟨by omega, cW, fW⟩
 have hne : ¬ w.heap.size = b := by omega
 clear hW bW zW cW fW hc
 refine (number_any b q0 _ c0 s0).mono ?_
 rintro e w1 (⟨id, q1, rfl, hn, rfl⟩ | ⟨⟨pv, rfl⟩, hn, rfl⟩)
 rotate_left 1
 ·have HP : Hid (inoO q0.data.toList = none) := by
   have e0 := numO_no hn
   unfold Hid
   simp only [inoO, e0, Option.bind_none]
  clear hn X0
  go_wp2
  exact ⟨rfl, .inr ⟨⟨_, rfl⟩, HP, b0⟩⟩
 have H0 : Hid (numO q0.data.toList = some (id, q1.data.toList)) := numO_yes hn
 have s1 : q1.size ≤ 1048576 := num_size hn s0
 have c1 : CurAt (_) b q1 := c0.set
 have b1 := b0.trans (ob_set b _ (.string q1))
 replace X0 := Hid.intro (X0.out.only (ob_set b _ (.string q1)) hne)
 revert c1 b1 X0
 generalize World.setCell _ ⟨b, 0, none⟩ (.string q1) = W1
 intro c1 b1 X0
 clear hn c0 b0 s0
 go_wp2_with fail
 refine (number_any b q1 _ c1 s1).mono ?_
 rintro e w1 (⟨kind, q2, rfl, hn, rfl⟩ | ⟨⟨pv, rfl⟩, hn, rfl⟩)
 rotate_left 1
 ·have HP : Hid (inoO q0.data.toList = none) := by
   have e1 := numO_no hn
   unfold Hid
   simp only [inoO, H0.out, e1, Option.bind_some, Option.bind_none]
  clear hn X0
  go_wp2
  exact ⟨rfl, .inr ⟨⟨_, rfl⟩, HP, b1⟩⟩
 have H1 : Hid (numO q1.data.toList = some (kind, q2.data.toList)) := numO_yes hn
 have s2 : q2.size ≤ 1048576 := num_size hn s1
 have c2 : CurAt (_) b q2 := c1.set
 have b2 := b1.trans (ob_set b _ (.string q2))
 replace X0 := Hid.intro (X0.out.only (ob_set b _ (.string q2)) hne)
 revert c2 b2 X0
 generalize World.setCell _ ⟨b, 0, none⟩ (.string q2) = W2
 intro c2 b2 X0
 clear hn c1 b1 s1
 go_wp2_with fail
 refine (number_any b q2 _ c2 s2).mono ?_
 rintro e w1 (⟨mode, q3, rfl, hn, rfl⟩ | ⟨⟨pv, rfl⟩, hn, rfl⟩)
 rotate_left 1
 ·have HP : Hid (inoO q0.data.toList = none) := by
   have e2 := numO_no hn
   unfold Hid
   simp only [inoO, H0.out, H1.out, e2, Option.bind_some, Option.bind_none]
  clear hn X0
  go_wp2
  exact ⟨rfl, .inr ⟨⟨_, rfl⟩, HP, b2⟩⟩
 have H2 : Hid (numO q2.data.toList = some (mode, q3.data.toList)) := numO_yes hn
 have s3 : q3.size ≤ 1048576 := num_size hn s2
 have c3 : CurAt (_) b q3 := c2.set
 have b3 := b2.trans (ob_set b _ (.string q3))
 replace X0 := Hid.intro (X0.out.only (ob_set b _ (.string q3)) hne)
 revert c3 b3 X0
 generalize World.setCell _ ⟨b, 0, none⟩ (.string q3) = W3
 intro c3 b3 X0
 clear hn c2 b2 s2
 go_wp2_with fail
 refine (number_any b q3 _ c3 s3).mono ?_
 rintro e w1 (⟨uid, q4, rfl, hn, rfl⟩ | ⟨⟨pv, rfl⟩, hn, rfl⟩)
 rotate_left 1
 ·have HP : Hid (inoO q0.data.toList = none) := by
   have e3 := numO_no hn
   unfold Hid
   simp only [inoO, H0.out, H1.out, H2.out, e3, Option.bind_some, Option.bind_none]
  clear hn X0
  go_wp2
  exact ⟨rfl, .inr ⟨⟨_, rfl⟩, HP, b3⟩⟩
 have H3 : Hid (numO q3.data.toList = some (uid, q4.data.toList)) := numO_yes hn
 have s4 : q4.size ≤ 1048576 := num_size hn s3
 have c4 : CurAt (_) b q4 := c3.set
 have b4 := b3.trans (ob_set b _ (.string q4))
 replace X0 := Hid.intro (X0.out.only (ob_set b _ (.string q4)) hne)
 revert c4 b4 X0
 generalize World.setCell _ ⟨b, 0, none⟩ (.string q4) = W4
 intro c4 b4 X0
 clear hn c3 b3 s3
 go_wp2_with fail
 refine (number_any b q4 _ c4 s4).mono ?_
 rintro e w1 (⟨gid, q5, rfl, hn, rfl⟩ | ⟨⟨pv, rfl⟩, hn, rfl⟩)
 rotate_left 1
 ·have HP : Hid (inoO q0.data.toList = none) := by
   have e4 := numO_no hn
   unfold Hid
   simp only [inoO, H0.out, H1.out, H2.out, H3.out, e4, Option.bind_some, Option.bind_none]
  clear hn X0
  go_wp2
  exact ⟨rfl, .inr ⟨⟨_, rfl⟩, HP, b4⟩⟩
 have H4 : Hid (numO q4.data.toList = some (gid, q5.data.toList)) := numO_yes hn
 have s5 : q5.size ≤ 1048576 := num_size hn s4
 have c5 : CurAt (_) b q5 := c4.set
 have b5 := b4.trans (ob_set b _ (.string q5))
 replace X0 := Hid.intro (X0.out.only (ob_set b _ (.string q5)) hne)
 revert c5 b5 X0
 generalize World.setCell _ ⟨b, 0, none⟩ (.string q5) = W5
 intro c5 b5 X0
 clear hn c4 b4 s4
 go_wp2_with fail
 refine (number_any b q5 _ c5 s5).mono ?_
 rintro e w1 (⟨maxb, q6, rfl, hn, rfl⟩ | ⟨⟨pv, rfl⟩, hn, rfl⟩)
 rotate_left 1
 ·have HP : Hid (inoO q0.data.toList = none) := by
   have e5 := numO_no hn
   unfold Hid
   simp only [inoO, H0.out, H1.out, H2.out, H3.out, H4.out, e5, Option.bind_some, Option.bind_none]
  clear hn X0
  go_wp2
  exact ⟨rfl, .inr ⟨⟨_, rfl⟩, HP, b5⟩⟩
 have H5 : Hid (numO q5.data.toList = some (maxb, q6.data.toList)) := numO_yes hn
 have s6 : q6.size ≤ 1048576 := num_size hn s5
 have c6 : CurAt (_) b q6 := c5.set
 have b6 := b5.trans (ob_set b _ (.string q6))
 replace X0 := Hid.intro (X0.out.only (ob_set b _ (.string q6)) hne)
 revert c6 b6 X0
 generalize World.setCell _ ⟨b, 0, none⟩ (.string q6) = W6
 intro c6 b6 X0
 clear hn c5 b5 s5
 go_wp2_with fail
 refine (number_any b q6 _ c6 s6).mono ?_
 rintro e w1 (⟨maxi, q7, rfl, hn, rfl⟩ | ⟨⟨pv, rfl⟩, hn, rfl⟩)
 rotate_left 1
 ·have HP : Hid (inoO q0.data.toList = none) := by
   have e6 := numO_no hn
   unfold Hid
   simp only [inoO, H0.out, H1.out, H2.out, H3.out, H4.out, H5.out, e6, Option.bind_some, Option.bind_none]
  clear hn X0
  go_wp2
  exact ⟨rfl, .inr ⟨⟨_, rfl⟩, HP, b6⟩⟩
 have H6 : Hid (numO q6.data.toList = some (maxi, q7.data.toList)) := numO_yes hn
 have s7 : q7.size ≤ 1048576 := num_size hn s6
 have c7 : CurAt (_) b q7 := c6.set
 have b7 := b6.trans (ob_set b _ (.string q7))
 replace X0 := Hid.intro (X0.out.only (ob_set b _ (.string q7)) hne)
 revert c7 b7 X0
 generalize World.setCell _ ⟨b, 0, none⟩ (.string q7) = W7
 intro c7 b7 X0
 clear hn c6 b6 s6
 go_wp2_with fail
 refine (pieceC_any b q7 _ c7 s7).mono ?_
 rintro e W8 (⟨data, q8, rfl, H7, c8, s8, k8⟩ | ⟨⟨pv, rfl⟩, hn, k8⟩)
 rotate_left 1
 ·have HP : Hid (inoO q0.data.toList = none) := by
   have e7 := hn.out
   unfold Hid
   simp only [inoO, H0.out, H1.out, H2.out, H3.out, H4.out, H5.out, H6.out, e7, Option.bind_some, Option.bind_none]
  have b8 := b7.trans k8
  clear hn X0
  go_wp2
  exact ⟨rfl, .inr ⟨⟨_, rfl⟩, HP, b8⟩⟩
 have b8 := b7.trans k8
 replace X0 := Hid.intro (X0.out.only k8 hne)
 clear c7 b7 k8 s7
 have z8 := X0.out.hi
 go_upto_region 2 with fail
 obtain ⟨Y, hY, bY, zY, cY, fY⟩ := boxed W8 #[.int .i64 (id : Nat), .int .i64 (kind : Nat), .int .i64 (mode : Nat), .int .i64 (uid : Nat), .int .i64 (gid : Nat), .string data, .slice none 0 0, .int .i64 (maxb : Nat), .int .i64 (maxi : Nat)] 76
 simp only [hY]
 have HI : Hid (InI w b w.heap.size W8.heap.size ⟨(id : Nat), (kind : Nat), (mode : Nat), (uid : Nat), (gid : Nat), data, [], (maxb : Nat), (maxi : Nat)⟩ Y q8 (.slice none 0 0) []) :=
  ⟨c8.kept bY, ⟨by omega, cY, fY⟩, X0.out.kept bY, Own.nil _ _, b8.trans (ob_any bY), hlt, z8, Nat.le_refl _⟩
 clear hY bY zY cY fY c8 b8 X0 hne
 generalize W8.heap.size = g3 at HI ⊢
 go_wp2_with fail
 refine (countC_any b 12 q8 _ HI.out.cur s8).mono ?_
 rintro e Z (⟨n, q9, rfl, H8, hn12, c9, s9, k9⟩ | ⟨⟨pv, rfl⟩, hn, k9⟩)
 rotate_left 1
 ·have HP : Hid (inoO q0.data.toList = none) := by
   have e8 := hn.out
   unfold Hid
   simp only [inoO, H0.out, H1.out, H2.out, H3.out, H4.out, H5.out, H6.out, H7.out, e8, Option.bind_some, Option.bind_none]
  have b9 := HI.out.only.trans k9
  clear hn HI
  go_wp2
  exact ⟨rfl, .inr ⟨⟨_, rfl⟩, HP, b9⟩⟩
 replace HI := Hid.intro (HI.out.step k9 c9)
 clear c9 k9 s8
 have HIO : Hid (inoO q0.data.toList = (nmsO n q9.data.toList).bind fun s => some (⟨(id : Nat), (kind : Nat), (mode : Nat), (uid : Nat), (gid : Nat), data, s.1, (maxb : Nat), (maxi : Nat)⟩, s.2)) := by
  unfold Hid
  simp only [inoO, H0.out, H1.out, H2.out, H3.out, H4.out, H5.out, H6.out, H7.out, H8.out, Option.bind_some, ba_of]
 clear H0 H1 H2 H3 H4 H5 H6 H7 H8
 go_wp2
 go_loopw [23] (fun i wr => ∃ (j : Nat) (q : ByteArray) (v : Value) (L : List Di), i = .int .i64 (j : Nat) ∧ j ≤ n ∧ L.length = j ∧ q.size ≤ 1048576 ∧ Hid (nmsO n q9.data.toList = (nmsO (n - j) q.data.toList).map fun y => (L ++ y.1, y.2)) ∧ Hid (InI w b w.heap.size g3 ⟨(id : Nat), (kind : Nat), (mode : Nat), (uid : Nat), (gid : Nat), data, [], (maxb : Nat), (maxi : Nat)⟩ wr q v L)) (fun i _ => n - (intOf i).toNat)
 case atStart => exact ⟨0, q9, _, [], rfl, Nat.zero_le _, rfl, s9, by unfold Hid; simp, HI⟩
 case round =>
  obtain ⟨j, q, v, L, rfl, hj, hL, sq, HN, HI⟩ := hrel
  subst hL
  by_cases hlt : L.length < n
  ·have hjn : (L.length : Int) < (n : Int) := by omega
   obtain ⟨va, vc, rfl⟩ := HI.out.own.slice
   go_upto_region 4 with fail
   refine wp_region_held_drew (S := fun _ => True) (by kernel_rfl) trivial (fun hHeld => ?_)
   have HD := Hid.intro (HI.out.kept (w2 := wr.drew) (Below.refl _ _).drew)
   clear HI
   generalize wr.drew = D at HD hHeld ⊢
   refine tkk 0 25 (v := ?_) ?_ ?_
   rotate_left 1
   ·intro w hSw
    go_simp <;> with_reducible rfl
   simp only [Act.put, List.setIfInBounds_toArray]
   try simp only [List.set_cons_succ]
   try simp only [List.set_cons_zero]
   refine tkk 2 27 (v := ?_) ?_ ?_
   rotate_left 1
   ·intro w hSw
    go_simp <;> with_reducible rfl
   simp only [Act.put, List.setIfInBounds_toArray]
   try simp only [List.set_cons_succ]
   try simp only [List.set_cons_zero]
   refine tkk 4 29 (v := ?_) ?_ ?_
   rotate_left 1
   ·intro w hSw
    go_simp <;> with_reducible rfl
   simp only [Act.put, List.setIfInBounds_toArray]
   try simp only [List.set_cons_succ]
   try simp only [List.set_cons_zero]
   refine wpAnyH_ready (rs := [1, 3]) (by kernel_rfl) (by simp) ?_
   refine (AllReadyH.cons rfl (fun KK hKK => ?_) (AllReadyH.cons rfl (fun KK hKK => ?_) AllReadyH.nil))
   ·skip
    have k6 : D.cell? ⟨g3, 6, none⟩ = some (.slice va L.length vc) := HD.out.box.cell 6
    go_simp
    refine hKK.out _ _ trivial (fun hHeld2 => ?_)
    clear hKK KK hHeld
    have hHeld := hHeld2
    clear hHeld2
    clear k6
    refine wpAnyH_ready (rs := [3]) (by kernel_rfl) (by simp) ?_
    refine (AllReadyH.cons rfl (fun KK hKK => ?_) AllReadyH.nil)
    go_simp
    refine (pieceC_any b q D HD.out.cur sq).mono ?_
    rintro e x1 (⟨nm, q1, rfl, G1, c1, s1, o1⟩ | ⟨⟨pv, rfl⟩, G1, o1⟩)
    rotate_left 1
    ·have HP : Hid (inoO q0.data.toList = none) := by
      unfold Hid
      rw [HIO.out, HN.out, nmsO_no1 (by omega) G1.out]
      rfl
     have B9 := HD.out.only.trans o1
     clear HD hKK
     go_simp
     go_wp2
     exact ⟨rfl, .inr ⟨⟨_, rfl⟩, HP, B9⟩⟩
    replace HD := Hid.intro (HD.out.step o1 c1)
    clear o1 c1
    go_simp
    refine hKK.out _ _ trivial (fun hHeld2 => ?_)
    clear hKK KK hHeld
    have hHeld := hHeld2
    clear hHeld2
    refine wpAnyH_ready (rs := [5]) (by kernel_rfl) (by simp) ?_
    refine (AllReadyH.cons rfl (fun KK hKK => ?_) AllReadyH.nil)
    go_simp
    refine (number_any b q1 x1 HD.out.cur s1).mono ?_
    rintro e x2 (⟨x, q2, rfl, hn, rfl⟩ | ⟨⟨pv, rfl⟩, hn, rfl⟩)
    rotate_left 1
    ·have HP : Hid (inoO q0.data.toList = none) := by
      unfold Hid
      rw [HIO.out, HN.out, nmsO_no2 (by omega) G1.out (numO_no hn)]
      rfl
     have B9 := HD.out.only
     clear HD hKK hn
     go_simp
     go_wp2
     exact ⟨rfl, .inr ⟨⟨_, rfl⟩, HP, B9⟩⟩
    have HN2 : Hid (nmsO n q9.data.toList = (nmsO (n - (L.length + 1)) q2.data.toList).map fun y => ((L ++ [⟨nm, (x : Int)⟩]) ++ y.1, y.2)) := by
     unfold Hid
     rw [HN.out, nmsO_yes (by omega) G1.out (numO_yes hn), Nat.sub_sub, ba_of]
     cases nmsO (n - (L.length + 1)) q2.data.toList <;> simp
    have s2 : q2.size ≤ 1048576 := num_size hn s1
    replace HD := Hid.intro (HD.out.step (ob_set b _ (.string q2)) HD.out.cur.set)
    clear hn HN
    revert HD
    generalize World.setCell x1 ⟨b, 0, none⟩ (.string q2) = x2
    intro HD
    go_simp
    refine hKK.out _ _ trivial (fun hHeld2 => ?_)
    clear hKK KK hHeld
    have hHeld := hHeld2
    clear hHeld2
    refine tkk 6 31 (v := ?_) ?_ ?_
    rotate_left 1
    ·intro w hSw
     go_simp <;> with_reducible rfl
    simp only [Act.put, List.setIfInBounds_toArray]
    try simp only [List.set_cons_succ]
    try simp only [List.set_cons_zero]
    refine wpAnyH_ready (rs := [7]) (by kernel_rfl) (by simp) ?_
    refine (AllReadyH.cons rfl (fun KK hKK => ?_) AllReadyH.nil)
    go_simp
    have bM : Below x2.heap.size x2 (x2.alloc (.cells #[.string nm, .int .i64 (x : Nat)] 102)) := one_below _ _
    have cM : ∀ o, (x2.alloc (.cells #[.string nm, .int .i64 (x : Nat)] 102)).cell? ⟨x2.heap.size, o, none⟩ = #[Value.string nm, .int .i64 (x : Nat)][o]? := fun o => World.cell?_alloc_at _ _ _ _ rfl
    replace HD := Hid.intro (HD.out.kept bM)
    revert HD cM
    generalize x2.alloc (.cells #[.string nm, .int .i64 (x : Nat)] 102) = M at bM
    generalize x2.heap.size = sb
    intro cM HD
    refine hKK.out _ _ trivial (fun hHeld2 => ?_)
    clear hKK KK hHeld
    have hHeld := hHeld2
    clear hHeld2
    refine wpAnyH_ready (rs := [8]) (by kernel_rfl) (by simp) ?_
    refine (AllReadyH.cons rfl (fun KK hKK => ?_) AllReadyH.nil)
    have hnews : ∀ j u, (diE.f [⟨nm, (x : Int)⟩])[j]? = some u → M.cell? ((⟨sb, 0, none⟩ : Addr).add j) = some u := fun j u hj => by
     rw [add_none, Nat.zero_add, cM]
     simpa [diE, Enc.f] using hj
    have hbase : g3 + 1 ≤ M.heap.size := HD.out.box.hi
    refine step_Di rfl _ _ rfl (g3 + 1) (.slice va L.length vc) L ⟨nm, (x : Int)⟩ rfl HD.out.own ⟨sb, 0, none⟩ 1 rfl hnews (by omega) hbase ?_
    intro g cap2 w4 hown ho hloc hg
    rw [show (L ++ [⟨nm, (x : Int)⟩] : List Di).length = L.length + 1 by simp] at hown
    have hne3 : ¬ some g3 = (Value.slice va L.length vc).ownBlock := fun e => by have := (HD.out.own.lt g3 e.symm).1; omega
    have k6 := (ho.cell (o := 6) HD.out.box.hi hne3).trans (HD.out.box.cell 6)
    have f6 := (ho.frozen (o := 6) HD.out.box.hi hne3).trans (HD.out.box.fro 6)
    have HE := Hid.intro (HD.out.put ho hown)
    have k6 : w4.cell? ⟨g3, 6, none⟩ = some (.slice va L.length vc) := k6
    clear HD hown ho hloc hg hnews hbase cM hne3 bM
    go_simp
    refine hKK.out _ _ trivial (fun hHeld2 => ?_)
    clear hKK KK hHeld
    have hHeld := hHeld2
    clear hHeld2
    refine tkk 9 34 (v := ?_) ?_ ?_
    rotate_left 1
    ·intro w hSw
     go_simp <;> with_reducible rfl
    simp only [Act.put, List.setIfInBounds_toArray]
    try simp only [List.set_cons_succ]
    try simp only [List.set_cons_zero]
    refine wpAnyH_ready (rs := [10]) (by kernel_rfl) (by simp) ?_
    refine (AllReadyH.cons rfl (fun KK hKK => ?_) AllReadyH.nil)
    go_simp
    generalize w4.setCell ⟨g3, 6, none⟩ _ = w5 at HE ⊢
    clear k6 f6
    refine hKK.out _ _ trivial (fun hHeld2 => ?_)
    clear hKK KK hHeld
    have hHeld := hHeld2
    clear hHeld2
    refine wpAnyH_done (by kernel_rfl) ?_ _
    clear hHeld
    go_wp2
    go_roundw
    case rel => exact ⟨L.length + 1, q2, _, L ++ [⟨nm, (x : Int)⟩], by go_num, by omega, by simp, s2, HN2, HE⟩
    case measure => simp [intOf]; omega
   ·skip
    go_simp
    refine (pieceC_any b q D HD.out.cur sq).mono ?_
    rintro e x1 (⟨nm, q1, rfl, G1, c1, s1, o1⟩ | ⟨⟨pv, rfl⟩, G1, o1⟩)
    rotate_left 1
    ·have HP : Hid (inoO q0.data.toList = none) := by
      unfold Hid
      rw [HIO.out, HN.out, nmsO_no1 (by omega) G1.out]
      rfl
     have B9 := HD.out.only.trans o1
     clear HD hKK
     go_simp
     go_wp2
     exact ⟨rfl, .inr ⟨⟨_, rfl⟩, HP, B9⟩⟩
    replace HD := Hid.intro (HD.out.step o1 c1)
    clear o1 c1
    go_simp
    refine hKK.out _ _ trivial (fun hHeld2 => ?_)
    clear hKK KK hHeld
    have hHeld := hHeld2
    clear hHeld2
    refine wpAnyH_ready (rs := [1, 5]) (by kernel_rfl) (by simp) ?_
    refine (AllReadyH.cons rfl (fun KK hKK => ?_) (AllReadyH.cons rfl (fun KK hKK => ?_) AllReadyH.nil))
    ·skip
     have k6 : x1.cell? ⟨g3, 6, none⟩ = some (.slice va L.length vc) := HD.out.box.cell 6
     go_simp
     refine hKK.out _ _ trivial (fun hHeld2 => ?_)
     clear hKK KK hHeld
     have hHeld := hHeld2
     clear hHeld2
     clear k6
     refine wpAnyH_ready (rs := [5]) (by kernel_rfl) (by simp) ?_
     refine (AllReadyH.cons rfl (fun KK hKK => ?_) AllReadyH.nil)
     go_simp
     refine (number_any b q1 x1 HD.out.cur s1).mono ?_
     rintro e x2 (⟨x, q2, rfl, hn, rfl⟩ | ⟨⟨pv, rfl⟩, hn, rfl⟩)
     rotate_left 1
     ·have HP : Hid (inoO q0.data.toList = none) := by
       unfold Hid
       rw [HIO.out, HN.out, nmsO_no2 (by omega) G1.out (numO_no hn)]
       rfl
      have B9 := HD.out.only
      clear HD hKK hn
      go_simp
      go_wp2
      exact ⟨rfl, .inr ⟨⟨_, rfl⟩, HP, B9⟩⟩
     have HN2 : Hid (nmsO n q9.data.toList = (nmsO (n - (L.length + 1)) q2.data.toList).map fun y => ((L ++ [⟨nm, (x : Int)⟩]) ++ y.1, y.2)) := by
      unfold Hid
      rw [HN.out, nmsO_yes (by omega) G1.out (numO_yes hn), Nat.sub_sub, ba_of]
      cases nmsO (n - (L.length + 1)) q2.data.toList <;> simp
     have s2 : q2.size ≤ 1048576 := num_size hn s1
     replace HD := Hid.intro (HD.out.step (ob_set b _ (.string q2)) HD.out.cur.set)
     clear hn HN
     revert HD
     generalize World.setCell x1 ⟨b, 0, none⟩ (.string q2) = x2
     intro HD
     go_simp
     refine hKK.out _ _ trivial (fun hHeld2 => ?_)
     clear hKK KK hHeld
     have hHeld := hHeld2
     clear hHeld2
     refine tkk 6 31 (v := ?_) ?_ ?_
     rotate_left 1
     ·intro w hSw
      go_simp <;> with_reducible rfl
     simp only [Act.put, List.setIfInBounds_toArray]
     try simp only [List.set_cons_succ]
     try simp only [List.set_cons_zero]
     refine wpAnyH_ready (rs := [7]) (by kernel_rfl) (by simp) ?_
     refine (AllReadyH.cons rfl (fun KK hKK => ?_) AllReadyH.nil)
     go_simp
     have bM : Below x2.heap.size x2 (x2.alloc (.cells #[.string nm, .int .i64 (x : Nat)] 102)) := one_below _ _
     have cM : ∀ o, (x2.alloc (.cells #[.string nm, .int .i64 (x : Nat)] 102)).cell? ⟨x2.heap.size, o, none⟩ = #[Value.string nm, .int .i64 (x : Nat)][o]? := fun o => World.cell?_alloc_at _ _ _ _ rfl
     replace HD := Hid.intro (HD.out.kept bM)
     revert HD cM
     generalize x2.alloc (.cells #[.string nm, .int .i64 (x : Nat)] 102) = M at bM
     generalize x2.heap.size = sb
     intro cM HD
     refine hKK.out _ _ trivial (fun hHeld2 => ?_)
     clear hKK KK hHeld
     have hHeld := hHeld2
     clear hHeld2
     refine wpAnyH_ready (rs := [8]) (by kernel_rfl) (by simp) ?_
     refine (AllReadyH.cons rfl (fun KK hKK => ?_) AllReadyH.nil)
     have hnews : ∀ j u, (diE.f [⟨nm, (x : Int)⟩])[j]? = some u → M.cell? ((⟨sb, 0, none⟩ : Addr).add j) = some u := fun j u hj => by
      rw [add_none, Nat.zero_add, cM]
      simpa [diE, Enc.f] using hj
     have hbase : g3 + 1 ≤ M.heap.size := HD.out.box.hi
     refine step_Di rfl _ _ rfl (g3 + 1) (.slice va L.length vc) L ⟨nm, (x : Int)⟩ rfl HD.out.own ⟨sb, 0, none⟩ 1 rfl hnews (by omega) hbase ?_
     intro g cap2 w4 hown ho hloc hg
     rw [show (L ++ [⟨nm, (x : Int)⟩] : List Di).length = L.length + 1 by simp] at hown
     have hne3 : ¬ some g3 = (Value.slice va L.length vc).ownBlock := fun e => by have := (HD.out.own.lt g3 e.symm).1; omega
     have k6 := (ho.cell (o := 6) HD.out.box.hi hne3).trans (HD.out.box.cell 6)
     have f6 := (ho.frozen (o := 6) HD.out.box.hi hne3).trans (HD.out.box.fro 6)
     have HE := Hid.intro (HD.out.put ho hown)
     have k6 : w4.cell? ⟨g3, 6, none⟩ = some (.slice va L.length vc) := k6
     clear HD hown ho hloc hg hnews hbase cM hne3 bM
     go_simp
     refine hKK.out _ _ trivial (fun hHeld2 => ?_)
     clear hKK KK hHeld
     have hHeld := hHeld2
     clear hHeld2
     refine tkk 9 34 (v := ?_) ?_ ?_
     rotate_left 1
     ·intro w hSw
      go_simp <;> with_reducible rfl
     simp only [Act.put, List.setIfInBounds_toArray]
     try simp only [List.set_cons_succ]
     try simp only [List.set_cons_zero]
     refine wpAnyH_ready (rs := [10]) (by kernel_rfl) (by simp) ?_
     refine (AllReadyH.cons rfl (fun KK hKK => ?_) AllReadyH.nil)
     go_simp
     generalize w4.setCell ⟨g3, 6, none⟩ _ = w5 at HE ⊢
     clear k6 f6
     refine hKK.out _ _ trivial (fun hHeld2 => ?_)
     clear hKK KK hHeld
     have hHeld := hHeld2
     clear hHeld2
     refine wpAnyH_done (by kernel_rfl) ?_ _
     clear hHeld
     go_wp2
     go_roundw
     case rel => exact ⟨L.length + 1, q2, _, L ++ [⟨nm, (x : Int)⟩], by go_num, by omega, by simp, s2, HN2, HE⟩
     case measure => simp [intOf]; omega
    ·skip
     go_simp
     refine (number_any b q1 x1 HD.out.cur s1).mono ?_
     rintro e x2 (⟨x, q2, rfl, hn, rfl⟩ | ⟨⟨pv, rfl⟩, hn, rfl⟩)
     rotate_left 1
     ·have HP : Hid (inoO q0.data.toList = none) := by
       unfold Hid
       rw [HIO.out, HN.out, nmsO_no2 (by omega) G1.out (numO_no hn)]
       rfl
      have B9 := HD.out.only
      clear HD hKK hn
      go_simp
      go_wp2
      exact ⟨rfl, .inr ⟨⟨_, rfl⟩, HP, B9⟩⟩
     have HN2 : Hid (nmsO n q9.data.toList = (nmsO (n - (L.length + 1)) q2.data.toList).map fun y => ((L ++ [⟨nm, (x : Int)⟩]) ++ y.1, y.2)) := by
      unfold Hid
      rw [HN.out, nmsO_yes (by omega) G1.out (numO_yes hn), Nat.sub_sub, ba_of]
      cases nmsO (n - (L.length + 1)) q2.data.toList <;> simp
     have s2 : q2.size ≤ 1048576 := num_size hn s1
     replace HD := Hid.intro (HD.out.step (ob_set b _ (.string q2)) HD.out.cur.set)
     clear hn HN
     revert HD
     generalize World.setCell x1 ⟨b, 0, none⟩ (.string q2) = x2
     intro HD
     go_simp
     refine hKK.out _ _ trivial (fun hHeld2 => ?_)
     clear hKK KK hHeld
     have hHeld := hHeld2
     clear hHeld2
     refine tkk 6 31 (v := ?_) ?_ ?_
     rotate_left 1
     ·intro w hSw
      go_simp <;> with_reducible rfl
     simp only [Act.put, List.setIfInBounds_toArray]
     try simp only [List.set_cons_succ]
     try simp only [List.set_cons_zero]
     refine wpAnyH_ready (rs := [1, 7]) (by kernel_rfl) (by simp) ?_
     refine (AllReadyH.cons rfl (fun KK hKK => ?_) (AllReadyH.cons rfl (fun KK hKK => ?_) AllReadyH.nil))
     ·skip
      have k6 : x2.cell? ⟨g3, 6, none⟩ = some (.slice va L.length vc) := HD.out.box.cell 6
      go_simp
      refine hKK.out _ _ trivial (fun hHeld2 => ?_)
      clear hKK KK hHeld
      have hHeld := hHeld2
      clear hHeld2
      clear k6
      refine wpAnyH_ready (rs := [7]) (by kernel_rfl) (by simp) ?_
      refine (AllReadyH.cons rfl (fun KK hKK => ?_) AllReadyH.nil)
      go_simp
      have bM : Below x2.heap.size x2 (x2.alloc (.cells #[.string nm, .int .i64 (x : Nat)] 102)) := one_below _ _
      have cM : ∀ o, (x2.alloc (.cells #[.string nm, .int .i64 (x : Nat)] 102)).cell? ⟨x2.heap.size, o, none⟩ = #[Value.string nm, .int .i64 (x : Nat)][o]? := fun o => World.cell?_alloc_at _ _ _ _ rfl
      replace HD := Hid.intro (HD.out.kept bM)
      revert HD cM
      generalize x2.alloc (.cells #[.string nm, .int .i64 (x : Nat)] 102) = M at bM
      generalize x2.heap.size = sb
      intro cM HD
      refine hKK.out _ _ trivial (fun hHeld2 => ?_)
      clear hKK KK hHeld
      have hHeld := hHeld2
      clear hHeld2
      refine wpAnyH_ready (rs := [8]) (by kernel_rfl) (by simp) ?_
      refine (AllReadyH.cons rfl (fun KK hKK => ?_) AllReadyH.nil)
      have hnews : ∀ j u, (diE.f [⟨nm, (x : Int)⟩])[j]? = some u → M.cell? ((⟨sb, 0, none⟩ : Addr).add j) = some u := fun j u hj => by
       rw [add_none, Nat.zero_add, cM]
       simpa [diE, Enc.f] using hj
      have hbase : g3 + 1 ≤ M.heap.size := HD.out.box.hi
      refine step_Di rfl _ _ rfl (g3 + 1) (.slice va L.length vc) L ⟨nm, (x : Int)⟩ rfl HD.out.own ⟨sb, 0, none⟩ 1 rfl hnews (by omega) hbase ?_
      intro g cap2 w4 hown ho hloc hg
      rw [show (L ++ [⟨nm, (x : Int)⟩] : List Di).length = L.length + 1 by simp] at hown
      have hne3 : ¬ some g3 = (Value.slice va L.length vc).ownBlock := fun e => by have := (HD.out.own.lt g3 e.symm).1; omega
      have k6 := (ho.cell (o := 6) HD.out.box.hi hne3).trans (HD.out.box.cell 6)
      have f6 := (ho.frozen (o := 6) HD.out.box.hi hne3).trans (HD.out.box.fro 6)
      have HE := Hid.intro (HD.out.put ho hown)
      have k6 : w4.cell? ⟨g3, 6, none⟩ = some (.slice va L.length vc) := k6
      clear HD hown ho hloc hg hnews hbase cM hne3 bM
      go_simp
      refine hKK.out _ _ trivial (fun hHeld2 => ?_)
      clear hKK KK hHeld
      have hHeld := hHeld2
      clear hHeld2
      refine tkk 9 34 (v := ?_) ?_ ?_
      rotate_left 1
      ·intro w hSw
       go_simp <;> with_reducible rfl
      simp only [Act.put, List.setIfInBounds_toArray]
      try simp only [List.set_cons_succ]
      try simp only [List.set_cons_zero]
      refine wpAnyH_ready (rs := [10]) (by kernel_rfl) (by simp) ?_
      refine (AllReadyH.cons rfl (fun KK hKK => ?_) AllReadyH.nil)
      go_simp
      generalize w4.setCell ⟨g3, 6, none⟩ _ = w5 at HE ⊢
      clear k6 f6
      refine hKK.out _ _ trivial (fun hHeld2 => ?_)
      clear hKK KK hHeld
      have hHeld := hHeld2
      clear hHeld2
      refine wpAnyH_done (by kernel_rfl) ?_ _
      clear hHeld
      go_wp2
      go_roundw
      case rel => exact ⟨L.length + 1, q2, _, L ++ [⟨nm, (x : Int)⟩], by go_num, by omega, by simp, s2, HN2, HE⟩
      case measure => simp [intOf]; omega
     ·skip
      go_simp
      have bM : Below x2.heap.size x2 (x2.alloc (.cells #[.string nm, .int .i64 (x : Nat)] 102)) := one_below _ _
      have cM : ∀ o, (x2.alloc (.cells #[.string nm, .int .i64 (x : Nat)] 102)).cell? ⟨x2.heap.size, o, none⟩ = #[Value.string nm, .int .i64 (x : Nat)][o]? := fun o => World.cell?_alloc_at _ _ _ _ rfl
      replace HD := Hid.intro (HD.out.kept bM)
      revert HD cM
      generalize x2.alloc (.cells #[.string nm, .int .i64 (x : Nat)] 102) = M at bM
      generalize x2.heap.size = sb
      intro cM HD
      refine hKK.out _ _ trivial (fun hHeld2 => ?_)
      clear hKK KK hHeld
      have hHeld := hHeld2
      clear hHeld2
      refine wpAnyH_ready (rs := [1]) (by kernel_rfl) (by simp) ?_
      refine (AllReadyH.cons rfl (fun KK hKK => ?_) AllReadyH.nil)
      have k6 : M.cell? ⟨g3, 6, none⟩ = some (.slice va L.length vc) := HD.out.box.cell 6
      go_simp
      refine hKK.out _ _ trivial (fun hHeld2 => ?_)
      clear hKK KK hHeld
      have hHeld := hHeld2
      clear hHeld2
      clear k6
      refine wpAnyH_ready (rs := [8]) (by kernel_rfl) (by simp) ?_
      refine (AllReadyH.cons rfl (fun KK hKK => ?_) AllReadyH.nil)
      have hnews : ∀ j u, (diE.f [⟨nm, (x : Int)⟩])[j]? = some u → M.cell? ((⟨sb, 0, none⟩ : Addr).add j) = some u := fun j u hj => by
       rw [add_none, Nat.zero_add, cM]
       simpa [diE, Enc.f] using hj
      have hbase : g3 + 1 ≤ M.heap.size := HD.out.box.hi
      refine step_Di rfl _ _ rfl (g3 + 1) (.slice va L.length vc) L ⟨nm, (x : Int)⟩ rfl HD.out.own ⟨sb, 0, none⟩ 1 rfl hnews (by omega) hbase ?_
      intro g cap2 w4 hown ho hloc hg
      rw [show (L ++ [⟨nm, (x : Int)⟩] : List Di).length = L.length + 1 by simp] at hown
      have hne3 : ¬ some g3 = (Value.slice va L.length vc).ownBlock := fun e => by have := (HD.out.own.lt g3 e.symm).1; omega
      have k6 := (ho.cell (o := 6) HD.out.box.hi hne3).trans (HD.out.box.cell 6)
      have f6 := (ho.frozen (o := 6) HD.out.box.hi hne3).trans (HD.out.box.fro 6)
      have HE := Hid.intro (HD.out.put ho hown)
      have k6 : w4.cell? ⟨g3, 6, none⟩ = some (.slice va L.length vc) := k6
      clear HD hown ho hloc hg hnews hbase cM hne3 bM
      go_simp
      refine hKK.out _ _ trivial (fun hHeld2 => ?_)
      clear hKK KK hHeld
      have hHeld := hHeld2
      clear hHeld2
      refine tkk 9 34 (v := ?_) ?_ ?_
      rotate_left 1
      ·intro w hSw
       go_simp <;> with_reducible rfl
      simp only [Act.put, List.setIfInBounds_toArray]
      try simp only [List.set_cons_succ]
      try simp only [List.set_cons_zero]
      refine wpAnyH_ready (rs := [10]) (by kernel_rfl) (by simp) ?_
      refine (AllReadyH.cons rfl (fun KK hKK => ?_) AllReadyH.nil)
      go_simp
      generalize w4.setCell ⟨g3, 6, none⟩ _ = w5 at HE ⊢
      clear k6 f6
      refine hKK.out _ _ trivial (fun hHeld2 => ?_)
      clear hKK KK hHeld
      have hHeld := hHeld2
      clear hHeld2
      refine wpAnyH_done (by kernel_rfl) ?_ _
      clear hHeld
      go_wp2
      go_roundw
      case rel => exact ⟨L.length + 1, q2, _, L ++ [⟨nm, (x : Int)⟩], by go_num, by omega, by simp, s2, HN2, HE⟩
      case measure => simp [intOf]; omega
  ·have hjn : ¬ (L.length : Int) < (n : Int) := by omega
   have e0 : n - L.length = 0 := by omega
   have HP : Hid (inoO q0.data.toList = some (⟨(id : Nat), (kind : Nat), (mode : Nat), (uid : Nat), (gid : Nat), data, L, (maxb : Nat), (maxi : Nat)⟩, q.data.toList)) := by
    unfold Hid
    rw [HIO.out, HN.out, e0]
    simp [nmsO]
   obtain ⟨va, vc, rfl⟩ := HI.out.own.slice
   clear HIO HN
   have k0 : wr.cell? ⟨g3, 0, none⟩ = some (.int .i64 (id : Nat)) := HI.out.box.cell 0
   have r0 : wr.cell? ⟨w.heap.size, 0, none⟩ = some (.int .i64 0) := HI.out.res.cell 0
   have f0 : wr.frozen? ⟨w.heap.size, 0, none⟩ = false := HI.out.res.fro 0
   have k1 : wr.cell? ⟨g3, 1, none⟩ = some (.int .i64 (kind : Nat)) := HI.out.box.cell 1
   have r1 : wr.cell? ⟨w.heap.size, 1, none⟩ = some (.int .i64 0) := HI.out.res.cell 1
   have f1 : wr.frozen? ⟨w.heap.size, 1, none⟩ = false := HI.out.res.fro 1
   have k2 : wr.cell? ⟨g3, 2, none⟩ = some (.int .i64 (mode : Nat)) := HI.out.box.cell 2
   have r2 : wr.cell? ⟨w.heap.size, 2, none⟩ = some (.int .i64 0) := HI.out.res.cell 2
   have f2 : wr.frozen? ⟨w.heap.size, 2, none⟩ = false := HI.out.res.fro 2
   have k3 : wr.cell? ⟨g3, 3, none⟩ = some (.int .i64 (uid : Nat)) := HI.out.box.cell 3
   have r3 : wr.cell? ⟨w.heap.size, 3, none⟩ = some (.int .i64 0) := HI.out.res.cell 3
   have f3 : wr.frozen? ⟨w.heap.size, 3, none⟩ = false := HI.out.res.fro 3
   have k4 : wr.cell? ⟨g3, 4, none⟩ = some (.int .i64 (gid : Nat)) := HI.out.box.cell 4
   have r4 : wr.cell? ⟨w.heap.size, 4, none⟩ = some (.int .i64 0) := HI.out.res.cell 4
   have f4 : wr.frozen? ⟨w.heap.size, 4, none⟩ = false := HI.out.res.fro 4
   have k5 : wr.cell? ⟨g3, 5, none⟩ = some (.string data) := HI.out.box.cell 5
   have r5 : wr.cell? ⟨w.heap.size, 5, none⟩ = some (.string ⟨#[]⟩) := HI.out.res.cell 5
   have f5 : wr.frozen? ⟨w.heap.size, 5, none⟩ = false := HI.out.res.fro 5
   have k6 : wr.cell? ⟨g3, 6, none⟩ = some (.slice va L.length vc) := HI.out.box.cell 6
   have r6 : wr.cell? ⟨w.heap.size, 6, none⟩ = some (.slice none 0 0) := HI.out.res.cell 6
   have f6 : wr.frozen? ⟨w.heap.size, 6, none⟩ = false := HI.out.res.fro 6
   have k7 : wr.cell? ⟨g3, 7, none⟩ = some (.int .i64 (maxb : Nat)) := HI.out.box.cell 7
   have r7 : wr.cell? ⟨w.heap.size, 7, none⟩ = some (.int .i64 0) := HI.out.res.cell 7
   have f7 : wr.frozen? ⟨w.heap.size, 7, none⟩ = false := HI.out.res.fro 7
   have k8 : wr.cell? ⟨g3, 8, none⟩ = some (.int .i64 (maxi : Nat)) := HI.out.box.cell 8
   have r8 : wr.cell? ⟨w.heap.size, 8, none⟩ = some (.int .i64 0) := HI.out.res.cell 8
   have f8 : wr.frozen? ⟨w.heap.size, 8, none⟩ = false := HI.out.res.fro 8
   have hne3 : ¬ w.heap.size = g3 := by have := HI.out.lt; omega
   have HO := set9_only w.heap.size wr (.int .i64 (id : Nat)) (.int .i64 (kind : Nat)) (.int .i64 (mode : Nat)) (.int .i64 (uid : Nat)) (.int .i64 (gid : Nat)) (.string data) (.slice va L.length vc) (.int .i64 (maxb : Nat)) (.int .i64 (maxi : Nat))
   have hlt3 := HI.out.lt
   go_wp2
   refine bodyPost_ret (v := ndV ⟨(id : Nat), (kind : Nat), (mode : Nat), (uid : Nat), (gid : Nat), data, L, (maxb : Nat), (maxi : Nat)⟩ (.slice va L.length vc)) (by simp [results, Tryz.results63, go_sem, r0, r1, r2, r3, r4, r5, r6, r7, r8]) rfl (.inl ⟨_, _, q, rfl, HP, HI.out.cur.only HO (fun e => by omega), sq, ?_, HI.out.only.then HO (fun x hx e => by omega)⟩)
   exact (HI.out.own.only HO (fun k hk e => by have := (HI.out.own.lt k hk).1; omega)).lower (by omega)
end Go.Proofs.YtknckbedddeijaaGreat
namespace Go.Proofs.YtknckbedddeijaaGreat
open Go.RowKit
set_option linter.unusedVariables false
/-- What is left of a measure: never more than there was; it is below 0 or the things counted fit. -/
def SzP (left n : Int) (m : Nat) : Prop := n ≤ left ∧ -1 ≤ n ∧ (0 ≤ n → (m : Int) ≤ left)
theorem info_parts {t : TypeId} {z : Option Value} {s b : Nat} (h : (Tryz.prog.info? t).map (fun i => (i.zero, i.size, i.bytes)) = some (z, s, b)) : ∃ i, Tryz.prog.info? t = some i ∧ i.zero = z ∧ i.size = s ∧ i.bytes = b := by
 cases hi : Tryz.prog.info? t with
 | none => rw [hi] at h; cases h
 | some i =>
  rw [hi] at h
  simp only [Option.map_some, Option.some.injEq, Prod.mk.injEq] at h
  exact ⟨i, rfl, h.1, h.2.1, h.2.2⟩
theorem infoI' : (Tryz.prog.info? 3).map (fun i => (i.zero, i.size, i.bytes)) = some (some (.int .i64 0), 1, 8) := by kernel_rfl
theorem infoD' : (Tryz.prog.info? 102).map (fun i => (i.zero, i.size, i.bytes)) = some (some (.agg #[.string ⟨#[]⟩, .int .i64 0]), 2, 24) := by kernel_rfl
theorem infoI : ∃ i, Tryz.prog.info? 3 = some i ∧ i.zero = some (.int .i64 0) ∧ i.size = 1 ∧ i.bytes = 8 := info_parts infoI'
theorem infoD : ∃ i, Tryz.prog.info? 102 = some i ∧ i.zero = some (.agg #[.string ⟨#[]⟩, .int .i64 0]) ∧ i.size = 2 ∧ i.bytes = 24 := info_parts infoD'
set_option maxHeartbeats 1000000 in
theorem eqDirent_any (d : Di) (w : World) :
  Calls Tryz.prog 97 #[.agg #[.string d.nm, .int .i64 d.id], .agg #[.string d.nm, .int .i64 d.id]] w fun e w' => e = .returned (.bool true) ∧ Below w.heap.size w w' := by
 go_enter Tryz.func97, Tryz.ntmps97
 go_wp2
 go_ret
 exact ⟨rfl, two_below _ _ _⟩
set_option maxRecDepth 100000 in
set_option maxHeartbeats 2000000 in
theorem eqDirentS_any (L : List Di) (v1 v2 : Value) (N : Nat) (w : World) (hN : N ≤ w.heap.size) (h1 : Row diE w N v1 L) (h2 : Row diE w N v2 L) :
  Calls Tryz.prog 84 #[v1, v2] w fun e w' => e = .returned (.bool true) ∧ Below w.heap.size w w' := by
 obtain ⟨a1, cap1, rfl, l1, m1, hc1⟩ := diE_cell h1
 obtain ⟨a2, cap2, rfl, l2, m2, hc2⟩ := diE_cell h2
 have H1 := Hid.intro hc1
 have H2 := Hid.intro hc2
 clear hc1 hc2 h1 h2
 go_enter Tryz.func84, Tryz.ntmps84
 go_wp2
 go_loopw [5] (fun i wr => ∃ (j : Nat), i = .int .i64 j ∧ j ≤ L.length ∧ Below w.heap.size w wr) (fun i _ => L.length - (intOf i).toNat)
 case atStart => exact ⟨0, rfl, Nat.zero_le _, Below.refl _ _⟩
 case round =>
  obtain ⟨j, rfl, hj, hbel⟩ := hrel
  by_cases hlt : j < L.length
  ·have hne : L ≠ [] := by intro h; rw [h] at hlt; simp at hlt
   obtain ⟨b1, o1, rfl, hb1, cc1⟩ := H1.out hne
   obtain ⟨b2, o2, rfl, hb2, cc2⟩ := H2.out hne
   obtain ⟨p0, p1⟩ := cc1 j hlt
   obtain ⟨q0, q1⟩ := cc2 j hlt
   generalize L[j] = ej at p0 p1 q0 q1
   have hs := hbel.size
   have HC : Hid (∀ w', Below wr.heap.size wr w' → Below w.heap.size w w') := fun w' hb => hbel.trans (hb.mono hs)
   have hp0 := atCell hbel p0 (by omega)
   have hp1 := atCell hbel p1 (by omega)
   have hq0 := atCell hbel q0 (by omega)
   have hq1 := atCell hbel q1 (by omega)
   have i1 : (0 : Int) ≤ (j : Int) ∧ (j : Int) < (L.length : Int) := by omega
   have HJ : Hid (j < L.length) := hlt
   have hjl : (j : Int) < (L.length : Int) := by omega
   clear cc1 cc2 p0 p1 q0 q1 hne
   go_wp2
   go_region_with (go_at_call 97; refine (eqDirent_any _ _).mono ?_; rintro e w2 ⟨rfl, b2⟩; have B2 := HC.out w2 (by first | exact b2 | exact ((Below.refl _ _).drew).trans b2 | exact ((Below.refl _ _).drew.drew).trans b2); clear b2)
   all_goals
    clear HC
    go_wp2
    go_roundw
    case rel => exact ⟨j + 1, by go_num, by omega, B2⟩
    case measure => simp [intOf]; omega
  ·obtain rfl : j = L.length := by omega
   go_wp2
   go_ret
   exact ⟨rfl, hbel⟩
end Go.Proofs.YtknckbedddeijaaGreat
namespace Go.Proofs.YtknckbedddeijaaGreat
open Go.RowKit
set_option linter.unusedVariables false
theorem New.slice {α : Type} {E : Enc α} {T : TypeId} {w w' : World} {v : Value} {L : List α} (h : New E T w w' v L) : ∃ a cap, v = .slice a L.length cap := h.own.slice
set_option maxHeartbeats 2000000 in
theorem eqInode_any (n : Nd) (v1 v2 : Value) (N : Nat) (w : World) (hN : N ≤ w.heap.size) (h1 : Row diE w N v1 n.names) (h2 : Row diE w N v2 n.names) :
  Calls Tryz.prog 70 #[ndV n v1, ndV n v2] w fun e w' => e = .returned (.bool true) ∧ Below w.heap.size w w' := by
 have H1 := Hid.intro h1
 have H2 := Hid.intro h2
 clear h1 h2
 go_enter Tryz.func70, Tryz.ntmps70
 go_wp2_with fail
 obtain ⟨W, hW, bW, zW, c1, f1, c2, f2⟩ := boxed2 w (ndA n v1) (ndA n v2) 76 76
 try simp only [hW]
 refine (eqDirentS_any n.names v1 v2 N W (by omega) (H1.out.kept (bW.mono hN)) (H2.out.kept (bW.mono hN))).mono ?_
 rintro e w1 ⟨rfl, b1⟩
 replace c1 := keepC b1 (by omega) c1
 replace c2 := keepC b1 (by omega) c2
 have HB := Hid.intro (bW.trans (b1.mono (by omega)))
 clear hW bW b1 f1 f2
 go_wp2
 go_ret
 exact ⟨rfl, HB.out⟩
end Go.Proofs.YtknckbedddeijaaGreat
namespace Go.Proofs.YtknckbedddeijaaGreat
open Go.RowKit
set_option linter.unusedVariables false
theorem infoN' : (Tryz.prog.info? 76).map (fun i => (i.zero, i.size, i.bytes)) = some (some (.agg #[.int .i64 0, .int .i64 0, .int .i64 0, .int .i64 0, .int .i64 0, .string ⟨#[]⟩, .slice none 0 0, .int .i64 0, .int .i64 0]), 9, 96) := by kernel_rfl
theorem infoN : ∃ i, Tryz.prog.info? 76 = some i ∧ i.zero = some (.agg #[.int .i64 0, .int .i64 0, .int .i64 0, .int .i64 0, .int .i64 0, .string ⟨#[]⟩, .slice none 0 0, .int .i64 0, .int .i64 0]) ∧ i.size = 9 ∧ i.bytes = 96 := info_parts infoN'
/-- So many names and inodes. -/
def sizeL (L : List Nd) : Nat := L.length + (L.map fun n => n.names.length).sum
/-- Of each inode so many names at most. -/
def NmL (L : List Np) (m : Int) : Prop := ∀ p ∈ L, (p.n.names.length : Int) ≤ m
set_option maxRecDepth 100000 in
set_option maxHeartbeats 4000000 in
theorem eqInodeS_any (L1 L2 : List Np) (v1 v2 : Value) (N : Nat) (w : World) (hN : N ≤ w.heap.size) (h1 : VolR w N v1 L1) (h2 : VolR w N v2 L2) (he : L1.map Np.n = L2.map Np.n) :
  Calls Tryz.prog 55 #[v1, v2] w fun e w' => e = .returned (.bool true) ∧ Below w.heap.size w w' := by
 obtain ⟨a1, cap1, rfl, l1, m1, hc1⟩ := ndE_cell h1.row
 obtain ⟨a2, cap2, rfl, l2, m2, hc2⟩ := ndE_cell h2.row
 have hlen : L1.length = L2.length := by simpa using congrArg List.length he
 have H1 := Hid.intro hc1
 have H2 := Hid.intro hc2
 have M1 := Hid.intro h1.nms
 have M2 := Hid.intro h2.nms
 have HE := Hid.intro he
 clear hc1 hc2 h1 h2 he
 obtain ⟨m, hL2⟩ : ∃ m, L2.length = m := ⟨_, rfl⟩
 rw [hlen] at l1 ⊢
 rw [hL2] at l1 l2 ⊢
 go_enter Tryz.func55, Tryz.ntmps55
 go_wp2
 go_loopw [5] (fun i wr => ∃ (j : Nat), i = .int .i64 j ∧ j ≤ m ∧ Below w.heap.size w wr) (fun i _ => m - (intOf i).toNat)
 case atStart => exact ⟨0, rfl, Nat.zero_le _, Below.refl _ _⟩
 case round =>
  obtain ⟨j, rfl, hj, hbel⟩ := hrel
  by_cases hlt : j < m
  ·obtain ⟨b1, o1, rfl, hb1, cc1⟩ := H1.out (by intro h; rw [h] at hlen; simp only [List.length_nil] at hlen; omega)
   obtain ⟨b2, o2, rfl, hb2, cc2⟩ := H2.out (by intro h; rw [h] at hL2; simp only [List.length_nil] at hL2; omega)
   have p := cc1 j (by omega)
   have q := cc2 j (by omega)
   have r1 := M1.out _ (List.getElem_mem (show j < L1.length by omega))
   have r2 := M2.out _ (List.getElem_mem (show j < L2.length by omega))
   have hn : L1[j].n = L2[j].n := by
    have : (L1.map Np.n)[j]? = (L2.map Np.n)[j]? := by rw [HE.out]
    simpa [List.getElem?_eq_getElem (show j < L1.length by omega), List.getElem?_eq_getElem (show j < L2.length by omega)] using this
   generalize L1[j] = ej at p r1 hn
   generalize L2[j] = ek at q r2 hn
   obtain ⟨nj, aj, cj⟩ := ej
   obtain ⟨nk, ak, ck⟩ := ek
   simp only [Np.v] at p q r1 r2 hn
   subst hn
   have hs := hbel.size
   have HC : Hid (∀ w', Below wr.heap.size wr w' → Below w.heap.size w w') := fun w' hb => hbel.trans (hb.mono hs)
   have HR1 := Hid.intro (r1.kept (hbel.mono hN))
   have HR2 := Hid.intro (r2.kept (hbel.mono hN))
   obtain ⟨x0, x1, x2, x3, x4, x5, x6, x7, x8⟩ := p.kept hbel (by omega)
   obtain ⟨y0, y1, y2, y3, y4, y5, y6, y7, y8⟩ := q.kept hbel (by omega)
   have i1 : (0 : Int) ≤ (j : Int) ∧ (j : Int) < (m : Int) := by omega
   have HJ : Hid (j < m) := hlt
   have hjl : (j : Int) < (m : Int) := by omega
   clear cc1 cc2 p q r1 r2
   go_wp2
   go_region_with (go_at_call 70; refine (eqInode_any nj _ _ N _ (by simp [go_sem] <;> omega) (by first | exact HR1.out | exact HR1.out.kept (Below.refl _ _).drew | exact HR1.out.kept (Below.refl _ _).drew.drew) (by first | exact HR2.out | exact HR2.out.kept (Below.refl _ _).drew | exact HR2.out.kept (Below.refl _ _).drew.drew)).mono ?_; rintro e w2 ⟨rfl, b2⟩; have B2 := HC.out w2 (by first | exact b2 | exact ((Below.refl _ _).drew).trans b2 | exact ((Below.refl _ _).drew.drew).trans b2); clear b2)
   all_goals
    clear HC
    go_wp2
    go_roundw
    case rel => exact ⟨j + 1, by go_num, by omega, B2⟩
    case measure => simp [intOf]; omega
  ·obtain rfl : j = m := by omega
   go_wp2
   go_ret
   exact ⟨rfl, hbel⟩
end Go.Proofs.YtknckbedddeijaaGreat
namespace Go.Proofs.YtknckbedddeijaaGreat
open Go.RowKit
set_option linter.unusedVariables false
theorem setC_out (g : Nat) (us : List Value) : ∀ (u : World) (o q : Nat), (q < o ∨ o + us.length ≤ q) → (setC u g o us).cell? ⟨g, q, none⟩ = u.cell? ⟨g, q, none⟩ := by
 induction us with
 | nil => intro u o q _; rfl
 | cons x us ih =>
  intro u o q h
  simp only [List.length_cons] at h
  rw [setC, ih _ _ _ (by omega)]
  exact World.cell?_setCell_other _ _ _ _ (by intro e; simp at e <;> omega)
theorem setC_in (g : Nat) (us : List Value) : ∀ (u : World) (o q : Nat), o ≤ q → q < o + us.length → (u.cell? ⟨g, q, none⟩).isSome = true → (setC u g o us).cell? ⟨g, q, none⟩ = us[q - o]? := by
 induction us with
 | nil => intro u o q h1 h2; simp at h2; omega
 | cons x us ih =>
  intro u o q h1 h2 h3
  simp only [List.length_cons] at h2
  rw [setC]
  by_cases hq : q = o
  ·subst hq
   rw [setC_out g us _ _ _ (by omega)]
   obtain ⟨y, hy⟩ := Option.isSome_iff_exists.1 h3
   simp [go_sem, hy]
  ·have e : (u.setCell ⟨g, o, none⟩ x).cell? ⟨g, q, none⟩ = u.cell? ⟨g, q, none⟩ := World.cell?_setCell_other _ _ _ _ (by intro e; simp at e <;> omega)
   rw [ih _ _ _ (by omega) (by omega) (by rw [e]; exact h3)]
   obtain ⟨d, hd⟩ : ∃ d, q - o = d + 1 := ⟨q - o - 1, by omega⟩
   rw [hd, List.getElem?_cons_succ]
   congr 1; omega
theorem setC_frozen (g : Nat) (us : List Value) : ∀ (u : World) (o q : Nat), (setC u g o us).frozen? ⟨g, q, none⟩ = u.frozen? ⟨g, q, none⟩ := by
 induction us with
 | nil => intro u o q; rfl
 | cons x us ih => intro u o q; rw [setC, ih]; simp
theorem setC_size (g : Nat) (us : List Value) : ∀ (u : World) (o : Nat), (setC u g o us).heap.size = u.heap.size := by
 induction us with
 | nil => intro u o; rfl
 | cons x us ih => intro u o; rw [setC, ih]; simp
theorem Blk.all {u : World} {g : Nat} {A : Array Value} (h : Blk u g A) (xs : List Value) (hx : xs.length = A.size) : Blk (setC u g 0 xs) g xs.toArray := by
 refine ⟨by rw [setC_size]; exact h.hi, fun q => ?_, fun q => by rw [setC_frozen]; exact h.fro q⟩
 by_cases hq : q < A.size
 ·rw [setC_in _ _ _ _ _ (by omega) (by omega) (by rw [h.cell]; simp [hq])]; simp
 ·rw [setC_out _ _ _ _ _ (by omega), h.cell, Array.getElem?_eq_none (by omega), Array.getElem?_eq_none (by simp; omega)]
theorem only_setC (u : World) (g o : Nat) (us : List Value) : Only (fun k => k = g) u (setC u g o us) := by
 refine Only.setC ?_ us o ?_
 ·rfl
 ·exact Only.refl _ _
end Go.Proofs.YtknckbedddeijaaGreat
namespace Go.Proofs.YtknckbedddeijaaGreat
open Go.RowKit
set_option linter.unusedVariables false
/-- The slice u, of memory from block base on, holds the inodes M. -/
structure VolO (w : World) (base : Nat) (u : Value) (M : List Np) : Prop where
 own : Own ndE 76 w base u M
 nms : ∀ p ∈ M, Own diE 102 w base p.v p.n.names
theorem VolO.rowAll {w : World} {base : Nat} {u : Value} {M : List Np} (h : VolO w base u M) : VolR w w.heap.size u M := ⟨h.own.rowAll, fun p hp => (h.nms p hp).rowAll⟩
theorem VolO.lower {w : World} {base base' : Nat} {u : Value} {M : List Np} (h : VolO w base u M) (hb : base' ≤ base) : VolO w base' u M := ⟨h.own.lower hb, fun p hp => (h.nms p hp).lower hb⟩
theorem VolO.kept {w w' : World} {base : Nat} {u : Value} {M : List Np} (h : VolO w base u M) (hb : Below w.heap.size w w') : VolO w' base u M := ⟨h.own.kept hb, fun p hp => (h.nms p hp).kept hb⟩
theorem VolO.only {w w' : World} {base : Nat} {S : Nat → Prop} {u : Value} {M : List Np} (h : VolO w base u M) (hb : Only S w w') (hv : ∀ k, base ≤ k → ¬ S k) : VolO w' base u M := ⟨h.own.only hb fun k hk => hv k (h.own.lt k hk).1, fun p hp => (h.nms p hp).only hb fun k hk => hv k ((h.nms p hp).lt k hk).1⟩
/-- The first inodes of a copy, with zeros behind. -/
def mixN (M : List Np) (k : Nat) : List Np := M ++ List.replicate (k - M.length) ndE.z
theorem mixN_len {M : List Np} {k : Nat} (h : M.length ≤ k) : (mixN M k).length = k := by simp [mixN]; omega
theorem mixN_nil (k : Nat) : mixN [] k = List.replicate k ndE.z := by simp [mixN]
theorem mixN_all {M : List Np} {k : Nat} (h : M.length = k) : mixN M k = M := by simp [mixN, h]
theorem mixN_step {M : List Np} {k : Nat} (h : M.length < k) (p : Np) : (mixN M k).set M.length p = mixN (M ++ [p]) k := by
 unfold mixN
 obtain ⟨m, hm⟩ : ∃ m, k - M.length = m + 1 := ⟨k - M.length - 1, by omega⟩
 rw [List.set_append_right _ _ (Nat.le_refl _), Nat.sub_self, hm, List.replicate_succ, List.set_cons_zero, List.length_append, List.length_singleton, show k - (M.length + 1) = m by omega, List.append_assoc]
 rfl
/-- So far copied: M, in block g. -/
structure CpI (w : World) (g len : Nat) (M : List Np) (L : List Np) : Prop where
 own : Own ndE 76 w g (.slice (some ⟨g, 0, none⟩) len len) (mixN M len)
 nms : ∀ p ∈ M, Own diE 102 w (g + 1) p.v p.n.names
 le : M.length ≤ len
 same : M.map Np.n = (L.take M.length).map Np.n
theorem CpI.kept {w w' : World} {g len : Nat} {M L : List Np} (h : CpI w g len M L) (hb : Below w.heap.size w w') : CpI w' g len M L := ⟨h.own.kept hb, fun p hp => (h.nms p hp).kept hb, h.le, h.same⟩
theorem CpI.next {w : World} {g len j : Nat} {M L : List Np} (h : CpI w g len M L) (hj : M.length = j) (hlt : j < len) (hL : len = L.length) (p : Np) (hp : Own diE 102 w (g + 1) p.v p.n.names) (hn : p.n = (L[j]'(by omega)).n) :
  CpI (setC w g (j * 9) (ndE.c p)) g len (M ++ [p]) L := by
 subst hj
 have hm := mixN_len h.le
 refine ⟨?_, ?_, by simp; omega, ?_⟩
 ·have := h.own.store hm (show M.length < len by omega) p
  rw [mixN_step hlt] at this
  exact this
 ·intro q hq
  have ho : Only (fun k => k = g) w (setC w g (M.length * 9) (ndE.c p)) := Only.setC (S := fun k => k = g) rfl _ _ (Only.refl _ _)
  have key : Own diE 102 w (g + 1) q.v q.n.names := by
   rcases List.mem_append.1 hq with hq | hq
   ·exact h.nms q hq
   ·rw [List.mem_singleton.1 hq]; exact hp
  exact key.only ho fun k hk e => by have := (key.lt k hk).1; omega
 ·rw [List.map_append, h.same, List.length_append, List.length_singleton, List.take_succ_eq_append_getElem (by omega), List.map_append]
  simp [hn]
set_option maxHeartbeats 2000000 in
theorem eqVol_any (next : Int) (L1 L2 : List Np) (v1 v2 : Value) (N : Nat) (w : World) (hN : N ≤ w.heap.size) (h1 : VolR w N v1 L1) (h2 : VolR w N v2 L2) (he : L1.map Np.n = L2.map Np.n) :
  Calls Tryz.prog 32 #[volV next v1, volV next v2] w fun e w' => e = .returned (.bool true) ∧ Below w.heap.size w w' := by
 have H1 := Hid.intro h1
 have H2 := Hid.intro h2
 clear h1 h2
 go_enter Tryz.func32, Tryz.ntmps32
 go_wp2_with fail
 obtain ⟨W, hW, bW, zW, c1, f1, c2, f2⟩ := boxed2 w #[.int .i64 next, v1] #[.int .i64 next, v2] 32 32
 try simp only [hW]
 refine (eqInodeS_any L1 L2 v1 v2 N W (by omega) (H1.out.kept (bW.mono hN)) (H2.out.kept (bW.mono hN)) he).mono ?_
 rintro e w1 ⟨rfl, b1⟩
 have HB := Hid.intro (bW.trans (b1.mono (by omega)))
 clear hW bW b1 c1 c2 f1 f2
 go_wp2
 go_ret
 exact ⟨rfl, HB.out⟩
end Go.Proofs.YtknckbedddeijaaGreat
namespace Go.Proofs.YtknckbedddeijaaGreat
open Go.RowKit
set_option linter.unusedVariables false
/-- The rows of names lie one behind the other. -/
def Inc (M : List Np) : Prop := ∀ i j (hij : i < j) (hj : j < M.length) k k', M[i].v.ownBlock = some k → M[j].v.ownBlock = some k' → k < k'
theorem Inc.snoc {M : List Np} {p : Np} (h : Inc M) (B : Nat) (h1 : ∀ x ∈ M, ∀ k, x.v.ownBlock = some k → k < B) (h2 : ∀ k, p.v.ownBlock = some k → B ≤ k) : Inc (M ++ [p]) := by
 intro i j hij hj k k' e1 e2
 rw [List.length_append, List.length_singleton] at hj
 have hi : i < M.length := by omega
 rw [List.getElem_append_left hi] at e1
 by_cases hjl : j < M.length
 ·rw [List.getElem_append_left hjl] at e2
  exact h i j hij hjl k k' e1 e2
 ·obtain rfl : j = M.length := by omega
  rw [List.getElem_append_right (Nat.le_refl _)] at e2
  simp only [Nat.sub_self, List.getElem_cons_zero] at e2
  have := h1 M[i] (List.getElem_mem hi) k e1
  have := h2 k' e2
  omega
end Go.Proofs.YtknckbedddeijaaGreat
namespace Go.Proofs.YtknckbedddeijaaGreat
open Go.RowKit
set_option linter.unusedVariables false
/-- So many inodes from the front on, and what is left. -/
noncomputable def inosO : Nat → List UInt8 → Option (List Nd × List UInt8)
 | 0, l => some ([], l)
 | n + 1, l => (inoO l).bind fun a => (inosO n a.2).bind fun d => some (a.1 :: d.1, d.2)
theorem inosO_no {n : Nat} {l : List UInt8} (hn : 0 < n) (h : inoO l = none) : inosO n l = none := by
 obtain ⟨m, rfl⟩ : ∃ m, n = m + 1 := ⟨n - 1, by omega⟩
 simp only [inosO, h, Option.bind_none]
theorem inosO_yes {n : Nat} {l q : List UInt8} {x : Nd} (hn : 0 < n) (h : inoO l = some (x, q)) : inosO n l = (inosO (n - 1) q).map fun y => (x :: y.1, y.2) := by
 obtain ⟨m, rfl⟩ : ∃ m, n = m + 1 := ⟨n - 1, by omega⟩
 simp only [inosO, h, Option.bind_some, Nat.add_sub_cancel]
 cases inosO m q <;> rfl
/-- A volume at the front, and what is left. -/
noncomputable def volO (l : List UInt8) : Option ((Nat × List Nd) × List UInt8) :=
 (numO l).bind fun a => (cntO 24 a.2).bind fun n => (inosO n.1 n.2).bind fun s => some ((a.1, s.1), s.2)
/-- What a cursor's volume hands back. -/
def VolC (b : Nat) (q : ByteArray) (w : World) (e : Ending) (w' : World) : Prop :=
 (∃ (nx : Nat) (u : Value) (M : List Np) (q' : ByteArray), e = .returned (volV (nx : Nat) u) ∧ Hid (volO q.data.toList = some ((nx, M.map Np.n), q'.data.toList)) ∧ CurAt w' b q' ∧ q'.size ≤ 1048576 ∧ Hid (VolO w' w.heap.size u M ∧ Inc M) ∧ Only (fun k => k = b) w w') ∨ (Lack e ∧ Hid (volO q.data.toList = none) ∧ Only (fun k => k = b) w w')
theorem own_ne {w : World} {B B' k : Nat} {v u : Value} {L : List Di} {M : List Np} (h : Own diE 102 w B v L) (h' : Own ndE 76 w B' u M) (e : v.ownBlock = some k) : ¬ some k = u.ownBlock := by
 intro e'
 obtain ⟨_, h2⟩ := h
 obtain ⟨_, h3⟩ := h'
 rcases h2 with ⟨rfl, _⟩ | ⟨g, cap, cur, rfl, _, hg, _⟩
 ·simp [Value.ownBlock] at e
 ·rcases h3 with ⟨rfl, _⟩ | ⟨g', cap', cur', rfl, _, hg', _⟩
  ·simp [Value.ownBlock] at e'
  ·simp only [Value.ownBlock, Option.some.injEq] at e e'
   subst e e'
   rw [hg] at hg'
   simp at hg'
/-- What stands while inodes are read. -/
structure VoI (w : World) (b g2 g3 : Nat) (nx : Nat) (wr : World) (q : ByteArray) (u : Value) (M : List Np) : Prop where
 cur : CurAt wr b q
 box : Blk wr g3 #[.int .i64 (nx : Nat), u]
 res : Blk wr g2 #[.int .i64 0, .slice none 0 0]
 own : VolO wr (g3 + 1) u M
 inc : Inc M
 only : Only (fun k => k = b) w wr
 lt : b < g2 ∧ g2 < g3 ∧ w.heap.size ≤ g2
theorem VoI.step {w : World} {b g2 g3 nx : Nat} {wr w2 : World} {q q2 : ByteArray} {u : Value} {M : List Np} (h : VoI w b g2 g3 nx wr q u M) (ho : Only (fun k => k = b) wr w2) (hc : CurAt w2 b q2) : VoI w b g2 g3 nx w2 q2 u M :=
 ⟨hc, h.box.only ho (by have := h.lt; omega), h.res.only ho (by have := h.lt; omega), h.own.only ho (fun k hk e => by have := h.lt; omega), h.inc, h.only.trans ho, h.lt⟩
theorem VoI.kept {w : World} {b g2 g3 nx : Nat} {wr w2 : World} {q : ByteArray} {u : Value} {M : List Np} (h : VoI w b g2 g3 nx wr q u M) (hb : Below wr.heap.size wr w2) : VoI w b g2 g3 nx w2 q u M :=
 h.step (ob_any hb) (h.cur.kept hb)
theorem VoI.put {w : World} {b g2 g3 nx : Nat} {wr w4 : World} {q : ByteArray} {u : Value} {M : List Np} {p : Np} {g m cap B : Nat} (h : VoI w b g2 g3 nx wr q u M) (ho : Only (fun k => some k = u.ownBlock) wr w4) (hown : Own ndE 76 w4 (g3 + 1) (.slice (some ⟨g, 0, none⟩) m cap) (M ++ [p]))
  (hp : Own diE 102 wr B p.v p.n.names) (hB : g3 + 1 ≤ B) (hM : ∀ x ∈ M, ∀ k, x.v.ownBlock = some k → k < B) :
  VoI w b g2 g3 nx (w4.setCell ⟨g3, 1, none⟩ (.slice (some ⟨g, 0, none⟩) m cap)) q (.slice (some ⟨g, 0, none⟩) m cap) (M ++ [p]) := by
 have hlt := h.lt
 have nb : ∀ k, some k = u.ownBlock → g3 + 1 ≤ k := fun k hk => (h.own.own.lt k hk.symm).1
 have hb : ¬ some b = u.ownBlock := fun e => by have := nb b e; omega
 have h3 : ¬ some g3 = u.ownBlock := fun e => by have := nb g3 e; omega
 have h2 : ¬ some g2 = u.ownBlock := fun e => by have := nb g2 e; omega
 have bx := h.box.only ho h3
 refine ⟨(h.cur.only ho hb).only (set_only g3 1 w4 _) (by omega), ⟨by simpa using bx.hi, fun o => ?_, fun o => ?_⟩, (h.res.only ho h2).only (set_only g3 1 w4 _) (by omega), ⟨hown.only (set_only g3 1 w4 _) (fun k hk e => ?_), fun x hx => ?_⟩, h.inc.snoc B hM (fun k hk => (hp.lt k hk).1), ?_, hlt⟩
 ·match o with
  | 0 => rw [World.cell?_setCell_other _ _ _ _ (by intro e2; simp at e2 <;> omega), bx.cell 0]; rfl
  | 1 => exact World.cell?_setCell_same _ _ _ (bx.cell 1)
  | o + 2 => rw [World.cell?_setCell_other _ _ _ _ (by intro e2; simp at e2 <;> omega), bx.cell (o + 2)]; simp
 ·rw [World.frozen?_setCell]; exact bx.fro o
 ·have := (hown.lt k hk).1; omega
 ·rcases List.mem_append.1 hx with hx | hx
  ·have h5 := h.own.nms x hx
   exact (h5.only ho (fun k hk e => own_ne h5 h.own.own hk e)).only (set_only g3 1 w4 _) (fun k hk e => by have := (h5.lt k hk).1; omega)
  ·obtain rfl : x = p := by simpa using hx
   exact ((hp.only ho (fun k hk e => own_ne hp h.own.own hk e)).only (set_only g3 1 w4 _) (fun k hk e => by have := (hp.lt k hk).1; omega)).lower hB
 ·exact (h.only.then ho (fun k hk e => by have := nb k e; omega)).then (set_only g3 1 w4 _) (fun k hk e => by omega)
theorem Tryz.infoIn : (Tryz.prog.info? 76).map (fun i => (i.zero, i.size, i.bytes)) = some (some (.agg #[.int .i64 0, .int .i64 0, .int .i64 0, .int .i64 0, .int .i64 0, .string ⟨#[]⟩, .slice none 0 0, .int .i64 0, .int .i64 0]), 9, 96) := by kernel_rfl
/-- append of an inode onto a row of the call's own, inside a region that draws its order. -/
theorem step_In {w : World} {ops : Array Oper} {o : Oper} {a : Act} {KK : Act → World → Prop} {Q : Exit → Act → World → Prop} {E : Prop} (hgd : o.guard = none) (s x : Operand)
  (ho : o.op = .call { callee := .builtin .append, args := #[s, x], argTypes := #[30, 30] })
  (base : Nat) (v : Value) (L : List Np) (d : Np) (hs : a.eval s = v) (hown : Own ndE 76 w base v L) (ad : Addr) (c : Nat) (hx : a.eval x = .slice (some ad) 1 c)
  (hnews : ∀ j u, (ndE.f [d])[j]? = some u → w.cell? (ad.add j) = some u) (hlen : L.length ≤ 2000000) (hbase : base ≤ w.heap.size)
  (h : ∀ g cap' w', Own ndE 76 w' base (.slice (some ⟨g, 0, none⟩) (L.length + 1) cap') (L ++ [d]) → Only (fun k => some k = v.ownBlock) w w' → (v.ownBlock = some g ∨ g = w.heap.size) → g < w'.heap.size →
   KK (a.put o.dst (.slice (some ⟨g, 0, none⟩) (L.length + 1) cap')) w') : if Region.wanted o (yielded ops a.tmps) = true then Oper.wp Tryz.prog o a w KK Q else E := by
 obtain ⟨i0, hi, hz0, hz1, hz2⟩ := info_parts Tryz.infoIn
 refine step_append_lies w hgd s x 30 ho base 76 i0 (.agg #[.int .i64 0, .int .i64 0, .int .i64 0, .int .i64 0, .int .i64 0, .string ⟨#[]⟩, .slice none 0 0, .int .i64 0, .int .i64 0]) 9 96 Tryz.underlying30 hi hz0 hz1 hz2 rfl (by decide) v L.length (ndE.f L) hs hown ad 1 c (ndE.f [d]) hx (ndE.f_len [d]) hnews (ndE.f_one [d]) (by omega) (by unfold maxLen; omega) (by omega) hbase w.heap.size rfl ?_
 intro g cap' w' hown' hgrow hloc hg
 refine h g cap' w' (Own.mk hown' (by simp) (by rw [ndE.f_append])) (grown_only hgrow) hloc hg
set_option maxRecDepth 100000 in
set_option maxHeartbeats 4000000 in
theorem volC_any (b : Nat) (q0 : ByteArray) (w : World) (hc : CurAt w b q0) (s0 : q0.size ≤ 1048576) :
  Calls Tryz.prog 46 #[.pointer (some ⟨b, 0, none⟩)] w (VolC b q0 w) := by
 have hlt := hc.lt
 go_enter Tryz.func46, Tryz.ntmps46
 go_wp2_with fail
 obtain ⟨W0, hW, bW, zW, cW, fW⟩ := boxed w #[.int .i64 0, .slice none 0 0] 32
 simp only [hW]
 have c0 : CurAt W0 b q0 := hc.kept bW
 have b0 : Only (fun k => k = b) w W0 := ob_any bW
 have X0 : Hid (Blk W0 w.heap.size #[.int .i64 0, .slice none 0 0]) := ⟨by omega, cW, fW⟩
 have hne : ¬ w.heap.size = b := by omega
 clear hW bW zW cW fW hc
 refine (number_any b q0 _ c0 s0).mono ?_
 rintro e w1 (⟨nx, q1, rfl, hn, rfl⟩ | ⟨⟨pv, rfl⟩, hn, rfl⟩)
 rotate_left 1
 ·have HP : Hid (volO q0.data.toList = none) := by
   have e0 := numO_no hn
   unfold Hid
   simp only [volO, e0, Option.bind_none]
  clear hn X0
  go_wp2
  exact ⟨rfl, .inr ⟨⟨_, rfl⟩, HP, b0⟩⟩
 have H0 : Hid (numO q0.data.toList = some (nx, q1.data.toList)) := numO_yes hn
 have s1 : q1.size ≤ 1048576 := num_size hn s0
 have c1 : CurAt (_) b q1 := c0.set
 have b1 := b0.trans (ob_set b _ (.string q1))
 replace X0 := Hid.intro (X0.out.only (ob_set b _ (.string q1)) hne)
 revert c1 b1 X0
 generalize World.setCell _ ⟨b, 0, none⟩ (.string q1) = W1
 intro c1 b1 X0
 clear hn c0 b0 s0
 have z1 := X0.out.hi
 go_upto_region 2 with fail
 obtain ⟨Y, hY, bY, zY, cY, fY⟩ := boxed W1 #[.int .i64 (nx : Nat), .slice none 0 0] 32
 simp only [hY]
 have HI : Hid (VoI w b w.heap.size W1.heap.size nx Y q1 (.slice none 0 0) []) :=
  ⟨c1.kept bY, ⟨by omega, cY, fY⟩, X0.out.kept bY, ⟨Own.nil _ _, fun p hp => by cases hp⟩, (fun i j hij hj => by simp at hj), b1.trans (ob_any bY), hlt, z1, Nat.le_refl _⟩
 clear hY bY zY cY fY c1 b1 X0 hne
 generalize W1.heap.size = g3 at HI ⊢
 go_wp2_with fail
 refine (countC_any b 24 q1 _ HI.out.cur s1).mono ?_
 rintro e Z (⟨n, q9, rfl, H8, hn24, c9, s9, k9⟩ | ⟨⟨pv, rfl⟩, hn, k9⟩)
 rotate_left 1
 ·have HP : Hid (volO q0.data.toList = none) := by
   have e8 := hn.out
   unfold Hid
   simp only [volO, H0.out, e8, Option.bind_some, Option.bind_none]
  have b9 := HI.out.only.trans k9
  clear hn HI
  go_wp2
  exact ⟨rfl, .inr ⟨⟨_, rfl⟩, HP, b9⟩⟩
 replace HI := Hid.intro (HI.out.step k9 c9)
 clear c9 k9 s1
 have HIO : Hid (volO q0.data.toList = (inosO n q9.data.toList).bind fun s => some ((nx, s.1), s.2)) := by
  unfold Hid
  simp only [volO, H0.out, H8.out, Option.bind_some]
 clear H0 H8
 go_wp2
 go_loopw [9] (fun i wr => ∃ (q : ByteArray) (u : Value) (M : List Np), i = .int .i64 (M.length : Nat) ∧ M.length ≤ n ∧ q.size ≤ 1048576 ∧ Hid (inosO n q9.data.toList = (inosO (n - M.length) q.data.toList).map fun y => (M.map Np.n ++ y.1, y.2)) ∧ Hid (VoI w b w.heap.size g3 nx wr q u M)) (fun i _ => n - (intOf i).toNat)
 case atStart => exact ⟨q9, _, [], rfl, Nat.zero_le _, s9, by unfold Hid; simp, HI⟩
 case round =>
  obtain ⟨q, u, M, rfl, hj, sq, HN, HI⟩ := hrel
  by_cases hlt : M.length < n
  ·have hjn : (M.length : Int) < (n : Int) := by omega
   obtain ⟨va, vc, rfl⟩ := HI.out.own.own.slice
   go_upto_region 4 with fail
   refine wp_region_held_drew (S := fun _ => True) (by kernel_rfl) trivial (fun hHeld => ?_)
   have HD := Hid.intro (HI.out.kept (w2 := wr.drew) (Below.refl _ _).drew)
   clear HI
   generalize wr.drew = D at HD hHeld ⊢
   refine tkk 0 11 (v := ?_) ?_ ?_
   rotate_left 1
   ·intro w hSw
    go_simp <;> with_reducible rfl
   simp only [Act.put, List.setIfInBounds_toArray]
   try simp only [List.set_cons_succ]
   try simp only [List.set_cons_zero]
   refine tkk 2 13 (v := ?_) ?_ ?_
   rotate_left 1
   ·intro w hSw
    go_simp <;> with_reducible rfl
   simp only [Act.put, List.setIfInBounds_toArray]
   try simp only [List.set_cons_succ]
   try simp only [List.set_cons_zero]
   refine wpAnyH_ready (rs := [1, 3]) (by kernel_rfl) (by simp) ?_
   refine (AllReadyH.cons rfl (fun KK hKK => ?_) (AllReadyH.cons rfl (fun KK hKK => ?_) AllReadyH.nil))
   ·skip
    have k6 : D.cell? ⟨g3, 1, none⟩ = some (.slice va M.length vc) := HD.out.box.cell 1
    go_simp
    refine hKK.out _ _ trivial (fun hHeld2 => ?_)
    clear hKK KK hHeld
    have hHeld := hHeld2
    clear hHeld2
    clear k6
    refine wpAnyH_ready (rs := [3]) (by kernel_rfl) (by simp) ?_
    refine (AllReadyH.cons rfl (fun KK hKK => ?_) AllReadyH.nil)
    go_simp
    have hMx : ∀ x ∈ M, ∀ k, x.v.ownBlock = some k → k < D.heap.size := fun x hx k hk => ((HD.out.own.nms x hx).lt k hk).2
    have hg3 := HD.out.box.hi
    refine (inodeC_any b q D HD.out.cur sq).mono ?_
    rintro e x1 (⟨nd, vn, q2, rfl, G1, c2, s2, on, o1⟩ | ⟨⟨pv, rfl⟩, G1, o1⟩)
    rotate_left 1
    ·have HP : Hid (volO q0.data.toList = none) := by
      unfold Hid
      rw [HIO.out, HN.out, inosO_no (by omega) G1.out]
      rfl
     have B9 := HD.out.only.trans o1
     clear HD hKK
     go_simp
     go_wp2
     exact ⟨rfl, .inr ⟨⟨_, rfl⟩, HP, B9⟩⟩
    have HN2 : Hid (inosO n q9.data.toList = (inosO (n - (M.length + 1)) q2.data.toList).map fun y => ((M.map Np.n ++ [nd]) ++ y.1, y.2)) := by
     unfold Hid
     rw [HN.out, inosO_yes (by omega) G1.out, Nat.sub_sub]
     cases inosO (n - (M.length + 1)) q2.data.toList <;> simp
    replace HD := Hid.intro (HD.out.step o1 c2)
    obtain ⟨na, nc, rfl⟩ := on.out.slice
    clear o1 c2 HN
    generalize D.heap.size = B at hMx hg3 on
    go_simp
    refine hKK.out _ _ trivial (fun hHeld2 => ?_)
    clear hKK KK hHeld
    have hHeld := hHeld2
    clear hHeld2
    refine wpAnyH_ready (rs := [4]) (by kernel_rfl) (by simp) ?_
    refine (AllReadyH.cons rfl (fun KK hKK => ?_) AllReadyH.nil)
    go_simp
    have bM : Below x1.heap.size x1 (x1.alloc (.cells #[.int .i64 nd.id, .int .i64 nd.kind, .int .i64 nd.mode, .int .i64 nd.uid, .int .i64 nd.gid, .string nd.data, .slice na nd.names.length nc, .int .i64 nd.maxb, .int .i64 nd.maxi] 76)) := one_below _ _
    have cM : ∀ o, (x1.alloc (.cells #[.int .i64 nd.id, .int .i64 nd.kind, .int .i64 nd.mode, .int .i64 nd.uid, .int .i64 nd.gid, .string nd.data, .slice na nd.names.length nc, .int .i64 nd.maxb, .int .i64 nd.maxi] 76)).cell? ⟨x1.heap.size, o, none⟩ = (ndA nd (.slice na nd.names.length nc))[o]? := fun o => World.cell?_alloc_at _ _ _ _ rfl
    replace HD := Hid.intro (HD.out.kept bM)
    replace on := Hid.intro (on.out.kept bM)
    revert HD cM on
    generalize x1.alloc (.cells #[.int .i64 nd.id, .int .i64 nd.kind, .int .i64 nd.mode, .int .i64 nd.uid, .int .i64 nd.gid, .string nd.data, .slice na nd.names.length nc, .int .i64 nd.maxb, .int .i64 nd.maxi] 76) = Mw at bM
    generalize x1.heap.size = sb
    intro cM HD on
    refine hKK.out _ _ trivial (fun hHeld2 => ?_)
    clear hKK KK hHeld
    have hHeld := hHeld2
    clear hHeld2
    refine wpAnyH_ready (rs := [5]) (by kernel_rfl) (by simp) ?_
    refine (AllReadyH.cons rfl (fun KK hKK => ?_) AllReadyH.nil)
    have hnews : ∀ j u, (ndE.f [⟨nd, na, nc⟩])[j]? = some u → Mw.cell? ((⟨sb, 0, none⟩ : Addr).add j) = some u := fun j u hj => by
     rw [add_none, Nat.zero_add, cM]
     simpa [ndE, Enc.f] using hj
    have hbase : g3 + 1 ≤ Mw.heap.size := HD.out.box.hi
    refine step_In rfl _ _ rfl (g3 + 1) (.slice va M.length vc) M ⟨nd, na, nc⟩ rfl HD.out.own.own ⟨sb, 0, none⟩ 1 rfl hnews (by omega) hbase ?_
    intro g cap2 w4 hown ho hloc hg
    have hne3 : ¬ some g3 = (Value.slice va M.length vc).ownBlock := fun e => by have := (HD.out.own.own.lt g3 e.symm).1; omega
    have k6 : w4.cell? ⟨g3, 1, none⟩ = some (.slice va M.length vc) := (ho.cell (o := 1) HD.out.box.hi hne3).trans (HD.out.box.cell 1)
    have f6 := (ho.frozen (o := 1) HD.out.box.hi hne3).trans (HD.out.box.fro 1)
    have HE := Hid.intro (HD.out.put ho hown on.out hg3 hMx)
    clear HD hown ho hloc hg hnews hbase cM hne3 bM on hMx hg3
    go_simp
    refine hKK.out _ _ trivial (fun hHeld2 => ?_)
    clear hKK KK hHeld
    have hHeld := hHeld2
    clear hHeld2
    refine tkk 6 17 (v := ?_) ?_ ?_
    rotate_left 1
    ·intro w hSw
     go_simp <;> with_reducible rfl
    simp only [Act.put, List.setIfInBounds_toArray]
    try simp only [List.set_cons_succ]
    try simp only [List.set_cons_zero]
    refine wpAnyH_ready (rs := [7]) (by kernel_rfl) (by simp) ?_
    refine (AllReadyH.cons rfl (fun KK hKK => ?_) AllReadyH.nil)
    go_simp
    generalize w4.setCell ⟨g3, 1, none⟩ _ = w5 at HE ⊢
    clear k6 f6
    refine hKK.out _ _ trivial (fun hHeld2 => ?_)
    clear hKK KK hHeld
    have hHeld := hHeld2
    clear hHeld2
    refine wpAnyH_done (by kernel_rfl) ?_ _
    clear hHeld
    go_wp2
    go_roundw
    case rel => exact ⟨q2, _, M ++ [⟨nd, na, nc⟩], by rw [List.length_append]; go_num, by rw [List.length_append, List.length_singleton]; omega, s2, by unfold Hid; rw [List.length_append, List.length_singleton, List.map_append]; exact HN2.out, HE⟩
    case measure => simp [intOf]; omega
   ·skip
    go_simp
    have hMx : ∀ x ∈ M, ∀ k, x.v.ownBlock = some k → k < D.heap.size := fun x hx k hk => ((HD.out.own.nms x hx).lt k hk).2
    have hg3 := HD.out.box.hi
    refine (inodeC_any b q D HD.out.cur sq).mono ?_
    rintro e x1 (⟨nd, vn, q2, rfl, G1, c2, s2, on, o1⟩ | ⟨⟨pv, rfl⟩, G1, o1⟩)
    rotate_left 1
    ·have HP : Hid (volO q0.data.toList = none) := by
      unfold Hid
      rw [HIO.out, HN.out, inosO_no (by omega) G1.out]
      rfl
     have B9 := HD.out.only.trans o1
     clear HD hKK
     go_simp
     go_wp2
     exact ⟨rfl, .inr ⟨⟨_, rfl⟩, HP, B9⟩⟩
    have HN2 : Hid (inosO n q9.data.toList = (inosO (n - (M.length + 1)) q2.data.toList).map fun y => ((M.map Np.n ++ [nd]) ++ y.1, y.2)) := by
     unfold Hid
     rw [HN.out, inosO_yes (by omega) G1.out, Nat.sub_sub]
     cases inosO (n - (M.length + 1)) q2.data.toList <;> simp
    replace HD := Hid.intro (HD.out.step o1 c2)
    obtain ⟨na, nc, rfl⟩ := on.out.slice
    clear o1 c2 HN
    generalize D.heap.size = B at hMx hg3 on
    go_simp
    refine hKK.out _ _ trivial (fun hHeld2 => ?_)
    clear hKK KK hHeld
    have hHeld := hHeld2
    clear hHeld2
    refine wpAnyH_ready (rs := [1, 4]) (by kernel_rfl) (by simp) ?_
    refine (AllReadyH.cons rfl (fun KK hKK => ?_) (AllReadyH.cons rfl (fun KK hKK => ?_) AllReadyH.nil))
    ·skip
     have k6 : x1.cell? ⟨g3, 1, none⟩ = some (.slice va M.length vc) := HD.out.box.cell 1
     go_simp
     refine hKK.out _ _ trivial (fun hHeld2 => ?_)
     clear hKK KK hHeld
     have hHeld := hHeld2
     clear hHeld2
     clear k6
     refine wpAnyH_ready (rs := [4]) (by kernel_rfl) (by simp) ?_
     refine (AllReadyH.cons rfl (fun KK hKK => ?_) AllReadyH.nil)
     go_simp
     have bM : Below x1.heap.size x1 (x1.alloc (.cells #[.int .i64 nd.id, .int .i64 nd.kind, .int .i64 nd.mode, .int .i64 nd.uid, .int .i64 nd.gid, .string nd.data, .slice na nd.names.length nc, .int .i64 nd.maxb, .int .i64 nd.maxi] 76)) := one_below _ _
     have cM : ∀ o, (x1.alloc (.cells #[.int .i64 nd.id, .int .i64 nd.kind, .int .i64 nd.mode, .int .i64 nd.uid, .int .i64 nd.gid, .string nd.data, .slice na nd.names.length nc, .int .i64 nd.maxb, .int .i64 nd.maxi] 76)).cell? ⟨x1.heap.size, o, none⟩ = (ndA nd (.slice na nd.names.length nc))[o]? := fun o => World.cell?_alloc_at _ _ _ _ rfl
     replace HD := Hid.intro (HD.out.kept bM)
     replace on := Hid.intro (on.out.kept bM)
     revert HD cM on
     generalize x1.alloc (.cells #[.int .i64 nd.id, .int .i64 nd.kind, .int .i64 nd.mode, .int .i64 nd.uid, .int .i64 nd.gid, .string nd.data, .slice na nd.names.length nc, .int .i64 nd.maxb, .int .i64 nd.maxi] 76) = Mw at bM
     generalize x1.heap.size = sb
     intro cM HD on
     refine hKK.out _ _ trivial (fun hHeld2 => ?_)
     clear hKK KK hHeld
     have hHeld := hHeld2
     clear hHeld2
     refine wpAnyH_ready (rs := [5]) (by kernel_rfl) (by simp) ?_
     refine (AllReadyH.cons rfl (fun KK hKK => ?_) AllReadyH.nil)
     have hnews : ∀ j u, (ndE.f [⟨nd, na, nc⟩])[j]? = some u → Mw.cell? ((⟨sb, 0, none⟩ : Addr).add j) = some u := fun j u hj => by
      rw [add_none, Nat.zero_add, cM]
      simpa [ndE, Enc.f] using hj
     have hbase : g3 + 1 ≤ Mw.heap.size := HD.out.box.hi
     refine step_In rfl _ _ rfl (g3 + 1) (.slice va M.length vc) M ⟨nd, na, nc⟩ rfl HD.out.own.own ⟨sb, 0, none⟩ 1 rfl hnews (by omega) hbase ?_
     intro g cap2 w4 hown ho hloc hg
     have hne3 : ¬ some g3 = (Value.slice va M.length vc).ownBlock := fun e => by have := (HD.out.own.own.lt g3 e.symm).1; omega
     have k6 : w4.cell? ⟨g3, 1, none⟩ = some (.slice va M.length vc) := (ho.cell (o := 1) HD.out.box.hi hne3).trans (HD.out.box.cell 1)
     have f6 := (ho.frozen (o := 1) HD.out.box.hi hne3).trans (HD.out.box.fro 1)
     have HE := Hid.intro (HD.out.put ho hown on.out hg3 hMx)
     clear HD hown ho hloc hg hnews hbase cM hne3 bM on hMx hg3
     go_simp
     refine hKK.out _ _ trivial (fun hHeld2 => ?_)
     clear hKK KK hHeld
     have hHeld := hHeld2
     clear hHeld2
     refine tkk 6 17 (v := ?_) ?_ ?_
     rotate_left 1
     ·intro w hSw
      go_simp <;> with_reducible rfl
     simp only [Act.put, List.setIfInBounds_toArray]
     try simp only [List.set_cons_succ]
     try simp only [List.set_cons_zero]
     refine wpAnyH_ready (rs := [7]) (by kernel_rfl) (by simp) ?_
     refine (AllReadyH.cons rfl (fun KK hKK => ?_) AllReadyH.nil)
     go_simp
     generalize w4.setCell ⟨g3, 1, none⟩ _ = w5 at HE ⊢
     clear k6 f6
     refine hKK.out _ _ trivial (fun hHeld2 => ?_)
     clear hKK KK hHeld
     have hHeld := hHeld2
     clear hHeld2
     refine wpAnyH_done (by kernel_rfl) ?_ _
     clear hHeld
     go_wp2
     go_roundw
     case rel => exact ⟨q2, _, M ++ [⟨nd, na, nc⟩], by rw [List.length_append]; go_num, by rw [List.length_append, List.length_singleton]; omega, s2, by unfold Hid; rw [List.length_append, List.length_singleton, List.map_append]; exact HN2.out, HE⟩
     case measure => simp [intOf]; omega
    ·skip
     go_simp
     have bM : Below x1.heap.size x1 (x1.alloc (.cells #[.int .i64 nd.id, .int .i64 nd.kind, .int .i64 nd.mode, .int .i64 nd.uid, .int .i64 nd.gid, .string nd.data, .slice na nd.names.length nc, .int .i64 nd.maxb, .int .i64 nd.maxi] 76)) := one_below _ _
     have cM : ∀ o, (x1.alloc (.cells #[.int .i64 nd.id, .int .i64 nd.kind, .int .i64 nd.mode, .int .i64 nd.uid, .int .i64 nd.gid, .string nd.data, .slice na nd.names.length nc, .int .i64 nd.maxb, .int .i64 nd.maxi] 76)).cell? ⟨x1.heap.size, o, none⟩ = (ndA nd (.slice na nd.names.length nc))[o]? := fun o => World.cell?_alloc_at _ _ _ _ rfl
     replace HD := Hid.intro (HD.out.kept bM)
     replace on := Hid.intro (on.out.kept bM)
     revert HD cM on
     generalize x1.alloc (.cells #[.int .i64 nd.id, .int .i64 nd.kind, .int .i64 nd.mode, .int .i64 nd.uid, .int .i64 nd.gid, .string nd.data, .slice na nd.names.length nc, .int .i64 nd.maxb, .int .i64 nd.maxi] 76) = Mw at bM
     generalize x1.heap.size = sb
     intro cM HD on
     refine hKK.out _ _ trivial (fun hHeld2 => ?_)
     clear hKK KK hHeld
     have hHeld := hHeld2
     clear hHeld2
     refine wpAnyH_ready (rs := [1]) (by kernel_rfl) (by simp) ?_
     refine (AllReadyH.cons rfl (fun KK hKK => ?_) AllReadyH.nil)
     have k6 : Mw.cell? ⟨g3, 1, none⟩ = some (.slice va M.length vc) := HD.out.box.cell 1
     go_simp
     refine hKK.out _ _ trivial (fun hHeld2 => ?_)
     clear hKK KK hHeld
     have hHeld := hHeld2
     clear hHeld2
     clear k6
     refine wpAnyH_ready (rs := [5]) (by kernel_rfl) (by simp) ?_
     refine (AllReadyH.cons rfl (fun KK hKK => ?_) AllReadyH.nil)
     have hnews : ∀ j u, (ndE.f [⟨nd, na, nc⟩])[j]? = some u → Mw.cell? ((⟨sb, 0, none⟩ : Addr).add j) = some u := fun j u hj => by
      rw [add_none, Nat.zero_add, cM]
      simpa [ndE, Enc.f] using hj
     have hbase : g3 + 1 ≤ Mw.heap.size := HD.out.box.hi
     refine step_In rfl _ _ rfl (g3 + 1) (.slice va M.length vc) M ⟨nd, na, nc⟩ rfl HD.out.own.own ⟨sb, 0, none⟩ 1 rfl hnews (by omega) hbase ?_
     intro g cap2 w4 hown ho hloc hg
     have hne3 : ¬ some g3 = (Value.slice va M.length vc).ownBlock := fun e => by have := (HD.out.own.own.lt g3 e.symm).1; omega
     have k6 : w4.cell? ⟨g3, 1, none⟩ = some (.slice va M.length vc) := (ho.cell (o := 1) HD.out.box.hi hne3).trans (HD.out.box.cell 1)
     have f6 := (ho.frozen (o := 1) HD.out.box.hi hne3).trans (HD.out.box.fro 1)
     have HE := Hid.intro (HD.out.put ho hown on.out hg3 hMx)
     clear HD hown ho hloc hg hnews hbase cM hne3 bM on hMx hg3
     go_simp
     refine hKK.out _ _ trivial (fun hHeld2 => ?_)
     clear hKK KK hHeld
     have hHeld := hHeld2
     clear hHeld2
     refine tkk 6 17 (v := ?_) ?_ ?_
     rotate_left 1
     ·intro w hSw
      go_simp <;> with_reducible rfl
     simp only [Act.put, List.setIfInBounds_toArray]
     try simp only [List.set_cons_succ]
     try simp only [List.set_cons_zero]
     refine wpAnyH_ready (rs := [7]) (by kernel_rfl) (by simp) ?_
     refine (AllReadyH.cons rfl (fun KK hKK => ?_) AllReadyH.nil)
     go_simp
     generalize w4.setCell ⟨g3, 1, none⟩ _ = w5 at HE ⊢
     clear k6 f6
     refine hKK.out _ _ trivial (fun hHeld2 => ?_)
     clear hKK KK hHeld
     have hHeld := hHeld2
     clear hHeld2
     refine wpAnyH_done (by kernel_rfl) ?_ _
     clear hHeld
     go_wp2
     go_roundw
     case rel => exact ⟨q2, _, M ++ [⟨nd, na, nc⟩], by rw [List.length_append]; go_num, by rw [List.length_append, List.length_singleton]; omega, s2, by unfold Hid; rw [List.length_append, List.length_singleton, List.map_append]; exact HN2.out, HE⟩
     case measure => simp [intOf]; omega
  ·have hjn : ¬ (M.length : Int) < (n : Int) := by omega
   have e0 : n - M.length = 0 := by omega
   have HP : Hid (volO q0.data.toList = some ((nx, M.map Np.n), q.data.toList)) := by
    unfold Hid
    rw [HIO.out, HN.out, e0]
    simp [inosO]
   obtain ⟨va, vc, rfl⟩ := HI.out.own.own.slice
   clear HIO HN
   have k0 : wr.cell? ⟨g3, 0, none⟩ = some (.int .i64 (nx : Nat)) := HI.out.box.cell 0
   have k1 : wr.cell? ⟨g3, 1, none⟩ = some (.slice va M.length vc) := HI.out.box.cell 1
   have r0 : wr.cell? ⟨w.heap.size, 0, none⟩ = some (.int .i64 0) := HI.out.res.cell 0
   have r1 : wr.cell? ⟨w.heap.size, 1, none⟩ = some (.slice none 0 0) := HI.out.res.cell 1
   have f0 : wr.frozen? ⟨w.heap.size, 0, none⟩ = false := HI.out.res.fro 0
   have f1 : wr.frozen? ⟨w.heap.size, 1, none⟩ = false := HI.out.res.fro 1
   have hne3 : ¬ w.heap.size = g3 := by have := HI.out.lt; omega
   have HO : Only (fun x => x = w.heap.size) wr ((wr.setCell ⟨w.heap.size, 0, none⟩ (.int .i64 (nx : Nat))).setCell ⟨w.heap.size, 1, none⟩ (.slice va M.length vc)) := (set_only w.heap.size 0 wr (.int .i64 (nx : Nat))).setCell (p := ⟨w.heap.size, 1, none⟩) rfl (.slice va M.length vc)
   have hlt3 := HI.out.lt
   go_wp2
   refine bodyPost_ret (v := volV (nx : Nat) (.slice va M.length vc)) (by simp [results, Tryz.results46, go_sem, r0, r1]) rfl (.inl ⟨_, _, M, q, rfl, HP, HI.out.cur.only HO (fun e => by omega), sq, ?_, HI.out.only.then HO (fun x hx e => by omega)⟩)
   exact ⟨(HI.out.own.only HO (fun k hk e => by omega)).lower (by omega), HI.out.inc⟩
end Go.Proofs.YtknckbedddeijaaGreat
