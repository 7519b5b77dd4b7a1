/- Volumes: where an inode lies, what is below it. -/
import Derived.Test.YtmkegmndcbpblaaGreatDoorPMath
namespace Go.Proofs.YtmkegmndcbpblaaGreatDoor
open Go.RowKit
set_option linter.unusedVariables false
/-- The place of an inode. -/
def atN (L : List Nd) (id : Int) : Option Nat := L.findIdx? (fun n => decide (n.id = id))
theorem atN_some {L : List Nd} {id : Int} {i : Nat} : atN L id = some i ↔ ∃ h : i < L.length, L[i].id = id ∧ ∀ j (hj : j < i), ¬ (L[j]'(by omega)).id = id := by
 unfold atN
 rw [List.findIdx?_eq_some_iff_getElem]
 simp
theorem atN_none {L : List Nd} {id : Int} : atN L id = none ↔ ∀ n ∈ L, ¬ n.id = id := by
 unfold atN
 rw [List.findIdx?_eq_none_iff]
 simp
theorem atN_lt {L : List Nd} {id : Int} {i : Nat} (h : atN L id = some i) : i < L.length := (atN_some.1 h).1
/-- A name of i leads to x. -/
def Edge (L : List Nd) (i x : Nat) : Prop := ∃ n e, L[i]? = some n ∧ e ∈ n.names ∧ atN L e.id = some x
/-- x is below i. -/
inductive Reach (L : List Nd) (i : Nat) : Nat → Prop
 | one {x : Nat} : Edge L i x → Reach L i x
 | more {x y : Nat} : Reach L i x → Edge L x y → Reach L i y
theorem Edge.lt {L : List Nd} {i x : Nat} (h : Edge L i x) : x < L.length := by
 obtain ⟨n, e, _, _, h⟩ := h
 exact atN_lt h
theorem Reach.lt {L : List Nd} {i x : Nat} (h : Reach L i x) : x < L.length := by
 cases h with
 | one h => exact h.lt
 | more _ h => exact h.lt
/-! The sentence's way: sweeps. -/
def isT (s : List Bool) (x : Nat) : Prop := s[x]? = some true
def markB (L : List Nd) (s : List Bool) (e : Di) : List Bool := match atN L e.id with | some x => s.set x true | none => s
def opB (a : Nat) (s : List Bool) (i : Nat) : Prop := i = a ∨ isT s i
instance (a : Nat) (s : List Bool) (i : Nat) : Decidable (opB a s i) := inferInstanceAs (Decidable (_ ∨ _ = _))
def lookB (L : List Nd) (a : Nat) (s : List Bool) (i : Nat) : List Bool := if opB a s i then ((L[i]?.map Nd.names).getD []).foldl (markB L) s else s
def sweepB (L : List Nd) (a : Nat) (s : List Bool) : List Bool := (List.range L.length).foldl (lookB L a) s
def timesB (L : List Nd) (a : Nat) : Nat → List Bool
 | 0 => List.replicate L.length false
 | k + 1 => sweepB L a (timesB L a k)
def belowB (L : List Nd) (a : Nat) : List Bool := timesB L a L.length
/-- s lies within t. -/
def Sub (s t : List Bool) : Prop := s.length = t.length ∧ ∀ x, isT s x → isT t x
theorem Sub.refl (s : List Bool) : Sub s s := ⟨rfl, fun _ h => h⟩
theorem Sub.trans {s t u : List Bool} (h : Sub s t) (k : Sub t u) : Sub s u := ⟨h.1.trans k.1, fun x hx => k.2 x (h.2 x hx)⟩
theorem Sub.anti {s t : List Bool} (h : Sub s t) (k : Sub t s) : s = t := by
 apply List.ext_getElem?
 intro x
 by_cases hx : x < s.length
 ·have hy : x < t.length := by rw [← h.1]; exact hx
  have h1 := h.2 x
  have h2 := k.2 x
  unfold isT at h1 h2
  rw [List.getElem?_eq_getElem hx, List.getElem?_eq_getElem hy] at *
  simp only [Option.some.injEq] at *
  cases hs : s[x] <;> cases ht : t[x] <;> simp_all
 ·rw [List.getElem?_eq_none (by omega), List.getElem?_eq_none (by rw [← h.1]; omega)]
theorem isT_set {s : List Bool} {x y : Nat} : isT (s.set x true) y ↔ (x = y ∧ x < s.length) ∨ isT s y := by
 unfold isT
 rw [List.getElem?_set]
 by_cases h : x = y
 ·subst h
  by_cases hx : x < s.length
  ·simp [hx]
  ·simp [hx]
 ·simp [h]
theorem Sub.set (s : List Bool) (x : Nat) : Sub s (s.set x true) := ⟨by simp, fun y h => isT_set.2 (.inr h)⟩
theorem markB_sub (L : List Nd) (s : List Bool) (e : Di) : Sub s (markB L s e) := by
 unfold markB
 split
 ·exact Sub.set _ _
 ·exact Sub.refl _
theorem fold_sub {α : Type} {f : List Bool → α → List Bool} (hf : ∀ s a, Sub s (f s a)) (l : List α) : ∀ s, Sub s (l.foldl f s) := by
 induction l with
 | nil => intro s; exact Sub.refl _
 | cons a l ih => intro s; exact (hf s a).trans (ih _)
theorem lookB_sub (L : List Nd) (a : Nat) (s : List Bool) (i : Nat) : Sub s (lookB L a s i) := by
 unfold lookB
 split
 ·exact fold_sub (markB_sub L) _ _
 ·exact Sub.refl _
theorem sweepB_sub (L : List Nd) (a : Nat) (s : List Bool) : Sub s (sweepB L a s) := fold_sub (lookB_sub L a) _ _
theorem timesB_len (L : List Nd) (a k : Nat) : (timesB L a k).length = L.length := by
 induction k with
 | zero => simp [timesB]
 | succ k ih => rw [timesB, ← (sweepB_sub L a _).1, ih]
/-- All that is marked is below a. -/
def SoundB (L : List Nd) (a : Nat) (s : List Bool) : Prop := ∀ x, isT s x → Reach L a x
theorem markB_isT {L : List Nd} {s : List Bool} {e : Di} {x : Nat} (h : isT (markB L s e) x) : atN L e.id = some x ∨ isT s x := by
 unfold markB at h
 split at h
 ·rename_i y hy
  rcases isT_set.1 h with ⟨rfl, _⟩ | h
  ·exact .inl hy
  ·exact .inr h
 ·exact .inr h
theorem markB_has {L : List Nd} {s : List Bool} {e : Di} {x : Nat} (hs : s.length = L.length) (h : atN L e.id = some x) : isT (markB L s e) x := by
 unfold markB
 rw [h]
 exact isT_set.2 (.inl ⟨rfl, by rw [hs]; exact atN_lt h⟩)
theorem names_isT {L : List Nd} (l : List Di) : ∀ {s : List Bool} {x : Nat}, isT (l.foldl (markB L) s) x → (∃ e ∈ l, atN L e.id = some x) ∨ isT s x := by
 induction l with
 | nil => intro s x h; exact .inr h
 | cons e l ih =>
  intro s x h
  rcases ih h with ⟨e', he, hx⟩ | h
  ·exact .inl ⟨e', List.mem_cons_of_mem _ he, hx⟩
  ·rcases markB_isT h with h | h
   ·exact .inl ⟨e, by simp, h⟩
   ·exact .inr h
theorem names_has {L : List Nd} (l : List Di) : ∀ {s : List Bool} {e : Di} {x : Nat}, s.length = L.length → e ∈ l → atN L e.id = some x → isT (l.foldl (markB L) s) x := by
 induction l with
 | nil => intro s e x _ h; cases h
 | cons d l ih =>
  intro s e x hs he hx
  rcases List.mem_cons.1 he with rfl | he
  ·exact (fold_sub (markB_sub L) l _).2 x (markB_has hs hx)
  ·exact ih ((markB_sub L s d).1.symm.trans hs) he hx
theorem lookB_sound {L : List Nd} {a i : Nat} {s : List Bool} (h : SoundB L a s) : SoundB L a (lookB L a s i) := by
 unfold lookB
 split
 ·rename_i ho
  intro x hx
  rcases names_isT _ hx with ⟨e, he, hx⟩ | hx
  ·cases hn : L[i]? with
   | none => rw [hn] at he; simp at he
   | some n =>
    rw [hn] at he
    have hE : Edge L i x := ⟨n, e, hn, by simpa using he, hx⟩
    rcases ho with rfl | ho
    ·exact .one hE
    ·exact .more (h i ho) hE
  ·exact h x hx
 ·exact h
theorem fold_sound {L : List Nd} {a : Nat} (l : List Nat) : ∀ {s : List Bool}, SoundB L a s → SoundB L a (l.foldl (lookB L a) s) := by
 induction l with
 | nil => intro s h; exact h
 | cons i l ih => intro s h; exact ih (lookB_sound h)
theorem timesB_sound (L : List Nd) (a k : Nat) : SoundB L a (timesB L a k) := by
 induction k with
 | zero =>
  intro x hx
  unfold isT timesB at hx
  rw [List.getElem?_replicate] at hx
  split at hx <;> simp at hx
 | succ k ih => exact fold_sound _ ih
/-- What an open one leads to is marked. -/
def ShutB (L : List Nd) (a : Nat) (s : List Bool) : Prop := ∀ i x, opB a s i → Edge L i x → isT s x
theorem fold_same {L : List Nd} {a : Nat} (l : List Nat) : ∀ {s : List Bool}, s.length = L.length → l.foldl (lookB L a) s = s → ∀ i ∈ l, ∀ x, opB a s i → Edge L i x → isT s x := by
 induction l with
 | nil => intro s _ _ i hi; cases hi
 | cons j l ih =>
  intro s hs h i hi x ho hE
  have h1 := lookB_sub L a s j
  have h2 := fold_sub (lookB_sub L a) l (lookB L a s j)
  rw [List.foldl_cons] at h
  have e1 : s = lookB L a s j := h1.anti (by rw [h] at h2; exact h2)
  rcases List.mem_cons.1 hi with rfl | hi
  ·obtain ⟨n, e, hn, he, hx⟩ := hE
   have h3 := names_has (L := L) n.names (s := s) hs he hx
   rw [e1, lookB, if_pos ho, hn]
   exact h3
  ·rw [← e1] at h
   exact ih hs h i hi x ho hE
theorem shut_of_same {L : List Nd} {a : Nat} {s : List Bool} (hs : s.length = L.length) (h : sweepB L a s = s) : ShutB L a s := by
 intro i x ho hE
 have hi : i < L.length := by
  obtain ⟨n, e, hn, _⟩ := hE
  exact (List.getElem?_eq_some_iff.1 hn).1
 exact fold_same _ hs h i (List.mem_range.2 hi) x ho hE
theorem names_shut {L : List Nd} (l : List Di) {s : List Bool} (h : ∀ e ∈ l, ∀ x, atN L e.id = some x → isT s x) : l.foldl (markB L) s = s := by
 induction l with
 | nil => rfl
 | cons e l ih =>
  have h1 : markB L s e = s := by
   unfold markB
   split
   ·rename_i x hx
    refine Sub.anti ⟨by simp, fun y hy => ?_⟩ (Sub.set _ _)
    rcases isT_set.1 hy with ⟨rfl, _⟩ | hy
    ·exact h e (by simp) _ hx
    ·exact hy
   ·rfl
  rw [List.foldl_cons, h1]
  exact ih fun e' he => h e' (List.mem_cons_of_mem _ he)
theorem lookB_shut {L : List Nd} {a i : Nat} {s : List Bool} (h : ShutB L a s) : lookB L a s i = s := by
 unfold lookB
 split
 ·rename_i ho
  refine names_shut _ fun e he x hx => ?_
  cases hn : L[i]? with
  | none => rw [hn] at he; simp at he
  | some n =>
   rw [hn] at he
   exact h i x ho ⟨n, e, hn, by simpa using he, hx⟩
 ·rfl
theorem sweepB_shut {L : List Nd} {a : Nat} {s : List Bool} (h : ShutB L a s) : sweepB L a s = s := by
 unfold sweepB
 induction (List.range L.length) with
 | nil => rfl
 | cons i l ih => rw [List.foldl_cons, lookB_shut h]; exact ih
theorem count_lt {s t : List Bool} (h : Sub s t) (hne : ¬ t = s) : s.count true < t.count true := by
 obtain ⟨hl, hx⟩ := h
 revert t
 induction s with
 | nil =>
  intro t hne hl hx
  cases t with
  | nil => exact absurd rfl hne
  | cons b t => simp at hl
 | cons a s ih =>
  intro t hne hl hx
  cases t with
  | nil => simp at hl
  | cons b t =>
   have hl' : s.length = t.length := by simpa using hl
   have hx' : ∀ x, isT s x → isT t x := fun x h => by have := hx (x + 1); simpa [isT] using this (by simpa [isT] using h)
   have h0 : a = true → b = true := fun h => by have := hx 0; simpa [isT, h] using this
   by_cases hts : t = s
   ·subst hts
    have hab : ¬ b = a := fun h => hne (by rw [h])
    cases a <;> cases b <;> simp_all
   ·have := ih hts hl' hx'
    have e1 : (a :: s).count true = s.count true + (if a = true then 1 else 0) := by cases a <;> simp
    have e2 : (b :: t).count true = t.count true + (if b = true then 1 else 0) := by cases b <;> simp
    rw [e1, e2]
    cases a <;> cases b <;> simp at h0 ⊢ <;> omega
theorem count_all {s : List Bool} (h : s.length ≤ s.count true) : ∀ x, x < s.length → isT s x := by
 have h1 : s.count true = s.length := Nat.le_antisymm List.count_le_length h
 rw [List.count_eq_length] at h1
 intro x hx
 unfold isT
 rw [List.getElem?_eq_getElem hx, ← h1 _ (List.getElem_mem hx)]
theorem timesB_end (L : List Nd) (a k : Nat) : ShutB L a (timesB L a k) ∨ k ≤ (timesB L a k).count true := by
 induction k with
 | zero => exact .inr (Nat.zero_le _)
 | succ k ih =>
  rw [timesB]
  rcases ih with h | h
  ·rw [sweepB_shut h]; exact .inl h
  ·by_cases hs : sweepB L a (timesB L a k) = timesB L a k
   ·rw [hs]
    exact .inl (shut_of_same (timesB_len L a k) hs)
   ·right
    have := count_lt (sweepB_sub L a (timesB L a k)) hs
    omega
theorem belowB_shut (L : List Nd) (a : Nat) : ShutB L a (belowB L a) := by
 rcases timesB_end L a L.length with h | h
 ·exact h
 ·intro i x _ hE
  exact count_all (s := timesB L a L.length) (by rw [timesB_len]; exact h) x (by rw [timesB_len]; exact hE.lt)
/-- The sweeps find just what is below. -/
theorem belowB_iff (L : List Nd) (a x : Nat) : isT (belowB L a) x ↔ Reach L a x := by
 refine ⟨timesB_sound L a _ x, fun h => ?_⟩
 induction h with
 | one h => exact belowB_shut L a _ _ (.inl rfl) h
 | more _ h ih => exact belowB_shut L a _ _ (.inr ih) h
theorem belowB_len (L : List Nd) (a : Nat) : (belowB L a).length = L.length := timesB_len L a _
/-! The program's way: what is found is looked into. -/
/-- Between F and G a look into i was had. -/
structure Looked (L : List Nd) (i : Nat) (F G : Nat → Prop) : Prop where
 sub : ∀ x, F x → G x
 sound : ∀ x, G x → F x ∨ Reach L i x
 kids : ∀ x, Edge L i x → G x
 shut : ∀ x, G x → ¬ F x → ∀ y, Edge L x y → G y
theorem Looked.all {L : List Nd} {i : Nat} {G : Nat → Prop} (h : Looked L i (fun _ => False) G) (x : Nat) : G x ↔ Reach L i x := by
 refine ⟨fun hx => ?_, fun hx => ?_⟩
 ·rcases h.sound x hx with h | h
  ·exact absurd h id
  ·exact h
 ·induction hx with
  | one h1 => exact h.kids _ h1
  | more _ h1 ih => exact h.shut _ ih id _ h1
theorem Reach.trans {L : List Nd} {i x y : Nat} (h : Reach L i x) (k : Reach L x y) : Reach L i y := by
 induction k with
 | one h1 => exact .more h h1
 | more _ h1 ih => exact .more ih h1
end Go.Proofs.YtmkegmndcbpblaaGreatDoor
