/- Stores over plain data: what the functions of chapter 3 answer. -/
import Derived.WalkKit
import Derived.Below
namespace Go.Proofs.Ytkilepoimocoeaa
open Go.RowKit
set_option linter.unusedVariables false

structure En where
  t : Int
  d : ByteArray
structure Rc where
  k : Int
  t : Int
  i : Int
  v : Int
  d : ByteArray
structure Kp where
  t : Int
  v : Int
  si : Int
  st : Int
  sd : ByteArray
  e : List En
structure Sto where
  k : Kp
  l : List Rc

theorem Hid.intro {p : Prop} (h : p) : Hid p := h

def kpZ : Kp := ⟨0, 0, 0, 0, ⟨#[]⟩, []⟩

abbrev headP (K : Kp) : Prop := 0 ≤ K.t ∧ K.t ≤ 100000 ∧ -1 ≤ K.v ∧ K.v ≤ 4 ∧ ((K.si = 0 ∧ K.st = 0 ∧ K.sd.size = 0) ∨ (1 ≤ K.si ∧ K.si ≤ 100000 ∧ 1 ≤ K.st ∧ K.st ≤ K.t ∧ K.sd.size ≤ 20000)) ∧ K.e.length ≤ 60 ∧ K.si + K.e.length ≤ 100000
def entsB (lo top : Int) : List En → Bool
  | [] => true
  | e :: r => decide (lo ≤ e.t ∧ e.t ≤ top ∧ e.d.size ≤ 1600) && entsB e.t top r

def keptB (K : Kp) : Bool := decide (headP K) && entsB (max K.st 1) K.t K.e

abbrev recP (r : Rc) : Prop :=
  (r.k = 1 ∧ 0 ≤ r.t ∧ r.t ≤ 100000 ∧ -1 ≤ r.v ∧ r.v ≤ 4 ∧ r.i = 0 ∧ r.d.size = 0) ∨
  (r.k = 2 ∧ 1 ≤ r.t ∧ r.t ≤ 100000 ∧ 1 ≤ r.i ∧ r.i ≤ 100000 ∧ r.v = 0 ∧ r.d.size ≤ 1600) ∨
  (r.k = 3 ∧ r.t = 0 ∧ 1 ≤ r.i ∧ r.i ≤ 100000 ∧ r.v = 0 ∧ r.d.size = 0) ∨
  (r.k = 4 ∧ 1 ≤ r.t ∧ r.t ≤ 100000 ∧ 1 ≤ r.i ∧ r.i ≤ 100000 ∧ r.v = 0 ∧ r.d.size ≤ 20000)

def recB (r : Rc) : Bool := decide (recP r)

def lastT (K : Kp) : Int := match K.e.getLast? with | none => K.st | some e => e.t
abbrev fitsP (K : Kp) (r : Rc) : Prop :=
  (r.k = 1 ∧ (K.t < r.t ∨ (r.t = K.t ∧ (K.v = -1 ∨ r.v = K.v)))) ∨
  (r.k = 2 ∧ r.i = K.si + K.e.length + 1 ∧ K.e.length < 60 ∧ lastT K ≤ r.t ∧ r.t ≤ K.t) ∨
  (r.k = 3 ∧ K.si < r.i ∧ r.i ≤ K.si + K.e.length) ∨
  (r.k = 4 ∧ K.si < r.i ∧ r.t ≤ K.t)

def fitsB (K : Kp) (r : Rc) : Bool := decide (fitsP K r)
def behL (L : List En) (n t : Int) : List En := if 1 ≤ n ∧ n ≤ L.length ∧ (L.getD (n - 1).toNat ⟨0, ⟨#[]⟩⟩).t = t then L.drop n.toNat else []
def stepK (K : Kp) (r : Rc) : Kp :=
  if r.k = 1 then { K with t := r.t, v := r.v }
  else if r.k = 2 then { K with e := K.e ++ [⟨r.t, r.d⟩] }
  else if r.k = 3 then { K with e := K.e.take (r.i - K.si - 1).toNat }
  else { K with si := r.i, st := r.t, sd := r.d, e := behL K.e (r.i - K.si) r.t }
/-- May it be stepped: the record is right, and it fits. -/
def goB (K : Kp) (r : Rc) : Bool := recB r && fitsB K r
/-- What KeptStep makes of a right Kept. -/
def nextK (K : Kp) (r : Rc) : Kp := if goB K r = true then stepK K r else K

/-- Small enough that no number wraps. -/
def Sm (K : Kp) : Prop := 0 ≤ K.si ∧ K.si ≤ 100000 ∧ K.e.length ≤ 60
theorem keptB_head {K : Kp} (h : keptB K = true) : headP K := by
  simp only [keptB, Bool.and_eq_true, decide_eq_true_eq] at h
  exact h.1
theorem keptB_ents {K : Kp} (h : keptB K = true) : entsB (max K.st 1) K.t K.e = true := by
  simp only [keptB, Bool.and_eq_true, decide_eq_true_eq] at h
  exact h.2
theorem keptB_mk {K : Kp} (h : headP K) (h2 : entsB (max K.st 1) K.t K.e = true) : keptB K = true := by
  simp only [keptB, Bool.and_eq_true, decide_eq_true_eq]
  exact ⟨h, h2⟩
theorem keptB_no {K : Kp} (h : ¬ headP K) : keptB K = false := by
  cases hk : keptB K with
  | false => rfl
  | true => exact absurd (keptB_head hk) h
theorem keptB_eq {K : Kp} (h : headP K) : keptB K = entsB (max K.st 1) K.t K.e := by
  cases he : entsB (max K.st 1) K.t K.e with
  | true => exact keptB_mk h he
  | false =>
    cases hk : keptB K with
    | false => rfl
    | true => rw [keptB_ents hk] at he; cases he
theorem Sm.of {K : Kp} (h : keptB K = true) : Sm K := by
  have := keptB_head h
  unfold headP at this
  exact ⟨by omega, by omega, by omega⟩
theorem recB_yes {r : Rc} (h : recP r) : recB r = true := decide_eq_true h
theorem recB_no {r : Rc} (h : ¬ recP r) : recB r = false := decide_eq_false h
theorem recB_out {r : Rc} (h : recB r = true) : recP r := of_decide_eq_true h
theorem fitsB_yes {K : Kp} {r : Rc} (h : fitsP K r) : fitsB K r = true := decide_eq_true h
theorem fitsB_no {K : Kp} {r : Rc} (h : ¬ fitsP K r) : fitsB K r = false := decide_eq_false h
theorem fitsB_out {K : Kp} {r : Rc} (h : fitsB K r = true) : fitsP K r := of_decide_eq_true h
theorem behL_len (L : List En) (n t : Int) : (behL L n t).length ≤ L.length := by
  unfold behL
  split
  · simp
  · simp
theorem Sm.step {K : Kp} {r : Rc} (h : Sm K) (hr : recP r) (hf : fitsP K r) : Sm (stepK K r) := by
  unfold Sm stepK at *
  unfold recP at hr
  unfold fitsP at hf
  split
  · exact h
  · split
    · simp; omega
    · split
      · simp; omega
      · have := behL_len K.e (r.i - K.si) r.t
        simp; omega
theorem goB_out {K : Kp} {r : Rc} (h : goB K r = true) : recP r ∧ fitsP K r := by
  simp only [goB, Bool.and_eq_true] at h
  exact ⟨recB_out h.1, fitsB_out h.2⟩
theorem goB_mk {K : Kp} {r : Rc} (h : recP r) (h2 : fitsP K r) : goB K r = true := by
  simp only [goB, Bool.and_eq_true]
  exact ⟨recB_yes h, fitsB_yes h2⟩
theorem Sm.next {K : Kp} {r : Rc} (h : Sm K) : Sm (nextK K r) := by
  unfold nextK
  split
  · rename_i hg
    exact h.step (goB_out hg).1 (goB_out hg).2
  · exact h

/-- What records come to: nothing where one does not fit. -/
def foldK : Kp → List Rc → Option Kp
  | K, [] => some K
  | K, r :: l => if goB K r = true then foldK (stepK K r) l else none
theorem foldK_snoc (K : Kp) (l : List Rc) (r : Rc) : foldK K (l ++ [r]) = (foldK K l).bind fun K' => if goB K' r = true then some (stepK K' r) else none := by
  induction l generalizing K with
  | nil => simp only [List.nil_append, foldK, Option.bind_some]
  | cons a l ih =>
    simp only [List.cons_append, foldK]
    split
    · exact ih _
    · rfl
theorem foldK_append (K : Kp) (l m : List Rc) : foldK K (l ++ m) = (foldK K l).bind fun K' => foldK K' m := by
  induction l generalizing K with
  | nil => simp only [List.nil_append, foldK, Option.bind_some]
  | cons a l ih =>
    simp only [List.cons_append, foldK]
    split
    · exact ih _
    · rfl
theorem foldK_none {K : Kp} {l : List Rc} {r : Rc} {m : List Rc} {K' : Kp} (h : foldK K l = some K') (hg : goB K' r = false) : foldK K (l ++ r :: m) = none := by
  rw [foldK_append, h]
  simp [foldK, hg]
theorem Sm.fold {K K' : Kp} {l : List Rc} (h : Sm K) (hf : foldK K l = some K') : Sm K' := by
  induction l generalizing K with
  | nil => simp only [foldK, Option.some.injEq] at hf; subst hf; exact h
  | cons a l ih =>
    simp only [foldK] at hf
    split at hf
    · rename_i hg
      exact ih (h.step (goB_out hg).1 (goB_out hg).2) hf
    · cases hf

def storeB (S : Sto) : Bool := keptB S.k && decide (S.l.length ≤ 80) && (foldK S.k S.l).isSome
def heldK (S : Sto) : Kp := if storeB S = true then (foldK S.k S.l).getD kpZ else kpZ
theorem storeB_out {S : Sto} (h : storeB S = true) : keptB S.k = true ∧ S.l.length ≤ 80 ∧ ∃ K, foldK S.k S.l = some K := by
  simp only [storeB, Bool.and_eq_true, decide_eq_true_eq] at h
  exact ⟨h.1.1, h.1.2, Option.isSome_iff_exists.1 h.2⟩
theorem storeB_mk {S : Sto} {K : Kp} (h : keptB S.k = true) (h2 : S.l.length ≤ 80) (h3 : foldK S.k S.l = some K) : storeB S = true := by
  simp [storeB, h, h2, h3]
theorem storeB_no1 {S : Sto} (h : keptB S.k = false) : storeB S = false := by simp [storeB, h]
theorem storeB_no2 {S : Sto} (h : ¬ S.l.length ≤ 80) : storeB S = false := by simp [storeB, h]
theorem storeB_no3 {S : Sto} (h : foldK S.k S.l = none) : storeB S = false := by simp [storeB, h]
theorem heldK_yes {S : Sto} {K : Kp} (h : storeB S = true) (h3 : foldK S.k S.l = some K) : heldK S = K := by simp [heldK, h, h3]
theorem heldK_no {S : Sto} (h : storeB S = false) : heldK S = kpZ := by simp [heldK, h]

/-- A beginning of what fits fits. -/
theorem foldK_take {K K' : Kp} {l : List Rc} (h : foldK K l = some K') (n : Nat) : ∃ K1, foldK K (l.take n) = some K1 := by
  have := foldK_append K (l.take n) (l.drop n)
  rw [List.take_append_drop, h] at this
  cases h1 : foldK K (l.take n) with
  | none => rw [h1] at this; cases this
  | some K1 => exact ⟨K1, rfl⟩

/-- How many records are taken up, with that much room. -/
def came : Kp → Nat → List Rc → Nat
  | _, _, [] => 0
  | _, 0, _ :: _ => 0
  | K, room + 1, r :: l => if goB K r = true then came (stepK K r) room l + 1 else 0
def firstN {α : Type} (n : Int) (l : List α) : List α := l.take n.toNat

end Go.Proofs.Ytkilepoimocoeaa
