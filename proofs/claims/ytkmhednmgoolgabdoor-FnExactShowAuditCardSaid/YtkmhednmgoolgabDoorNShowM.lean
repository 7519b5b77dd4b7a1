/- What is shown of notes: plain facts. -/
import Derived.Test.YtkmhednmgoolgabDoorNNote
import Derived.Test.YtkmhednmgoolgabDoorNDec
import Derived.Lib.Join
namespace Go.Proofs.YtkmhednmgoolgabDoor
open Go.RowKit
set_option linter.unusedVariables false
theorem ba_ext {a b : ByteArray} (h : a.data.toList = b.data.toList) : a = b := by
  obtain ⟨⟨l⟩⟩ := a
  obtain ⟨⟨m⟩⟩ := b
  simp at h
  rw [h]
/-- A note as a text. -/
def noteL (x : Nt) : List UInt8 := decL x.i ++ [46] ++ decL x.c ++ [46] ++ decL x.s ++ [46] ++ decL x.k ++ [46] ++ decL x.d
def noteS (x : Nt) : ByteArray := ⟨(noteL x).toArray⟩
theorem decL_size (n : Int) : (decL n).length ≤ 21 := by
  have h : (decL n).toArray.size ≤ 21 := decS_size n
  simpa using h
theorem noteL_size (x : Nt) : (noteL x).length ≤ 120 := by
  have h1 := decL_size x.i
  have h2 := decL_size x.c
  have h3 := decL_size x.s
  have h4 := decL_size x.k
  have h5 := decL_size x.d
  simp only [noteL, List.length_append, List.length_cons, List.length_nil]
  omega
def accL (L : List Nt) (f p : Nat) : List UInt8 := Lib.join (((L.drop f).take (p - f)).map noteL) [32]
def accS (L : List Nt) (f p : Nat) : ByteArray := ⟨(accL L f p).toArray⟩
/-- What is shown of the notes from number fr on. -/
def showS (L : List Nt) (fr : Int) : ByteArray := if auditB L = true ∧ 0 ≤ fr then ⟨(Lib.join (((L.drop fr.toNat).take 6).map noteL) [32]).toArray⟩ else ⟨#[]⟩
theorem showS_no {L : List Nt} {fr : Int} (h : auditB L = false ∨ fr < 0) : showS L fr = ⟨#[]⟩ := by
  unfold showS
  rw [if_neg]
  rintro ⟨h1, h2⟩
  rcases h with h | h
  · rw [h] at h1; cases h1
  · omega
theorem showS_yes {L : List Nt} (h : auditB L = true) (f : Nat) : showS L (f : Nat) = accS L f (f + 6) := by
  unfold showS
  rw [if_pos ⟨h, by omega⟩]
  unfold accS accL
  rw [show f + 6 - f = 6 by omega]
  simp
theorem from_each {m : Int} {l : List Nt} (h : auditFrom m l = true) (hm : 1 ≤ m) : ∀ x ∈ l, 1 ≤ x.i ∧ x.i ≤ 100000 ∧ 1 ≤ x.c ∧ x.c ≤ 3 ∧ 1 ≤ x.s ∧ x.s ≤ 1000000 ∧ 1 ≤ x.k ∧ x.k ≤ 22 ∧ 0 ≤ x.d ∧ x.d ≤ 200 := by
  induction l generalizing m with
  | nil => intro x hx; cases hx
  | cons a l ih =>
    unfold auditFrom at h
    simp only [Bool.and_eq_true] at h
    obtain ⟨⟨h1, h2⟩, h3⟩ := h
    have h4 := inB_of' h1
    unfold noteB at h2
    simp only [Bool.and_eq_true] at h2
    obtain ⟨a1, a2, a3, a4⟩ := h2
    have b1 := inB_of' a1
    have b2 := inB_of' a2
    have b3 := inB_of' a3
    have b4 := inB_of' a4
    intro x hx
    rcases List.mem_cons.1 hx with rfl | hx
    · exact ⟨by omega, h4.2, b1.1, b1.2, b2.1, b2.2, b3.1, b3.2, b4.1, b4.2⟩
    · exact ih h3 (by omega) x hx
theorem audit_len {l : List Nt} (h : auditB l = true) : l.length ≤ 20 := by
  unfold auditB at h
  simp only [Bool.and_eq_true, decide_eq_true_eq] at h
  exact h.1
theorem audit_each {l : List Nt} (h : auditB l = true) : ∀ x ∈ l, 1 ≤ x.i ∧ x.i ≤ 100000 ∧ 1 ≤ x.c ∧ x.c ≤ 3 ∧ 1 ≤ x.s ∧ x.s ≤ 1000000 ∧ 1 ≤ x.k ∧ x.k ≤ 22 ∧ 0 ≤ x.d ∧ x.d ≤ 200 := by
  unfold auditB at h
  simp only [Bool.and_eq_true, decide_eq_true_eq] at h
  exact from_each h.2 (Int.le_refl _)
theorem acc_zero (L : List Nt) (f : Nat) : accS L f f = ⟨#[]⟩ := by
  unfold accS accL
  rw [Nat.sub_self]
  rfl
theorem join_snoc (A : List (List UInt8)) (x sep : List UInt8) : Lib.join (A ++ [x]) sep = if A = [] then x else Lib.join A sep ++ sep ++ x := by
  cases A with
  | nil => simp [Lib.join_one]
  | cons a A =>
    rw [if_neg (by simp), List.cons_append, Lib.join_cons, Lib.join_cons]
    simp [Lib.joinTail]
theorem acc_step {L : List Nt} {f p : Nat} (h : p < L.length) (hf : f ≤ p) : accS L f (p + 1) = if p = f then accS L f p ++ noteS L[p] else (accS L f p ++ ⟨#[32]⟩) ++ noteS L[p] := by
  have e1 : (L.drop f).take (p + 1 - f) = (L.drop f).take (p - f) ++ [L[p]] := by
    rw [show p + 1 - f = (p - f) + 1 by omega, List.take_succ_eq_append_getElem (by simp; omega)]
    congr 2
    simp only [List.getElem_drop]
    congr 1; omega
  have e2 : (accS L f (p + 1)).data.toList = Lib.join (((L.drop f).take (p - f)).map noteL ++ [noteL L[p]]) [32] := by
    unfold accS accL
    rw [e1, List.map_append]
    rfl
  rw [join_snoc] at e2
  by_cases hp : p = f
  · subst hp
    rw [if_pos rfl]
    apply ba_ext
    rw [e2, if_pos (by simp)]
    simp [acc_zero, noteS, ByteArray.data_append]
  · rw [if_neg hp]
    apply ba_ext
    have hne : ¬ ((L.drop f).take (p - f)).map noteL = [] := by
      intro h2
      have h3 := congrArg List.length h2
      simp at h3
      omega
    rw [e2, if_neg hne]
    simp [accS, accL, noteS, ByteArray.data_append]
theorem join_size (A : List (List UInt8)) (h : ∀ x ∈ A, x.length ≤ 120) : (Lib.join A [32]).length ≤ 121 * A.length := by
  cases A with
  | nil => simp [Lib.join_nil]
  | cons a A =>
    rw [Lib.join_cons]
    have ha := h a (by simp)
    have ht : (Lib.joinTail [32] A).length ≤ 121 * A.length := by
      have h2 : ∀ x ∈ A, x.length ≤ 120 := fun x hx => h x (by simp [hx])
      clear h ha
      induction A with
      | nil => simp [Lib.joinTail]
      | cons b A ih =>
        have h3 := ih (fun x hx => h2 x (by simp [hx]))
        have hb := h2 b (by simp)
        simp only [Lib.joinTail, List.map_cons, List.flatten_cons, List.length_append, List.length_cons, List.length_nil] at h3 ⊢
        omega
    simp only [List.length_append, List.length_cons]
    omega
theorem acc_size {L : List Nt} (h : ∀ x ∈ L, 1 ≤ x.i ∧ x.i ≤ 100000 ∧ 1 ≤ x.c ∧ x.c ≤ 3 ∧ 1 ≤ x.s ∧ x.s ≤ 1000000 ∧ 1 ≤ x.k ∧ x.k ≤ 22 ∧ 0 ≤ x.d ∧ x.d ≤ 200) (f p : Nat) (hp : p ≤ f + 6) : (accS L f p).size ≤ 1000 := by
  have h1 := join_size (((L.drop f).take (p - f)).map noteL) (by
    intro y hy
    obtain ⟨x, _, rfl⟩ := List.mem_map.1 hy
    exact noteL_size x)
  have h2 : (((L.drop f).take (p - f)).map noteL).length ≤ 6 := by simp; omega
  show (accL L f p).toArray.size ≤ 1000
  simp only [List.size_toArray]
  unfold accL
  omega
theorem acc_end {L : List Nt} {f p : Nat} (h : f + 6 ≤ p ∨ (L.length ≤ p ∧ f ≤ p)) (h6 : p ≤ f + 6) : accS L f p = accS L f (f + 6) := by
  unfold accS accL
  congr 4
  rcases h with h | h
  · rw [show p = f + 6 by omega]
  · rw [List.take_of_length_le (by simp; omega), List.take_of_length_le (by simp; omega)]
end Go.Proofs.YtkmhednmgoolgabDoor
