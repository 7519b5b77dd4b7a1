/- VolOk (the program); both sides say the same. -/
import Derived.Test.YtmkegmndcbpblaaGreatDoorVImpI
namespace Go.Proofs.YtmkegmndcbpblaaGreatDoor
open Go.RowKit Go.Maps
set_option linter.unusedVariables false
/-! Both sides. -/
theorem no_reach {L : List Nd} (h : ∀ n ∈ L, ∀ e ∈ n.names, ¬ e.id = 1) (h1 : ∀ n, L[0]? = some n → n.id = 1) (i : Nat) : ¬ Reach L i 0 := by
 have key : ∀ x, ¬ Edge L x 0 := fun x hE => by
  obtain ⟨n, e, hn, he, hx⟩ := hE
  obtain ⟨h0, hid, _⟩ := atN_some.1 hx
  exact h n (List.mem_of_getElem? hn) e he (by rw [← hid]; exact h1 _ (List.getElem?_eq_getElem h0))
 intro hr
 cases hr with
 | one h => exact key _ h
 | more _ h => exact key _ h
theorem count_tail {s : List Bool} (h0 : ¬ isT s 0) : s.count true = s.length - 1 ↔ ∀ i, 1 ≤ i → i < s.length → isT s i := by
 cases s with
 | nil => simp
 | cons a t =>
  have ha : a = false := by
   cases a with
   | false => rfl
   | true => exact absurd rfl h0
  subst ha
  have e : (false :: t).count true = t.count true := by simp
  rw [e, List.length_cons, Nat.add_sub_cancel]
  constructor
  ·intro h i h1 h2
   obtain ⟨k, rfl⟩ : ∃ k, i = k + 1 := ⟨i - 1, by omega⟩
   have := count_all (s := t) (by omega) k (by omega)
   simpa [isT] using this
  ·intro h
   rw [List.count_eq_length]
   intro b hb
   obtain ⟨k, hk, rfl⟩ := List.getElem_of_mem hb
   have h2 : t[k]? = some true := by simpa [isT] using h (k + 1) (by omega) (by omega)
   rw [List.getElem?_eq_getElem hk] at h2
   exact (Option.some.inj h2).symm
theorem usB_all (L : List Nd) : ∀ {s : List Bool}, s.length = L.length → (∀ i, i < L.length → isT s i) → usB L s = bytesN L := by
 induction L with
 | nil => intro s _ _; simp [usB, bytesN]
 | cons n L ih =>
  intro s hl h
  cases s with
  | nil => simp at hl
  | cons a t =>
   have ha : a = true := by simpa [isT] using h 0 (by simp)
   subst ha
   have h1 := ih (s := t) (by simpa using hl) fun i hi => by simpa [isT] using h (i + 1) (by simpa using hi)
   simp only [usB, bytesN, List.zip_cons_cons, List.map_cons, List.sum_cons] at h1 ⊢
   rw [h1]; simp
theorem usB_tail {L : List Nd} {s : List Bool} (hl : s.length = L.length) (h0 : ¬ isT s 0) (hd : ∀ n, L[0]? = some n → n.data.size = 0) (h : ∀ i, 1 ≤ i → i < L.length → isT s i) : usB L s = bytesN L := by
 cases L with
 | nil => simp [usB, bytesN]
 | cons n L =>
  cases s with
  | nil => simp at hl
  | cons a t =>
   have ha : a = false := by
    cases a with
    | false => rfl
    | true => exact absurd rfl h0
   subst ha
   have h1 := usB_all L (s := t) (by simpa using hl) fun i hi => by simpa [isT] using h (i + 1) (by omega) (by simpa using hi)
   have h2 := hd n rfl
   simp only [usB, bytesN, List.zip_cons_cons, List.map_cons, List.sum_cons] at h1 ⊢
   rw [h1, h2]; simp
theorem node_dir {M : List Nd} {n : Nd} (h : nodeB M n = true) (hk : n.kind = 2) : n.data.size = 0 := by
 unfold nodeB at h
 rw [if_neg (by omega), if_neg (by omega), if_pos hk] at h
 simp only [Bool.and_eq_true] at h
 have a := h.2.1.1.1.1
 have : n.data.toList = [] := by simpa using a
 rw [toList_data] at this
 have h3 := size_data n.data
 rw [this] at h3
 simpa using h3.symm
theorem right_vol (next : Int) (L : List Nd) : rightB next L = volB next L := by
 have hind := indB_ids L next L none 1 (by omega) (.inl ⟨rfl, rfl⟩)
 cases hib : idsB next L with
 | false =>
  unfold rightB
  rw [hib]
  unfold idsB at hib
  unfold volB
  rw [hind]
  have hh : headB L = true → headI L = true := fun h => by
   unfold headB at h
   unfold headI
   cases hl : L.head? with
   | none => rw [hl] at h; cases h
   | some n =>
    rw [hl] at h
    simp only [Option.map_some, Option.getD_some, Bool.and_eq_true] at h ⊢
    exact h.1
  cases h1 : inB next 2 100000 with
  | false => simp
  | true =>
   cases h2 : inB L.length 1 24 with
   | false => simp
   | true =>
    cases h3 : headB L with
    | false => simp
    | true =>
     rw [h1, h2, hh h3] at hib
     simp only [Bool.true_and] at hib
     rw [hib]
     simp
 | true =>
  have hid : inB next 2 100000 = true ∧ inB L.length 1 24 = true ∧ headI L = true ∧ idsL next 1 L = true := by
   unfold idsB at hib
   simp only [Bool.and_eq_true] at hib
   exact ⟨hib.1.1.1, hib.1.1.2, hib.1.2, hib.2⟩
  obtain ⟨i1, i2, i3, i4⟩ := hid
  have hnx : 2 ≤ next ∧ next ≤ 100000 := by simpa [inB] using i1
  have hlw : (1 : Int) ≤ (L.length : Int) ∧ (L.length : Int) ≤ 24 := by simpa [inB] using i2
  have h0 : 0 < L.length := by omega
  have hI := ids_of i4 hnx.2
  have h1 : L[0].id = 1 := by
   unfold headI at i3
   rw [List.head?_eq_getElem?, List.getElem?_eq_getElem h0] at i3
   simpa using i3
  have hat : atN L 1 = some 0 := by have := hI.at_ 0 h0; rw [h1] at this; exact this
  have hdo := dirO_some hat (List.getElem?_eq_getElem h0)
  have hhead : headB L = decide (L[0].kind = 2) := by
   unfold headB
   rw [List.head?_eq_getElem?, List.getElem?_eq_getElem h0]
   simp [h1]
  have hall : (List.range L.length).all (nodeA L) = L.all (nodeB L) := by
   rw [Bool.eq_iff_iff, List.all_eq_true, List.all_eq_true]
   constructor
   ·intro h n hn
    obtain ⟨i, hi, rfl⟩ := List.getElem_of_mem hn
    have := h i (List.mem_range.2 hi)
    unfold nodeA at this
    rw [List.getElem?_eq_getElem hi] at this
    exact this
   ·intro h i hi
    rw [List.mem_range] at hi
    unfold nodeA
    rw [List.getElem?_eq_getElem hi]
    exact h _ (List.getElem_mem hi)
  have heach : eachB L = (L.all (nodeB L) && decide (L[0].kind = 2)) := by
   unfold eachB
   rw [hall, hdo]
   by_cases hk : L[0].kind = 2 <;> simp [hk]
  have hvol : volB next L = (eachB L && wholeB L && decide (bytesN L ≤ 400) && !overB L) := by
   unfold volB
   rw [i1, i2, hind, i4, hhead, heach]
   cases L.all (nodeB L) <;> cases decide (L[0].kind = 2) <;> simp
  have hrb : rightB next L = (eachB L && wholeI L && !fullB L) := by
   unfold rightB
   rw [hib]
   rfl
  rw [hvol, hrb]
  cases heb : eachB L with
  | false => simp
  | true =>
   rw [heach, Bool.and_eq_true, decide_eq_true_eq, List.all_eq_true] at heb
   obtain ⟨hnode, hk0⟩ := heb
   have hne : ∀ n ∈ L, ∀ e ∈ n.names, ¬ e.id = 1 := fun n hn e he => (node_names (hnode n hn) e he).1
   have hs0 : ¬ isT (belowB L 0) 0 := fun h => no_reach hne (fun n hn => by rw [List.getElem?_eq_getElem h0] at hn; cases hn; exact h1) 0 ((belowB_iff L 0 0).1 h)
   have hbl : belL L 1 = belowB L 0 := belL_some hat
   have hsl := belowB_len L 0
   have hidx : ∀ i (hi : i < L.length), L[i].id = 1 ↔ i = 0 := fun i hi => by
    constructor
    ·intro h
     have := hI.at_ i hi
     rw [h, hat] at this
     cases this
     rfl
    ·rintro rfl; exact h1
   have hwhole : wholeI L = wholeB L := by
    rw [Bool.eq_iff_iff]
    unfold wholeI wholeB
    rw [Bool.and_eq_true, List.all_eq_true, List.all_eq_true, decide_eq_true_eq, hbl, ← hsl, count_tail hs0, hsl]
    constructor
    ·rintro ⟨ha, hb⟩ i hi
     rw [List.mem_range] at hi
     rcases Nat.eq_zero_or_pos i with h | h
     ·simp [h]
     ·have h2 := ha i (List.mem_range.2 hi)
      unfold okW at h2
      rw [List.getElem?_eq_getElem hi] at h2
      unfold whI
      rw [List.getElem?_eq_getElem hi]
      have h3 := hb i h hi
      have h4 : ¬ L[i].id = 1 := fun h5 => by have := (hidx i hi).1 h5; omega
      simp only [Option.map_some, Option.getD_some, h4, decide_false, Bool.false_or] at h2 ⊢
      simp only [h3, decide_true, Bool.true_and]
      cases h6 : decide (L[i].kind = 2) <;> simp_all
    ·intro ha
     refine ⟨fun i hi => ?_, fun i h hi => ?_⟩
     ·have hil := List.mem_range.1 hi
      have h2 := ha i hi
      unfold okW
      rw [List.getElem?_eq_getElem hil]
      rcases Nat.eq_zero_or_pos i with h | h
      ·subst h; simp [h1]
      ·have h7 : ¬ i = 0 := by omega
       unfold whI at h2
       rw [List.getElem?_eq_getElem hil] at h2
       simp only [Option.map_some, Option.getD_some, h7, decide_false, Bool.false_or, Bool.and_eq_true] at h2 ⊢
       have h8 := h2.2
       cases h6 : decide (L[i].kind = 2) <;> simp_all
     ·have h2 := ha i (List.mem_range.2 hi)
      have h7 : ¬ i = 0 := by omega
      unfold whI at h2
      simp only [h7, decide_false, Bool.false_or, Bool.and_eq_true, decide_eq_true_eq] at h2
      exact h2.1
   rw [hwhole]
   cases hwb : wholeB L with
   | false => simp
   | true =>
    have hov : (List.range L.length).any (ovA L) = overB L := by
     have key : ∀ i (hi : i < L.length), ovA L i = ovrB L L[i] := fun i hi => by
      unfold ovA ovrB
      rw [List.getElem?_eq_getElem hi, belL_some (hI.at_ i hi)]
      rfl
     rw [Bool.eq_iff_iff]
     unfold overB
     rw [List.any_eq_true, List.any_eq_true]
     constructor
     ·rintro ⟨i, hi, h⟩
      have hi := List.mem_range.1 hi
      exact ⟨_, List.getElem_mem hi, by rw [← key i hi]; exact h⟩
     ·rintro ⟨n, hn, h⟩
      obtain ⟨i, hi, rfl⟩ := List.getElem_of_mem hn
      exact ⟨i, List.mem_range.2 hi, by rw [key i hi]; exact h⟩
    have hus : usB L (belowB L 0) = bytesN L := by
     refine usB_tail hsl hs0 (fun n hn => by rw [List.getElem?_eq_getElem h0] at hn; cases hn; exact node_dir (hnode _ (List.getElem_mem h0)) hk0) fun i h hi => ?_
     unfold wholeB at hwb
     rw [List.all_eq_true] at hwb
     have h2 := hwb i (List.mem_range.2 hi)
     have h7 : ¬ i = 0 := by omega
     unfold whI at h2
     rw [hbl] at h2
     simp only [h7, decide_false, Bool.false_or, Bool.and_eq_true, decide_eq_true_eq] at h2
     exact h2.1
    have hfb : fullB L = (overB L || decide (400 < bytesN L)) := by
     have : fullB L = ((List.range L.length).any (ovA L) || decide (400 < usB L (belowB L 0))) := rfl
     rw [this, hov, hus]
    rw [hfb]
    by_cases hb : bytesN L ≤ 400
    ·have h2 : ¬ 400 < bytesN L := by omega
     cases overB L <;> simp [hb, h2]
    ·have h2 : 400 < bytesN L := by omega
     cases overB L <;> simp [hb, h2]
end Go.Proofs.YtmkegmndcbpblaaGreatDoor
