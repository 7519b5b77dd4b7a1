/- Plain facts on decimal digits: no Go text in sight. -/
import Derived.WalkKit
import Derived.Lib.ItoaNum
namespace Go.Proofs.YtofgpnhieopcoaaDoor
open Go.RowKit

/-- The decimal digits of m, none for 0; at most f of them. -/
def decP : Nat → Nat → List UInt8
  | 0, _ => []
  | f + 1, m => if m = 0 then [] else decP f (m / 10) ++ [UInt8.ofNat (48 + m % 10)]

theorem decP_zero (f : Nat) : decP f 0 = [] := by cases f <;> simp [decP]
theorem decP_succ (f m : Nat) (h : m ≠ 0) : decP (f + 1) m = decP f (m / 10) ++ [UInt8.ofNat (48 + m % 10)] := by simp [decP, h]

/-- What Dec makes of n. -/
def decL (n : Int) : List UInt8 := if n = 0 then [48] else if n < 0 then 45 :: decP 20 n.natAbs else decP 20 n.natAbs
def decS (n : Int) : ByteArray := ⟨(decL n).toArray⟩
theorem decL_zero : decL 0 = [48] := by simp [decL]
theorem decL_pos (n : Nat) (h : 0 < n) : decL (n : Int) = decP 20 n := by
  have h1 : ¬ (n : Int) = 0 := by omega
  have h2 : ¬ (n : Int) < 0 := by omega
  simp only [decL, if_neg h1, if_neg h2, Int.natAbs_natCast]
theorem decL_neg (n : Nat) (h : 0 < n) : decL (-(n : Int)) = 45 :: decP 20 n := by
  have h1 : ¬ (-(n : Int)) = 0 := by omega
  have h2 : (-(n : Int)) < 0 := by omega
  simp only [decL, if_neg h1, if_pos h2, Int.natAbs_neg, Int.natAbs_natCast]

theorem dec_step {U m f : Nat} {suf : List UInt8} (h : decP (f + 1) m ++ suf = decP 20 U) (hm : m ≠ 0) : decP f (m / 10) ++ (UInt8.ofNat (48 + m % 10) :: suf) = decP 20 U := by
  rw [← h, decP_succ f m hm, List.append_assoc]; rfl
theorem dec_fuel {f m : Nat} (h : m < 10 ^ f) (hm : m ≠ 0) : ∃ g, f = g + 1 ∧ m / 10 < 10 ^ g := by
  cases f with
  | zero => simp at h; omega
  | succ g =>
    refine ⟨g, rfl, ?_⟩
    rw [Nat.pow_succ] at h
    exact Nat.div_lt_of_lt_mul (by omega)
theorem dec_end {U f : Nat} {suf : List UInt8} (h : decP f 0 ++ suf = decP 20 U) : suf = decP 20 U := by
  rw [decP_zero] at h; exact h
theorem decP_length (f m : Nat) : (decP f m).length ≤ f := by
  induction f generalizing m with
  | zero => simp [decP]
  | succ f ih =>
    unfold decP
    split
    · simp
    · have := ih (m / 10); simp; omega

/-- Is the byte a digit? -/
def isD (c : UInt8) : Bool := decide (48 ≤ c.toNat) && decide (c.toNat ≤ 57)
theorem isD_iff (c : UInt8) : isD c = true ↔ 48 ≤ c.toNat ∧ c.toNat ≤ 57 := by simp [isD]
theorem isD_not (c : UInt8) : isD c = false ↔ c.toNat < 48 ∨ 57 < c.toNat := by
  rw [← Bool.not_eq_true, isD_iff]; omega

/-- The number that the digits of a text say, all other bytes left out; and how many they are. -/
def scN (l : List UInt8) : Nat := l.foldl (fun n c => if isD c = true then n * 10 + (c.toNat - 48) else n) 0
def scK (l : List UInt8) : Nat := l.foldl (fun n c => if isD c = true then n + 1 else n) 0
theorem scN_snoc (l : List UInt8) (c : UInt8) : scN (l ++ [c]) = if isD c = true then scN l * 10 + (c.toNat - 48) else scN l := by simp [scN]
theorem scK_snoc (l : List UInt8) (c : UInt8) : scK (l ++ [c]) = if isD c = true then scK l + 1 else scK l := by simp [scK]

theorem snoc_ind {P : List UInt8 → Prop} (h0 : P []) (h1 : ∀ l c, P l → P (l ++ [c])) (l : List UInt8) : P l := by
  have : ∀ r : List UInt8, P r.reverse := by
    intro r
    induction r with
    | nil => exact h0
    | cons c r ih => rw [List.reverse_cons]; exact h1 _ _ ih
  have h := this l.reverse
  rwa [List.reverse_reverse] at h

theorem scN_lt (l : List UInt8) : scN l < 10 ^ scK l := by
  induction l using snoc_ind with
  | h0 => simp [scN, scK]
  | h1 l c ih =>
    rw [scN_snoc, scK_snoc]
    by_cases h : isD c = true
    · rw [if_pos h, if_pos h, Nat.pow_succ]
      have := (isD_iff c).1 h
      omega
    · rw [if_neg h, if_neg h]; exact ih
theorem scK_le (l : List UInt8) : scK l ≤ l.length := by
  induction l using snoc_ind with
  | h0 => simp [scK]
  | h1 l c ih =>
    rw [scK_snoc]
    split <;> simp <;> omega
theorem pow10_le (k n : Nat) (h : k ≤ n) : 10 ^ k ≤ 10 ^ n := Nat.pow_le_pow_right (by omega) h
theorem scN_le10 (l : List UInt8) (h : l.length ≤ 10) : scN l ≤ 9999999999 := by
  have h1 := scN_lt l
  have h2 := pow10_le (scK l) 10 (Nat.le_trans (scK_le l) h)
  have h3 : 10 ^ 10 = 10000000000 := by decide
  omega
theorem scN_le9 (l : List UInt8) (h : scK l ≤ 9) : scN l ≤ 999999999 := by
  have h1 := scN_lt l
  have h2 := pow10_le (scK l) 9 h
  have h3 : 10 ^ 9 = 1000000000 := by decide
  omega

/-- All bytes are digits. -/
def allD (l : List UInt8) : Prop := ∀ c ∈ l, isD c = true
theorem allD_snoc {l : List UInt8} {c : UInt8} : allD (l ++ [c]) ↔ allD l ∧ isD c = true := by
  constructor
  · intro h
    exact ⟨fun d hd => h d (by simp [hd]), h c (by simp)⟩
  · rintro ⟨h, hc⟩ d hd
    rcases List.mem_append.1 hd with hd | hd
    · exact h d hd
    · rw [List.mem_singleton.1 hd]; exact hc
theorem scK_all {l : List UInt8} (h : allD l) : scK l = l.length := by
  induction l using snoc_ind with
  | h0 => rfl
  | h1 l c ih =>
    obtain ⟨h1, h2⟩ := allD_snoc.1 h
    rw [scK_snoc, if_pos h2, ih h1]; simp

theorem foldl_cons_skip (l : List UInt8) (c : UInt8) (h : isD c = false) : scN (c :: l) = scN l ∧ scK (c :: l) = scK l := by
  simp [scN, scK, h]

/-- A text of digits that begins with no 0: its number is not 0, and its digits are those. -/
theorem decP_scN (l : List UInt8) (f : Nat) (h : allD l) (h0 : l.head? ≠ some 48) (hf : l.length ≤ f) (hne : l ≠ []) : scN l ≠ 0 ∧ decP f (scN l) = l := by
  induction l using snoc_ind generalizing f with
  | h0 => exact absurd rfl hne
  | h1 l c ih =>
    obtain ⟨h1, h2⟩ := allD_snoc.1 h
    have hc := (isD_iff c).1 h2
    have hlt := c.toNat_lt
    rw [scN_snoc, if_pos h2]
    cases f with
    | zero => simp at hf
    | succ f =>
      have hl : l.length ≤ f := by simp at hf; omega
      have e1 : (scN l * 10 + (c.toNat - 48)) / 10 = scN l := by omega
      have e2 : 48 + (scN l * 10 + (c.toNat - 48)) % 10 = c.toNat := by omega
      by_cases hn : l = []
      · subst hn
        have hc0 : c ≠ 48 := by simpa using h0
        have hc1 : c.toNat ≠ 48 := fun e => hc0 (UInt8.toNat_inj.1 e)
        have hz : scN [] * 10 + (c.toNat - 48) ≠ 0 := by simp [scN]; omega
        refine ⟨hz, ?_⟩
        rw [decP_succ f _ hz, e1, e2]
        have : scN [] = 0 := rfl
        rw [this, decP_zero]
        simp
      · have hh : l.head? ≠ some 48 := by
          cases l with
          | nil => exact absurd rfl hn
          | cons a l => simpa using h0
        obtain ⟨ih1, ih2⟩ := ih f h1 hh hl hn
        have hz : scN l * 10 + (c.toNat - 48) ≠ 0 := by omega
        refine ⟨hz, ?_⟩
        rw [decP_succ f _ hz, e1, e2, ih2]
        simp

/-- The digits of a number: digits, none first that is 0, and they say it. -/
theorem decP_good (f m : Nat) (h : m < 10 ^ f) (hm : m ≠ 0) : allD (decP f m) ∧ (decP f m).head? ≠ some 48 ∧ decP f m ≠ [] ∧ scN (decP f m) = m := by
  induction f generalizing m with
  | zero => simp at h; omega
  | succ f ih =>
    rw [decP_succ f m hm]
    have hb : (UInt8.ofNat (48 + m % 10)).toNat = 48 + m % 10 := by simp; omega
    have hd : isD (UInt8.ofNat (48 + m % 10)) = true := by rw [isD_iff, hb]; omega
    by_cases hz : m / 10 = 0
    · rw [hz, decP_zero]
      refine ⟨allD_snoc.2 ⟨fun c hc => by simp at hc, hd⟩, ?_, by simp, ?_⟩
      · simp only [List.nil_append, List.head?_cons, ne_eq, Option.some.injEq]
        intro e
        have := congrArg UInt8.toNat e
        rw [hb] at this
        have h48 : (48 : UInt8).toNat = 48 := rfl
        omega
      · rw [scN_snoc, if_pos hd, hb]
        have : scN [] = 0 := rfl
        omega
    · have hlt : m / 10 < 10 ^ f := by
        rw [Nat.pow_succ] at h
        exact Nat.div_lt_of_lt_mul (by omega)
      obtain ⟨a, b, c, d⟩ := ih (m / 10) hlt hz
      refine ⟨allD_snoc.2 ⟨a, hd⟩, ?_, by simp, ?_⟩
      · cases hl : decP f (m / 10) with
        | nil => exact absurd hl c
        | cons x l => rw [hl] at b; simpa using b
      · rw [scN_snoc, if_pos hd, hb, d]; omega

/-- Does the text begin with a minus? What stands behind it. -/
def cutN (l : List UInt8) : Bool := l.head? == some 45
def cutD (l : List UInt8) : List UInt8 := if cutN l = true then l.tail else l
theorem cut_neg {l : List UInt8} (h : cutN l = true) : l = 45 :: cutD l := by
  unfold cutD
  rw [if_pos h]
  cases l with
  | nil => simp [cutN] at h
  | cons c l =>
    have : c = 45 := by simpa [cutN] using h
    rw [this]; rfl
theorem cut_pos {l : List UInt8} (h : cutN l = false) : cutD l = l := by
  unfold cutD
  rw [if_neg (by simp [h])]

theorem isD_minus : isD 45 = false := by decide
theorem scN_cut (l : List UInt8) : scN l = scN (cutD l) ∧ scK l = scK (cutD l) := by
  cases h : cutN l with
  | false => rw [cut_pos h]; exact ⟨rfl, rfl⟩
  | true =>
    have e := cut_neg h
    have := foldl_cons_skip (cutD l) 45 isD_minus
    rw [← e] at this
    exact this

/-- The texts that ReadDec takes, and what they say. -/
def GramOk (l : List UInt8) : Prop := allD (cutD l) ∧ 1 ≤ (cutD l).length ∧ (cutD l).length ≤ 9 ∧ ((cutD l).head? = some 48 → l = [48])
def dval (l : List UInt8) : Int := if cutN l = true then -(scN l : Int) else (scN l : Int)
theorem dval_neg {l : List UInt8} (h : cutN l = true) : dval l = -(scN l : Int) := if_pos h
theorem dval_pos {l : List UInt8} (h : cutN l = false) : dval l = (scN l : Int) := if_neg (by simp [h])

def RD (l : List UInt8) (x : Int) (ok : Bool) : Prop := (ok = true ∧ GramOk l ∧ x = dval l) ∨ (ok = false ∧ x = 0 ∧ ¬ GramOk l)
theorem RD_unique {l : List UInt8} {x y : Int} {a b : Bool} (h1 : RD l x a) (h2 : RD l y b) : x = y ∧ a = b := by
  rcases h1 with ⟨rfl, p, rfl⟩ | ⟨rfl, rfl, p⟩
  · rcases h2 with ⟨rfl, _, rfl⟩ | ⟨rfl, rfl, q⟩
    · exact ⟨rfl, rfl⟩
    · exact absurd p q
  · rcases h2 with ⟨rfl, q, rfl⟩ | ⟨rfl, rfl, _⟩
    · exact absurd q p
    · exact ⟨rfl, rfl⟩

theorem decP_9 (n : Nat) (h : n ≤ 999999999) (hn : n ≠ 0) : decP 20 n = decP 9 n := by
  obtain ⟨a, b, c, d⟩ := decP_good 9 n (by omega) hn
  have := (decP_scN (decP 9 n) 20 a b (Nat.le_trans (decP_length 9 n) (by omega)) c).2
  rw [d] at this
  exact this

theorem gram_of {l ds : List UInt8} {neg : Bool} (hl : l = if neg = true then 45 :: ds else ds) (ha : allD ds) (h1 : 1 ≤ ds.length) : cutN l = neg ∧ cutD l = ds := by
  cases neg with
  | true =>
    rw [if_pos rfl] at hl
    subst hl
    exact ⟨by simp [cutN], by simp [cutD, cutN]⟩
  | false =>
    rw [if_neg (by simp)] at hl
    subst hl
    cases l with
    | nil => simp at h1
    | cons c l =>
      have hc := ha c (by simp)
      have : c ≠ 45 := by
        intro e
        rw [e] at hc
        simp [isD_minus] at hc
      have e : cutN (c :: l) = false := by simp [cutN, this]
      exact ⟨e, cut_pos e⟩

theorem gram_dec (x : Int) (h : -999999999 ≤ x ∧ x ≤ 999999999) : GramOk (decL x) ∧ dval (decL x) = x := by
  by_cases h0 : x = 0
  · subst h0
    rw [decL_zero]
    have ha : allD [48] := fun c hc => by rw [List.mem_singleton.1 hc]; decide
    obtain ⟨e1, e2⟩ := gram_of (l := [48]) (ds := [48]) (neg := false) rfl ha (by simp)
    refine ⟨⟨by rw [e2]; exact ha, by rw [e2]; simp, by rw [e2]; simp, fun _ => rfl⟩, ?_⟩
    rw [dval_pos e1]; rfl
  · by_cases hn : x < 0
    · obtain ⟨n, hx⟩ : ∃ n : Nat, x = -(n : Int) := ⟨x.natAbs, by omega⟩
      subst hx
      have hp : n ≠ 0 := by omega
      obtain ⟨a, b, c, d⟩ := decP_good 9 n (by omega) hp
      rw [decL_neg n (by omega), decP_9 n (by omega) hp]
      have hlen : 1 ≤ (decP 9 n).length := by
        cases hh : decP 9 n with
        | nil => exact absurd hh c
        | cons y l => simp
      obtain ⟨e1, e2⟩ := gram_of (l := 45 :: decP 9 n) (ds := decP 9 n) (neg := true) rfl a hlen
      refine ⟨⟨by rw [e2]; exact a, by rw [e2]; exact hlen, by rw [e2]; exact decP_length 9 n, fun hh => absurd (by rw [e2] at hh; exact hh) b⟩, ?_⟩
      rw [dval_neg e1, (scN_cut _).1, e2, d]
    · obtain ⟨n, hx⟩ : ∃ n : Nat, x = (n : Int) := ⟨x.natAbs, by omega⟩
      subst hx
      have hp : n ≠ 0 := by omega
      obtain ⟨a, b, c, d⟩ := decP_good 9 n (by omega) hp
      rw [decL_pos n (by omega), decP_9 n (by omega) hp]
      have hlen : 1 ≤ (decP 9 n).length := by
        cases hh : decP 9 n with
        | nil => exact absurd hh c
        | cons y l => simp
      obtain ⟨e1, e2⟩ := gram_of (l := decP 9 n) (ds := decP 9 n) (neg := false) rfl a hlen
      refine ⟨⟨by rw [e2]; exact a, by rw [e2]; exact hlen, by rw [e2]; exact decP_length 9 n, fun hh => absurd (by rw [e2] at hh; exact hh) b⟩, ?_⟩
      rw [dval_pos e1, (scN_cut _).1, e2, d]

theorem dec_gram {l : List UInt8} (h : GramOk l) : decL (dval l) = l := by
  obtain ⟨ha, h1, h9, hz⟩ := h
  by_cases hh : (cutD l).head? = some 48
  · have e := hz hh
    subst e
    have : dval [48] = 0 := rfl
    rw [this, decL_zero]
  · have hne : cutD l ≠ [] := by
      intro e
      rw [e] at h1
      simp at h1
    obtain ⟨p, q⟩ := decP_scN (cutD l) 20 ha hh (by omega) hne
    cases hc : cutN l with
    | true =>
      rw [dval_neg hc, (scN_cut l).1, decL_neg _ (by omega), q]
      exact (cut_neg hc).symm
    | false =>
      rw [dval_pos hc, (scN_cut l).1, decL_pos _ (by omega), q]
      exact cut_pos hc

theorem gram_scan {l : List UInt8} (h : GramOk l) : scK l ≤ 9 ∧ l.length ≤ 10 := by
  obtain ⟨ha, h1, h9, hz⟩ := h
  refine ⟨by rw [(scN_cut l).2, scK_all ha]; exact h9, ?_⟩
  cases hc : cutN l with
  | true =>
    have := congrArg List.length (cut_neg hc)
    simp at this
    omega
  | false =>
    rw [cut_pos hc] at h9
    omega

theorem dval_bd {l : List UInt8} (h : scK l ≤ 9) : -999999999 ≤ dval l ∧ dval l ≤ 999999999 := by
  have h1 := scN_le9 l h
  cases hc : cutN l with
  | true => rw [dval_neg hc]; omega
  | false => rw [dval_pos hc]; omega

/-- How the specification asks it. -/
theorem spec_ok {l : List UInt8} (h1 : scK l ≤ 9) (h3 : decL (dval l) = l) : RD l (dval l) true := by
  have := (gram_dec (dval l) (dval_bd h1)).1
  rw [h3] at this
  exact .inl ⟨rfl, this, rfl⟩
theorem spec_no {l : List UInt8} (h : 9 < scK l ∨ 10 < l.length ∨ decL (dval l) ≠ l) : RD l 0 false := by
  refine .inr ⟨rfl, rfl, fun g => ?_⟩
  have a := gram_scan g
  have b := dec_gram g
  rcases h with h | h | h
  · omega
  · omega
  · exact h b

theorem decP_digits (f m : Nat) (h : m < 10 ^ f) (hm : m ≠ 0) : decP f m = Lib.decDigits m := by
  induction f generalizing m with
  | zero => simp at h; omega
  | succ f ih =>
    rw [decP_succ f m hm]
    by_cases hs : m < 10
    · have e1 : m / 10 = 0 := by omega
      have e2 : m % 10 = m := by omega
      rw [e1, e2, decP_zero, Lib.decDigits_one hs]; rfl
    · have hlt : m / 10 < 10 ^ f := by
        rw [Nat.pow_succ] at h
        exact Nat.div_lt_of_lt_mul (by omega)
      rw [ih (m / 10) hlt (by omega)]
      conv => rhs; rw [Lib.decDigits, dif_neg hs]

/-- The library's numeral is the one that Dec is to make. -/
theorem itoa_decL (n : Int) (h0 : -9223372036854775808 ≤ n) (h1 : n ≤ 9223372036854775807) : Lib.itoa n = decL n := by
  unfold Lib.itoa
  by_cases hz : n = 0
  · subst hz
    rw [decL_zero]
    simp [Lib.decDigits_one (show 0 < 10 by omega)]
  · by_cases hn : n < 0
    · obtain ⟨m, rfl⟩ : ∃ m : Nat, n = -(m : Int) := ⟨n.natAbs, by omega⟩
      rw [if_pos hn, decL_neg m (by omega), decP_digits 20 m (by omega) (by omega)]
      simp
    · obtain ⟨m, rfl⟩ : ∃ m : Nat, n = (m : Int) := ⟨n.natAbs, by omega⟩
      rw [if_neg hn, decL_pos m (by omega), decP_digits 20 m (by omega) (by omega)]
      simp

end Go.Proofs.YtofgpnhieopcoaaDoor
