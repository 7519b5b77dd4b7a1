/- Numbers to the base 128: plain facts. -/
import Derived.Test.YthicdhjipebghaaTLeaf
namespace Go.Proofs.Ythicdhjipebghaa
open Go.RowKit
set_option linter.unusedVariables false
theorem take_snoc (s : ByteArray) (k : Nat) (h : k < s.size) : s.data.toList.take (k + 1) = s.data.toList.take k ++ [s[k]] := by
  rw [List.take_succ_eq_append_getElem (by simpa using h)]; rfl

theorem wraps_i64 (n : Int) (h₀ : 0 ≤ n) (h₁ : n < 2 ^ 63) : IntKind.i64.wrap n = n := by rw [IntKind.wrap_i64]; omega

/-- The bytes of n to the base 128, the lowest first, with f bytes more at most. -/
def vby : Nat → Nat → List UInt8
  | 0, n => [UInt8.ofNat n]
  | f + 1, n => if n < 128 then [UInt8.ofNat n] else UInt8.ofNat (128 + n % 128) :: vby f (n / 128)

theorem vby_last (f n : Nat) (h : n < 128) : vby f n = [UInt8.ofNat n] := by
  cases f with
  | zero => rfl
  | succ f => simp [vby, h]
theorem vby_more (f n : Nat) (h : 128 ≤ n) : vby (f + 1) n = UInt8.ofNat (128 + n % 128) :: vby f (n / 128) := by
  simp [vby, show ¬ n < 128 by omega]

/-- What Var answers for n from 0 to MaxVar. -/
def varL (n : Nat) : List UInt8 := vby 6 n
def varS (n : Nat) : ByteArray := ⟨(varL n).toArray⟩

theorem vby_length (f n : Nat) : 1 ≤ (vby f n).length ∧ (vby f n).length ≤ f + 1 := by
  induction f generalizing n with
  | zero => simp [vby]
  | succ f ih =>
    unfold vby
    split
    · simp
    · have := ih (n / 128)
      simp; omega

/-- The cells of a row of bytes. -/
def cellsOf (l : List UInt8) : List Value := l.map (fun c => Value.int .u8 (c.toNat : Int))
theorem cellsOf_length (l : List UInt8) : (cellsOf l).length = l.length := by simp [cellsOf]
theorem cellsOf_snoc (l : List UInt8) (c : UInt8) : cellsOf (l ++ [c]) = cellsOf l ++ [.int .u8 (c.toNat : Int)] := by simp [cellsOf]

theorem strOfNums_bytes (l : List UInt8) : strOfNums (l.map (fun c => (c.toNat : Int))) = ⟨l.toArray⟩ := by
  unfold strOfNums
  congr 2
  rw [List.map_map]
  conv => rhs; rw [← List.map_id l]
  apply List.map_congr_left
  intro c _
  simp

/-- One step of Var's loop: f + 1 bytes may still come; m has at least two. -/
theorem var_step {n m f : Nat} {pre : List UInt8} (h : pre ++ vby (f + 1) m = varL n) (hm : 128 ≤ m) : (pre ++ [UInt8.ofNat (128 + m % 128)]) ++ vby f (m / 128) = varL n := by
  rw [← h, vby_more f m hm, List.append_assoc]; rfl
theorem var_end {n m f : Nat} {pre : List UInt8} (h : pre ++ vby f m = varL n) (hm : m < 128) : pre ++ [UInt8.ofNat m] = varL n := by
  rw [← h, vby_last f m hm]
theorem var_fuel {f m : Nat} (h : m < 128 ^ (f + 1)) (hm : 128 ≤ m) : ∃ g, f = g + 1 ∧ m / 128 < 128 ^ (g + 1) := by
  cases f with
  | zero => simp at h; omega
  | succ g =>
    refine ⟨g, rfl, ?_⟩
    rw [Nat.pow_succ] at h
    exact Nat.div_lt_of_lt_mul (by omega)
theorem byte_hi (m : Nat) : ((UInt8.ofNat (128 + m % 128)).toNat : Int) = 128 + (m : Int) % 128 := by
  simp; omega
theorem byte_lo (m : Nat) (h : m < 128) : ((UInt8.ofNat m).toNat : Int) = (m : Int) := by
  simp; omega

/-- The number whose bytes to the base 128, the lowest first, are l (what is above 127 is not counted). -/
def vnum : List UInt8 → Nat
  | [] => 0
  | c :: l => c.toNat % 128 + 128 * vnum l

theorem vnum_lt (l : List UInt8) : vnum l < 128 ^ l.length := by
  induction l with
  | nil => simp [vnum]
  | cons c l ih =>
    simp only [vnum, List.length_cons, Nat.pow_succ]
    have : c.toNat % 128 < 128 := Nat.mod_lt _ (by omega)
    omega

theorem vnum_snoc (l : List UInt8) (c : UInt8) : vnum (l ++ [c]) = vnum l + c.toNat % 128 * 128 ^ l.length := by
  induction l with
  | nil => simp [vnum]
  | cons d l ih =>
    simp only [List.cons_append, vnum, List.length_cons, Nat.pow_succ, ih, Nat.mul_add]
    have : 128 * (c.toNat % 128 * 128 ^ l.length) = c.toNat % 128 * (128 ^ l.length * 128) := by
      rw [Nat.mul_comm 128, Nat.mul_assoc]
    omega

theorem pow128_7 (k : Nat) (h : k ≤ 7) : 128 ^ k ≤ 562949953421312 := by
  have h1 := Nat.pow_le_pow_right (n := 128) (by omega) h
  have h2 : 128 ^ 7 = 562949953421312 := by decide
  omega

theorem vnum_le (l : List UInt8) (h : l.length ≤ 7) : vnum l ≤ 562949953421311 := by
  have h1 := vnum_lt l
  have h2 := pow128_7 l.length h
  omega

/-- A text that Var makes: all bytes but the last have 128 added; the last one is not 0 behind others. -/
def VarT (t : List UInt8) : Prop := ∃ pre c, t = pre ++ [c] ∧ c.toNat < 128 ∧ (∀ d ∈ pre, 128 ≤ d.toNat) ∧ (pre ≠ [] → c.toNat ≠ 0)

theorem vby_good (f n : Nat) (h : n < 128 ^ (f + 1)) : ∃ pre m, vby f n = pre ++ [UInt8.ofNat m] ∧ m < 128 ∧ (∀ d ∈ pre, 128 ≤ d.toNat) ∧ (1 ≤ n → 1 ≤ m) ∧ (pre ≠ [] → 1 ≤ n) := by
  induction f generalizing n with
  | zero =>
    simp at h
    exact ⟨[], n, rfl, h, by simp, fun h => h, fun h => absurd rfl h⟩
  | succ f ih =>
    by_cases hn : n < 128
    · exact ⟨[], n, by rw [vby_last _ _ hn]; rfl, hn, by simp, fun h => h, fun h => absurd rfl h⟩
    · rw [Nat.pow_succ] at h
      obtain ⟨pre, m, e, hm, hp, h1, h2⟩ := ih (n / 128) (Nat.div_lt_of_lt_mul (by omega))
      refine ⟨UInt8.ofNat (128 + n % 128) :: pre, m, by rw [vby_more f n (by omega), e]; rfl, hm, ?_, fun _ => h1 (by omega), fun _ => by omega⟩
      intro d hd
      rcases List.mem_cons.1 hd with rfl | hd
      · simp; omega
      · exact hp d hd

theorem varL_good (n : Nat) (h : n ≤ 562949953421311) : VarT (varL n) := by
  obtain ⟨pre, m, e, hm, hp, h1, h2⟩ := vby_good 6 n (by omega)
  refine ⟨pre, UInt8.ofNat m, e, by simp; omega, hp, fun hne => ?_⟩
  have := h1 (h2 hne)
  simp; omega

theorem vnum_pos (pre : List UInt8) (c : UInt8) (h : c.toNat < 128) (hc : c.toNat ≠ 0) : 1 ≤ vnum (pre ++ [c]) := by
  rw [vnum_snoc]
  have h1 : 0 < 128 ^ pre.length := Nat.pow_pos (by omega)
  have h2 : 1 ≤ c.toNat % 128 := by omega
  have := Nat.mul_le_mul h2 h1
  omega

theorem vby_vnum (pre : List UInt8) (c : UInt8) (f : Nat) (h : c.toNat < 128) (hp : ∀ d ∈ pre, 128 ≤ d.toNat) (hc : pre ≠ [] → c.toNat ≠ 0) (hf : pre.length ≤ f) : vby f (vnum (pre ++ [c])) = pre ++ [c] := by
  induction pre generalizing f with
  | nil =>
    have e : vnum ([] ++ [c]) = c.toNat := by simp [vnum]; omega
    rw [e, vby_last f _ h]
    simp
  | cons d pre ih =>
    have hc' : c.toNat ≠ 0 := hc (by simp)
    have hpos := vnum_pos pre c h hc'
    cases f with
    | zero => simp at hf
    | succ f =>
      have hd : 128 ≤ d.toNat := hp d (by simp)
      have hd2 := d.toNat_lt
      have e : vnum ((d :: pre) ++ [c]) = d.toNat % 128 + 128 * vnum (pre ++ [c]) := rfl
      rw [e, vby_more f _ (by omega)]
      have e1 : (d.toNat % 128 + 128 * vnum (pre ++ [c])) / 128 = vnum (pre ++ [c]) := by omega
      have e2 : 128 + (d.toNat % 128 + 128 * vnum (pre ++ [c])) % 128 = d.toNat := by omega
      rw [e1, e2, ih f (fun x hx => hp x (by simp [hx])) (fun _ => hc') (by simpa using hf)]
      simp

theorem varL_vnum {t : List UInt8} (hg : VarT t) (h7 : t.length ≤ 7) : varL (vnum t) = t := by
  obtain ⟨pre, c, rfl, h, hp, hc⟩ := hg
  exact vby_vnum pre c 6 h hp hc (by simp at h7; omega)

/-- A text of at most seven bytes is the Var of what it says just where it is such a text. -/
theorem varL_iff {t : List UInt8} (h7 : t.length ≤ 7) : varL (vnum t) = t ↔ VarT t :=
  ⟨fun h => h ▸ varL_good (vnum t) (vnum_le t h7), fun h => varL_vnum h h7⟩

/-- What ReadVar answers: x and k. -/
def RV (l : List UInt8) (x k : Nat) : Prop :=
  (1 ≤ k ∧ k ≤ 7 ∧ k ≤ l.length ∧ VarT (l.take k) ∧ x = vnum (l.take k)) ∨ (x = 0 ∧ k = 0 ∧ ∀ j, 1 ≤ j → j ≤ 7 → j ≤ l.length → ¬ VarT (l.take j))

theorem good_at {l : List UInt8} {k : Nat} (h1 : 1 ≤ k) (hk : k ≤ l.length) (hg : VarT (l.take k)) : (l.getD (k - 1) 0).toNat < 128 ∧ ∀ j, j < k - 1 → 128 ≤ (l.getD j 0).toNat := by
  obtain ⟨pre, c, e, h, hp, _⟩ := hg
  have hl : pre.length + 1 = k := by
    have := congrArg List.length e
    simp at this; omega
  have get : ∀ j, j < k → l.getD j 0 = (pre ++ [c]).getD j 0 := by
    intro j hj
    rw [← e]
    simp [hj]
  constructor
  · rw [get (k - 1) (by omega)]
    have : k - 1 = pre.length := by omega
    rw [this]; simpa using h
  · intro j hj
    rw [get j (by omega)]
    have hj' : j < pre.length := by omega
    have : (pre ++ [c]).getD j 0 = pre[j] := by simp [List.getElem?_append_left hj', hj']
    rw [this]
    exact hp _ (List.getElem_mem hj')

theorem RV_unique {l : List UInt8} {x y j k : Nat} (h1 : RV l x j) (h2 : RV l y k) : x = y ∧ j = k := by
  rcases h1 with ⟨a1, a7, al, ag, ax⟩ | ⟨ax, aj, an⟩
  · rcases h2 with ⟨b1, b7, bl, bg, bx⟩ | ⟨bx, bk, bn⟩
    · have ha := good_at a1 al ag
      have hb := good_at b1 bl bg
      have e : j = k := by
        rcases Nat.lt_trichotomy j k with h | h | h
        · have := hb.2 (j - 1) (by omega); have := ha.1; omega
        · exact h
        · have := ha.2 (k - 1) (by omega); have := hb.1; omega
      subst e
      exact ⟨ax.trans bx.symm, rfl⟩
    · exact absurd ag (bn j a1 a7 al)
  · rcases h2 with ⟨b1, b7, bl, bg, bx⟩ | ⟨bx, bk, bn⟩
    · exact absurd bg (an k b1 b7 bl)
    · exact ⟨ax.trans bx.symm, aj.trans bk.symm⟩


theorem mem_take_getD {l : List UInt8} {k : Nat} {d : UInt8} (h : d ∈ l.take k) : ∃ j, j < k ∧ l.getD j 0 = d := by
  obtain ⟨j, hj, e⟩ := List.mem_iff_getElem.1 h
  have hj' : j < k ∧ j < l.length := by simp at hj; omega
  refine ⟨j, hj'.1, ?_⟩
  rw [List.getElem_take] at e
  simp [hj'.2, e]

theorem rv_high {s : ByteArray} {k : Nat} (hk : k < s.size) (HA : ∀ j, j < k → 128 ≤ (s.data.toList.getD j 0).toNat) (hd : 128 ≤ s[k].toNat) : ∀ j, j < k + 1 → 128 ≤ (s.data.toList.getD j 0).toNat := by
  intro j hj
  by_cases h : j < k
  · exact HA j h
  · obtain rfl : j = k := by omega
    rw [getD_data s j hk]; exact hd

theorem rv_good {s : ByteArray} {k : Nat} (hk : k < s.size) (h7 : k < 7) (HA : ∀ j, j < k → 128 ≤ (s.data.toList.getD j 0).toNat) (hd : s[k].toNat < 128) (hz : k = 0 ∨ s[k].toNat ≠ 0) : RV s.data.toList (vnum (s.data.toList.take (k + 1))) (k + 1) := by
  refine .inl ⟨by omega, by omega, by simpa using Nat.succ_le_of_lt hk, ?_, rfl⟩
  refine ⟨s.data.toList.take k, s[k], take_snoc s k hk, hd, ?_, ?_⟩
  · intro d hd
    obtain ⟨j, hj, e⟩ := mem_take_getD hd
    rw [← e]; exact HA j hj
  · intro hne
    rcases hz with rfl | hz
    · exact absurd rfl hne
    · exact hz

theorem rv_zero {s : ByteArray} {k : Nat} (hk : k < s.size) (HA : ∀ j, j < k → 128 ≤ (s.data.toList.getD j 0).toNat) (hz : s[k].toNat = 0) (h0 : 0 < k) : RV s.data.toList 0 0 := by
  refine .inr ⟨rfl, rfl, fun j h1 _ hl hg => ?_⟩
  have ga := good_at h1 hl hg
  have e : j = k + 1 := by
    rcases Nat.lt_trichotomy j (k + 1) with h | h | h
    · have := HA (j - 1) (by omega); have := ga.1; omega
    · exact h
    · have := ga.2 k (by omega)
      rw [getD_data s k hk] at this; omega
  subst e
  obtain ⟨pre, c, e, _, _, hc⟩ := hg
  rw [take_snoc s k hk] at e
  have e1 := List.append_inj' e rfl
  have hpre : pre ≠ [] := by
    rw [← e1.1]
    intro h
    have h2 : (s.data.toList.take k).length = 0 := by rw [h]; rfl
    rw [List.length_take] at h2
    have h3 : s.data.toList.length = s.size := by simp
    omega
  have := hc hpre
  rw [← (List.cons.inj e1.2).1] at this
  exact this hz

theorem rv_none {l : List UInt8} {L : Nat} (HA : ∀ j, j < L → 128 ≤ (l.getD j 0).toNat) (hL : 7 ≤ L ∨ l.length ≤ L) : RV l 0 0 := by
  refine .inr ⟨rfl, rfl, fun j h1 h7 hl hg => ?_⟩
  have ga := (good_at h1 hl hg).1
  have := HA (j - 1) (by omega)
  omega

theorem pow2_7i (k : Nat) : (2 : Int) ^ (7 * k) = ((128 ^ k : Nat) : Int) := by
  have : (2 ^ (7 * k) : Nat) = 128 ^ k := by rw [Nat.pow_mul]
  rw [← this, Int.natCast_pow]; rfl

/-- 'x | d << (7 * k)' where x has k digits. -/
theorem or_shift (x d k : Nat) (hk : k < 7) (hx : x < 128 ^ k) (hd : d < 128) : bits .or .i64 (x : Int) (wrap64 ((d : Int) * 2 ^ (7 * k))) = ((x + d * 128 ^ k : Nat) : Int) := by
  have h6 : 128 ^ k ≤ 128 ^ 6 := Nat.pow_le_pow_right (by omega) (by omega)
  have e6 : 128 ^ 6 = 4398046511104 := by decide
  have hm : d * 128 ^ k ≤ 127 * 4398046511104 := Nat.mul_le_mul (by omega) (by omega)
  have hv : (d : Int) * 2 ^ (7 * k) = ((d * 128 ^ k : Nat) : Int) := by rw [pow2_7i, Int.natCast_mul]
  rw [hv, IntWalk.wrap64_in _ ⟨by omega, by omega⟩]
  have hc : bits .or .i64 (x : Int) ((d * 128 ^ k : Nat) : Int) = bits .or .i64 ((d * 128 ^ k : Nat) : Int) (x : Int) := by simp only [bits, BitVec.or_comm]
  have hj := bits_join .i64 63 (by decide) wraps_i64 (7 * k) ((d * 128 ^ k : Nat) : Int) (x : Int) (by omega) (by rw [pow2_7i, ← Int.natCast_emod, Nat.mul_mod_left]; rfl) (by omega) (by omega) (by rw [pow2_7i]; omega) (by omega)
  rw [hc, hj, Int.natCast_add]
  omega

theorem or_take {s : ByteArray} {k : Nat} (hk : k < s.size) (h7 : k < 7) (d : Int) (hd : d = ((s[k].toNat % 128 : Nat) : Int)) : bits .or .i64 ((vnum (s.data.toList.take k) : Nat) : Int) (wrap64 (d * 2 ^ (7 * k))) = ((vnum (s.data.toList.take (k + 1)) : Nat) : Int) := by
  subst hd
  have hl : (s.data.toList.take k).length = k := by
    simp; omega
  have hx := vnum_lt (s.data.toList.take k)
  rw [hl] at hx
  rw [or_shift _ _ k h7 hx (Nat.mod_lt _ (by omega)), take_snoc s k hk, vnum_snoc, hl]

theorem varS_size (n : Nat) : (varS n).size = (varL n).length := by
  show (varL n).toArray.size = _
  simp
theorem varS_le (n : Nat) : 1 ≤ (varS n).size ∧ (varS n).size ≤ 7 := by
  rw [varS_size]; exact vby_length 6 n

theorem vnum_vby (f n : Nat) (h : n < 128 ^ (f + 1)) : vnum (vby f n) = n := by
  induction f generalizing n with
  | zero =>
    simp at h
    rw [vby_last 0 n (by omega)]
    simp [vnum]; omega
  | succ f ih =>
    by_cases hn : n < 128
    · rw [vby_last _ _ hn]
      simp [vnum]; omega
    · rw [Nat.pow_succ] at h
      rw [vby_more f n (by omega)]
      simp only [vnum]
      rw [ih (n / 128) (Nat.div_lt_of_lt_mul (by omega))]
      simp; omega
theorem vnum_varL (n : Nat) (h : n ≤ 562949953421311) : vnum (varL n) = n := vnum_vby 6 n (by omega)

end Go.Proofs.Ythicdhjipebghaa
