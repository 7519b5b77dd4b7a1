/- Plain facts on reading hexadecimal digits. -/
import Derived.Test.YtofgpnhieopcoaaDoorMathD
import Derived.Lib.Bytealg
namespace Go.Proofs.YtofgpnhieopcoaaDoor
open Go.RowKit

def hexDs : List UInt8 := [48, 49, 50, 51, 52, 53, 54, 55, 56, 57, 97, 98, 99, 100, 101, 102]

/-- What a digit says; -1 of a byte that is none. -/
def fromHex (c : UInt8) : Int := Lib.indexByte hexDs c

theorem indexByte_at (l : List UInt8) (c : UInt8) (k : Nat) (hk : k < l.length) (hc : l.getD k 0 = c) (hn : ∀ j, j < k → l.getD j 0 ≠ c) : Lib.indexByte l c = k := by
  induction l generalizing k with
  | nil => simp at hk
  | cons b l ih =>
    cases k with
    | zero =>
      have : b = c := by simpa using hc
      simp [Lib.indexByte, this]
    | succ k =>
      have h0 : b ≠ c := by simpa using hn 0 (by omega)
      have h1 := ih k (by simpa using hk) (by simpa using hc) (fun j hj => by simpa using hn (j + 1) (by omega))
      have h2 : (b == c) = false := by simpa using h0
      simp only [Lib.indexByte, h2, h1]
      have h3 : ((k : Int) == -1) = false := by simp
      simp [h3]

theorem indexByte_none (l : List UInt8) (c : UInt8) (hn : ∀ j, j < l.length → l.getD j 0 ≠ c) : Lib.indexByte l c = -1 := by
  induction l with
  | nil => rfl
  | cons b l ih =>
    have h0 : b ≠ c := by simpa using hn 0 (by simp)
    have h1 := ih (fun j hj => by simpa using hn (j + 1) (by simpa using hj))
    have h2 : (b == c) = false := by simpa using h0
    simp [Lib.indexByte, h2, h1]

theorem indexByte_lt (l : List UInt8) (c : UInt8) : -1 ≤ Lib.indexByte l c ∧ Lib.indexByte l c < l.length := by
  induction l with
  | nil => simp [Lib.indexByte]
  | cons b l ih =>
    simp only [Lib.indexByte, List.length_cons]
    split
    · omega
    · split
      · omega
      · omega

theorem fromHex_bd (c : UInt8) : -1 ≤ fromHex c ∧ fromHex c ≤ 15 := by
  have h := indexByte_lt hexDs c
  have : hexDs.length = 16 := rfl
  unfold fromHex
  omega

theorem fromHex_found (c : UInt8) (k : Nat) (hk : k < 16) (hc : hexC k = c) (hn : ∀ j, j < k → hexC j ≠ c) : fromHex c = k :=
  indexByte_at hexDs c k hk hc hn
theorem fromHex_none (c : UInt8) (hn : ∀ j, j < 16 → hexC j ≠ c) : fromHex c = -1 :=
  indexByte_none hexDs c hn

/-- Byte k of what Unhex makes of a text. -/
def ub (s : ByteArray) (k : Nat) : UInt8 := UInt8.ofNat (16 * fromHex (s.data.toList.getD (2 * k) 0) + fromHex (s.data.toList.getD (2 * k + 1) 0)).toNat
def ubs (s : ByteArray) (k : Nat) : List UInt8 := (List.range k).map (ub s)
theorem ubs_length (s : ByteArray) (k : Nat) : (ubs s k).length = k := by simp [ubs]
theorem ubs_succ (s : ByteArray) (k : Nat) : ubs s (k + 1) = ubs s k ++ [ub s k] := by simp [ubs, List.range_succ]

def digitsTo (s : ByteArray) (n : Nat) : Prop := ∀ j, j < n → 0 ≤ fromHex (s.data.toList.getD j 0)

/-- What Unhex answers. -/
def UH (s : ByteArray) (r : ByteArray) (ok : Bool) : Prop :=
  (ok = true ∧ s.size % 2 = 0 ∧ digitsTo s s.size ∧ r = ⟨(ubs s (s.size / 2)).toArray⟩) ∨ (ok = false ∧ r = ByteArray.empty ∧ ¬ (s.size % 2 = 0 ∧ digitsTo s s.size))

theorem UH_unique {s r t : ByteArray} {a b : Bool} (h1 : UH s r a) (h2 : UH s t b) : r = t ∧ a = b := by
  rcases h1 with ⟨rfl, p1, p2, rfl⟩ | ⟨rfl, rfl, p⟩
  · rcases h2 with ⟨rfl, _, _, rfl⟩ | ⟨rfl, rfl, q⟩
    · exact ⟨rfl, rfl⟩
    · exact absurd ⟨p1, p2⟩ q
  · rcases h2 with ⟨rfl, q1, q2, rfl⟩ | ⟨rfl, rfl, q⟩
    · exact absurd ⟨q1, q2⟩ p
    · exact ⟨rfl, rfl⟩

theorem digits_step {s : ByteArray} {k : Nat} (h : digitsTo s (2 * k)) (h0 : 0 ≤ fromHex (s.data.toList.getD (2 * k) 0)) (h1 : 0 ≤ fromHex (s.data.toList.getD (2 * k + 1) 0)) : digitsTo s (2 * (k + 1)) := by
  intro j hj
  by_cases a : j < 2 * k
  · exact h j a
  · by_cases b : j = 2 * k
    · rw [b]; exact h0
    · have : j = 2 * k + 1 := by omega
      rw [this]; exact h1

theorem uh_done {s : ByteArray} {k : Nat} (hk : 2 * k = s.size) (h : digitsTo s (2 * k)) : UH s ⟨(ubs s k).toArray⟩ true := by
  refine .inl ⟨rfl, by omega, by rw [← hk]; exact h, ?_⟩
  have : s.size / 2 = k := by omega
  rw [this]
theorem uh_odd {s : ByteArray} (h : s.size % 2 = 1) : UH s ByteArray.empty false := .inr ⟨rfl, rfl, fun p => by omega⟩
theorem uh_bad {s : ByteArray} (j : Nat) (hj : j < s.size) (h : fromHex (s.data.toList.getD j 0) < 0) : UH s ByteArray.empty false :=
  .inr ⟨rfl, rfl, fun p => by have := p.2 j hj; omega⟩

/-- The byte of two digits, as a number. -/
theorem ub_num {s : ByteArray} {k : Nat} (a b : Int) (ha : a = fromHex (s.data.toList.getD (2 * k) 0)) (hb : b = fromHex (s.data.toList.getD (2 * k + 1) 0)) (h0 : 0 ≤ a) (h1 : 0 ≤ b) : ((ub s k).toNat : Int) = 16 * a + b := by
  have ga := fromHex_bd (s.data.toList.getD (2 * k) 0)
  have gb := fromHex_bd (s.data.toList.getD (2 * k + 1) 0)
  unfold ub
  rw [← ha, ← hb] at *
  obtain ⟨m, hm⟩ := Int.eq_ofNat_of_zero_le (show 0 ≤ 16 * a + b by omega)
  rw [hm]
  have : m < 256 := by omega
  simp; omega

/-- The program's row of m bytes behind k rounds. -/
def uhArr (s : ByteArray) (m k : Nat) : Array Value := (cellsOf (ubs s k) ++ List.replicate (m - k) (Value.int .u8 0)).toArray
theorem uhArr_zero (s : ByteArray) (m : Nat) : madeCells #[.int .u8 0] m = uhArr s m 0 := by
  apply Array.ext'
  rw [toList_madeCells_one]
  simp [uhArr, ubs, cellsOf]
theorem uhArr_size (s : ByteArray) (m k : Nat) (h : k ≤ m) : (uhArr s m k).size = m := by
  simp [uhArr, cellsOf, ubs_length]; omega
theorem uhArr_get (s : ByteArray) (m k j : Nat) (hk : k ≤ m) (hj : j < m) : ∃ v, (uhArr s m k)[j]? = some v := by
  have h : j < (uhArr s m k).size := by rw [uhArr_size s m k hk]; exact hj
  exact ⟨_, Array.getElem?_eq_getElem h⟩
theorem uhArr_set (s : ByteArray) (m k : Nat) (v : Int) (h : k < m) (hv : v = ((ub s k).toNat : Int)) : (uhArr s m k).setIfInBounds k (.int .u8 v) = uhArr s m (k + 1) := by
  subst hv
  unfold uhArr
  rw [List.setIfInBounds_toArray, List.set_append_right _ _ (by rw [cellsOf_length, ubs_length]; omega), cellsOf_length, ubs_length, Nat.sub_self, ubs_succ, cellsOf_snoc]
  have e : m - k = (m - (k + 1)) + 1 := by omega
  rw [e, List.replicate_succ, List.set_cons_zero, List.append_assoc]
  rfl
theorem uhArr_done (s : ByteArray) (m j : Nat) (hj : j < m) : (uhArr s m m)[j]? = some (.int .u8 (((ubs s m).map (fun c => (c.toNat : Int))).getD j 0)) := by
  have h : j < (ubs s m).length := by rw [ubs_length]; exact hj
  simp [uhArr, cellsOf, h]

end Go.Proofs.YtofgpnhieopcoaaDoor
