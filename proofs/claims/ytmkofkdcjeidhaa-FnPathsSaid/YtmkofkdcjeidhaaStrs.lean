/- Rows of texts: what a slice of strings holds, and laws of such a row. -/
import Derived.Test.YtmkofkdcjeidhaaLeaf
import Derived.WalkSmall
import Derived.Lib.Strings
namespace Go.Proofs.Ytmkofkdcjeidhaa
open Go.RowKit
set_option linter.unusedVariables false

theorem ret_str {a b : ByteArray} (h : a = b) : Ending.returned (.string a) = .returned (.string b) := by rw [h]
theorem val_str {a b : ByteArray} (h : a = b) : Value.string a = .string b := by rw [h]

def sVal (l : List UInt8) : Value := .string ⟨l.toArray⟩
def sVals (L : List (List UInt8)) : List Value := L.map sVal
theorem sVals_length (L : List (List UInt8)) : (sVals L).length = L.length := by simp [sVals]
theorem sVals_append (A B : List (List UInt8)) : sVals (A ++ B) = sVals A ++ sVals B := by simp [sVals]
theorem sVals_get (L : List (List UInt8)) (j : Nat) (h : j < L.length) : (sVals L)[j]? = some (sVal L[j]) := by simp [sVals, h]
theorem sVals_one {L : List (List UInt8)} : ∀ u ∈ sVals L, u.oneCell' = true := by
  intro u hu
  simp only [sVals, List.mem_map] at hu
  obtain ⟨l, _, rfl⟩ := hu
  rfl

/-- The slice v, of memory from block base on, holds the texts L. -/
def RowS (w : World) (base : Nat) (v : Value) (L : List (List UInt8)) : Prop := w.ownsRow base 9 1 v L.length (sVals L)

theorem RowS.kept {w w' : World} {base : Nat} {v : Value} {L : List (List UInt8)} (h : RowS w base v L) (hb : Below w.heap.size w w') : RowS w' base v L := by
  refine ⟨h.1, ?_⟩
  rcases h.2 with hn | ⟨g, cap, cur, rfl, hg, hgg, rest⟩
  · exact .inl hn
  · exact .inr ⟨g, cap, cur, rfl, hg, (hb.block g (Array.getElem?_eq_some_iff.1 hgg).1).trans hgg, rest⟩
theorem RowS.lower {w : World} {base base' : Nat} {v : Value} {L : List (List UInt8)} (h : RowS w base v L) (hb : base' ≤ base) : RowS w base' v L := by
  refine ⟨h.1, ?_⟩
  rcases h.2 with hn | ⟨g, cap, cur, rfl, hg, hgg, rest⟩
  · exact .inl hn
  · exact .inr ⟨g, cap, cur, rfl, by omega, hgg, rest⟩
/-- How such a slice looks. -/
theorem RowS.look {w : World} {base : Nat} {v : Value} {L : List (List UInt8)} (h : RowS w base v L) : (v = .slice none 0 0 ∧ L = []) ∨ ∃ g cap, v = .slice (some ⟨g, 0, none⟩) L.length cap ∧ base ≤ g ∧ g < w.heap.size ∧ L.length ≤ cap ∧ cap ≤ 9223372036854775807 := by
  rcases h.2 with ⟨hv, hn⟩ | ⟨g, cap, cur, rfl, hg, hgg, hc, hm, rest⟩
  · exact .inl ⟨hv, List.eq_nil_of_length_eq_zero hn⟩
  · exact .inr ⟨g, cap, rfl, hg, (Array.getElem?_eq_some_iff.1 hgg).1, hc, hm⟩
theorem RowS.at {w : World} {base g cap : Nat} {L : List (List UInt8)} (h : RowS w base (.slice (some ⟨g, 0, none⟩) L.length cap) L) (j : Nat) (hj : j < L.length) : w.cell? ⟨g, j, none⟩ = some (sVal L[j]) := by
  have := World.ownsRow.cellAt h j (by omega)
  rw [this, sVals_get L j hj]

theorem Try.info9 : (Try.prog.info? 9).map (fun i => (i.zero, i.size, i.bytes)) = some (some (.string ⟨#[]⟩), 1, 16) := by kernel_rfl
theorem startS (w : World) : RowS (w.alloc (.cells #[] 9)) w.heap.size (.slice (some ⟨w.heap.size, 0, none⟩) 0 0) [] :=
  World.ownsRow_made w #[] 0 (Nat.le_refl _) (by decide) rfl

theorem extract_seg (s : ByteArray) (a b : Nat) : s.extract a b = ⟨(seg s.data.toList a b).toArray⟩ := by
  have h : (s.extract a b).data.toList = seg s.data.toList a b := by
    rw [Lib.extract_data]
    simp [seg]
  rw [← h]

def partsOf (l : List UInt8) : List (List UInt8) := if pathB l = true then partsL l else []
theorem partsOf_no {l : List UInt8} (h : pathB l = false) : partsOf l = [] := by simp [partsOf, h]
theorem partsOf_yes {l : List UInt8} (h : pathB l = true) : partsOf l = partsL l := by simp [partsOf, h]

/-- What Parts' loop has found at byte k. -/
def PInv (l : List UInt8) (k f : Nat) (L : List (List UInt8)) : Prop := L.length ≤ k ∧ (k ≤ l.length → f ≤ k ∧ L ++ at1 l f k = partsL l) ∧ (l.length < k → L = partsL l)
theorem PInv.start (l : List UInt8) : PInv l 0 0 [] := ⟨by simp, fun _ => ⟨by omega, by rw [at1_start]; rfl⟩, fun h => absurd h (by omega)⟩
theorem PInv.on {l : List UInt8} {k f : Nat} {L : List (List UInt8)} (h : PInv l k f L) (hk : k < l.length) (hc : l[k] ≠ 47) : PInv l (k + 1) f L := by
  obtain ⟨h0, h1, _⟩ := h
  obtain ⟨h2, h3⟩ := h1 (by omega)
  exact ⟨by omega, fun _ => ⟨by omega, by rw [← at1_on h2 hk hc, h3]⟩, fun h => absurd h (by omega)⟩
theorem PInv.part {l : List UInt8} {k f : Nat} {L : List (List UInt8)} (h : PInv l k f L) (hf : f < k) (hk : k < l.length) (hc : l[k] = 47) : PInv l (k + 1) (k + 1) (L ++ [seg l f k]) := by
  obtain ⟨h0, h1, _⟩ := h
  obtain ⟨h2, h3⟩ := h1 (by omega)
  exact ⟨by simp; omega, fun _ => ⟨by omega, by rw [← h3, at1_part hf hk hc]; simp⟩, fun h => absurd h (by omega)⟩
theorem PInv.skip {l : List UInt8} {k f : Nat} {L : List (List UInt8)} (h : PInv l k f L) (hf : ¬ f < k) (hk : k < l.length) (hc : l[k] = 47) : PInv l (k + 1) (k + 1) L := by
  obtain ⟨h0, h1, _⟩ := h
  obtain ⟨h2, h3⟩ := h1 (by omega)
  obtain rfl : f = k := by omega
  exact ⟨by omega, fun _ => ⟨by omega, by rw [← at1_skip hk hc, h3]⟩, fun h => absurd h (by omega)⟩
theorem PInv.last {l : List UInt8} {f : Nat} {L : List (List UInt8)} (h : PInv l l.length f L) (hf : f < l.length) : PInv l (l.length + 1) (l.length + 1) (L ++ [seg l f l.length]) := by
  obtain ⟨h0, h1, _⟩ := h
  obtain ⟨h2, h3⟩ := h1 (by omega)
  exact ⟨by simp; omega, fun h => absurd h (by omega), fun _ => by rw [← h3, at1_last hf]⟩
theorem PInv.none {l : List UInt8} {f : Nat} {L : List (List UInt8)} (h : PInv l l.length f L) (hf : ¬ f < l.length) : PInv l (l.length + 1) (l.length + 1) L := by
  obtain ⟨h0, h1, _⟩ := h
  obtain ⟨h2, h3⟩ := h1 (by omega)
  obtain rfl : f = l.length := by omega
  refine ⟨by omega, fun h => absurd h (by omega), fun _ => ?_⟩
  rw [at1_done, List.append_nil] at h3
  exact h3
theorem PInv.from {l : List UInt8} {k f : Nat} {L : List (List UInt8)} (h : PInv l k f L) (hk : k ≤ l.length) : f ≤ k := (h.2.1 hk).1
theorem PInv.done {l : List UInt8} {k f : Nat} {L : List (List UInt8)} (h : PInv l k f L) (hk : l.length < k) : L = partsL l := h.2.2 hk

end Go.Proofs.Ytmkofkdcjeidhaa
