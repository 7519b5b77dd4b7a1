/- Rows of texts, as rows of an encoding. -/
import Derived.Test.YtmkegmndcbpblaaGreatDoorVName
import Derived.Test.YtmkegmndcbpblaaGreatDoorGRow
import Derived.WalkSmall
import Derived.Lib.Strings
import Derived.OwnWalk
namespace Go.Proofs.YtmkegmndcbpblaaGreatDoor
open Go.RowKit
set_option linter.unusedVariables false
/-- What stands between the 47s: cur is what was met since the last one. -/
def pAux : List UInt8 → List UInt8 → List (List UInt8)
 | cur, [] => if cur = [] then [] else [cur]
 | cur, c :: r => if c = 47 then (if cur = [] then pAux [] r else cur :: pAux [] r) else pAux (cur ++ [c]) r
def partsL (l : List UInt8) : List (List UInt8) := pAux [] l
def cat : List (List UInt8) → List UInt8
 | [] => []
 | p :: r => 47 :: (p ++ cat r)
/-- The bytes from a on, up to b. -/
def seg (l : List UInt8) (a b : Nat) : List UInt8 := (l.drop a).take (b - a)
theorem pAux_slash_nil (r : List UInt8) : pAux [] (47 :: r) = pAux [] r := by simp [pAux]
theorem pAux_slash {cur : List UInt8} (h : cur ≠ []) (r : List UInt8) : pAux cur (47 :: r) = cur :: pAux [] r := by simp [pAux, h]
theorem pAux_other (cur : List UInt8) {c : UInt8} (h : c ≠ 47) (r : List UInt8) : pAux cur (c :: r) = pAux (cur ++ [c]) r := by simp [pAux, h]
theorem pAux_end {cur : List UInt8} (h : cur ≠ []) : pAux cur [] = [cur] := by simp [pAux, h]
theorem seg_self (l : List UInt8) (a : Nat) : seg l a a = [] := by simp [seg]
theorem seg_snoc (l : List UInt8) (a b : Nat) (hab : a ≤ b) (hb : b < l.length) : seg l a (b + 1) = seg l a b ++ [l[b]] := by
 unfold seg
 have h : b - a < (l.drop a).length := by simp; omega
 rw [show b + 1 - a = b - a + 1 by omega, List.take_succ_eq_append_getElem h]
 congr 2
 simp
 congr 1
 omega
theorem seg_length (l : List UInt8) (a b : Nat) (hab : a ≤ b) (hb : b ≤ l.length) : (seg l a b).length = b - a := by
 simp [seg]; omega
theorem seg_ne {l : List UInt8} {a b : Nat} (hab : a < b) (hb : b ≤ l.length) : seg l a b ≠ [] := by
 intro e
 have := seg_length l a b (by omega) hb
 rw [e] at this
 simp at this
 omega
/-- The parts, seen from byte k on. -/
def at1 (l : List UInt8) (f k : Nat) : List (List UInt8) := pAux (seg l f k) (l.drop k)
theorem at1_start (l : List UInt8) : at1 l 0 0 = partsL l := rfl
theorem at1_same (l : List UInt8) (k : Nat) : at1 l k k = pAux [] (l.drop k) := by rw [at1, seg_self]
theorem at1_skip {l : List UInt8} {k : Nat} (hk : k < l.length) (h : l[k] = 47) : at1 l k k = at1 l (k + 1) (k + 1) := by
 rw [at1_same, at1_same, List.drop_eq_getElem_cons hk, h, pAux_slash_nil]
theorem at1_on {l : List UInt8} {f k : Nat} (hf : f ≤ k) (hk : k < l.length) (h : l[k] ≠ 47) : at1 l f k = at1 l f (k + 1) := by
 rw [at1, at1, List.drop_eq_getElem_cons hk, pAux_other _ h, seg_snoc l f k hf hk]
theorem at1_part {l : List UInt8} {f k : Nat} (hf : f < k) (hk : k < l.length) (h : l[k] = 47) : at1 l f k = seg l f k :: at1 l (k + 1) (k + 1) := by
 rw [at1_same, at1, List.drop_eq_getElem_cons hk, h, pAux_slash (seg_ne hf (by omega))]
theorem at1_part' {l : List UInt8} {f k : Nat} (hf : f < k) (hk : k < l.length) (h : l[k] = 47) : at1 l f k = seg l f k :: at1 l k k := by
 rw [at1_part hf hk h, at1_skip hk h]
theorem at1_last {l : List UInt8} {f : Nat} (hf : f < l.length) : at1 l f l.length = [seg l f l.length] := by
 rw [at1, List.drop_length, pAux_end (seg_ne hf (Nat.le_refl _))]
theorem at1_done (l : List UInt8) : at1 l l.length l.length = [] := by
 rw [at1_same, List.drop_length]; rfl
/-- How many bytes the parts take, each with its 47. -/
theorem cat_append (a b : List (List UInt8)) : cat (a ++ b) = cat a ++ cat b := by
 induction a with
 | nil => rfl
 | cons p r ih => simp [cat, ih]
theorem cat_pAux (r cur : List UInt8) : (cat (pAux cur r)).length ≤ cur.length + r.length + 1 := by
 induction r generalizing cur with
 | nil =>
  unfold pAux
  split <;> simp [cat]
 | cons c r ih =>
  unfold pAux
  split
  ·split
   ·have := ih []
    simp at this ⊢
    omega
   ·have := ih []
    simp [cat] at this ⊢
    omega
  ·have := ih (cur ++ [c])
   simp at this ⊢
   omega
theorem cat_len (ps : List (List UInt8)) : ps.length ≤ (cat ps).length := by
 induction ps with
 | nil => simp [cat]
 | cons p r ih => simp [cat]; omega
theorem cat_mem {ps : List (List UInt8)} {p : List UInt8} (h : p ∈ ps) : p.length + 1 ≤ (cat ps).length := by
 induction ps with
 | nil => cases h
 | cons q r ih =>
  rcases List.mem_cons.1 h with rfl | h
  ·simp [cat]
  ·have := ih h
   simp [cat]
   omega
theorem pathB_len {l : List UInt8} (h : pathB l = true) : 1 ≤ l.length ∧ l.length ≤ 60 := by
 simp only [pathB, Bool.and_eq_true, decide_eq_true_eq] at h
 exact ⟨h.1.1.1, h.1.1.2⟩
theorem parts_bound {l : List UInt8} (h : l.length ≤ 60) : (cat (partsL l)).length ≤ 61 := by
 have := cat_pAux l []
 simp at this
 unfold partsL
 omega
end Go.Proofs.YtmkegmndcbpblaaGreatDoor
namespace Go.Proofs.YtmkegmndcbpblaaGreatDoor
open Go.RowKit
set_option linter.unusedVariables false
def sVal (l : List UInt8) : Value := .string ⟨l.toArray⟩
def sVals (L : List (List UInt8)) : List Value := L.map sVal
theorem sVals_length (L : List (List UInt8)) : (sVals L).length = L.length := by simp [sVals]
theorem sVals_append (A B : List (List UInt8)) : sVals (A ++ B) = sVals A ++ sVals B := by simp [sVals]
theorem sVals_get (L : List (List UInt8)) (j : Nat) (h : j < L.length) : (sVals L)[j]? = some (sVal L[j]) := by simp [sVals, h]
theorem sVals_one {L : List (List UInt8)} : ∀ u ∈ sVals L, u.oneCell' = true := by
 intro u hu
 simp only [sVals, List.mem_map] at hu
 obtain ⟨l, _, rfl⟩ := hu
 rfl
/-- The slice v, of memory from block base on, holds the texts L. -/
def RowS (w : World) (base : Nat) (v : Value) (L : List (List UInt8)) : Prop := w.ownsRow base 9 1 v L.length (sVals L)
theorem RowS.kept {w w' : World} {base : Nat} {v : Value} {L : List (List UInt8)} (h : RowS w base v L) (hb : Below w.heap.size w w') : RowS w' base v L := by
 refine ⟨h.1, ?_⟩
 rcases h.2 with hn | ⟨g, cap, cur, rfl, hg, hgg, rest⟩
 ·exact .inl hn
 ·exact .inr ⟨g, cap, cur, rfl, hg, (hb.block g (Array.getElem?_eq_some_iff.1 hgg).1).trans hgg, rest⟩
theorem RowS.lower {w : World} {base base' : Nat} {v : Value} {L : List (List UInt8)} (h : RowS w base v L) (hb : base' ≤ base) : RowS w base' v L := by
 refine ⟨h.1, ?_⟩
 rcases h.2 with hn | ⟨g, cap, cur, rfl, hg, hgg, rest⟩
 ·exact .inl hn
 ·exact .inr ⟨g, cap, cur, rfl, by omega, hgg, rest⟩
/-- How such a slice looks. -/
theorem RowS.look {w : World} {base : Nat} {v : Value} {L : List (List UInt8)} (h : RowS w base v L) : (v = .slice none 0 0 ∧ L = []) ∨ ∃ g cap, v = .slice (some ⟨g, 0, none⟩) L.length cap ∧ base ≤ g ∧ g < w.heap.size ∧ L.length ≤ cap ∧ cap ≤ 9223372036854775807 := by
 rcases h.2 with ⟨hv, hn⟩ | ⟨g, cap, cur, rfl, hg, hgg, hc, hm, rest⟩
 ·exact .inl ⟨hv, List.eq_nil_of_length_eq_zero hn⟩
 ·exact .inr ⟨g, cap, rfl, hg, (Array.getElem?_eq_some_iff.1 hgg).1, hc, hm⟩
theorem RowS.at {w : World} {base g cap : Nat} {L : List (List UInt8)} (h : RowS w base (.slice (some ⟨g, 0, none⟩) L.length cap) L) (j : Nat) (hj : j < L.length) : w.cell? ⟨g, j, none⟩ = some (sVal L[j]) := by
 have := World.ownsRow.cellAt h j (by omega)
 rw [this, sVals_get L j hj]
theorem infoStr : (Tryz.prog.info? 9).map (fun i => (i.zero, i.size, i.bytes)) = some (some (.string ⟨#[]⟩), 1, 16) := by kernel_rfl
theorem startS (w : World) : RowS (w.alloc (.cells #[] 9)) w.heap.size (.slice (some ⟨w.heap.size, 0, none⟩) 0 0) [] :=
 World.ownsRow_made w #[] 0 (Nat.le_refl _) (by decide) rfl
theorem extract_seg (s : ByteArray) (a b : Nat) : s.extract a b = ⟨(seg s.data.toList a b).toArray⟩ := by
 have h : (s.extract a b).data.toList = seg s.data.toList a b := by
  rw [Lib.extract_data]
  simp [seg]
 rw [← h]
/-- What Parts' loop has found at byte k. -/
def PInv (l : List UInt8) (k f : Nat) (L : List (List UInt8)) : Prop := L.length ≤ k ∧ (k ≤ l.length → f ≤ k ∧ L ++ at1 l f k = partsL l) ∧ (l.length < k → L = partsL l)
theorem PInv.start (l : List UInt8) : PInv l 0 0 [] := ⟨by simp, fun _ => ⟨by omega, by rw [at1_start]; rfl⟩, fun h => absurd h (by omega)⟩
theorem PInv.on {l : List UInt8} {k f : Nat} {L : List (List UInt8)} (h : PInv l k f L) (hk : k < l.length) (hc : l[k] ≠ 47) : PInv l (k + 1) f L := by
 obtain ⟨h0, h1, _⟩ := h
 obtain ⟨h2, h3⟩ := h1 (by omega)
 exact ⟨by omega, fun _ => ⟨by omega, by rw [← at1_on h2 hk hc, h3]⟩, fun h => absurd h (by omega)⟩
theorem PInv.part {l : List UInt8} {k f : Nat} {L : List (List UInt8)} (h : PInv l k f L) (hf : f < k) (hk : k < l.length) (hc : l[k] = 47) : PInv l (k + 1) (k + 1) (L ++ [seg l f k]) := by
 obtain ⟨h0, h1, _⟩ := h
 obtain ⟨h2, h3⟩ := h1 (by omega)
 exact ⟨by simp; omega, fun _ => ⟨by omega, by rw [← h3, at1_part hf hk hc]; simp⟩, fun h => absurd h (by omega)⟩
theorem PInv.skip {l : List UInt8} {k f : Nat} {L : List (List UInt8)} (h : PInv l k f L) (hf : ¬ f < k) (hk : k < l.length) (hc : l[k] = 47) : PInv l (k + 1) (k + 1) L := by
 obtain ⟨h0, h1, _⟩ := h
 obtain ⟨h2, h3⟩ := h1 (by omega)
 obtain rfl : f = k := by omega
 exact ⟨by omega, fun _ => ⟨by omega, by rw [← at1_skip hk hc, h3]⟩, fun h => absurd h (by omega)⟩
theorem PInv.last {l : List UInt8} {f : Nat} {L : List (List UInt8)} (h : PInv l l.length f L) (hf : f < l.length) : PInv l (l.length + 1) (l.length + 1) (L ++ [seg l f l.length]) := by
 obtain ⟨h0, h1, _⟩ := h
 obtain ⟨h2, h3⟩ := h1 (by omega)
 exact ⟨by simp; omega, fun h => absurd h (by omega), fun _ => by rw [← h3, at1_last hf]⟩
theorem PInv.none {l : List UInt8} {f : Nat} {L : List (List UInt8)} (h : PInv l l.length f L) (hf : ¬ f < l.length) : PInv l (l.length + 1) (l.length + 1) L := by
 obtain ⟨h0, h1, _⟩ := h
 obtain ⟨h2, h3⟩ := h1 (by omega)
 obtain rfl : f = l.length := by omega
 refine ⟨by omega, fun h => absurd h (by omega), fun _ => ?_⟩
 rw [at1_done, List.append_nil] at h3
 exact h3
theorem PInv.from {l : List UInt8} {k f : Nat} {L : List (List UInt8)} (h : PInv l k f L) (hk : k ≤ l.length) : f ≤ k := (h.2.1 hk).1
theorem PInv.done {l : List UInt8} {k f : Nat} {L : List (List UInt8)} (h : PInv l k f L) (hk : l.length < k) : L = partsL l := h.2.2 hk
theorem RowS.snoc {w : World} {base : Nat} {v : Value} {L : List (List UInt8)} {s : ByteArray} {f k : Nat} (h : w.ownsRow base 9 1 v (L.length + 1) (sVals L ++ [.string (s.extract f k)])) : RowS w base v (L ++ [seg s.data.toList f k]) := by
 unfold RowS
 rw [sVals_append, List.length_append]
 rw [extract_seg] at h
 exact h
theorem RowS.bel {w wr w' : World} {v : Value} {o : Obj} {L : List (List UInt8)} {base : Nat} (hrow : RowS wr base v L) (hbel : Below base w wr) (hbs : base ≤ wr.heap.size) (hgrow : (wr.alloc o).grownBy w' v.ownBlock) : Below base w w' :=
 hbel.trans (((Below.refl _ wr).alloc hbs _).grown hgrow (by simp; omega) (fun k hk => (World.ownsRow.lt hrow k hk).1))
end Go.Proofs.YtmkegmndcbpblaaGreatDoor
namespace Go.Proofs.YtmkegmndcbpblaaGreatDoor
open Go.RowKit
set_option linter.unusedVariables false
def stE : Enc (List UInt8) := ⟨1, fun l => [sVal l], [], fun _ => rfl, by decide, by intro a u hu; simp at hu; subst hu; rfl⟩
theorem stE_f (L : List (List UInt8)) : stE.f L = sVals L := by
 unfold Enc.f sVals
 induction L with
 | nil => rfl
 | cons a l ih => simp only [List.flatMap_cons, List.map_cons]; rw [ih]; rfl
theorem RowS.own {w : World} {base : Nat} {v : Value} {L : List (List UInt8)} (h : RowS w base v L) : Own stE 9 w base v L := Own.mk (E := stE) h rfl (stE_f L).symm
theorem todo_head {w : World} {N b off cap n : Nat} {p : List UInt8} {rest : List (List UInt8)} (h : Row stE w N (.slice (some ⟨b, off, none⟩) n cap) (p :: rest)) : w.cell? ⟨b, off, none⟩ = some (sVal p) := by
 obtain ⟨a, cap', hv, h1, h2, h3⟩ := h
 simp only [Value.slice.injEq] at hv
 obtain ⟨rfl, hn, rfl⟩ := hv
 obtain ⟨b', off', hb, hbN, hc⟩ := h3 (by simp)
 cases hb
 have := hc 0 (by simp) 0 (by decide)
 simpa [stE] using this
end Go.Proofs.YtmkegmndcbpblaaGreatDoor
