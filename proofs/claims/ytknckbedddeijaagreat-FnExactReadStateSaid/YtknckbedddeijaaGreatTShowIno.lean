/- What is shown of an inode; the program's showInode. -/
import Derived.Test.YtknckbedddeijaaGreatTCurP
import Derived.Test.YtknckbedddeijaaGreatTCurVo
import Derived.Deep.Cut
namespace Go.Proofs.YtknckbedddeijaaGreat
open Go.RowKit
set_option linter.unusedVariables false
theorem ba_app (a b : ByteArray) : (a ++ b).data.toList = a.data.toList ++ b.data.toList := by
 rw [ByteArray.data_append, Array.toList_append]
theorem varS_list (n : Nat) : (varS n).data.toList = varL n := rfl
theorem piece_toList (s : ByteArray) : (piece s).data.toList = varL s.size ++ s.data.toList := by rw [piece, ba_app, varS_list]
def nmL (e : Di) : List UInt8 := varL e.nm.size ++ e.nm.data.toList ++ varL e.id.toNat
def nmsL (l : List Di) : List UInt8 := l.flatMap nmL
/-- What is shown of an inode. -/
def shN (n : Nd) : List UInt8 := varsL [n.id.toNat, n.kind.toNat, n.mode.toNat, n.uid.toNat, n.gid.toNat, n.maxb.toNat, n.maxi.toNat] ++ (varL n.data.size ++ n.data.data.toList) ++ varL n.names.length ++ nmsL n.names
/-- The bounds of an inode that is right. -/
structure NdB (n : Nd) : Prop where
 id : 0 ≤ n.id ∧ n.id ≤ 100000
 kind : 0 ≤ n.kind ∧ n.kind ≤ 3
 mode : 0 ≤ n.mode ∧ n.mode ≤ 2047
 uid : 0 ≤ n.uid ∧ n.uid ≤ 1000
 gid : 0 ≤ n.gid ∧ n.gid ≤ 1000
 maxb : 0 ≤ n.maxb ∧ n.maxb ≤ 400
 maxi : 0 ≤ n.maxi ∧ n.maxi ≤ 24
 data : n.data.size ≤ 64
 len : n.names.length ≤ 12
 nms : ∀ j (h : j < n.names.length), n.names[j].nm.size ≤ 8 ∧ 0 ≤ n.names[j].id ∧ n.names[j].id ≤ 100000
theorem nmsL_snoc (L : List Di) (j : Nat) (h : j < L.length) : nmsL (L.take j) ++ nmL L[j] = nmsL (L.take (j + 1)) := by
 rw [List.take_succ_eq_append_getElem h]
 unfold nmsL
 rw [List.flatMap_append]
 congr 1
 simp only [List.flatMap_cons, List.flatMap_nil, List.append_nil]
theorem nmsL_le (L : List Di) (h : ∀ j (h : j < L.length), L[j].nm.size ≤ 8) : (nmsL L).length ≤ 22 * L.length := by
 induction L with
 | nil => simp [nmsL]
 | cons a L ih =>
  have h0 := h 0 (by simp)
  have h1 := ih (fun j hj => by have := h (j + 1) (by simpa using hj); simpa using this)
  have e1 := varL_le a.nm.size
  have e2 := varL_le a.id.toNat
  have e3 : a.nm.data.toList.length = a.nm.size := by simp
  simp only [List.getElem_cons_zero] at h0
  simp only [nmsL, List.flatMap_cons, List.length_append, List.length_cons, nmL] at h1 ⊢
  omega
theorem shN_le {n : Nd} (h : NdB n) : (shN n).length ≤ 400 := by
 have h1 := varsL_le [n.id.toNat, n.kind.toNat, n.mode.toNat, n.uid.toNat, n.gid.toNat, n.maxb.toNat, n.maxi.toNat]
 have h2 := varL_le n.data.size
 have h3 := varL_le n.names.length
 have h4 := nmsL_le n.names (fun j hj => (h.nms j hj).1)
 have h5 := h.data
 have h6 := h.len
 have h7 : n.data.data.toList.length = n.data.size := by simp
 simp only [List.length_cons, List.length_nil] at h1
 simp only [shN, List.length_append]
 omega
theorem seven_cells {w : World} {g : Nat} {a b c d e f k : Nat} (hc : ∀ o, w.cell? ⟨g, o, none⟩ = #[Value.int .i64 (a : Nat), .int .i64 (b : Nat), .int .i64 (c : Nat), .int .i64 (d : Nat), .int .i64 (e : Nat), .int .i64 (f : Nat), .int .i64 (k : Nat)][o]?) (j : Nat) (h : j < [a, b, c, d, e, f, k].length) : w.cell? ⟨g, 0 + j, none⟩ = some (.int .i64 ([a, b, c, d, e, f, k][j] : Nat)) := by
 rw [Nat.zero_add, hc]
 match j, h with
 | 0, _ => rfl
 | 1, _ => rfl
 | 2, _ => rfl
 | 3, _ => rfl
 | 4, _ => rfl
 | 5, _ => rfl
 | 6, _ => rfl
theorem seven_at {a b c d e f k : Nat} (p : Nat → Prop) (h0 : p a) (h1 : p b) (h2 : p c) (h3 : p d) (h4 : p e) (h5 : p f) (h6 : p k) (j : Nat) (h : j < [a, b, c, d, e, f, k].length) : p [a, b, c, d, e, f, k][j] := by
 match j, h with
 | 0, _ => exact h0
 | 1, _ => exact h1
 | 2, _ => exact h2
 | 3, _ => exact h3
 | 4, _ => exact h4
 | 5, _ => exact h5
 | 6, _ => exact h6
end Go.Proofs.YtknckbedddeijaaGreat
