/- Volumes in memory: a row of inodes, each with its row of names. -/
import Derived.Test.YtmkegmndcbpblaaGreatDoorVMath
namespace Go.Proofs.YtmkegmndcbpblaaGreatDoor
open Go.RowKit
set_option linter.unusedVariables false
/-- An inode and where its names lie. -/
structure Np where
 n : Nd
 a : Option Addr
 cap : Nat
abbrev Np.v (p : Np) : Value := .slice p.a p.n.names.length p.cap
def ndZ : Nd := ⟨0, 0, 0, 0, 0, ⟨#[]⟩, [], 0, 0⟩
def ndE : Enc Np := ⟨9, fun p => (ndA p.n p.v).toList, ⟨ndZ, none, 0⟩, fun _ => rfl, by decide, by intro p u hu; simp at hu; rcases hu with rfl | rfl | rfl | rfl | rfl | rfl | rfl | rfl | rfl <;> rfl⟩
/-- An inode lies at a place. -/
structure NdAt (w : World) (b o : Nat) (n : Nd) (v : Value) : Prop where
 c0 : w.cell? ⟨b, o, none⟩ = some (.int .i64 n.id)
 c1 : w.cell? ⟨b, o + 1, none⟩ = some (.int .i64 n.kind)
 c2 : w.cell? ⟨b, o + 2, none⟩ = some (.int .i64 n.mode)
 c3 : w.cell? ⟨b, o + 3, none⟩ = some (.int .i64 n.uid)
 c4 : w.cell? ⟨b, o + 4, none⟩ = some (.int .i64 n.gid)
 c5 : w.cell? ⟨b, o + 5, none⟩ = some (.string n.data)
 c6 : w.cell? ⟨b, o + 6, none⟩ = some v
 c7 : w.cell? ⟨b, o + 7, none⟩ = some (.int .i64 n.maxb)
 c8 : w.cell? ⟨b, o + 8, none⟩ = some (.int .i64 n.maxi)
theorem NdAt.kept {w w' : World} {B b o : Nat} {n : Nd} {v : Value} (h : NdAt w b o n v) (hb : Below B w w') (hB : b < B) : NdAt w' b o n v :=
 ⟨atCell hb h.c0 hB, atCell hb h.c1 hB, atCell hb h.c2 hB, atCell hb h.c3 hB, atCell hb h.c4 hB, atCell hb h.c5 hB, atCell hb h.c6 hB, atCell hb h.c7 hB, atCell hb h.c8 hB⟩
theorem ndE_cell {w : World} {N : Nat} {v : Value} {L : List Np} (h : Row ndE w N v L) : ∃ a cap, v = .slice a L.length cap ∧ L.length ≤ cap ∧ cap ≤ 9223372036854775807 ∧
  (L ≠ [] → ∃ b off, a = some ⟨b, off, none⟩ ∧ b < N ∧ ∀ j (h : j < L.length), NdAt w b (off + j * 9) L[j].n L[j].v) := by
 obtain ⟨a, cap, h0, h1, h2, h3⟩ := h
 refine ⟨a, cap, h0, h1, h2, fun hL => ?_⟩
 obtain ⟨b, off, ha, hb, hc⟩ := h3 hL
 refine ⟨b, off, ha, hb, fun j hj => ?_⟩
 have H := fun i hi => hc j hj i hi
 simp only [show ndE.n = 9 from rfl] at H
 exact ⟨H 0 (by decide), H 1 (by decide), H 2 (by decide), H 3 (by decide), H 4 (by decide), H 5 (by decide), H 6 (by decide), H 7 (by decide), H 8 (by decide)⟩
/-- The slice u, in memory below block N, holds the inodes L. -/
structure VolR (w : World) (N : Nat) (u : Value) (L : List Np) : Prop where
 row : Row ndE w N u L
 nms : ∀ p ∈ L, Row diE w N p.v p.n.names
theorem VolR.kept {w w' : World} {N : Nat} {u : Value} {L : List Np} (h : VolR w N u L) (hb : Below N w w') : VolR w' N u L := ⟨h.row.kept hb, fun p hp => (h.nms p hp).kept hb⟩
theorem VolR.up {w : World} {N N' : Nat} {u : Value} {L : List Np} (h : VolR w N u L) (hN : N ≤ N') : VolR w N' u L := ⟨h.row.up hN, fun p hp => (h.nms p hp).up hN⟩
abbrev volV (next : Int) (u : Value) : Value := .agg #[.int .i64 next, u]
/-- The texts of an inode are such as there can be. -/
def NdSz (n : Nd) : Prop := n.data.size ≤ 9223372036854775807 ∧ ∀ a ∈ n.names, a.nm.size ≤ 9223372036854775807
end Go.Proofs.YtmkegmndcbpblaaGreatDoor
