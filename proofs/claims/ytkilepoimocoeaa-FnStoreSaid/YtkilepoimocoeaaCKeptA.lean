/- What stands while a Kept is drawn. -/
import Derived.Test.YtkilepoimocoeaaCOwnX
import Derived.Deep.Cut
import Derived.Deep.LoopGhost
import Derived.Deep.RegionHeld3
namespace Go.Proofs.Ytkilepoimocoeaa
open Go.RowKit
set_option linter.unusedVariables false
section
variable {N : Nat} {a : Option Addr} {len cap : Nat} {zs : List Int} {B : Nat}
/-- The numbers of a drawn Kept are small. -/
structure Bd (m : Nat) (K : Kp) : Prop where
  t0 : -10 ≤ K.t
  t1 : K.t ≤ 200000
  v0 : -10 ≤ K.v
  v1 : K.v ≤ 100
  i0 : -10 ≤ K.si
  i1 : K.si ≤ 200000
  e : K.e.length ≤ m
  s : K.sd.size ≤ m
/-- A Kept of a draw's own, behind it. -/
def DrawK (m : Nat) (N : Nat) (a : Option Addr) (len cap : Nat) (zs : List Int) (B : Nat) (w : World) (e : Ending) (w' : World) : Prop :=
  ∃ (K : Kp) (v : Value), e = .returned (kpV K v) ∧ OwnX w' w.heap.size v K.e ∧ Bd m K ∧ Cur N a len cap zs B w' ∧ w.grownBy w' (some B)
/-- What stands while a Kept is drawn: the answer's block, the variable's, its row, the cursor. -/
structure DK (N : Nat) (a : Option Addr) (len cap : Nat) (zs : List Int) (B : Nat) (w u : World) (q b : Nat) (K : Kp) (v : Value) : Prop where
  hB : B < w.heap.size
  r : Blk u q #[.int .i64 0, .int .i64 0, .int .i64 0, .int .i64 0, .string ⟨#[]⟩, .slice none 0 0]
  x : Blk u b #[.int .i64 K.t, .int .i64 K.v, .int .i64 K.si, .int .i64 K.st, .string K.sd, v]
  hq : w.heap.size ≤ q
  hb : q < b
  own : OwnX u w.heap.size v K.e
  ne : ∀ k, v.ownBlock = some k → k ≠ b ∧ k ≠ q
  cur : Cur N a len cap zs B u
  o : Only (fun k => k = B ∨ w.heap.size ≤ k) w u
theorem DK.step {w u u' : World} {q b : Nat} {K : Kp} {v : Value} (h : DK N a len cap zs B w u q b K v) (g : u.grownBy u' (some B)) (c' : Cur N a len cap zs B u') : DK N a len cap zs B w u' q b K v :=
  ⟨h.hB, h.r.only (grown_only g) (by have := h.hB; have := h.hq; simp; omega), h.x.only (grown_only g) (by have := h.hB; have := h.hq; have := h.hb; simp; omega), h.hq, h.hb, h.own.step g h.hB, h.ne, c', Only.then h.o (grown_only g) (by intro k hk e; left; simpa using e)⟩
theorem DK.kept {w u u' : World} {q b : Nat} {K : Kp} {v : Value} (h : DK N a len cap zs B w u q b K v) (g : Below u.heap.size u u') : DK N a len cap zs B w u' q b K v :=
  ⟨h.hB, h.r.kept g, h.x.kept g, h.hq, h.hb, h.own.kept g, h.ne, h.cur.kept (grown_below g), h.o.trans (Below.any g)⟩
/-- The variable's block is written. -/
theorem DK.put {w u u' : World} {q b : Nat} {K K' : Kp} {v v' : Value} (h : DK N a len cap zs B w u q b K v) (ho : Only (fun k => k = b) u u') (hx : Blk u' b #[.int .i64 K'.t, .int .i64 K'.v, .int .i64 K'.si, .int .i64 K'.st, .string K'.sd, v']) (own : OwnX u w.heap.size v' K'.e) (ne : ∀ k, v'.ownBlock = some k → k ≠ b ∧ k ≠ q) : DK N a len cap zs B w u' q b K' v' :=
  ⟨h.hB, h.r.only ho (by have := h.hb; omega), hx, h.hq, h.hb, own.only ho (fun k hk e => (ne k hk).1 e), ne, h.cur.only ho (by have := h.hB; have := h.hq; have := h.hb; intro k hk; omega), Only.then h.o ho (by have := h.hb; have := h.hq; intro k hk e; omega)⟩
theorem only_set (u : World) (g o : Nat) (x : Value) : Only (fun k => k = g) u (u.setCell ⟨g, o, none⟩ x) := by
  refine Only.setCell ?_ (by simp) _
  exact Only.refl _ _
theorem DK.setT {w u : World} {q b : Nat} {K : Kp} {v : Value} (h : DK N a len cap zs B w u q b K v) (y : Int) : DK N a len cap zs B w (u.setCell ⟨b, 0, none⟩ (.int .i64 y)) q b { K with t := y } v :=
  h.put (only_set _ _ _ _) (by simpa using h.x.set 0 (by simp) (.int .i64 y)) h.own h.ne
theorem DK.setVo {w u : World} {q b : Nat} {K : Kp} {v : Value} (h : DK N a len cap zs B w u q b K v) (y : Int) : DK N a len cap zs B w (u.setCell ⟨b, 1, none⟩ (.int .i64 y)) q b { K with v := y } v :=
  h.put (only_set _ _ _ _) (by simpa using h.x.set 1 (by simp) (.int .i64 y)) h.own h.ne
theorem DK.setSi {w u : World} {q b : Nat} {K : Kp} {v : Value} (h : DK N a len cap zs B w u q b K v) (y : Int) : DK N a len cap zs B w (u.setCell ⟨b, 2, none⟩ (.int .i64 y)) q b { K with si := y } v :=
  h.put (only_set _ _ _ _) (by simpa using h.x.set 2 (by simp) (.int .i64 y)) h.own h.ne
theorem DK.setSt {w u : World} {q b : Nat} {K : Kp} {v : Value} (h : DK N a len cap zs B w u q b K v) (y : Int) : DK N a len cap zs B w (u.setCell ⟨b, 3, none⟩ (.int .i64 y)) q b { K with st := y } v :=
  h.put (only_set _ _ _ _) (by simpa using h.x.set 3 (by simp) (.int .i64 y)) h.own h.ne
theorem DK.setSd {w u : World} {q b : Nat} {K : Kp} {v : Value} (h : DK N a len cap zs B w u q b K v) (y : ByteArray) : DK N a len cap zs B w (u.setCell ⟨b, 4, none⟩ (.string y)) q b { K with sd := y } v :=
  h.put (only_set _ _ _ _) (by simpa using h.x.set 4 (by simp) (.string y)) h.own h.ne
theorem DK.setSnap {w u : World} {q b : Nat} {K : Kp} {v : Value} (h : DK N a len cap zs B w u q b K v) (i t : Int) (d : ByteArray) : DK N a len cap zs B w (((u.setCell ⟨b, 2, none⟩ (.int .i64 i)).setCell ⟨b, 3, none⟩ (.int .i64 t)).setCell ⟨b, 4, none⟩ (.string d)) q b ⟨K.t, K.v, i, t, d, K.e⟩ v :=
  ((h.setSi i).setSt t).setSd d
theorem DK.setE {w u : World} {q b : Nat} {K : Kp} {v v' : Value} (h : DK N a len cap zs B w u q b K v) (L : List En) (own : OwnX u w.heap.size v' L) (ne : ∀ k, v'.ownBlock = some k → k ≠ b ∧ k ≠ q) : DK N a len cap zs B w (u.setCell ⟨b, 5, none⟩ v') q b { K with e := L } v' :=
  h.put (only_set _ _ _ _) (by simpa using h.x.set 5 (by simp) v') own ne
/-- The row grew: in its own block, or in a new one. -/
theorem DK.grow {w u u' : World} {q b : Nat} {K : Kp} {v v' : Value} {L : List En} (h : DK N a len cap zs B w u q b K v) (X : World) (bX : Below u.heap.size u X) (ho : Only (fun k => some k = v.ownBlock) X u') (own : OwnX u' w.heap.size v' L) (loc : v'.ownBlock = v.ownBlock ∨ v'.ownBlock = some X.heap.size) : DK N a len cap zs B w (u'.setCell ⟨b, 5, none⟩ v') q b { K with e := L } v' := by
  have hX := bX.size
  have hxi := h.x.hi
  have hri := h.r.hi
  have ne' : ∀ k, v'.ownBlock = some k → k ≠ b ∧ k ≠ q := by
    intro k hk
    rcases loc with e | e
    · exact h.ne k (e ▸ hk)
    · rw [e] at hk; cases hk; omega
  have h1 : DK N a len cap zs B w X q b K v := h.kept bX
  have hx : Blk u' b #[.int .i64 K.t, .int .i64 K.v, .int .i64 K.si, .int .i64 K.st, .string K.sd, v] := h1.x.only ho (fun e => (h.ne b e.symm).1 rfl)
  have ho2 : Only (fun k => k = b) u' (u'.setCell ⟨b, 5, none⟩ v') := only_set _ _ _ _
  have o2 : Only (fun k => k = B ∨ w.heap.size ≤ k) w u' := Only.then h1.o ho (by intro k hk e; right; exact (h1.own.lt k e.symm).1)
  refine ⟨h.hB, (h1.r.only ho (fun e => (h.ne q e.symm).2 rfl)).only ho2 (by have := h.hb; omega), by simpa using hx.set 5 (by simp) v', h.hq, h.hb, own.only ho2 (fun k hk e => (ne' k hk).1 e), ne', ?_, Only.then o2 ho2 (by have := h.hb; have := h.hq; intro k hk e; omega)⟩
  exact (h1.cur.only ho (fun k e => by have := (h1.own.lt k e.symm).1; have := h.hB; omega)).only ho2 (by have := h.hB; have := h.hq; have := h.hb; intro k hk; omega)
/-- Behind the last store, into the answer. -/
theorem DK.end {w u : World} {q b : Nat} {K : Kp} {v : Value} (h : DK N a len cap zs B w u q b K v) {m : Nat} (hd : Bd m K) : DrawK m N a len cap zs B w (.returned (kpV K v)) ((((((u.setCell ⟨q, 0, none⟩ (.int .i64 K.t)).setCell ⟨q, 1, none⟩ (.int .i64 K.v)).setCell ⟨q, 2, none⟩ (.int .i64 K.si)).setCell ⟨q, 3, none⟩ (.int .i64 K.st)).setCell ⟨q, 4, none⟩ (.string K.sd)).setCell ⟨q, 5, none⟩ v) := by
  have ho : Only (fun k => k = q) u ((((((u.setCell ⟨q, 0, none⟩ (.int .i64 K.t)).setCell ⟨q, 1, none⟩ (.int .i64 K.v)).setCell ⟨q, 2, none⟩ (.int .i64 K.si)).setCell ⟨q, 3, none⟩ (.int .i64 K.st)).setCell ⟨q, 4, none⟩ (.string K.sd)).setCell ⟨q, 5, none⟩ v) := by
    repeat (refine Only.setCell ?_ (by simp) _)
    exact Only.refl _ _
  exact ⟨K, v, rfl, h.own.only ho (fun k hk e => (h.ne k hk).2 e), hd, h.cur.only ho (by have := h.hB; have := h.hq; intro k hk; omega), grown_of (Only.then h.o ho (by have := h.hq; intro k hk e; omega))⟩
end
end Go.Proofs.Ytkilepoimocoeaa
