/- l5Any: a cred, right or not. -/
import Derived.Test.YtbbckkdinlladaaPDraw
import Derived.Deep.Cut
namespace Go.Proofs.Ytbbckkdinlladaa
open Go.RowKit
set_option linter.unusedVariables false
section
variable {N : Nat} {a : Option Addr} {len cap : Nat} {zs : List Int} {B : Nat}
/-- What stands while a cred is drawn: the answer's block, the variable's, its row, the cursor. -/
structure DA (N : Nat) (a : Option Addr) (len cap : Nat) (zs : List Int) (B : Nat) (w u : World) (b : Nat) (c : Cr) (v : Value) : Prop where
  hB : B < w.heap.size
  r : Blk u w.heap.size #[.int .i64 0, .int .i64 0, .slice none 0 0]
  x : Blk u b #[.int .i64 c.u, .int .i64 c.g, v]
  hb : w.heap.size < b
  off : Off B u v c.l
  ne : ∀ k, v.ownBlock = some k → k ≠ b ∧ k ≠ w.heap.size ∧ w.heap.size ≤ k ∧ k < u.heap.size
  cur : Cur N a len cap zs B u
  o : Only (fun k => k = B ∨ w.heap.size ≤ k) w u
theorem DA.step {w u u' : World} {b : Nat} {c : Cr} {v : Value} (h : DA N a len cap zs B w u b c v) (g : u.grownBy u' (some B)) (c' : Cur N a len cap zs B u') : DA N a len cap zs B w u' b c v :=
  ⟨h.hB, h.r.only (grown_only g) (by have := h.hB; simp; omega), h.x.only (grown_only g) (by have := h.hB; have := h.hb; simp; omega), h.hb, h.off.step g, (fun k hk => by have := h.ne k hk; have := g.size; omega), c', Only.then h.o (grown_only g) (by intro k hk e; left; simpa using e)⟩
theorem only_set (u : World) (g o : Nat) (x : Value) : Only (fun k => k = g) u (u.setCell ⟨g, o, none⟩ x) := by
  refine Only.setCell ?_ (by simp) _
  exact Only.refl _ _
theorem Blk.set {u : World} {g : Nat} {A : Array Value} (h : Blk u g A) (o : Nat) (x : Value) (ho : o < A.size) : Blk (u.setCell ⟨g, o, none⟩ x) g (A.setIfInBounds o x) := by
  refine ⟨by have := h.hi; simpa using this, fun q => ?_, fun q => ?_⟩
  · by_cases hq : q = o
    · subst hq
      have h1 : u.cell? ⟨g, q, none⟩ = some A[q] := by rw [h.cell, Array.getElem?_eq_getElem ho]
      simp [go_sem, h1, ho]
    · rw [World.cell?_setCell_other _ _ _ _ (by intro e; simp at e <;> omega), h.cell]
      simp [show ¬ o = q by omega]
  · have := h.fro q; simpa using this
theorem DA.setU {w u : World} {b : Nat} {c : Cr} {v : Value} (h : DA N a len cap zs B w u b c v) (x : Int) : DA N a len cap zs B w (u.setCell ⟨b, 0, none⟩ (.int .i64 x)) b ⟨x, c.g, c.l⟩ v :=
  have ho : Only (fun k => k = b) u (u.setCell ⟨b, 0, none⟩ (.int .i64 x)) := only_set _ _ _ _
  ⟨h.hB, h.r.only ho (by have := h.hb; omega), h.x.set 0 _ (by simp), h.hb, ⟨h.off.row.only (Nat.le_refl _) ho (fun k hk => (h.ne k hk).1) (by simp), h.off.away⟩, (fun k hk => by have := h.ne k hk; simpa using this), h.cur.only ho (by have := h.hB; have := h.hb; intro k hk; omega), Only.then h.o ho (by have := h.hb; intro k hk e; omega)⟩
theorem DA.setG {w u : World} {b : Nat} {c : Cr} {v : Value} (h : DA N a len cap zs B w u b c v) (x : Int) : DA N a len cap zs B w (u.setCell ⟨b, 1, none⟩ (.int .i64 x)) b ⟨c.u, x, c.l⟩ v :=
  have ho : Only (fun k => k = b) u (u.setCell ⟨b, 1, none⟩ (.int .i64 x)) := only_set _ _ _ _
  ⟨h.hB, h.r.only ho (by have := h.hb; omega), h.x.set 1 _ (by simp), h.hb, ⟨h.off.row.only (Nat.le_refl _) ho (fun k hk => (h.ne k hk).1) (by simp), h.off.away⟩, (fun k hk => by have := h.ne k hk; simpa using this), h.cur.only ho (by have := h.hB; have := h.hb; intro k hk; omega), Only.then h.o ho (by have := h.hb; intro k hk e; omega)⟩
theorem DA.setV {w u : World} {b : Nat} {c : Cr} {v : Value} (h : DA N a len cap zs B w u b c v) (v' : Value) (l' : List Int) (hoff : Off B u v' l') (hne : ∀ k, v'.ownBlock = some k → k ≠ b ∧ k ≠ w.heap.size ∧ w.heap.size ≤ k ∧ k < u.heap.size) : DA N a len cap zs B w (u.setCell ⟨b, 2, none⟩ v') b ⟨c.u, c.g, l'⟩ v' :=
  have ho : Only (fun k => k = b) u (u.setCell ⟨b, 2, none⟩ v') := only_set _ _ _ _
  ⟨h.hB, h.r.only ho (by have := h.hb; omega), h.x.set 2 _ (by simp), h.hb, ⟨hoff.row.only (Nat.le_refl _) ho (fun k hk => (hne k hk).1) (by simp), hoff.away⟩, (fun k hk => by have := hne k hk; simpa using this), h.cur.only ho (by have := h.hB; have := h.hb; intro k hk; omega), Only.then h.o ho (by have := h.hb; intro k hk e; omega)⟩
theorem DA.kept {w u u' : World} {b : Nat} {c : Cr} {v : Value} (h : DA N a len cap zs B w u b c v) (g : Below u.heap.size u u') : DA N a len cap zs B w u' b c v :=
  ⟨h.hB, h.r.kept g, h.x.kept g, h.hb, h.off.kept g, (fun k hk => by have := h.ne k hk; have := g.size; omega), h.cur.kept (grown_below g), h.o.trans (Below.any g)⟩
/-- Behind the last store, into the answer. -/
theorem DA.end {w u : World} {b : Nat} {c : Cr} {v : Value} (h : DA N a len cap zs B w u b c v) : DrawC N a len cap zs B w (.returned (crV c v)) (((u.setCell ⟨w.heap.size, 0, none⟩ (.int .i64 c.u)).setCell ⟨w.heap.size, 1, none⟩ (.int .i64 c.g)).setCell ⟨w.heap.size, 2, none⟩ v) :=
  have ho : Only (fun k => k = w.heap.size) u (((u.setCell ⟨w.heap.size, 0, none⟩ (.int .i64 c.u)).setCell ⟨w.heap.size, 1, none⟩ (.int .i64 c.g)).setCell ⟨w.heap.size, 2, none⟩ v) := ((only_set _ _ _ _).trans (only_set _ _ _ _)).trans (only_set _ _ _ _)
  ⟨c, v, rfl, ⟨h.off.row.only (Nat.le_refl _) ho (fun k hk => (h.ne k hk).2.1) ho.size, h.off.away⟩, (fun k hk => ⟨(h.ne k hk).2.2.1, Nat.lt_of_lt_of_le (h.ne k hk).2.2.2 ho.size⟩), h.cur.only ho (by have := h.hB; intro k hk; omega), grown_of (Only.then h.o ho (by intro k hk e; omega))⟩
set_option maxRecDepth 100000 in
set_option maxHeartbeats 2000000 in
theorem l5Any_any (w : World) (c : Cur N a len cap zs B w) :
    Calls Try.prog 26 #[.pointer (some ⟨B, 0, none⟩)] w fun e w' => DrawC N a len cap zs B w e w' := by
  obtain ⟨W, hW, bW, zW, cW, fW⟩ := boxed w #[.int .i64 0, .int .i64 0, .slice none 0 0] 26
  have C := Hid.intro (c.kept (grown_below bW))
  have hBw := c.lt
  have HBW := Hid.intro bW
  clear c
  go_enter Try.func26, Try.ntmps26
  go_wp2_with fail
  try simp only [hW]
  clear hW bW
  refine (l5Cred_any W C.out).mono ?_
  rintro e w1 ⟨c, v, rfl, f1, n1, c1, g1⟩
  obtain ⟨av, cv, rfl, _, _⟩ := f1.row.slice
  have zw1 := g1.size
  have HF := Hid.intro f1
  have HNN := Hid.intro n1
  have HC1 := Hid.intro c1
  have HG1 := Hid.intro g1
  clear f1 n1 c1 g1
  go_upto_region 2 with fail
  obtain ⟨X, hX, bX, zX, dX, eX⟩ := boxed w1 #[.int .i64 c.u, .int .i64 c.g, .slice av c.l.length cv] 26
  try simp only [hX]
  have HD : Hid (DA N a len cap zs B w X w1.heap.size c (.slice av c.l.length cv)) := by
    have r1 : Blk w1 w.heap.size #[.int .i64 0, .int .i64 0, .slice none 0 0] := (Blk.mk (by omega) cW fW : Blk W _ _).only (grown_only HG1.out) (by simp; omega)
    refine ⟨hBw, r1.kept bX, ⟨by omega, dX, eX⟩, by omega, HF.out.kept bX, fun k hk => ?_, HC1.out.kept (grown_below bX), ?_⟩
    · have := HNN.out k hk; omega
    · exact (Only.then (b := W) (T := fun k => some k = some B) (Below.any HBW.out) (grown_only HG1.out) (by intro k hk h; left; simpa using h)).trans (Below.any bX)
  have hb := HD.out.hb
  clear hX bX zX dX eX cW fW C HBW HF HNN HC1 HG1 zW
  generalize w1.heap.size = b at *
  go_wp2_with fail
  refine (onceC_any 10 X HD.out.cur (by omega) (by omega)).mono ?_
  rintro e w2 ⟨q, rfl, c2, g2⟩
  replace HD := Hid.intro (HD.out.step g2 c2)
  clear c2 g2
  cases q with
  | false =>
    have cr := HD.out.r.cell
    have fr := HD.out.r.fro
    have cx := HD.out.x.cell
    go_wp2
    exact bodyPost_ret (v := crV c (.slice av c.l.length cv)) (by simp [results, Try.results26, go_sem, cr]) rfl HD.out.end
  | true =>
    go_wp2_with fail
    refine (belowC_any 3 w2 HD.out.cur (by omega) (by omega)).mono ?_
    rintro e w3 ⟨x, rfl, x0, x1, c3, g3⟩
    replace HD := Hid.intro (HD.out.step g3 c3)
    clear c3 g3
    have hx : x = 0 ∨ x = 1 ∨ x = 2 := by omega
    rcases hx with rfl | rfl | rfl
    · go_wp2_with fail
      refine (pickInt_any 3 _ w3 HD.out.cur (okInts_map [-1, 1000, 1001]) rfl (by omega) (by omega)).mono ?_
      rintro e w4 ⟨y, rfl, c4, g4⟩
      replace HD := Hid.intro (HD.out.step g4 c4)
      have HE := Hid.intro (HD.out.setU y)
      have cr := HD.out.r.cell
      have fr := HD.out.r.fro
      have cx := HD.out.x.cell
      have fx := HD.out.x.fro
      clear c4 g4
      go_wp2
      exact bodyPost_ret (v := crV ⟨y, c.g, c.l⟩ (.slice av c.l.length cv)) (by simp [results, Try.results26, go_sem, cr]) rfl HE.out.end
    · go_wp2_with fail
      refine (pickInt_any 3 _ w3 HD.out.cur (okInts_map [-1, 1000, 1001]) rfl (by omega) (by omega)).mono ?_
      rintro e w4 ⟨y, rfl, c4, g4⟩
      replace HD := Hid.intro (HD.out.step g4 c4)
      have HE := Hid.intro (HD.out.setG y)
      have cr := HD.out.r.cell
      have fr := HD.out.r.fro
      have cx := HD.out.x.cell
      have fx := HD.out.x.fro
      clear c4 g4
      go_wp2
      exact bodyPost_ret (v := crV ⟨c.u, y, c.l⟩ (.slice av c.l.length cv)) (by simp [results, Try.results26, go_sem, cr]) rfl HE.out.end
    · go_wp2_with fail
      obtain ⟨Y, hY⟩ : ∃ Y, w3.alloc (.cells #[.int .i64 1, .int .i64 2, .int .i64 3, .int .i64 4, .int .i64 5] 3) = Y := ⟨_, rfl⟩
      try simp only [hY]
      have z3 := HD.out.x.hi
      have bY : Below w3.heap.size w3 Y := by rw [← hY]; exact one_below _ _
      have HO : Hid (∀ n, n ≤ 5 → Off B Y (.slice (some ⟨w3.heap.size, 0, none⟩) n 5) ([1, 2, 3, 4, 5].take n)) := by
        intro n hn
        have := lit_off (w := w3) (B := B) [1, 2, 3, 4, 5] n 5 (by have := HD.out.hB; omega) (by simp; omega) rfl (by omega)
        rw [← hY]
        exact this
      have zY : w3.heap.size < Y.heap.size := by rw [← hY]; simp
      replace HD := Hid.intro (HD.out.kept bY)
      clear hY bY
      refine (belowC_any 2 Y HD.out.cur (by omega) (by omega)).mono ?_
      rintro e w4 ⟨y, rfl, y0, y1, c4, g4⟩
      replace HD := Hid.intro (HD.out.step g4 c4)
      have HO4 : Hid (∀ n, n ≤ 5 → Off B w4 (.slice (some ⟨w3.heap.size, 0, none⟩) n 5) ([1, 2, 3, 4, 5].take n)) := fun n hn => (HO.out n hn).step g4
      have cr := HD.out.r.cell
      have fr := HD.out.r.fro
      have cx := HD.out.x.cell
      have fx := HD.out.x.fro
      have z4 : w3.heap.size < w4.heap.size := by have := g4.size; omega
      clear c4 g4 HO
      have hy : y = 0 ∨ y = 1 := by omega
      rcases hy with rfl | rfl
      · have HE := Hid.intro (HD.out.setV (.slice (some ⟨w3.heap.size, 0, none⟩) 4 5) _ (HO4.out 4 (by omega)) (by intro k hk; simp [Value.ownBlock] at hk; omega))
        clear HO4
        go_wp2
        exact bodyPost_ret (v := crV ⟨c.u, c.g, [1, 2, 3, 4]⟩ (.slice (some ⟨w3.heap.size, 0, none⟩) 4 5)) (by simp [results, Try.results26, go_sem, cr]) rfl HE.out.end
      · have HE := Hid.intro (HD.out.setV (.slice (some ⟨w3.heap.size, 0, none⟩) 5 5) _ (HO4.out 5 (by omega)) (by intro k hk; simp [Value.ownBlock] at hk; omega))
        clear HO4
        go_wp2
        exact bodyPost_ret (v := crV ⟨c.u, c.g, [1, 2, 3, 4, 5]⟩ (.slice (some ⟨w3.heap.size, 0, none⟩) 5 5)) (by simp [results, Try.results26, go_sem, cr]) rfl HE.out.end
end
end Go.Proofs.Ytbbckkdinlladaa
