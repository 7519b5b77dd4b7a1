/- The draws of chapter 5: creds and inodes, whatever they are. -/
import Derived.Test.YtbbckkdinlladaaGDraw
import Derived.Test.YtbbckkdinlladaaPMath
namespace Go.Proofs.Ytbbckkdinlladaa
open Go.RowKit
set_option linter.unusedVariables false
theorem Row.only {α : Type} {E : Enc α} {w w' : World} {N N' : Nat} {v : Value} {L : List α} {S : Nat → Prop} (h : Row E w N v L) (hN : N ≤ w.heap.size) (ho : Only S w w') (ha : ∀ k, v.ownBlock = some k → ¬ S k) (hN' : N ≤ N') : Row E w' N' v L := by
  obtain ⟨a, cap, rfl, h1, h2, h3⟩ := h
  refine ⟨a, cap, rfl, h1, h2, fun hL => ?_⟩
  obtain ⟨b, off, rfl, hbN, hc⟩ := h3 hL
  exact ⟨b, off, rfl, by omega, fun j hj i hi => (ho.cell (by omega) (ha b rfl)).trans (hc j hj i hi)⟩
/-- A row that lies in memory, not in block B. -/
structure Off (B : Nat) (w : World) (v : Value) (L : List Int) : Prop where
  row : Row intE w w.heap.size v L
  away : ∀ k, v.ownBlock = some k → k ≠ B
theorem Off.step {B : Nat} {w w' : World} {v : Value} {L : List Int} (h : Off B w v L) (g : w.grownBy w' (some B)) : Off B w' v L :=
  ⟨h.row.only (Nat.le_refl _) (grown_only g) (fun k hk e => h.away k hk (by simpa using e)) g.size, h.away⟩
theorem Off.kept {B : Nat} {w w' : World} {v : Value} {L : List Int} (h : Off B w v L) (g : Below w.heap.size w w') : Off B w' v L := ⟨(h.row.kept g).up g.size, h.away⟩
theorem Off.nil (B : Nat) (w : World) : Off B w (.slice none 0 0) [] := ⟨Row.nil, fun k hk => by cases hk⟩
section
variable {N : Nat} {a : Option Addr} {len cap : Nat} {zs : List Int} {B : Nat}
theorem Cur.kept {w w' : World} (c : Cur N a len cap zs B w) (g : w.grownBy w' none) : Cur N a len cap zs B w' := by
  obtain ⟨i, h, hi, s⟩ := c.at_
  exact ⟨c.small, i, h, hi, s.kept g⟩
theorem Cur.only {w w' : World} {S : Nat → Prop} (c : Cur N a len cap zs B w) (ho : Only S w w') (hB : ∀ k, S k → B < k) : Cur N a len cap zs B w' := by
  have hlt := c.lt
  obtain ⟨i, h, hi, s⟩ := c.at_
  have hb : Below N w w' := ho.below (by have := s.base; omega) (fun k hk hs => by have := hB k hs; have := s.base; omega)
  exact ⟨c.small, i, h, hi, s.base, (ho.block B hlt (fun hs => by have := hB B hs; omega)).trans s.blk, s.row.below hb⟩
theorem grown_of {w w' : World} (h : Only (fun k => k = B ∨ w.heap.size ≤ k) w w') : w.grownBy w' (some B) := ⟨h.os, h.tape, h.output, h.size, fun k hk hne => h.block k hk (fun hs => by
    rcases hs with hs | hs
    · exact hne (by rw [hs])
    · omega)⟩
theorem grown_below {w w' : World} {r : Option Nat} (h : Below w.heap.size w w') : w.grownBy w' r := ⟨h.os, h.tape, h.output, h.size, fun k hk _ => h.block k hk⟩
set_option maxHeartbeats 400000 in
theorem byteC_any (w : World) (c : Cur N a len cap zs B w) :
    Calls Try.prog 45 #[.pointer (some ⟨B, 0, none⟩)] w fun e w' => ∃ x : Int, e = .returned (.int .i64 x) ∧ 0 ≤ x ∧ x ≤ 255 ∧ Cur N a len cap zs B w' ∧ w.grownBy w' (some B) := by
  obtain ⟨hl, i, h, hi, s⟩ := c
  obtain ⟨x0, x1⟩ := xB_bd zs len i h
  have k1 := iN_le hi
  refine (byte_any s hl hi).mono ?_
  rintro e w1 ⟨rfl, s1, g1⟩
  exact ⟨_, rfl, x0, x1, ⟨hl, _, _, k1, s1⟩, g1⟩
set_option maxHeartbeats 400000 in
theorem belowBig_any (n : Int) (w : World) (c : Cur N a len cap zs B w) (h1 : 257 ≤ n) (h2 : n ≤ 1000000000) :
    Calls Try.prog 28 #[.pointer (some ⟨B, 0, none⟩), .int .i64 n] w fun e w' => ∃ x : Int, e = .returned (.int .i64 x) ∧ 0 ≤ x ∧ x < n ∧ Cur N a len cap zs B w' ∧ w.grownBy w' (some B) := by
  have C := Hid.intro c
  clear c
  go_enter Try.func28, Try.ntmps28
  go_wp2_with fail
  refine (byteC_any _ C.out).mono ?_
  rintro e w1 ⟨x, rfl, x0, x1, c1, g1⟩
  have C1 := Hid.intro c1
  clear c1 C
  go_wp2_with fail
  refine (byteC_any _ C1.out).mono ?_
  rintro e w2 ⟨y, rfl, y0, y1, c2, g2⟩
  have C2 := Hid.intro c2
  replace g2 := grown_trans g1 g2
  clear c2 C1 g1
  go_wp2_with fail
  refine (byteC_any _ C2.out).mono ?_
  rintro e w3 ⟨z, rfl, z0, z1, c3, g3⟩
  have C3 := Hid.intro c3
  replace g3 := grown_trans g2 g3
  clear c3 C2 g2
  go_wp2_with fail
  refine (byteC_any _ C3.out).mono ?_
  rintro e w4 ⟨t, rfl, t0, t1, c4, g4⟩
  have C4 := Hid.intro c4
  replace g4 := grown_trans g3 g4
  clear c4 C3 g3
  go_wp2
  go_ret
  exact ⟨_, rfl, Int.emod_nonneg _ (by omega), Int.emod_lt_of_pos _ (by omega), C4.out, g4⟩
def okInts (A : Array Value) : Prop := ∀ v ∈ A.toList, ∃ x : Int, v = .int .i64 x
theorem okInts_map (l : List Int) : okInts ((l.map (fun x => Value.int .i64 x)).toArray) := by
  intro v hv
  simp at hv
  obtain ⟨x, _, rfl⟩ := hv
  exact ⟨x, rfl⟩
set_option maxHeartbeats 400000 in
theorem pickInt_any (k : Nat) (A : Array Value) (w : World) (c : Cur N a len cap zs B w) (hA : okInts A) (hk : A.size = k) (h1 : 1 ≤ k) (h2 : k ≤ 256) :
    Calls Try.prog 44 #[.pointer (some ⟨B, 0, none⟩), .slice (some ⟨w.heap.size, 0, none⟩) k k] (w.alloc (.cells A 3)) fun e w' => ∃ x : Int, e = .returned (.int .i64 x) ∧ Cur N a len cap zs B w' ∧ w.grownBy w' (some B) := by
  have hlt := c.lt
  have C := Hid.intro (c.alloc (.cells A 3))
  have HA := Hid.intro hA
  have HK := Hid.intro hk
  clear c hA hk
  go_enter Try.func44, Try.ntmps44
  go_wp2_with fail
  refine (belowC_any (k : Int) _ C.out (by omega) (by omega)).mono ?_
  rintro e w1 ⟨x, rfl, x0, x1, c1, g1⟩
  obtain ⟨j, rfl⟩ := Int.eq_ofNat_of_zero_le x0
  obtain ⟨s, hc⟩ : ∃ s : Int, w1.cell? ⟨w.heap.size, j, none⟩ = some (.int .i64 s) := by
    have hj : j < A.size := by rw [HK.out]; omega
    obtain ⟨s, hv⟩ := HA.out A[j] (by simp)
    refine ⟨s, g1.cell ?_ (by simp; omega)⟩
    rw [World.cell?_alloc_at _ _ _ _ rfl, Array.getElem?_eq_getElem hj, hv]
  have gg := grown_alloc_first g1
  clear g1
  go_wp2
  go_ret
  exact ⟨s, rfl, c1, gg⟩
set_option maxRecDepth 100000 in
set_option maxHeartbeats 1000000 in
theorem l5Inode_any (w : World) (c : Cur N a len cap zs B w) :
    Calls Try.prog 27 #[.pointer (some ⟨B, 0, none⟩)] w fun e w' => ∃ n : Nd, n.names = [] ∧ e = .returned (ndV n (.slice none 0 0)) ∧ Cur N a len cap zs B w' ∧ w.grownBy w' (some B) := by
  obtain ⟨W, hW, bW, zW, cW, fW⟩ := boxed w #[.int .i64 0, .int .i64 0, .int .i64 0, .int .i64 0, .int .i64 0, .string ⟨#[]⟩, .slice none 0 0, .int .i64 0, .int .i64 0] 29
  have C := Hid.intro (c.kept (grown_below bW))
  have hBw := c.lt
  have HBW := Hid.intro bW
  clear c
  go_enter Try.func27, Try.ntmps27
  go_wp2_with fail
  try simp only [hW]
  clear hW bW
  refine (belowC_any 3 W C.out (by omega) (by omega)).mono ?_
  rintro e w1 ⟨x1, rfl, x10, x11, c1, g1⟩
  replace C := Hid.intro c1
  clear c1
  go_wp2_with fail
  refine (belowBig_any 2048 w1 C.out (by omega) (by omega)).mono ?_
  rintro e w2 ⟨x2, rfl, x20, x21, c2, g2⟩
  replace g2 := grown_trans g1 g2
  replace C := Hid.intro c2
  clear c2 g1
  go_wp2_with fail
  refine (pickInt_any 3 _ w2 C.out (okInts_map [0, 2, 3]) rfl (by omega) (by omega)).mono ?_
  rintro e w3 ⟨x3, rfl, c3, g3⟩
  replace g3 := grown_trans g2 g3
  replace C := Hid.intro c3
  clear c3 g2
  go_wp2_with fail
  refine (pickInt_any 4 _ w3 C.out (okInts_map [0, 2, 5, 7]) rfl (by omega) (by omega)).mono ?_
  rintro e w4 ⟨x4, rfl, c4, g4⟩
  replace g4 := grown_trans g3 g4
  replace C := Hid.intro c4
  have cX : ∀ o, w4.cell? ⟨w.heap.size, o, none⟩ = _ := fun o => ((grown_only g4).cell (by omega) (by simp; omega)).trans (cW o)
  have fX : ∀ o, w4.frozen? ⟨w.heap.size, o, none⟩ = false := fun o => ((grown_only g4).frozen (by omega) (by simp; omega)).trans (fW o)
  have HG := Hid.intro g4
  have z4 : w.heap.size < w4.heap.size := by have := g4.size; omega
  clear c4 g3 g4 cW fW
  go_wp2
  refine bodyPost_ret (v := ndV ⟨2, 1 + x1, x2, x3, x4, ⟨#[]⟩, [], 0, 0⟩ (.slice none 0 0)) (by simp [results, Try.results27, go_sem, cX]) rfl ⟨_, rfl, rfl, ?_, ?_⟩
  · refine C.out.only (S := fun k => k = w.heap.size) ?_ (by intro k hk; omega)
    repeat (refine Only.setCell ?_ (by simp) _)
    exact Only.refl _ _
  · refine grown_of (Only.then (b := w4) (T := fun k => k = w.heap.size) ?_ ?_ (by intro k hk h; omega))
    · exact Only.then (b := W) (T := fun k => some k = some B) (Below.any HBW.out) (grown_only HG.out) (by intro k hk h; left; simpa using h)
    · repeat (refine Only.setCell ?_ (by simp) _)
      exact Only.refl _ _
/-- What a draw of a cred comes to. -/
def DrawC (N : Nat) (a : Option Addr) (len cap : Nat) (zs : List Int) (B : Nat) (w : World) (e : Ending) (w' : World) : Prop := ∃ (c : Cr) (v : Value), e = .returned (crV c v) ∧ Off B w' v c.l ∧ (∀ k, v.ownBlock = some k → w.heap.size ≤ k ∧ k < w'.heap.size) ∧ Cur N a len cap zs B w' ∧ w.grownBy w' (some B)
theorem lit_off {w : World} {B : Nat} (l : List Int) (n k : Nat) (hB : B < w.heap.size) (hn : n ≤ l.length) (hk : l.length = k) (hm : k ≤ 1000) : Off B (w.alloc (.cells ((l.map (fun x => Value.int .i64 x)).toArray) 3)) (.slice (some ⟨w.heap.size, 0, none⟩) n k) (l.take n) := by
  refine ⟨⟨some ⟨w.heap.size, 0, none⟩, k, by simp; omega, by simp; omega, by omega, fun _ => ⟨w.heap.size, 0, rfl, by simp, fun j hj i hi => ?_⟩⟩, fun k hk => by simp [Value.ownBlock] at hk; omega⟩
  have h0 : i = 0 := by have : i < 1 := hi; omega
  subst h0
  have hjl : j < l.length := by simp at hj; omega
  rw [World.cell?_alloc_at _ _ _ _ rfl]
  simp [intE, hjl]
set_option maxRecDepth 100000 in
set_option maxHeartbeats 1000000 in
theorem l5Cred_any (w : World) (c : Cur N a len cap zs B w) :
    Calls Try.prog 42 #[.pointer (some ⟨B, 0, none⟩)] w fun e w' => DrawC N a len cap zs B w e w' := by
  obtain ⟨W, hW, bW, zW, cW, fW⟩ := boxed w #[.int .i64 0, .int .i64 0, .slice none 0 0] 26
  have C := Hid.intro (c.kept (grown_below bW))
  have hBw := c.lt
  have HBW := Hid.intro bW
  clear c
  go_enter Try.func42, Try.ntmps42
  go_wp2_with fail
  try simp only [hW]
  clear hW bW
  refine (belowC_any 4 W C.out (by omega) (by omega)).mono ?_
  rintro e w1 ⟨x, rfl, x0, x1, c1, g1⟩
  replace C := Hid.intro c1
  have cX : ∀ o, w1.cell? ⟨w.heap.size, o, none⟩ = _ := fun o => ((grown_only g1).cell (by omega) (by simp; omega)).trans (cW o)
  have fX : ∀ o, w1.frozen? ⟨w.heap.size, o, none⟩ = false := fun o => ((grown_only g1).frozen (by omega) (by simp; omega)).trans (fW o)
  have HG : Hid (Only (fun k => k = B ∨ w.heap.size ≤ k) w w1) := Only.then (b := W) (T := fun k => some k = some B) (Below.any HBW.out) (grown_only g1) (by intro k hk h; left; simpa using h)
  have z1 : w.heap.size < w1.heap.size := by have := g1.size; omega
  clear c1 g1 cW fW HBW
  have hx : x = 0 ∨ x = 1 ∨ x = 2 ∨ x = 3 := by omega
  rcases hx with rfl | rfl | rfl | rfl
  · go_wp2
    refine bodyPost_ret (v := crV ⟨0, 0, []⟩ (.slice none 0 0)) (by simp [results, Try.results42, go_sem, cX]) rfl ⟨_, _, rfl, Off.nil _ _, (fun k hk => by cases hk), ?_, ?_⟩
    · refine C.out.only (S := fun k => k = w.heap.size) ?_ (by intro k hk; omega)
      repeat (refine Only.setCell ?_ (by simp) _)
      exact Only.refl _ _
    · refine grown_of (Only.then (b := w1) (T := fun k => k = w.heap.size) HG.out ?_ (by intro k hk h; omega))
      repeat (refine Only.setCell ?_ (by simp) _)
      exact Only.refl _ _
  · go_wp2
    refine bodyPost_ret (v := crV ⟨0, 0, []⟩ (.slice none 0 0)) (by simp [results, Try.results42, go_sem, cX]) rfl ⟨_, _, rfl, Off.nil _ _, (fun k hk => by cases hk), ?_, ?_⟩
    · refine C.out.only (S := fun k => k = w.heap.size) ?_ (by intro k hk; omega)
      repeat (refine Only.setCell ?_ (by simp) _)
      exact Only.refl _ _
    · refine grown_of (Only.then (b := w1) (T := fun k => k = w.heap.size) HG.out ?_ (by intro k hk h; omega))
      repeat (refine Only.setCell ?_ (by simp) _)
      exact Only.refl _ _
  · obtain ⟨X, hX⟩ : ∃ X, w1.alloc (.cells #[.int .i64 5] 3) = X := ⟨_, rfl⟩
    have HO : Hid (Off B X (.slice (some ⟨w1.heap.size, 0, none⟩) 1 1) [5]) := by
      have := lit_off (w := w1) (B := B) [5] 1 1 (by omega) (by simp) rfl (by omega)
      unfold Hid
      rw [← hX]
      exact this
    have bX : Below w1.heap.size w1 X := by rw [← hX]; exact one_below _ _
    replace C := Hid.intro (C.out.kept (grown_below bX))
    replace HG : Hid (Only (fun k => k = B ∨ w.heap.size ≤ k) w X) := HG.out.trans (Below.any bX)
    have cX' : ∀ o, X.cell? ⟨w.heap.size, o, none⟩ = _ := fun o => (bX.cell (p := ⟨w.heap.size, o, none⟩) z1).trans (cX o)
    have fX' : ∀ o, X.frozen? ⟨w.heap.size, o, none⟩ = false := fun o => (bX.frozen (p := ⟨w.heap.size, o, none⟩) z1).trans (fX o)
    have zX : w1.heap.size < X.heap.size := by rw [← hX]; simp
    clear bX cX fX
    go_wp2_with fail
    try simp only [hX]
    clear hX
    go_wp2
    refine bodyPost_ret (v := crV ⟨2, 2, [5]⟩ (.slice (some ⟨w1.heap.size, 0, none⟩) 1 1)) (by simp [results, Try.results42, go_sem, cX']) rfl ⟨_, _, rfl, ?_, (fun k hk => by simp [Value.ownBlock] at hk; subst hk; simp; omega), ?_, ?_⟩
    · refine ⟨HO.out.row.only (S := fun k => k = w.heap.size) (Nat.le_refl _) ?_ (by intro k hk h; simp [Value.ownBlock] at hk; omega) (by simp), HO.out.away⟩
      repeat (refine Only.setCell ?_ (by simp) _)
      exact Only.refl _ _
    · refine C.out.only (S := fun k => k = w.heap.size) ?_ (by intro k hk; omega)
      repeat (refine Only.setCell ?_ (by simp) _)
      exact Only.refl _ _
    · refine grown_of (Only.then (b := X) (T := fun k => k = w.heap.size) HG.out ?_ (by intro k hk h; omega))
      repeat (refine Only.setCell ?_ (by simp) _)
      exact Only.refl _ _
  · go_wp2
    refine bodyPost_ret (v := crV ⟨3, 2, []⟩ (.slice none 0 0)) (by simp [results, Try.results42, go_sem, cX]) rfl ⟨_, _, rfl, Off.nil _ _, (fun k hk => by cases hk), ?_, ?_⟩
    · refine C.out.only (S := fun k => k = w.heap.size) ?_ (by intro k hk; omega)
      repeat (refine Only.setCell ?_ (by simp) _)
      exact Only.refl _ _
    · refine grown_of (Only.then (b := w1) (T := fun k => k = w.heap.size) HG.out ?_ (by intro k hk h; omega))
      repeat (refine Only.setCell ?_ (by simp) _)
      exact Only.refl _ _
end
end Go.Proofs.Ytbbckkdinlladaa
