/- What is proved: at every argument the law FnExactShowTenant answers true and leaves its arguments as they were (Rows.FnExactShowTenantSaid); no condition. -/
import Derived.Test.YtjfiaoebmdelpaaXShowM
import Derived.Test.YtjfiaoebmdelpaaXShowS
import Derived.Test.YtjfiaoebmdelpaaPReg
import Derived.Deep.RegionHeld3
import Derived.Deep.Cut
import Derived.Test.YtjfiaoebmdelpaaGOpen
import Derived.Test.YtjfiaoebmdelpaaVImpF
import Derived.Test.YtjfiaoebmdelpaaXNote
import Derived.Test.YtjfiaoebmdelpaaXTen
import Derived.Test.YtjfiaoebmdelpaaRows
import Derived.WalkKit
import Derived.ProofKit
import Derived.OpenShut
import Derived.ShutString
import Derived.ChangeOld
import Derived.Below
namespace Go.Proofs.Ytjfiaoebmdelpaa
open Go.RowKit
set_option linter.unusedVariables false
set_option maxRecDepth 100000 in
set_option maxHeartbeats 8000000 in
theorem showTenant_law (t : Ten) (w : World) (hr : TenR w w.heap.size t) (hw : TenW t) :
    Calls Try.prog 3 #[t.v] w fun e w' => e = .returned (.bool true) ∧ Below w.heap.size w w' := by
  have HR := Hid.intro hr
  have HW := Hid.intro hw
  clear hr hw
  go_enter Try.func3, Try.ntmps3
  go_wp2_with fail
  obtain ⟨U, hU, bU, zU, kc, qc⟩ := boxed w t.arr 28
  try simp only [hU]
  have HA : Hid (TenR U w.heap.size t) := HR.out.kept bU
  have HB := Hid.intro bU
  have hzu : w.heap.size < U.heap.size := by omega
  have HK := Hid.intro kc
  clear hU bU zU kc qc HR
  refine (szTenant_any t w.heap.size _ U (Nat.le_of_lt hzu) HA.out HW.out (by omega) (by omega)).mono ?_
  rintro e w1 ⟨⟨s0, rfl, HN⟩, bb⟩
  replace HA := Hid.intro (HA.out.kept (bb.mono (Nat.le_of_lt hzu)))
  replace HB := Hid.intro (HB.out.trans (bb.mono HB.out.size))
  replace HK := Hid.intro (keepC bb hzu HK.out)
  have z1 : w.heap.size < w1.heap.size := by have := bb.size; omega
  clear bb hzu
  by_cases hneg0 : s0 < 0
  · go_wp2
    go_ret
    exact ⟨rfl, HB.out⟩
  · have HL : Hid (TenL t) := HN.out (by omega)
    clear HN
    have kk := HK.out
    go_wp2_with fail
    clear kk
    refine (toTenant_any t w.heap.size w1 (Nat.le_of_lt z1) HA.out HL.out).mono ?_
    rintro e y0 ⟨t9, rfl, o9, e9, b9⟩
    replace HA := Hid.intro (HA.out.kept (b9.mono (Nat.le_of_lt z1)))
    replace HB := Hid.intro (HB.out.trans (b9.mono HB.out.size))
    replace HK := Hid.intro (keepC b9 z1 HK.out)
    have HO9 := Hid.intro o9
    have HE9 := Hid.intro e9
    have HWM := Hid.intro (HW.out.of_key e9)
    have z2 : w.heap.size < y0.heap.size := by have := b9.size; omega
    clear b9 o9 e9
    have kk := HK.out
    go_wp2_with fail
    clear kk
    refine (specShowTenant_any t9 y0.heap.size y0 (Nat.le_refl _) HO9.out.rowAll HWM.out).mono ?_
    rw [HE9.out]
    rintro e z ⟨rfl, bz⟩
    replace HA := Hid.intro (HA.out.kept (bz.mono (Nat.le_of_lt z2)))
    replace HB := Hid.intro (HB.out.trans (bz.mono HB.out.size))
    replace HK := Hid.intro (keepC bz z2 HK.out)
    have z3 : w.heap.size < z.heap.size := by have := bz.size; omega
    clear bz HO9 HE9 HWM
    have kk := HK.out
    go_wp2_with fail
    clear kk
    refine (toTenant_any t w.heap.size z (Nat.le_of_lt z3) HA.out HL.out).mono ?_
    rintro e t0 ⟨s, rfl, o0, e0, b0⟩
    replace HA := Hid.intro (HA.out.kept (b0.mono (Nat.le_of_lt z3)))
    replace HB := Hid.intro (HB.out.trans (b0.mono HB.out.size))
    replace HK := Hid.intro (keepC b0 z3 HK.out)
    have HO0 := Hid.intro o0
    have HE0 := Hid.intro e0
    have HWM := Hid.intro (HW.out.of_key e0)
    have z4 : w.heap.size < t0.heap.size := by have := b0.size; omega
    clear b0 o0 e0
    have kk := HK.out
    go_upto_region 7 with fail
    clear kk
    obtain ⟨X0, hX, bX, zX, kX, fX⟩ := boxed t0 s.arr 37
    try simp only [hX]
    replace HA := Hid.intro (HA.out.kept (bX.mono (Nat.le_of_lt z4)))
    replace HB := Hid.intro (HB.out.trans (bX.mono HB.out.size))
    replace HK := Hid.intro (keepC bX z4 HK.out)
    have HX := Hid.intro kX
    have zx : t0.heap.size < X0.heap.size := by omega
    replace HO0 := Hid.intro (HO0.out.kept bX)
    clear hX bX zX kX fX
    have kk0 := HX.out
    go_wp2_with fail
    clear kk0
    refine (implShowTenant_any s X0.heap.size X0 (Nat.le_refl _) HO0.out.rowAll HWM.out).mono ?_
    rw [HE0.out]
    rintro e g ⟨rfl, bg⟩
    replace HA := Hid.intro (HA.out.kept (bg.mono (by omega)))
    replace HB := Hid.intro (HB.out.trans (bg.mono HB.out.size))
    replace HK := Hid.intro (keepC bg (by omega) HK.out)
    replace HX := Hid.intro (keepC bg zx HX.out)
    replace HO0 := Hid.intro (HO0.out.kept bg)
    have z5 : w.heap.size < g.heap.size := by have := bg.size; omega
    have z6 : t0.heap.size < g.heap.size := by have := bg.size; omega
    clear bg
    have hne0 : ((shTen t.key).toList != (shTen t.key).toList) = false := by simp
    generalize shTen t.key = rs at hne0 ⊢
    go_upto_region 10 with fail
    have HS : Hid (∀ y, Below g.heap.size g y → (∀ o, y.cell? ⟨t0.heap.size, o, none⟩ = s.arr[o]?) ∧ (∀ o, y.cell? ⟨w.heap.size, o, none⟩ = t.arr[o]?)) := fun y hy => ⟨keepC hy z6 HX.out, keepC hy z5 HK.out⟩
    refine wp_region_held_drew (S := fun y => (∀ o, y.cell? ⟨t0.heap.size, o, none⟩ = s.arr[o]?) ∧ (∀ o, y.cell? ⟨w.heap.size, o, none⟩ = t.arr[o]?)) (by kernel_rfl) (HS.out _ (Below.refl _ _).drew) (fun hHeld => ?_)
    have BD : Hid (Below g.heap.size g g.drew) := (Below.refl _ _).drew
    generalize g.drew = D at BD hHeld ⊢
    refine take1 (i := 0) (d := some 22) (v := ?_) rfl rfl (by kernel_rfl) (by kernel_rfl) (by kernel_rfl) (fun _ _ _ h => h) (Or.inl ⟨by rfl, ?_⟩) (by assumption) ?_
    rotate_left 1
    · intro w hSw
      obtain ⟨q0, q1⟩ := hSw
      go_simp <;> with_reducible rfl
    simp only [Act.put, List.setIfInBounds_toArray]
    dsimp only [List.set_cons_succ, List.set_cons_zero]
    refine take1 (i := 1) (d := some 23) (v := ?_) rfl rfl (by kernel_rfl) (by kernel_rfl) (by kernel_rfl) (fun _ _ _ h => h) (Or.inl ⟨by rfl, ?_⟩) (by assumption) ?_
    rotate_left 1
    · intro w hSw
      obtain ⟨q0, q1⟩ := hSw
      go_simp <;> with_reducible rfl
    simp only [Act.put, List.setIfInBounds_toArray]
    dsimp only [List.set_cons_succ, List.set_cons_zero]
    refine wpAnyH_ready (rs := [2]) (by kernel_rfl) (by simp) ?_
    refine AllReadyH.cons rfl (fun KK hKK => ?_) AllReadyH.nil
    go_simp
    refine (toTenant_any t w.heap.size D (by have := BD.out.size; omega) (HA.out.kept (BD.out.mono (by omega))) HL.out).mono ?_
    rintro e t1 ⟨s1, rfl, o1, e1, b1⟩
    have HO1 := Hid.intro o1
    have HE1 := Hid.intro e1
    have B1 : Hid (Below g.heap.size g t1) := BD.out.trans (b1.mono BD.out.size)
    clear o1 e1 b1
    go_simp
    refine hKK.out _ _ (HS.out _ B1.out) (fun hHeld2 => ?_)
    clear hKK KK hHeld
    have hHeld := hHeld2
    clear hHeld2
    refine wpAnyH_ready (rs := [3]) (by kernel_rfl) (by simp) ?_
    refine AllReadyH.cons rfl (fun KK hKK => ?_) AllReadyH.nil
    go_simp
    refine (eqTenant_any s s1 t1.heap.size t1 (Nat.le_refl _) (HO0.out.kept B1.out).rowAll HO1.out.rowAll (by rw [HE0.out, HE1.out])).mono ?_
    rintro e t2 ⟨rfl, b2⟩
    have B2 : Hid (Below g.heap.size g t2) := B1.out.trans (b2.mono B1.out.size)
    clear b2
    go_simp
    refine hKK.out _ _ (HS.out _ B2.out) (fun hHeld2 => ?_)
    clear hKK KK hHeld
    have hHeld := hHeld2
    clear hHeld2
    refine take1 (i := 4) (d := some 26) (v := ?_) rfl rfl (by kernel_rfl) (by kernel_rfl) (by kernel_rfl) (fun _ _ _ h => h) (Or.inl ⟨by rfl, ?_⟩) (by assumption) ?_
    rotate_left 1
    · intro w hSw
      obtain ⟨q0, q1⟩ := hSw
      go_simp <;> with_reducible rfl
    simp only [Act.put, List.setIfInBounds_toArray]
    dsimp only [List.set_cons_succ, List.set_cons_zero]
    refine wpAnyH_done (by kernel_rfl) ?_ _
    have HBE := Hid.intro (HB.out.trans (B2.out.mono HB.out.size))
    clear hHeld HS
    go_wp2_with fail
    go_ret
    exact ⟨rfl, HBE.out⟩
end Go.Proofs.Ytjfiaoebmdelpaa
namespace Go.Proofs.Ytjfiaoebmdelpaa
open Go.ChangeShapes Go.WideShapes Go.ChangeAt Go.RowKit Go.Joins Go.Deep
set_option linter.unusedVariables false
theorem cells_i : Try.prog.cellsOf 3 = 1 := by kernel_rfl
theorem cells_s : Try.prog.cellsOf 9 = 1 := by kernel_rfl
theorem cells_Dirent : Try.prog.cellsOf 162 = 2 := by kernel_rfl
theorem cells_DirentS : Try.prog.cellsOf 132 = 1 := by kernel_rfl
theorem cells_Inode : Try.prog.cellsOf 134 = 9 := by kernel_rfl
theorem cells_InodeS : Try.prog.cellsOf 22 = 1 := by kernel_rfl
theorem cells_Vol : Try.prog.cellsOf 24 = 2 := by kernel_rfl
section
variable {H : Type} {enc : TypeId × Value → H} {W : World} {sp : Nat → Bool} {held : Bool}
theorem dirent_cells {fuel : Nat} {cs : List Value} {x : DataW H × List MemPlace} (h : DataW.trod enc Try.prog W 0 sp held fuel 162 cs = some x) : ∃ a : Di, cs = diE.c a ∧ (a.nm.size ≤ 9223372036854775807 ∧ (Lit.int .i64 a.id).wf = true) := by
  obtain ⟨xs, n, _, rfl, hl, hlen, hf⟩ := DataW.trod_struct Try.underlying162 h
  rw [cells_Dirent] at hl
  obtain ⟨c0, c1, rfl⟩ := list2 hl
  have hlen' : xs.length = 2 := by simpa using hlen
  obtain ⟨y0, y1, rfl⟩ := list2 hlen'
  have h0 := hf 0 _ rfl
  have h1 := hf 1 _ rfl
  simp [cells_i, cells_s] at h0 h1
  obtain ⟨d, e0, _, hd⟩ := DataW.trod_string Try.underlying9 h0
  obtain ⟨t, e1, _, hwf⟩ := DataW.trod_int Try.underlying3 h1
  simp only [List.cons.injEq, and_true] at e0 e1
  subst e0 e1
  exact ⟨⟨d, t⟩, rfl, hd, hwf⟩
theorem open_DirentS {fuel : Nat} {c : Value} {x : DataW H × List MemPlace} (h : DataW.trod enc Try.prog W 0 sp held fuel 132 [c] = some x) : ∃ L : List Di, Row diE W W.heap.size c L ∧ ∀ a ∈ L, (a.nm.size ≤ 9223372036854775807 ∧ (Lit.int .i64 a.id).wf = true) :=
  open_row diE _ Try.underlying132 cells_Dirent (fun _ _ _ h => dirent_cells h) h
theorem inode_cells {fuel : Nat} {cs : List Value} {x : DataW H × List MemPlace} (h : DataW.trod enc Try.prog W 0 sp held fuel 134 cs = some x) :
    ∃ p : Np, cs = ndE.c p ∧ (NdW p.n ∧ Row diE W W.heap.size p.v p.n.names) := by
  obtain ⟨xs, n, _, rfl, hl, hlen, hf⟩ := DataW.trod_struct Try.underlying134 h
  rw [cells_Inode] at hl
  obtain ⟨c0, c1, c2, c3, c4, c5, c6, c7, c8, rfl⟩ := list9 hl
  have hlen' : xs.length = 9 := by simpa using hlen
  obtain ⟨y0, y1, y2, y3, y4, y5, y6, y7, y8, rfl⟩ := list9 hlen'
  have h0 := hf 0 _ rfl
  have h1 := hf 1 _ rfl
  have h2 := hf 2 _ rfl
  have h3 := hf 3 _ rfl
  have h4 := hf 4 _ rfl
  have h5 := hf 5 _ rfl
  have h6 := hf 6 _ rfl
  have h7 := hf 7 _ rfl
  have h8 := hf 8 _ rfl
  simp [cells_i, cells_s, cells_DirentS] at h0 h1 h2 h3 h4 h5 h6 h7 h8
  obtain ⟨x0, e0, _⟩ := DataW.trod_int Try.underlying3 h0
  obtain ⟨x1, e1, _⟩ := DataW.trod_int Try.underlying3 h1
  obtain ⟨x2, e2, _⟩ := DataW.trod_int Try.underlying3 h2
  obtain ⟨x3, e3, _⟩ := DataW.trod_int Try.underlying3 h3
  obtain ⟨x4, e4, _⟩ := DataW.trod_int Try.underlying3 h4
  obtain ⟨x5, e5, _, hd⟩ := DataW.trod_string Try.underlying9 h5
  obtain ⟨x7, e7, _⟩ := DataW.trod_int Try.underlying3 h7
  obtain ⟨x8, e8, _⟩ := DataW.trod_int Try.underlying3 h8
  simp only [List.cons.injEq, and_true] at e0 e1 e2 e3 e4 e5 e7 e8
  subst e0 e1 e2 e3 e4 e5 e7 e8
  obtain ⟨L, hL, hz⟩ := open_DirentS h6
  obtain ⟨a, cap, rfl, _⟩ := hL.slice
  exact ⟨⟨⟨x0, x1, x2, x3, x4, x5, L, x7, x8⟩, a, cap⟩, rfl, ⟨⟨hd, fun e he => (hz e he).1⟩, fun e he => (hz e he).2⟩, hL⟩
theorem open_InodeS {fuel : Nat} {c : Value} {x : DataW H × List MemPlace} (h : DataW.trod enc Try.prog W 0 sp held fuel 22 [c] = some x) : ∃ L : List Np, VolR W W.heap.size c L ∧ ∀ p ∈ L, NdW p.n := by
  obtain ⟨L, hL, hp⟩ := open_row ndE _ Try.underlying22 cells_Inode (fun _ _ _ h => inode_cells h) h
  exact ⟨L, ⟨hL, fun p h => (hp p h).2⟩, fun p h => (hp p h).1⟩
theorem vol_cells {fuel : Nat} {cs : List Value} {x : DataW H × List MemPlace} (h : DataW.trod enc Try.prog W 0 sp held fuel 24 cs = some x) :
    ∃ (next : Int) (u : Value) (L : List Np), cs = [.int .i64 next, u] ∧ VolR W W.heap.size u L ∧ ∀ p ∈ L, NdW p.n := by
  obtain ⟨xs, n, _, rfl, hl, hlen, hf⟩ := DataW.trod_struct Try.underlying24 h
  rw [cells_Vol] at hl
  obtain ⟨c0, c1, rfl⟩ := list2 hl
  have hlen' : xs.length = 2 := by simpa using hlen
  obtain ⟨y0, y1, rfl⟩ := list2 hlen'
  have h0 := hf 0 _ rfl
  have h1 := hf 1 _ rfl
  simp [cells_i, cells_InodeS] at h0 h1
  obtain ⟨t, e0, _⟩ := DataW.trod_int Try.underlying3 h0
  simp only [List.cons.injEq, and_true] at e0
  subst e0
  obtain ⟨L, hL, hz⟩ := open_InodeS h1
  exact ⟨t, c1, L, rfl, hL, hz⟩
set_option maxRecDepth 100000 in
theorem open_Vol {r0 : Go.Reach} {b0 : Nat} {v : Value} {d : DataW H} {p : List MemPlace} (hval : Value.okWide Try.prog W r0 b0 24 v) (h : DataW.Trod enc Try.prog W 0 sp held 24 v d p) :
    ∃ (next : Int) (u : Value) (L : List Np), v = volV next u ∧ VolR W W.heap.size u L ∧ ∀ p ∈ L, NdW p.n := by
  obtain ⟨cs, rfl, hsz⟩ := okWide_struct Try.underlying24 hval
  obtain ⟨fuel, hf⟩ := h
  obtain ⟨next, u, L, hr, h1⟩ := vol_cells hf
  refine ⟨next, u, L, ?_, h1⟩
  have e : cs.toList = [.int .i64 next, u] := by simpa [Value.cells] using hr
  rw [volV, ← Array.toArray_toList (xs := cs), e]
end
end Go.Proofs.Ytjfiaoebmdelpaa
namespace Go.Proofs.Ytjfiaoebmdelpaa
open Go.ChangeShapes Go.WideShapes Go.ChangeAt Go.RowKit Go.Joins Go.Deep
set_option linter.unusedVariables false
theorem cells_ni : Try.prog.cellsOf 3 = 1 := by kernel_rfl
theorem cells_Note : Try.prog.cellsOf 107 = 5 := by kernel_rfl
theorem list5 {α : Type} {cs : List α} (h : cs.length = 5) : ∃ c0 c1 c2 c3 c4, cs = [c0, c1, c2, c3, c4] := by
  match cs, h with
  | [c0, c1, c2, c3, c4], _ => exact ⟨c0, c1, c2, c3, c4, rfl⟩
section
variable {H : Type} {enc : TypeId × Value → H} {W : World} {sp : Nat → Bool} {held : Bool}
theorem note_cells {fuel : Nat} {cs : List Value} {x : DataW H × List MemPlace} (h : DataW.trod enc Try.prog W 0 sp held fuel 107 cs = some x) : ∃ a : Nt, cs = ntE.c a ∧ True := by
  obtain ⟨xs, n, _, rfl, hl, hlen, hf⟩ := DataW.trod_struct Try.underlying107 h
  rw [cells_Note] at hl
  obtain ⟨c0, c1, c2, c3, c4, rfl⟩ := list5 hl
  have hlen' : xs.length = 5 := by simpa using hlen
  obtain ⟨y0, y1, y2, y3, y4, rfl⟩ := list5 hlen'
  have h0 := hf 0 _ rfl
  have h1 := hf 1 _ rfl
  have h2 := hf 2 _ rfl
  have h3 := hf 3 _ rfl
  have h4 := hf 4 _ rfl
  simp [cells_ni] at h0 h1 h2 h3 h4
  obtain ⟨x0, e0, _⟩ := DataW.trod_int Try.underlying3 h0
  obtain ⟨x1, e1, _⟩ := DataW.trod_int Try.underlying3 h1
  obtain ⟨x2, e2, _⟩ := DataW.trod_int Try.underlying3 h2
  obtain ⟨x3, e3, _⟩ := DataW.trod_int Try.underlying3 h3
  obtain ⟨x4, e4, _⟩ := DataW.trod_int Try.underlying3 h4
  simp only [List.cons.injEq, and_true] at e0 e1 e2 e3 e4
  subst e0 e1 e2 e3 e4
  exact ⟨⟨x0, x1, x2, x3, x4⟩, rfl, trivial⟩
set_option maxRecDepth 100000 in
theorem open_NoteS {r0 : Go.Reach} {b0 : Nat} {v : Value} {d : DataW H} {p : List MemPlace} (hval : Value.okWide Try.prog W r0 b0 25 v) (h : DataW.Trod enc Try.prog W 0 sp held 25 v d p) : ∃ L : List Nt, Row ntE W W.heap.size v L := by
  obtain ⟨fuel, hf⟩ := h
  obtain ⟨a, n, cap, rfl⟩ := okWide_slice Try.underlying25 hval
  obtain ⟨L, hL, _⟩ := open_row ntE (fun _ => True) Try.underlying25 cells_Note (fun _ _ _ h => note_cells h) (c := .slice a n cap) (by simpa [Value.cells] using hf)
  exact ⟨L, hL⟩
end
end Go.Proofs.Ytjfiaoebmdelpaa
namespace Go.Proofs.Ytjfiaoebmdelpaa
open Go.ChangeShapes Go.WideShapes Go.ChangeAt Go.RowKit Go.Joins Go.Deep
set_option linter.unusedVariables false
theorem cells_Session : Try.prog.cellsOf 95 = 5 := by kernel_rfl
theorem cells_NoteS : Try.prog.cellsOf 25 = 1 := by kernel_rfl
theorem cells_SessionS : Try.prog.cellsOf 26 = 1 := by kernel_rfl
theorem cells_Tenant : Try.prog.cellsOf 28 = 5 := by kernel_rfl
theorem list4 {α : Type} {cs : List α} (h : cs.length = 4) : ∃ c0 c1 c2 c3, cs = [c0, c1, c2, c3] := by
  match cs, h with
  | [c0, c1, c2, c3], _ => exact ⟨c0, c1, c2, c3, rfl⟩
section
variable {H : Type} {enc : TypeId × Value → H} {W : World} {sp : Nat → Bool} {held : Bool}
theorem ses_cells {fuel : Nat} {cs : List Value} {x : DataW H × List MemPlace} (h : DataW.trod enc Try.prog W 0 sp held fuel 95 cs = some x) : ∃ a : Se, cs = seE.c a ∧ a.r.d.size ≤ 9223372036854775807 := by
  obtain ⟨xs, n, _, rfl, hl, hlen, hf⟩ := DataW.trod_struct Try.underlying95 h
  rw [cells_Session] at hl
  obtain ⟨c0, c1, c2, c3, c4, rfl⟩ := list5 hl
  have hlen' : xs.length = 4 := by simpa using hlen
  obtain ⟨y0, y1, y2, y3, rfl⟩ := list4 hlen'
  have h0 := hf 0 _ rfl
  have h1 := hf 1 _ rfl
  have h2 := hf 2 _ rfl
  have h3 := hf 3 _ rfl
  simp [cells_ni, cells_Result] at h0 h1 h2 h3
  obtain ⟨x0, e0, _⟩ := DataW.trod_int Try.underlying3 h0
  obtain ⟨x1, e1, _⟩ := DataW.trod_int Try.underlying3 h1
  obtain ⟨x2, e2, _⟩ := DataW.trod_int Try.underlying3 h2
  obtain ⟨r, e3, hr⟩ := res_cells h3
  simp only [List.cons.injEq, and_true] at e0 e1 e2 e3
  obtain ⟨e3, e4⟩ := e3
  subst e0 e1 e2 e3 e4
  exact ⟨⟨x0, x1, x2, r⟩, rfl, hr⟩
theorem open_noteRow {fuel : Nat} {c : Value} {x : DataW H × List MemPlace} (h : DataW.trod enc Try.prog W 0 sp held fuel 25 [c] = some x) : ∃ L : List Nt, Row ntE W W.heap.size c L ∧ ∀ a ∈ L, True :=
  open_row ntE _ Try.underlying25 cells_Note (fun _ _ _ h => note_cells h) h
theorem open_sesRow {fuel : Nat} {c : Value} {x : DataW H × List MemPlace} (h : DataW.trod enc Try.prog W 0 sp held fuel 26 [c] = some x) : ∃ L : List Se, Row seE W W.heap.size c L ∧ ∀ a ∈ L, a.r.d.size ≤ 9223372036854775807 :=
  open_row seE _ Try.underlying26 cells_Session (fun _ _ _ h => ses_cells h) h
theorem tenant_cells {fuel : Nat} {cs : List Value} {x : DataW H × List MemPlace} (h : DataW.trod enc Try.prog W 0 sp held fuel 28 cs = some x) :
    ∃ t : Ten, cs = t.arr.toList ∧ TenR W W.heap.size t ∧ TenW t := by
  obtain ⟨xs, n, _, rfl, hl, hlen, hf⟩ := DataW.trod_struct Try.underlying28 h
  rw [cells_Tenant] at hl
  obtain ⟨c0, c1, c2, c3, c4, rfl⟩ := list5 hl
  have hlen' : xs.length = 4 := by simpa using hlen
  obtain ⟨y0, y1, y2, y3, rfl⟩ := list4 hlen'
  have h0 := hf 0 _ rfl
  have h1 := hf 1 _ rfl
  have h2 := hf 2 _ rfl
  have h3 := hf 3 _ rfl
  simp [cells_ni, cells_Vol, cells_NoteS, cells_SessionS] at h0 h1 h2 h3
  obtain ⟨nx, u, L, e0, hL, hw⟩ := vol_cells h0
  obtain ⟨tk, e1, _⟩ := DataW.trod_int Try.underlying3 h1
  obtain ⟨A, hA, _⟩ := open_noteRow h2
  obtain ⟨S, hS, hd⟩ := open_sesRow h3
  simp only [List.cons.injEq, and_true] at e0 e1
  obtain ⟨e0, e00⟩ := e0
  subst e0 e00 e1
  obtain ⟨ua, uc, rfl, _⟩ := hL.row.slice
  obtain ⟨aa, ac, rfl, _⟩ := hA.slice
  obtain ⟨sa, sc, rfl, _⟩ := hS.slice
  exact ⟨⟨nx, L, ua, uc, tk, A, aa, ac, S, sa, sc⟩, rfl, ⟨hL, hA, hS⟩, ⟨hw, hd⟩⟩
set_option maxRecDepth 100000 in
theorem open_Tenant {r0 : Go.Reach} {b0 : Nat} {v : Value} {d : DataW H} {p : List MemPlace} (hval : Value.okWide Try.prog W r0 b0 28 v) (h : DataW.Trod enc Try.prog W 0 sp held 28 v d p) :
    ∃ t : Ten, v = t.v ∧ TenR W W.heap.size t ∧ TenW t := by
  obtain ⟨cs, rfl, hsz⟩ := okWide_struct Try.underlying28 hval
  obtain ⟨fuel, hf⟩ := h
  obtain ⟨t, hr, h1⟩ := tenant_cells hf
  refine ⟨t, ?_, h1⟩
  have e : cs.toList = t.arr.toList := by simpa [Value.cells] using hr
  rw [Ten.v, ← Array.toArray_toList (xs := cs), e]
end
end Go.Proofs.Ytjfiaoebmdelpaa
namespace Go.Proofs.Ytjfiaoebmdelpaa
open Go.ChangeShapes Go.WideShapes Go.ChangeAt Go.RowKit
open Go.ChangeMaps (open_string shut_string)
set_option linter.unusedVariables false

theorem fnExactShowTenant_own : ownKnob Try.prog.godebug = none := by kernel_rfl
theorem fnExactShowTenant_laidOut : laidOutB Try.prog = true := by kernel_rfl

set_option maxRecDepth 100000 in
theorem fnExactShowTenant_lifted (os : Os) (started : os.Started) (H : Type) (enc : TypeId × Value → H) :
    ReturnsInHanded {} Try.checked os 3 .any (Rows.fnExactShowTenantSpec.pre6 enc Try.prog Try.f3 Rows.fnExactShowTenantRow.domain false) (Rows.fnExactShowTenantSpec.post enc Try.prog Try.f3 false true false false) := by
  refine returnsInHanded_of_change (C := Try.checked) fnExactShowTenant_own started (by kernel_rfl) Try.func3
    (ChangeSpec.witness6 (enc := enc) (C := Try.checked) false ⟨#[], #[.agg #[.int .i64 0, .slice none 0 0, .int .i64 0, .slice none 0 0, .slice none 0 0]], []⟩ 8 (by kernel_rfl) (by kernel_rfl) (by kernel_rfl) (by kernel_rfl)) ?_
  intro W base args ds gs before hval0 hW hcnd _
  have hval : ∀ (j : Nat) t v, Try.f3.params[j]? = some t → args[j]? = some v → Value.okWide Try.prog W .any base t v := hval0
  have hW' := hW
  obtain ⟨p, q, hA0, hV, rfl, hfz, hnd⟩ := hW
  have hA : DataW.TrodAll enc Try.prog W 0 (fun _ => true) true Try.f3.params.toList args.toList ds p := hA0
  rw [Try.params3] at hA hval
  obtain ⟨v0, vs0, d0, ds0, p0, q0, hargs0, rfl, rfl, h0, r0⟩ := trodAll_cons hA
  obtain ⟨rfl, rfl, rfl⟩ := trodAll_nil r0
  obtain rfl : args = #[v0] := by cases args; simp_all
  obtain ⟨rfl, rfl⟩ := trodVars_none hV
  have k0 := h0
  have lt0 : ∀ x ∈ p0, x.block < W.heap.size := by obtain ⟨m, hm⟩ := k0; exact DataW.trod_lt m _ _ _ hm
  obtain ⟨t0, rfl, e0, z0⟩ := open_Tenant (hval 0 28 v0 rfl rfl) h0
  clear hA0 hval0
  refine (showTenant_law t0 W e0 z0).mono fun e W' ⟨he, bel⟩ => ?_
  subst he
  exact ⟨_, rfl, _, _, _, [], _, [], hW', trodAll_mk1 (shut_bool Try.underlying4 _), (trodAll_cons_mk (Below.trod fnExactShowTenant_laidOut (by kernel_rfl) (of_decide_eq_true (by kernel_rfl)) k0 bel lt0) trodAll_mk0), rfl, bel.frame _, fun h => by cases h⟩

theorem fnExactShowTenant_over : Rows.fnExactShowTenantRow.holds Try.pinned (OpenSpec.ofChange Rows.fnExactShowTenantSpec) :=
  OpenClaim.holds_of_wide 3 Try.f3 rfl rfl rfl rfl rfl rfl rfl ⟨rfl, rfl, rfl, rfl, rfl⟩ rfl rfl rfl rfl rfl (by kernel_rfl) Try.func3 (by kernel_rfl)
    (of_decide_eq_true (by kernel_rfl)) (by unfold Func.isWrapper; first | (rw [if_pos (by decide +kernel)]; kernel_rfl) | (rw [if_neg (by decide +kernel)]; exact ⟨rfl, rfl⟩))
    (fun os started H enc _ => fnExactShowTenant_lifted os started H enc)

theorem fnExactShowTenant_proved : Rows.FnExactShowTenantSaid := fnExactShowTenant_over
#print axioms fnExactShowTenant_proved
end Go.Proofs.Ytjfiaoebmdelpaa
