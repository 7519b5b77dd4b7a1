/- DrawMay. -/
import Derived.Test.YtbbckkdinlladaaPDrawB
import Derived.Test.YtbbckkdinlladaaPReg
import Derived.Test.YtbbckkdinlladaaGSet
import Derived.Deep.RegionWith
namespace Go.Proofs.Ytbbckkdinlladaa
open Go.RowKit
set_option linter.unusedVariables false
abbrev zN : Array Value := #[.int .i64 0, .int .i64 0, .int .i64 0, .int .i64 0, .int .i64 0, .string ⟨#[]⟩, .slice none 0 0, .int .i64 0, .int .i64 0]
abbrev zC : Array Value := #[.int .i64 0, .int .i64 0, .slice none 0 0]
/-- What DrawMay comes to. -/
def DrawMP (w : World) (e : Ending) (w' : World) : Prop := ∃ (c : Cr) (v : Value) (n : Nd) (x : Int), e = .returned (.tuple #[crV c v, ndV n (.slice none 0 0), .int .i64 x]) ∧ Row intE w' w'.heap.size v c.l ∧ n.names = [] ∧ -1 ≤ x ∧ x ≤ 8 ∧ Below w.heap.size w w'
set_option maxRecDepth 100000 in
set_option maxHeartbeats 2000000 in
theorem drawMay_any (zs : List Int) (len N cap : Nat) (a : Option Addr) (w : World) (hl : len ≤ 1048576) (hN : N ≤ w.heap.size) (hr : RowOk w N a len zs) :
    Calls Try.prog 9 #[.slice a len cap] w fun e w' => DrawMP w e w' := by
  obtain ⟨W, hW, bW, zW, c1, f1, c2, f2⟩ := boxed2 w zC zN 26 29
  have HR := Hid.intro (hr.below (bW.mono hN))
  clear hr
  go_enter Try.func9, Try.ntmps9
  go_wp2_with fail
  try simp only [hW]
  refine (new_any zs len W.heap.size cap a W hl (Nat.le_refl _) (fun j hj => by obtain ⟨b, off, e, hb, r⟩ := HR.out j hj; exact ⟨b, off, e, by omega, r⟩)).mono ?_
  rintro e w1 ⟨B, rfl, s1, g1⟩
  have C := Hid.intro (show Cur W.heap.size a len cap zs B w1 from ⟨hl, _, _, Nat.zero_le _, s1⟩)
  have hB : W.heap.size ≤ B := s1.base
  have zw1 := g1.size
  have R1 : Hid (Blk w1 w.heap.size zC) := (Blk.mk (by omega) c1 f1 : Blk W _ _).only (grown_only g1) (by simp)
  have R2 : Hid (Blk w1 (w.heap.size + 1) zN) := (Blk.mk (by omega) c2 f2 : Blk W _ _).only (grown_only g1) (by simp)
  have HB : Hid (Below w.heap.size w w1) := bW.trans ((grown_only g1).below (by omega) (by simp))
  clear hW bW c1 f1 c2 f2 s1 g1 HR
  go_wp2_with fail
  refine (l5Any_any w1 C.out).mono ?_
  rintro e w2 ⟨c, v, rfl, f2, n2, c2, g2⟩
  obtain ⟨av, cv, rfl, _, _⟩ := f2.row.slice
  have z2 := g2.size
  have zB := c2.lt
  replace R1 := Hid.intro (R1.out.only (grown_only g2) (by simp; omega))
  replace R2 := Hid.intro (R2.out.only (grown_only g2) (by simp; omega))
  replace HB := Hid.intro (HB.out.trans ((grown_only g2).below HB.out.size (by simp; omega)))
  have HF := Hid.intro f2
  have HNN := Hid.intro n2
  replace C := Hid.intro c2
  clear f2 n2 c2 g2
  go_upto_region 3 with fail
  obtain ⟨X, hX, bX, zX, dX, eX⟩ := boxed w2 #[.int .i64 c.u, .int .i64 c.g, .slice av c.l.length cv] 26
  try simp only [hX]
  have VX : Hid (Blk X w2.heap.size #[.int .i64 c.u, .int .i64 c.g, .slice av c.l.length cv]) := ⟨by omega, dX, eX⟩
  replace R1 := Hid.intro (R1.out.kept bX)
  replace R2 := Hid.intro (R2.out.kept bX)
  replace HB := Hid.intro (HB.out.trans (bX.mono HB.out.size))
  replace HF := Hid.intro (HF.out.kept bX)
  replace C := Hid.intro (C.out.kept (grown_below bX))
  clear hX bX dX eX
  go_wp2_with fail
  refine (l5Inode_any X C.out).mono ?_
  rintro e w3 ⟨n, hnn, rfl, c3, g3⟩
  have z3 := g3.size
  replace R1 := Hid.intro (R1.out.only (grown_only g3) (by simp; omega))
  replace R2 := Hid.intro (R2.out.only (grown_only g3) (by simp; omega))
  replace VX := Hid.intro (VX.out.only (grown_only g3) (by simp; omega))
  replace HB := Hid.intro (HB.out.trans ((grown_only g3).below HB.out.size (by simp; omega)))
  replace HF := Hid.intro (HF.out.step g3)
  replace C := Hid.intro c3
  clear c3 g3
  go_upto_region 4 with fail
  obtain ⟨Y, hY, bY, zY, dY, eY⟩ := boxed w3 (ndA n (.slice none 0 0)) 29
  try simp only [hY]
  have VY : Hid (Blk Y w3.heap.size (ndA n (.slice none 0 0))) := ⟨by omega, dY, eY⟩
  replace R1 := Hid.intro (R1.out.kept bY)
  replace R2 := Hid.intro (R2.out.kept bY)
  replace VX := Hid.intro (VX.out.kept bY)
  replace HB := Hid.intro (HB.out.trans (bY.mono HB.out.size))
  replace HF := Hid.intro (HF.out.kept bY)
  replace C := Hid.intro (C.out.kept (grown_below bY))
  clear hY bY dY eY
  have HS : Hid (∀ u', Only (fun k => k = B ∨ k = w.heap.size ∨ k = w.heap.size + 1) Y u' → (fun u => (∀ o, u.cell? ⟨w2.heap.size, o, none⟩ = (#[.int .i64 c.u, .int .i64 c.g, .slice av c.l.length cv] : Array Value)[o]?) ∧ (∀ o, u.cell? ⟨w3.heap.size, o, none⟩ = (ndA n (.slice none 0 0))[o]?)) u') := fun u' ho => ⟨(VX.out.only ho (by omega)).cell, (VY.out.only ho (by omega)).cell⟩
  refine wp_region_held_drew (S := fun u => (∀ o, u.cell? ⟨w2.heap.size, o, none⟩ = (#[.int .i64 c.u, .int .i64 c.g, .slice av c.l.length cv] : Array Value)[o]?) ∧ (∀ o, u.cell? ⟨w3.heap.size, o, none⟩ = (ndA n (.slice none 0 0))[o]?)) (by kernel_rfl) (HS.out _ (Only.refl _ _).drew) (fun hHeld => ?_)
  have OD : Only (fun k => k = B ∨ k = w.heap.size ∨ k = w.heap.size + 1) Y Y.drew := (Only.refl _ _).drew
  have BYD : Below Y.heap.size Y Y.drew := (Below.refl _ _).drew
  replace C := Hid.intro (C.out.kept (grown_below BYD))
  replace R1 := Hid.intro (R1.out.kept BYD)
  replace R2 := Hid.intro (R2.out.kept BYD)
  replace HF := Hid.intro (HF.out.kept BYD)
  replace HB := Hid.intro (HB.out.trans (BYD.mono HB.out.size))
  clear BYD
  have zD : Y.drew.heap.size = Y.heap.size := rfl
  generalize Y.drew = D at OD C R1 R2 HF HB zD hHeld ⊢
  refine take1 (i := 0) (d := some 14) (v := ?_) rfl rfl (by kernel_rfl) (by kernel_rfl) (by kernel_rfl) (fun _ _ _ h => h) (Or.inl ⟨by rfl, ?_⟩) (by assumption) ?_
  rotate_left 1
  · intro w hSw
    obtain ⟨q0, q1⟩ := hSw
    go_simp <;> with_reducible rfl
  simp only [Act.put, List.setIfInBounds_toArray]
  try simp only [List.set_cons_succ]
  try simp only [List.set_cons_zero]
  refine take1 (i := 1) (d := some 15) (v := ?_) rfl rfl (by kernel_rfl) (by kernel_rfl) (by kernel_rfl) (fun _ _ _ h => h) (Or.inl ⟨by rfl, ?_⟩) (by assumption) ?_
  rotate_left 1
  · intro w hSw
    obtain ⟨q0, q1⟩ := hSw
    go_simp <;> with_reducible rfl
  simp only [Act.put, List.setIfInBounds_toArray]
  try simp only [List.set_cons_succ]
  try simp only [List.set_cons_zero]
  refine take1 (i := 2) (d := some 16) (v := ?_) rfl rfl (by kernel_rfl) (by kernel_rfl) (by kernel_rfl) (fun _ _ _ h => h) (Or.inl ⟨by rfl, ?_⟩) (by assumption) ?_
  rotate_left 1
  · intro w hSw
    obtain ⟨q0, q1⟩ := hSw
    go_simp <;> with_reducible rfl
  simp only [Act.put, List.setIfInBounds_toArray]
  try simp only [List.set_cons_succ]
  try simp only [List.set_cons_zero]
  refine wpAnyH_ready (rs := [3]) (by kernel_rfl) (by simp) ?_
  refine AllReadyH.cons rfl (fun KK hKK => ?_) AllReadyH.nil
  go_simp
  refine (belowC_any 10 D C.out (by omega) (by omega)).mono ?_
  rintro e w4 ⟨x, rfl, x0, x1, c4, g4⟩
  have O4 := Only.then OD (grown_only g4) (by intro k hk h; left; simpa using h)
  have z4 := g4.size
  replace R1 := Hid.intro (R1.out.only (grown_only g4) (by simp; omega))
  replace R2 := Hid.intro (R2.out.only (grown_only g4) (by simp; omega))
  replace HF := Hid.intro (HF.out.step g4)
  replace HB := Hid.intro (HB.out.trans ((grown_only g4).below HB.out.size (by simp; omega)))
  have hwx : IntKind.i64.wrap (x - 1) = x - 1 := by rw [IntKind.wrap_i64]; omega
  clear c4 g4 C
  go_simp
  refine hKK.out _ _ (HS.out _ O4) (fun hHeld2 => ?_)
  clear hKK KK hHeld
  have hHeld := hHeld2
  clear hHeld2
  refine take1 (i := 4) (d := some 18) (v := ?_) rfl rfl (by kernel_rfl) (by kernel_rfl) (by kernel_rfl) (fun _ _ _ h => h) (Or.inl ⟨by rfl, ?_⟩) (by assumption) ?_
  rotate_left 1
  · intro w hSw
    obtain ⟨q0, q1⟩ := hSw
    go_simp <;> with_reducible rfl
  simp only [Act.put, List.setIfInBounds_toArray]
  try simp only [List.set_cons_succ]
  try simp only [List.set_cons_zero]
  try simp only [hwx]
  have k1 := R1.out.cell
  have l1 := R1.out.fro
  refine wpAnyH_ready (rs := [5]) (by kernel_rfl) (by simp) ?_
  refine AllReadyH.cons rfl (fun KK hKK => ?_) AllReadyH.nil
  go_simp
  obtain ⟨Z, hZ⟩ : ∃ Z, ((w4.setCell ⟨w.heap.size, 0, none⟩ (.int .i64 c.u)).setCell ⟨w.heap.size, 1, none⟩ (.int .i64 c.g)).setCell ⟨w.heap.size, 2, none⟩ (.slice av c.l.length cv) = Z := ⟨_, rfl⟩
  have oZ : Only (fun k => k = w.heap.size) w4 Z := by rw [← hZ]; exact ((only_set _ _ _ _).trans (only_set _ _ _ _)).trans (only_set _ _ _ _)
  have kZ : Blk Z w.heap.size #[.int .i64 c.u, .int .i64 c.g, .slice av c.l.length cv] := by rw [← hZ]; exact ((R1.out.set 0 _ (by simp)).set 1 _ (by simp)).set 2 _ (by simp)
  simp only [hZ]
  refine hKK.out _ _ (HS.out _ (Only.then O4 oZ (by intro k hk h; right; left; exact h))) (fun hHeld2 => ?_)
  clear hKK KK hHeld k1 l1 hZ
  have hHeld := hHeld2
  clear hHeld2
  replace R1 := Hid.intro kZ
  replace R2 := Hid.intro (R2.out.only oZ (by omega))
  replace O4 := Only.then O4 oZ (by intro k hk h; right; left; exact h)
  have hne : ∀ k, (Value.slice av c.l.length cv).ownBlock = some k → k ≠ w.heap.size ∧ k ≠ w.heap.size + 1 := fun k hk => by have := HNN.out k hk; have := HB.out.size; omega
  have HNE := Hid.intro hne
  replace HF := Hid.intro (HF.out.row.only (Nat.le_refl _) oZ (fun k hk => (HNE.out k hk).1) oZ.size)
  replace HB := Hid.intro (HB.out.trans (oZ.below HB.out.size (fun k hk h => by omega)))
  clear oZ kZ hne HNN
  have k2 := R2.out.cell
  have l2 := R2.out.fro
  refine wpAnyH_ready (rs := [6]) (by kernel_rfl) (by simp) ?_
  refine AllReadyH.cons rfl (fun KK hKK => ?_) AllReadyH.nil
  go_simp
  obtain ⟨V, hV⟩ : ∃ V, (((((((((Z.setCell ⟨w.heap.size + 1, 0, none⟩ (.int .i64 n.id)).setCell ⟨w.heap.size + 1, 1, none⟩ (.int .i64 n.kind)).setCell ⟨w.heap.size + 1, 2, none⟩ (.int .i64 n.mode)).setCell ⟨w.heap.size + 1, 3, none⟩ (.int .i64 n.uid)).setCell ⟨w.heap.size + 1, 4, none⟩ (.int .i64 n.gid)).setCell ⟨w.heap.size + 1, 5, none⟩ (.string n.data)).setCell ⟨w.heap.size + 1, 6, none⟩ (.slice none 0 0)).setCell ⟨w.heap.size + 1, 7, none⟩ (.int .i64 n.maxb)).setCell ⟨w.heap.size + 1, 8, none⟩ (.int .i64 n.maxi)) = V := ⟨_, rfl⟩
  have eV : setC Z (w.heap.size + 1) 0 [.int .i64 n.id, .int .i64 n.kind, .int .i64 n.mode, .int .i64 n.uid, .int .i64 n.gid, .string n.data, .slice none 0 0, .int .i64 n.maxb, .int .i64 n.maxi] = V := by rw [← hV]; rfl
  have oV : Only (fun k => k = w.heap.size + 1) Z V := by rw [← eV]; exact only_setC _ _ _ _
  have kV : Blk V (w.heap.size + 1) (ndA n (.slice none 0 0)) := by rw [← eV]; exact R2.out.all _ rfl
  clear eV
  simp only [hV]
  refine hKK.out _ _ (HS.out _ (Only.then O4 oV (by intro k hk h; right; right; exact h))) (fun hHeld2 => ?_)
  clear hKK KK hHeld k2 l2 hV
  have hHeld := hHeld2
  clear hHeld2
  replace R1 := Hid.intro (R1.out.only oV (by omega))
  replace HF := Hid.intro (HF.out.only (Nat.le_refl _) oV (fun k hk => (HNE.out k hk).2) oV.size)
  replace HB := Hid.intro (HB.out.trans (oV.below HB.out.size (fun k hk h => by omega)))
  refine take1 (i := 7) (d := some 4) (v := ?_) rfl rfl (by kernel_rfl) (by kernel_rfl) (by kernel_rfl) (fun _ _ _ h => h) (Or.inl ⟨by rfl, ?_⟩) (by assumption) ?_
  rotate_left 1
  · intro w hSw
    go_simp <;> with_reducible rfl
  simp only [Act.put, List.setIfInBounds_toArray]
  try simp only [List.set_cons_succ]
  try simp only [List.set_cons_zero]
  refine wpAnyH_done (by kernel_rfl) ?_ _
  have k1 := R1.out.cell
  have k2 := kV.cell
  clear hHeld HS O4 oV
  go_wp2
  exact bodyPost_ret (v := .tuple #[crV c (.slice av c.l.length cv), ndV n (.slice none 0 0), .int .i64 (x - 1)]) (by simp [results, Try.results9, go_sem, k1, k2]) rfl ⟨c, _, n, x - 1, rfl, HF.out, hnn, by omega, by omega, HB.out⟩
end Go.Proofs.Ytbbckkdinlladaa
