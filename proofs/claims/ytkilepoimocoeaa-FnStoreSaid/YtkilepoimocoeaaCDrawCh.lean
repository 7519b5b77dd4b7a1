/- DrawChanges. -/
import Derived.Test.YtkilepoimocoeaaCAny
import Derived.Test.YtkilepoimocoeaaCNext
import Derived.Deep.RegionWith
namespace Go.Proofs.Ytkilepoimocoeaa
open Go.RowKit
set_option linter.unusedVariables false
abbrev zK : Array Value := #[.int .i64 0, .int .i64 0, .int .i64 0, .int .i64 0, .string ⟨#[]⟩, .slice none 0 0]
/-- Six cells of six are written. -/
theorem Blk.all6 {w : World} {g : Nat} {y0 y1 y2 y3 y4 y5 : Value} (h : Blk w g #[y0, y1, y2, y3, y4, y5]) (x0 x1 x2 x3 x4 x5 : Value) :
    ∃ X, (((((w.setCell ⟨g, 0, none⟩ x0).setCell ⟨g, 1, none⟩ x1).setCell ⟨g, 2, none⟩ x2).setCell ⟨g, 3, none⟩ x3).setCell ⟨g, 4, none⟩ x4).setCell ⟨g, 5, none⟩ x5 = X ∧ Blk X g #[x0, x1, x2, x3, x4, x5] ∧ Only (fun k => k = g) w X := by
  refine ⟨_, rfl, ?_, ?_⟩
  · have := (((((h.set 0 (by simp) x0).set 1 (by simp) x1).set 2 (by simp) x2).set 3 (by simp) x3).set 4 (by simp) x4).set 5 (by simp) x5
    simpa using this
  · repeat (refine Only.setCell ?_ (by simp) _)
    exact Only.refl _ _
/-- What DrawChanges comes to. -/
def DrawCP (w : World) (e : Ending) (w' : World) : Prop := ∃ (KA : Kp) (va : Value) (KB : Kp) (vb : Value), e = .returned (.tuple #[kpV KA va, kpV KB vb]) ∧ RowE w' w'.heap.size va KA.e ∧ RowE w' w'.heap.size vb KB.e ∧ Below w.heap.size w w'
set_option maxRecDepth 100000 in
set_option maxHeartbeats 4000000 in
theorem drawChanges_any (zs : List Int) (len N cap : Nat) (a : Option Addr) (w : World) (hl : len ≤ 1048576) (hN : N ≤ w.heap.size) (hr : RowOk w N a len zs) :
    Calls Try.prog 20 #[.slice a len cap] w fun e w' => DrawCP w e w' := by
  obtain ⟨W, hW, bW, zW, c1, f1, c2, f2⟩ := boxed2 w zK zK 28 28
  have HR := Hid.intro (hr.below (bW.mono hN))
  clear hr
  go_enter Try.func20, Try.ntmps20
  go_wp2_with fail
  try simp only [hW]
  refine (new_any zs len W.heap.size cap a W hl (Nat.le_refl _) (fun j hj => by obtain ⟨b, off, e, hb, r⟩ := HR.out j hj; exact ⟨b, off, e, by omega, r⟩)).mono ?_
  rintro e w1 ⟨B, rfl, s1, g1⟩
  have C := Hid.intro (show Cur W.heap.size a len cap zs B w1 from ⟨hl, _, _, Nat.zero_le _, s1⟩)
  have hB : W.heap.size ≤ B := s1.base
  have zw1 := g1.size
  have hB1 : B < w1.heap.size := C.out.lt
  have R1 : Hid (Blk w1 w.heap.size zK) := (Blk.mk (by omega) c1 f1 : Blk W _ _).only (grown_only g1) (by simp)
  have R2 : Hid (Blk w1 (w.heap.size + 1) zK) := (Blk.mk (by omega) c2 f2 : Blk W _ _).only (grown_only g1) (by simp)
  have HB : Hid (Below w.heap.size w w1) := bW.trans ((grown_only g1).below (by omega) (by simp))
  clear hW bW c1 f1 c2 f2 s1 g1 HR
  go_wp2_with fail
  refine (l3AnyKept_any w1 C.out).mono ?_
  rintro e w2 ⟨KA, va, rfl, oa, bda, c2, g2⟩
  obtain ⟨av, ca, rfl⟩ := oa.slice
  have z2 := g2.size
  replace R1 := Hid.intro (R1.out.only (grown_only g2) (by simp; omega))
  replace R2 := Hid.intro (R2.out.only (grown_only g2) (by simp; omega))
  replace HB := Hid.intro (HB.out.trans ((grown_only g2).below HB.out.size (by simp; omega)))
  have OA := Hid.intro oa
  have HBA := Hid.intro bda
  replace C := Hid.intro c2
  clear oa bda c2 g2
  go_upto_region 3 with fail
  obtain ⟨X, hX, bX, zX, dX, eX⟩ := boxed w2 #[.int .i64 KA.t, .int .i64 KA.v, .int .i64 KA.si, .int .i64 KA.st, .string KA.sd, .slice av KA.e.length ca] 28
  try simp only [hX]
  have VX : Hid (Blk X w2.heap.size #[.int .i64 KA.t, .int .i64 KA.v, .int .i64 KA.si, .int .i64 KA.st, .string KA.sd, .slice av KA.e.length ca]) := ⟨by omega, dX, eX⟩
  replace R1 := Hid.intro (R1.out.kept bX)
  replace R2 := Hid.intro (R2.out.kept bX)
  replace HB := Hid.intro (HB.out.trans (bX.mono HB.out.size))
  replace OA := Hid.intro (OA.out.kept bX)
  replace C := Hid.intro (C.out.kept (grown_below bX))
  clear hX bX dX eX
  go_wp2_with fail
  refine (onceC_any 6 X C.out (by omega) (by omega)).mono ?_
  rintro e w3 ⟨q, rfl, c3, g3⟩
  have z3 := g3.size
  replace R1 := Hid.intro (R1.out.only (grown_only g3) (by simp; omega))
  replace R2 := Hid.intro (R2.out.only (grown_only g3) (by simp; omega))
  replace VX := Hid.intro (VX.out.only (grown_only g3) (by simp; omega))
  replace HB := Hid.intro (HB.out.trans ((grown_only g3).below HB.out.size (by simp; omega)))
  replace OA := Hid.intro (OA.out.step g3 (by omega))
  replace C := Hid.intro c3
  clear c3 g3
  cases q with
  | true =>
    go_upto_region 4 with fail
    have HS : Hid (∀ u', Only (fun k => k = B ∨ k = w.heap.size ∨ k = w.heap.size + 1) w3 u' → (fun u => (∀ o, u.cell? ⟨w2.heap.size, o, none⟩ = (#[.int .i64 KA.t, .int .i64 KA.v, .int .i64 KA.si, .int .i64 KA.st, .string KA.sd, .slice av KA.e.length ca] : Array Value)[o]?)) u') := fun u' ho => (VX.out.only ho (by omega)).cell
    refine wp_region_held_drew (S := fun u => (∀ o, u.cell? ⟨w2.heap.size, o, none⟩ = (#[.int .i64 KA.t, .int .i64 KA.v, .int .i64 KA.si, .int .i64 KA.st, .string KA.sd, .slice av KA.e.length ca] : Array Value)[o]?)) (by kernel_rfl) (HS.out _ (Only.refl _ _).drew) (fun hHeld => ?_)
    have OD : Only (fun k => k = B ∨ k = w.heap.size ∨ k = w.heap.size + 1) w3 w3.drew := (Only.refl _ _).drew
    have BYD : Below w3.heap.size w3 w3.drew := (Below.refl _ _).drew
    replace C := Hid.intro (C.out.kept (grown_below BYD))
    replace R1 := Hid.intro (R1.out.kept BYD)
    replace R2 := Hid.intro (R2.out.kept BYD)
    replace OA := Hid.intro (OA.out.kept BYD)
    replace HB := Hid.intro (HB.out.trans (BYD.mono HB.out.size))
    clear BYD
    have zD : w3.drew.heap.size = w3.heap.size := rfl
    generalize w3.drew = D at OD C R1 R2 OA HB zD hHeld ⊢
    refine take1 (i := 0) (d := some 12) (v := ?_) rfl rfl (by kernel_rfl) (by kernel_rfl) (by kernel_rfl) (fun _ _ _ h => h) (Or.inl ⟨by rfl, ?_⟩) (by assumption) ?_
    rotate_left 1
    · intro w hSw
      have q0 := hSw
      go_simp <;> with_reducible rfl
    simp only [Act.put, List.setIfInBounds_toArray]
    try simp only [List.set_cons_succ]
    try simp only [List.set_cons_zero]
    refine take1 (i := 1) (d := some 13) (v := ?_) rfl rfl (by kernel_rfl) (by kernel_rfl) (by kernel_rfl) (fun _ _ _ h => h) (Or.inl ⟨by rfl, ?_⟩) (by assumption) ?_
    rotate_left 1
    · intro w hSw
      have q0 := hSw
      go_simp <;> with_reducible rfl
    simp only [Act.put, List.setIfInBounds_toArray]
    try simp only [List.set_cons_succ]
    try simp only [List.set_cons_zero]
    refine wpAnyH_ready (rs := [2]) (by kernel_rfl) (by simp) ?_
    refine AllReadyH.cons rfl (fun KK hKK => ?_) AllReadyH.nil
    go_simp
    refine (l3AnyKept_any D C.out).mono ?_
    rintro e w4 ⟨KB, vb, rfl, ob, bdb, c4, g4⟩
    obtain ⟨ab, cb, rfl⟩ := ob.slice
    have O4 := Only.then OD (grown_only g4) (by intro k hk h; left; simpa using h)
    have z4 := g4.size
    replace R1 := Hid.intro (R1.out.only (grown_only g4) (by simp; omega))
    replace R2 := Hid.intro (R2.out.only (grown_only g4) (by simp; omega))
    replace OA := Hid.intro (OA.out.step g4 (by omega))
    have OB := Hid.intro ob
    replace HB := Hid.intro (HB.out.trans ((grown_only g4).below HB.out.size (by simp; omega)))
    clear c4 g4 C ob bdb
    go_simp
    refine hKK.out _ _ (HS.out _ O4) (fun hHeld2 => ?_)
    clear hKK KK hHeld
    have hHeld := hHeld2
    clear hHeld2
    have k1 := R1.out.cell
    have l1 := R1.out.fro
    refine wpAnyH_ready (rs := [3]) (by kernel_rfl) (by simp) ?_
    refine AllReadyH.cons rfl (fun KK hKK => ?_) AllReadyH.nil
    go_simp
    obtain ⟨Z, hZ, kZ, oZ⟩ := R1.out.all6 (.int .i64 KA.t) (.int .i64 KA.v) (.int .i64 KA.si) (.int .i64 KA.st) (.string KA.sd) (.slice av KA.e.length ca)
    simp only [hZ]
    refine hKK.out _ _ (HS.out _ (Only.then O4 oZ (by intro k hk h; right; left; exact h))) (fun hHeld2 => ?_)
    clear hKK KK hHeld k1 l1 hZ
    have hHeld := hHeld2
    clear hHeld2
    replace R1 := Hid.intro kZ
    replace R2 := Hid.intro (R2.out.only oZ (by omega))
    replace O4 := Only.then O4 oZ (by intro k hk h; right; left; exact h)
    have na := OA.out.lt
    have nb := OB.out.lt
    have NA : Hid (∀ k, (Value.slice av KA.e.length ca).ownBlock = some k → k ≠ w.heap.size ∧ k ≠ w.heap.size + 1) := fun k hk => by have := (na k hk).1; omega
    have NB : Hid (∀ k, (Value.slice ab KB.e.length cb).ownBlock = some k → k ≠ w.heap.size ∧ k ≠ w.heap.size + 1) := fun k hk => by have := (nb k hk).1; omega
    clear na nb
    replace OA := Hid.intro (OA.out.only oZ (fun k hk e => (NA.out k hk).1 e))
    replace OB := Hid.intro (OB.out.only oZ (fun k hk e => (NB.out k hk).1 e))
    replace HB := Hid.intro (HB.out.trans (oZ.below HB.out.size (fun k hk h => by omega)))
    clear oZ kZ
    have k2 := R2.out.cell
    have l2 := R2.out.fro
    refine wpAnyH_ready (rs := [4]) (by kernel_rfl) (by simp) ?_
    refine AllReadyH.cons rfl (fun KK hKK => ?_) AllReadyH.nil
    go_simp
    obtain ⟨V, hV, kV, oV⟩ := R2.out.all6 (.int .i64 KB.t) (.int .i64 KB.v) (.int .i64 KB.si) (.int .i64 KB.st) (.string KB.sd) (.slice ab KB.e.length cb)
    simp only [hV]
    refine hKK.out _ _ (HS.out _ (Only.then O4 oV (by intro k hk h; right; right; exact h))) (fun hHeld2 => ?_)
    clear hKK KK hHeld k2 l2 hV hHeld2
    replace R1 := Hid.intro (R1.out.only oV (by omega))
    replace OA := Hid.intro (OA.out.only oV (fun k hk e => (NA.out k hk).2 e))
    replace OB := Hid.intro (OB.out.only oV (fun k hk e => (NB.out k hk).2 e))
    replace HB := Hid.intro (HB.out.trans (oV.below HB.out.size (fun k hk h => by omega)))
    refine wpAnyH_done (by kernel_rfl) ?_ _
    have k1 := R1.out.cell
    have k2 := kV.cell
    clear HS O4 oV
    go_wp2
    exact bodyPost_ret (v := .tuple #[kpV KA (.slice av KA.e.length ca), kpV KB (.slice ab KB.e.length cb)]) (by simp [results, Try.results20, go_sem, k1, k2]) rfl ⟨KA, _, KB, _, rfl, OA.out.rowAll, OB.out.rowAll, HB.out⟩
  | false =>
    go_upto_region 5 with fail
    have HS : Hid (∀ u', Only (fun k => k = B ∨ k = w.heap.size ∨ k = w.heap.size + 1) w3 u' → (fun u => (∀ o, u.cell? ⟨w2.heap.size, o, none⟩ = (#[.int .i64 KA.t, .int .i64 KA.v, .int .i64 KA.si, .int .i64 KA.st, .string KA.sd, .slice av KA.e.length ca] : Array Value)[o]?)) u') := fun u' ho => (VX.out.only ho (by omega)).cell
    refine wp_region_held_drew (S := fun u => (∀ o, u.cell? ⟨w2.heap.size, o, none⟩ = (#[.int .i64 KA.t, .int .i64 KA.v, .int .i64 KA.si, .int .i64 KA.st, .string KA.sd, .slice av KA.e.length ca] : Array Value)[o]?)) (by kernel_rfl) (HS.out _ (Only.refl _ _).drew) (fun hHeld => ?_)
    have OD : Only (fun k => k = B ∨ k = w.heap.size ∨ k = w.heap.size + 1) w3 w3.drew := (Only.refl _ _).drew
    have BYD : Below w3.heap.size w3 w3.drew := (Below.refl _ _).drew
    replace C := Hid.intro (C.out.kept (grown_below BYD))
    replace R1 := Hid.intro (R1.out.kept BYD)
    replace R2 := Hid.intro (R2.out.kept BYD)
    replace OA := Hid.intro (OA.out.kept BYD)
    replace HB := Hid.intro (HB.out.trans (BYD.mono HB.out.size))
    clear BYD
    have zD : w3.drew.heap.size = w3.heap.size := rfl
    generalize w3.drew = D at OD C R1 R2 OA HB zD hHeld ⊢
    refine take1 (i := 0) (d := some 15) (v := ?_) rfl rfl (by kernel_rfl) (by kernel_rfl) (by kernel_rfl) (fun _ _ _ h => h) (Or.inl ⟨by rfl, ?_⟩) (by assumption) ?_
    rotate_left 1
    · intro w hSw
      have q0 := hSw
      go_simp <;> with_reducible rfl
    simp only [Act.put, List.setIfInBounds_toArray]
    try simp only [List.set_cons_succ]
    try simp only [List.set_cons_zero]
    refine take1 (i := 1) (d := some 16) (v := ?_) rfl rfl (by kernel_rfl) (by kernel_rfl) (by kernel_rfl) (fun _ _ _ h => h) (Or.inl ⟨by rfl, ?_⟩) (by assumption) ?_
    rotate_left 1
    · intro w hSw
      have q0 := hSw
      go_simp <;> with_reducible rfl
    simp only [Act.put, List.setIfInBounds_toArray]
    try simp only [List.set_cons_succ]
    try simp only [List.set_cons_zero]
    refine take1 (i := 2) (d := some 17) (v := ?_) rfl rfl (by kernel_rfl) (by kernel_rfl) (by kernel_rfl) (fun _ _ _ h => h) (Or.inl ⟨by rfl, ?_⟩) (by assumption) ?_
    rotate_left 1
    · intro w hSw
      have q0 := hSw
      go_simp <;> with_reducible rfl
    simp only [Act.put, List.setIfInBounds_toArray]
    try simp only [List.set_cons_succ]
    try simp only [List.set_cons_zero]
    refine wpAnyH_ready (rs := [3]) (by kernel_rfl) (by simp) ?_
    refine AllReadyH.cons rfl (fun KK hKK => ?_) AllReadyH.nil
    go_simp
    refine (l3Next_any KA (.slice av KA.e.length ca) D C.out OA.out.rowAll HBA.out).mono ?_
    rintro e w4 ⟨KB, vb, rfl, ob, bdb, c4, g4⟩
    obtain ⟨ab, cb, rfl⟩ := ob.slice
    have O4 := Only.then OD (grown_only g4) (by intro k hk h; left; simpa using h)
    have z4 := g4.size
    replace R1 := Hid.intro (R1.out.only (grown_only g4) (by simp; omega))
    replace R2 := Hid.intro (R2.out.only (grown_only g4) (by simp; omega))
    replace OA := Hid.intro (OA.out.step g4 (by omega))
    have OB := Hid.intro ob
    replace HB := Hid.intro (HB.out.trans ((grown_only g4).below HB.out.size (by simp; omega)))
    clear c4 g4 C ob bdb
    go_simp
    refine hKK.out _ _ (HS.out _ O4) (fun hHeld2 => ?_)
    clear hKK KK hHeld
    have hHeld := hHeld2
    clear hHeld2
    have k1 := R1.out.cell
    have l1 := R1.out.fro
    refine wpAnyH_ready (rs := [4]) (by kernel_rfl) (by simp) ?_
    refine AllReadyH.cons rfl (fun KK hKK => ?_) AllReadyH.nil
    go_simp
    obtain ⟨Z, hZ, kZ, oZ⟩ := R1.out.all6 (.int .i64 KA.t) (.int .i64 KA.v) (.int .i64 KA.si) (.int .i64 KA.st) (.string KA.sd) (.slice av KA.e.length ca)
    simp only [hZ]
    refine hKK.out _ _ (HS.out _ (Only.then O4 oZ (by intro k hk h; right; left; exact h))) (fun hHeld2 => ?_)
    clear hKK KK hHeld k1 l1 hZ
    have hHeld := hHeld2
    clear hHeld2
    replace R1 := Hid.intro kZ
    replace R2 := Hid.intro (R2.out.only oZ (by omega))
    replace O4 := Only.then O4 oZ (by intro k hk h; right; left; exact h)
    have na := OA.out.lt
    have nb := OB.out.lt
    have NA : Hid (∀ k, (Value.slice av KA.e.length ca).ownBlock = some k → k ≠ w.heap.size ∧ k ≠ w.heap.size + 1) := fun k hk => by have := (na k hk).1; omega
    have NB : Hid (∀ k, (Value.slice ab KB.e.length cb).ownBlock = some k → k ≠ w.heap.size ∧ k ≠ w.heap.size + 1) := fun k hk => by have := (nb k hk).1; omega
    clear na nb
    replace OA := Hid.intro (OA.out.only oZ (fun k hk e => (NA.out k hk).1 e))
    replace OB := Hid.intro (OB.out.only oZ (fun k hk e => (NB.out k hk).1 e))
    replace HB := Hid.intro (HB.out.trans (oZ.below HB.out.size (fun k hk h => by omega)))
    clear oZ kZ
    have k2 := R2.out.cell
    have l2 := R2.out.fro
    refine wpAnyH_ready (rs := [5]) (by kernel_rfl) (by simp) ?_
    refine AllReadyH.cons rfl (fun KK hKK => ?_) AllReadyH.nil
    go_simp
    obtain ⟨V, hV, kV, oV⟩ := R2.out.all6 (.int .i64 KB.t) (.int .i64 KB.v) (.int .i64 KB.si) (.int .i64 KB.st) (.string KB.sd) (.slice ab KB.e.length cb)
    simp only [hV]
    refine hKK.out _ _ (HS.out _ (Only.then O4 oV (by intro k hk h; right; right; exact h))) (fun hHeld2 => ?_)
    clear hKK KK hHeld k2 l2 hV hHeld2
    replace R1 := Hid.intro (R1.out.only oV (by omega))
    replace OA := Hid.intro (OA.out.only oV (fun k hk e => (NA.out k hk).2 e))
    replace OB := Hid.intro (OB.out.only oV (fun k hk e => (NB.out k hk).2 e))
    replace HB := Hid.intro (HB.out.trans (oV.below HB.out.size (fun k hk h => by omega)))
    refine wpAnyH_done (by kernel_rfl) ?_ _
    have k1 := R1.out.cell
    have k2 := kV.cell
    clear HS O4 oV
    go_wp2
    exact bodyPost_ret (v := .tuple #[kpV KA (.slice av KA.e.length ca), kpV KB (.slice ab KB.e.length cb)]) (by simp [results, Try.results20, go_sem, k1, k2]) rfl ⟨KA, _, KB, _, rfl, OA.out.rowAll, OB.out.rowAll, HB.out⟩
end Go.Proofs.Ytkilepoimocoeaa
