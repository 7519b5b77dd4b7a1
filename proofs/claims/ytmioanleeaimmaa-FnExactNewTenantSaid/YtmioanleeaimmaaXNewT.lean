/- NewVol and NewTenant on both sides. -/
import Derived.Test.YtmioanleeaimmaaXMarkT
import Derived.Deep.Cut
namespace Go.Proofs.Ytmioanleeaimmaa
open Go.RowKit
set_option linter.unusedVariables false
/-- The first directory, with a mode. -/
def np0 (m : Int) : Np := ⟨⟨1, 2, m, 0, 0, ⟨#[]⟩, [], 0, 0⟩, none, 0⟩
abbrev rootA (m : Int) : Array Value := #[.int .i64 1, .int .i64 2, .int .i64 m, .int .i64 0, .int .i64 0, .string ⟨#[]⟩, .slice none 0 0, .int .i64 0, .int .i64 0]
abbrev sl1 (g : Nat) : Value := .slice (some ⟨g, 0, none⟩) 1 1
theorem litR (w : World) : Own ndE 72 (w.alloc (.cells (rootA 493) 72)) w.heap.size (sl1 w.heap.size) [np0 493] :=
  World.ownsRow_lit (base := w.heap.size) (e := 72) (size := 9) w (rootA 493) 1 (Nat.le_refl _) (by decide) rfl
theorem litRb (w : World) (X : Obj) : Own ndE 72 ((w.alloc X).alloc (.cells (rootA 493) 72)) w.heap.size (sl1 (w.heap.size + 1)) [np0 493] := by
  have h := litR (w.alloc X)
  have e : (w.alloc X).heap.size = w.heap.size + 1 := by simp
  rw [e] at h
  exact h.lower (by omega)
def NewVP (w : World) (e : Ending) (w' : World) : Prop := ∃ g, e = .returned (volV 2 (sl1 g)) ∧ w.heap.size ≤ g ∧ g < w'.heap.size ∧ Own ndE 72 w' w.heap.size (sl1 g) [np0 493] ∧ Below w.heap.size w w'
set_option maxHeartbeats 1000000 in
theorem implNewVol_any (w : World) : Calls Try.prog 38 #[] w fun e w' => NewVP w e w' := by
  go_enter Try.func38, Try.ntmps38
  go_wp2
  refine bodyPost_ret (v := volV 2 (sl1 (w.heap.size + 1))) ?_ rfl ⟨_, rfl, by omega, by simp, litRb w _, ((Below.refl _ _).alloc (Nat.le_refl _) _).alloc (by simp) _⟩
  simp [results, Try.results38, go_sem]
set_option maxHeartbeats 1000000 in
theorem specNewVol_any (w : World) : Calls Try.prog 37 #[] w fun e w' => NewVP w e w' := by
  go_enter Try.func37, Try.ntmps37
  go_wp2
  refine bodyPost_ret (v := volV 2 (sl1 (w.heap.size + 1))) ?_ rfl ⟨_, rfl, by omega, by simp, litRb w _, ((Below.refl _ _).alloc (Nat.le_refl _) _).alloc (by simp) _⟩
  simp [results, Try.results37, go_sem]
/-- A new tenant, its row at block g. -/
def newT (g : Nat) : Ten := ⟨2, [np0 1023], some ⟨g, 0, none⟩, 1, 30, [], none, 0, [], none, 0⟩
def NewTP (w : World) (e : Ending) (w' : World) : Prop := ∃ g, e = .returned (newT g).v ∧ w.heap.size ≤ g ∧ g < w'.heap.size ∧ Own ndE 72 w' w.heap.size (sl1 g) [np0 1023] ∧ Below w.heap.size w w'
theorem newT_key (g g' : Nat) : (newT g).key = (newT g').key := rfl
theorem newT_good (g : Nat) : Gd (newT g) := ⟨fun i j hij hj k k' _ h2 => by
    have h3 : j = 0 := by simp [newT] at hj; exact hj
    omega, by simp [newT], by intro p hp; simp [newT] at hp; subst hp; simp [np0], by simp [newT], by simp [newT]⟩
theorem newT_mem {w : World} {base g : Nat} (h : Own ndE 72 w base (sl1 g) [np0 1023]) (hb : base ≤ w.heap.size) : TenM w base w.heap.size base w.heap.size (newT g) :=
  ⟨Nat.le_refl _, hb, Nat.le_refl _, ⟨h, fun p hp => by simp [newT] at hp; subst hp; exact Own.nil _ _⟩, fun k hk => (h.lt k hk).2, fun p hp k hk => by simp [newT] at hp; subst hp; simp [np0, Value.ownBlock] at hk, Own.nil _ _, Own.nil _ _, fun k hk => by simp [newT, Value.ownBlock] at hk, fun k hk => by simp [newT, Value.ownBlock] at hk⟩
set_option maxHeartbeats 1000000 in
theorem implNewTenant_any (w : World) : Calls Try.prog 12 #[] w fun e w' => NewTP w e w' := by
  go_enter Try.func12, Try.ntmps12
  go_wp2_with fail
  obtain ⟨W, hW, bW, zW, c1, f1⟩ := boxed w #[.int .i64 0, .slice none 0 0, .int .i64 0, .slice none 0 0, .slice none 0 0] 37
  try simp only [hW]
  refine (implNewVol_any W).mono ?_
  rintro e w1 ⟨g, rfl, hg1, hg2, o1, b1⟩
  have z1 := b1.size
  replace c1 := keepC b1 (by omega) c1
  replace f1 := keepF b1 (by omega) f1
  have hq2 : w1.cell? ⟨g, 2, none⟩ = some (.int .i64 493) := o1.at 0 (by decide) 2 (by decide)
  have hf2 : ∀ o, w1.frozen? ⟨g, o, none⟩ = false := fun o => o1.frozen rfl o
  have hgw : w.heap.size < g := by omega
  have HO := Hid.intro o1
  have HB := Hid.intro (bW.trans (b1.mono (by omega)))
  have hz1 : w.heap.size < w1.heap.size := by omega
  clear hW bW b1 o1
  go_wp2
  obtain ⟨FW, hFW⟩ : ∃ FW, (((((((w1.setCell ⟨g, 2, none⟩ (.int .i64 1023)).setCell ⟨w.heap.size, 0, none⟩ (.int .i64 2)).setCell ⟨w.heap.size, 1, none⟩ (.slice (some ⟨g, 0, none⟩) 1 1)).setCell ⟨w.heap.size, 2, none⟩ (.int .i64 30)).setCell ⟨w.heap.size, 3, none⟩ (.slice none 0 0)).setCell ⟨w.heap.size, 4, none⟩ (.slice none 0 0)).alloc (.cells #[.int .i64 2, .slice (some ⟨g, 0, none⟩) 1 1] 33)) = FW := ⟨_, rfl⟩
  have BF : Blk FW w.heap.size (newT g).arr := by
    rw [← hFW]
    have h0 : Blk w1 w.heap.size #[.int .i64 0, .slice none 0 0, .int .i64 0, .slice none 0 0, .slice none 0 0] := ⟨hz1, c1, f1⟩
    have h1 := h0.only ((Only.refl (fun k => k = g) w1).setCell (p := ⟨g, 2, none⟩) rfl (.int .i64 1023)) (by omega)
    have h2 := ((((h1.put 0 (by simp) (.int .i64 2)).put 1 (by simp) (.slice (some ⟨g, 0, none⟩) 1 1)).put 2 (by simp) (.int .i64 30)).put 3 (by simp) (.slice none 0 0)).put 4 (by simp) (.slice none 0 0)
    simp only [List.setIfInBounds_toArray, List.set_cons_succ, List.set_cons_zero] at h2
    exact h2.kept (one_below _ _)
  have OF : Only (fun k => k = w.heap.size ∨ w1.heap.size ≤ k) (w1.setCell ⟨g, 2, none⟩ (.int .i64 1023)) FW := by
    rw [← hFW]
    refine Only.trans ?_ (Below.any (one_below _ _))
    iterate 5 (refine Only.setCell ?_ (by simp) _)
    exact Only.refl _ _
  have BB : Below w.heap.size w FW := by
    rw [← hFW]
    refine Below.alloc ?_ (by simp [World.setCell]; omega) _
    repeat (refine Below.setCell ?_ (by simp <;> omega) _)
    exact HB.out
  have gF : g < FW.heap.size := by
    rw [← hFW]
    simp [World.setCell]
    omega
  rw [hFW]
  clear hFW
  have cF := BF.cell
  have H1 : Hid (Own ndE 72 (w1.setCell ⟨g, 2, none⟩ (.int .i64 1023)) W.heap.size (sl1 g) [np0 1023]) := by
    have h := (World.ownsRow.stored HO.out 2 (.int .i64 1023)).1
    exact h
  have H2 : Hid (∀ Z : World, Only (fun k => k = w.heap.size ∨ w1.heap.size ≤ k) (w1.setCell ⟨g, 2, none⟩ (.int .i64 1023)) Z → Own ndE 72 Z w.heap.size (sl1 g) [np0 1023]) := fun Z hZ => (H1.out.only hZ (fun k hk h => by
    have h3 : k = g := by simp [Value.ownBlock] at hk; exact hk.symm
    omega)).lower (by omega)
  refine bodyPost_ret (v := (newT g).v) (by simp [results, Try.results12, go_sem, cF]) rfl ⟨g, rfl, by omega, gF, H2.out _ OF, BB⟩
set_option maxHeartbeats 1000000 in
theorem specNewTenant_any (w : World) : Calls Try.prog 11 #[] w fun e w' => NewTP w e w' := by
  go_enter Try.func11, Try.ntmps11
  go_wp2_with fail
  obtain ⟨W, hW, bW, zW, c1, f1⟩ := boxed w #[.int .i64 0, .slice none 0 0, .int .i64 0, .slice none 0 0, .slice none 0 0] 37
  try simp only [hW]
  refine (specNewVol_any W).mono ?_
  rintro e w1 ⟨g, rfl, hg1, hg2, o1, b1⟩
  have z1 := b1.size
  replace c1 := keepC b1 (by omega) c1
  replace f1 := keepF b1 (by omega) f1
  have hq2 : w1.cell? ⟨g, 2, none⟩ = some (.int .i64 493) := o1.at 0 (by decide) 2 (by decide)
  have hf2 : ∀ o, w1.frozen? ⟨g, o, none⟩ = false := fun o => o1.frozen rfl o
  have hgw : w.heap.size < g := by omega
  have HO := Hid.intro o1
  have HB := Hid.intro (bW.trans (b1.mono (by omega)))
  have hz1 : w.heap.size < w1.heap.size := by omega
  clear hW bW b1 o1
  go_wp2
  obtain ⟨FW, hFW⟩ : ∃ FW, (((((((w1.setCell ⟨g, 2, none⟩ (.int .i64 1023)).setCell ⟨w.heap.size, 0, none⟩ (.int .i64 2)).setCell ⟨w.heap.size, 1, none⟩ (.slice (some ⟨g, 0, none⟩) 1 1)).setCell ⟨w.heap.size, 2, none⟩ (.int .i64 30)).setCell ⟨w.heap.size, 3, none⟩ (.slice none 0 0)).setCell ⟨w.heap.size, 4, none⟩ (.slice none 0 0)).alloc (.cells #[.int .i64 2, .slice (some ⟨g, 0, none⟩) 1 1] 33)) = FW := ⟨_, rfl⟩
  have BF : Blk FW w.heap.size (newT g).arr := by
    rw [← hFW]
    have h0 : Blk w1 w.heap.size #[.int .i64 0, .slice none 0 0, .int .i64 0, .slice none 0 0, .slice none 0 0] := ⟨hz1, c1, f1⟩
    have h1 := h0.only ((Only.refl (fun k => k = g) w1).setCell (p := ⟨g, 2, none⟩) rfl (.int .i64 1023)) (by omega)
    have h2 := ((((h1.put 0 (by simp) (.int .i64 2)).put 1 (by simp) (.slice (some ⟨g, 0, none⟩) 1 1)).put 2 (by simp) (.int .i64 30)).put 3 (by simp) (.slice none 0 0)).put 4 (by simp) (.slice none 0 0)
    simp only [List.setIfInBounds_toArray, List.set_cons_succ, List.set_cons_zero] at h2
    exact h2.kept (one_below _ _)
  have OF : Only (fun k => k = w.heap.size ∨ w1.heap.size ≤ k) (w1.setCell ⟨g, 2, none⟩ (.int .i64 1023)) FW := by
    rw [← hFW]
    refine Only.trans ?_ (Below.any (one_below _ _))
    iterate 5 (refine Only.setCell ?_ (by simp) _)
    exact Only.refl _ _
  have BB : Below w.heap.size w FW := by
    rw [← hFW]
    refine Below.alloc ?_ (by simp [World.setCell]; omega) _
    repeat (refine Below.setCell ?_ (by simp <;> omega) _)
    exact HB.out
  have gF : g < FW.heap.size := by
    rw [← hFW]
    simp [World.setCell]
    omega
  rw [hFW]
  clear hFW
  have cF := BF.cell
  have H1 : Hid (Own ndE 72 (w1.setCell ⟨g, 2, none⟩ (.int .i64 1023)) W.heap.size (sl1 g) [np0 1023]) := by
    have h := (World.ownsRow.stored HO.out 2 (.int .i64 1023)).1
    exact h
  have H2 : Hid (∀ Z : World, Only (fun k => k = w.heap.size ∨ w1.heap.size ≤ k) (w1.setCell ⟨g, 2, none⟩ (.int .i64 1023)) Z → Own ndE 72 Z w.heap.size (sl1 g) [np0 1023]) := fun Z hZ => (H1.out.only hZ (fun k hk h => by
    have h3 : k = g := by simp [Value.ownBlock] at hk; exact hk.symm
    omega)).lower (by omega)
  refine bodyPost_ret (v := (newT g).v) (by simp [results, Try.results11, go_sem, cF]) rfl ⟨g, rfl, by omega, gF, H2.out _ OF, BB⟩
set_option maxRecDepth 100000 in
set_option maxHeartbeats 8000000 in
theorem newTenant_law (w : World) :
    Calls Try.prog 4 #[] w fun e w' => e = .returned (.bool true) ∧ Below w.heap.size w w' := by
  go_enter Try.func4, Try.ntmps4
  go_wp2_with fail
  refine (specNewTenant_any w).mono ?_
  rintro e w1 ⟨g1, rfl, -, hl1, o1, b1⟩
  have HR1 : Hid (TenR w1 w1.heap.size (newT g1)) := (newT_mem o1 b1.size).own.rowAll
  have z1 := b1.size
  go_upto_region 2 with fail
  obtain ⟨W2, hW2, bW2, zW2, cW2, fW2⟩ := boxed w1 (newT g1).arr 37
  try simp only [hW2]
  replace HR1 := Hid.intro (HR1.out.kept bW2)
  have HB := Hid.intro (b1.trans (bW2.mono z1))
  clear hW2 bW2 fW2 o1 b1 hl1
  go_wp2_with fail
  refine (implNewTenant_any W2).mono ?_
  rintro e w3 ⟨g3, rfl, -, hl3, o3, b3⟩
  have HM3 : Hid (TenM w3 W2.heap.size w3.heap.size W2.heap.size w3.heap.size (newT g3)) := newT_mem o3 b3.size
  have c3 := keepC b3 (by omega) cW2
  replace HR1 := Hid.intro (HR1.out.kept (b3.mono (by omega)))
  replace HB := Hid.intro (HB.out.trans (b3.mono HB.out.size))
  have z3 := b3.size
  clear o3 b3 cW2 hl3
  have HG : Hid (Gd (newT g3)) := newT_good g3
  have HK1 : Hid ((newT g3).key = (newT g1).key) := newT_key _ _
  generalize hta : newT g1 = ta at HR1 HK1 c3 ⊢
  generalize htb : newT g3 = tb at HM3 HG HK1 ⊢
  have HTB := Hid.intro htb
  have HTA := Hid.intro hta
  clear hta htb
  go_upto_region 3 with fail
  obtain ⟨W4, hW4, bW4, zW4, cW4, fW4⟩ := boxed w3 tb.arr 37
  try simp only [hW4]
  replace c3 := keepC bW4 (by omega) c3
  replace HR1 := Hid.intro (HR1.out.kept (bW4.mono (by omega)))
  replace HM3 := Hid.intro (HM3.out.kept bW4)
  replace HB := Hid.intro (HB.out.trans (bW4.mono HB.out.size))
  clear hW4 bW4 fW4
  go_wp2_with fail
  refine (eqTenant_any tb ta W4.heap.size W4 (Nat.le_refl _) HM3.out.own.rowAll (HR1.out.up (by omega)) HK1.out).mono ?_
  rintro e w5 ⟨rfl, b5⟩
  replace c3 := keepC b5 (by omega) c3
  have c5 := keepC b5 (by omega) cW4
  replace HR1 := Hid.intro (HR1.out.kept (b5.mono (by omega)))
  replace HM3 := Hid.intro (HM3.out.kept b5)
  replace HB := Hid.intro (HB.out.trans (b5.mono HB.out.size))
  have z5 := b5.size
  clear b5 cW4
  go_wp2_with fail
  refine (markTenant_any tb W2.heap.size w3.heap.size W2.heap.size w3.heap.size 1 w5 (by omega) HM3.out HG.out (by omega) (by omega)).mono ?_
  rintro e w6 ⟨rfl, r6, n6⟩
  replace c3 : ∀ o, w6.cell? ⟨w1.heap.size, o, none⟩ = ta.arr[o]? := fun o => (n6.cell (by omega) (fun h => by omega)).trans (c3 o)
  replace c5 : ∀ o, w6.cell? ⟨w3.heap.size, o, none⟩ = tb.arr[o]? := fun o => (n6.cell (by omega) (fun h => by omega)).trans (c5 o)
  replace HR1 := Hid.intro (HR1.out.kept (n6.below (by omega) (fun k hk h => by omega)))
  replace HB := Hid.intro (HB.out.trans (n6.below HB.out.size (fun k hk h => by have := HB.out.size; omega)))
  have HR6 := Hid.intro r6
  have hbd := (endT_bd (q := 1) HG.out (by omega) (by omega)).2
  generalize hmm : endT 1 tb = mm at hbd ⊢
  have HMM := Hid.intro hmm
  have hm0 : ¬ mm < 0 := by omega
  have hme : (mm != mm) = false := by simp
  have z6 := n6.size
  clear hmm HM3 r6 n6
  go_wp2_with fail
  refine (heldTenant_any tb w6.heap.size 1 w6 (Nat.le_refl _) HR6.out HG.out (by omega) (by omega)).mono ?_
  rintro e w7 ⟨rfl, b7⟩
  rw [HMM.out]
  replace c3 := keepC b7 (by omega) c3
  replace c5 := keepC b7 (by omega) c5
  replace HR1 := Hid.intro (HR1.out.kept (b7.mono (by omega)))
  replace HR6 := Hid.intro (HR6.out.on b7)
  replace HB := Hid.intro (HB.out.trans (b7.mono HB.out.size))
  have z7 := b7.size
  clear b7
  go_wp2_with fail
  refine (implNewTenant_any w7).mono ?_
  rintro e w8 ⟨g8, rfl, -, hl8, o8, b8⟩
  have HR8 : Hid (TenR w8 w8.heap.size (newT g8)) := (newT_mem o8 b8.size).own.rowAll
  have HK8 : Hid ((newT g8).key = ta.key) := by unfold Hid; rw [← HTA.out]; exact newT_key _ _
  generalize htc : newT g8 = tc at HR8 HK8 ⊢
  replace c3 := keepC b8 (by omega) c3
  replace c5 := keepC b8 (by omega) c5
  replace HR1 := Hid.intro (HR1.out.kept (b8.mono (by omega)))
  replace HR6 := Hid.intro (HR6.out.on b8)
  replace HB := Hid.intro (HB.out.trans (b8.mono HB.out.size))
  have z8 := b8.size
  clear b8 o8 htc hl8
  go_upto_region 14 with fail
  obtain ⟨W9, hW9, bW9, zW9, cW9, fW9⟩ := boxed w8 tc.arr 37
  try simp only [hW9]
  replace c3 := keepC bW9 (by omega) c3
  replace c5 := keepC bW9 (by omega) c5
  replace HR1 := Hid.intro (HR1.out.kept (bW9.mono (by omega)))
  replace HR6 := Hid.intro (HR6.out.on bW9)
  replace HR8 := Hid.intro (HR8.out.on bW9)
  replace HB := Hid.intro (HB.out.trans (bW9.mono HB.out.size))
  clear hW9 bW9 fW9
  go_wp2_with fail
  refine (eqTenant_any tc ta W9.heap.size W9 (Nat.le_refl _) HR8.out (HR1.out.up (by omega)) HK8.out).mono ?_
  rintro e wa ⟨rfl, ba⟩
  replace c5 := keepC ba (by omega) c5
  replace HR6 := Hid.intro (HR6.out.on ba)
  replace HB := Hid.intro (HB.out.trans (ba.mono HB.out.size))
  clear ba HR1 HR8 c3 cW9
  go_wp2_with fail
  refine (heldTenant_any tb wa.heap.size 1 wa (Nat.le_refl _) HR6.out HG.out (by omega) (by omega)).mono ?_
  rintro e wb ⟨rfl, bb⟩
  rw [HMM.out]
  replace HB := Hid.intro (HB.out.trans (bb.mono HB.out.size))
  clear bb c5
  go_wp2
  go_ret
  exact ⟨rfl, HB.out⟩
end Go.Proofs.Ytmioanleeaimmaa
