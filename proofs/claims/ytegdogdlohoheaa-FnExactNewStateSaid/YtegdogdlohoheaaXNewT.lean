/- NewVol and NewTenant on both sides. -/
import Derived.Test.YtegdogdlohoheaaXMarkT
import Derived.Deep.Cut
namespace Go.Proofs.Ytegdogdlohoheaa
open Go.RowKit
set_option linter.unusedVariables false
/-- The first directory, with a mode. -/
def np0 (m : Int) : Np := ⟨⟨1, 2, m, 0, 0, ⟨#[]⟩, [], 0, 0⟩, none, 0⟩
abbrev rootA (m : Int) : Array Value := #[.int .i64 1, .int .i64 2, .int .i64 m, .int .i64 0, .int .i64 0, .string ⟨#[]⟩, .slice none 0 0, .int .i64 0, .int .i64 0]
abbrev sl1 (g : Nat) : Value := .slice (some ⟨g, 0, none⟩) 1 1
theorem litR (w : World) : Own ndE 96 (w.alloc (.cells (rootA 493) 96)) w.heap.size (sl1 w.heap.size) [np0 493] :=
  World.ownsRow_lit (base := w.heap.size) (e := 96) (size := 9) w (rootA 493) 1 (Nat.le_refl _) (by decide) rfl
theorem litRb (w : World) (X : Obj) : Own ndE 96 ((w.alloc X).alloc (.cells (rootA 493) 96)) w.heap.size (sl1 (w.heap.size + 1)) [np0 493] := by
  have h := litR (w.alloc X)
  have e : (w.alloc X).heap.size = w.heap.size + 1 := by simp
  rw [e] at h
  exact h.lower (by omega)
def NewVP (w : World) (e : Ending) (w' : World) : Prop := ∃ g, e = .returned (volV 2 (sl1 g)) ∧ w.heap.size ≤ g ∧ g < w'.heap.size ∧ Own ndE 96 w' w.heap.size (sl1 g) [np0 493] ∧ Below w.heap.size w w'
set_option maxHeartbeats 1000000 in
theorem implNewVol_any (w : World) : Calls Try.prog 83 #[] w fun e w' => NewVP w e w' := by
  go_enter Try.func83, Try.ntmps83
  go_wp2
  refine bodyPost_ret (v := volV 2 (sl1 (w.heap.size + 1))) ?_ rfl ⟨_, rfl, by omega, by simp, litRb w _, ((Below.refl _ _).alloc (Nat.le_refl _) _).alloc (by simp) _⟩
  simp [results, Try.results83, go_sem]
set_option maxHeartbeats 1000000 in
theorem specNewVol_any (w : World) : Calls Try.prog 82 #[] w fun e w' => NewVP w e w' := by
  go_enter Try.func82, Try.ntmps82
  go_wp2
  refine bodyPost_ret (v := volV 2 (sl1 (w.heap.size + 1))) ?_ rfl ⟨_, rfl, by omega, by simp, litRb w _, ((Below.refl _ _).alloc (Nat.le_refl _) _).alloc (by simp) _⟩
  simp [results, Try.results82, go_sem]
/-- A new tenant, its row at block g. -/
def newT (g : Nat) : Ten := ⟨2, [np0 1023], some ⟨g, 0, none⟩, 1, 30, [], none, 0, [], none, 0⟩
def NewTP (w : World) (e : Ending) (w' : World) : Prop := ∃ g, e = .returned (newT g).v ∧ w.heap.size ≤ g ∧ g < w'.heap.size ∧ Own ndE 96 w' w.heap.size (sl1 g) [np0 1023] ∧ Below w.heap.size w w'
theorem newT_key (g g' : Nat) : (newT g).key = (newT g').key := rfl
theorem newT_good (g : Nat) : Gd (newT g) := ⟨fun i j hij hj k k' _ h2 => by
    have h3 : j = 0 := by simp [newT] at hj; exact hj
    omega, by simp [newT], by intro p hp; simp [newT] at hp; subst hp; simp [np0], by simp [newT], by simp [newT]⟩
theorem newT_mem {w : World} {base g : Nat} (h : Own ndE 96 w base (sl1 g) [np0 1023]) (hb : base ≤ w.heap.size) : TenM w base w.heap.size base w.heap.size (newT g) :=
  ⟨Nat.le_refl _, hb, Nat.le_refl _, ⟨h, fun p hp => by simp [newT] at hp; subst hp; exact Own.nil _ _⟩, fun k hk => (h.lt k hk).2, fun p hp k hk => by simp [newT] at hp; subst hp; simp [np0, Value.ownBlock] at hk, Own.nil _ _, Own.nil _ _, fun k hk => by simp [newT, Value.ownBlock] at hk, fun k hk => by simp [newT, Value.ownBlock] at hk⟩
set_option maxHeartbeats 1000000 in
theorem implNewTenant_any (w : World) : Calls Try.prog 44 #[] w fun e w' => NewTP w e w' := by
  go_enter Try.func44, Try.ntmps44
  go_wp2_with fail
  obtain ⟨W, hW, bW, zW, c1, f1⟩ := boxed w #[.int .i64 0, .slice none 0 0, .int .i64 0, .slice none 0 0, .slice none 0 0] 28
  try simp only [hW]
  refine (implNewVol_any W).mono ?_
  rintro e w1 ⟨g, rfl, hg1, hg2, o1, b1⟩
  have z1 := b1.size
  replace c1 := keepC b1 (by omega) c1
  replace f1 := keepF b1 (by omega) f1
  have hq2 : w1.cell? ⟨g, 2, none⟩ = some (.int .i64 493) := o1.at 0 (by decide) 2 (by decide)
  have hf2 : ∀ o, w1.frozen? ⟨g, o, none⟩ = false := fun o => o1.frozen rfl o
  have hgw : w.heap.size < g := by omega
  have HO := Hid.intro o1
  have HB := Hid.intro (bW.trans (b1.mono (by omega)))
  have hz1 : w.heap.size < w1.heap.size := by omega
  clear hW bW b1 o1
  go_wp2
  obtain ⟨FW, hFW⟩ : ∃ FW, (((((((w1.setCell ⟨g, 2, none⟩ (.int .i64 1023)).setCell ⟨w.heap.size, 0, none⟩ (.int .i64 2)).setCell ⟨w.heap.size, 1, none⟩ (.slice (some ⟨g, 0, none⟩) 1 1)).setCell ⟨w.heap.size, 2, none⟩ (.int .i64 30)).setCell ⟨w.heap.size, 3, none⟩ (.slice none 0 0)).setCell ⟨w.heap.size, 4, none⟩ (.slice none 0 0)).alloc (.cells #[.int .i64 2, .slice (some ⟨g, 0, none⟩) 1 1] 24)) = FW := ⟨_, rfl⟩
  have BF : Blk FW w.heap.size (newT g).arr := by
    rw [← hFW]
    have h0 : Blk w1 w.heap.size #[.int .i64 0, .slice none 0 0, .int .i64 0, .slice none 0 0, .slice none 0 0] := ⟨hz1, c1, f1⟩
    have h1 := h0.only ((Only.refl (fun k => k = g) w1).setCell (p := ⟨g, 2, none⟩) rfl (.int .i64 1023)) (by omega)
    have h2 := ((((h1.put 0 (by simp) (.int .i64 2)).put 1 (by simp) (.slice (some ⟨g, 0, none⟩) 1 1)).put 2 (by simp) (.int .i64 30)).put 3 (by simp) (.slice none 0 0)).put 4 (by simp) (.slice none 0 0)
    simp only [List.setIfInBounds_toArray, List.set_cons_succ, List.set_cons_zero] at h2
    exact h2.kept (one_below _ _)
  have OF : Only (fun k => k = w.heap.size ∨ w1.heap.size ≤ k) (w1.setCell ⟨g, 2, none⟩ (.int .i64 1023)) FW := by
    rw [← hFW]
    refine Only.trans ?_ (Below.any (one_below _ _))
    iterate 5 (refine Only.setCell ?_ (by simp) _)
    exact Only.refl _ _
  have BB : Below w.heap.size w FW := by
    rw [← hFW]
    refine Below.alloc ?_ (by simp [World.setCell]; omega) _
    repeat (refine Below.setCell ?_ (by simp <;> omega) _)
    exact HB.out
  have gF : g < FW.heap.size := by
    rw [← hFW]
    simp [World.setCell]
    omega
  rw [hFW]
  clear hFW
  have cF := BF.cell
  have H1 : Hid (Own ndE 96 (w1.setCell ⟨g, 2, none⟩ (.int .i64 1023)) W.heap.size (sl1 g) [np0 1023]) := by
    have h := (World.ownsRow.stored HO.out 2 (.int .i64 1023)).1
    exact h
  have H2 : Hid (∀ Z : World, Only (fun k => k = w.heap.size ∨ w1.heap.size ≤ k) (w1.setCell ⟨g, 2, none⟩ (.int .i64 1023)) Z → Own ndE 96 Z w.heap.size (sl1 g) [np0 1023]) := fun Z hZ => (H1.out.only hZ (fun k hk h => by
    have h3 : k = g := by simp [Value.ownBlock] at hk; exact hk.symm
    omega)).lower (by omega)
  refine bodyPost_ret (v := (newT g).v) (by simp [results, Try.results44, go_sem, cF]) rfl ⟨g, rfl, by omega, gF, H2.out _ OF, BB⟩
set_option maxHeartbeats 1000000 in
theorem specNewTenant_any (w : World) : Calls Try.prog 43 #[] w fun e w' => NewTP w e w' := by
  go_enter Try.func43, Try.ntmps43
  go_wp2_with fail
  obtain ⟨W, hW, bW, zW, c1, f1⟩ := boxed w #[.int .i64 0, .slice none 0 0, .int .i64 0, .slice none 0 0, .slice none 0 0] 28
  try simp only [hW]
  refine (specNewVol_any W).mono ?_
  rintro e w1 ⟨g, rfl, hg1, hg2, o1, b1⟩
  have z1 := b1.size
  replace c1 := keepC b1 (by omega) c1
  replace f1 := keepF b1 (by omega) f1
  have hq2 : w1.cell? ⟨g, 2, none⟩ = some (.int .i64 493) := o1.at 0 (by decide) 2 (by decide)
  have hf2 : ∀ o, w1.frozen? ⟨g, o, none⟩ = false := fun o => o1.frozen rfl o
  have hgw : w.heap.size < g := by omega
  have HO := Hid.intro o1
  have HB := Hid.intro (bW.trans (b1.mono (by omega)))
  have hz1 : w.heap.size < w1.heap.size := by omega
  clear hW bW b1 o1
  go_wp2
  obtain ⟨FW, hFW⟩ : ∃ FW, (((((((w1.setCell ⟨g, 2, none⟩ (.int .i64 1023)).setCell ⟨w.heap.size, 0, none⟩ (.int .i64 2)).setCell ⟨w.heap.size, 1, none⟩ (.slice (some ⟨g, 0, none⟩) 1 1)).setCell ⟨w.heap.size, 2, none⟩ (.int .i64 30)).setCell ⟨w.heap.size, 3, none⟩ (.slice none 0 0)).setCell ⟨w.heap.size, 4, none⟩ (.slice none 0 0)).alloc (.cells #[.int .i64 2, .slice (some ⟨g, 0, none⟩) 1 1] 24)) = FW := ⟨_, rfl⟩
  have BF : Blk FW w.heap.size (newT g).arr := by
    rw [← hFW]
    have h0 : Blk w1 w.heap.size #[.int .i64 0, .slice none 0 0, .int .i64 0, .slice none 0 0, .slice none 0 0] := ⟨hz1, c1, f1⟩
    have h1 := h0.only ((Only.refl (fun k => k = g) w1).setCell (p := ⟨g, 2, none⟩) rfl (.int .i64 1023)) (by omega)
    have h2 := ((((h1.put 0 (by simp) (.int .i64 2)).put 1 (by simp) (.slice (some ⟨g, 0, none⟩) 1 1)).put 2 (by simp) (.int .i64 30)).put 3 (by simp) (.slice none 0 0)).put 4 (by simp) (.slice none 0 0)
    simp only [List.setIfInBounds_toArray, List.set_cons_succ, List.set_cons_zero] at h2
    exact h2.kept (one_below _ _)
  have OF : Only (fun k => k = w.heap.size ∨ w1.heap.size ≤ k) (w1.setCell ⟨g, 2, none⟩ (.int .i64 1023)) FW := by
    rw [← hFW]
    refine Only.trans ?_ (Below.any (one_below _ _))
    iterate 5 (refine Only.setCell ?_ (by simp) _)
    exact Only.refl _ _
  have BB : Below w.heap.size w FW := by
    rw [← hFW]
    refine Below.alloc ?_ (by simp [World.setCell]; omega) _
    repeat (refine Below.setCell ?_ (by simp <;> omega) _)
    exact HB.out
  have gF : g < FW.heap.size := by
    rw [← hFW]
    simp [World.setCell]
    omega
  rw [hFW]
  clear hFW
  have cF := BF.cell
  have H1 : Hid (Own ndE 96 (w1.setCell ⟨g, 2, none⟩ (.int .i64 1023)) W.heap.size (sl1 g) [np0 1023]) := by
    have h := (World.ownsRow.stored HO.out 2 (.int .i64 1023)).1
    exact h
  have H2 : Hid (∀ Z : World, Only (fun k => k = w.heap.size ∨ w1.heap.size ≤ k) (w1.setCell ⟨g, 2, none⟩ (.int .i64 1023)) Z → Own ndE 96 Z w.heap.size (sl1 g) [np0 1023]) := fun Z hZ => (H1.out.only hZ (fun k hk h => by
    have h3 : k = g := by simp [Value.ownBlock] at hk; exact hk.symm
    omega)).lower (by omega)
  refine bodyPost_ret (v := (newT g).v) (by simp [results, Try.results43, go_sem, cF]) rfl ⟨g, rfl, by omega, gF, H2.out _ OF, BB⟩
end Go.Proofs.Ytegdogdlohoheaa
