/- NewState on both sides; the law. -/
import Derived.Test.YtegdogdlohoheaaXMarkT
import Derived.Deep.Cut
import Derived.Test.YtegdogdlohoheaaXHeldS
import Derived.Maps.AppendAt
namespace Go.Proofs.Ytegdogdlohoheaa
open Go.RowKit
set_option linter.unusedVariables false
/-- The first directory, with a mode. -/
def np0 (m : Int) : Np := ⟨⟨1, 2, m, 0, 0, ⟨#[]⟩, [], 0, 0⟩, none, 0⟩
abbrev rootA (m : Int) : Array Value := #[.int .i64 1, .int .i64 2, .int .i64 m, .int .i64 0, .int .i64 0, .string ⟨#[]⟩, .slice none 0 0, .int .i64 0, .int .i64 0]
abbrev sl1 (g : Nat) : Value := .slice (some ⟨g, 0, none⟩) 1 1
theorem litR (w : World) : Own ndE 96 (w.alloc (.cells (rootA 493) 96)) w.heap.size (sl1 w.heap.size) [np0 493] :=
  World.ownsRow_lit (base := w.heap.size) (e := 96) (size := 9) w (rootA 493) 1 (Nat.le_refl _) (by decide) rfl
theorem litRb (w : World) (X : Obj) : Own ndE 96 ((w.alloc X).alloc (.cells (rootA 493) 96)) w.heap.size (sl1 (w.heap.size + 1)) [np0 493] := by
  have h := litR (w.alloc X)
  have e : (w.alloc X).heap.size = w.heap.size + 1 := by simp
  rw [e] at h
  exact h.lower (by omega)
def NewVP (w : World) (e : Ending) (w' : World) : Prop := ∃ g, e = .returned (volV 2 (sl1 g)) ∧ w.heap.size ≤ g ∧ g < w'.heap.size ∧ Own ndE 96 w' w.heap.size (sl1 g) [np0 493] ∧ Below w.heap.size w w'
set_option maxHeartbeats 1000000 in
theorem implNewVol_any (w : World) : Calls Try.prog 83 #[] w fun e w' => NewVP w e w' := by
  go_enter Try.func83, Try.ntmps83
  go_wp2
  refine bodyPost_ret (v := volV 2 (sl1 (w.heap.size + 1))) ?_ rfl ⟨_, rfl, by omega, by simp, litRb w _, ((Below.refl _ _).alloc (Nat.le_refl _) _).alloc (by simp) _⟩
  simp [results, Try.results83, go_sem]
set_option maxHeartbeats 1000000 in
theorem specNewVol_any (w : World) : Calls Try.prog 82 #[] w fun e w' => NewVP w e w' := by
  go_enter Try.func82, Try.ntmps82
  go_wp2
  refine bodyPost_ret (v := volV 2 (sl1 (w.heap.size + 1))) ?_ rfl ⟨_, rfl, by omega, by simp, litRb w _, ((Below.refl _ _).alloc (Nat.le_refl _) _).alloc (by simp) _⟩
  simp [results, Try.results82, go_sem]
/-- A new tenant, its row at block g. -/
def newT (g : Nat) : Ten := ⟨2, [np0 1023], some ⟨g, 0, none⟩, 1, 30, [], none, 0, [], none, 0⟩
def NewTP (w : World) (e : Ending) (w' : World) : Prop := ∃ g, e = .returned (newT g).v ∧ w.heap.size ≤ g ∧ g < w'.heap.size ∧ Own ndE 96 w' w.heap.size (sl1 g) [np0 1023] ∧ Below w.heap.size w w'
theorem newT_key (g g' : Nat) : (newT g).key = (newT g').key := rfl
theorem newT_good (g : Nat) : Gd (newT g) := ⟨fun i j hij hj k k' _ h2 => by
    have h3 : j = 0 := by simp [newT] at hj; exact hj
    omega, by simp [newT], by intro p hp; simp [newT] at hp; subst hp; simp [np0], by simp [newT], by simp [newT]⟩
theorem newT_mem {w : World} {base g : Nat} (h : Own ndE 96 w base (sl1 g) [np0 1023]) (hb : base ≤ w.heap.size) : TenM w base w.heap.size base w.heap.size (newT g) :=
  ⟨Nat.le_refl _, hb, Nat.le_refl _, ⟨h, fun p hp => by simp [newT] at hp; subst hp; exact Own.nil _ _⟩, fun k hk => (h.lt k hk).2, fun p hp k hk => by simp [newT] at hp; subst hp; simp [np0, Value.ownBlock] at hk, Own.nil _ _, Own.nil _ _, fun k hk => by simp [newT, Value.ownBlock] at hk, fun k hk => by simp [newT, Value.ownBlock] at hk⟩
set_option maxHeartbeats 1000000 in
theorem implNewTenant_any (w : World) : Calls Try.prog 44 #[] w fun e w' => NewTP w e w' := by
  go_enter Try.func44, Try.ntmps44
  go_wp2_with fail
  obtain ⟨W, hW, bW, zW, c1, f1⟩ := boxed w #[.int .i64 0, .slice none 0 0, .int .i64 0, .slice none 0 0, .slice none 0 0] 28
  try simp only [hW]
  refine (implNewVol_any W).mono ?_
  rintro e w1 ⟨g, rfl, hg1, hg2, o1, b1⟩
  have z1 := b1.size
  replace c1 := keepC b1 (by omega) c1
  replace f1 := keepF b1 (by omega) f1
  have hq2 : w1.cell? ⟨g, 2, none⟩ = some (.int .i64 493) := o1.at 0 (by decide) 2 (by decide)
  have hf2 : ∀ o, w1.frozen? ⟨g, o, none⟩ = false := fun o => o1.frozen rfl o
  have hgw : w.heap.size < g := by omega
  have HO := Hid.intro o1
  have HB := Hid.intro (bW.trans (b1.mono (by omega)))
  have hz1 : w.heap.size < w1.heap.size := by omega
  clear hW bW b1 o1
  go_wp2
  obtain ⟨FW, hFW⟩ : ∃ FW, (((((((w1.setCell ⟨g, 2, none⟩ (.int .i64 1023)).setCell ⟨w.heap.size, 0, none⟩ (.int .i64 2)).setCell ⟨w.heap.size, 1, none⟩ (.slice (some ⟨g, 0, none⟩) 1 1)).setCell ⟨w.heap.size, 2, none⟩ (.int .i64 30)).setCell ⟨w.heap.size, 3, none⟩ (.slice none 0 0)).setCell ⟨w.heap.size, 4, none⟩ (.slice none 0 0)).alloc (.cells #[.int .i64 2, .slice (some ⟨g, 0, none⟩) 1 1] 24)) = FW := ⟨_, rfl⟩
  have BF : Blk FW w.heap.size (newT g).arr := by
    rw [← hFW]
    have h0 : Blk w1 w.heap.size #[.int .i64 0, .slice none 0 0, .int .i64 0, .slice none 0 0, .slice none 0 0] := ⟨hz1, c1, f1⟩
    have h1 := h0.only ((Only.refl (fun k => k = g) w1).setCell (p := ⟨g, 2, none⟩) rfl (.int .i64 1023)) (by omega)
    have h2 := ((((h1.put 0 (by simp) (.int .i64 2)).put 1 (by simp) (.slice (some ⟨g, 0, none⟩) 1 1)).put 2 (by simp) (.int .i64 30)).put 3 (by simp) (.slice none 0 0)).put 4 (by simp) (.slice none 0 0)
    simp only [List.setIfInBounds_toArray, List.set_cons_succ, List.set_cons_zero] at h2
    exact h2.kept (one_below _ _)
  have OF : Only (fun k => k = w.heap.size ∨ w1.heap.size ≤ k) (w1.setCell ⟨g, 2, none⟩ (.int .i64 1023)) FW := by
    rw [← hFW]
    refine Only.trans ?_ (Below.any (one_below _ _))
    iterate 5 (refine Only.setCell ?_ (by simp) _)
    exact Only.refl _ _
  have BB : Below w.heap.size w FW := by
    rw [← hFW]
    refine Below.alloc ?_ (by simp [World.setCell]; omega) _
    repeat (refine Below.setCell ?_ (by simp <;> omega) _)
    exact HB.out
  have gF : g < FW.heap.size := by
    rw [← hFW]
    simp [World.setCell]
    omega
  rw [hFW]
  clear hFW
  have cF := BF.cell
  have H1 : Hid (Own ndE 96 (w1.setCell ⟨g, 2, none⟩ (.int .i64 1023)) W.heap.size (sl1 g) [np0 1023]) := by
    have h := (World.ownsRow.stored HO.out 2 (.int .i64 1023)).1
    exact h
  have H2 : Hid (∀ Z : World, Only (fun k => k = w.heap.size ∨ w1.heap.size ≤ k) (w1.setCell ⟨g, 2, none⟩ (.int .i64 1023)) Z → Own ndE 96 Z w.heap.size (sl1 g) [np0 1023]) := fun Z hZ => (H1.out.only hZ (fun k hk h => by
    have h3 : k = g := by simp [Value.ownBlock] at hk; exact hk.symm
    omega)).lower (by omega)
  refine bodyPost_ret (v := (newT g).v) (by simp [results, Try.results44, go_sem, cF]) rfl ⟨g, rfl, by omega, gF, H2.out _ OF, BB⟩
set_option maxHeartbeats 1000000 in
theorem specNewTenant_any (w : World) : Calls Try.prog 43 #[] w fun e w' => NewTP w e w' := by
  go_enter Try.func43, Try.ntmps43
  go_wp2_with fail
  obtain ⟨W, hW, bW, zW, c1, f1⟩ := boxed w #[.int .i64 0, .slice none 0 0, .int .i64 0, .slice none 0 0, .slice none 0 0] 28
  try simp only [hW]
  refine (specNewVol_any W).mono ?_
  rintro e w1 ⟨g, rfl, hg1, hg2, o1, b1⟩
  have z1 := b1.size
  replace c1 := keepC b1 (by omega) c1
  replace f1 := keepF b1 (by omega) f1
  have hq2 : w1.cell? ⟨g, 2, none⟩ = some (.int .i64 493) := o1.at 0 (by decide) 2 (by decide)
  have hf2 : ∀ o, w1.frozen? ⟨g, o, none⟩ = false := fun o => o1.frozen rfl o
  have hgw : w.heap.size < g := by omega
  have HO := Hid.intro o1
  have HB := Hid.intro (bW.trans (b1.mono (by omega)))
  have hz1 : w.heap.size < w1.heap.size := by omega
  clear hW bW b1 o1
  go_wp2
  obtain ⟨FW, hFW⟩ : ∃ FW, (((((((w1.setCell ⟨g, 2, none⟩ (.int .i64 1023)).setCell ⟨w.heap.size, 0, none⟩ (.int .i64 2)).setCell ⟨w.heap.size, 1, none⟩ (.slice (some ⟨g, 0, none⟩) 1 1)).setCell ⟨w.heap.size, 2, none⟩ (.int .i64 30)).setCell ⟨w.heap.size, 3, none⟩ (.slice none 0 0)).setCell ⟨w.heap.size, 4, none⟩ (.slice none 0 0)).alloc (.cells #[.int .i64 2, .slice (some ⟨g, 0, none⟩) 1 1] 24)) = FW := ⟨_, rfl⟩
  have BF : Blk FW w.heap.size (newT g).arr := by
    rw [← hFW]
    have h0 : Blk w1 w.heap.size #[.int .i64 0, .slice none 0 0, .int .i64 0, .slice none 0 0, .slice none 0 0] := ⟨hz1, c1, f1⟩
    have h1 := h0.only ((Only.refl (fun k => k = g) w1).setCell (p := ⟨g, 2, none⟩) rfl (.int .i64 1023)) (by omega)
    have h2 := ((((h1.put 0 (by simp) (.int .i64 2)).put 1 (by simp) (.slice (some ⟨g, 0, none⟩) 1 1)).put 2 (by simp) (.int .i64 30)).put 3 (by simp) (.slice none 0 0)).put 4 (by simp) (.slice none 0 0)
    simp only [List.setIfInBounds_toArray, List.set_cons_succ, List.set_cons_zero] at h2
    exact h2.kept (one_below _ _)
  have OF : Only (fun k => k = w.heap.size ∨ w1.heap.size ≤ k) (w1.setCell ⟨g, 2, none⟩ (.int .i64 1023)) FW := by
    rw [← hFW]
    refine Only.trans ?_ (Below.any (one_below _ _))
    iterate 5 (refine Only.setCell ?_ (by simp) _)
    exact Only.refl _ _
  have BB : Below w.heap.size w FW := by
    rw [← hFW]
    refine Below.alloc ?_ (by simp [World.setCell]; omega) _
    repeat (refine Below.setCell ?_ (by simp <;> omega) _)
    exact HB.out
  have gF : g < FW.heap.size := by
    rw [← hFW]
    simp [World.setCell]
    omega
  rw [hFW]
  clear hFW
  have cF := BF.cell
  have H1 : Hid (Own ndE 96 (w1.setCell ⟨g, 2, none⟩ (.int .i64 1023)) W.heap.size (sl1 g) [np0 1023]) := by
    have h := (World.ownsRow.stored HO.out 2 (.int .i64 1023)).1
    exact h
  have H2 : Hid (∀ Z : World, Only (fun k => k = w.heap.size ∨ w1.heap.size ≤ k) (w1.setCell ⟨g, 2, none⟩ (.int .i64 1023)) Z → Own ndE 96 Z w.heap.size (sl1 g) [np0 1023]) := fun Z hZ => (H1.out.only hZ (fun k hk h => by
    have h3 : k = g := by simp [Value.ownBlock] at hk; exact hk.symm
    omega)).lower (by omega)
  refine bodyPost_ret (v := (newT g).v) (by simp [results, Try.results43, go_sem, cF]) rfl ⟨g, rfl, by omega, gF, H2.out _ OF, BB⟩
end Go.Proofs.Ytegdogdlohoheaa
namespace Go.Proofs.Ytegdogdlohoheaa
open Go.RowKit
set_option linter.unusedVariables false
theorem StM.snoc {wr w1 wB w9 : World} {base X0 X1 : Nat} {v v' : Value} {M : List Ten} {b t v0 v1 : Nat → Nat} {x : Ten} (h : StM wr base v M b t v0 v1) (b1 : Below wr.heap.size wr w1) (hx : TenM w1 wr.heap.size w1.heap.size X0 X1 x)
  (bB : Below w1.heap.size w1 wB) (ho : Only (fun k => some k = v.ownBlock) wB w9) (hown : Own tnE 28 w9 base v' (M ++ [x])) (hloc : ∀ k, v'.ownBlock = some k → v.ownBlock = some k ∨ wB.heap.size ≤ k) (hbase : base ≤ wr.heap.size) :
  StM w9 base v' (M ++ [x]) (fun i => if i = M.length then wr.heap.size else b i) (fun i => if i = M.length then w1.heap.size else t i) (fun i => if i = M.length then X0 else v0 i) (fun i => if i = M.length then X1 else v1 i) := by
 have s1 := b1.size
 have s2 := bB.size
 have s3 := ho.size
 refine ⟨hown, fun i hi => ?_, fun i hi => ?_, fun i hi => ?_, fun i j hi hj hij k h1 h2 h3 => ?_, fun k hk i hi h3 => ?_⟩
 ·by_cases e : i = M.length
  ·subst e
   simp only [if_true, List.getElem_concat_length]
   exact (hx.kept bB).onlyR ho (fun k h1 h2 e => by have := (h.own.lt k e.symm).2; omega)
  ·have hi2 : i < M.length := by simp at hi; omega
   simp only [if_neg e, List.getElem_append_left hi2]
   exact (((h.ten i hi2).kept b1).kept (bB)).onlyR ho (fun k h1 h2 e => h.row k e.symm i hi2 ⟨h1, h2⟩)
 ·by_cases e : i = M.length
  ·simp only [if_pos e]; exact hbase
  ·simp only [if_neg e]; exact h.low i (by simp at hi; omega)
 ·by_cases e : i = M.length
  ·simp only [if_pos e]; omega
  ·simp only [if_neg e]; have := h.top i (by simp at hi; omega); omega
 ·simp only [List.length_append, List.length_singleton] at hi hj
  by_cases e1 : i = M.length
  ·simp only [if_pos e1] at h1 h2
   simp only [if_neg (show ¬ j = M.length by omega)] at h3
   have := h.top j (by omega)
   omega
  ·simp only [if_neg e1] at h1 h2
   by_cases e2 : j = M.length
   ·simp only [if_pos e2] at h3
    have := h.top i (by omega)
    omega
   ·simp only [if_neg e2] at h3
    exact h.dis i j (by omega) (by omega) hij k h1 h2 h3
 ·simp only [List.length_append, List.length_singleton] at hi
  rcases hloc k hk with hk | hk
  ·by_cases e : i = M.length
   ·simp only [if_pos e] at h3
    have := (h.own.lt k hk).2
    omega
   ·simp only [if_neg e] at h3
    exact h.row k hk i (by omega) h3
  ·by_cases e : i = M.length
   ·simp only [if_pos e] at h3
    omega
   ·simp only [if_neg e] at h3
    have := h.top i (by omega)
    omega
def NewsP (w : World) (e : Ending) (w' : World) : Prop := ∃ (v : Value) (L : List Ten) (b t v0 v1 : Nat → Nat), e = .returned v ∧ StM w' w.heap.size v L b t v0 v1 ∧ L.length = 3 ∧ (∀ x ∈ L, ∃ g, x = newT g) ∧ Below w.heap.size w w'
theorem news_key {L M : List Ten} (hL : ∀ x ∈ L, ∃ g, x = newT g) (hM : ∀ x ∈ M, ∃ g, x = newT g) (h : L.length = M.length) : L.map Ten.key = M.map Ten.key := by
 apply List.ext_getElem (by simpa using h)
 intro i h1 h2
 simp only [List.length_map] at h1 h2
 simp only [List.getElem_map]
 obtain ⟨g1, e1⟩ := hL _ (List.getElem_mem h1)
 obtain ⟨g2, e2⟩ := hM _ (List.getElem_mem h2)
 rw [e1, e2]
 exact newT_key g1 g2
theorem qAt_news {L : List Ten} (hL : ∀ x ∈ L, ∃ g, x = newT g) (q : Int) (i : Nat) (hi : i ≤ L.length) : qAt q L i = q + 10 * (i : Nat) := by
 induction i with
 | zero => simp [qAt]
 | succ i ih =>
  rw [qAt, ih (by omega), getD_ten (by omega)]
  obtain ⟨g, e⟩ := hL _ (List.getElem_mem (show i < L.length by omega))
  rw [e]
  simp only [endU, newT, List.length_singleton, List.length_nil, kqI, np0, List.getD_cons_zero]
  simp
  omega
set_option maxRecDepth 100000 in
set_option maxHeartbeats 8000000 in
theorem implNewState_any (w : World) : Calls Try.prog 18 #[] w fun e w' => NewsP w e w' := by
 obtain ⟨i0, hi, hz0, hz1, hz2⟩ := infoTn
 go_enter Try.func18, Try.ntmps18
 go_wp2_with fail
 have HI : Hid (StM w w.heap.size (.slice none 0 0) [] (fun _ => 0) (fun _ => 0) (fun _ => 0) (fun _ => 0)) := ⟨Own.nil _ _, fun i hi => by simp at hi, fun i hi => by simp at hi, fun i hi => by simp at hi, fun i j hi => by simp at hi, fun k hk i hi => by simp at hi⟩
 have HB0 : Hid (Below w.heap.size w w) := Below.refl _ _
 go_loopw [1, 2] (fun s i wr => ∃ (j : Nat) (va : Option Addr) (vc : Nat) (M : List Ten) (b t v0 v1 : Nat → Nat), i = .int .i64 j ∧ s = .slice va M.length vc ∧ Hid (M.length = j) ∧ j ≤ 3 ∧ Hid (StM wr w.heap.size (.slice va M.length vc) M b t v0 v1) ∧ Hid (∀ x ∈ M, ∃ g, x = newT g) ∧ Hid (Below w.heap.size w wr)) (fun _ i _ => 3 - (intOf i).toNat)
 case atStart => exact ⟨0, _, _, [], _, _, _, _, rfl, rfl, rfl, by omega, HI, (fun x hx => by cases hx), HB0⟩
 case round =>
  clear HI HB0
  obtain ⟨j, va, vc, M, b, t, v0, v1, rfl, rfl, HMJ, hj3, HI, HN, HB⟩ := hrel
  have hMl : M.length ≤ 3 := by have := HMJ.out; omega
  have hwr := HB.out.size
  by_cases hlt : j < 3
  ·have hjn : (j : Int) < 3 := by omega
   go_wp2_with fail
   refine (implNewTenant_any wr).mono ?_
   rintro e w1 ⟨g, rfl, hg1, hg2, o1, b1⟩
   have HX : Hid (TenM w1 wr.heap.size w1.heap.size wr.heap.size w1.heap.size (newT g)) := newT_mem o1 b1.size
   have z1 := b1.size
   have HB1 := Hid.intro b1
   have hown : w1.ownsRow w.heap.size 28 5 (.slice va M.length vc) M.length (tnE.f M) := HI.out.own.kept b1
   have HNX : Hid (∀ x ∈ M ++ [newT g], ∃ g, x = newT g) := fun x hx => by
    rcases List.mem_append.1 hx with hx | hx
    ·exact HN.out x hx
    ·exact ⟨g, by simpa using hx⟩
   obtain ⟨x, hx⟩ : ∃ x, newT g = x := ⟨_, rfl⟩
   rw [hx] at HX HNX
   have hxv : (newT g).v = x.v := by rw [hx]
   rw [hxv]
   clear o1 b1 hg1 hg2 hx hxv HN
   have HBB : Hid (Below w1.heap.size w1 (w1.alloc (.cells x.arr 28))) := one_below _ _
   go_wp2_with (at_builtin; refine wpList_append_own_at _ rfl _ _ 37 rfl w.heap.size 28 i0 (.agg #[.int .i64 0, .slice none 0 0, .int .i64 0, .slice none 0 0, .slice none 0 0]) 5 88 Try.underlying37 hi hz0 hz1 hz2 rfl (by decide) _ _ _ rfl (hown.alloc _) ⟨w1.heap.size, 0, none⟩ 1 1 (tnE.c x) rfl rfl ?d1 ?d2 ?d3 ?d4 ?d5 ?_)
   case d1 =>
    intro j u hj
    rw [add_none, Nat.zero_add, World.cell?_alloc_at _ _ _ _ rfl]
    simpa [tnE] using hj
   case d2 => exact tnE.one _
   case d3 => unfold maxLen; omega
   case d4 => omega
   case d5 => simp; omega
   intro v' w9 hown' hgrow _ hloc
   have HOw : Own tnE 28 w9 w.heap.size v' (M ++ [x]) := Own.mk hown' (by simp) (by rw [tnE.f_append, tnE.f_one1])
   have ho := grown_only hgrow
   obtain ⟨g9, cap2, rfl⟩ : ∃ g cap, v' = .slice (some ⟨g, 0, none⟩) (M.length + 1) cap := by
    rcases HOw.look with ⟨_, h⟩ | ⟨g, cap, h, _⟩
    ·simp at h
    ·exact ⟨g, cap, by simpa using h⟩
   have HE := Hid.intro (HI.out.snoc HB1.out HX.out HBB.out ho HOw (fun k hk => by
    rcases hloc with h | h
    ·exact .inl (h.symm.trans hk)
    ·rw [h] at hk
     exact .inr (by have := Option.some.inj hk; simp; omega)) hwr)
   have HB9 : Hid (Below w.heap.size w w9) := (HB.out.trans ((HB1.out.trans (HBB.out.mono z1)).mono hwr)).trans (ho.below (by simp; omega) (fun k hk e => by have := (HI.out.own.lt k e.symm).1; omega))
   clear hown hown' hgrow HOw ho hloc HI HB HB1 HBB HX
   go_wp2
   go_roundw
   case rel => exact ⟨j + 1, _, _, M ++ [x], _, _, _, _, by go_num, by rw [List.length_append]; rfl, by have := HMJ.out; unfold Hid; rw [List.length_append, List.length_singleton]; omega, by omega, by unfold Hid; rw [List.length_append, List.length_singleton]; exact HE.out, HNX, HB9⟩
   case measure => simp [intOf]; omega
  ·obtain rfl : j = 3 := by omega
   have hjn : ¬ ((3 : Nat) : Int) < 3 := by omega
   go_wp2_with fail
   go_ret
   exact ⟨_, M, b, t, v0, v1, rfl, HI.out, HMJ.out, HN.out, HB.out⟩
set_option maxRecDepth 100000 in
set_option maxHeartbeats 8000000 in
theorem specNewState_any (w : World) : Calls Try.prog 17 #[] w fun e w' => NewsP w e w' := by
 obtain ⟨i0, hi, hz0, hz1, hz2⟩ := infoTn
 go_enter Try.func17, Try.ntmps17
 go_upto_region 2 with fail
 have HI0 := (World.ownsRow_made (base := w.heap.size) (e := 28) (size := 5) w #[] 0 (Nat.le_refl _) (by decide) rfl : Own tnE 28 (w.alloc (.cells #[] 28)) w.heap.size (.slice (some ⟨w.heap.size, 0, none⟩) 0 0) [])
 have HB0 : Hid (Below w.heap.size w (w.alloc (.cells #[] 28))) := one_below _ _
 generalize w.alloc (.cells #[] 28) = W at HI0 HB0 ⊢
 have HI : Hid (StM W w.heap.size (.slice (some ⟨w.heap.size, 0, none⟩) 0 0) [] (fun _ => 0) (fun _ => 0) (fun _ => 0) (fun _ => 0)) := ⟨HI0, fun i hi => by simp at hi, fun i hi => by simp at hi, fun i hi => by simp at hi, fun i j hi => by simp at hi, fun k hk i hi => by simp at hi⟩
 clear HI0
 go_wp2_with fail
 go_loopw [1, 2] (fun s i wr => ∃ (j : Nat) (va : Option Addr) (vc : Nat) (M : List Ten) (b t v0 v1 : Nat → Nat), i = .int .i64 j ∧ s = .slice va M.length vc ∧ Hid (M.length = j) ∧ j ≤ 3 ∧ Hid (StM wr w.heap.size (.slice va M.length vc) M b t v0 v1) ∧ Hid (∀ x ∈ M, ∃ g, x = newT g) ∧ Hid (Below w.heap.size w wr)) (fun _ i _ => 3 - (intOf i).toNat)
 case atStart => exact ⟨0, _, _, [], _, _, _, _, rfl, rfl, rfl, by omega, HI, (fun x hx => by cases hx), HB0⟩
 case round =>
  clear HI HB0
  obtain ⟨j, va, vc, M, b, t, v0, v1, rfl, rfl, HMJ, hj3, HI, HN, HB⟩ := hrel
  have hMl : M.length ≤ 3 := by have := HMJ.out; omega
  have hwr := HB.out.size
  by_cases hlt : j < 3
  ·have hjn : (j : Int) < 3 := by omega
   go_wp2_with fail
   refine (specNewTenant_any wr).mono ?_
   rintro e w1 ⟨g, rfl, hg1, hg2, o1, b1⟩
   have HX : Hid (TenM w1 wr.heap.size w1.heap.size wr.heap.size w1.heap.size (newT g)) := newT_mem o1 b1.size
   have z1 := b1.size
   have HB1 := Hid.intro b1
   have hown : w1.ownsRow w.heap.size 28 5 (.slice va M.length vc) M.length (tnE.f M) := HI.out.own.kept b1
   have HNX : Hid (∀ x ∈ M ++ [newT g], ∃ g, x = newT g) := fun x hx => by
    rcases List.mem_append.1 hx with hx | hx
    ·exact HN.out x hx
    ·exact ⟨g, by simpa using hx⟩
   obtain ⟨x, hx⟩ : ∃ x, newT g = x := ⟨_, rfl⟩
   rw [hx] at HX HNX
   have hxv : (newT g).v = x.v := by rw [hx]
   rw [hxv]
   clear o1 b1 hg1 hg2 hx hxv HN
   have HBB : Hid (Below w1.heap.size w1 (w1.alloc (.cells x.arr 28))) := one_below _ _
   go_wp2_with (at_builtin; refine wpList_append_own_at _ rfl _ _ 37 rfl w.heap.size 28 i0 (.agg #[.int .i64 0, .slice none 0 0, .int .i64 0, .slice none 0 0, .slice none 0 0]) 5 88 Try.underlying37 hi hz0 hz1 hz2 rfl (by decide) _ _ _ rfl (hown.alloc _) ⟨w1.heap.size, 0, none⟩ 1 1 (tnE.c x) rfl rfl ?d1 ?d2 ?d3 ?d4 ?d5 ?_)
   case d1 =>
    intro j u hj
    rw [add_none, Nat.zero_add, World.cell?_alloc_at _ _ _ _ rfl]
    simpa [tnE] using hj
   case d2 => exact tnE.one _
   case d3 => unfold maxLen; omega
   case d4 => omega
   case d5 => simp; omega
   intro v' w9 hown' hgrow _ hloc
   have HOw : Own tnE 28 w9 w.heap.size v' (M ++ [x]) := Own.mk hown' (by simp) (by rw [tnE.f_append, tnE.f_one1])
   have ho := grown_only hgrow
   obtain ⟨g9, cap2, rfl⟩ : ∃ g cap, v' = .slice (some ⟨g, 0, none⟩) (M.length + 1) cap := by
    rcases HOw.look with ⟨_, h⟩ | ⟨g, cap, h, _⟩
    ·simp at h
    ·exact ⟨g, cap, by simpa using h⟩
   have HE := Hid.intro (HI.out.snoc HB1.out HX.out HBB.out ho HOw (fun k hk => by
    rcases hloc with h | h
    ·exact .inl (h.symm.trans hk)
    ·rw [h] at hk
     exact .inr (by have := Option.some.inj hk; simp; omega)) hwr)
   have HB9 : Hid (Below w.heap.size w w9) := (HB.out.trans ((HB1.out.trans (HBB.out.mono z1)).mono hwr)).trans (ho.below (by simp; omega) (fun k hk e => by have := (HI.out.own.lt k e.symm).1; omega))
   clear hown hown' hgrow HOw ho hloc HI HB HB1 HBB HX
   go_wp2
   go_roundw
   case rel => exact ⟨j + 1, _, _, M ++ [x], _, _, _, _, by go_num, by rw [List.length_append]; rfl, by have := HMJ.out; unfold Hid; rw [List.length_append, List.length_singleton]; omega, by omega, by unfold Hid; rw [List.length_append, List.length_singleton]; exact HE.out, HNX, HB9⟩
   case measure => simp [intOf]; omega
  ·obtain rfl : j = 3 := by omega
   have hjn : ¬ ((3 : Nat) : Int) < 3 := by omega
   go_wp2_with fail
   go_ret
   exact ⟨_, M, b, t, v0, v1, rfl, HI.out, HMJ.out, HN.out, HB.out⟩
theorem news_gd {L : List Ten} (hL : ∀ x ∈ L, ∃ g, x = newT g) : ∀ x ∈ L, Gd x := fun x hx => by
 obtain ⟨g, rfl⟩ := hL x hx
 exact newT_good g
theorem news_q {L : List Ten} (hL : ∀ x ∈ L, ∃ g, x = newT g) (h3 : L.length = 3) : ∀ i, i < L.length → 1 ≤ qAt 1 L i ∧ qAt 1 L i ≤ 900 := fun i hi => by
 rw [qAt_news hL 1 i (by omega)]
 omega
theorem StB_only {w w' : World} {v : Value} {n B : Nat} {b t : Nat → Nat} {L : List Ten} {v0 v1 : Nat → Nat} {base : Nat} {w0 : World} (hs : StM w0 base v L b t v0 v1) (hn : n = L.length) (ho : Only (StB v n b t) w w') (hB : B ≤ base) (hw : B ≤ w.heap.size) : Below B w w' :=
 ho.below hw (fun k hk e => by
  subst hn
  rcases e with e | ⟨i, hi, h1, h2⟩
  ·have := (hs.own.lt k e).1; omega
  ·have := hs.low i hi; omega)
set_option maxRecDepth 100000 in
set_option maxHeartbeats 8000000 in
theorem newState_law (w : World) :
  Calls Try.prog 5 #[] w fun e w' => e = .returned (.bool true) ∧ Below w.heap.size w w' := by
 go_enter Try.func5, Try.ntmps5
 go_wp2_with fail
 refine (specNewState_any w).mono ?_
 rintro e w1 ⟨va, La, b1, t1, x1, y1, rfl, hs1, ha3, haN, bw1⟩
 have HR1 := Hid.intro hs1.rowAll
 have HAN := Hid.intro haN
 have HB := Hid.intro bw1
 have z1 := bw1.size
 clear hs1 haN bw1
 go_wp2_with fail
 refine (implNewState_any w1).mono ?_
 rintro e w3 ⟨vb, Lb, b, t, v0, v1, rfl, hs3, hb3, hbN, bw3⟩
 have HM3 := Hid.intro hs3
 have HBN := Hid.intro hbN
 have HK : Hid (Lb.map Ten.key = La.map Ten.key) := news_key hbN HAN.out (by omega)
 have HV1 : Hid (StR w3 w1.heap.size va La) := HR1.out.kept bw3
 replace HB := Hid.intro (HB.out.trans (bw3.mono z1))
 have z3 := bw3.size
 clear hs3 hbN bw3 HR1
 go_wp2_with fail
 refine (eqTenantS_any Lb La vb va w3.heap.size w3 (Nat.le_refl _) HM3.out.rowAll (HV1.out.up z3) HK.out).mono ?_
 rintro e w5 ⟨rfl, b5⟩
 replace HM3 := Hid.intro (HM3.out.kept b5)
 replace HV1 := Hid.intro (HV1.out.kept (b5.mono z3))
 replace HB := Hid.intro (HB.out.trans (b5.mono HB.out.size))
 have z5 := b5.size
 clear b5
 go_wp2_with fail
 refine (markTenantS_any Lb vb w1.heap.size b t v0 v1 1 w5 HM3.out (news_gd HBN.out) (by omega) (news_q HBN.out hb3)).mono ?_
 rintro e w6 ⟨rfl, m6, n6⟩
 replace HV1 := Hid.intro (HV1.out.kept (StB_only HM3.out rfl n6 (Nat.le_refl _) (by omega)))
 replace HB := Hid.intro (HB.out.trans (StB_only HM3.out rfl n6 z1 HB.out.size))
 have HR6 := Hid.intro m6.rowAll
 have z6 := n6.size
 have hqv := qAt_news HBN.out 1 Lb.length (Nat.le_refl _)
 obtain ⟨mm, hmm⟩ : ∃ mm : Int, qAt 1 Lb Lb.length = mm := ⟨_, rfl⟩
 have HMM := Hid.intro hmm
 rw [hmm] at hqv ⊢
 have hm0 : ¬ mm < 0 := by omega
 have hme : (mm != mm) = false := by simp
 have HLN : Hid ((markUL 1 Lb Lb.length).length = Lb.length) := markUL_len _ _ _
 clear m6 n6 hmm HM3
 go_wp2_with fail
 refine (heldTenantS_any Lb (markUL 1 Lb Lb.length) vb w6.heap.size 1 w6 (Nat.le_refl _) HR6.out rfl (news_gd HBN.out) (news_q HBN.out hb3)).mono ?_
 rintro e w7 ⟨rfl, b7⟩
 rw [HLN.out, HMM.out]
 replace HR6 := Hid.intro (HR6.out.on b7)
 replace HV1 := Hid.intro (HV1.out.kept (b7.mono (by omega)))
 replace HB := Hid.intro (HB.out.trans (b7.mono HB.out.size))
 have z7 := b7.size
 clear b7
 go_wp2_with fail
 refine (implNewState_any w7).mono ?_
 rintro e w8 ⟨vc, Lc, b8, t8, x8, y8, rfl, hs8, hc3, hcN, bw8⟩
 have HR8 := Hid.intro hs8.rowAll
 have HK8 : Hid (Lc.map Ten.key = La.map Ten.key) := news_key hcN HAN.out (by omega)
 replace HR6 := Hid.intro (HR6.out.on bw8)
 replace HV1 := Hid.intro (HV1.out.kept (bw8.mono (by omega)))
 replace HB := Hid.intro (HB.out.trans (bw8.mono HB.out.size))
 have z8 := bw8.size
 clear hs8 hcN bw8
 go_wp2_with fail
 refine (eqTenantS_any Lc La vc va w8.heap.size w8 (Nat.le_refl _) HR8.out (HV1.out.up (by omega)) HK8.out).mono ?_
 rintro e wa ⟨rfl, ba⟩
 replace HR6 := Hid.intro (HR6.out.on ba)
 replace HB := Hid.intro (HB.out.trans (ba.mono HB.out.size))
 clear ba HV1 HR8
 go_wp2_with fail
 refine (heldTenantS_any Lb (markUL 1 Lb Lb.length) vb wa.heap.size 1 wa (Nat.le_refl _) HR6.out rfl (news_gd HBN.out) (news_q HBN.out hb3)).mono ?_
 rintro e wb ⟨rfl, bb⟩
 rw [HLN.out, HMM.out]
 replace HB := Hid.intro (HB.out.trans (bb.mono HB.out.size))
 clear bb
 go_wp2
 go_ret
 exact ⟨rfl, HB.out⟩
end Go.Proofs.Ytegdogdlohoheaa
