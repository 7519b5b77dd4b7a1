/- Write of the program. -/
import Derived.Test.YtkilepoimocoeabHeldI
import Derived.Test.YtkilepoimocoeabWrS
import Derived.Test.YtkilepoimocoeabLoseI
import Derived.Deep.Cut
import Derived.Deep.RegionHeld3
namespace Go.Proofs.Ytkilepoimocoeab
open Go.RowKit
set_option linter.unusedVariables false
structure LI (w y : World) (kb nb rb : Nat) (S : Sto) (v u : Value) (K : Kp) (vk : Value) : Prop where
  ne : kb ≠ nb ∧ kb ≠ rb ∧ nb ≠ rb ∧ w.heap.size ≤ kb ∧ w.heap.size ≤ nb ∧ w.heap.size ≤ rb
  n : Blk y nb (sA S v u)
  r : Blk y rb zS
  k : Blk y kb (kA K vk)
  ev : OwnE y w.heap.size v S.k.e
  ru : OwnR y w.heap.size u S.l
  ek : OwnE y w.heap.size vk K.e
  hv : ∀ k, v.ownBlock = some k → k ≠ kb ∧ k ≠ nb ∧ k ≠ rb ∧ ¬ vk.ownBlock = some k ∧ ¬ u.ownBlock = some k
  hu : ∀ k, u.ownBlock = some k → k ≠ kb ∧ k ≠ nb ∧ k ≠ rb ∧ ¬ vk.ownBlock = some k
  hk : ∀ k, vk.ownBlock = some k → k ≠ kb ∧ k ≠ nb ∧ k ≠ rb
  bel : Below w.heap.size w y
theorem LI.kept {w y y' : World} {kb nb rb : Nat} {S : Sto} {v u : Value} {K : Kp} {vk : Value} (h : LI w y kb nb rb S v u K vk) (hb : Below y.heap.size y y') : LI w y' kb nb rb S v u K vk :=
  ⟨h.ne, h.n.kept hb, h.r.kept hb, h.k.kept hb, h.ev.kept hb, h.ru.kept hb, h.ek.kept hb, h.hv, h.hu, h.hk, h.bel.trans (hb.mono h.bel.size)⟩
theorem LI.kown {w y : World} {kb nb rb : Nat} {S : Sto} {v u : Value} {K : Kp} {vk : Value} (h : LI w y kb nb rb S v u K vk) : KOwn y kb w.heap.size K vk :=
  ⟨⟨h.k.hi, by rw [h.k.cell]; rfl, by rw [h.k.cell]; rfl, by rw [h.k.cell]; rfl, by rw [h.k.cell]; rfl, by rw [h.k.cell]; rfl, by rw [h.k.cell]; rfl, h.k.fro⟩, h.ek, fun k hk e => (h.hk k hk).1 e.symm⟩
/-- Behind take. -/
theorem LI.took {w y y' : World} {kb nb rb : Nat} {S : Sto} {v u : Value} {K K' : Kp} {vk vk' : Value} (h : LI w y kb nb rb S v u K vk) (hk' : KOwn y' kb w.heap.size K' vk') (hl : Loc vk vk' y) (ht : Took kb vk y y') : LI w y' kb nb rb S v u K' vk' := by
  have ho := ht.only
  have hne := h.ne
  have hloc : ∀ k, vk'.ownBlock = some k → vk.ownBlock = some k ∨ y.heap.size ≤ k := hl
  refine ⟨h.ne, h.n.only ho (fun e => ?_), h.r.only ho (fun e => ?_), ?_, h.ev.only ho (fun k hk e => ?_), h.ru.only ho (fun k hk e => ?_), hk'.2.1, fun k hk => ?_, fun k hk => ?_, fun k hk => ?_, ?_⟩
  · rcases e with e | e
    · omega
    · exact (h.hk _ e.symm).2.1 rfl
  · rcases e with e | e
    · omega
    · exact (h.hk _ e.symm).2.2 rfl
  · have x := hk'.1
    refine ⟨x.lt, fun o => ?_, x.f⟩
    have hrest := ht.rest o
    match o with
    | 0 => exact x.c0
    | 1 => exact x.c1
    | 2 => exact x.c2
    | 3 => exact x.c3
    | 4 => exact x.c4
    | 5 => exact x.c5
    | q + 6 =>
      rw [hrest (by omega), h.k.cell]
      rfl
  · rcases e with e | e
    · exact (h.hv k hk).1 e
    · exact (h.hv k hk).2.2.2.1 e.symm
  · rcases e with e | e
    · exact (h.hu k hk).1 e
    · exact (h.hu k hk).2.2.2 e.symm
  · refine ⟨(h.hv k hk).1, (h.hv k hk).2.1, (h.hv k hk).2.2.1, fun e => ?_, (h.hv k hk).2.2.2.2⟩
    rcases hloc k e with h1 | h1
    · exact (h.hv k hk).2.2.2.1 h1
    · have := (h.ev.lt k hk).2; omega
  · refine ⟨(h.hu k hk).1, (h.hu k hk).2.1, (h.hu k hk).2.2.1, fun e => ?_⟩
    rcases hloc k e with h1 | h1
    · exact (h.hu k hk).2.2.2 h1
    · have := (h.ru.lt k hk).2; omega
  · rcases hloc k hk with h1 | h1
    · exact h.hk k h1
    · have := h.k.hi; have := h.n.hi; have := h.r.hi
      exact ⟨by omega, by omega, by omega⟩
  · refine h.bel.trans (ho.below h.bel.size (fun k hk e => ?_))
    rcases e with e | e
    · omega
    · have := (h.ek.lt k e.symm).1; omega
theorem LI.push {w y y' : World} {kb nb rb : Nat} {S : Sto} {v u : Value} {K : Kp} {vk : Value} {g n cap : Nat} {l : List Rc} (h : LI w y kb nb rb S v u K vk) (ho : Only (fun k => some k = u.ownBlock) y y') (hr : OwnR y' w.heap.size (.slice (some ⟨g, 0, none⟩) n cap) l)
    (hg : u.ownBlock = some g ∨ y.heap.size ≤ g) : LI w (y'.setCell ⟨nb, 6, none⟩ (.slice (some ⟨g, 0, none⟩) n cap)) kb nb rb ⟨S.k, l⟩ v (.slice (some ⟨g, 0, none⟩) n cap) K vk := by
  have hne := h.ne
  have o2 : Only (fun k => k = nb) y' (y'.setCell ⟨nb, 6, none⟩ (.slice (some ⟨g, 0, none⟩) n cap)) := only_setC y' nb 6 [.slice (some ⟨g, 0, none⟩) n cap]
  have hg2 : g ≠ kb ∧ g ≠ nb ∧ g ≠ rb ∧ ¬ vk.ownBlock = some g := by
    rcases hg with h1 | h1
    · exact h.hu g h1
    · have := h.k.hi; have := h.n.hi; have := h.r.hi
      exact ⟨by omega, by omega, by omega, fun e => by have := (h.ek.lt g e).2; omega⟩
  refine ⟨h.ne, (h.n.only ho (fun e => (h.hu _ e.symm).2.1 rfl)).set 6 (by simp) _, (h.r.only ho (fun e => (h.hu _ e.symm).2.2.1 rfl)).only o2 (by omega), (h.k.only ho (fun e => (h.hu _ e.symm).1 rfl)).only o2 (by omega),
    (h.ev.only ho (fun k hk e => (h.hv k hk).2.2.2.2 e.symm)).only o2 (fun k hk e => (h.hv k hk).2.1 e), hr.only o2 (fun k hk e => by simp only [Value.ownBlock, Option.some.injEq] at hk; omega), (h.ek.only ho (fun k hk e => (h.hu k e.symm).2.2.2 hk)).only o2 (fun k hk e => (h.hk k hk).2.1 e), fun k hk => ?_, fun k hk => ?_, h.hk, ?_⟩
  · refine ⟨(h.hv k hk).1, (h.hv k hk).2.1, (h.hv k hk).2.2.1, (h.hv k hk).2.2.2.1, fun e => ?_⟩
    simp only [Value.ownBlock, Option.some.injEq] at e
    subst e
    rcases hg with h1 | h1
    · exact (h.hv g hk).2.2.2.2 h1
    · have := (h.ev.lt g hk).2; omega
  · simp only [Value.ownBlock, Option.some.injEq] at hk
    subst hk
    exact hg2
  · refine h.bel.trans ((ho.below h.bel.size (fun k hk e => ?_)).trans (o2.below (Nat.le_trans h.bel.size ho.size) (fun k hk e => by omega)))
    have := (h.ru.lt k e.symm).1
    omega
/-- The answer. -/
theorem LI.fin {w y : World} {kb nb rb : Nat} {S : Sto} {v u : Value} {K : Kp} {vk : Value} (h : LI w y kb nb rb S v u K vk) : NewS w (setC y rb 0 (sA S v u).toList) v u S := by
  have o2 := only_setC y rb 0 (sA S v u).toList
  have := h.ne
  exact ⟨h.ev.only o2 (fun k hk e => (h.hv k hk).2.2.1 e), h.ru.only o2 (fun k hk e => (h.hu k hk).2.2.1 e), fun k hk => (h.hv k hk).2.2.2.2, h.bel.trans (o2.below h.bel.size (fun k hk e => by omega))⟩
/-- append of records onto nil, inside a region that draws its order. -/
theorem step_nilR {w : World} {ops : Array Oper} {o : Oper} {a : Act} {KK : Act → World → Prop} {Q : Exit → Act → World → Prop} {E : Prop} (hgd : o.guard = none) (s x : Operand)
    (ho : o.op = .call { callee := .builtin .append, args := #[s, x], argTypes := #[36, 36] })
    (l : List Rc) (N : Nat) (hs : a.eval s = .slice none 0 0) (vx : Value) (hx : a.eval x = vx) (hr : RowR w N vx l) (hlen : l.length ≤ 2000000)
    (h : ∀ a' m' c' w', OwnR w' w.heap.size (.slice a' m' c') l → Below w.heap.size w w' → KK (a.put o.dst (.slice a' m' c')) w') : if Region.wanted o (yielded ops a.tmps) = true then Oper.wp Try.prog o a w KK Q else E := by
  obtain ⟨i0, hi, hz0, hz1, hz2⟩ := info_parts Try.infoR
  by_cases h0 : l = []
  · subst h0
    have hw : Region.wanted o (yielded ops a.tmps) = true := by simp [Region.wanted, hgd]
    rw [if_pos hw]
    obtain ⟨ad, c, rfl, _, _, _⟩ := hr
    have hrun : (Builtin.append_ #[36, 36] o.type #[.slice none 0 0, .slice ad 0 c]).run Try.prog w = .ok (.slice none 0 0) w := by
      cases ad <;> simp [Builtin.append_, run_underlying Try.underlying36, sizeOf, typeInfo, hi, Builtin.lenOf, Builtin.firstCells, loadCells, loadCellsFrom]
    unfold Oper.wp execOp
    simp only [ho, resolve, invoke, builtin, Sem.run_bind, Sem.run_pure, Result.andThen_ok, List.map_toArray, List.map_cons, List.map_nil, hs, hx, List.length_nil, hrun]
    exact h none 0 0 w (OwnR.nil _ _) (Below.refl _ _)
  · obtain ⟨ad, c, rfl, h1, h2, h3⟩ := id hr
    obtain ⟨b, off, rfl, hbN, h4⟩ := h3 h0
    refine step_R hgd s x ho w.heap.size (.slice none 0 0) [] l hs (OwnR.nil _ _) ⟨b, off, none⟩ l.length c hx rfl (hr.cells h0).2 (by simp; omega) (Nat.le_refl _) (List.length_pos_iff.2 h0) ?_
    intro g cap' w' o9 hO hloc hg
    simp only [List.length_nil, Nat.zero_add, List.nil_append] at o9 ⊢
    exact h _ _ _ w' o9 (hO.below (Nat.le_refl _) (fun k hk e => by cases e))
theorem CameI.out9 {K0 K : Kp} {room j : Nat} {L : List Rc} (h : CameI K0 room L j K) (hj : L.length = j) : came K0 room L = j := by subst hj; exact h.out
/-- What the copy of a store comes to. -/
structure NX (X y : World) (nb : Nat) (S : Sto) (v u : Value) : Prop where
  lo : X.heap.size ≤ nb
  n : Blk y nb (sA S v u)
  e : OwnE y X.heap.size v S.k.e
  r : OwnR y X.heap.size u S.l
  he : ∀ k, v.ownBlock = some k → k ≠ nb ∧ ¬ u.ownBlock = some k
  hr : ∀ k, u.ownBlock = some k → k ≠ nb
  bel : Below X.heap.size X y
set_option maxRecDepth 100000 in
set_option maxHeartbeats 8000000 in
theorem implWrite_any (S : Sto) (v u : Value) (L : List Rc) (x : Value) (N : Nat) (n : Int) (w : World) (hN : N ≤ w.heap.size) (hr : RowE w N v S.k.e) (hu : RowR w N u S.l) (hx : RowR w N x L) (hl : L.length ≤ 1048576) :
    Calls Try.prog 26 #[stV S v u, x, .int .i64 n] w fun e w' => ∃ v' u', e = .returned (.tuple #[stV (wrS S L n) v' u', .int .i64 (wrN S L n)]) ∧ NewS w w' v' u' (wrS S L n) := by
  have HR := Hid.intro hr
  have HU := Hid.intro hu
  have HX := Hid.intro hx
  obtain ⟨av, cv, rfl, -, -, -⟩ := hr
  obtain ⟨au, cu, rfl, -, -, -⟩ := hu
  obtain ⟨ax, cx, rfl, lx, mx, -⟩ := hx
  go_enter Try.func26, Try.ntmps26
  go_wp2_with fail
  obtain ⟨W, hW, bW, zW, c1, f1, c2, f2⟩ := boxed2 w (sA S (.slice av S.k.e.length cv) (.slice au S.l.length cu)) zS 38 38
  try simp only [hW]
  refine (held_any S _ _ N W (by omega) (HR.out.kept (bW.mono hN)) (HU.out.kept (bW.mono hN))).mono ?_
  rintro e w1 ⟨vk, rfl, ok, b1⟩
  obtain ⟨ak, ck, rfl⟩ := ok.slice
  have S1 : Hid (Blk w1 w.heap.size (sA S (.slice av S.k.e.length cv) (.slice au S.l.length cu))) := (Blk.mk (by omega) c1 f1 : Blk W _ _).kept b1
  have R1 : Hid (Blk w1 (w.heap.size + 1) zS) := (Blk.mk (by omega) c2 f2 : Blk W _ _).kept b1
  have HB : Hid (Below w.heap.size w w1) := bW.trans (b1.mono (by omega))
  have z1 : w.heap.size + 1 < w1.heap.size := by have := b1.size; omega
  have HOK := Hid.intro (show OwnE w1 (w.heap.size + 1 + 1) (.slice ak (heldK S).e.length ck) (heldK S).e by rw [← zW]; exact ok)
  clear hW bW zW c1 f1 c2 f2 b1 ok
  go_upto_region 2 with fail
  obtain ⟨X, hX, bX, zX, cX, fX⟩ := boxed w1 (kA (heldK S) (.slice ak (heldK S).e.length ck)) 35
  try simp only [hX]
  have K1 : Hid (Blk X w1.heap.size (kA (heldK S) (.slice ak (heldK S).e.length ck))) := ⟨by omega, cX, fX⟩
  have HLT : Hid (∀ k, (Value.slice ak (heldK S).e.length ck).ownBlock = some k → w.heap.size + 1 + 1 ≤ k ∧ k < w1.heap.size) := HOK.out.lt
  replace S1 := Hid.intro (S1.out.kept bX)
  replace R1 := Hid.intro (R1.out.kept bX)
  replace HOK := Hid.intro (HOK.out.kept bX)
  replace HB := Hid.intro (HB.out.trans (bX.mono HB.out.size))
  clear hX bX cX fX
  cases hst : storeB S with
  | false =>
    have dr := R1.out.cell
    have fr := R1.out.fro
    have zr := R1.out.hi
    clear S1
    go_wp2
    refine bodyPost_ret (v := .tuple #[stV ⟨kpZ, []⟩ (.slice none 0 0) (.slice none 0 0), .int .i64 0]) (by simp [results, Try.results26, go_sem, dr, kpZ]) rfl ?_
    rw [wrS_no hst, wrN_no hst]
    refine ⟨_, _, rfl, OwnE.nil _ _, OwnR.nil _ _, (fun k hk => by cases hk), ?_⟩
    repeat (refine Below.setCell ?_ (by simp <;> omega) _)
    exact HB.out
  | true =>
    have hk80 := (storeB_out hst).2.1
    have hke : S.k.e.length ≤ 60 := (Sm.of (storeB_out hst).1).2.2
    have HS : Hid (∀ w', Below X.heap.size X w' → SLo S (.slice av S.k.e.length cv) (.slice au S.l.length cu) w.heap.size w') := fun w' hb => by
      have d1 := (S1.out.kept hb).cell
      exact ⟨by rw [d1]; rfl, by rw [d1]; rfl, by rw [d1]; rfl, by rw [d1]; rfl, by rw [d1]; rfl, by rw [d1]; rfl, by rw [d1]; rfl⟩
    have HRX : Hid (∀ w', Below X.heap.size X w' → RowE w' N (.slice av S.k.e.length cv) S.k.e ∧ RowR w' N (.slice au S.l.length cu) S.l) := fun w' hb =>
      have hh := (HB.out.trans (hb.mono HB.out.size)).mono hN
      ⟨HR.out.kept hh, HU.out.kept hh⟩
    have hNX : N ≤ X.heap.size := Nat.le_trans hN HB.out.size
    go_upto_region 4 with fail
    go_cut [10] from 22 (fun s wc => ∃ nb aA cA a9 m9 c9, s = .pointer (some ⟨nb, 0, none⟩) ∧ NX X wc nb S (.slice aA S.k.e.length cA) (.slice a9 m9 c9))
    case first =>
      refine wp_region_held_drew (S := SLo S (.slice av S.k.e.length cv) (.slice au S.l.length cu) w.heap.size) (by kernel_rfl) (HS.out _ (Below.refl _ _).drew) (fun hHeld => ?_)
      have BWD : Below X.heap.size X X.drew := (Below.refl _ _).drew
      generalize X.drew = D at BWD hHeld ⊢
      refine take1s (i := 0) (d := some 22) (v := ?_) rfl rfl (by kernel_rfl) (by kernel_rfl) (by kernel_rfl) (fun _ _ _ h => h) (Or.inl ⟨by rfl, ?_⟩) (by assumption) ?_
      rotate_left 1
      · intro w hSw
        obtain ⟨q0, q1, q2, q3, q4, q5, q6⟩ := hSw
        go_simp <;> with_reducible rfl
      simp only [Act.put, List.setIfInBounds_toArray]
      try simp only [List.set_cons_succ]
      try simp only [List.set_cons_zero]
      refine take1s (i := 1) (d := some 23) (v := ?_) rfl rfl (by kernel_rfl) (by kernel_rfl) (by kernel_rfl) (fun _ _ _ h => h) (Or.inl ⟨by rfl, ?_⟩) (by assumption) ?_
      rotate_left 1
      · intro w hSw
        obtain ⟨q0, q1, q2, q3, q4, q5, q6⟩ := hSw
        go_simp <;> with_reducible rfl
      simp only [Act.put, List.setIfInBounds_toArray]
      try simp only [List.set_cons_succ]
      try simp only [List.set_cons_zero]
      refine take1s (i := 3) (d := some 25) (v := ?_) rfl rfl (by kernel_rfl) (by kernel_rfl) (by kernel_rfl) (fun _ _ _ h => h) (Or.inl ⟨by rfl, ?_⟩) (by assumption) ?_
      rotate_left 1
      · intro w hSw
        obtain ⟨q0, q1, q2, q3, q4, q5, q6⟩ := hSw
        go_simp <;> with_reducible rfl
      simp only [Act.put, List.setIfInBounds_toArray]
      try simp only [List.set_cons_succ]
      try simp only [List.set_cons_zero]
      refine take1s (i := 4) (d := some 26) (v := ?_) rfl rfl (by kernel_rfl) (by kernel_rfl) (by kernel_rfl) (fun _ _ _ h => h) (Or.inl ⟨by rfl, ?_⟩) (by assumption) ?_
      rotate_left 1
      · intro w hSw
        obtain ⟨q0, q1, q2, q3, q4, q5, q6⟩ := hSw
        go_simp <;> with_reducible rfl
      simp only [Act.put, List.setIfInBounds_toArray]
      try simp only [List.set_cons_succ]
      try simp only [List.set_cons_zero]
      refine wpAnyH_ready (rs := [2, 7]) (by kernel_rfl) (by simp) ?_
      refine AllReadyH.cons rfl (fun KK hKK => ?_) (AllReadyH.cons rfl (fun KK hKK => ?_) AllReadyH.nil)
      · skip
        go_simp
        refine (copied_any S.k _ N D (by have := BWD.size; omega) (HRX.out _ BWD).1 (by omega)).mono ?_
        rintro e wA ⟨vA, rfl, oA, bA⟩
        obtain ⟨aA, capA, rfl⟩ := oA.slice
        have BWwA : Below X.heap.size X wA := BWD.trans (bA.mono BWD.size)
        have zA := bA.size
        have HOA := Hid.intro (OwnE.lower oA BWD.size)
        have HLA : Hid (∀ k, (Value.slice aA S.k.e.length capA).ownBlock = some k → D.heap.size ≤ k ∧ k < wA.heap.size) := oA.lt
        clear oA bA
        go_simp
        refine hKK.out _ _ (HS.out _ BWwA) (fun hHeld2 => ?_)
        clear hKK KK hHeld
        have hHeld := hHeld2
        clear hHeld2
        refine wpAnyH_ready (rs := [5, 7]) (by kernel_rfl) (by simp) ?_
        refine AllReadyH.cons rfl (fun KK hKK => ?_) (AllReadyH.cons rfl (fun KK hKK => ?_) AllReadyH.nil)
        · skip
          refine step_nilR rfl _ _ rfl S.l N rfl _ rfl (HRX.out _ BWwA).2 (by omega) ?_
          intro a9 m9 c9 w9 o9 b9
          have BWw9 : Below X.heap.size X w9 := BWwA.trans (b9.mono BWwA.size)
          have z9 := b9.size
          have HO9 := Hid.intro (OwnR.lower o9 BWwA.size)
          have HL9 : Hid (∀ k, (Value.slice a9 m9 c9).ownBlock = some k → wA.heap.size ≤ k ∧ k < w9.heap.size) := o9.lt
          replace HOA := Hid.intro (HOA.out.kept b9)
          clear o9 b9
          go_simp
          refine hKK.out _ _ (HS.out _ BWw9) (fun hHeld2 => ?_)
          clear hKK KK hHeld
          have hHeld := hHeld2
          clear hHeld2
          refine take1s (i := 6) (d := some 28) (v := ?_) rfl rfl (by kernel_rfl) (by kernel_rfl) (by kernel_rfl) (fun _ _ _ h => h) (Or.inl ⟨by rfl, ?_⟩) (by assumption) ?_
          rotate_left 1
          · intro w hSw
            obtain ⟨q0, q1, q2, q3, q4, q5, q6⟩ := hSw
            go_simp <;> with_reducible rfl
          simp only [Act.put, List.setIfInBounds_toArray]
          try simp only [List.set_cons_succ]
          try simp only [List.set_cons_zero]
          refine wpAnyH_ready (rs := [7]) (by kernel_rfl) (by simp) ?_
          refine AllReadyH.cons rfl (fun KK hKK => ?_) AllReadyH.nil
          go_simp
          obtain ⟨Y, hY, bY, zY, cY, fY⟩ := boxed w9 zS 38
          simp only [hY]
          have BWY : Below X.heap.size X Y := BWw9.trans (bY.mono BWw9.size)
          have HN : Hid (Blk Y w9.heap.size zS) := ⟨by omega, cY, fY⟩
          replace HOA := Hid.intro (HOA.out.kept bY)
          replace HO9 := Hid.intro (HO9.out.kept bY)
          clear hY bY cY fY
          refine hKK.out _ _ (HS.out _ BWY) (fun hHeld2 => ?_)
          clear hKK KK hHeld
          have hHeld := hHeld2
          clear hHeld2
          refine wpAnyH_ready (rs := [8]) (by kernel_rfl) (by simp) ?_
          refine AllReadyH.cons rfl (fun KK hKK => ?_) AllReadyH.nil
          have dn := HN.out.cell
          have fn := HN.out.fro
          go_simp
          obtain ⟨V, hV⟩ : ∃ V, ((((((Y.setCell ⟨w9.heap.size, 0, none⟩ (.int .i64 S.k.t)).setCell ⟨w9.heap.size, 1, none⟩ (.int .i64 S.k.v)).setCell ⟨w9.heap.size, 2, none⟩ (.int .i64 S.k.si)).setCell ⟨w9.heap.size, 3, none⟩ (.int .i64 S.k.st)).setCell ⟨w9.heap.size, 4, none⟩ (.string S.k.sd)).setCell ⟨w9.heap.size, 5, none⟩ (.slice aA S.k.e.length capA)).setCell ⟨w9.heap.size, 6, none⟩ (.slice a9 m9 c9) = V := ⟨_, rfl⟩
          have eV : setC Y (w9.heap.size) 0 (sA S (.slice aA S.k.e.length capA) (.slice a9 m9 c9)).toList = V := by rw [← hV]; rfl
          have oV : Only (fun k => k = w9.heap.size) Y V := by rw [← eV]; exact only_setC _ _ _ _
          have kV : Blk V (w9.heap.size) (sA S (.slice aA S.k.e.length capA) (.slice a9 m9 c9)) := by rw [← eV]; exact HN.out.all _ rfl
          clear eV
          try simp only [hV]
          have hnb : X.heap.size ≤ w9.heap.size := by have := BWD.size; omega
          have BWV : Below X.heap.size X V := BWY.trans (oV.below BWY.size (fun k hk h => by omega))
          have HQ : Hid (NX X V (w9.heap.size) S (.slice aA S.k.e.length capA) (.slice a9 m9 c9)) := ⟨hnb, kV, HOA.out.only oV (fun k hk h => by have := HLA.out k hk; omega), HO9.out.only oV (fun k hk h => by have := HL9.out k hk; omega), fun k hk => ⟨by have := HLA.out k hk; omega, fun e => by have := HLA.out k hk; have := HL9.out k e; omega⟩, fun k hk => by have := HL9.out k hk; omega, BWV⟩
          refine hKK.out _ _ (HS.out _ BWV) (fun hHeld2 => ?_)
          clear hKK KK hHeld hV dn fn
          have hHeld := hHeld2
          clear hHeld2
          refine wpAnyH_done (by kernel_rfl) ?_ _
          go_wp2_with fail
          go_meet
          case rel => exact ⟨_, _, _, _, _, _, rfl, HQ.out⟩
        · skip
          go_simp
          obtain ⟨Y, hY, bY, zY, cY, fY⟩ := boxed wA zS 38
          simp only [hY]
          have BWY : Below X.heap.size X Y := BWwA.trans (bY.mono BWwA.size)
          have HN : Hid (Blk Y wA.heap.size zS) := ⟨by omega, cY, fY⟩
          replace HOA := Hid.intro (HOA.out.kept bY)
          clear hY bY cY fY
          refine hKK.out _ _ (HS.out _ BWY) (fun hHeld2 => ?_)
          clear hKK KK hHeld
          have hHeld := hHeld2
          clear hHeld2
          refine wpAnyH_ready (rs := [5]) (by kernel_rfl) (by simp) ?_
          refine AllReadyH.cons rfl (fun KK hKK => ?_) AllReadyH.nil
          refine step_nilR rfl _ _ rfl S.l N rfl _ rfl (HRX.out _ BWY).2 (by omega) ?_
          intro a9 m9 c9 w9 o9 b9
          have BWw9 : Below X.heap.size X w9 := BWY.trans (b9.mono BWY.size)
          have z9 := b9.size
          have HO9 := Hid.intro (OwnR.lower o9 BWY.size)
          have HL9 : Hid (∀ k, (Value.slice a9 m9 c9).ownBlock = some k → Y.heap.size ≤ k ∧ k < w9.heap.size) := o9.lt
          replace HOA := Hid.intro (HOA.out.kept b9)
          replace HN := Hid.intro (HN.out.kept b9)
          clear o9 b9
          go_simp
          refine hKK.out _ _ (HS.out _ BWw9) (fun hHeld2 => ?_)
          clear hKK KK hHeld
          have hHeld := hHeld2
          clear hHeld2
          refine take1s (i := 6) (d := some 28) (v := ?_) rfl rfl (by kernel_rfl) (by kernel_rfl) (by kernel_rfl) (fun _ _ _ h => h) (Or.inl ⟨by rfl, ?_⟩) (by assumption) ?_
          rotate_left 1
          · intro w hSw
            obtain ⟨q0, q1, q2, q3, q4, q5, q6⟩ := hSw
            go_simp <;> with_reducible rfl
          simp only [Act.put, List.setIfInBounds_toArray]
          try simp only [List.set_cons_succ]
          try simp only [List.set_cons_zero]
          refine wpAnyH_ready (rs := [8]) (by kernel_rfl) (by simp) ?_
          refine AllReadyH.cons rfl (fun KK hKK => ?_) AllReadyH.nil
          have dn := HN.out.cell
          have fn := HN.out.fro
          go_simp
          obtain ⟨V, hV⟩ : ∃ V, ((((((w9.setCell ⟨wA.heap.size, 0, none⟩ (.int .i64 S.k.t)).setCell ⟨wA.heap.size, 1, none⟩ (.int .i64 S.k.v)).setCell ⟨wA.heap.size, 2, none⟩ (.int .i64 S.k.si)).setCell ⟨wA.heap.size, 3, none⟩ (.int .i64 S.k.st)).setCell ⟨wA.heap.size, 4, none⟩ (.string S.k.sd)).setCell ⟨wA.heap.size, 5, none⟩ (.slice aA S.k.e.length capA)).setCell ⟨wA.heap.size, 6, none⟩ (.slice a9 m9 c9) = V := ⟨_, rfl⟩
          have eV : setC w9 (wA.heap.size) 0 (sA S (.slice aA S.k.e.length capA) (.slice a9 m9 c9)).toList = V := by rw [← hV]; rfl
          have oV : Only (fun k => k = wA.heap.size) w9 V := by rw [← eV]; exact only_setC _ _ _ _
          have kV : Blk V (wA.heap.size) (sA S (.slice aA S.k.e.length capA) (.slice a9 m9 c9)) := by rw [← eV]; exact HN.out.all _ rfl
          clear eV
          try simp only [hV]
          have hnb : X.heap.size ≤ wA.heap.size := by have := BWD.size; omega
          have BWV : Below X.heap.size X V := BWw9.trans (oV.below BWw9.size (fun k hk h => by omega))
          have HQ : Hid (NX X V (wA.heap.size) S (.slice aA S.k.e.length capA) (.slice a9 m9 c9)) := ⟨hnb, kV, HOA.out.only oV (fun k hk h => by have := HLA.out k hk; omega), HO9.out.only oV (fun k hk h => by have := HL9.out k hk; omega), fun k hk => ⟨by have := HLA.out k hk; omega, fun e => by have := HLA.out k hk; have := HL9.out k e; omega⟩, fun k hk => by have := HL9.out k hk; omega, BWV⟩
          refine hKK.out _ _ (HS.out _ BWV) (fun hHeld2 => ?_)
          clear hKK KK hHeld hV dn fn
          have hHeld := hHeld2
          clear hHeld2
          refine wpAnyH_done (by kernel_rfl) ?_ _
          go_wp2_with fail
          go_meet
          case rel => exact ⟨_, _, _, _, _, _, rfl, HQ.out⟩
      · skip
        go_simp
        obtain ⟨Y, hY, bY, zY, cY, fY⟩ := boxed D zS 38
        simp only [hY]
        have BWY : Below X.heap.size X Y := BWD.trans (bY.mono BWD.size)
        have HN : Hid (Blk Y D.heap.size zS) := ⟨by omega, cY, fY⟩
        clear hY bY cY fY
        refine hKK.out _ _ (HS.out _ BWY) (fun hHeld2 => ?_)
        clear hKK KK hHeld
        have hHeld := hHeld2
        clear hHeld2
        refine wpAnyH_ready (rs := [2]) (by kernel_rfl) (by simp) ?_
        refine AllReadyH.cons rfl (fun KK hKK => ?_) AllReadyH.nil
        go_simp
        refine (copied_any S.k _ N Y (by have := BWY.size; omega) (HRX.out _ BWY).1 (by omega)).mono ?_
        rintro e wA ⟨vA, rfl, oA, bA⟩
        obtain ⟨aA, capA, rfl⟩ := oA.slice
        have BWwA : Below X.heap.size X wA := BWY.trans (bA.mono BWY.size)
        have zA := bA.size
        have HOA := Hid.intro (OwnE.lower oA BWY.size)
        have HLA : Hid (∀ k, (Value.slice aA S.k.e.length capA).ownBlock = some k → Y.heap.size ≤ k ∧ k < wA.heap.size) := oA.lt
        replace HN := Hid.intro (HN.out.kept bA)
        clear oA bA
        go_simp
        refine hKK.out _ _ (HS.out _ BWwA) (fun hHeld2 => ?_)
        clear hKK KK hHeld
        have hHeld := hHeld2
        clear hHeld2
        refine wpAnyH_ready (rs := [5]) (by kernel_rfl) (by simp) ?_
        refine AllReadyH.cons rfl (fun KK hKK => ?_) AllReadyH.nil
        refine step_nilR rfl _ _ rfl S.l N rfl _ rfl (HRX.out _ BWwA).2 (by omega) ?_
        intro a9 m9 c9 w9 o9 b9
        have BWw9 : Below X.heap.size X w9 := BWwA.trans (b9.mono BWwA.size)
        have z9 := b9.size
        have HO9 := Hid.intro (OwnR.lower o9 BWwA.size)
        have HL9 : Hid (∀ k, (Value.slice a9 m9 c9).ownBlock = some k → wA.heap.size ≤ k ∧ k < w9.heap.size) := o9.lt
        replace HOA := Hid.intro (HOA.out.kept b9)
        replace HN := Hid.intro (HN.out.kept b9)
        clear o9 b9
        go_simp
        refine hKK.out _ _ (HS.out _ BWw9) (fun hHeld2 => ?_)
        clear hKK KK hHeld
        have hHeld := hHeld2
        clear hHeld2
        refine take1s (i := 6) (d := some 28) (v := ?_) rfl rfl (by kernel_rfl) (by kernel_rfl) (by kernel_rfl) (fun _ _ _ h => h) (Or.inl ⟨by rfl, ?_⟩) (by assumption) ?_
        rotate_left 1
        · intro w hSw
          obtain ⟨q0, q1, q2, q3, q4, q5, q6⟩ := hSw
          go_simp <;> with_reducible rfl
        simp only [Act.put, List.setIfInBounds_toArray]
        try simp only [List.set_cons_succ]
        try simp only [List.set_cons_zero]
        refine wpAnyH_ready (rs := [8]) (by kernel_rfl) (by simp) ?_
        refine AllReadyH.cons rfl (fun KK hKK => ?_) AllReadyH.nil
        have dn := HN.out.cell
        have fn := HN.out.fro
        go_simp
        obtain ⟨V, hV⟩ : ∃ V, ((((((w9.setCell ⟨D.heap.size, 0, none⟩ (.int .i64 S.k.t)).setCell ⟨D.heap.size, 1, none⟩ (.int .i64 S.k.v)).setCell ⟨D.heap.size, 2, none⟩ (.int .i64 S.k.si)).setCell ⟨D.heap.size, 3, none⟩ (.int .i64 S.k.st)).setCell ⟨D.heap.size, 4, none⟩ (.string S.k.sd)).setCell ⟨D.heap.size, 5, none⟩ (.slice aA S.k.e.length capA)).setCell ⟨D.heap.size, 6, none⟩ (.slice a9 m9 c9) = V := ⟨_, rfl⟩
        have eV : setC w9 (D.heap.size) 0 (sA S (.slice aA S.k.e.length capA) (.slice a9 m9 c9)).toList = V := by rw [← hV]; rfl
        have oV : Only (fun k => k = D.heap.size) w9 V := by rw [← eV]; exact only_setC _ _ _ _
        have kV : Blk V (D.heap.size) (sA S (.slice aA S.k.e.length capA) (.slice a9 m9 c9)) := by rw [← eV]; exact HN.out.all _ rfl
        clear eV
        try simp only [hV]
        have hnb : X.heap.size ≤ D.heap.size := by have := BWD.size; omega
        have BWV : Below X.heap.size X V := BWw9.trans (oV.below BWw9.size (fun k hk h => by omega))
        have HQ : Hid (NX X V (D.heap.size) S (.slice aA S.k.e.length capA) (.slice a9 m9 c9)) := ⟨hnb, kV, HOA.out.only oV (fun k hk h => by have := HLA.out k hk; omega), HO9.out.only oV (fun k hk h => by have := HL9.out k hk; omega), fun k hk => ⟨by have := HLA.out k hk; omega, fun e => by have := HLA.out k hk; have := HL9.out k e; omega⟩, fun k hk => by have := HL9.out k hk; omega, BWV⟩
        refine hKK.out _ _ (HS.out _ BWV) (fun hHeld2 => ?_)
        clear hKK KK hHeld hV dn fn
        have hHeld := hHeld2
        clear hHeld2
        refine wpAnyH_done (by kernel_rfl) ?_ _
        go_wp2_with fail
        go_meet
        case rel => exact ⟨_, _, _, _, _, _, rfl, HQ.out⟩
    case rest =>
    obtain ⟨wa, hwa⟩ : ∃ wa, wa = wc := ⟨_, rfl⟩
    subst hwa
    obtain ⟨nb, aA, cA, a9, m9, c9, rfl, hq⟩ := hcut
    have HL0 : Hid (LI w wa w1.heap.size nb (w.heap.size + 1) S (.slice aA S.k.e.length cA) (.slice a9 m9 c9) (heldK S) (.slice ak (heldK S).e.length ck)) := by
      have h1 := hq.lo
      refine ⟨⟨by omega, by omega, by omega, by omega, by omega, by omega⟩, hq.n, R1.out.kept hq.bel, K1.out.kept hq.bel, hq.e.lower (by omega), hq.r.lower (by omega), (HOK.out.kept hq.bel).lower (by omega), fun k hk => ?_, fun k hk => ?_, fun k hk => ?_, HB.out.trans (hq.bel.mono HB.out.size)⟩
      · have := hq.e.lt k hk
        refine ⟨by omega, (hq.he k hk).1, by omega, fun e => by have := HLT.out k e; omega, (hq.he k hk).2⟩
      · have := hq.r.lt k hk
        refine ⟨by omega, hq.hr k hk, by omega, fun e => by have := HLT.out k e; omega⟩
      · have := HLT.out k hk
        exact ⟨by omega, by omega, by omega⟩
    have HST := Hid.intro hst
    have HSM : Hid (Sm (heldK S)) := by
      obtain ⟨h1, _, K9, h2⟩ := storeB_out hst
      unfold Hid
      rw [heldK_yes hst h2]
      exact (Sm.of h1).fold h2
    have hm9 : m9 = S.l.length := by obtain ⟨a, c, h⟩ := hq.r.slice; cases h; rfl
    clear HS HRX S1 R1 K1 HOK HLT HB hq hst
    generalize w1.heap.size = kb at *
    go_wp2_with fail
    refine (clamp_any n L.length wa).mono ?_
    rintro e w4 ⟨rfl, b4⟩
    replace HL0 := Hid.intro (HL0.out.kept b4)
    have hcl := clampN_le n L.length
    have HCF : Hid (firstN n L = L.take (clampN n L.length)) := firstN_clamp n L
    clear b4
    generalize clampN n L.length = c at *
    have hcx : c ≤ cx := by omega
    have HM0 := Hid.intro hm9
    have HLEN : Hid ((firstN n L).length = c) := by unfold Hid; rw [HCF.out]; simp; omega
    have HCI : Hid (CameI (heldK S) (80 - S.l.length) (firstN n L) 0 (heldK S)) := CameI.zero HSM.out
    clear hm9 HSM
    go_wp2
    generalize hvv : Value.slice aA S.k.e.length cA = v at *
    go_loopw [11, 36] (fun cm i wr => ∃ (j : Nat) (K' : Kp) (vk u' : Value), i = .int .i64 j ∧ cm = .int .i64 j ∧ j ≤ c ∧ Hid (CameI (heldK S) (80 - S.l.length) (firstN n L) j K') ∧ Hid (LI w wr kb nb (w.heap.size + 1) ⟨S.k, S.l ++ L.take j⟩ v u' K' vk)) (fun _ i _ => c - (intOf i).toNat)
    case atStart => exact ⟨0, heldK S, _, _, rfl, rfl, Nat.zero_le _, HCI, by simpa using HL0⟩
    case round =>
      clear HCI HL0
      obtain ⟨j, K', vk, u', rfl, rfl, hj, HCI, HL⟩ := hrel
      obtain ⟨au', m', cu', hu', hm'⟩ : ∃ au' m' cu', u' = .slice au' m' cu' ∧ m' = S.l.length + j := by
        obtain ⟨a, c9, h⟩ := HL.out.ru.slice
        exact ⟨a, _, c9, h, by simp; omega⟩
      subst hu'
      subst hvv
      have HMM := Hid.intro hm'
      clear hm'
      by_cases hlt : j < c
      · have hjL : j < L.length := by omega
        obtain ⟨_, _, hxe, _, _, hxc⟩ := HX.out
        cases hxe
        obtain ⟨b, off, rfl, hbN, hcc⟩ := hxc (by intro h; rw [h] at hjL; simp at hjL)
        clear hxc
        obtain ⟨p0, p1, p2, p3, p4⟩ := hcc j hjL
        have hnj : (j : Int) < n := by
          have h1 := HLEN.out
          simp only [firstN, List.length_take] at h1
          omega
        have hstp := wr_step HCI.out hjL hnj
        have hsto := wr_stop HST.out HCI.out hjL hnj
        have htk : L.take (j + 1) = L.take j ++ [L[j]] := List.take_succ_eq_append_getElem hjL
        generalize L[j] = r at p0 p1 p2 p3 p4 hstp hsto htk
        have HSP := Hid.intro hstp
        have HSO := Hid.intro hsto
        have HTK := Hid.intro htk
        have hbw : b < w.heap.size := by omega
        have g0 := atCell HL.out.bel p0 hbw
        have g1 := atCell HL.out.bel p1 hbw
        have g2 := atCell HL.out.bel p2 hbw
        have g3 := atCell HL.out.bel p3 hbw
        have g4 := atCell HL.out.bel p4 hbw
        clear hcc p0 p1 p2 p3 p4 hstp hsto htk
        go_upto_region 9 with fail
        obtain ⟨Y, hY, bY, zY, cY, fY⟩ := boxed wr #[.int .i64 r.k, .int .i64 r.t, .int .i64 r.i, .int .i64 r.v, .string r.d] 70
        try simp only [hY]
        have HLN : Hid (nb < wr.heap.size ∧ kb < wr.heap.size ∧ (∀ k, (Value.slice au' m' cu').ownBlock = some k → k < wr.heap.size) ∧ (∀ k, vk.ownBlock = some k → k < wr.heap.size)) := ⟨HL.out.n.hi, HL.out.k.hi, fun k hk => (HL.out.ru.lt k hk).2, fun k hk => (HL.out.ek.lt k hk).2⟩
        replace HL := Hid.intro (HL.out.kept bY)
        have RY : Hid (Blk Y wr.heap.size #[.int .i64 r.k, .int .i64 r.t, .int .i64 r.i, .int .i64 r.v, .string r.d]) := ⟨by omega, cY, fY⟩
        have HRN : Hid (wr.heap.size ≠ nb ∧ (∀ k, (Value.slice au' m' cu').ownBlock = some k → k ≠ wr.heap.size) ∧ (∀ k, vk.ownBlock = some k → k ≠ wr.heap.size) ∧ wr.heap.size ≠ kb) := by
          have hn0 := HL.out.n.hi
          refine ⟨by have := HLN.out.1; omega, fun k hk e => by have := (HLN.out.2.2.1 k hk); omega, fun k hk e => by have := (HLN.out.2.2.2 k hk); omega, by have := HLN.out.2.1; omega⟩
        clear hY bY zY cY fY g0 g1 g2 g3 g4
        have dn := HL.out.n.cell
        by_cases h80 : m' = 80
        · subst h80
          have HM : Hid (wrN S L n = j) := by unfold Hid; exact wr_full HST.out HCI.out (by have := HMM.out; omega)
          have HFA := Hid.intro HL.out.fin
          have dn2 := HL.out.n.cell
          have dr := HL.out.r.cell
          have fr := HL.out.r.fro
          have zr := HL.out.r.hi
          have HWS : Hid (wrS S L n = ⟨S.k, S.l ++ L.take (wrN S L n)⟩) := wrS_yes HST.out
          clear HL
          go_wp2
          refine bodyPost_ret (v := .tuple #[stV ⟨S.k, S.l ++ L.take j⟩ (.slice aA S.k.e.length cA) (.slice au' 80 cu'), .int .i64 j]) (by simp [results, Try.results26, go_sem, dr]) rfl ?_
          rw [HWS.out, HM.out]
          exact ⟨_, _, rfl, HFA.out⟩
        · have hm80 : ((m' : Int) == 80) = false := by simp; omega
          have cr := RY.out.cell
          go_wp2_with fail
          clear dn cr
          refine (take_any K' vk kb w.heap.size r Y HL.out.bel.size HL.out.kown HCI.out.sm).mono ?_
          rintro e w6 ⟨rfl, vk6, hk6, hl6, ht6⟩
          replace RY := Hid.intro (RY.out.only ht6.only (fun e => e.elim (fun e => HRN.out.2.2.2 e) (fun e => HRN.out.2.2.1 _ e.symm rfl)))
          replace HL := Hid.intro (HL.out.took hk6 hl6 ht6)
          clear hk6 hl6 ht6
          cases hgo : goB K' r with
          | true =>
            have HNX : Hid (nextK K' r = stepK K' r) := nextK_yes hgo
            have HCI2 := Hid.intro (HSP.out (by have := HMM.out; have := HCI.out.jr; omega) hgo)
            have dn := HL.out.n.cell
            have fn := HL.out.n.fro
            have zn := HL.out.n.hi
            have cr := RY.out.cell
            have hmin : min j L.length = j := by omega
            have HNU : Hid (¬ some nb = (Value.slice au' m' cu').ownBlock) := fun e => (HL.out.hu _ e.symm).2.1 rfl
            go_wp2_with (at_builtin; refine app_R rfl _ _ rfl w.heap.size (.slice au' m' cu') (S.l ++ L.take j) [r] rfl (HL.out.ru.kept ((Below.refl _ _).alloc (Nat.le_refl _) _)) ⟨w6.heap.size, 0, none⟩ 1 rfl (by intro j u hu; simp only [rcF, rcC, List.flatMap_cons, List.flatMap_nil, List.append_nil] at hu; rcases j with _ | _ | _ | _ | _ | j <;> simp at hu <;> subst hu <;> simp [Addr.add, go_sem]) (by have := HMM.out; simp; omega) (by have := HL.out.bel.size; simp; omega) (by simp) ?_; intro g cap' w7 o7 hO7 hloc; have HO7 := Hid.intro o7; have HP7 := Hid.intro hO7; have HLC := Hid.intro hloc; have d7 : ∀ o, w7.cell? ⟨nb, o, none⟩ = _ := (fun o => ((hO7.cell (by simp; omega) HNU.out).trans (by rw [World.cell?_alloc_past _ _ _ (by simpa using zn)])).trans (dn o)); have f7 : ∀ o, w7.frozen? ⟨nb, o, none⟩ = false := (fun o => ((hO7.frozen (by simp; omega) HNU.out).trans (by rw [World.frozen?_alloc_past _ _ _ (by simpa using zn)])).trans (fn o)); clear o7 hO7 hloc dn fn)
            go_roundw
            case rel =>
              have hq := HL.out.push (g := g) (y' := w7) ((Below.any ((Below.refl _ _).alloc (Nat.le_refl _) _)).trans HP7.out) HO7.out (HLC.out.imp (fun h => h.symm) (fun h => by simp at h; omega))
              have e9 : (S.l ++ L.take j).length + [r].length = S.l.length + j + 1 := by simp; omega
              rw [e9, HNX.out] at hq
              refine ⟨j + 1, stepK K' r, vk6, .slice (some ⟨g, 0, none⟩) (S.l.length + j + 1) cap', by go_num, by go_num, by omega, HCI2, ?_⟩
              unfold Hid
              rw [HTK.out, ← List.append_assoc]
              exact hq
            case measure => simp [intOf]; omega
          | false =>
            have HM : Hid (wrN S L n = j) := by unfold Hid; exact HSO.out hgo
            have HFA := Hid.intro HL.out.fin
            have dn2 := HL.out.n.cell
            have dr := HL.out.r.cell
            have fr := HL.out.r.fro
            have zr := HL.out.r.hi
            have HWS : Hid (wrS S L n = ⟨S.k, S.l ++ L.take (wrN S L n)⟩) := wrS_yes HST.out
            clear HL
            go_wp2
            refine bodyPost_ret (v := .tuple #[stV ⟨S.k, S.l ++ L.take j⟩ (.slice aA S.k.e.length cA) (.slice au' m' cu'), .int .i64 j]) (by simp [results, Try.results26, go_sem, dr]) rfl ?_
            rw [HWS.out, HM.out]
            exact ⟨_, _, rfl, HFA.out⟩
      · obtain rfl : j = c := by omega
        have HM : Hid (wrN S L n = j) := by unfold Hid; exact by have h1 := HCI.out.out9 HLEN.out; rw [wrN_yes HST.out]; exact h1
        have HFA := Hid.intro HL.out.fin
        have dn2 := HL.out.n.cell
        have dr := HL.out.r.cell
        have fr := HL.out.r.fro
        have zr := HL.out.r.hi
        have HWS : Hid (wrS S L n = ⟨S.k, S.l ++ L.take (wrN S L n)⟩) := wrS_yes HST.out
        clear HL
        go_wp2
        refine bodyPost_ret (v := .tuple #[stV ⟨S.k, S.l ++ L.take j⟩ (.slice aA S.k.e.length cA) (.slice au' m' cu'), .int .i64 j]) (by simp [results, Try.results26, go_sem, dr]) rfl ?_
        rw [HWS.out, HM.out]
        exact ⟨_, _, rfl, HFA.out⟩
end Go.Proofs.Ytkilepoimocoeab
