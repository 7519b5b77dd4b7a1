/- add: one more record on the way. -/
import Derived.Test.YtkilepoimocoeaaChM
import Derived.Test.YtkilepoimocoeaaCopy
import Derived.Deep.RegionHeld3
import Derived.Deep.AppendLies
import Derived.Deep.Cut
namespace Go.Proofs.Ytkilepoimocoeaa
open Go.RowKit
set_option linter.unusedVariables false
/-- append of records onto a row of the call's own, inside a region that draws its order. -/
theorem step_R {w : World} {ops : Array Oper} {o : Oper} {a : Act} {KK : Act → World → Prop} {Q : Exit → Act → World → Prop} {E : Prop} (hgd : o.guard = none) (s x : Operand)
    (ho : o.op = .call { callee := .builtin .append, args := #[s, x], argTypes := #[29, 29] })
    (base : Nat) (v : Value) (L M : List Rc) (hs : a.eval s = v) (hown : OwnR w base v L) (ad : Addr) (m c : Nat) (hx : a.eval x = .slice (some ad) m c) (hm : m = M.length)
    (hnews : ∀ j u, (rcF M)[j]? = some u → w.cell? (ad.add j) = some u) (hlen : L.length + M.length ≤ 2000000) (hbase : base ≤ w.heap.size) (hne : 0 < M.length)
    (h : ∀ g cap' w', OwnR w' base (.slice (some ⟨g, 0, none⟩) (L.length + m) cap') (L ++ M) → Only (fun k => some k = v.ownBlock) w w' → (v.ownBlock = some g ∨ g = w.heap.size) → g < w'.heap.size →
      KK (a.put o.dst (.slice (some ⟨g, 0, none⟩) (L.length + m) cap')) w') : if Region.wanted o (yielded ops a.tmps) = true then Oper.wp Try.prog o a w KK Q else E := by
  obtain ⟨i0, hi, hz0, hz1, hz2⟩ := info_parts Try.infoR
  subst hm
  refine step_append_lies w hgd s x 29 ho base 43 i0 (.agg #[.int .i64 0, .int .i64 0, .int .i64 0, .int .i64 0, .string ⟨#[]⟩]) 5 48 Try.underlying29 hi hz0 hz1 hz2 rfl (by decide) v L.length (rcF L) hs hown ad M.length c (rcF M) hx (rcF_len M) hnews rcF_one hne (by unfold maxLen; omega) (by omega) hbase w.heap.size rfl ?_
  intro g cap' w' hown' hgrow hloc hg
  exact h g cap' w' (OwnR.mk hown' (by simp) (by rw [rcF_append])) (grown_only hgrow) hloc hg
/-- The variable of a way by records. -/
structure TRW (w : World) (kb base : Nat) (K : Kp) (v : Value) (l : List Rc) (u : Value) (f : Bool) : Prop where
  k : KOwn w kb base K v
  c6 : w.cell? ⟨kb, 6, none⟩ = some u
  c7 : w.cell? ⟨kb, 7, none⟩ = some (.bool f)
  own : OwnR w base u l
  ne : ∀ k, u.ownBlock = some k → k ≠ kb ∧ ¬ v.ownBlock = some k
theorem TRW.kept {w w' : World} {kb base : Nat} {K : Kp} {v : Value} {l : List Rc} {u : Value} {f : Bool} (h : TRW w kb base K v l u f) (hb : Below w.heap.size w w') : TRW w' kb base K v l u f :=
  ⟨h.k.stay hb, atCell hb h.c6 h.k.1.lt, atCell hb h.c7 h.k.1.lt, h.own.kept hb, h.ne⟩
theorem only_set (u : World) (g o : Nat) (x : Value) : Only (fun k => k = g) u (u.setCell ⟨g, o, none⟩ x) := by
  refine Only.setCell ?_ (by simp) _
  exact Only.refl _ _
/-- A cell behind the first six is stored. -/
theorem KOwn.past {w : World} {kb base o : Nat} {K : Kp} {v x : Value} (h : KOwn w kb base K v) (ho : 6 ≤ o) : KOwn (w.setCell ⟨kb, o, none⟩ x) kb base K v := by
  have ne : ∀ q, q < 6 → (w.setCell ⟨kb, o, none⟩ x).cell? ⟨kb, q, none⟩ = w.cell? ⟨kb, q, none⟩ := fun q hq => World.cell?_setCell_other _ _ _ _ (by intro e; simp at e <;> omega)
  obtain ⟨a, b, c⟩ := h
  refine ⟨⟨by have := a.lt; simpa using this, by rw [ne 0 (by omega)]; exact a.c0, by rw [ne 1 (by omega)]; exact a.c1, by rw [ne 2 (by omega)]; exact a.c2, by rw [ne 3 (by omega)]; exact a.c3, by rw [ne 4 (by omega)]; exact a.c4, by rw [ne 5 (by omega)]; exact a.c5, fun q => by rw [World.frozen?_setCell]; exact a.f q⟩, b.only (only_set w kb o x) (fun k hk e => c k hk e.symm), c⟩
theorem TRW.setF {w : World} {kb base : Nat} {K : Kp} {v : Value} {l : List Rc} {u : Value} {f : Bool} (h : TRW w kb base K v l u f) (g : Bool) : TRW (w.setCell ⟨kb, 7, none⟩ (.bool g)) kb base K v l u g := by
  refine ⟨h.k.past (by omega), ?_, ?_, h.own.only (only_set w kb 7 _) (fun k hk e => (h.ne k hk).1 e), h.ne⟩
  · rw [World.cell?_setCell_other _ _ _ _ (by intro e; simp at e <;> omega)]; exact h.c6
  · exact World.cell?_setCell_same _ _ _ h.c7
theorem TRW.setU {w w' : World} {kb base : Nat} {K : Kp} {v : Value} {l l' : List Rc} {u : Value} {f : Bool} {g n cap : Nat} (h : TRW w kb base K v l u f) (ho : Only (fun k => some k = u.ownBlock) w w') (hr : OwnR w' base (.slice (some ⟨g, 0, none⟩) n cap) l') (hg : u.ownBlock = some g ∨ w.heap.size ≤ g) :
    TRW (w'.setCell ⟨kb, 6, none⟩ (.slice (some ⟨g, 0, none⟩) n cap)) kb base K v l' (.slice (some ⟨g, 0, none⟩) n cap) f := by
  have hkb := h.k.1.lt
  have nk : ¬ some kb = u.ownBlock := fun e => (h.ne kb e.symm).1 rfl
  have hg2 : g ≠ kb ∧ ¬ v.ownBlock = some g := by
    rcases hg with h1 | h1
    · exact h.ne g h1
    · exact ⟨by omega, fun e => by have := (h.k.2.1.lt g e).2; omega⟩
  have hk' : KOwn w' kb base K v := by
    obtain ⟨a, b, c⟩ := h.k
    have cc : ∀ q, w'.cell? ⟨kb, q, none⟩ = w.cell? ⟨kb, q, none⟩ := fun q => ho.cell hkb nk
    exact ⟨⟨Nat.lt_of_lt_of_le hkb ho.size, by rw [cc]; exact a.c0, by rw [cc]; exact a.c1, by rw [cc]; exact a.c2, by rw [cc]; exact a.c3, by rw [cc]; exact a.c4, by rw [cc]; exact a.c5, fun q => (ho.frozen hkb nk).trans (a.f q)⟩, b.only ho (fun k hk e => (h.ne k e.symm).2 hk), c⟩
  refine ⟨hk'.past (by omega), World.cell?_setCell_same _ _ _ ((ho.cell hkb nk).trans h.c6), ?_, hr.only (only_set w' kb 6 _) (fun k hk e => ?_), fun k hk => ?_⟩
  · rw [World.cell?_setCell_other _ _ _ _ (by intro e; simp at e <;> omega)]; exact (ho.cell hkb nk).trans h.c7
  · simp only [Value.ownBlock, Option.some.injEq] at hk; omega
  · simp only [Value.ownBlock, Option.some.injEq] at hk
    subst hk
    exact hg2
theorem TRW.took {w w' : World} {kb base : Nat} {K K' : Kp} {v v' : Value} {l : List Rc} {u : Value} {f : Bool} (h : TRW w kb base K v l u f) (hk : KOwn w' kb base K' v') (hl : Loc v v' w) (ht : Took kb v w w') : TRW w' kb base K' v' l u f := by
  refine ⟨hk, (ht.rest 6 (by omega)).trans h.c6, (ht.rest 7 (by omega)).trans h.c7, h.own.only ht.only (fun k hk e => ?_), fun k hk => ⟨(h.ne k hk).1, fun e => ?_⟩⟩
  · rcases e with e | e
    · exact (h.ne k hk).1 e
    · exact (h.ne k hk).2 e.symm
  · rcases hl k e with h1 | h1
    · exact (h.ne k hk).2 h1
    · have := (h.own.lt k hk).2; omega
set_option maxRecDepth 100000 in
set_option maxHeartbeats 8000000 in
theorem add_hard (t vo : Int) (K : Kp) (v : Value) (kb base : Nat) (l : List Rc) (u : Value) (f : Bool) (w : World) (hb : base ≤ w.heap.size) (hkb : base ≤ kb) (h : TRW w kb base K v l u f) (hs : Sm K) (hl : l.length ≤ 1000) :
    Calls Try.prog 56 #[.pointer (some ⟨kb, 0, none⟩), .iface 89 (.agg #[.int .i64 t, .int .i64 vo])] w fun e w' => ∃ x v' u', e = .returned x ∧ TRW w' kb base (trK K f ⟨1, t, 0, vo, ⟨#[]⟩⟩) v' (l ++ [⟨1, t, 0, vo, ⟨#[]⟩⟩]) u' (f && goB K ⟨1, t, 0, vo, ⟨#[]⟩⟩) ∧ Below base w w' := by
  obtain ⟨au, mu, cu, rfl⟩ : ∃ a m c, u = .slice a m c := by obtain ⟨a, c, e⟩ := OwnR.slice h.own; exact ⟨a, _, c, e⟩
  have HT := Hid.intro h
  have HS := Hid.intro hs
  have hm : ∀ w : World, (method 253 89 (.agg #[.int .i64 t, .int .i64 vo]) "loop.example/g00757/impl.rec").run Try.prog w = .ok (110, (.agg #[.int .i64 t, .int .i64 vo])) w := fun _ => by kernel_rfl
  have z0 := h.k.1.lt
  clear h hs
  go_enter Try.func56, Try.ntmps56
  go_upto_region 0 with fail
  go_cut [] from 4 (fun wc => ∃ v', TRW wc kb base (trK K f ⟨1, t, 0, vo, ⟨#[]⟩⟩) v' l (.slice au mu cu) (f && goB K ⟨1, t, 0, vo, ⟨#[]⟩⟩) ∧ Below base w wc)
  case first =>
    refine wp_region_held_drew (S := fun _ => True) (by kernel_rfl) trivial (fun hHeld => ?_)
    replace HT := Hid.intro (HT.out.kept (Below.refl _ _).drew)
    have HB : Hid (Below base w w.drew) := (Below.refl _ _).drew
    have zD : w.heap.size ≤ w.drew.heap.size := Nat.le_refl _
    generalize w.drew = D at HT HB zD hHeld ⊢
    have c7 := HT.out.c7
    refine take1 (i := 0) (d := some 4) (v := ?_) rfl rfl (by kernel_rfl) (by kernel_rfl) (by kernel_rfl) (fun _ _ _ h => h) (Or.inl ⟨by rfl, ?_⟩) (by assumption) ?_
    rotate_left 1
    · intro w hSw
      go_simp <;> with_reducible rfl
    simp only [Act.put, List.setIfInBounds_toArray]
    try simp only [List.set_cons_succ]
    try simp only [List.set_cons_zero]
    refine take1 (i := 1) (d := some 5) (v := ?_) rfl rfl (by kernel_rfl) (by kernel_rfl) (by kernel_rfl) (fun _ _ _ h => h) (Or.inl ⟨by rfl, ?_⟩) (by assumption) ?_
    rotate_left 1
    · intro w hSw
      go_simp <;> with_reducible rfl
    simp only [Act.put, List.setIfInBounds_toArray]
    try simp only [List.set_cons_succ]
    try simp only [List.set_cons_zero]
    refine take1 (i := 2) (d := some 6) (v := ?_) rfl rfl (by kernel_rfl) (by kernel_rfl) (by kernel_rfl) (fun _ _ _ h => h) (Or.inl ⟨by rfl, ?_⟩) (by assumption) ?_
    rotate_left 1
    · intro w hSw
      go_simp <;> with_reducible rfl
    simp only [Act.put, List.setIfInBounds_toArray]
    try simp only [List.set_cons_succ]
    try simp only [List.set_cons_zero]
    refine take1 (i := 3) (d := some 7) (v := ?_) rfl rfl (by kernel_rfl) (by kernel_rfl) (by kernel_rfl) (fun _ _ _ h => h) (Or.inl ⟨by rfl, ?_⟩) (by assumption) ?_
    rotate_left 1
    · intro w hSw
      go_simp <;> with_reducible rfl
    simp only [Act.put, List.setIfInBounds_toArray]
    try simp only [List.set_cons_succ]
    try simp only [List.set_cons_zero]
    refine wpAnyH_ready (rs := [4]) (by kernel_rfl) (by simp) ?_
    refine AllReadyH.cons rfl (fun KK hKK => ?_) AllReadyH.nil
    go_simp
    refine hKK.out _ _ trivial (fun hHeld2 => ?_)
    clear hKK KK hHeld
    have hHeld := hHeld2
    clear hHeld2
    refine take1 (i := 5) (d := some 9) (v := ?_) rfl rfl (by kernel_rfl) (by kernel_rfl) (by kernel_rfl) (fun _ _ _ h => h) (Or.inl ⟨by rfl, ?_⟩) (by assumption) ?_
    rotate_left 1
    · intro w hSw
      go_simp <;> with_reducible rfl
    simp only [Act.put, List.setIfInBounds_toArray]
    try simp only [List.set_cons_succ]
    try simp only [List.set_cons_zero]
    cases f with
    | true =>
      clear c7
      refine take1 (i := 6) (d := some 10) (v := ?_) rfl rfl (by kernel_rfl) (by kernel_rfl) (by kernel_rfl) (fun _ _ _ h => h) (Or.inl ⟨by rfl, ?_⟩) (by assumption) ?_
      rotate_left 1
      · intro w hSw
        go_simp <;> with_reducible rfl
      simp only [Act.put, List.setIfInBounds_toArray]
      try simp only [List.set_cons_succ]
      try simp only [List.set_cons_zero]
      refine take1 (i := 7) (d := some 11) (v := ?_) rfl rfl (by kernel_rfl) (by kernel_rfl) (by kernel_rfl) (fun _ _ _ h => h) (Or.inl ⟨by rfl, ?_⟩) (by assumption) ?_
      rotate_left 1
      · intro w hSw
        go_simp <;> with_reducible rfl
      simp only [Act.put, List.setIfInBounds_toArray]
      try simp only [List.set_cons_succ]
      try simp only [List.set_cons_zero]
      refine take1 (i := 8) (d := some 12) (v := ?_) rfl rfl (by kernel_rfl) (by kernel_rfl) (by kernel_rfl) (fun _ _ _ h => h) (Or.inl ⟨by rfl, ?_⟩) (by assumption) ?_
      rotate_left 1
      · intro w hSw
        go_simp <;> with_reducible rfl
      simp only [Act.put, List.setIfInBounds_toArray]
      try simp only [List.set_cons_succ]
      try simp only [List.set_cons_zero]
      refine take1 (i := 9) (d := some 13) (v := ?_) rfl rfl (by kernel_rfl) (by kernel_rfl) (by kernel_rfl) (fun _ _ _ h => h) (Or.inl ⟨by rfl, ?_⟩) (by assumption) ?_
      rotate_left 1
      · intro w hSw
        go_simp <;> with_reducible rfl
      simp only [Act.put, List.setIfInBounds_toArray]
      try simp only [List.set_cons_succ]
      try simp only [List.set_cons_zero]
      refine wpAnyH_ready (rs := [10]) (by kernel_rfl) (by simp) ?_
      refine AllReadyH.cons rfl (fun KK hKK => ?_) AllReadyH.nil
      go_simp
      refine (recHard_any t vo D).mono ?_
      rintro e w1 ⟨rfl, b1⟩
      replace HT := Hid.intro (HT.out.kept b1)
      replace HB := Hid.intro (HB.out.trans (b1.mono (by omega)))
      have z1 := b1.size
      clear b1
      go_simp
      refine hKK.out _ _ trivial (fun hHeld2 => ?_)
      clear hKK KK hHeld
      have hHeld := hHeld2
      clear hHeld2
      refine wpAnyH_ready (rs := [11]) (by kernel_rfl) (by simp) ?_
      refine AllReadyH.cons rfl (fun KK hKK => ?_) AllReadyH.nil
      go_simp
      refine (take_any K v kb base ⟨1, t, 0, vo, ⟨#[]⟩⟩ w1 (by omega) HT.out.k HS.out).mono ?_
      rintro e w2 ⟨rfl, v2, hk2, hl2, ht2⟩
      have HV : Hid (∀ k, v.ownBlock = some k → base ≤ k) := fun k hk => (HT.out.k.2.1.lt k hk).1
      replace HT := Hid.intro (HT.out.took hk2 hl2 ht2)
      replace HB := Hid.intro (HB.out.trans (ht2.only.below (by omega) (fun k hk e => by
        rcases e with e | e
        · omega
        · have := HV.out k e.symm; omega)))
      have c7 := HT.out.c7
      have f7 := HT.out.k.1.f
      clear hk2 hl2 ht2
      go_simp
      refine hKK.out _ _ trivial (fun hHeld2 => ?_)
      clear hKK KK hHeld
      have hHeld := hHeld2
      clear hHeld2
      refine take1 (i := 12) (d := some 16) (v := ?_) rfl rfl (by kernel_rfl) (by kernel_rfl) (by kernel_rfl) (fun _ _ _ h => h) (Or.inl ⟨by rfl, ?_⟩) (by assumption) ?_
      rotate_left 1
      · intro w hSw
        go_simp <;> with_reducible rfl
      simp only [Act.put, List.setIfInBounds_toArray]
      try simp only [List.set_cons_succ]
      try simp only [List.set_cons_zero]
      refine take1 (i := 13) (d := some 17) (v := ?_) rfl rfl (by kernel_rfl) (by kernel_rfl) (by kernel_rfl) (fun _ _ _ h => h) (Or.inl ⟨by rfl, ?_⟩) (by assumption) ?_
      rotate_left 1
      · intro w hSw
        go_simp <;> with_reducible rfl
      simp only [Act.put, List.setIfInBounds_toArray]
      try simp only [List.set_cons_succ]
      try simp only [List.set_cons_zero]
      refine take1 (i := 14) (d := some 18) (v := ?_) rfl rfl (by kernel_rfl) (by kernel_rfl) (by kernel_rfl) (fun _ _ _ h => h) (Or.inl ⟨by rfl, ?_⟩) (by assumption) ?_
      rotate_left 1
      · intro w hSw
        go_simp <;> with_reducible rfl
      simp only [Act.put, List.setIfInBounds_toArray]
      try simp only [List.set_cons_succ]
      try simp only [List.set_cons_zero]
      refine wpAnyH_ready (rs := [15]) (by kernel_rfl) (by simp) ?_
      refine AllReadyH.cons rfl (fun KK hKK => ?_) AllReadyH.nil
      go_simp
      refine hKK.out _ _ trivial (fun hHeld2 => ?_)
      clear hKK KK hHeld
      have hHeld := hHeld2
      clear hHeld2
      refine wpAnyH_done (by kernel_rfl) ?_ _
      go_wp2_with fail
      go_meet
      case rel => exact ⟨v2, HT.out.setF _, HB.out.setCell hkb _⟩
    | false =>
      refine take1 (i := 6) (d := some 10) (v := undef) rfl rfl (by kernel_rfl) (by kernel_rfl) (by kernel_rfl) (fun _ _ _ h => h) (Or.inr ⟨by rfl, rfl⟩) (by assumption) ?_
      simp only [Act.put, List.setIfInBounds_toArray]
      try simp only [List.set_cons_succ]
      try simp only [List.set_cons_zero]
      refine take1 (i := 7) (d := some 11) (v := undef) rfl rfl (by kernel_rfl) (by kernel_rfl) (by kernel_rfl) (fun _ _ _ h => h) (Or.inr ⟨by rfl, rfl⟩) (by assumption) ?_
      simp only [Act.put, List.setIfInBounds_toArray]
      try simp only [List.set_cons_succ]
      try simp only [List.set_cons_zero]
      refine take1 (i := 8) (d := some 12) (v := undef) rfl rfl (by kernel_rfl) (by kernel_rfl) (by kernel_rfl) (fun _ _ _ h => h) (Or.inr ⟨by rfl, rfl⟩) (by assumption) ?_
      simp only [Act.put, List.setIfInBounds_toArray]
      try simp only [List.set_cons_succ]
      try simp only [List.set_cons_zero]
      refine take1 (i := 9) (d := some 13) (v := undef) rfl rfl (by kernel_rfl) (by kernel_rfl) (by kernel_rfl) (fun _ _ _ h => h) (Or.inr ⟨by rfl, rfl⟩) (by assumption) ?_
      simp only [Act.put, List.setIfInBounds_toArray]
      try simp only [List.set_cons_succ]
      try simp only [List.set_cons_zero]
      refine take1 (i := 10) (d := some 14) (v := undef) rfl rfl (by kernel_rfl) (by kernel_rfl) (by kernel_rfl) (fun _ _ _ h => h) (Or.inr ⟨by rfl, rfl⟩) (by assumption) ?_
      simp only [Act.put, List.setIfInBounds_toArray]
      try simp only [List.set_cons_succ]
      try simp only [List.set_cons_zero]
      refine take1 (i := 11) (d := some 15) (v := undef) rfl rfl (by kernel_rfl) (by kernel_rfl) (by kernel_rfl) (fun _ _ _ h => h) (Or.inr ⟨by rfl, rfl⟩) (by assumption) ?_
      simp only [Act.put, List.setIfInBounds_toArray]
      try simp only [List.set_cons_succ]
      try simp only [List.set_cons_zero]
      refine take1 (i := 12) (d := some 16) (v := ?_) rfl rfl (by kernel_rfl) (by kernel_rfl) (by kernel_rfl) (fun _ _ _ h => h) (Or.inl ⟨by rfl, ?_⟩) (by assumption) ?_
      rotate_left 1
      · intro w hSw
        go_simp <;> with_reducible rfl
      simp only [Act.put, List.setIfInBounds_toArray]
      try simp only [List.set_cons_succ]
      try simp only [List.set_cons_zero]
      refine take1 (i := 13) (d := some 17) (v := ?_) rfl rfl (by kernel_rfl) (by kernel_rfl) (by kernel_rfl) (fun _ _ _ h => h) (Or.inl ⟨by rfl, ?_⟩) (by assumption) ?_
      rotate_left 1
      · intro w hSw
        go_simp <;> with_reducible rfl
      simp only [Act.put, List.setIfInBounds_toArray]
      try simp only [List.set_cons_succ]
      try simp only [List.set_cons_zero]
      refine take1 (i := 14) (d := some 18) (v := ?_) rfl rfl (by kernel_rfl) (by kernel_rfl) (by kernel_rfl) (fun _ _ _ h => h) (Or.inl ⟨by rfl, ?_⟩) (by assumption) ?_
      rotate_left 1
      · intro w hSw
        go_simp <;> with_reducible rfl
      simp only [Act.put, List.setIfInBounds_toArray]
      try simp only [List.set_cons_succ]
      try simp only [List.set_cons_zero]
      have f7 := HT.out.k.1.f
      refine wpAnyH_ready (rs := [15]) (by kernel_rfl) (by simp) ?_
      refine AllReadyH.cons rfl (fun KK hKK => ?_) AllReadyH.nil
      go_simp
      refine hKK.out _ _ trivial (fun hHeld2 => ?_)
      clear hKK KK hHeld
      have hHeld := hHeld2
      clear hHeld2
      refine wpAnyH_done (by kernel_rfl) ?_ _
      go_wp2_with fail
      go_meet
      case rel => exact ⟨v, HT.out.setF _, HB.out.setCell hkb _⟩
  case rest =>
  obtain ⟨wa, hwa⟩ : ∃ wa, wa = wc := ⟨_, rfl⟩
  subst hwa
  obtain ⟨v', ht, hbw⟩ := hcut
  replace HT := Hid.intro ht
  have HB := Hid.intro hbw
  have za := hbw.size
  clear ht hbw HS
  go_upto_region 1 with fail
  refine wp_region_held_drew (S := fun _ => True) (by kernel_rfl) trivial (fun hHeld => ?_)
  replace HT := Hid.intro (HT.out.kept (Below.refl _ _).drew)
  replace HB : Hid (Below base w wa.drew) := HB.out.drew
  have zD : wa.heap.size ≤ wa.drew.heap.size := Nat.le_refl _
  generalize wa.drew = D at HT HB zD hHeld ⊢
  have c6 := HT.out.c6
  refine take1 (i := 0) (d := some 19) (v := ?_) rfl rfl (by kernel_rfl) (by kernel_rfl) (by kernel_rfl) (fun _ _ _ h => h) (Or.inl ⟨by rfl, ?_⟩) (by assumption) ?_
  rotate_left 1
  · intro w hSw
    go_simp <;> with_reducible rfl
  simp only [Act.put, List.setIfInBounds_toArray]
  try simp only [List.set_cons_succ]
  try simp only [List.set_cons_zero]
  refine take1 (i := 1) (d := some 20) (v := ?_) rfl rfl (by kernel_rfl) (by kernel_rfl) (by kernel_rfl) (fun _ _ _ h => h) (Or.inl ⟨by rfl, ?_⟩) (by assumption) ?_
  rotate_left 1
  · intro w hSw
    go_simp <;> with_reducible rfl
  simp only [Act.put, List.setIfInBounds_toArray]
  try simp only [List.set_cons_succ]
  try simp only [List.set_cons_zero]
  refine take1 (i := 2) (d := some 21) (v := ?_) rfl rfl (by kernel_rfl) (by kernel_rfl) (by kernel_rfl) (fun _ _ _ h => h) (Or.inl ⟨by rfl, ?_⟩) (by assumption) ?_
  rotate_left 1
  · intro w hSw
    go_simp <;> with_reducible rfl
  simp only [Act.put, List.setIfInBounds_toArray]
  try simp only [List.set_cons_succ]
  try simp only [List.set_cons_zero]
  refine take1 (i := 3) (d := some 22) (v := ?_) rfl rfl (by kernel_rfl) (by kernel_rfl) (by kernel_rfl) (fun _ _ _ h => h) (Or.inl ⟨by rfl, ?_⟩) (by assumption) ?_
  rotate_left 1
  · intro w hSw
    go_simp <;> with_reducible rfl
  simp only [Act.put, List.setIfInBounds_toArray]
  try simp only [List.set_cons_succ]
  try simp only [List.set_cons_zero]
  refine take1 (i := 5) (d := some 24) (v := ?_) rfl rfl (by kernel_rfl) (by kernel_rfl) (by kernel_rfl) (fun _ _ _ h => h) (Or.inl ⟨by rfl, ?_⟩) (by assumption) ?_
  rotate_left 1
  · intro w hSw
    go_simp <;> with_reducible rfl
  simp only [Act.put, List.setIfInBounds_toArray]
  try simp only [List.set_cons_succ]
  try simp only [List.set_cons_zero]
  refine wpAnyH_ready (rs := [4, 6]) (by kernel_rfl) (by simp) ?_
  refine AllReadyH.cons rfl (fun KK hKK => ?_) (AllReadyH.cons rfl (fun KK hKK => ?_) AllReadyH.nil)
  · go_simp
    refine hKK.out _ _ trivial (fun hHeld2 => ?_)
    clear hKK KK hHeld
    have hHeld := hHeld2
    clear hHeld2
    clear c6
    refine wpAnyH_ready (rs := [6]) (by kernel_rfl) (by simp) ?_
    refine AllReadyH.cons rfl (fun KK hKK => ?_) AllReadyH.nil
    go_simp
    refine (recHard_any t vo D).mono ?_
    rintro e w1 ⟨rfl, b1⟩
    replace HT := Hid.intro (HT.out.kept b1)
    replace HB := Hid.intro (HB.out.trans (b1.mono (by omega)))
    have z1 := b1.size
    have c6 := HT.out.c6
    clear b1
    go_simp
    refine hKK.out _ _ trivial (fun hHeld2 => ?_)
    clear hKK KK hHeld
    have hHeld := hHeld2
    clear hHeld2
    clear c6
    refine wpAnyH_ready (rs := [7]) (by kernel_rfl) (by simp) ?_
    refine AllReadyH.cons rfl (fun KK hKK => ?_) AllReadyH.nil
    go_simp
    have bX := (Below.refl w1.heap.size w1).alloc (Nat.le_refl _) (.cells (#[.int .i64 1, .int .i64 t, .int .i64 0, .int .i64 vo, .string ⟨#[]⟩]) 43)
    have cX : ∀ j u, (rcF [⟨1, t, 0, vo, ⟨#[]⟩⟩])[j]? = some u → (w1.alloc (.cells (#[.int .i64 1, .int .i64 t, .int .i64 0, .int .i64 vo, .string ⟨#[]⟩]) 43)).cell? ((⟨w1.heap.size, 0, none⟩ : Addr).add j) = some u := by intro j u hu; simp only [rcF, rcC, List.flatMap_cons, List.flatMap_nil, List.append_nil] at hu; rcases j with _ | _ | _ | _ | _ | j <;> simp at hu <;> subst hu <;> simp [Addr.add, go_sem]
    generalize hbk : w1.heap.size = bk at cX ⊢
    generalize w1.alloc (.cells (#[.int .i64 1, .int .i64 t, .int .i64 0, .int .i64 vo, .string ⟨#[]⟩]) 43) = X at bX cX ⊢
    have zX := bX.size
    replace HT := Hid.intro (HT.out.kept bX)
    replace HB := Hid.intro (HB.out.trans (bX.mono (by omega)))
    clear bX
    refine hKK.out _ _ trivial (fun hHeld2 => ?_)
    clear hKK KK hHeld
    have hHeld := hHeld2
    clear hHeld2
    refine wpAnyH_ready (rs := [8]) (by kernel_rfl) (by simp) ?_
    refine AllReadyH.cons rfl (fun KK hKK => ?_) AllReadyH.nil
    refine step_R rfl _ _ rfl base (.slice au mu cu) l [⟨1, t, 0, vo, ⟨#[]⟩⟩] rfl HT.out.own ⟨bk, 0, none⟩ 1 1 rfl rfl cX (by simp; omega) (by omega) (by simp) ?_
    intro g cap' w5 o5 hO5 hloc hg
    have HU : Hid (∀ k, (Value.slice au mu cu).ownBlock = some k → base ≤ k) := fun k hk => (HT.out.own.lt k hk).1
    have nk : ¬ some kb = (Value.slice au mu cu).ownBlock := fun e => (HT.out.ne kb e.symm).1 rfl
    have d6 := (hO5.cell (o := 6) HT.out.k.1.lt nk).trans HT.out.c6
    have f6 := (hO5.frozen (o := 6) HT.out.k.1.lt nk).trans (HT.out.k.1.f 6)
    have HQ := Hid.intro (HT.out.setU hO5 o5 (hloc.imp id (fun h => by omega)))
    replace HB := Hid.intro ((HB.out.trans (hO5.below (by omega) (fun k hk e => by have := HU.out k e.symm; omega))).setCell (p := ⟨kb, 6, none⟩) hkb (.slice (some ⟨g, 0, none⟩) (l.length + 1) cap'))
    clear o5 hO5 hloc hg nk cX
    go_simp
    refine hKK.out _ _ trivial (fun hHeld2 => ?_)
    clear hKK KK hHeld
    have hHeld := hHeld2
    clear hHeld2
    refine take1 (i := 9) (d := some 28) (v := ?_) rfl rfl (by kernel_rfl) (by kernel_rfl) (by kernel_rfl) (fun _ _ _ h => h) (Or.inl ⟨by rfl, ?_⟩) (by assumption) ?_
    rotate_left 1
    · intro w hSw
      go_simp <;> with_reducible rfl
    simp only [Act.put, List.setIfInBounds_toArray]
    try simp only [List.set_cons_succ]
    try simp only [List.set_cons_zero]
    refine take1 (i := 10) (d := some 29) (v := ?_) rfl rfl (by kernel_rfl) (by kernel_rfl) (by kernel_rfl) (fun _ _ _ h => h) (Or.inl ⟨by rfl, ?_⟩) (by assumption) ?_
    rotate_left 1
    · intro w hSw
      go_simp <;> with_reducible rfl
    simp only [Act.put, List.setIfInBounds_toArray]
    try simp only [List.set_cons_succ]
    try simp only [List.set_cons_zero]
    refine wpAnyH_ready (rs := [11]) (by kernel_rfl) (by simp) ?_
    refine AllReadyH.cons rfl (fun KK hKK => ?_) AllReadyH.nil
    go_simp
    refine hKK.out _ _ trivial (fun hHeld2 => ?_)
    clear hKK KK hHeld
    have hHeld := hHeld2
    clear hHeld2
    refine wpAnyH_done (by kernel_rfl) ?_ _
    go_wp2
    exact bodyPost_end (v := .tuple #[]) (results_none rfl _ _ _) rfl ⟨_, v', _, rfl, HQ.out, HB.out⟩
  · clear c6
    go_simp
    refine (recHard_any t vo D).mono ?_
    rintro e w1 ⟨rfl, b1⟩
    replace HT := Hid.intro (HT.out.kept b1)
    replace HB := Hid.intro (HB.out.trans (b1.mono (by omega)))
    have z1 := b1.size
    have c6 := HT.out.c6
    clear b1
    go_simp
    refine hKK.out _ _ trivial (fun hHeld2 => ?_)
    clear hKK KK hHeld
    have hHeld := hHeld2
    clear hHeld2
    refine wpAnyH_ready (rs := [4, 7]) (by kernel_rfl) (by simp) ?_
    refine AllReadyH.cons rfl (fun KK hKK => ?_) (AllReadyH.cons rfl (fun KK hKK => ?_) AllReadyH.nil)
    · go_simp
      refine hKK.out _ _ trivial (fun hHeld2 => ?_)
      clear hKK KK hHeld
      have hHeld := hHeld2
      clear hHeld2
      clear c6
      refine wpAnyH_ready (rs := [7]) (by kernel_rfl) (by simp) ?_
      refine AllReadyH.cons rfl (fun KK hKK => ?_) AllReadyH.nil
      go_simp
      have bX := (Below.refl w1.heap.size w1).alloc (Nat.le_refl _) (.cells (#[.int .i64 1, .int .i64 t, .int .i64 0, .int .i64 vo, .string ⟨#[]⟩]) 43)
      have cX : ∀ j u, (rcF [⟨1, t, 0, vo, ⟨#[]⟩⟩])[j]? = some u → (w1.alloc (.cells (#[.int .i64 1, .int .i64 t, .int .i64 0, .int .i64 vo, .string ⟨#[]⟩]) 43)).cell? ((⟨w1.heap.size, 0, none⟩ : Addr).add j) = some u := by intro j u hu; simp only [rcF, rcC, List.flatMap_cons, List.flatMap_nil, List.append_nil] at hu; rcases j with _ | _ | _ | _ | _ | j <;> simp at hu <;> subst hu <;> simp [Addr.add, go_sem]
      generalize hbk : w1.heap.size = bk at cX ⊢
      generalize w1.alloc (.cells (#[.int .i64 1, .int .i64 t, .int .i64 0, .int .i64 vo, .string ⟨#[]⟩]) 43) = X at bX cX ⊢
      have zX := bX.size
      replace HT := Hid.intro (HT.out.kept bX)
      replace HB := Hid.intro (HB.out.trans (bX.mono (by omega)))
      clear bX
      refine hKK.out _ _ trivial (fun hHeld2 => ?_)
      clear hKK KK hHeld
      have hHeld := hHeld2
      clear hHeld2
      refine wpAnyH_ready (rs := [8]) (by kernel_rfl) (by simp) ?_
      refine AllReadyH.cons rfl (fun KK hKK => ?_) AllReadyH.nil
      refine step_R rfl _ _ rfl base (.slice au mu cu) l [⟨1, t, 0, vo, ⟨#[]⟩⟩] rfl HT.out.own ⟨bk, 0, none⟩ 1 1 rfl rfl cX (by simp; omega) (by omega) (by simp) ?_
      intro g cap' w5 o5 hO5 hloc hg
      have HU : Hid (∀ k, (Value.slice au mu cu).ownBlock = some k → base ≤ k) := fun k hk => (HT.out.own.lt k hk).1
      have nk : ¬ some kb = (Value.slice au mu cu).ownBlock := fun e => (HT.out.ne kb e.symm).1 rfl
      have d6 := (hO5.cell (o := 6) HT.out.k.1.lt nk).trans HT.out.c6
      have f6 := (hO5.frozen (o := 6) HT.out.k.1.lt nk).trans (HT.out.k.1.f 6)
      have HQ := Hid.intro (HT.out.setU hO5 o5 (hloc.imp id (fun h => by omega)))
      replace HB := Hid.intro ((HB.out.trans (hO5.below (by omega) (fun k hk e => by have := HU.out k e.symm; omega))).setCell (p := ⟨kb, 6, none⟩) hkb (.slice (some ⟨g, 0, none⟩) (l.length + 1) cap'))
      clear o5 hO5 hloc hg nk cX
      go_simp
      refine hKK.out _ _ trivial (fun hHeld2 => ?_)
      clear hKK KK hHeld
      have hHeld := hHeld2
      clear hHeld2
      refine take1 (i := 9) (d := some 28) (v := ?_) rfl rfl (by kernel_rfl) (by kernel_rfl) (by kernel_rfl) (fun _ _ _ h => h) (Or.inl ⟨by rfl, ?_⟩) (by assumption) ?_
      rotate_left 1
      · intro w hSw
        go_simp <;> with_reducible rfl
      simp only [Act.put, List.setIfInBounds_toArray]
      try simp only [List.set_cons_succ]
      try simp only [List.set_cons_zero]
      refine take1 (i := 10) (d := some 29) (v := ?_) rfl rfl (by kernel_rfl) (by kernel_rfl) (by kernel_rfl) (fun _ _ _ h => h) (Or.inl ⟨by rfl, ?_⟩) (by assumption) ?_
      rotate_left 1
      · intro w hSw
        go_simp <;> with_reducible rfl
      simp only [Act.put, List.setIfInBounds_toArray]
      try simp only [List.set_cons_succ]
      try simp only [List.set_cons_zero]
      refine wpAnyH_ready (rs := [11]) (by kernel_rfl) (by simp) ?_
      refine AllReadyH.cons rfl (fun KK hKK => ?_) AllReadyH.nil
      go_simp
      refine hKK.out _ _ trivial (fun hHeld2 => ?_)
      clear hKK KK hHeld
      have hHeld := hHeld2
      clear hHeld2
      refine wpAnyH_done (by kernel_rfl) ?_ _
      go_wp2
      exact bodyPost_end (v := .tuple #[]) (results_none rfl _ _ _) rfl ⟨_, v', _, rfl, HQ.out, HB.out⟩
    · clear c6
      go_simp
      have bX := (Below.refl w1.heap.size w1).alloc (Nat.le_refl _) (.cells (#[.int .i64 1, .int .i64 t, .int .i64 0, .int .i64 vo, .string ⟨#[]⟩]) 43)
      have cX : ∀ j u, (rcF [⟨1, t, 0, vo, ⟨#[]⟩⟩])[j]? = some u → (w1.alloc (.cells (#[.int .i64 1, .int .i64 t, .int .i64 0, .int .i64 vo, .string ⟨#[]⟩]) 43)).cell? ((⟨w1.heap.size, 0, none⟩ : Addr).add j) = some u := by intro j u hu; simp only [rcF, rcC, List.flatMap_cons, List.flatMap_nil, List.append_nil] at hu; rcases j with _ | _ | _ | _ | _ | j <;> simp at hu <;> subst hu <;> simp [Addr.add, go_sem]
      generalize hbk : w1.heap.size = bk at cX ⊢
      generalize w1.alloc (.cells (#[.int .i64 1, .int .i64 t, .int .i64 0, .int .i64 vo, .string ⟨#[]⟩]) 43) = X at bX cX ⊢
      have zX := bX.size
      replace HT := Hid.intro (HT.out.kept bX)
      replace HB := Hid.intro (HB.out.trans (bX.mono (by omega)))
      clear bX
      refine hKK.out _ _ trivial (fun hHeld2 => ?_)
      clear hKK KK hHeld
      have hHeld := hHeld2
      clear hHeld2
      have c6 := HT.out.c6
      refine wpAnyH_ready (rs := [4]) (by kernel_rfl) (by simp) ?_
      refine AllReadyH.cons rfl (fun KK hKK => ?_) AllReadyH.nil
      go_simp
      refine hKK.out _ _ trivial (fun hHeld2 => ?_)
      clear hKK KK hHeld
      have hHeld := hHeld2
      clear hHeld2
      clear c6
      refine wpAnyH_ready (rs := [8]) (by kernel_rfl) (by simp) ?_
      refine AllReadyH.cons rfl (fun KK hKK => ?_) AllReadyH.nil
      refine step_R rfl _ _ rfl base (.slice au mu cu) l [⟨1, t, 0, vo, ⟨#[]⟩⟩] rfl HT.out.own ⟨bk, 0, none⟩ 1 1 rfl rfl cX (by simp; omega) (by omega) (by simp) ?_
      intro g cap' w5 o5 hO5 hloc hg
      have HU : Hid (∀ k, (Value.slice au mu cu).ownBlock = some k → base ≤ k) := fun k hk => (HT.out.own.lt k hk).1
      have nk : ¬ some kb = (Value.slice au mu cu).ownBlock := fun e => (HT.out.ne kb e.symm).1 rfl
      have d6 := (hO5.cell (o := 6) HT.out.k.1.lt nk).trans HT.out.c6
      have f6 := (hO5.frozen (o := 6) HT.out.k.1.lt nk).trans (HT.out.k.1.f 6)
      have HQ := Hid.intro (HT.out.setU hO5 o5 (hloc.imp id (fun h => by omega)))
      replace HB := Hid.intro ((HB.out.trans (hO5.below (by omega) (fun k hk e => by have := HU.out k e.symm; omega))).setCell (p := ⟨kb, 6, none⟩) hkb (.slice (some ⟨g, 0, none⟩) (l.length + 1) cap'))
      clear o5 hO5 hloc hg nk cX
      go_simp
      refine hKK.out _ _ trivial (fun hHeld2 => ?_)
      clear hKK KK hHeld
      have hHeld := hHeld2
      clear hHeld2
      refine take1 (i := 9) (d := some 28) (v := ?_) rfl rfl (by kernel_rfl) (by kernel_rfl) (by kernel_rfl) (fun _ _ _ h => h) (Or.inl ⟨by rfl, ?_⟩) (by assumption) ?_
      rotate_left 1
      · intro w hSw
        go_simp <;> with_reducible rfl
      simp only [Act.put, List.setIfInBounds_toArray]
      try simp only [List.set_cons_succ]
      try simp only [List.set_cons_zero]
      refine take1 (i := 10) (d := some 29) (v := ?_) rfl rfl (by kernel_rfl) (by kernel_rfl) (by kernel_rfl) (fun _ _ _ h => h) (Or.inl ⟨by rfl, ?_⟩) (by assumption) ?_
      rotate_left 1
      · intro w hSw
        go_simp <;> with_reducible rfl
      simp only [Act.put, List.setIfInBounds_toArray]
      try simp only [List.set_cons_succ]
      try simp only [List.set_cons_zero]
      refine wpAnyH_ready (rs := [11]) (by kernel_rfl) (by simp) ?_
      refine AllReadyH.cons rfl (fun KK hKK => ?_) AllReadyH.nil
      go_simp
      refine hKK.out _ _ trivial (fun hHeld2 => ?_)
      clear hKK KK hHeld
      have hHeld := hHeld2
      clear hHeld2
      refine wpAnyH_done (by kernel_rfl) ?_ _
      go_wp2
      exact bodyPost_end (v := .tuple #[]) (results_none rfl _ _ _) rfl ⟨_, v', _, rfl, HQ.out, HB.out⟩
set_option maxRecDepth 100000 in
set_option maxHeartbeats 8000000 in
theorem add_snap (i t : Int) (d : ByteArray) (K : Kp) (v : Value) (kb base : Nat) (l : List Rc) (u : Value) (f : Bool) (w : World) (hb : base ≤ w.heap.size) (hkb : base ≤ kb) (h : TRW w kb base K v l u f) (hs : Sm K) (hl : l.length ≤ 1000) :
    Calls Try.prog 56 #[.pointer (some ⟨kb, 0, none⟩), .iface 91 (.agg #[.int .i64 i, .int .i64 t, .string d])] w fun e w' => ∃ x v' u', e = .returned x ∧ TRW w' kb base (trK K f ⟨4, t, i, 0, d⟩) v' (l ++ [⟨4, t, i, 0, d⟩]) u' (f && goB K ⟨4, t, i, 0, d⟩) ∧ Below base w w' := by
  obtain ⟨au, mu, cu, rfl⟩ : ∃ a m c, u = .slice a m c := by obtain ⟨a, c, e⟩ := OwnR.slice h.own; exact ⟨a, _, c, e⟩
  have HT := Hid.intro h
  have HS := Hid.intro hs
  have hm : ∀ w : World, (method 253 91 (.agg #[.int .i64 i, .int .i64 t, .string d]) "loop.example/g00757/impl.rec").run Try.prog w = .ok (111, (.agg #[.int .i64 i, .int .i64 t, .string d])) w := fun _ => by kernel_rfl
  have z0 := h.k.1.lt
  clear h hs
  go_enter Try.func56, Try.ntmps56
  go_upto_region 0 with fail
  go_cut [] from 4 (fun wc => ∃ v', TRW wc kb base (trK K f ⟨4, t, i, 0, d⟩) v' l (.slice au mu cu) (f && goB K ⟨4, t, i, 0, d⟩) ∧ Below base w wc)
  case first =>
    refine wp_region_held_drew (S := fun _ => True) (by kernel_rfl) trivial (fun hHeld => ?_)
    replace HT := Hid.intro (HT.out.kept (Below.refl _ _).drew)
    have HB : Hid (Below base w w.drew) := (Below.refl _ _).drew
    have zD : w.heap.size ≤ w.drew.heap.size := Nat.le_refl _
    generalize w.drew = D at HT HB zD hHeld ⊢
    have c7 := HT.out.c7
    refine take1 (i := 0) (d := some 4) (v := ?_) rfl rfl (by kernel_rfl) (by kernel_rfl) (by kernel_rfl) (fun _ _ _ h => h) (Or.inl ⟨by rfl, ?_⟩) (by assumption) ?_
    rotate_left 1
    · intro w hSw
      go_simp <;> with_reducible rfl
    simp only [Act.put, List.setIfInBounds_toArray]
    try simp only [List.set_cons_succ]
    try simp only [List.set_cons_zero]
    refine take1 (i := 1) (d := some 5) (v := ?_) rfl rfl (by kernel_rfl) (by kernel_rfl) (by kernel_rfl) (fun _ _ _ h => h) (Or.inl ⟨by rfl, ?_⟩) (by assumption) ?_
    rotate_left 1
    · intro w hSw
      go_simp <;> with_reducible rfl
    simp only [Act.put, List.setIfInBounds_toArray]
    try simp only [List.set_cons_succ]
    try simp only [List.set_cons_zero]
    refine take1 (i := 2) (d := some 6) (v := ?_) rfl rfl (by kernel_rfl) (by kernel_rfl) (by kernel_rfl) (fun _ _ _ h => h) (Or.inl ⟨by rfl, ?_⟩) (by assumption) ?_
    rotate_left 1
    · intro w hSw
      go_simp <;> with_reducible rfl
    simp only [Act.put, List.setIfInBounds_toArray]
    try simp only [List.set_cons_succ]
    try simp only [List.set_cons_zero]
    refine take1 (i := 3) (d := some 7) (v := ?_) rfl rfl (by kernel_rfl) (by kernel_rfl) (by kernel_rfl) (fun _ _ _ h => h) (Or.inl ⟨by rfl, ?_⟩) (by assumption) ?_
    rotate_left 1
    · intro w hSw
      go_simp <;> with_reducible rfl
    simp only [Act.put, List.setIfInBounds_toArray]
    try simp only [List.set_cons_succ]
    try simp only [List.set_cons_zero]
    refine wpAnyH_ready (rs := [4]) (by kernel_rfl) (by simp) ?_
    refine AllReadyH.cons rfl (fun KK hKK => ?_) AllReadyH.nil
    go_simp
    refine hKK.out _ _ trivial (fun hHeld2 => ?_)
    clear hKK KK hHeld
    have hHeld := hHeld2
    clear hHeld2
    refine take1 (i := 5) (d := some 9) (v := ?_) rfl rfl (by kernel_rfl) (by kernel_rfl) (by kernel_rfl) (fun _ _ _ h => h) (Or.inl ⟨by rfl, ?_⟩) (by assumption) ?_
    rotate_left 1
    · intro w hSw
      go_simp <;> with_reducible rfl
    simp only [Act.put, List.setIfInBounds_toArray]
    try simp only [List.set_cons_succ]
    try simp only [List.set_cons_zero]
    cases f with
    | true =>
      clear c7
      refine take1 (i := 6) (d := some 10) (v := ?_) rfl rfl (by kernel_rfl) (by kernel_rfl) (by kernel_rfl) (fun _ _ _ h => h) (Or.inl ⟨by rfl, ?_⟩) (by assumption) ?_
      rotate_left 1
      · intro w hSw
        go_simp <;> with_reducible rfl
      simp only [Act.put, List.setIfInBounds_toArray]
      try simp only [List.set_cons_succ]
      try simp only [List.set_cons_zero]
      refine take1 (i := 7) (d := some 11) (v := ?_) rfl rfl (by kernel_rfl) (by kernel_rfl) (by kernel_rfl) (fun _ _ _ h => h) (Or.inl ⟨by rfl, ?_⟩) (by assumption) ?_
      rotate_left 1
      · intro w hSw
        go_simp <;> with_reducible rfl
      simp only [Act.put, List.setIfInBounds_toArray]
      try simp only [List.set_cons_succ]
      try simp only [List.set_cons_zero]
      refine take1 (i := 8) (d := some 12) (v := ?_) rfl rfl (by kernel_rfl) (by kernel_rfl) (by kernel_rfl) (fun _ _ _ h => h) (Or.inl ⟨by rfl, ?_⟩) (by assumption) ?_
      rotate_left 1
      · intro w hSw
        go_simp <;> with_reducible rfl
      simp only [Act.put, List.setIfInBounds_toArray]
      try simp only [List.set_cons_succ]
      try simp only [List.set_cons_zero]
      refine take1 (i := 9) (d := some 13) (v := ?_) rfl rfl (by kernel_rfl) (by kernel_rfl) (by kernel_rfl) (fun _ _ _ h => h) (Or.inl ⟨by rfl, ?_⟩) (by assumption) ?_
      rotate_left 1
      · intro w hSw
        go_simp <;> with_reducible rfl
      simp only [Act.put, List.setIfInBounds_toArray]
      try simp only [List.set_cons_succ]
      try simp only [List.set_cons_zero]
      refine wpAnyH_ready (rs := [10]) (by kernel_rfl) (by simp) ?_
      refine AllReadyH.cons rfl (fun KK hKK => ?_) AllReadyH.nil
      go_simp
      refine (recSnap_any i t d D).mono ?_
      rintro e w1 ⟨rfl, b1⟩
      replace HT := Hid.intro (HT.out.kept b1)
      replace HB := Hid.intro (HB.out.trans (b1.mono (by omega)))
      have z1 := b1.size
      clear b1
      go_simp
      refine hKK.out _ _ trivial (fun hHeld2 => ?_)
      clear hKK KK hHeld
      have hHeld := hHeld2
      clear hHeld2
      refine wpAnyH_ready (rs := [11]) (by kernel_rfl) (by simp) ?_
      refine AllReadyH.cons rfl (fun KK hKK => ?_) AllReadyH.nil
      go_simp
      refine (take_any K v kb base ⟨4, t, i, 0, d⟩ w1 (by omega) HT.out.k HS.out).mono ?_
      rintro e w2 ⟨rfl, v2, hk2, hl2, ht2⟩
      have HV : Hid (∀ k, v.ownBlock = some k → base ≤ k) := fun k hk => (HT.out.k.2.1.lt k hk).1
      replace HT := Hid.intro (HT.out.took hk2 hl2 ht2)
      replace HB := Hid.intro (HB.out.trans (ht2.only.below (by omega) (fun k hk e => by
        rcases e with e | e
        · omega
        · have := HV.out k e.symm; omega)))
      have c7 := HT.out.c7
      have f7 := HT.out.k.1.f
      clear hk2 hl2 ht2
      go_simp
      refine hKK.out _ _ trivial (fun hHeld2 => ?_)
      clear hKK KK hHeld
      have hHeld := hHeld2
      clear hHeld2
      refine take1 (i := 12) (d := some 16) (v := ?_) rfl rfl (by kernel_rfl) (by kernel_rfl) (by kernel_rfl) (fun _ _ _ h => h) (Or.inl ⟨by rfl, ?_⟩) (by assumption) ?_
      rotate_left 1
      · intro w hSw
        go_simp <;> with_reducible rfl
      simp only [Act.put, List.setIfInBounds_toArray]
      try simp only [List.set_cons_succ]
      try simp only [List.set_cons_zero]
      refine take1 (i := 13) (d := some 17) (v := ?_) rfl rfl (by kernel_rfl) (by kernel_rfl) (by kernel_rfl) (fun _ _ _ h => h) (Or.inl ⟨by rfl, ?_⟩) (by assumption) ?_
      rotate_left 1
      · intro w hSw
        go_simp <;> with_reducible rfl
      simp only [Act.put, List.setIfInBounds_toArray]
      try simp only [List.set_cons_succ]
      try simp only [List.set_cons_zero]
      refine take1 (i := 14) (d := some 18) (v := ?_) rfl rfl (by kernel_rfl) (by kernel_rfl) (by kernel_rfl) (fun _ _ _ h => h) (Or.inl ⟨by rfl, ?_⟩) (by assumption) ?_
      rotate_left 1
      · intro w hSw
        go_simp <;> with_reducible rfl
      simp only [Act.put, List.setIfInBounds_toArray]
      try simp only [List.set_cons_succ]
      try simp only [List.set_cons_zero]
      refine wpAnyH_ready (rs := [15]) (by kernel_rfl) (by simp) ?_
      refine AllReadyH.cons rfl (fun KK hKK => ?_) AllReadyH.nil
      go_simp
      refine hKK.out _ _ trivial (fun hHeld2 => ?_)
      clear hKK KK hHeld
      have hHeld := hHeld2
      clear hHeld2
      refine wpAnyH_done (by kernel_rfl) ?_ _
      go_wp2_with fail
      go_meet
      case rel => exact ⟨v2, HT.out.setF _, HB.out.setCell hkb _⟩
    | false =>
      refine take1 (i := 6) (d := some 10) (v := undef) rfl rfl (by kernel_rfl) (by kernel_rfl) (by kernel_rfl) (fun _ _ _ h => h) (Or.inr ⟨by rfl, rfl⟩) (by assumption) ?_
      simp only [Act.put, List.setIfInBounds_toArray]
      try simp only [List.set_cons_succ]
      try simp only [List.set_cons_zero]
      refine take1 (i := 7) (d := some 11) (v := undef) rfl rfl (by kernel_rfl) (by kernel_rfl) (by kernel_rfl) (fun _ _ _ h => h) (Or.inr ⟨by rfl, rfl⟩) (by assumption) ?_
      simp only [Act.put, List.setIfInBounds_toArray]
      try simp only [List.set_cons_succ]
      try simp only [List.set_cons_zero]
      refine take1 (i := 8) (d := some 12) (v := undef) rfl rfl (by kernel_rfl) (by kernel_rfl) (by kernel_rfl) (fun _ _ _ h => h) (Or.inr ⟨by rfl, rfl⟩) (by assumption) ?_
      simp only [Act.put, List.setIfInBounds_toArray]
      try simp only [List.set_cons_succ]
      try simp only [List.set_cons_zero]
      refine take1 (i := 9) (d := some 13) (v := undef) rfl rfl (by kernel_rfl) (by kernel_rfl) (by kernel_rfl) (fun _ _ _ h => h) (Or.inr ⟨by rfl, rfl⟩) (by assumption) ?_
      simp only [Act.put, List.setIfInBounds_toArray]
      try simp only [List.set_cons_succ]
      try simp only [List.set_cons_zero]
      refine take1 (i := 10) (d := some 14) (v := undef) rfl rfl (by kernel_rfl) (by kernel_rfl) (by kernel_rfl) (fun _ _ _ h => h) (Or.inr ⟨by rfl, rfl⟩) (by assumption) ?_
      simp only [Act.put, List.setIfInBounds_toArray]
      try simp only [List.set_cons_succ]
      try simp only [List.set_cons_zero]
      refine take1 (i := 11) (d := some 15) (v := undef) rfl rfl (by kernel_rfl) (by kernel_rfl) (by kernel_rfl) (fun _ _ _ h => h) (Or.inr ⟨by rfl, rfl⟩) (by assumption) ?_
      simp only [Act.put, List.setIfInBounds_toArray]
      try simp only [List.set_cons_succ]
      try simp only [List.set_cons_zero]
      refine take1 (i := 12) (d := some 16) (v := ?_) rfl rfl (by kernel_rfl) (by kernel_rfl) (by kernel_rfl) (fun _ _ _ h => h) (Or.inl ⟨by rfl, ?_⟩) (by assumption) ?_
      rotate_left 1
      · intro w hSw
        go_simp <;> with_reducible rfl
      simp only [Act.put, List.setIfInBounds_toArray]
      try simp only [List.set_cons_succ]
      try simp only [List.set_cons_zero]
      refine take1 (i := 13) (d := some 17) (v := ?_) rfl rfl (by kernel_rfl) (by kernel_rfl) (by kernel_rfl) (fun _ _ _ h => h) (Or.inl ⟨by rfl, ?_⟩) (by assumption) ?_
      rotate_left 1
      · intro w hSw
        go_simp <;> with_reducible rfl
      simp only [Act.put, List.setIfInBounds_toArray]
      try simp only [List.set_cons_succ]
      try simp only [List.set_cons_zero]
      refine take1 (i := 14) (d := some 18) (v := ?_) rfl rfl (by kernel_rfl) (by kernel_rfl) (by kernel_rfl) (fun _ _ _ h => h) (Or.inl ⟨by rfl, ?_⟩) (by assumption) ?_
      rotate_left 1
      · intro w hSw
        go_simp <;> with_reducible rfl
      simp only [Act.put, List.setIfInBounds_toArray]
      try simp only [List.set_cons_succ]
      try simp only [List.set_cons_zero]
      have f7 := HT.out.k.1.f
      refine wpAnyH_ready (rs := [15]) (by kernel_rfl) (by simp) ?_
      refine AllReadyH.cons rfl (fun KK hKK => ?_) AllReadyH.nil
      go_simp
      refine hKK.out _ _ trivial (fun hHeld2 => ?_)
      clear hKK KK hHeld
      have hHeld := hHeld2
      clear hHeld2
      refine wpAnyH_done (by kernel_rfl) ?_ _
      go_wp2_with fail
      go_meet
      case rel => exact ⟨v, HT.out.setF _, HB.out.setCell hkb _⟩
  case rest =>
  obtain ⟨wa, hwa⟩ : ∃ wa, wa = wc := ⟨_, rfl⟩
  subst hwa
  obtain ⟨v', ht, hbw⟩ := hcut
  replace HT := Hid.intro ht
  have HB := Hid.intro hbw
  have za := hbw.size
  clear ht hbw HS
  go_upto_region 1 with fail
  refine wp_region_held_drew (S := fun _ => True) (by kernel_rfl) trivial (fun hHeld => ?_)
  replace HT := Hid.intro (HT.out.kept (Below.refl _ _).drew)
  replace HB : Hid (Below base w wa.drew) := HB.out.drew
  have zD : wa.heap.size ≤ wa.drew.heap.size := Nat.le_refl _
  generalize wa.drew = D at HT HB zD hHeld ⊢
  have c6 := HT.out.c6
  refine take1 (i := 0) (d := some 19) (v := ?_) rfl rfl (by kernel_rfl) (by kernel_rfl) (by kernel_rfl) (fun _ _ _ h => h) (Or.inl ⟨by rfl, ?_⟩) (by assumption) ?_
  rotate_left 1
  · intro w hSw
    go_simp <;> with_reducible rfl
  simp only [Act.put, List.setIfInBounds_toArray]
  try simp only [List.set_cons_succ]
  try simp only [List.set_cons_zero]
  refine take1 (i := 1) (d := some 20) (v := ?_) rfl rfl (by kernel_rfl) (by kernel_rfl) (by kernel_rfl) (fun _ _ _ h => h) (Or.inl ⟨by rfl, ?_⟩) (by assumption) ?_
  rotate_left 1
  · intro w hSw
    go_simp <;> with_reducible rfl
  simp only [Act.put, List.setIfInBounds_toArray]
  try simp only [List.set_cons_succ]
  try simp only [List.set_cons_zero]
  refine take1 (i := 2) (d := some 21) (v := ?_) rfl rfl (by kernel_rfl) (by kernel_rfl) (by kernel_rfl) (fun _ _ _ h => h) (Or.inl ⟨by rfl, ?_⟩) (by assumption) ?_
  rotate_left 1
  · intro w hSw
    go_simp <;> with_reducible rfl
  simp only [Act.put, List.setIfInBounds_toArray]
  try simp only [List.set_cons_succ]
  try simp only [List.set_cons_zero]
  refine take1 (i := 3) (d := some 22) (v := ?_) rfl rfl (by kernel_rfl) (by kernel_rfl) (by kernel_rfl) (fun _ _ _ h => h) (Or.inl ⟨by rfl, ?_⟩) (by assumption) ?_
  rotate_left 1
  · intro w hSw
    go_simp <;> with_reducible rfl
  simp only [Act.put, List.setIfInBounds_toArray]
  try simp only [List.set_cons_succ]
  try simp only [List.set_cons_zero]
  refine take1 (i := 5) (d := some 24) (v := ?_) rfl rfl (by kernel_rfl) (by kernel_rfl) (by kernel_rfl) (fun _ _ _ h => h) (Or.inl ⟨by rfl, ?_⟩) (by assumption) ?_
  rotate_left 1
  · intro w hSw
    go_simp <;> with_reducible rfl
  simp only [Act.put, List.setIfInBounds_toArray]
  try simp only [List.set_cons_succ]
  try simp only [List.set_cons_zero]
  refine wpAnyH_ready (rs := [4, 6]) (by kernel_rfl) (by simp) ?_
  refine AllReadyH.cons rfl (fun KK hKK => ?_) (AllReadyH.cons rfl (fun KK hKK => ?_) AllReadyH.nil)
  · go_simp
    refine hKK.out _ _ trivial (fun hHeld2 => ?_)
    clear hKK KK hHeld
    have hHeld := hHeld2
    clear hHeld2
    clear c6
    refine wpAnyH_ready (rs := [6]) (by kernel_rfl) (by simp) ?_
    refine AllReadyH.cons rfl (fun KK hKK => ?_) AllReadyH.nil
    go_simp
    refine (recSnap_any i t d D).mono ?_
    rintro e w1 ⟨rfl, b1⟩
    replace HT := Hid.intro (HT.out.kept b1)
    replace HB := Hid.intro (HB.out.trans (b1.mono (by omega)))
    have z1 := b1.size
    have c6 := HT.out.c6
    clear b1
    go_simp
    refine hKK.out _ _ trivial (fun hHeld2 => ?_)
    clear hKK KK hHeld
    have hHeld := hHeld2
    clear hHeld2
    clear c6
    refine wpAnyH_ready (rs := [7]) (by kernel_rfl) (by simp) ?_
    refine AllReadyH.cons rfl (fun KK hKK => ?_) AllReadyH.nil
    go_simp
    have bX := (Below.refl w1.heap.size w1).alloc (Nat.le_refl _) (.cells (#[.int .i64 4, .int .i64 t, .int .i64 i, .int .i64 0, .string d]) 43)
    have cX : ∀ j u, (rcF [⟨4, t, i, 0, d⟩])[j]? = some u → (w1.alloc (.cells (#[.int .i64 4, .int .i64 t, .int .i64 i, .int .i64 0, .string d]) 43)).cell? ((⟨w1.heap.size, 0, none⟩ : Addr).add j) = some u := by intro j u hu; simp only [rcF, rcC, List.flatMap_cons, List.flatMap_nil, List.append_nil] at hu; rcases j with _ | _ | _ | _ | _ | j <;> simp at hu <;> subst hu <;> simp [Addr.add, go_sem]
    generalize hbk : w1.heap.size = bk at cX ⊢
    generalize w1.alloc (.cells (#[.int .i64 4, .int .i64 t, .int .i64 i, .int .i64 0, .string d]) 43) = X at bX cX ⊢
    have zX := bX.size
    replace HT := Hid.intro (HT.out.kept bX)
    replace HB := Hid.intro (HB.out.trans (bX.mono (by omega)))
    clear bX
    refine hKK.out _ _ trivial (fun hHeld2 => ?_)
    clear hKK KK hHeld
    have hHeld := hHeld2
    clear hHeld2
    refine wpAnyH_ready (rs := [8]) (by kernel_rfl) (by simp) ?_
    refine AllReadyH.cons rfl (fun KK hKK => ?_) AllReadyH.nil
    refine step_R rfl _ _ rfl base (.slice au mu cu) l [⟨4, t, i, 0, d⟩] rfl HT.out.own ⟨bk, 0, none⟩ 1 1 rfl rfl cX (by simp; omega) (by omega) (by simp) ?_
    intro g cap' w5 o5 hO5 hloc hg
    have HU : Hid (∀ k, (Value.slice au mu cu).ownBlock = some k → base ≤ k) := fun k hk => (HT.out.own.lt k hk).1
    have nk : ¬ some kb = (Value.slice au mu cu).ownBlock := fun e => (HT.out.ne kb e.symm).1 rfl
    have d6 := (hO5.cell (o := 6) HT.out.k.1.lt nk).trans HT.out.c6
    have f6 := (hO5.frozen (o := 6) HT.out.k.1.lt nk).trans (HT.out.k.1.f 6)
    have HQ := Hid.intro (HT.out.setU hO5 o5 (hloc.imp id (fun h => by omega)))
    replace HB := Hid.intro ((HB.out.trans (hO5.below (by omega) (fun k hk e => by have := HU.out k e.symm; omega))).setCell (p := ⟨kb, 6, none⟩) hkb (.slice (some ⟨g, 0, none⟩) (l.length + 1) cap'))
    clear o5 hO5 hloc hg nk cX
    go_simp
    refine hKK.out _ _ trivial (fun hHeld2 => ?_)
    clear hKK KK hHeld
    have hHeld := hHeld2
    clear hHeld2
    refine take1 (i := 9) (d := some 28) (v := ?_) rfl rfl (by kernel_rfl) (by kernel_rfl) (by kernel_rfl) (fun _ _ _ h => h) (Or.inl ⟨by rfl, ?_⟩) (by assumption) ?_
    rotate_left 1
    · intro w hSw
      go_simp <;> with_reducible rfl
    simp only [Act.put, List.setIfInBounds_toArray]
    try simp only [List.set_cons_succ]
    try simp only [List.set_cons_zero]
    refine take1 (i := 10) (d := some 29) (v := ?_) rfl rfl (by kernel_rfl) (by kernel_rfl) (by kernel_rfl) (fun _ _ _ h => h) (Or.inl ⟨by rfl, ?_⟩) (by assumption) ?_
    rotate_left 1
    · intro w hSw
      go_simp <;> with_reducible rfl
    simp only [Act.put, List.setIfInBounds_toArray]
    try simp only [List.set_cons_succ]
    try simp only [List.set_cons_zero]
    refine wpAnyH_ready (rs := [11]) (by kernel_rfl) (by simp) ?_
    refine AllReadyH.cons rfl (fun KK hKK => ?_) AllReadyH.nil
    go_simp
    refine hKK.out _ _ trivial (fun hHeld2 => ?_)
    clear hKK KK hHeld
    have hHeld := hHeld2
    clear hHeld2
    refine wpAnyH_done (by kernel_rfl) ?_ _
    go_wp2
    exact bodyPost_end (v := .tuple #[]) (results_none rfl _ _ _) rfl ⟨_, v', _, rfl, HQ.out, HB.out⟩
  · clear c6
    go_simp
    refine (recSnap_any i t d D).mono ?_
    rintro e w1 ⟨rfl, b1⟩
    replace HT := Hid.intro (HT.out.kept b1)
    replace HB := Hid.intro (HB.out.trans (b1.mono (by omega)))
    have z1 := b1.size
    have c6 := HT.out.c6
    clear b1
    go_simp
    refine hKK.out _ _ trivial (fun hHeld2 => ?_)
    clear hKK KK hHeld
    have hHeld := hHeld2
    clear hHeld2
    refine wpAnyH_ready (rs := [4, 7]) (by kernel_rfl) (by simp) ?_
    refine AllReadyH.cons rfl (fun KK hKK => ?_) (AllReadyH.cons rfl (fun KK hKK => ?_) AllReadyH.nil)
    · go_simp
      refine hKK.out _ _ trivial (fun hHeld2 => ?_)
      clear hKK KK hHeld
      have hHeld := hHeld2
      clear hHeld2
      clear c6
      refine wpAnyH_ready (rs := [7]) (by kernel_rfl) (by simp) ?_
      refine AllReadyH.cons rfl (fun KK hKK => ?_) AllReadyH.nil
      go_simp
      have bX := (Below.refl w1.heap.size w1).alloc (Nat.le_refl _) (.cells (#[.int .i64 4, .int .i64 t, .int .i64 i, .int .i64 0, .string d]) 43)
      have cX : ∀ j u, (rcF [⟨4, t, i, 0, d⟩])[j]? = some u → (w1.alloc (.cells (#[.int .i64 4, .int .i64 t, .int .i64 i, .int .i64 0, .string d]) 43)).cell? ((⟨w1.heap.size, 0, none⟩ : Addr).add j) = some u := by intro j u hu; simp only [rcF, rcC, List.flatMap_cons, List.flatMap_nil, List.append_nil] at hu; rcases j with _ | _ | _ | _ | _ | j <;> simp at hu <;> subst hu <;> simp [Addr.add, go_sem]
      generalize hbk : w1.heap.size = bk at cX ⊢
      generalize w1.alloc (.cells (#[.int .i64 4, .int .i64 t, .int .i64 i, .int .i64 0, .string d]) 43) = X at bX cX ⊢
      have zX := bX.size
      replace HT := Hid.intro (HT.out.kept bX)
      replace HB := Hid.intro (HB.out.trans (bX.mono (by omega)))
      clear bX
      refine hKK.out _ _ trivial (fun hHeld2 => ?_)
      clear hKK KK hHeld
      have hHeld := hHeld2
      clear hHeld2
      refine wpAnyH_ready (rs := [8]) (by kernel_rfl) (by simp) ?_
      refine AllReadyH.cons rfl (fun KK hKK => ?_) AllReadyH.nil
      refine step_R rfl _ _ rfl base (.slice au mu cu) l [⟨4, t, i, 0, d⟩] rfl HT.out.own ⟨bk, 0, none⟩ 1 1 rfl rfl cX (by simp; omega) (by omega) (by simp) ?_
      intro g cap' w5 o5 hO5 hloc hg
      have HU : Hid (∀ k, (Value.slice au mu cu).ownBlock = some k → base ≤ k) := fun k hk => (HT.out.own.lt k hk).1
      have nk : ¬ some kb = (Value.slice au mu cu).ownBlock := fun e => (HT.out.ne kb e.symm).1 rfl
      have d6 := (hO5.cell (o := 6) HT.out.k.1.lt nk).trans HT.out.c6
      have f6 := (hO5.frozen (o := 6) HT.out.k.1.lt nk).trans (HT.out.k.1.f 6)
      have HQ := Hid.intro (HT.out.setU hO5 o5 (hloc.imp id (fun h => by omega)))
      replace HB := Hid.intro ((HB.out.trans (hO5.below (by omega) (fun k hk e => by have := HU.out k e.symm; omega))).setCell (p := ⟨kb, 6, none⟩) hkb (.slice (some ⟨g, 0, none⟩) (l.length + 1) cap'))
      clear o5 hO5 hloc hg nk cX
      go_simp
      refine hKK.out _ _ trivial (fun hHeld2 => ?_)
      clear hKK KK hHeld
      have hHeld := hHeld2
      clear hHeld2
      refine take1 (i := 9) (d := some 28) (v := ?_) rfl rfl (by kernel_rfl) (by kernel_rfl) (by kernel_rfl) (fun _ _ _ h => h) (Or.inl ⟨by rfl, ?_⟩) (by assumption) ?_
      rotate_left 1
      · intro w hSw
        go_simp <;> with_reducible rfl
      simp only [Act.put, List.setIfInBounds_toArray]
      try simp only [List.set_cons_succ]
      try simp only [List.set_cons_zero]
      refine take1 (i := 10) (d := some 29) (v := ?_) rfl rfl (by kernel_rfl) (by kernel_rfl) (by kernel_rfl) (fun _ _ _ h => h) (Or.inl ⟨by rfl, ?_⟩) (by assumption) ?_
      rotate_left 1
      · intro w hSw
        go_simp <;> with_reducible rfl
      simp only [Act.put, List.setIfInBounds_toArray]
      try simp only [List.set_cons_succ]
      try simp only [List.set_cons_zero]
      refine wpAnyH_ready (rs := [11]) (by kernel_rfl) (by simp) ?_
      refine AllReadyH.cons rfl (fun KK hKK => ?_) AllReadyH.nil
      go_simp
      refine hKK.out _ _ trivial (fun hHeld2 => ?_)
      clear hKK KK hHeld
      have hHeld := hHeld2
      clear hHeld2
      refine wpAnyH_done (by kernel_rfl) ?_ _
      go_wp2
      exact bodyPost_end (v := .tuple #[]) (results_none rfl _ _ _) rfl ⟨_, v', _, rfl, HQ.out, HB.out⟩
    · clear c6
      go_simp
      have bX := (Below.refl w1.heap.size w1).alloc (Nat.le_refl _) (.cells (#[.int .i64 4, .int .i64 t, .int .i64 i, .int .i64 0, .string d]) 43)
      have cX : ∀ j u, (rcF [⟨4, t, i, 0, d⟩])[j]? = some u → (w1.alloc (.cells (#[.int .i64 4, .int .i64 t, .int .i64 i, .int .i64 0, .string d]) 43)).cell? ((⟨w1.heap.size, 0, none⟩ : Addr).add j) = some u := by intro j u hu; simp only [rcF, rcC, List.flatMap_cons, List.flatMap_nil, List.append_nil] at hu; rcases j with _ | _ | _ | _ | _ | j <;> simp at hu <;> subst hu <;> simp [Addr.add, go_sem]
      generalize hbk : w1.heap.size = bk at cX ⊢
      generalize w1.alloc (.cells (#[.int .i64 4, .int .i64 t, .int .i64 i, .int .i64 0, .string d]) 43) = X at bX cX ⊢
      have zX := bX.size
      replace HT := Hid.intro (HT.out.kept bX)
      replace HB := Hid.intro (HB.out.trans (bX.mono (by omega)))
      clear bX
      refine hKK.out _ _ trivial (fun hHeld2 => ?_)
      clear hKK KK hHeld
      have hHeld := hHeld2
      clear hHeld2
      have c6 := HT.out.c6
      refine wpAnyH_ready (rs := [4]) (by kernel_rfl) (by simp) ?_
      refine AllReadyH.cons rfl (fun KK hKK => ?_) AllReadyH.nil
      go_simp
      refine hKK.out _ _ trivial (fun hHeld2 => ?_)
      clear hKK KK hHeld
      have hHeld := hHeld2
      clear hHeld2
      clear c6
      refine wpAnyH_ready (rs := [8]) (by kernel_rfl) (by simp) ?_
      refine AllReadyH.cons rfl (fun KK hKK => ?_) AllReadyH.nil
      refine step_R rfl _ _ rfl base (.slice au mu cu) l [⟨4, t, i, 0, d⟩] rfl HT.out.own ⟨bk, 0, none⟩ 1 1 rfl rfl cX (by simp; omega) (by omega) (by simp) ?_
      intro g cap' w5 o5 hO5 hloc hg
      have HU : Hid (∀ k, (Value.slice au mu cu).ownBlock = some k → base ≤ k) := fun k hk => (HT.out.own.lt k hk).1
      have nk : ¬ some kb = (Value.slice au mu cu).ownBlock := fun e => (HT.out.ne kb e.symm).1 rfl
      have d6 := (hO5.cell (o := 6) HT.out.k.1.lt nk).trans HT.out.c6
      have f6 := (hO5.frozen (o := 6) HT.out.k.1.lt nk).trans (HT.out.k.1.f 6)
      have HQ := Hid.intro (HT.out.setU hO5 o5 (hloc.imp id (fun h => by omega)))
      replace HB := Hid.intro ((HB.out.trans (hO5.below (by omega) (fun k hk e => by have := HU.out k e.symm; omega))).setCell (p := ⟨kb, 6, none⟩) hkb (.slice (some ⟨g, 0, none⟩) (l.length + 1) cap'))
      clear o5 hO5 hloc hg nk cX
      go_simp
      refine hKK.out _ _ trivial (fun hHeld2 => ?_)
      clear hKK KK hHeld
      have hHeld := hHeld2
      clear hHeld2
      refine take1 (i := 9) (d := some 28) (v := ?_) rfl rfl (by kernel_rfl) (by kernel_rfl) (by kernel_rfl) (fun _ _ _ h => h) (Or.inl ⟨by rfl, ?_⟩) (by assumption) ?_
      rotate_left 1
      · intro w hSw
        go_simp <;> with_reducible rfl
      simp only [Act.put, List.setIfInBounds_toArray]
      try simp only [List.set_cons_succ]
      try simp only [List.set_cons_zero]
      refine take1 (i := 10) (d := some 29) (v := ?_) rfl rfl (by kernel_rfl) (by kernel_rfl) (by kernel_rfl) (fun _ _ _ h => h) (Or.inl ⟨by rfl, ?_⟩) (by assumption) ?_
      rotate_left 1
      · intro w hSw
        go_simp <;> with_reducible rfl
      simp only [Act.put, List.setIfInBounds_toArray]
      try simp only [List.set_cons_succ]
      try simp only [List.set_cons_zero]
      refine wpAnyH_ready (rs := [11]) (by kernel_rfl) (by simp) ?_
      refine AllReadyH.cons rfl (fun KK hKK => ?_) AllReadyH.nil
      go_simp
      refine hKK.out _ _ trivial (fun hHeld2 => ?_)
      clear hKK KK hHeld
      have hHeld := hHeld2
      clear hHeld2
      refine wpAnyH_done (by kernel_rfl) ?_ _
      go_wp2
      exact bodyPost_end (v := .tuple #[]) (results_none rfl _ _ _) rfl ⟨_, v', _, rfl, HQ.out, HB.out⟩
set_option maxRecDepth 100000 in
set_option maxHeartbeats 8000000 in
theorem add_cut (i : Int) (K : Kp) (v : Value) (kb base : Nat) (l : List Rc) (u : Value) (f : Bool) (w : World) (hb : base ≤ w.heap.size) (hkb : base ≤ kb) (h : TRW w kb base K v l u f) (hs : Sm K) (hl : l.length ≤ 1000) :
    Calls Try.prog 56 #[.pointer (some ⟨kb, 0, none⟩), .iface 94 (.agg #[.int .i64 i])] w fun e w' => ∃ x v' u', e = .returned x ∧ TRW w' kb base (trK K f ⟨3, 0, i, 0, ⟨#[]⟩⟩) v' (l ++ [⟨3, 0, i, 0, ⟨#[]⟩⟩]) u' (f && goB K ⟨3, 0, i, 0, ⟨#[]⟩⟩) ∧ Below base w w' := by
  obtain ⟨au, mu, cu, rfl⟩ : ∃ a m c, u = .slice a m c := by obtain ⟨a, c, e⟩ := OwnR.slice h.own; exact ⟨a, _, c, e⟩
  have HT := Hid.intro h
  have HS := Hid.intro hs
  have hm : ∀ w : World, (method 253 94 (.agg #[.int .i64 i]) "loop.example/g00757/impl.rec").run Try.prog w = .ok (112, (.agg #[.int .i64 i])) w := fun _ => by kernel_rfl
  have z0 := h.k.1.lt
  clear h hs
  go_enter Try.func56, Try.ntmps56
  go_upto_region 0 with fail
  go_cut [] from 4 (fun wc => ∃ v', TRW wc kb base (trK K f ⟨3, 0, i, 0, ⟨#[]⟩⟩) v' l (.slice au mu cu) (f && goB K ⟨3, 0, i, 0, ⟨#[]⟩⟩) ∧ Below base w wc)
  case first =>
    refine wp_region_held_drew (S := fun _ => True) (by kernel_rfl) trivial (fun hHeld => ?_)
    replace HT := Hid.intro (HT.out.kept (Below.refl _ _).drew)
    have HB : Hid (Below base w w.drew) := (Below.refl _ _).drew
    have zD : w.heap.size ≤ w.drew.heap.size := Nat.le_refl _
    generalize w.drew = D at HT HB zD hHeld ⊢
    have c7 := HT.out.c7
    refine take1 (i := 0) (d := some 4) (v := ?_) rfl rfl (by kernel_rfl) (by kernel_rfl) (by kernel_rfl) (fun _ _ _ h => h) (Or.inl ⟨by rfl, ?_⟩) (by assumption) ?_
    rotate_left 1
    · intro w hSw
      go_simp <;> with_reducible rfl
    simp only [Act.put, List.setIfInBounds_toArray]
    try simp only [List.set_cons_succ]
    try simp only [List.set_cons_zero]
    refine take1 (i := 1) (d := some 5) (v := ?_) rfl rfl (by kernel_rfl) (by kernel_rfl) (by kernel_rfl) (fun _ _ _ h => h) (Or.inl ⟨by rfl, ?_⟩) (by assumption) ?_
    rotate_left 1
    · intro w hSw
      go_simp <;> with_reducible rfl
    simp only [Act.put, List.setIfInBounds_toArray]
    try simp only [List.set_cons_succ]
    try simp only [List.set_cons_zero]
    refine take1 (i := 2) (d := some 6) (v := ?_) rfl rfl (by kernel_rfl) (by kernel_rfl) (by kernel_rfl) (fun _ _ _ h => h) (Or.inl ⟨by rfl, ?_⟩) (by assumption) ?_
    rotate_left 1
    · intro w hSw
      go_simp <;> with_reducible rfl
    simp only [Act.put, List.setIfInBounds_toArray]
    try simp only [List.set_cons_succ]
    try simp only [List.set_cons_zero]
    refine take1 (i := 3) (d := some 7) (v := ?_) rfl rfl (by kernel_rfl) (by kernel_rfl) (by kernel_rfl) (fun _ _ _ h => h) (Or.inl ⟨by rfl, ?_⟩) (by assumption) ?_
    rotate_left 1
    · intro w hSw
      go_simp <;> with_reducible rfl
    simp only [Act.put, List.setIfInBounds_toArray]
    try simp only [List.set_cons_succ]
    try simp only [List.set_cons_zero]
    refine wpAnyH_ready (rs := [4]) (by kernel_rfl) (by simp) ?_
    refine AllReadyH.cons rfl (fun KK hKK => ?_) AllReadyH.nil
    go_simp
    refine hKK.out _ _ trivial (fun hHeld2 => ?_)
    clear hKK KK hHeld
    have hHeld := hHeld2
    clear hHeld2
    refine take1 (i := 5) (d := some 9) (v := ?_) rfl rfl (by kernel_rfl) (by kernel_rfl) (by kernel_rfl) (fun _ _ _ h => h) (Or.inl ⟨by rfl, ?_⟩) (by assumption) ?_
    rotate_left 1
    · intro w hSw
      go_simp <;> with_reducible rfl
    simp only [Act.put, List.setIfInBounds_toArray]
    try simp only [List.set_cons_succ]
    try simp only [List.set_cons_zero]
    cases f with
    | true =>
      clear c7
      refine take1 (i := 6) (d := some 10) (v := ?_) rfl rfl (by kernel_rfl) (by kernel_rfl) (by kernel_rfl) (fun _ _ _ h => h) (Or.inl ⟨by rfl, ?_⟩) (by assumption) ?_
      rotate_left 1
      · intro w hSw
        go_simp <;> with_reducible rfl
      simp only [Act.put, List.setIfInBounds_toArray]
      try simp only [List.set_cons_succ]
      try simp only [List.set_cons_zero]
      refine take1 (i := 7) (d := some 11) (v := ?_) rfl rfl (by kernel_rfl) (by kernel_rfl) (by kernel_rfl) (fun _ _ _ h => h) (Or.inl ⟨by rfl, ?_⟩) (by assumption) ?_
      rotate_left 1
      · intro w hSw
        go_simp <;> with_reducible rfl
      simp only [Act.put, List.setIfInBounds_toArray]
      try simp only [List.set_cons_succ]
      try simp only [List.set_cons_zero]
      refine take1 (i := 8) (d := some 12) (v := ?_) rfl rfl (by kernel_rfl) (by kernel_rfl) (by kernel_rfl) (fun _ _ _ h => h) (Or.inl ⟨by rfl, ?_⟩) (by assumption) ?_
      rotate_left 1
      · intro w hSw
        go_simp <;> with_reducible rfl
      simp only [Act.put, List.setIfInBounds_toArray]
      try simp only [List.set_cons_succ]
      try simp only [List.set_cons_zero]
      refine take1 (i := 9) (d := some 13) (v := ?_) rfl rfl (by kernel_rfl) (by kernel_rfl) (by kernel_rfl) (fun _ _ _ h => h) (Or.inl ⟨by rfl, ?_⟩) (by assumption) ?_
      rotate_left 1
      · intro w hSw
        go_simp <;> with_reducible rfl
      simp only [Act.put, List.setIfInBounds_toArray]
      try simp only [List.set_cons_succ]
      try simp only [List.set_cons_zero]
      refine wpAnyH_ready (rs := [10]) (by kernel_rfl) (by simp) ?_
      refine AllReadyH.cons rfl (fun KK hKK => ?_) AllReadyH.nil
      go_simp
      refine (recCut_any i D).mono ?_
      rintro e w1 ⟨rfl, b1⟩
      replace HT := Hid.intro (HT.out.kept b1)
      replace HB := Hid.intro (HB.out.trans (b1.mono (by omega)))
      have z1 := b1.size
      clear b1
      go_simp
      refine hKK.out _ _ trivial (fun hHeld2 => ?_)
      clear hKK KK hHeld
      have hHeld := hHeld2
      clear hHeld2
      refine wpAnyH_ready (rs := [11]) (by kernel_rfl) (by simp) ?_
      refine AllReadyH.cons rfl (fun KK hKK => ?_) AllReadyH.nil
      go_simp
      refine (take_any K v kb base ⟨3, 0, i, 0, ⟨#[]⟩⟩ w1 (by omega) HT.out.k HS.out).mono ?_
      rintro e w2 ⟨rfl, v2, hk2, hl2, ht2⟩
      have HV : Hid (∀ k, v.ownBlock = some k → base ≤ k) := fun k hk => (HT.out.k.2.1.lt k hk).1
      replace HT := Hid.intro (HT.out.took hk2 hl2 ht2)
      replace HB := Hid.intro (HB.out.trans (ht2.only.below (by omega) (fun k hk e => by
        rcases e with e | e
        · omega
        · have := HV.out k e.symm; omega)))
      have c7 := HT.out.c7
      have f7 := HT.out.k.1.f
      clear hk2 hl2 ht2
      go_simp
      refine hKK.out _ _ trivial (fun hHeld2 => ?_)
      clear hKK KK hHeld
      have hHeld := hHeld2
      clear hHeld2
      refine take1 (i := 12) (d := some 16) (v := ?_) rfl rfl (by kernel_rfl) (by kernel_rfl) (by kernel_rfl) (fun _ _ _ h => h) (Or.inl ⟨by rfl, ?_⟩) (by assumption) ?_
      rotate_left 1
      · intro w hSw
        go_simp <;> with_reducible rfl
      simp only [Act.put, List.setIfInBounds_toArray]
      try simp only [List.set_cons_succ]
      try simp only [List.set_cons_zero]
      refine take1 (i := 13) (d := some 17) (v := ?_) rfl rfl (by kernel_rfl) (by kernel_rfl) (by kernel_rfl) (fun _ _ _ h => h) (Or.inl ⟨by rfl, ?_⟩) (by assumption) ?_
      rotate_left 1
      · intro w hSw
        go_simp <;> with_reducible rfl
      simp only [Act.put, List.setIfInBounds_toArray]
      try simp only [List.set_cons_succ]
      try simp only [List.set_cons_zero]
      refine take1 (i := 14) (d := some 18) (v := ?_) rfl rfl (by kernel_rfl) (by kernel_rfl) (by kernel_rfl) (fun _ _ _ h => h) (Or.inl ⟨by rfl, ?_⟩) (by assumption) ?_
      rotate_left 1
      · intro w hSw
        go_simp <;> with_reducible rfl
      simp only [Act.put, List.setIfInBounds_toArray]
      try simp only [List.set_cons_succ]
      try simp only [List.set_cons_zero]
      refine wpAnyH_ready (rs := [15]) (by kernel_rfl) (by simp) ?_
      refine AllReadyH.cons rfl (fun KK hKK => ?_) AllReadyH.nil
      go_simp
      refine hKK.out _ _ trivial (fun hHeld2 => ?_)
      clear hKK KK hHeld
      have hHeld := hHeld2
      clear hHeld2
      refine wpAnyH_done (by kernel_rfl) ?_ _
      go_wp2_with fail
      go_meet
      case rel => exact ⟨v2, HT.out.setF _, HB.out.setCell hkb _⟩
    | false =>
      refine take1 (i := 6) (d := some 10) (v := undef) rfl rfl (by kernel_rfl) (by kernel_rfl) (by kernel_rfl) (fun _ _ _ h => h) (Or.inr ⟨by rfl, rfl⟩) (by assumption) ?_
      simp only [Act.put, List.setIfInBounds_toArray]
      try simp only [List.set_cons_succ]
      try simp only [List.set_cons_zero]
      refine take1 (i := 7) (d := some 11) (v := undef) rfl rfl (by kernel_rfl) (by kernel_rfl) (by kernel_rfl) (fun _ _ _ h => h) (Or.inr ⟨by rfl, rfl⟩) (by assumption) ?_
      simp only [Act.put, List.setIfInBounds_toArray]
      try simp only [List.set_cons_succ]
      try simp only [List.set_cons_zero]
      refine take1 (i := 8) (d := some 12) (v := undef) rfl rfl (by kernel_rfl) (by kernel_rfl) (by kernel_rfl) (fun _ _ _ h => h) (Or.inr ⟨by rfl, rfl⟩) (by assumption) ?_
      simp only [Act.put, List.setIfInBounds_toArray]
      try simp only [List.set_cons_succ]
      try simp only [List.set_cons_zero]
      refine take1 (i := 9) (d := some 13) (v := undef) rfl rfl (by kernel_rfl) (by kernel_rfl) (by kernel_rfl) (fun _ _ _ h => h) (Or.inr ⟨by rfl, rfl⟩) (by assumption) ?_
      simp only [Act.put, List.setIfInBounds_toArray]
      try simp only [List.set_cons_succ]
      try simp only [List.set_cons_zero]
      refine take1 (i := 10) (d := some 14) (v := undef) rfl rfl (by kernel_rfl) (by kernel_rfl) (by kernel_rfl) (fun _ _ _ h => h) (Or.inr ⟨by rfl, rfl⟩) (by assumption) ?_
      simp only [Act.put, List.setIfInBounds_toArray]
      try simp only [List.set_cons_succ]
      try simp only [List.set_cons_zero]
      refine take1 (i := 11) (d := some 15) (v := undef) rfl rfl (by kernel_rfl) (by kernel_rfl) (by kernel_rfl) (fun _ _ _ h => h) (Or.inr ⟨by rfl, rfl⟩) (by assumption) ?_
      simp only [Act.put, List.setIfInBounds_toArray]
      try simp only [List.set_cons_succ]
      try simp only [List.set_cons_zero]
      refine take1 (i := 12) (d := some 16) (v := ?_) rfl rfl (by kernel_rfl) (by kernel_rfl) (by kernel_rfl) (fun _ _ _ h => h) (Or.inl ⟨by rfl, ?_⟩) (by assumption) ?_
      rotate_left 1
      · intro w hSw
        go_simp <;> with_reducible rfl
      simp only [Act.put, List.setIfInBounds_toArray]
      try simp only [List.set_cons_succ]
      try simp only [List.set_cons_zero]
      refine take1 (i := 13) (d := some 17) (v := ?_) rfl rfl (by kernel_rfl) (by kernel_rfl) (by kernel_rfl) (fun _ _ _ h => h) (Or.inl ⟨by rfl, ?_⟩) (by assumption) ?_
      rotate_left 1
      · intro w hSw
        go_simp <;> with_reducible rfl
      simp only [Act.put, List.setIfInBounds_toArray]
      try simp only [List.set_cons_succ]
      try simp only [List.set_cons_zero]
      refine take1 (i := 14) (d := some 18) (v := ?_) rfl rfl (by kernel_rfl) (by kernel_rfl) (by kernel_rfl) (fun _ _ _ h => h) (Or.inl ⟨by rfl, ?_⟩) (by assumption) ?_
      rotate_left 1
      · intro w hSw
        go_simp <;> with_reducible rfl
      simp only [Act.put, List.setIfInBounds_toArray]
      try simp only [List.set_cons_succ]
      try simp only [List.set_cons_zero]
      have f7 := HT.out.k.1.f
      refine wpAnyH_ready (rs := [15]) (by kernel_rfl) (by simp) ?_
      refine AllReadyH.cons rfl (fun KK hKK => ?_) AllReadyH.nil
      go_simp
      refine hKK.out _ _ trivial (fun hHeld2 => ?_)
      clear hKK KK hHeld
      have hHeld := hHeld2
      clear hHeld2
      refine wpAnyH_done (by kernel_rfl) ?_ _
      go_wp2_with fail
      go_meet
      case rel => exact ⟨v, HT.out.setF _, HB.out.setCell hkb _⟩
  case rest =>
  obtain ⟨wa, hwa⟩ : ∃ wa, wa = wc := ⟨_, rfl⟩
  subst hwa
  obtain ⟨v', ht, hbw⟩ := hcut
  replace HT := Hid.intro ht
  have HB := Hid.intro hbw
  have za := hbw.size
  clear ht hbw HS
  go_upto_region 1 with fail
  refine wp_region_held_drew (S := fun _ => True) (by kernel_rfl) trivial (fun hHeld => ?_)
  replace HT := Hid.intro (HT.out.kept (Below.refl _ _).drew)
  replace HB : Hid (Below base w wa.drew) := HB.out.drew
  have zD : wa.heap.size ≤ wa.drew.heap.size := Nat.le_refl _
  generalize wa.drew = D at HT HB zD hHeld ⊢
  have c6 := HT.out.c6
  refine take1 (i := 0) (d := some 19) (v := ?_) rfl rfl (by kernel_rfl) (by kernel_rfl) (by kernel_rfl) (fun _ _ _ h => h) (Or.inl ⟨by rfl, ?_⟩) (by assumption) ?_
  rotate_left 1
  · intro w hSw
    go_simp <;> with_reducible rfl
  simp only [Act.put, List.setIfInBounds_toArray]
  try simp only [List.set_cons_succ]
  try simp only [List.set_cons_zero]
  refine take1 (i := 1) (d := some 20) (v := ?_) rfl rfl (by kernel_rfl) (by kernel_rfl) (by kernel_rfl) (fun _ _ _ h => h) (Or.inl ⟨by rfl, ?_⟩) (by assumption) ?_
  rotate_left 1
  · intro w hSw
    go_simp <;> with_reducible rfl
  simp only [Act.put, List.setIfInBounds_toArray]
  try simp only [List.set_cons_succ]
  try simp only [List.set_cons_zero]
  refine take1 (i := 2) (d := some 21) (v := ?_) rfl rfl (by kernel_rfl) (by kernel_rfl) (by kernel_rfl) (fun _ _ _ h => h) (Or.inl ⟨by rfl, ?_⟩) (by assumption) ?_
  rotate_left 1
  · intro w hSw
    go_simp <;> with_reducible rfl
  simp only [Act.put, List.setIfInBounds_toArray]
  try simp only [List.set_cons_succ]
  try simp only [List.set_cons_zero]
  refine take1 (i := 3) (d := some 22) (v := ?_) rfl rfl (by kernel_rfl) (by kernel_rfl) (by kernel_rfl) (fun _ _ _ h => h) (Or.inl ⟨by rfl, ?_⟩) (by assumption) ?_
  rotate_left 1
  · intro w hSw
    go_simp <;> with_reducible rfl
  simp only [Act.put, List.setIfInBounds_toArray]
  try simp only [List.set_cons_succ]
  try simp only [List.set_cons_zero]
  refine take1 (i := 5) (d := some 24) (v := ?_) rfl rfl (by kernel_rfl) (by kernel_rfl) (by kernel_rfl) (fun _ _ _ h => h) (Or.inl ⟨by rfl, ?_⟩) (by assumption) ?_
  rotate_left 1
  · intro w hSw
    go_simp <;> with_reducible rfl
  simp only [Act.put, List.setIfInBounds_toArray]
  try simp only [List.set_cons_succ]
  try simp only [List.set_cons_zero]
  refine wpAnyH_ready (rs := [4, 6]) (by kernel_rfl) (by simp) ?_
  refine AllReadyH.cons rfl (fun KK hKK => ?_) (AllReadyH.cons rfl (fun KK hKK => ?_) AllReadyH.nil)
  · go_simp
    refine hKK.out _ _ trivial (fun hHeld2 => ?_)
    clear hKK KK hHeld
    have hHeld := hHeld2
    clear hHeld2
    clear c6
    refine wpAnyH_ready (rs := [6]) (by kernel_rfl) (by simp) ?_
    refine AllReadyH.cons rfl (fun KK hKK => ?_) AllReadyH.nil
    go_simp
    refine (recCut_any i D).mono ?_
    rintro e w1 ⟨rfl, b1⟩
    replace HT := Hid.intro (HT.out.kept b1)
    replace HB := Hid.intro (HB.out.trans (b1.mono (by omega)))
    have z1 := b1.size
    have c6 := HT.out.c6
    clear b1
    go_simp
    refine hKK.out _ _ trivial (fun hHeld2 => ?_)
    clear hKK KK hHeld
    have hHeld := hHeld2
    clear hHeld2
    clear c6
    refine wpAnyH_ready (rs := [7]) (by kernel_rfl) (by simp) ?_
    refine AllReadyH.cons rfl (fun KK hKK => ?_) AllReadyH.nil
    go_simp
    have bX := (Below.refl w1.heap.size w1).alloc (Nat.le_refl _) (.cells (#[.int .i64 3, .int .i64 0, .int .i64 i, .int .i64 0, .string ⟨#[]⟩]) 43)
    have cX : ∀ j u, (rcF [⟨3, 0, i, 0, ⟨#[]⟩⟩])[j]? = some u → (w1.alloc (.cells (#[.int .i64 3, .int .i64 0, .int .i64 i, .int .i64 0, .string ⟨#[]⟩]) 43)).cell? ((⟨w1.heap.size, 0, none⟩ : Addr).add j) = some u := by intro j u hu; simp only [rcF, rcC, List.flatMap_cons, List.flatMap_nil, List.append_nil] at hu; rcases j with _ | _ | _ | _ | _ | j <;> simp at hu <;> subst hu <;> simp [Addr.add, go_sem]
    generalize hbk : w1.heap.size = bk at cX ⊢
    generalize w1.alloc (.cells (#[.int .i64 3, .int .i64 0, .int .i64 i, .int .i64 0, .string ⟨#[]⟩]) 43) = X at bX cX ⊢
    have zX := bX.size
    replace HT := Hid.intro (HT.out.kept bX)
    replace HB := Hid.intro (HB.out.trans (bX.mono (by omega)))
    clear bX
    refine hKK.out _ _ trivial (fun hHeld2 => ?_)
    clear hKK KK hHeld
    have hHeld := hHeld2
    clear hHeld2
    refine wpAnyH_ready (rs := [8]) (by kernel_rfl) (by simp) ?_
    refine AllReadyH.cons rfl (fun KK hKK => ?_) AllReadyH.nil
    refine step_R rfl _ _ rfl base (.slice au mu cu) l [⟨3, 0, i, 0, ⟨#[]⟩⟩] rfl HT.out.own ⟨bk, 0, none⟩ 1 1 rfl rfl cX (by simp; omega) (by omega) (by simp) ?_
    intro g cap' w5 o5 hO5 hloc hg
    have HU : Hid (∀ k, (Value.slice au mu cu).ownBlock = some k → base ≤ k) := fun k hk => (HT.out.own.lt k hk).1
    have nk : ¬ some kb = (Value.slice au mu cu).ownBlock := fun e => (HT.out.ne kb e.symm).1 rfl
    have d6 := (hO5.cell (o := 6) HT.out.k.1.lt nk).trans HT.out.c6
    have f6 := (hO5.frozen (o := 6) HT.out.k.1.lt nk).trans (HT.out.k.1.f 6)
    have HQ := Hid.intro (HT.out.setU hO5 o5 (hloc.imp id (fun h => by omega)))
    replace HB := Hid.intro ((HB.out.trans (hO5.below (by omega) (fun k hk e => by have := HU.out k e.symm; omega))).setCell (p := ⟨kb, 6, none⟩) hkb (.slice (some ⟨g, 0, none⟩) (l.length + 1) cap'))
    clear o5 hO5 hloc hg nk cX
    go_simp
    refine hKK.out _ _ trivial (fun hHeld2 => ?_)
    clear hKK KK hHeld
    have hHeld := hHeld2
    clear hHeld2
    refine take1 (i := 9) (d := some 28) (v := ?_) rfl rfl (by kernel_rfl) (by kernel_rfl) (by kernel_rfl) (fun _ _ _ h => h) (Or.inl ⟨by rfl, ?_⟩) (by assumption) ?_
    rotate_left 1
    · intro w hSw
      go_simp <;> with_reducible rfl
    simp only [Act.put, List.setIfInBounds_toArray]
    try simp only [List.set_cons_succ]
    try simp only [List.set_cons_zero]
    refine take1 (i := 10) (d := some 29) (v := ?_) rfl rfl (by kernel_rfl) (by kernel_rfl) (by kernel_rfl) (fun _ _ _ h => h) (Or.inl ⟨by rfl, ?_⟩) (by assumption) ?_
    rotate_left 1
    · intro w hSw
      go_simp <;> with_reducible rfl
    simp only [Act.put, List.setIfInBounds_toArray]
    try simp only [List.set_cons_succ]
    try simp only [List.set_cons_zero]
    refine wpAnyH_ready (rs := [11]) (by kernel_rfl) (by simp) ?_
    refine AllReadyH.cons rfl (fun KK hKK => ?_) AllReadyH.nil
    go_simp
    refine hKK.out _ _ trivial (fun hHeld2 => ?_)
    clear hKK KK hHeld
    have hHeld := hHeld2
    clear hHeld2
    refine wpAnyH_done (by kernel_rfl) ?_ _
    go_wp2
    exact bodyPost_end (v := .tuple #[]) (results_none rfl _ _ _) rfl ⟨_, v', _, rfl, HQ.out, HB.out⟩
  · clear c6
    go_simp
    refine (recCut_any i D).mono ?_
    rintro e w1 ⟨rfl, b1⟩
    replace HT := Hid.intro (HT.out.kept b1)
    replace HB := Hid.intro (HB.out.trans (b1.mono (by omega)))
    have z1 := b1.size
    have c6 := HT.out.c6
    clear b1
    go_simp
    refine hKK.out _ _ trivial (fun hHeld2 => ?_)
    clear hKK KK hHeld
    have hHeld := hHeld2
    clear hHeld2
    refine wpAnyH_ready (rs := [4, 7]) (by kernel_rfl) (by simp) ?_
    refine AllReadyH.cons rfl (fun KK hKK => ?_) (AllReadyH.cons rfl (fun KK hKK => ?_) AllReadyH.nil)
    · go_simp
      refine hKK.out _ _ trivial (fun hHeld2 => ?_)
      clear hKK KK hHeld
      have hHeld := hHeld2
      clear hHeld2
      clear c6
      refine wpAnyH_ready (rs := [7]) (by kernel_rfl) (by simp) ?_
      refine AllReadyH.cons rfl (fun KK hKK => ?_) AllReadyH.nil
      go_simp
      have bX := (Below.refl w1.heap.size w1).alloc (Nat.le_refl _) (.cells (#[.int .i64 3, .int .i64 0, .int .i64 i, .int .i64 0, .string ⟨#[]⟩]) 43)
      have cX : ∀ j u, (rcF [⟨3, 0, i, 0, ⟨#[]⟩⟩])[j]? = some u → (w1.alloc (.cells (#[.int .i64 3, .int .i64 0, .int .i64 i, .int .i64 0, .string ⟨#[]⟩]) 43)).cell? ((⟨w1.heap.size, 0, none⟩ : Addr).add j) = some u := by intro j u hu; simp only [rcF, rcC, List.flatMap_cons, List.flatMap_nil, List.append_nil] at hu; rcases j with _ | _ | _ | _ | _ | j <;> simp at hu <;> subst hu <;> simp [Addr.add, go_sem]
      generalize hbk : w1.heap.size = bk at cX ⊢
      generalize w1.alloc (.cells (#[.int .i64 3, .int .i64 0, .int .i64 i, .int .i64 0, .string ⟨#[]⟩]) 43) = X at bX cX ⊢
      have zX := bX.size
      replace HT := Hid.intro (HT.out.kept bX)
      replace HB := Hid.intro (HB.out.trans (bX.mono (by omega)))
      clear bX
      refine hKK.out _ _ trivial (fun hHeld2 => ?_)
      clear hKK KK hHeld
      have hHeld := hHeld2
      clear hHeld2
      refine wpAnyH_ready (rs := [8]) (by kernel_rfl) (by simp) ?_
      refine AllReadyH.cons rfl (fun KK hKK => ?_) AllReadyH.nil
      refine step_R rfl _ _ rfl base (.slice au mu cu) l [⟨3, 0, i, 0, ⟨#[]⟩⟩] rfl HT.out.own ⟨bk, 0, none⟩ 1 1 rfl rfl cX (by simp; omega) (by omega) (by simp) ?_
      intro g cap' w5 o5 hO5 hloc hg
      have HU : Hid (∀ k, (Value.slice au mu cu).ownBlock = some k → base ≤ k) := fun k hk => (HT.out.own.lt k hk).1
      have nk : ¬ some kb = (Value.slice au mu cu).ownBlock := fun e => (HT.out.ne kb e.symm).1 rfl
      have d6 := (hO5.cell (o := 6) HT.out.k.1.lt nk).trans HT.out.c6
      have f6 := (hO5.frozen (o := 6) HT.out.k.1.lt nk).trans (HT.out.k.1.f 6)
      have HQ := Hid.intro (HT.out.setU hO5 o5 (hloc.imp id (fun h => by omega)))
      replace HB := Hid.intro ((HB.out.trans (hO5.below (by omega) (fun k hk e => by have := HU.out k e.symm; omega))).setCell (p := ⟨kb, 6, none⟩) hkb (.slice (some ⟨g, 0, none⟩) (l.length + 1) cap'))
      clear o5 hO5 hloc hg nk cX
      go_simp
      refine hKK.out _ _ trivial (fun hHeld2 => ?_)
      clear hKK KK hHeld
      have hHeld := hHeld2
      clear hHeld2
      refine take1 (i := 9) (d := some 28) (v := ?_) rfl rfl (by kernel_rfl) (by kernel_rfl) (by kernel_rfl) (fun _ _ _ h => h) (Or.inl ⟨by rfl, ?_⟩) (by assumption) ?_
      rotate_left 1
      · intro w hSw
        go_simp <;> with_reducible rfl
      simp only [Act.put, List.setIfInBounds_toArray]
      try simp only [List.set_cons_succ]
      try simp only [List.set_cons_zero]
      refine take1 (i := 10) (d := some 29) (v := ?_) rfl rfl (by kernel_rfl) (by kernel_rfl) (by kernel_rfl) (fun _ _ _ h => h) (Or.inl ⟨by rfl, ?_⟩) (by assumption) ?_
      rotate_left 1
      · intro w hSw
        go_simp <;> with_reducible rfl
      simp only [Act.put, List.setIfInBounds_toArray]
      try simp only [List.set_cons_succ]
      try simp only [List.set_cons_zero]
      refine wpAnyH_ready (rs := [11]) (by kernel_rfl) (by simp) ?_
      refine AllReadyH.cons rfl (fun KK hKK => ?_) AllReadyH.nil
      go_simp
      refine hKK.out _ _ trivial (fun hHeld2 => ?_)
      clear hKK KK hHeld
      have hHeld := hHeld2
      clear hHeld2
      refine wpAnyH_done (by kernel_rfl) ?_ _
      go_wp2
      exact bodyPost_end (v := .tuple #[]) (results_none rfl _ _ _) rfl ⟨_, v', _, rfl, HQ.out, HB.out⟩
    · clear c6
      go_simp
      have bX := (Below.refl w1.heap.size w1).alloc (Nat.le_refl _) (.cells (#[.int .i64 3, .int .i64 0, .int .i64 i, .int .i64 0, .string ⟨#[]⟩]) 43)
      have cX : ∀ j u, (rcF [⟨3, 0, i, 0, ⟨#[]⟩⟩])[j]? = some u → (w1.alloc (.cells (#[.int .i64 3, .int .i64 0, .int .i64 i, .int .i64 0, .string ⟨#[]⟩]) 43)).cell? ((⟨w1.heap.size, 0, none⟩ : Addr).add j) = some u := by intro j u hu; simp only [rcF, rcC, List.flatMap_cons, List.flatMap_nil, List.append_nil] at hu; rcases j with _ | _ | _ | _ | _ | j <;> simp at hu <;> subst hu <;> simp [Addr.add, go_sem]
      generalize hbk : w1.heap.size = bk at cX ⊢
      generalize w1.alloc (.cells (#[.int .i64 3, .int .i64 0, .int .i64 i, .int .i64 0, .string ⟨#[]⟩]) 43) = X at bX cX ⊢
      have zX := bX.size
      replace HT := Hid.intro (HT.out.kept bX)
      replace HB := Hid.intro (HB.out.trans (bX.mono (by omega)))
      clear bX
      refine hKK.out _ _ trivial (fun hHeld2 => ?_)
      clear hKK KK hHeld
      have hHeld := hHeld2
      clear hHeld2
      have c6 := HT.out.c6
      refine wpAnyH_ready (rs := [4]) (by kernel_rfl) (by simp) ?_
      refine AllReadyH.cons rfl (fun KK hKK => ?_) AllReadyH.nil
      go_simp
      refine hKK.out _ _ trivial (fun hHeld2 => ?_)
      clear hKK KK hHeld
      have hHeld := hHeld2
      clear hHeld2
      clear c6
      refine wpAnyH_ready (rs := [8]) (by kernel_rfl) (by simp) ?_
      refine AllReadyH.cons rfl (fun KK hKK => ?_) AllReadyH.nil
      refine step_R rfl _ _ rfl base (.slice au mu cu) l [⟨3, 0, i, 0, ⟨#[]⟩⟩] rfl HT.out.own ⟨bk, 0, none⟩ 1 1 rfl rfl cX (by simp; omega) (by omega) (by simp) ?_
      intro g cap' w5 o5 hO5 hloc hg
      have HU : Hid (∀ k, (Value.slice au mu cu).ownBlock = some k → base ≤ k) := fun k hk => (HT.out.own.lt k hk).1
      have nk : ¬ some kb = (Value.slice au mu cu).ownBlock := fun e => (HT.out.ne kb e.symm).1 rfl
      have d6 := (hO5.cell (o := 6) HT.out.k.1.lt nk).trans HT.out.c6
      have f6 := (hO5.frozen (o := 6) HT.out.k.1.lt nk).trans (HT.out.k.1.f 6)
      have HQ := Hid.intro (HT.out.setU hO5 o5 (hloc.imp id (fun h => by omega)))
      replace HB := Hid.intro ((HB.out.trans (hO5.below (by omega) (fun k hk e => by have := HU.out k e.symm; omega))).setCell (p := ⟨kb, 6, none⟩) hkb (.slice (some ⟨g, 0, none⟩) (l.length + 1) cap'))
      clear o5 hO5 hloc hg nk cX
      go_simp
      refine hKK.out _ _ trivial (fun hHeld2 => ?_)
      clear hKK KK hHeld
      have hHeld := hHeld2
      clear hHeld2
      refine take1 (i := 9) (d := some 28) (v := ?_) rfl rfl (by kernel_rfl) (by kernel_rfl) (by kernel_rfl) (fun _ _ _ h => h) (Or.inl ⟨by rfl, ?_⟩) (by assumption) ?_
      rotate_left 1
      · intro w hSw
        go_simp <;> with_reducible rfl
      simp only [Act.put, List.setIfInBounds_toArray]
      try simp only [List.set_cons_succ]
      try simp only [List.set_cons_zero]
      refine take1 (i := 10) (d := some 29) (v := ?_) rfl rfl (by kernel_rfl) (by kernel_rfl) (by kernel_rfl) (fun _ _ _ h => h) (Or.inl ⟨by rfl, ?_⟩) (by assumption) ?_
      rotate_left 1
      · intro w hSw
        go_simp <;> with_reducible rfl
      simp only [Act.put, List.setIfInBounds_toArray]
      try simp only [List.set_cons_succ]
      try simp only [List.set_cons_zero]
      refine wpAnyH_ready (rs := [11]) (by kernel_rfl) (by simp) ?_
      refine AllReadyH.cons rfl (fun KK hKK => ?_) AllReadyH.nil
      go_simp
      refine hKK.out _ _ trivial (fun hHeld2 => ?_)
      clear hKK KK hHeld
      have hHeld := hHeld2
      clear hHeld2
      refine wpAnyH_done (by kernel_rfl) ?_ _
      go_wp2
      exact bodyPost_end (v := .tuple #[]) (results_none rfl _ _ _) rfl ⟨_, v', _, rfl, HQ.out, HB.out⟩
set_option maxRecDepth 100000 in
set_option maxHeartbeats 8000000 in
theorem add_ent (i t : Int) (d : ByteArray) (K : Kp) (v : Value) (kb base : Nat) (l : List Rc) (u : Value) (f : Bool) (w : World) (hb : base ≤ w.heap.size) (hkb : base ≤ kb) (h : TRW w kb base K v l u f) (hs : Sm K) (hl : l.length ≤ 1000) :
    Calls Try.prog 56 #[.pointer (some ⟨kb, 0, none⟩), .iface 98 (.agg #[.int .i64 i, .int .i64 t, .string d])] w fun e w' => ∃ x v' u', e = .returned x ∧ TRW w' kb base (trK K f ⟨2, t, i, 0, d⟩) v' (l ++ [⟨2, t, i, 0, d⟩]) u' (f && goB K ⟨2, t, i, 0, d⟩) ∧ Below base w w' := by
  obtain ⟨au, mu, cu, rfl⟩ : ∃ a m c, u = .slice a m c := by obtain ⟨a, c, e⟩ := OwnR.slice h.own; exact ⟨a, _, c, e⟩
  have HT := Hid.intro h
  have HS := Hid.intro hs
  have hm : ∀ w : World, (method 253 98 (.agg #[.int .i64 i, .int .i64 t, .string d]) "loop.example/g00757/impl.rec").run Try.prog w = .ok (113, (.agg #[.int .i64 i, .int .i64 t, .string d])) w := fun _ => by kernel_rfl
  have z0 := h.k.1.lt
  clear h hs
  go_enter Try.func56, Try.ntmps56
  go_upto_region 0 with fail
  go_cut [] from 4 (fun wc => ∃ v', TRW wc kb base (trK K f ⟨2, t, i, 0, d⟩) v' l (.slice au mu cu) (f && goB K ⟨2, t, i, 0, d⟩) ∧ Below base w wc)
  case first =>
    refine wp_region_held_drew (S := fun _ => True) (by kernel_rfl) trivial (fun hHeld => ?_)
    replace HT := Hid.intro (HT.out.kept (Below.refl _ _).drew)
    have HB : Hid (Below base w w.drew) := (Below.refl _ _).drew
    have zD : w.heap.size ≤ w.drew.heap.size := Nat.le_refl _
    generalize w.drew = D at HT HB zD hHeld ⊢
    have c7 := HT.out.c7
    refine take1 (i := 0) (d := some 4) (v := ?_) rfl rfl (by kernel_rfl) (by kernel_rfl) (by kernel_rfl) (fun _ _ _ h => h) (Or.inl ⟨by rfl, ?_⟩) (by assumption) ?_
    rotate_left 1
    · intro w hSw
      go_simp <;> with_reducible rfl
    simp only [Act.put, List.setIfInBounds_toArray]
    try simp only [List.set_cons_succ]
    try simp only [List.set_cons_zero]
    refine take1 (i := 1) (d := some 5) (v := ?_) rfl rfl (by kernel_rfl) (by kernel_rfl) (by kernel_rfl) (fun _ _ _ h => h) (Or.inl ⟨by rfl, ?_⟩) (by assumption) ?_
    rotate_left 1
    · intro w hSw
      go_simp <;> with_reducible rfl
    simp only [Act.put, List.setIfInBounds_toArray]
    try simp only [List.set_cons_succ]
    try simp only [List.set_cons_zero]
    refine take1 (i := 2) (d := some 6) (v := ?_) rfl rfl (by kernel_rfl) (by kernel_rfl) (by kernel_rfl) (fun _ _ _ h => h) (Or.inl ⟨by rfl, ?_⟩) (by assumption) ?_
    rotate_left 1
    · intro w hSw
      go_simp <;> with_reducible rfl
    simp only [Act.put, List.setIfInBounds_toArray]
    try simp only [List.set_cons_succ]
    try simp only [List.set_cons_zero]
    refine take1 (i := 3) (d := some 7) (v := ?_) rfl rfl (by kernel_rfl) (by kernel_rfl) (by kernel_rfl) (fun _ _ _ h => h) (Or.inl ⟨by rfl, ?_⟩) (by assumption) ?_
    rotate_left 1
    · intro w hSw
      go_simp <;> with_reducible rfl
    simp only [Act.put, List.setIfInBounds_toArray]
    try simp only [List.set_cons_succ]
    try simp only [List.set_cons_zero]
    refine wpAnyH_ready (rs := [4]) (by kernel_rfl) (by simp) ?_
    refine AllReadyH.cons rfl (fun KK hKK => ?_) AllReadyH.nil
    go_simp
    refine hKK.out _ _ trivial (fun hHeld2 => ?_)
    clear hKK KK hHeld
    have hHeld := hHeld2
    clear hHeld2
    refine take1 (i := 5) (d := some 9) (v := ?_) rfl rfl (by kernel_rfl) (by kernel_rfl) (by kernel_rfl) (fun _ _ _ h => h) (Or.inl ⟨by rfl, ?_⟩) (by assumption) ?_
    rotate_left 1
    · intro w hSw
      go_simp <;> with_reducible rfl
    simp only [Act.put, List.setIfInBounds_toArray]
    try simp only [List.set_cons_succ]
    try simp only [List.set_cons_zero]
    cases f with
    | true =>
      clear c7
      refine take1 (i := 6) (d := some 10) (v := ?_) rfl rfl (by kernel_rfl) (by kernel_rfl) (by kernel_rfl) (fun _ _ _ h => h) (Or.inl ⟨by rfl, ?_⟩) (by assumption) ?_
      rotate_left 1
      · intro w hSw
        go_simp <;> with_reducible rfl
      simp only [Act.put, List.setIfInBounds_toArray]
      try simp only [List.set_cons_succ]
      try simp only [List.set_cons_zero]
      refine take1 (i := 7) (d := some 11) (v := ?_) rfl rfl (by kernel_rfl) (by kernel_rfl) (by kernel_rfl) (fun _ _ _ h => h) (Or.inl ⟨by rfl, ?_⟩) (by assumption) ?_
      rotate_left 1
      · intro w hSw
        go_simp <;> with_reducible rfl
      simp only [Act.put, List.setIfInBounds_toArray]
      try simp only [List.set_cons_succ]
      try simp only [List.set_cons_zero]
      refine take1 (i := 8) (d := some 12) (v := ?_) rfl rfl (by kernel_rfl) (by kernel_rfl) (by kernel_rfl) (fun _ _ _ h => h) (Or.inl ⟨by rfl, ?_⟩) (by assumption) ?_
      rotate_left 1
      · intro w hSw
        go_simp <;> with_reducible rfl
      simp only [Act.put, List.setIfInBounds_toArray]
      try simp only [List.set_cons_succ]
      try simp only [List.set_cons_zero]
      refine take1 (i := 9) (d := some 13) (v := ?_) rfl rfl (by kernel_rfl) (by kernel_rfl) (by kernel_rfl) (fun _ _ _ h => h) (Or.inl ⟨by rfl, ?_⟩) (by assumption) ?_
      rotate_left 1
      · intro w hSw
        go_simp <;> with_reducible rfl
      simp only [Act.put, List.setIfInBounds_toArray]
      try simp only [List.set_cons_succ]
      try simp only [List.set_cons_zero]
      refine wpAnyH_ready (rs := [10]) (by kernel_rfl) (by simp) ?_
      refine AllReadyH.cons rfl (fun KK hKK => ?_) AllReadyH.nil
      go_simp
      refine (recEntry_any i t d D).mono ?_
      rintro e w1 ⟨rfl, b1⟩
      replace HT := Hid.intro (HT.out.kept b1)
      replace HB := Hid.intro (HB.out.trans (b1.mono (by omega)))
      have z1 := b1.size
      clear b1
      go_simp
      refine hKK.out _ _ trivial (fun hHeld2 => ?_)
      clear hKK KK hHeld
      have hHeld := hHeld2
      clear hHeld2
      refine wpAnyH_ready (rs := [11]) (by kernel_rfl) (by simp) ?_
      refine AllReadyH.cons rfl (fun KK hKK => ?_) AllReadyH.nil
      go_simp
      refine (take_any K v kb base ⟨2, t, i, 0, d⟩ w1 (by omega) HT.out.k HS.out).mono ?_
      rintro e w2 ⟨rfl, v2, hk2, hl2, ht2⟩
      have HV : Hid (∀ k, v.ownBlock = some k → base ≤ k) := fun k hk => (HT.out.k.2.1.lt k hk).1
      replace HT := Hid.intro (HT.out.took hk2 hl2 ht2)
      replace HB := Hid.intro (HB.out.trans (ht2.only.below (by omega) (fun k hk e => by
        rcases e with e | e
        · omega
        · have := HV.out k e.symm; omega)))
      have c7 := HT.out.c7
      have f7 := HT.out.k.1.f
      clear hk2 hl2 ht2
      go_simp
      refine hKK.out _ _ trivial (fun hHeld2 => ?_)
      clear hKK KK hHeld
      have hHeld := hHeld2
      clear hHeld2
      refine take1 (i := 12) (d := some 16) (v := ?_) rfl rfl (by kernel_rfl) (by kernel_rfl) (by kernel_rfl) (fun _ _ _ h => h) (Or.inl ⟨by rfl, ?_⟩) (by assumption) ?_
      rotate_left 1
      · intro w hSw
        go_simp <;> with_reducible rfl
      simp only [Act.put, List.setIfInBounds_toArray]
      try simp only [List.set_cons_succ]
      try simp only [List.set_cons_zero]
      refine take1 (i := 13) (d := some 17) (v := ?_) rfl rfl (by kernel_rfl) (by kernel_rfl) (by kernel_rfl) (fun _ _ _ h => h) (Or.inl ⟨by rfl, ?_⟩) (by assumption) ?_
      rotate_left 1
      · intro w hSw
        go_simp <;> with_reducible rfl
      simp only [Act.put, List.setIfInBounds_toArray]
      try simp only [List.set_cons_succ]
      try simp only [List.set_cons_zero]
      refine take1 (i := 14) (d := some 18) (v := ?_) rfl rfl (by kernel_rfl) (by kernel_rfl) (by kernel_rfl) (fun _ _ _ h => h) (Or.inl ⟨by rfl, ?_⟩) (by assumption) ?_
      rotate_left 1
      · intro w hSw
        go_simp <;> with_reducible rfl
      simp only [Act.put, List.setIfInBounds_toArray]
      try simp only [List.set_cons_succ]
      try simp only [List.set_cons_zero]
      refine wpAnyH_ready (rs := [15]) (by kernel_rfl) (by simp) ?_
      refine AllReadyH.cons rfl (fun KK hKK => ?_) AllReadyH.nil
      go_simp
      refine hKK.out _ _ trivial (fun hHeld2 => ?_)
      clear hKK KK hHeld
      have hHeld := hHeld2
      clear hHeld2
      refine wpAnyH_done (by kernel_rfl) ?_ _
      go_wp2_with fail
      go_meet
      case rel => exact ⟨v2, HT.out.setF _, HB.out.setCell hkb _⟩
    | false =>
      refine take1 (i := 6) (d := some 10) (v := undef) rfl rfl (by kernel_rfl) (by kernel_rfl) (by kernel_rfl) (fun _ _ _ h => h) (Or.inr ⟨by rfl, rfl⟩) (by assumption) ?_
      simp only [Act.put, List.setIfInBounds_toArray]
      try simp only [List.set_cons_succ]
      try simp only [List.set_cons_zero]
      refine take1 (i := 7) (d := some 11) (v := undef) rfl rfl (by kernel_rfl) (by kernel_rfl) (by kernel_rfl) (fun _ _ _ h => h) (Or.inr ⟨by rfl, rfl⟩) (by assumption) ?_
      simp only [Act.put, List.setIfInBounds_toArray]
      try simp only [List.set_cons_succ]
      try simp only [List.set_cons_zero]
      refine take1 (i := 8) (d := some 12) (v := undef) rfl rfl (by kernel_rfl) (by kernel_rfl) (by kernel_rfl) (fun _ _ _ h => h) (Or.inr ⟨by rfl, rfl⟩) (by assumption) ?_
      simp only [Act.put, List.setIfInBounds_toArray]
      try simp only [List.set_cons_succ]
      try simp only [List.set_cons_zero]
      refine take1 (i := 9) (d := some 13) (v := undef) rfl rfl (by kernel_rfl) (by kernel_rfl) (by kernel_rfl) (fun _ _ _ h => h) (Or.inr ⟨by rfl, rfl⟩) (by assumption) ?_
      simp only [Act.put, List.setIfInBounds_toArray]
      try simp only [List.set_cons_succ]
      try simp only [List.set_cons_zero]
      refine take1 (i := 10) (d := some 14) (v := undef) rfl rfl (by kernel_rfl) (by kernel_rfl) (by kernel_rfl) (fun _ _ _ h => h) (Or.inr ⟨by rfl, rfl⟩) (by assumption) ?_
      simp only [Act.put, List.setIfInBounds_toArray]
      try simp only [List.set_cons_succ]
      try simp only [List.set_cons_zero]
      refine take1 (i := 11) (d := some 15) (v := undef) rfl rfl (by kernel_rfl) (by kernel_rfl) (by kernel_rfl) (fun _ _ _ h => h) (Or.inr ⟨by rfl, rfl⟩) (by assumption) ?_
      simp only [Act.put, List.setIfInBounds_toArray]
      try simp only [List.set_cons_succ]
      try simp only [List.set_cons_zero]
      refine take1 (i := 12) (d := some 16) (v := ?_) rfl rfl (by kernel_rfl) (by kernel_rfl) (by kernel_rfl) (fun _ _ _ h => h) (Or.inl ⟨by rfl, ?_⟩) (by assumption) ?_
      rotate_left 1
      · intro w hSw
        go_simp <;> with_reducible rfl
      simp only [Act.put, List.setIfInBounds_toArray]
      try simp only [List.set_cons_succ]
      try simp only [List.set_cons_zero]
      refine take1 (i := 13) (d := some 17) (v := ?_) rfl rfl (by kernel_rfl) (by kernel_rfl) (by kernel_rfl) (fun _ _ _ h => h) (Or.inl ⟨by rfl, ?_⟩) (by assumption) ?_
      rotate_left 1
      · intro w hSw
        go_simp <;> with_reducible rfl
      simp only [Act.put, List.setIfInBounds_toArray]
      try simp only [List.set_cons_succ]
      try simp only [List.set_cons_zero]
      refine take1 (i := 14) (d := some 18) (v := ?_) rfl rfl (by kernel_rfl) (by kernel_rfl) (by kernel_rfl) (fun _ _ _ h => h) (Or.inl ⟨by rfl, ?_⟩) (by assumption) ?_
      rotate_left 1
      · intro w hSw
        go_simp <;> with_reducible rfl
      simp only [Act.put, List.setIfInBounds_toArray]
      try simp only [List.set_cons_succ]
      try simp only [List.set_cons_zero]
      have f7 := HT.out.k.1.f
      refine wpAnyH_ready (rs := [15]) (by kernel_rfl) (by simp) ?_
      refine AllReadyH.cons rfl (fun KK hKK => ?_) AllReadyH.nil
      go_simp
      refine hKK.out _ _ trivial (fun hHeld2 => ?_)
      clear hKK KK hHeld
      have hHeld := hHeld2
      clear hHeld2
      refine wpAnyH_done (by kernel_rfl) ?_ _
      go_wp2_with fail
      go_meet
      case rel => exact ⟨v, HT.out.setF _, HB.out.setCell hkb _⟩
  case rest =>
  obtain ⟨wa, hwa⟩ : ∃ wa, wa = wc := ⟨_, rfl⟩
  subst hwa
  obtain ⟨v', ht, hbw⟩ := hcut
  replace HT := Hid.intro ht
  have HB := Hid.intro hbw
  have za := hbw.size
  clear ht hbw HS
  go_upto_region 1 with fail
  refine wp_region_held_drew (S := fun _ => True) (by kernel_rfl) trivial (fun hHeld => ?_)
  replace HT := Hid.intro (HT.out.kept (Below.refl _ _).drew)
  replace HB : Hid (Below base w wa.drew) := HB.out.drew
  have zD : wa.heap.size ≤ wa.drew.heap.size := Nat.le_refl _
  generalize wa.drew = D at HT HB zD hHeld ⊢
  have c6 := HT.out.c6
  refine take1 (i := 0) (d := some 19) (v := ?_) rfl rfl (by kernel_rfl) (by kernel_rfl) (by kernel_rfl) (fun _ _ _ h => h) (Or.inl ⟨by rfl, ?_⟩) (by assumption) ?_
  rotate_left 1
  · intro w hSw
    go_simp <;> with_reducible rfl
  simp only [Act.put, List.setIfInBounds_toArray]
  try simp only [List.set_cons_succ]
  try simp only [List.set_cons_zero]
  refine take1 (i := 1) (d := some 20) (v := ?_) rfl rfl (by kernel_rfl) (by kernel_rfl) (by kernel_rfl) (fun _ _ _ h => h) (Or.inl ⟨by rfl, ?_⟩) (by assumption) ?_
  rotate_left 1
  · intro w hSw
    go_simp <;> with_reducible rfl
  simp only [Act.put, List.setIfInBounds_toArray]
  try simp only [List.set_cons_succ]
  try simp only [List.set_cons_zero]
  refine take1 (i := 2) (d := some 21) (v := ?_) rfl rfl (by kernel_rfl) (by kernel_rfl) (by kernel_rfl) (fun _ _ _ h => h) (Or.inl ⟨by rfl, ?_⟩) (by assumption) ?_
  rotate_left 1
  · intro w hSw
    go_simp <;> with_reducible rfl
  simp only [Act.put, List.setIfInBounds_toArray]
  try simp only [List.set_cons_succ]
  try simp only [List.set_cons_zero]
  refine take1 (i := 3) (d := some 22) (v := ?_) rfl rfl (by kernel_rfl) (by kernel_rfl) (by kernel_rfl) (fun _ _ _ h => h) (Or.inl ⟨by rfl, ?_⟩) (by assumption) ?_
  rotate_left 1
  · intro w hSw
    go_simp <;> with_reducible rfl
  simp only [Act.put, List.setIfInBounds_toArray]
  try simp only [List.set_cons_succ]
  try simp only [List.set_cons_zero]
  refine take1 (i := 5) (d := some 24) (v := ?_) rfl rfl (by kernel_rfl) (by kernel_rfl) (by kernel_rfl) (fun _ _ _ h => h) (Or.inl ⟨by rfl, ?_⟩) (by assumption) ?_
  rotate_left 1
  · intro w hSw
    go_simp <;> with_reducible rfl
  simp only [Act.put, List.setIfInBounds_toArray]
  try simp only [List.set_cons_succ]
  try simp only [List.set_cons_zero]
  refine wpAnyH_ready (rs := [4, 6]) (by kernel_rfl) (by simp) ?_
  refine AllReadyH.cons rfl (fun KK hKK => ?_) (AllReadyH.cons rfl (fun KK hKK => ?_) AllReadyH.nil)
  · go_simp
    refine hKK.out _ _ trivial (fun hHeld2 => ?_)
    clear hKK KK hHeld
    have hHeld := hHeld2
    clear hHeld2
    clear c6
    refine wpAnyH_ready (rs := [6]) (by kernel_rfl) (by simp) ?_
    refine AllReadyH.cons rfl (fun KK hKK => ?_) AllReadyH.nil
    go_simp
    refine (recEntry_any i t d D).mono ?_
    rintro e w1 ⟨rfl, b1⟩
    replace HT := Hid.intro (HT.out.kept b1)
    replace HB := Hid.intro (HB.out.trans (b1.mono (by omega)))
    have z1 := b1.size
    have c6 := HT.out.c6
    clear b1
    go_simp
    refine hKK.out _ _ trivial (fun hHeld2 => ?_)
    clear hKK KK hHeld
    have hHeld := hHeld2
    clear hHeld2
    clear c6
    refine wpAnyH_ready (rs := [7]) (by kernel_rfl) (by simp) ?_
    refine AllReadyH.cons rfl (fun KK hKK => ?_) AllReadyH.nil
    go_simp
    have bX := (Below.refl w1.heap.size w1).alloc (Nat.le_refl _) (.cells (#[.int .i64 2, .int .i64 t, .int .i64 i, .int .i64 0, .string d]) 43)
    have cX : ∀ j u, (rcF [⟨2, t, i, 0, d⟩])[j]? = some u → (w1.alloc (.cells (#[.int .i64 2, .int .i64 t, .int .i64 i, .int .i64 0, .string d]) 43)).cell? ((⟨w1.heap.size, 0, none⟩ : Addr).add j) = some u := by intro j u hu; simp only [rcF, rcC, List.flatMap_cons, List.flatMap_nil, List.append_nil] at hu; rcases j with _ | _ | _ | _ | _ | j <;> simp at hu <;> subst hu <;> simp [Addr.add, go_sem]
    generalize hbk : w1.heap.size = bk at cX ⊢
    generalize w1.alloc (.cells (#[.int .i64 2, .int .i64 t, .int .i64 i, .int .i64 0, .string d]) 43) = X at bX cX ⊢
    have zX := bX.size
    replace HT := Hid.intro (HT.out.kept bX)
    replace HB := Hid.intro (HB.out.trans (bX.mono (by omega)))
    clear bX
    refine hKK.out _ _ trivial (fun hHeld2 => ?_)
    clear hKK KK hHeld
    have hHeld := hHeld2
    clear hHeld2
    refine wpAnyH_ready (rs := [8]) (by kernel_rfl) (by simp) ?_
    refine AllReadyH.cons rfl (fun KK hKK => ?_) AllReadyH.nil
    refine step_R rfl _ _ rfl base (.slice au mu cu) l [⟨2, t, i, 0, d⟩] rfl HT.out.own ⟨bk, 0, none⟩ 1 1 rfl rfl cX (by simp; omega) (by omega) (by simp) ?_
    intro g cap' w5 o5 hO5 hloc hg
    have HU : Hid (∀ k, (Value.slice au mu cu).ownBlock = some k → base ≤ k) := fun k hk => (HT.out.own.lt k hk).1
    have nk : ¬ some kb = (Value.slice au mu cu).ownBlock := fun e => (HT.out.ne kb e.symm).1 rfl
    have d6 := (hO5.cell (o := 6) HT.out.k.1.lt nk).trans HT.out.c6
    have f6 := (hO5.frozen (o := 6) HT.out.k.1.lt nk).trans (HT.out.k.1.f 6)
    have HQ := Hid.intro (HT.out.setU hO5 o5 (hloc.imp id (fun h => by omega)))
    replace HB := Hid.intro ((HB.out.trans (hO5.below (by omega) (fun k hk e => by have := HU.out k e.symm; omega))).setCell (p := ⟨kb, 6, none⟩) hkb (.slice (some ⟨g, 0, none⟩) (l.length + 1) cap'))
    clear o5 hO5 hloc hg nk cX
    go_simp
    refine hKK.out _ _ trivial (fun hHeld2 => ?_)
    clear hKK KK hHeld
    have hHeld := hHeld2
    clear hHeld2
    refine take1 (i := 9) (d := some 28) (v := ?_) rfl rfl (by kernel_rfl) (by kernel_rfl) (by kernel_rfl) (fun _ _ _ h => h) (Or.inl ⟨by rfl, ?_⟩) (by assumption) ?_
    rotate_left 1
    · intro w hSw
      go_simp <;> with_reducible rfl
    simp only [Act.put, List.setIfInBounds_toArray]
    try simp only [List.set_cons_succ]
    try simp only [List.set_cons_zero]
    refine take1 (i := 10) (d := some 29) (v := ?_) rfl rfl (by kernel_rfl) (by kernel_rfl) (by kernel_rfl) (fun _ _ _ h => h) (Or.inl ⟨by rfl, ?_⟩) (by assumption) ?_
    rotate_left 1
    · intro w hSw
      go_simp <;> with_reducible rfl
    simp only [Act.put, List.setIfInBounds_toArray]
    try simp only [List.set_cons_succ]
    try simp only [List.set_cons_zero]
    refine wpAnyH_ready (rs := [11]) (by kernel_rfl) (by simp) ?_
    refine AllReadyH.cons rfl (fun KK hKK => ?_) AllReadyH.nil
    go_simp
    refine hKK.out _ _ trivial (fun hHeld2 => ?_)
    clear hKK KK hHeld
    have hHeld := hHeld2
    clear hHeld2
    refine wpAnyH_done (by kernel_rfl) ?_ _
    go_wp2
    exact bodyPost_end (v := .tuple #[]) (results_none rfl _ _ _) rfl ⟨_, v', _, rfl, HQ.out, HB.out⟩
  · clear c6
    go_simp
    refine (recEntry_any i t d D).mono ?_
    rintro e w1 ⟨rfl, b1⟩
    replace HT := Hid.intro (HT.out.kept b1)
    replace HB := Hid.intro (HB.out.trans (b1.mono (by omega)))
    have z1 := b1.size
    have c6 := HT.out.c6
    clear b1
    go_simp
    refine hKK.out _ _ trivial (fun hHeld2 => ?_)
    clear hKK KK hHeld
    have hHeld := hHeld2
    clear hHeld2
    refine wpAnyH_ready (rs := [4, 7]) (by kernel_rfl) (by simp) ?_
    refine AllReadyH.cons rfl (fun KK hKK => ?_) (AllReadyH.cons rfl (fun KK hKK => ?_) AllReadyH.nil)
    · go_simp
      refine hKK.out _ _ trivial (fun hHeld2 => ?_)
      clear hKK KK hHeld
      have hHeld := hHeld2
      clear hHeld2
      clear c6
      refine wpAnyH_ready (rs := [7]) (by kernel_rfl) (by simp) ?_
      refine AllReadyH.cons rfl (fun KK hKK => ?_) AllReadyH.nil
      go_simp
      have bX := (Below.refl w1.heap.size w1).alloc (Nat.le_refl _) (.cells (#[.int .i64 2, .int .i64 t, .int .i64 i, .int .i64 0, .string d]) 43)
      have cX : ∀ j u, (rcF [⟨2, t, i, 0, d⟩])[j]? = some u → (w1.alloc (.cells (#[.int .i64 2, .int .i64 t, .int .i64 i, .int .i64 0, .string d]) 43)).cell? ((⟨w1.heap.size, 0, none⟩ : Addr).add j) = some u := by intro j u hu; simp only [rcF, rcC, List.flatMap_cons, List.flatMap_nil, List.append_nil] at hu; rcases j with _ | _ | _ | _ | _ | j <;> simp at hu <;> subst hu <;> simp [Addr.add, go_sem]
      generalize hbk : w1.heap.size = bk at cX ⊢
      generalize w1.alloc (.cells (#[.int .i64 2, .int .i64 t, .int .i64 i, .int .i64 0, .string d]) 43) = X at bX cX ⊢
      have zX := bX.size
      replace HT := Hid.intro (HT.out.kept bX)
      replace HB := Hid.intro (HB.out.trans (bX.mono (by omega)))
      clear bX
      refine hKK.out _ _ trivial (fun hHeld2 => ?_)
      clear hKK KK hHeld
      have hHeld := hHeld2
      clear hHeld2
      refine wpAnyH_ready (rs := [8]) (by kernel_rfl) (by simp) ?_
      refine AllReadyH.cons rfl (fun KK hKK => ?_) AllReadyH.nil
      refine step_R rfl _ _ rfl base (.slice au mu cu) l [⟨2, t, i, 0, d⟩] rfl HT.out.own ⟨bk, 0, none⟩ 1 1 rfl rfl cX (by simp; omega) (by omega) (by simp) ?_
      intro g cap' w5 o5 hO5 hloc hg
      have HU : Hid (∀ k, (Value.slice au mu cu).ownBlock = some k → base ≤ k) := fun k hk => (HT.out.own.lt k hk).1
      have nk : ¬ some kb = (Value.slice au mu cu).ownBlock := fun e => (HT.out.ne kb e.symm).1 rfl
      have d6 := (hO5.cell (o := 6) HT.out.k.1.lt nk).trans HT.out.c6
      have f6 := (hO5.frozen (o := 6) HT.out.k.1.lt nk).trans (HT.out.k.1.f 6)
      have HQ := Hid.intro (HT.out.setU hO5 o5 (hloc.imp id (fun h => by omega)))
      replace HB := Hid.intro ((HB.out.trans (hO5.below (by omega) (fun k hk e => by have := HU.out k e.symm; omega))).setCell (p := ⟨kb, 6, none⟩) hkb (.slice (some ⟨g, 0, none⟩) (l.length + 1) cap'))
      clear o5 hO5 hloc hg nk cX
      go_simp
      refine hKK.out _ _ trivial (fun hHeld2 => ?_)
      clear hKK KK hHeld
      have hHeld := hHeld2
      clear hHeld2
      refine take1 (i := 9) (d := some 28) (v := ?_) rfl rfl (by kernel_rfl) (by kernel_rfl) (by kernel_rfl) (fun _ _ _ h => h) (Or.inl ⟨by rfl, ?_⟩) (by assumption) ?_
      rotate_left 1
      · intro w hSw
        go_simp <;> with_reducible rfl
      simp only [Act.put, List.setIfInBounds_toArray]
      try simp only [List.set_cons_succ]
      try simp only [List.set_cons_zero]
      refine take1 (i := 10) (d := some 29) (v := ?_) rfl rfl (by kernel_rfl) (by kernel_rfl) (by kernel_rfl) (fun _ _ _ h => h) (Or.inl ⟨by rfl, ?_⟩) (by assumption) ?_
      rotate_left 1
      · intro w hSw
        go_simp <;> with_reducible rfl
      simp only [Act.put, List.setIfInBounds_toArray]
      try simp only [List.set_cons_succ]
      try simp only [List.set_cons_zero]
      refine wpAnyH_ready (rs := [11]) (by kernel_rfl) (by simp) ?_
      refine AllReadyH.cons rfl (fun KK hKK => ?_) AllReadyH.nil
      go_simp
      refine hKK.out _ _ trivial (fun hHeld2 => ?_)
      clear hKK KK hHeld
      have hHeld := hHeld2
      clear hHeld2
      refine wpAnyH_done (by kernel_rfl) ?_ _
      go_wp2
      exact bodyPost_end (v := .tuple #[]) (results_none rfl _ _ _) rfl ⟨_, v', _, rfl, HQ.out, HB.out⟩
    · clear c6
      go_simp
      have bX := (Below.refl w1.heap.size w1).alloc (Nat.le_refl _) (.cells (#[.int .i64 2, .int .i64 t, .int .i64 i, .int .i64 0, .string d]) 43)
      have cX : ∀ j u, (rcF [⟨2, t, i, 0, d⟩])[j]? = some u → (w1.alloc (.cells (#[.int .i64 2, .int .i64 t, .int .i64 i, .int .i64 0, .string d]) 43)).cell? ((⟨w1.heap.size, 0, none⟩ : Addr).add j) = some u := by intro j u hu; simp only [rcF, rcC, List.flatMap_cons, List.flatMap_nil, List.append_nil] at hu; rcases j with _ | _ | _ | _ | _ | j <;> simp at hu <;> subst hu <;> simp [Addr.add, go_sem]
      generalize hbk : w1.heap.size = bk at cX ⊢
      generalize w1.alloc (.cells (#[.int .i64 2, .int .i64 t, .int .i64 i, .int .i64 0, .string d]) 43) = X at bX cX ⊢
      have zX := bX.size
      replace HT := Hid.intro (HT.out.kept bX)
      replace HB := Hid.intro (HB.out.trans (bX.mono (by omega)))
      clear bX
      refine hKK.out _ _ trivial (fun hHeld2 => ?_)
      clear hKK KK hHeld
      have hHeld := hHeld2
      clear hHeld2
      have c6 := HT.out.c6
      refine wpAnyH_ready (rs := [4]) (by kernel_rfl) (by simp) ?_
      refine AllReadyH.cons rfl (fun KK hKK => ?_) AllReadyH.nil
      go_simp
      refine hKK.out _ _ trivial (fun hHeld2 => ?_)
      clear hKK KK hHeld
      have hHeld := hHeld2
      clear hHeld2
      clear c6
      refine wpAnyH_ready (rs := [8]) (by kernel_rfl) (by simp) ?_
      refine AllReadyH.cons rfl (fun KK hKK => ?_) AllReadyH.nil
      refine step_R rfl _ _ rfl base (.slice au mu cu) l [⟨2, t, i, 0, d⟩] rfl HT.out.own ⟨bk, 0, none⟩ 1 1 rfl rfl cX (by simp; omega) (by omega) (by simp) ?_
      intro g cap' w5 o5 hO5 hloc hg
      have HU : Hid (∀ k, (Value.slice au mu cu).ownBlock = some k → base ≤ k) := fun k hk => (HT.out.own.lt k hk).1
      have nk : ¬ some kb = (Value.slice au mu cu).ownBlock := fun e => (HT.out.ne kb e.symm).1 rfl
      have d6 := (hO5.cell (o := 6) HT.out.k.1.lt nk).trans HT.out.c6
      have f6 := (hO5.frozen (o := 6) HT.out.k.1.lt nk).trans (HT.out.k.1.f 6)
      have HQ := Hid.intro (HT.out.setU hO5 o5 (hloc.imp id (fun h => by omega)))
      replace HB := Hid.intro ((HB.out.trans (hO5.below (by omega) (fun k hk e => by have := HU.out k e.symm; omega))).setCell (p := ⟨kb, 6, none⟩) hkb (.slice (some ⟨g, 0, none⟩) (l.length + 1) cap'))
      clear o5 hO5 hloc hg nk cX
      go_simp
      refine hKK.out _ _ trivial (fun hHeld2 => ?_)
      clear hKK KK hHeld
      have hHeld := hHeld2
      clear hHeld2
      refine take1 (i := 9) (d := some 28) (v := ?_) rfl rfl (by kernel_rfl) (by kernel_rfl) (by kernel_rfl) (fun _ _ _ h => h) (Or.inl ⟨by rfl, ?_⟩) (by assumption) ?_
      rotate_left 1
      · intro w hSw
        go_simp <;> with_reducible rfl
      simp only [Act.put, List.setIfInBounds_toArray]
      try simp only [List.set_cons_succ]
      try simp only [List.set_cons_zero]
      refine take1 (i := 10) (d := some 29) (v := ?_) rfl rfl (by kernel_rfl) (by kernel_rfl) (by kernel_rfl) (fun _ _ _ h => h) (Or.inl ⟨by rfl, ?_⟩) (by assumption) ?_
      rotate_left 1
      · intro w hSw
        go_simp <;> with_reducible rfl
      simp only [Act.put, List.setIfInBounds_toArray]
      try simp only [List.set_cons_succ]
      try simp only [List.set_cons_zero]
      refine wpAnyH_ready (rs := [11]) (by kernel_rfl) (by simp) ?_
      refine AllReadyH.cons rfl (fun KK hKK => ?_) AllReadyH.nil
      go_simp
      refine hKK.out _ _ trivial (fun hHeld2 => ?_)
      clear hKK KK hHeld
      have hHeld := hHeld2
      clear hHeld2
      refine wpAnyH_done (by kernel_rfl) ?_ _
      go_wp2
      exact bodyPost_end (v := .tuple #[]) (results_none rfl _ _ _) rfl ⟨_, v', _, rfl, HQ.out, HB.out⟩
end Go.Proofs.Ytkilepoimocoeaa
