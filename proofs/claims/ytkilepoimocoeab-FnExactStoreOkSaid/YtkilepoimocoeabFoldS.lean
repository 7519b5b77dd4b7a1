/- l3Fold: what Sure and the first of Loose come to. -/
import Derived.Test.YtkilepoimocoeabStepT
import Derived.Test.YtkilepoimocoeabStoreI
import Derived.Test.YtkilepoimocoeabSet6
import Derived.Deep.RegionHeld3
namespace Go.Proofs.Ytkilepoimocoeab
open Go.RowKit
set_option linter.unusedVariables false
theorem take1s {P : Program} {md : Region.Mode} {ops : Array Oper} {Q : Exit → Act → World → Prop} {S : World → Prop} {i : Nat} {oi : Oper} {d : Option Nat} {v : Value} {fuel : Nat} {listed : Array Bool} {a : Act} {w : World} (hi : ops[i]? = some oi) (hd : oi.dst = d)
    (hs : Region.noSelect ops = true) (hf : Region.free md ops listed i = true) (hr : (Region.ready md ops listed).contains i = true)
    (hQ : ∀ c a w, Q (.panic c) (a.put oi.dst v) w → Q (.panic c) a w) (hy : YieldsIf P ops S oi v a) (hS : S w)
    (h : wpAnyH P md ops Q S fuel (listed.setIfInBounds i true) (a.put d v) w) : wpAnyH P md ops Q S (fuel + 1) listed a w := by
  subst hd
  exact wpAnyH_take hi hs hf hr hQ hy hS h
/-- The variable k of the fold. -/
structure FV (u : World) (b base : Nat) (K : Kp) (v : Value) : Prop where
  hi : b < u.heap.size
  cell : ∀ o, u.cell? ⟨b, o, none⟩ = #[.int .i64 K.t, .int .i64 K.v, .int .i64 K.si, .int .i64 K.st, .string K.sd, v][o]?
  fro : ∀ o, u.frozen? ⟨b, o, none⟩ = false
  own : OwnE u base v K.e
  ne : ∀ k, v.ownBlock = some k → ¬ k = b
def SFo (K : Kp) (v : Value) (kb sb : Nat) (u : Value) (b o : Nat) (r : Rc) (w' : World) : Prop := w'.cell? ⟨kb, 0, none⟩ = some (.int .i64 K.t) ∧ w'.cell? ⟨kb, 1, none⟩ = some (.int .i64 K.v) ∧ w'.cell? ⟨kb, 2, none⟩ = some (.int .i64 K.si) ∧ w'.cell? ⟨kb, 3, none⟩ = some (.int .i64 K.st) ∧ w'.cell? ⟨kb, 4, none⟩ = some (.string K.sd) ∧ w'.cell? ⟨kb, 5, none⟩ = some v ∧ w'.cell? ⟨sb, 6, none⟩ = some u ∧ w'.cell? ⟨b, o, none⟩ = some (.int .i64 r.k) ∧ w'.cell? ⟨b, o + 1, none⟩ = some (.int .i64 r.t) ∧ w'.cell? ⟨b, o + 2, none⟩ = some (.int .i64 r.i) ∧ w'.cell? ⟨b, o + 3, none⟩ = some (.int .i64 r.v) ∧ w'.cell? ⟨b, o + 4, none⟩ = some (.string r.d)
theorem foldK_first {K K' : Kp} {l : List Rc} {j : Nat} {n : Int} (h : j < l.length) (hn : (j : Int) < n) (hf : foldK K (l.take j) = some K') (hg : goB K' l[j] = false) : foldK K (firstN n l) = none := by
  have hj : j < (firstN n l).length := by simp [firstN]; omega
  have e : (firstN n l).take j = l.take j := by simp only [firstN, List.take_take]; congr 1; omega
  refine foldK_stop (l := firstN n l) (j := j) (K' := K') hj (by rw [e]; exact hf) ?_
  simpa [firstN] using hg
theorem firstN_all {l : List Rc} {j : Nat} {n : Int} (hj : j ≤ l.length) (hn : (j : Int) ≤ max n 0) (h : ¬ (j : Int) < n ∨ j = l.length) : firstN n l = l.take j := by
  unfold firstN
  rcases h with h | h
  · congr 1; omega
  · subst h
    rw [List.take_of_length_le (by omega), List.take_of_length_le (by omega)]
/-- What l3Fold leaves. -/
def FoldP (S : Sto) (n : Int) (w : World) (e : Ending) (w' : World) : Prop := (∃ K1 v', foldK S.k (firstN n S.l) = some K1 ∧ e = .returned (.tuple #[kpV K1 v', .bool true]) ∧ NewE w w' v' K1.e) ∨ (foldK S.k (firstN n S.l) = none ∧ ∃ K1 a m cap, e = .returned (.tuple #[kpV K1 (.slice a m cap), .bool false]) ∧ Below w.heap.size w w')
theorem FoldP.no {S : Sto} {n : Int} {w w' : World} {K1 : Kp} {a : Option Addr} {m cap : Nat} (h : foldK S.k (firstN n S.l) = none) (hb : Below w.heap.size w w') : FoldP S n w (.returned (.tuple #[kpV K1 (.slice a m cap), .bool false])) w' := Or.inr ⟨h, K1, a, m, cap, rfl, hb⟩
theorem FoldP.yes {S : Sto} {n : Int} {w w' : World} {K1 : Kp} {v' : Value} (h : foldK S.k (firstN n S.l) = some K1) (ho : OwnE w' w.heap.size v' K1.e) (hb : Below w.heap.size w w') : FoldP S n w (.returned (.tuple #[kpV K1 v', .bool true])) w' := Or.inl ⟨K1, v', h, rfl, ho, hb⟩
set_option maxRecDepth 100000 in
set_option maxHeartbeats 8000000 in
theorem l3Fold_any (S : Sto) (v u : Value) (N : Nat) (n : Int) (w : World) (hN : N ≤ w.heap.size) (hr : RowE w N v S.k.e) (hu : RowR w N u S.l) (hs : Sm S.k) (hl : S.l.length ≤ 1048576) :
    Calls Try.prog 35 #[stV S v u, .int .i64 n] w fun e w' => FoldP S n w e w' := by
  have HR := Hid.intro hr
  have hle : S.k.e.length ≤ 60 := hs.2.2
  have HS := Hid.intro hs
  obtain ⟨a, cap, rfl, lc, hm, hcells⟩ := hu
  have HU := Hid.intro hcells
  clear hr hs hcells
  go_enter Try.func35, Try.ntmps35
  go_wp2_with fail
  obtain ⟨W, hW, bW, zW, c1, f1, c2, f2⟩ := boxed2 w #[.int .i64 S.k.t, .int .i64 S.k.v, .int .i64 S.k.si, .int .i64 S.k.st, .string S.k.sd, v, .slice a S.l.length cap] #[.int .i64 0, .int .i64 0, .int .i64 0, .int .i64 0, .string ⟨#[]⟩, .slice none 0 0] 38 35
  simp only [hW]
  refine (l3Copy_any S.k v N W (by omega) (HR.out.kept (bW.mono hN)) (by omega)).mono ?_
  rintro e w1 ⟨v1, rfl, o1, b1⟩
  obtain ⟨a1, cap1, rfl⟩ := o1.slice
  replace c1 := keepC b1 (by omega) c1
  replace c2 := keepC b1 (by omega) c2
  replace f2 := keepF b1 (by omega) f2
  have z1 := b1.size
  have B1 := bW.trans (b1.mono (by omega))
  have hz1 : w.heap.size + 1 < w1.heap.size := by omega
  have HO1 : Hid (OwnE w1 (w.heap.size + 1 + 1) (.slice a1 S.k.e.length cap1) S.k.e) := by
    have := o1
    rw [zW] at this
    exact this
  clear hW bW zW f1 b1 z1 o1
  go_wp2
  obtain ⟨X0, hX, bX, zX, cX, fX⟩ := boxed w1 #[.int .i64 S.k.t, .int .i64 S.k.v, .int .i64 S.k.si, .int .i64 S.k.st, .string S.k.sd, .slice a1 S.k.e.length cap1] 35
  simp only [hX]
  have HKX : Hid (FV X0 w1.heap.size (w.heap.size + 1 + 1) S.k (.slice a1 S.k.e.length cap1)) := ⟨by omega, cX, fX, HO1.out.kept bX, fun k hk e => by have := (HO1.out.lt k hk).2; omega⟩
  replace c1 := keepC bX (by omega) c1
  replace c2 := keepC bX hz1 c2
  replace f2 := keepF bX hz1 f2
  have BX := B1.trans (bX.mono (by omega))
  have hzX : w.heap.size + 1 + 1 ≤ w1.heap.size := by omega
  have hkX : w1.heap.size < X0.heap.size := by omega
  have f1 : True := trivial
  clear hX bX zX cX fX HO1 B1 hz1
  go_loopw [7] (fun i wr => ∃ (j : Nat) (K' : Kp) (v' : Value), i = .int .i64 j ∧ j ≤ S.l.length ∧ (j : Int) ≤ max n 0 ∧ Hid (foldK S.k (S.l.take j) = some K') ∧ Hid (FV wr w1.heap.size (w.heap.size + 1 + 1) K' v') ∧ Below (w.heap.size + 1 + 1) X0 wr) (fun i _ => S.l.length - (intOf i).toNat)
  case atStart => exact ⟨0, S.k, _, rfl, Nat.zero_le _, by omega, by unfold Hid; simp [foldK], HKX, Below.refl _ _⟩
  case round =>
    obtain ⟨j, K', v', rfl, hj, hjn, HF, HK, hbel⟩ := hrel
    have hs2 := hbel.size
    have ds := keepC hbel (by omega) c1
    by_cases hn : (j : Int) < n
    · by_cases hlt : j < S.l.length
      · obtain ⟨b, off, rfl, hbN, hcc⟩ := HU.out (by intro h; rw [h] at hlt; simp at hlt)
        obtain ⟨p0, p1, p2, p3, p4⟩ := hcc j hlt
        have hat := @foldK_at S.k K' S.l j hlt HF.out
        have hst := @foldK_first S.k K' S.l j n hlt hn HF.out
        generalize S.l[j] = r at p0 p1 p2 p3 p4 hat hst
        have HAT := Hid.intro hat
        have HST := Hid.intro hst
        have HBW : Hid (Below w.heap.size w wr) := BX.trans (hbel.mono (by omega))
        have HV : Hid (w1.heap.size < wr.heap.size) := HK.out.hi
        have HVL : Hid (∀ k, v'.ownBlock = some k → w.heap.size + 1 + 1 ≤ k ∧ k < wr.heap.size) := HK.out.own.lt
        have HNE := Hid.intro HK.out.ne
        have HSM : Hid (Sm K') := HS.out.fold HF.out
        have HCF : Hid (∀ w', Only (fun k => some k = v'.ownBlock) wr w' → (∀ o, w'.cell? ⟨w1.heap.size, o, none⟩ = #[.int .i64 K'.t, .int .i64 K'.v, .int .i64 K'.si, .int .i64 K'.st, .string K'.sd, v'][o]?) ∧ (∀ o, w'.frozen? ⟨w1.heap.size, o, none⟩ = false) ∧ (∀ o, w'.cell? ⟨w.heap.size, o, none⟩ = #[.int .i64 S.k.t, .int .i64 S.k.v, .int .i64 S.k.si, .int .i64 S.k.st, .string S.k.sd, v, .slice (some ⟨b, off, none⟩) S.l.length cap][o]?) ∧ (∀ o, w'.cell? ⟨w.heap.size + 1, o, none⟩ = #[.int .i64 0, .int .i64 0, .int .i64 0, .int .i64 0, .string ⟨#[]⟩, .slice none 0 0][o]?) ∧ (∀ o, w'.frozen? ⟨w.heap.size + 1, o, none⟩ = false) ∧ w1.heap.size < w'.heap.size) := fun w' ho =>
          ⟨fun o => (ho.cell HV.out (fun h => HNE.out _ h.symm rfl)).trans (HK.out.cell o), fun o => (ho.frozen HV.out (fun h => HNE.out _ h.symm rfl)).trans (HK.out.fro o), fun o => (ho.cell (by omega) (fun h => by have := (HVL.out _ h.symm).1; omega)).trans (ds o), fun o => (ho.cell (by omega) (fun h => by have := (HVL.out _ h.symm).1; omega)).trans (keepC hbel (by omega) c2 o), fun o => (ho.frozen (by omega) (fun h => by have := (HVL.out _ h.symm).1; omega)).trans (keepF hbel (by omega) f2 o), Nat.lt_of_lt_of_le HV.out ho.size⟩
        have HSF : Hid (∀ w', Only (fun k => some k = v'.ownBlock) wr w' → SFo K' v' w1.heap.size w.heap.size (.slice (some ⟨b, off, none⟩) S.l.length cap) b (off + j * 5) r w') := fun w' ho => by
          obtain ⟨d1, _, d2, _⟩ := HCF.out w' ho
          have hx : ∀ o x, w.cell? ⟨b, o, none⟩ = some x → w'.cell? ⟨b, o, none⟩ = some x := fun o x hx => (ho.cell (by omega) (fun h => by have := (HVL.out _ h.symm).1; omega)).trans (atCell HBW.out hx (by omega))
          exact ⟨by rw [d1]; rfl, by rw [d1]; rfl, by rw [d1]; rfl, by rw [d1]; rfl, by rw [d1]; rfl, by rw [d1]; rfl, by rw [d2]; rfl, hx _ _ p0, hx _ _ p1, hx _ _ p2, hx _ _ p3, hx _ _ p4⟩
        have hjl : (j : Int) < (S.l.length : Int) := by omega
        have i1 : (0 : Int) ≤ (j : Int) ∧ (j : Int) < (S.l.length : Int) := by omega
        clear hcc p0 p1 p2 p3 p4 hat hst
        go_wp2_with fail
        clear ds
        refine wp_region_held_drew (S := SFo K' v' w1.heap.size w.heap.size (.slice (some ⟨b, off, none⟩) S.l.length cap) b (off + j * 5) r) (by kernel_rfl) (HSF.out _ (Only.refl _ _).drew) (fun hHeld => ?_)
        have BWD : Only (fun k => some k = v'.ownBlock) wr wr.drew := (Only.refl _ _).drew
        have HKD : Hid (OwnE wr.drew (w.heap.size + 1 + 1) v' K'.e) := HK.out.own.kept (Below.refl _ _).drew
        generalize wr.drew = D at BWD HKD hHeld ⊢
        refine take1s (i := 0) (d := some 26) (v := ?_) rfl rfl (by kernel_rfl) (by kernel_rfl) (by kernel_rfl) (fun _ _ _ h => h) (Or.inl ⟨by rfl, ?_⟩) (by assumption) ?_
        rotate_left 1
        · intro w hSw
          obtain ⟨q0, q1, q2, q3, q4, q5, q6, q7, q8, q9, q10, q11⟩ := hSw
          go_simp <;> with_reducible rfl
        simp only [Act.put, List.setIfInBounds_toArray]
        try simp only [List.set_cons_succ]
        try simp only [List.set_cons_zero]
        refine take1s (i := 1) (d := some 27) (v := ?_) rfl rfl (by kernel_rfl) (by kernel_rfl) (by kernel_rfl) (fun _ _ _ h => h) (Or.inl ⟨by rfl, ?_⟩) (by assumption) ?_
        rotate_left 1
        · intro w hSw
          obtain ⟨q0, q1, q2, q3, q4, q5, q6, q7, q8, q9, q10, q11⟩ := hSw
          go_simp <;> with_reducible rfl
        simp only [Act.put, List.setIfInBounds_toArray]
        try simp only [List.set_cons_succ]
        try simp only [List.set_cons_zero]
        refine take1s (i := 2) (d := some 28) (v := ?_) rfl rfl (by kernel_rfl) (by kernel_rfl) (by kernel_rfl) (fun _ _ _ h => h) (Or.inl ⟨by rfl, ?_⟩) (by assumption) ?_
        rotate_left 1
        · intro w hSw
          obtain ⟨q0, q1, q2, q3, q4, q5, q6, q7, q8, q9, q10, q11⟩ := hSw
          go_simp <;> with_reducible rfl
        simp only [Act.put, List.setIfInBounds_toArray]
        try simp only [List.set_cons_succ]
        try simp only [List.set_cons_zero]
        refine take1s (i := 3) (d := some 29) (v := ?_) rfl rfl (by kernel_rfl) (by kernel_rfl) (by kernel_rfl) (fun _ _ _ h => h) (Or.inl ⟨by rfl, ?_⟩) (by assumption) ?_
        rotate_left 1
        · intro w hSw
          obtain ⟨q0, q1, q2, q3, q4, q5, q6, q7, q8, q9, q10, q11⟩ := hSw
          go_simp <;> with_reducible rfl
        simp only [Act.put, List.setIfInBounds_toArray]
        try simp only [List.set_cons_succ]
        try simp only [List.set_cons_zero]
        refine take1s (i := 4) (d := some 30) (v := ?_) rfl rfl (by kernel_rfl) (by kernel_rfl) (by kernel_rfl) (fun _ _ _ h => h) (Or.inl ⟨by rfl, ?_⟩) (by assumption) ?_
        rotate_left 1
        · intro w hSw
          obtain ⟨q0, q1, q2, q3, q4, q5, q6, q7, q8, q9, q10, q11⟩ := hSw
          go_simp <;> with_reducible rfl
        simp only [Act.put, List.setIfInBounds_toArray]
        try simp only [List.set_cons_succ]
        try simp only [List.set_cons_zero]
        refine take1s (i := 5) (d := some 31) (v := ?_) rfl rfl (by kernel_rfl) (by kernel_rfl) (by kernel_rfl) (fun _ _ _ h => h) (Or.inl ⟨by rfl, ?_⟩) (by assumption) ?_
        rotate_left 1
        · intro w hSw
          obtain ⟨q0, q1, q2, q3, q4, q5, q6, q7, q8, q9, q10, q11⟩ := hSw
          go_simp <;> with_reducible rfl
        simp only [Act.put, List.setIfInBounds_toArray]
        try simp only [List.set_cons_succ]
        try simp only [List.set_cons_zero]
        refine wpAnyH_ready (rs := [6, 10]) (by kernel_rfl) (by simp) ?_
        refine AllReadyH.cons rfl (fun KK hKK => ?_) (AllReadyH.cons rfl (fun KK hKK => ?_) AllReadyH.nil)
        · skip
          go_simp
          refine (l3Step_any K' v' (w.heap.size + 1 + 1) r D (by have := BWD.size; omega) (HKD.out) HSM.out).mono ?_
          rintro e w3 ⟨v3, rfl, o3, l3, q3⟩
          obtain ⟨a3, cap3, rfl⟩ := o3.slice
          have BWw3 : Only (fun k => some k = v'.ownBlock) wr w3 := BWD.trans q3
          have HO3 := Hid.intro o3
          have HLT : Hid (∀ k, (Value.slice a3 (nextK K' r).e.length cap3).ownBlock = some k → ¬ k = w1.heap.size ∧ ¬ k = w3.heap.size) := fun k hk => by
            have h3 := o3.lt k hk
            have h4 := l3 k hk
            have h5 := HV.out
            have h6 := BWD.size
            have h9 := BWD.size
            rcases h4 with h4 | h4
            · have h7 := HNE.out k h4
              have h8 := (HVL.out k h4).2
              refine ⟨h7, ?_⟩
              omega
            · refine ⟨by omega, ?_⟩
              omega
          clear o3 l3 q3
          go_simp
          refine hKK.out _ _ (HSF.out _ BWw3) (fun hHeld2 => ?_)
          clear hKK KK hHeld
          have hHeld := hHeld2
          clear hHeld2
          refine take1s (i := 7) (d := some 25) (v := ?_) rfl rfl (by kernel_rfl) (by kernel_rfl) (by kernel_rfl) (fun _ _ _ h => h) (Or.inl ⟨by rfl, ?_⟩) (by assumption) ?_
          rotate_left 1
          · intro w hSw
            obtain ⟨q0, q1, q2, q3, q4, q5, q6, q7, q8, q9, q10, q11⟩ := hSw
            go_simp <;> with_reducible rfl
          simp only [Act.put, List.setIfInBounds_toArray]
          try simp only [List.set_cons_succ]
          try simp only [List.set_cons_zero]
          refine take1s (i := 8) (d := some 33) (v := ?_) rfl rfl (by kernel_rfl) (by kernel_rfl) (by kernel_rfl) (fun _ _ _ h => h) (Or.inl ⟨by rfl, ?_⟩) (by assumption) ?_
          rotate_left 1
          · intro w hSw
            obtain ⟨q0, q1, q2, q3, q4, q5, q6, q7, q8, q9, q10, q11⟩ := hSw
            go_simp <;> with_reducible rfl
          simp only [Act.put, List.setIfInBounds_toArray]
          try simp only [List.set_cons_succ]
          try simp only [List.set_cons_zero]
          refine take1s (i := 9) (d := some 34) (v := ?_) rfl rfl (by kernel_rfl) (by kernel_rfl) (by kernel_rfl) (fun _ _ _ h => h) (Or.inl ⟨by rfl, ?_⟩) (by assumption) ?_
          rotate_left 1
          · intro w hSw
            obtain ⟨q0, q1, q2, q3, q4, q5, q6, q7, q8, q9, q10, q11⟩ := hSw
            go_simp <;> with_reducible rfl
          simp only [Act.put, List.setIfInBounds_toArray]
          try simp only [List.set_cons_succ]
          try simp only [List.set_cons_zero]
          refine wpAnyH_ready (rs := [10]) (by kernel_rfl) (by simp) ?_
          refine AllReadyH.cons rfl (fun KK hKK => ?_) AllReadyH.nil
          go_simp
          have bX := (Below.refl w3.heap.size w3).alloc (Nat.le_refl _) (.cells #[.int .i64 0, .int .i64 0, .int .i64 0, .int .i64 0, .string ⟨#[]⟩, .slice none 0 0] 35)
          have zk6 : w3.heap.size < (w3.alloc (.cells #[.int .i64 0, .int .i64 0, .int .i64 0, .int .i64 0, .string ⟨#[]⟩, .slice none 0 0] 35)).heap.size := by simp
          have k6 : ∀ o, (w3.alloc (.cells #[.int .i64 0, .int .i64 0, .int .i64 0, .int .i64 0, .string ⟨#[]⟩, .slice none 0 0] 35)).cell? ⟨w3.heap.size, o, none⟩ = #[.int .i64 0, .int .i64 0, .int .i64 0, .int .i64 0, .string ⟨#[]⟩, .slice none 0 0][o]? := fun o => World.cell?_alloc_at _ _ _ _ rfl
          have g6 : ∀ o, (w3.alloc (.cells #[.int .i64 0, .int .i64 0, .int .i64 0, .int .i64 0, .string ⟨#[]⟩, .slice none 0 0] 35)).frozen? ⟨w3.heap.size, o, none⟩ = false := fun o => World.frozen?_alloc_at _ _ _ _ rfl
          generalize w3.alloc (.cells #[.int .i64 0, .int .i64 0, .int .i64 0, .int .i64 0, .string ⟨#[]⟩, .slice none 0 0] 35) = X at bX zk6 k6 g6 ⊢
          have BWX : Only (fun k => some k = v'.ownBlock) wr X := BWw3.trans (Below.any bX)
          refine hKK.out _ _ (HSF.out _ BWX) (fun hHeld2 => ?_)
          clear hKK KK hHeld
          have hHeld := hHeld2
          clear hHeld2
          replace HO3 := Hid.intro (HO3.out.kept bX)
          refine wpAnyH_ready (rs := [11]) (by kernel_rfl) (by simp) ?_
          refine AllReadyH.cons rfl (fun KK hKK => ?_) AllReadyH.nil
          go_simp
          obtain ⟨Y, hY, cY, oY, zY, _⟩ := put6 (x0 := .int .i64 (nextK K' r).t) (x1 := .int .i64 (nextK K' r).v) (x2 := .int .i64 (nextK K' r).si) (x3 := .int .i64 (nextK K' r).st) (x4 := .string (nextK K' r).sd) (x5 := .slice a3 (nextK K' r).e.length cap3) k6
          simp only [hY]
          have BWY : Only (fun k => some k = v'.ownBlock) wr Y := BWX.then oY (fun k hk h => by have := BWw3.size; omega)
          refine hKK.out _ _ (HSF.out _ BWY) (fun hHeld2 => ?_)
          clear hKK KK hHeld
          have hHeld := hHeld2
          clear hHeld2
          refine take1s (i := 12) (d := some 9) (v := ?_) rfl rfl (by kernel_rfl) (by kernel_rfl) (by kernel_rfl) (fun _ _ _ h => h) (Or.inl ⟨by rfl, ?_⟩) (by assumption) ?_
          rotate_left 1
          · intro w hSw
            obtain ⟨q0, q1, q2, q3, q4, q5, q6, q7, q8, q9, q10, q11⟩ := hSw
            go_simp <;> with_reducible rfl
          simp only [Act.put, List.setIfInBounds_toArray]
          try simp only [List.set_cons_succ]
          try simp only [List.set_cons_zero]
          refine wpAnyH_done (by kernel_rfl) ?_ _
          have HOY := Hid.intro (HO3.out.only oY (fun k hk h => (HLT.out k hk).2 h))
          have HNY : Hid (∀ k, (Value.slice a3 (nextK K' r).e.length cap3).ownBlock = some k → ¬ k = w1.heap.size) := fun k hk => (HLT.out k hk).1
          have hxk : ¬ w3.heap.size = w1.heap.size := by have := BWw3.size; have := HV.out; omega
          have zx : w3.heap.size < Y.heap.size := by omega
          obtain ⟨dk, fk, ds, dr, fr, zz⟩ := HCF.out Y BWY
          have HBY : Hid (Below (w.heap.size + 1 + 1) X0 Y) := hbel.trans (BWY.below (by omega) (fun k hk h => by have := (HVL.out k h.symm).1; omega))
          clear HCF HSF hHeld k6 g6 zk6 oY hY zY HO3 HLT c2 f2 c1 f1
          cases hgo : goB K' r with
          | true =>
            have HNX : Hid (nextK K' r = stepK K' r) := nextK_yes hgo
            go_wp2
            obtain ⟨Z, hZ, cZ, oZ, zZ, fZ⟩ := put6 (x0 := .int .i64 (nextK K' r).t) (x1 := .int .i64 (nextK K' r).v) (x2 := .int .i64 (nextK K' r).si) (x3 := .int .i64 (nextK K' r).st) (x4 := .string (nextK K' r).sd) (x5 := .slice a3 (nextK K' r).e.length cap3) dk
            simp only [hZ]
            have HKZ : Hid (FV Z w1.heap.size (w.heap.size + 1 + 1) (stepK K' r) (.slice a3 (nextK K' r).e.length cap3)) := by
              have h1 := HOY.out.only oZ (fun k hk h => HNY.out k hk h)
              have h2 := HNY.out
              rw [HNX.out] at cZ h1 h2 ⊢
              exact ⟨by omega, cZ, fZ fk, h1, h2⟩
            go_roundw
            case rel => exact ⟨j + 1, stepK K' r, _, by go_num, by omega, by omega, HAT.out hgo, HKZ, HBY.out.trans (oZ.below (by have := HBY.out.size; omega) (fun k hk h => by omega))⟩
            case measure => simp [intOf]; omega
          | false =>
            have HN := Hid.intro (HST.out hgo)
            obtain ⟨av, capv, hv'⟩ := HK.out.own.slice
            subst hv'
            go_wp2
            refine bodyPost_ret (v := .tuple #[kpV K' (.slice av K'.e.length capv), .bool false]) (by simp [results, Try.results35, go_sem, dr]) rfl (FoldP.no HN.out ?_)
            repeat (refine Below.setCell ?_ (by simp <;> omega) _)
            exact BX.trans (HBY.out.mono (by omega))
        · skip
          go_simp
          have bX := (Below.refl D.heap.size D).alloc (Nat.le_refl _) (.cells #[.int .i64 0, .int .i64 0, .int .i64 0, .int .i64 0, .string ⟨#[]⟩, .slice none 0 0] 35)
          have zk6 : D.heap.size < (D.alloc (.cells #[.int .i64 0, .int .i64 0, .int .i64 0, .int .i64 0, .string ⟨#[]⟩, .slice none 0 0] 35)).heap.size := by simp
          have k6 : ∀ o, (D.alloc (.cells #[.int .i64 0, .int .i64 0, .int .i64 0, .int .i64 0, .string ⟨#[]⟩, .slice none 0 0] 35)).cell? ⟨D.heap.size, o, none⟩ = #[.int .i64 0, .int .i64 0, .int .i64 0, .int .i64 0, .string ⟨#[]⟩, .slice none 0 0][o]? := fun o => World.cell?_alloc_at _ _ _ _ rfl
          have g6 : ∀ o, (D.alloc (.cells #[.int .i64 0, .int .i64 0, .int .i64 0, .int .i64 0, .string ⟨#[]⟩, .slice none 0 0] 35)).frozen? ⟨D.heap.size, o, none⟩ = false := fun o => World.frozen?_alloc_at _ _ _ _ rfl
          generalize D.alloc (.cells #[.int .i64 0, .int .i64 0, .int .i64 0, .int .i64 0, .string ⟨#[]⟩, .slice none 0 0] 35) = X at bX zk6 k6 g6 ⊢
          have BWX : Only (fun k => some k = v'.ownBlock) wr X := BWD.trans (Below.any bX)
          refine hKK.out _ _ (HSF.out _ BWX) (fun hHeld2 => ?_)
          clear hKK KK hHeld
          have hHeld := hHeld2
          clear hHeld2
          have HKX := Hid.intro (HKD.out.kept bX)
          refine wpAnyH_ready (rs := [6]) (by kernel_rfl) (by simp) ?_
          refine AllReadyH.cons rfl (fun KK hKK => ?_) AllReadyH.nil
          go_simp
          refine (l3Step_any K' v' (w.heap.size + 1 + 1) r X (by have := BWX.size; omega) (HKX.out) HSM.out).mono ?_
          rintro e w3 ⟨v3, rfl, o3, l3, q3⟩
          obtain ⟨a3, cap3, rfl⟩ := o3.slice
          have BWw3 : Only (fun k => some k = v'.ownBlock) wr w3 := BWX.trans q3
          have HO3 := Hid.intro o3
          have HLT : Hid (∀ k, (Value.slice a3 (nextK K' r).e.length cap3).ownBlock = some k → ¬ k = w1.heap.size ∧ ¬ k = D.heap.size) := fun k hk => by
            have h3 := o3.lt k hk
            have h4 := l3 k hk
            have h5 := HV.out
            have h6 := BWX.size
            have h9 := BWD.size
            rcases h4 with h4 | h4
            · have h7 := HNE.out k h4
              have h8 := (HVL.out k h4).2
              refine ⟨h7, ?_⟩
              omega
            · refine ⟨by omega, ?_⟩
              omega
          replace k6 : ∀ o, w3.cell? ⟨D.heap.size, o, none⟩ = #[.int .i64 0, .int .i64 0, .int .i64 0, .int .i64 0, .string ⟨#[]⟩, .slice none 0 0][o]? := fun o => (q3.cell zk6 (fun h => by have := (HVL.out _ h.symm).2; have := BWD.size; omega)).trans (k6 o)
          replace g6 : ∀ o, w3.frozen? ⟨D.heap.size, o, none⟩ = false := fun o => (q3.frozen zk6 (fun h => by have := (HVL.out _ h.symm).2; have := BWD.size; omega)).trans (g6 o)
          replace zk6 : D.heap.size < w3.heap.size := Nat.lt_of_lt_of_le zk6 q3.size
          clear o3 l3 q3
          go_simp
          refine hKK.out _ _ (HSF.out _ BWw3) (fun hHeld2 => ?_)
          clear hKK KK hHeld
          have hHeld := hHeld2
          clear hHeld2
          refine take1s (i := 7) (d := some 25) (v := ?_) rfl rfl (by kernel_rfl) (by kernel_rfl) (by kernel_rfl) (fun _ _ _ h => h) (Or.inl ⟨by rfl, ?_⟩) (by assumption) ?_
          rotate_left 1
          · intro w hSw
            obtain ⟨q0, q1, q2, q3, q4, q5, q6, q7, q8, q9, q10, q11⟩ := hSw
            go_simp <;> with_reducible rfl
          simp only [Act.put, List.setIfInBounds_toArray]
          try simp only [List.set_cons_succ]
          try simp only [List.set_cons_zero]
          refine take1s (i := 8) (d := some 33) (v := ?_) rfl rfl (by kernel_rfl) (by kernel_rfl) (by kernel_rfl) (fun _ _ _ h => h) (Or.inl ⟨by rfl, ?_⟩) (by assumption) ?_
          rotate_left 1
          · intro w hSw
            obtain ⟨q0, q1, q2, q3, q4, q5, q6, q7, q8, q9, q10, q11⟩ := hSw
            go_simp <;> with_reducible rfl
          simp only [Act.put, List.setIfInBounds_toArray]
          try simp only [List.set_cons_succ]
          try simp only [List.set_cons_zero]
          refine take1s (i := 9) (d := some 34) (v := ?_) rfl rfl (by kernel_rfl) (by kernel_rfl) (by kernel_rfl) (fun _ _ _ h => h) (Or.inl ⟨by rfl, ?_⟩) (by assumption) ?_
          rotate_left 1
          · intro w hSw
            obtain ⟨q0, q1, q2, q3, q4, q5, q6, q7, q8, q9, q10, q11⟩ := hSw
            go_simp <;> with_reducible rfl
          simp only [Act.put, List.setIfInBounds_toArray]
          try simp only [List.set_cons_succ]
          try simp only [List.set_cons_zero]
          refine wpAnyH_ready (rs := [11]) (by kernel_rfl) (by simp) ?_
          refine AllReadyH.cons rfl (fun KK hKK => ?_) AllReadyH.nil
          go_simp
          obtain ⟨Y, hY, cY, oY, zY, _⟩ := put6 (x0 := .int .i64 (nextK K' r).t) (x1 := .int .i64 (nextK K' r).v) (x2 := .int .i64 (nextK K' r).si) (x3 := .int .i64 (nextK K' r).st) (x4 := .string (nextK K' r).sd) (x5 := .slice a3 (nextK K' r).e.length cap3) k6
          simp only [hY]
          have BWY : Only (fun k => some k = v'.ownBlock) wr Y := BWw3.then oY (fun k hk h => by have := BWD.size; omega)
          refine hKK.out _ _ (HSF.out _ BWY) (fun hHeld2 => ?_)
          clear hKK KK hHeld
          have hHeld := hHeld2
          clear hHeld2
          refine take1s (i := 12) (d := some 9) (v := ?_) rfl rfl (by kernel_rfl) (by kernel_rfl) (by kernel_rfl) (fun _ _ _ h => h) (Or.inl ⟨by rfl, ?_⟩) (by assumption) ?_
          rotate_left 1
          · intro w hSw
            obtain ⟨q0, q1, q2, q3, q4, q5, q6, q7, q8, q9, q10, q11⟩ := hSw
            go_simp <;> with_reducible rfl
          simp only [Act.put, List.setIfInBounds_toArray]
          try simp only [List.set_cons_succ]
          try simp only [List.set_cons_zero]
          refine wpAnyH_done (by kernel_rfl) ?_ _
          have HOY := Hid.intro (HO3.out.only oY (fun k hk h => (HLT.out k hk).2 h))
          have HNY : Hid (∀ k, (Value.slice a3 (nextK K' r).e.length cap3).ownBlock = some k → ¬ k = w1.heap.size) := fun k hk => (HLT.out k hk).1
          have hxk : ¬ D.heap.size = w1.heap.size := by have := BWD.size; have := HV.out; omega
          have zx : D.heap.size < Y.heap.size := by omega
          obtain ⟨dk, fk, ds, dr, fr, zz⟩ := HCF.out Y BWY
          have HBY : Hid (Below (w.heap.size + 1 + 1) X0 Y) := hbel.trans (BWY.below (by omega) (fun k hk h => by have := (HVL.out k h.symm).1; omega))
          clear HCF HSF hHeld k6 g6 zk6 oY hY zY HO3 HLT c2 f2 c1 f1
          cases hgo : goB K' r with
          | true =>
            have HNX : Hid (nextK K' r = stepK K' r) := nextK_yes hgo
            go_wp2
            obtain ⟨Z, hZ, cZ, oZ, zZ, fZ⟩ := put6 (x0 := .int .i64 (nextK K' r).t) (x1 := .int .i64 (nextK K' r).v) (x2 := .int .i64 (nextK K' r).si) (x3 := .int .i64 (nextK K' r).st) (x4 := .string (nextK K' r).sd) (x5 := .slice a3 (nextK K' r).e.length cap3) dk
            simp only [hZ]
            have HKZ : Hid (FV Z w1.heap.size (w.heap.size + 1 + 1) (stepK K' r) (.slice a3 (nextK K' r).e.length cap3)) := by
              have h1 := HOY.out.only oZ (fun k hk h => HNY.out k hk h)
              have h2 := HNY.out
              rw [HNX.out] at cZ h1 h2 ⊢
              exact ⟨by omega, cZ, fZ fk, h1, h2⟩
            go_roundw
            case rel => exact ⟨j + 1, stepK K' r, _, by go_num, by omega, by omega, HAT.out hgo, HKZ, HBY.out.trans (oZ.below (by have := HBY.out.size; omega) (fun k hk h => by omega))⟩
            case measure => simp [intOf]; omega
          | false =>
            have HN := Hid.intro (HST.out hgo)
            obtain ⟨av, capv, hv'⟩ := HK.out.own.slice
            subst hv'
            go_wp2
            refine bodyPost_ret (v := .tuple #[kpV K' (.slice av K'.e.length capv), .bool false]) (by simp [results, Try.results35, go_sem, dr]) rfl (FoldP.no HN.out ?_)
            repeat (refine Below.setCell ?_ (by simp <;> omega) _)
            exact BX.trans (HBY.out.mono (by omega))
      · obtain rfl : j = S.l.length := by omega
        have HFL : Hid (foldK S.k (firstN n S.l) = some K') := by
          have := HF.out
          rw [← firstN_all (n := n) (Nat.le_refl _) hjn (.inr rfl)] at this
          exact this
        obtain ⟨a', cap', rfl⟩ := HK.out.own.slice
        have dk := HK.out.cell
        have dr := keepC hbel (by omega) c2
        have fr := keepF hbel (by omega) f2
        have hzr : w.heap.size + 1 < wr.heap.size := by omega
        have hzk := HK.out.hi
        have hnl : ((S.l.length : Nat) : Int) < n := by omega
        clear c2 f2
        go_wp2
        refine bodyPost_ret (v := .tuple #[kpV K' (.slice a' K'.e.length cap'), .bool true]) (by simp [results, Try.results35, go_sem, dr]) rfl (FoldP.yes HFL.out ?_ ?_)
        · refine OwnE.lower (OwnE.only HK.out.own (S := fun k => k = w.heap.size + 1) ?_ (fun k hk h => by have := (HK.out.own.lt k hk).1; omega)) (show w.heap.size ≤ w.heap.size + 1 + 1 by omega)
          repeat (refine Only.setCell ?_ (by simp) _)
          exact Only.refl _ _
        · repeat (refine Below.setCell ?_ (by simp <;> omega) _)
          exact BX.trans (hbel.mono (by omega))
    · have HFL : Hid (foldK S.k (firstN n S.l) = some K') := by
        have := HF.out
        rw [← firstN_all (n := n) hj hjn (.inl hn)] at this
        exact this
      obtain ⟨a', cap', rfl⟩ := HK.out.own.slice
      have dk := HK.out.cell
      have dr := keepC hbel (by omega) c2
      have fr := keepF hbel (by omega) f2
      have hzr : w.heap.size + 1 < wr.heap.size := by omega
      have hzk := HK.out.hi
      clear c2 f2
      go_wp2
      refine bodyPost_ret (v := .tuple #[kpV K' (.slice a' K'.e.length cap'), .bool true]) (by simp [results, Try.results35, go_sem, dr]) rfl (FoldP.yes HFL.out ?_ ?_)
      · refine OwnE.lower (OwnE.only HK.out.own (S := fun k => k = w.heap.size + 1) ?_ (fun k hk h => by have := (HK.out.own.lt k hk).1; omega)) (show w.heap.size ≤ w.heap.size + 1 + 1 by omega)
        repeat (refine Only.setCell ?_ (by simp) _)
        exact Only.refl _ _
      · repeat (refine Below.setCell ?_ (by simp <;> omega) _)
        exact BX.trans (hbel.mono (by omega))
end Go.Proofs.Ytkilepoimocoeab
