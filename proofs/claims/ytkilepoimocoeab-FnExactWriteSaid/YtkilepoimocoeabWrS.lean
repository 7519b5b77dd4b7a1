/- l3Write. -/
import Derived.Test.YtkilepoimocoeabWrL
import Derived.Test.YtkilepoimocoeabFoldS
import Derived.Deep.Cut
import Derived.Deep.CutRange
import Derived.Deep.RegionLaw
import Derived.Deep.RegionHeld3
namespace Go.Proofs.Ytkilepoimocoeab
open Go.RowKit
set_option linter.unusedVariables false
theorem firstN_at {L : List Rc} {j : Nat} {n : Int} (h : j < L.length) (hn : (j : Int) < n) : ∃ h' : j < (firstN n L).length, (firstN n L)[j] = L[j] := ⟨by simp [firstN]; omega, by simp [firstN]⟩
theorem firstN_len2 (n : Int) (L : List Rc) : (firstN n L).length = min n.toNat L.length := by simp [firstN]
theorem wr_out {S : Sto} {L : List Rc} {n : Int} {j : Nat} {K : Kp} (hst : storeB S = true) (c : CameI (heldK S) (80 - S.l.length) (firstN n L) j K) (h : ¬ (j : Int) < n ∨ ¬ j < L.length) : wrN S L n = j := by
  have hl := firstN_len2 n L
  have := c.jl
  obtain rfl : j = (firstN n L).length := by omega
  rw [wrN_yes hst, c.out]
theorem wr_full {S : Sto} {L : List Rc} {n : Int} {j : Nat} {K : Kp} (hst : storeB S = true) (c : CameI (heldK S) (80 - S.l.length) (firstN n L) j K) (h : ¬ S.l.length + j < 80) : wrN S L n = j := by
  have h80 := (storeB_out hst).2.1
  have := c.jr
  obtain rfl : j = 80 - S.l.length := by omega
  rw [wrN_yes hst, c.full]
theorem wr_stop {S : Sto} {L : List Rc} {n : Int} {j : Nat} {K : Kp} (hst : storeB S = true) (c : CameI (heldK S) (80 - S.l.length) (firstN n L) j K) (h : j < L.length) (hn : (j : Int) < n) (hg : goB K L[j] = false) : wrN S L n = j := by
  obtain ⟨h', e⟩ := firstN_at h hn
  rw [wrN_yes hst, c.stop h' (by rw [e]; exact hg)]
theorem wr_step {S : Sto} {L : List Rc} {n : Int} {j : Nat} {K : Kp} (c : CameI (heldK S) (80 - S.l.length) (firstN n L) j K) (h : j < L.length) (hn : (j : Int) < n) (h80 : S.l.length + j < 80) (hg : goB K L[j] = true) : CameI (heldK S) (80 - S.l.length) (firstN n L) (j + 1) (stepK K L[j]) := by
  obtain ⟨h', e⟩ := firstN_at h hn
  have := c.step h' (by omega) (by rw [e]; exact hg)
  rw [e] at this
  exact this
set_option maxRecDepth 100000 in
set_option maxHeartbeats 8000000 in
theorem l3Write_any (S : Sto) (v u : Value) (B : Nat) (L : List Rc) (x : Value) (N : Nat) (n : Int) (w : World) (hst : storeB S = true) (hB : B ≤ w.heap.size) (hN : N ≤ B) (he : OwnE w B v S.k.e) (hu : OwnR w B u S.l) (hd : ∀ k, v.ownBlock = some k → ¬ u.ownBlock = some k) (hx : RowR w N x L) (hl : L.length ≤ 1048576) :
    Calls Try.prog 44 #[stV S v u, x, .int .i64 n] w fun e w' => ∃ u', e = .returned (.tuple #[stV ⟨S.k, S.l ++ L.take (wrN S L n)⟩ v u', .int .i64 (wrN S L n)]) ∧ LWP w w' B ⟨S.k, S.l ++ L.take (wrN S L n)⟩ v u' u := by
  obtain ⟨av, cv, rfl⟩ := he.slice
  obtain ⟨au, cu, rfl⟩ := hu.slice
  obtain ⟨ax, cx, rfl, lx, mx, hxc⟩ := hx
  obtain ⟨hkb, hl80, K0, hf⟩ := storeB_out hst
  have hK0 : heldK S = K0 := heldK_yes hst hf
  have HX := Hid.intro hxc
  have HE := Hid.intro he
  have HU := Hid.intro hu
  have HDD := Hid.intro hd
  have HST := Hid.intro hst
  have HKB := Hid.intro hkb
  have HF := Hid.intro hf
  have HK0 := Hid.intro hK0
  have HBL : Hid (∀ k, (Value.slice au S.l.length cu).ownBlock = some k → B ≤ k ∧ k < w.heap.size) := hu.lt
  clear hxc he hu hd hst hkb hf hK0
  go_enter Try.func44, Try.ntmps44
  go_wp2_with fail
  obtain ⟨W, hW, bW, zW, c1, f1, c2, f2⟩ := boxed2 w (sA S (.slice av S.k.e.length cv) (.slice au S.l.length cu)) zS 38 38
  try simp only [hW]
  refine (l3Fold_any S _ _ W.heap.size _ W (Nat.le_refl _) (HE.out.kept bW).rowAll (HU.out.kept bW).rowAll (Sm.of HKB.out) (by omega)).mono ?_
  intro e w1 hP
  have hP' : ∃ vk, e = .returned (.tuple #[kpV K0 vk, .bool true]) ∧ NewE W w1 vk K0.e := by
    have e0 : firstN (S.l.length : Int) S.l = S.l := by simp [firstN]
    rcases hP with ⟨K1, vk, h1, h2, h3⟩ | ⟨h1, _⟩
    · rw [e0, HF.out] at h1
      cases h1
      exact ⟨vk, h2, h3⟩
    · rw [e0, HF.out] at h1
      cases h1
  clear hP
  obtain ⟨vk0, rfl, o1, b1⟩ := hP'
  obtain ⟨ak, ck, rfl⟩ := o1.slice
  have hz1 : w.heap.size + 1 < w1.heap.size := by have := b1.size; omega
  have HO1 : Hid (OwnE w1 (w.heap.size + 1 + 1) (.slice ak K0.e.length ck) K0.e) := by
    have := o1
    rw [zW] at this
    exact this
  have S1 : Hid (Blk w1 w.heap.size (sA S (.slice av S.k.e.length cv) (.slice au S.l.length cu))) := (Blk.mk (by omega) c1 f1 : Blk W _ _).kept b1
  have R1 : Hid (Blk w1 (w.heap.size + 1) zS) := (Blk.mk (by omega) c2 f2 : Blk W _ _).kept b1
  have HB1 : Hid (Below w.heap.size w w1) := bW.trans (b1.mono (by omega))
  clear hW bW zW c1 f1 c2 f2 b1 o1
  go_wp2_with fail
  obtain ⟨X0, hX, bX, zX, cX, fX⟩ := boxed w1 (kA K0 (.slice ak K0.e.length ck)) 35
  try simp only [hX]
  have HL0 : Hid (LW w X0 B w1.heap.size S (.slice av S.k.e.length cv) (.slice au S.l.length cu) (.slice au S.l.length cu) K0 (.slice ak K0.e.length ck)) := by
    have hb := HB1.out.trans (bX.mono HB1.out.size)
    refine ⟨hz1, S1.out.kept bX, R1.out.kept bX, ⟨by omega, cX, fX⟩, HE.out.kept hb, HU.out.kept hb, HO1.out.kept bX, fun k hk => (HE.out.lt k hk).2, fun k hk => .inl ⟨hk, (HBL.out k hk).2⟩, HDD.out, fun k hk => ?_, Below.any hb⟩
    have := (HO1.out.lt k hk).2
    omega
  have HCI : Hid (CameI (heldK S) (80 - S.l.length) (firstN n L) 0 K0) := by
    have h0 : Sm (heldK S) := by rw [HK0.out]; exact (Sm.of HKB.out).fold HF.out
    have := CameI.zero (room := 80 - S.l.length) (L := firstN n L) h0
    rw [HK0.out] at this ⊢
    exact this
  clear hX bX zX cX fX HO1 S1 R1 HB1 HK0 HF HKB
  generalize w1.heap.size = kb at *
  generalize hvv : Value.slice av S.k.e.length cv = v at *
  go_loopw [10] (fun i wr => ∃ (j : Nat) (K' : Kp) (vk u' : Value), i = .int .i64 j ∧ j ≤ L.length ∧ Hid (CameI (heldK S) (80 - S.l.length) (firstN n L) j K') ∧ Hid (LW w wr B kb ⟨S.k, S.l ++ L.take j⟩ v u' (.slice au S.l.length cu) K' vk)) (fun i _ => L.length - (intOf i).toNat)
  case atStart => exact ⟨0, K0, _, _, rfl, Nat.zero_le _, HCI, by simpa using HL0⟩
  case round =>
    clear HCI HL0
    obtain ⟨j, K', vk, u', rfl, hj, HCI, HL⟩ := hrel
    obtain ⟨au', m', cu', hu', hm'⟩ : ∃ au' m' cu', u' = .slice au' m' cu' ∧ m' = S.l.length + j := by
      obtain ⟨a, c, h⟩ := HL.out.ru.slice
      exact ⟨a, _, c, h, by simp; omega⟩
    subst hu'
    subst hvv
    have HMM := Hid.intro hm'
    clear hm'
    have kz := HL.out.k.hi
    have hsz := HL.out.sz
    by_cases hlt : j < L.length
    · by_cases hn : (j : Int) < n
      · by_cases h80 : m' < 80
        · obtain ⟨b, off, rfl, hbN, hcc⟩ := HX.out (by intro h; rw [h] at hlt; simp at hlt)
          obtain ⟨p0, p1, p2, p3, p4⟩ := hcc j hlt
          have hstp := wr_step HCI.out hlt hn (by have := HMM.out; omega)
          have hsto := wr_stop HST.out HCI.out hlt hn
          have htk : L.take (j + 1) = L.take j ++ [L[j]] := List.take_succ_eq_append_getElem hlt
          generalize L[j] = r at p0 p1 p2 p3 p4 hstp hsto htk
          have HSP := Hid.intro hstp
          have HSO := Hid.intro hsto
          have HTK := Hid.intro htk
          have HV : Hid (kb < wr.heap.size) := kz
          have HVL : Hid (∀ k, vk.ownBlock = some k → w.heap.size + 1 + 1 ≤ k ∧ k < wr.heap.size) := HL.out.ek.lt
          have HNE : Hid (∀ k, vk.ownBlock = some k → k ≠ kb) := HL.out.hk
          have HSM : Hid (Sm K') := HCI.out.sm
          have HRC : Hid (∀ w', Only (fun k => some k = (Value.slice au S.l.length cu).ownBlock) w w' → w'.cell? ⟨b, off + j * 5, none⟩ = some (.int .i64 r.k) ∧ w'.cell? ⟨b, off + j * 5 + 1, none⟩ = some (.int .i64 r.t) ∧ w'.cell? ⟨b, off + j * 5 + 2, none⟩ = some (.int .i64 r.i) ∧ w'.cell? ⟨b, off + j * 5 + 3, none⟩ = some (.int .i64 r.v) ∧ w'.cell? ⟨b, off + j * 5 + 4, none⟩ = some (.string r.d)) := fun w' ho => by
            have hb : ¬ some b = (Value.slice au S.l.length cu).ownBlock := fun h => by have := HBL.out b h.symm; omega
            exact ⟨(ho.cell (by omega) hb).trans p0, (ho.cell (by omega) hb).trans p1, (ho.cell (by omega) hb).trans p2, (ho.cell (by omega) hb).trans p3, (ho.cell (by omega) hb).trans p4⟩
          have HSF : Hid (∀ w', Only (fun k => some k = vk.ownBlock) wr w' → SFo K' vk kb w.heap.size (.slice au' m' cu') b (off + j * 5) r w') := fun w' ho => by
            have d1 := (HL.out.k.only ho (fun h => HNE.out _ h.symm rfl)).cell
            have d2 := (HL.out.s.only ho (fun h => by have := HVL.out _ h.symm; omega)).cell
            obtain ⟨x0, x1, x2, x3, x4⟩ := HRC.out w' (HL.out.o.then ho (fun k hk h => by have := HVL.out _ h.symm; omega))
            exact ⟨by rw [d1]; rfl, by rw [d1]; rfl, by rw [d1]; rfl, by rw [d1]; rfl, by rw [d1]; rfl, by rw [d1]; rfl, by rw [d2]; rfl, x0, x1, x2, x3, x4⟩
          have hjl : (j : Int) < (L.length : Int) := by omega
          have i1 : (0 : Int) ≤ (j : Int) ∧ (j : Int) < (L.length : Int) := by omega
          have hm80 : ¬ (80 : Int) ≤ (m' : Int) := by omega
          have ds := HL.out.s.cell
          clear hcc p0 p1 p2 p3 p4 hstp hsto htk
          go_upto_region 7 with fail
          clear ds
          go_cut [11, 12] from 38 to 60 (fun s11 s12 wc => ∃ xb v3, s11 = .pointer (some ⟨xb, 0, none⟩) ∧ s12 = .bool (goB K' r) ∧ (∀ o, wc.cell? ⟨xb, o, none⟩ = (kA (nextK K' r) v3)[o]?) ∧ ¬ xb = kb ∧ xb < wc.heap.size ∧ OwnE wc (w.heap.size + 1 + 1) v3 (nextK K' r).e ∧ (∀ k, v3.ownBlock = some k → k ≠ kb ∧ (vk.ownBlock = some k ∨ wr.heap.size ≤ k)) ∧ Only (fun k => some k = vk.ownBlock) wr wc)
          case first =>
            refine wp_region_held_drew (S := SFo K' vk kb w.heap.size (.slice au' m' cu') b (off + j * 5) r) (by kernel_rfl) (HSF.out _ (Only.refl _ _).drew) (fun hHeld => ?_)
            have BWD : Only (fun k => some k = vk.ownBlock) wr wr.drew := (Only.refl _ _).drew
            have HKD : Hid (OwnE wr.drew (w.heap.size + 1 + 1) vk K'.e) := HL.out.ek.kept (Below.refl _ _).drew
            generalize wr.drew = D at BWD HKD hHeld ⊢
            refine take1s (i := 0) (d := some 39) (v := ?_) rfl rfl (by kernel_rfl) (by kernel_rfl) (by kernel_rfl) (fun _ _ _ h => h) (Or.inl ⟨by rfl, ?_⟩) (by assumption) ?_
            rotate_left 1
            · intro w hSw
              obtain ⟨q0, q1, q2, q3, q4, q5, q6, q7, q8, q9, q10, q11⟩ := hSw
              go_simp <;> with_reducible rfl
            simp only [Act.put, List.setIfInBounds_toArray]
            try simp only [List.set_cons_succ]
            try simp only [List.set_cons_zero]
            refine take1s (i := 1) (d := some 40) (v := ?_) rfl rfl (by kernel_rfl) (by kernel_rfl) (by kernel_rfl) (fun _ _ _ h => h) (Or.inl ⟨by rfl, ?_⟩) (by assumption) ?_
            rotate_left 1
            · intro w hSw
              obtain ⟨q0, q1, q2, q3, q4, q5, q6, q7, q8, q9, q10, q11⟩ := hSw
              go_simp <;> with_reducible rfl
            simp only [Act.put, List.setIfInBounds_toArray]
            try simp only [List.set_cons_succ]
            try simp only [List.set_cons_zero]
            refine take1s (i := 2) (d := some 41) (v := ?_) rfl rfl (by kernel_rfl) (by kernel_rfl) (by kernel_rfl) (fun _ _ _ h => h) (Or.inl ⟨by rfl, ?_⟩) (by assumption) ?_
            rotate_left 1
            · intro w hSw
              obtain ⟨q0, q1, q2, q3, q4, q5, q6, q7, q8, q9, q10, q11⟩ := hSw
              go_simp <;> with_reducible rfl
            simp only [Act.put, List.setIfInBounds_toArray]
            try simp only [List.set_cons_succ]
            try simp only [List.set_cons_zero]
            refine take1s (i := 3) (d := some 42) (v := ?_) rfl rfl (by kernel_rfl) (by kernel_rfl) (by kernel_rfl) (fun _ _ _ h => h) (Or.inl ⟨by rfl, ?_⟩) (by assumption) ?_
            rotate_left 1
            · intro w hSw
              obtain ⟨q0, q1, q2, q3, q4, q5, q6, q7, q8, q9, q10, q11⟩ := hSw
              go_simp <;> with_reducible rfl
            simp only [Act.put, List.setIfInBounds_toArray]
            try simp only [List.set_cons_succ]
            try simp only [List.set_cons_zero]
            refine take1s (i := 4) (d := some 43) (v := ?_) rfl rfl (by kernel_rfl) (by kernel_rfl) (by kernel_rfl) (fun _ _ _ h => h) (Or.inl ⟨by rfl, ?_⟩) (by assumption) ?_
            rotate_left 1
            · intro w hSw
              obtain ⟨q0, q1, q2, q3, q4, q5, q6, q7, q8, q9, q10, q11⟩ := hSw
              go_simp <;> with_reducible rfl
            simp only [Act.put, List.setIfInBounds_toArray]
            try simp only [List.set_cons_succ]
            try simp only [List.set_cons_zero]
            refine wpAnyH_ready (rs := [5, 9]) (by kernel_rfl) (by simp) ?_
            refine AllReadyH.cons rfl (fun KK hKK => ?_) (AllReadyH.cons rfl (fun KK hKK => ?_) AllReadyH.nil)
            · skip
              go_simp
              refine (l3Step_any K' vk (w.heap.size + 1 + 1) r D (by have := BWD.size; omega) (HKD.out) HSM.out).mono ?_
              rintro e w3 ⟨v3, rfl, o3, l3, q3⟩
              obtain ⟨a3, cap3, rfl⟩ := o3.slice
              have BWw3 : Only (fun k => some k = vk.ownBlock) wr w3 := BWD.trans q3
              have HO3 := Hid.intro o3
              have HLT : Hid (∀ k, (Value.slice a3 (nextK K' r).e.length cap3).ownBlock = some k → (k ≠ kb ∧ (vk.ownBlock = some k ∨ wr.heap.size ≤ k)) ∧ ¬ k = w3.heap.size) := fun k hk => by
                have h3 := o3.lt k hk
                have h4 := l3 k hk
                have h5 := HV.out
                have h6 := BWD.size
                have h9 := BWD.size
                rcases h4 with h4 | h4
                · have h7 := HNE.out k h4
                  have h8 := (HVL.out k h4).2
                  refine ⟨⟨h7, .inl h4⟩, ?_⟩
                  omega
                · refine ⟨⟨by omega, .inr (by omega)⟩, ?_⟩
                  omega
              clear o3 l3 q3
              go_simp
              refine hKK.out _ _ (HSF.out _ BWw3) (fun hHeld2 => ?_)
              clear hKK KK hHeld
              have hHeld := hHeld2
              clear hHeld2
              refine take1s (i := 6) (d := some 38) (v := ?_) rfl rfl (by kernel_rfl) (by kernel_rfl) (by kernel_rfl) (fun _ _ _ h => h) (Or.inl ⟨by rfl, ?_⟩) (by assumption) ?_
              rotate_left 1
              · intro w hSw
                obtain ⟨q0, q1, q2, q3, q4, q5, q6, q7, q8, q9, q10, q11⟩ := hSw
                go_simp <;> with_reducible rfl
              simp only [Act.put, List.setIfInBounds_toArray]
              try simp only [List.set_cons_succ]
              try simp only [List.set_cons_zero]
              refine take1s (i := 7) (d := some 45) (v := ?_) rfl rfl (by kernel_rfl) (by kernel_rfl) (by kernel_rfl) (fun _ _ _ h => h) (Or.inl ⟨by rfl, ?_⟩) (by assumption) ?_
              rotate_left 1
              · intro w hSw
                obtain ⟨q0, q1, q2, q3, q4, q5, q6, q7, q8, q9, q10, q11⟩ := hSw
                go_simp <;> with_reducible rfl
              simp only [Act.put, List.setIfInBounds_toArray]
              try simp only [List.set_cons_succ]
              try simp only [List.set_cons_zero]
              refine take1s (i := 8) (d := some 46) (v := ?_) rfl rfl (by kernel_rfl) (by kernel_rfl) (by kernel_rfl) (fun _ _ _ h => h) (Or.inl ⟨by rfl, ?_⟩) (by assumption) ?_
              rotate_left 1
              · intro w hSw
                obtain ⟨q0, q1, q2, q3, q4, q5, q6, q7, q8, q9, q10, q11⟩ := hSw
                go_simp <;> with_reducible rfl
              simp only [Act.put, List.setIfInBounds_toArray]
              try simp only [List.set_cons_succ]
              try simp only [List.set_cons_zero]
              refine wpAnyH_ready (rs := [9]) (by kernel_rfl) (by simp) ?_
              refine AllReadyH.cons rfl (fun KK hKK => ?_) AllReadyH.nil
              go_simp
              have bX := (Below.refl w3.heap.size w3).alloc (Nat.le_refl _) (.cells #[.int .i64 0, .int .i64 0, .int .i64 0, .int .i64 0, .string ⟨#[]⟩, .slice none 0 0] 35)
              have zk6 : w3.heap.size < (w3.alloc (.cells #[.int .i64 0, .int .i64 0, .int .i64 0, .int .i64 0, .string ⟨#[]⟩, .slice none 0 0] 35)).heap.size := by simp
              have k6 : ∀ o, (w3.alloc (.cells #[.int .i64 0, .int .i64 0, .int .i64 0, .int .i64 0, .string ⟨#[]⟩, .slice none 0 0] 35)).cell? ⟨w3.heap.size, o, none⟩ = #[.int .i64 0, .int .i64 0, .int .i64 0, .int .i64 0, .string ⟨#[]⟩, .slice none 0 0][o]? := fun o => World.cell?_alloc_at _ _ _ _ rfl
              have g6 : ∀ o, (w3.alloc (.cells #[.int .i64 0, .int .i64 0, .int .i64 0, .int .i64 0, .string ⟨#[]⟩, .slice none 0 0] 35)).frozen? ⟨w3.heap.size, o, none⟩ = false := fun o => World.frozen?_alloc_at _ _ _ _ rfl
              generalize w3.alloc (.cells #[.int .i64 0, .int .i64 0, .int .i64 0, .int .i64 0, .string ⟨#[]⟩, .slice none 0 0] 35) = X at bX zk6 k6 g6 ⊢
              have BWX : Only (fun k => some k = vk.ownBlock) wr X := BWw3.trans (Below.any bX)
              refine hKK.out _ _ (HSF.out _ BWX) (fun hHeld2 => ?_)
              clear hKK KK hHeld
              have hHeld := hHeld2
              clear hHeld2
              replace HO3 := Hid.intro (HO3.out.kept bX)
              refine wpAnyH_ready (rs := [10]) (by kernel_rfl) (by simp) ?_
              refine AllReadyH.cons rfl (fun KK hKK => ?_) AllReadyH.nil
              go_simp
              obtain ⟨Y, hY, cY, oY, zY, _⟩ := put6 (x0 := .int .i64 (nextK K' r).t) (x1 := .int .i64 (nextK K' r).v) (x2 := .int .i64 (nextK K' r).si) (x3 := .int .i64 (nextK K' r).st) (x4 := .string (nextK K' r).sd) (x5 := .slice a3 (nextK K' r).e.length cap3) k6
              simp only [hY]
              have BWY : Only (fun k => some k = vk.ownBlock) wr Y := BWX.then oY (fun k hk h => by have := BWw3.size; omega)
              refine hKK.out _ _ (HSF.out _ BWY) (fun hHeld2 => ?_)
              clear hKK KK hHeld
              have hHeld := hHeld2
              clear hHeld2
              refine take1s (i := 11) (d := some 12) (v := ?_) rfl rfl (by kernel_rfl) (by kernel_rfl) (by kernel_rfl) (fun _ _ _ h => h) (Or.inl ⟨by rfl, ?_⟩) (by assumption) ?_
              rotate_left 1
              · intro w hSw
                obtain ⟨q0, q1, q2, q3, q4, q5, q6, q7, q8, q9, q10, q11⟩ := hSw
                go_simp <;> with_reducible rfl
              simp only [Act.put, List.setIfInBounds_toArray]
              try simp only [List.set_cons_succ]
              try simp only [List.set_cons_zero]
              refine wpAnyH_done (by kernel_rfl) ?_ _
              have HOY := Hid.intro (HO3.out.only oY (fun k hk h => (HLT.out k hk).2 h))
              have HXK : Hid (¬ w3.heap.size = kb ∧ w3.heap.size < Y.heap.size ∧ kb < Y.heap.size) := ⟨by have := BWw3.size; have := HV.out; omega, by omega, by have := BWY.size; have := HV.out; omega⟩
              go_wp2_with fail
              go_meet
              case rel =>
                exact ⟨w3.heap.size, _, rfl, rfl, cY, HXK.out.1, HXK.out.2.1, HOY.out, fun k hk => (HLT.out k hk).1, BWY⟩
            · skip
              go_simp
              have bX := (Below.refl D.heap.size D).alloc (Nat.le_refl _) (.cells #[.int .i64 0, .int .i64 0, .int .i64 0, .int .i64 0, .string ⟨#[]⟩, .slice none 0 0] 35)
              have zk6 : D.heap.size < (D.alloc (.cells #[.int .i64 0, .int .i64 0, .int .i64 0, .int .i64 0, .string ⟨#[]⟩, .slice none 0 0] 35)).heap.size := by simp
              have k6 : ∀ o, (D.alloc (.cells #[.int .i64 0, .int .i64 0, .int .i64 0, .int .i64 0, .string ⟨#[]⟩, .slice none 0 0] 35)).cell? ⟨D.heap.size, o, none⟩ = #[.int .i64 0, .int .i64 0, .int .i64 0, .int .i64 0, .string ⟨#[]⟩, .slice none 0 0][o]? := fun o => World.cell?_alloc_at _ _ _ _ rfl
              have g6 : ∀ o, (D.alloc (.cells #[.int .i64 0, .int .i64 0, .int .i64 0, .int .i64 0, .string ⟨#[]⟩, .slice none 0 0] 35)).frozen? ⟨D.heap.size, o, none⟩ = false := fun o => World.frozen?_alloc_at _ _ _ _ rfl
              generalize D.alloc (.cells #[.int .i64 0, .int .i64 0, .int .i64 0, .int .i64 0, .string ⟨#[]⟩, .slice none 0 0] 35) = X at bX zk6 k6 g6 ⊢
              have BWX : Only (fun k => some k = vk.ownBlock) wr X := BWD.trans (Below.any bX)
              refine hKK.out _ _ (HSF.out _ BWX) (fun hHeld2 => ?_)
              clear hKK KK hHeld
              have hHeld := hHeld2
              clear hHeld2
              have HKX := Hid.intro (HKD.out.kept bX)
              refine wpAnyH_ready (rs := [5]) (by kernel_rfl) (by simp) ?_
              refine AllReadyH.cons rfl (fun KK hKK => ?_) AllReadyH.nil
              go_simp
              refine (l3Step_any K' vk (w.heap.size + 1 + 1) r X (by have := BWX.size; omega) (HKX.out) HSM.out).mono ?_
              rintro e w3 ⟨v3, rfl, o3, l3, q3⟩
              obtain ⟨a3, cap3, rfl⟩ := o3.slice
              have BWw3 : Only (fun k => some k = vk.ownBlock) wr w3 := BWX.trans q3
              have HO3 := Hid.intro o3
              have HLT : Hid (∀ k, (Value.slice a3 (nextK K' r).e.length cap3).ownBlock = some k → (k ≠ kb ∧ (vk.ownBlock = some k ∨ wr.heap.size ≤ k)) ∧ ¬ k = D.heap.size) := fun k hk => by
                have h3 := o3.lt k hk
                have h4 := l3 k hk
                have h5 := HV.out
                have h6 := BWX.size
                have h9 := BWD.size
                rcases h4 with h4 | h4
                · have h7 := HNE.out k h4
                  have h8 := (HVL.out k h4).2
                  refine ⟨⟨h7, .inl h4⟩, ?_⟩
                  omega
                · refine ⟨⟨by omega, .inr (by omega)⟩, ?_⟩
                  omega
              replace k6 : ∀ o, w3.cell? ⟨D.heap.size, o, none⟩ = #[.int .i64 0, .int .i64 0, .int .i64 0, .int .i64 0, .string ⟨#[]⟩, .slice none 0 0][o]? := fun o => (q3.cell zk6 (fun h => by have := (HVL.out _ h.symm).2; have := BWD.size; omega)).trans (k6 o)
              replace g6 : ∀ o, w3.frozen? ⟨D.heap.size, o, none⟩ = false := fun o => (q3.frozen zk6 (fun h => by have := (HVL.out _ h.symm).2; have := BWD.size; omega)).trans (g6 o)
              replace zk6 : D.heap.size < w3.heap.size := Nat.lt_of_lt_of_le zk6 q3.size
              clear o3 l3 q3
              go_simp
              refine hKK.out _ _ (HSF.out _ BWw3) (fun hHeld2 => ?_)
              clear hKK KK hHeld
              have hHeld := hHeld2
              clear hHeld2
              refine take1s (i := 6) (d := some 38) (v := ?_) rfl rfl (by kernel_rfl) (by kernel_rfl) (by kernel_rfl) (fun _ _ _ h => h) (Or.inl ⟨by rfl, ?_⟩) (by assumption) ?_
              rotate_left 1
              · intro w hSw
                obtain ⟨q0, q1, q2, q3, q4, q5, q6, q7, q8, q9, q10, q11⟩ := hSw
                go_simp <;> with_reducible rfl
              simp only [Act.put, List.setIfInBounds_toArray]
              try simp only [List.set_cons_succ]
              try simp only [List.set_cons_zero]
              refine take1s (i := 7) (d := some 45) (v := ?_) rfl rfl (by kernel_rfl) (by kernel_rfl) (by kernel_rfl) (fun _ _ _ h => h) (Or.inl ⟨by rfl, ?_⟩) (by assumption) ?_
              rotate_left 1
              · intro w hSw
                obtain ⟨q0, q1, q2, q3, q4, q5, q6, q7, q8, q9, q10, q11⟩ := hSw
                go_simp <;> with_reducible rfl
              simp only [Act.put, List.setIfInBounds_toArray]
              try simp only [List.set_cons_succ]
              try simp only [List.set_cons_zero]
              refine take1s (i := 8) (d := some 46) (v := ?_) rfl rfl (by kernel_rfl) (by kernel_rfl) (by kernel_rfl) (fun _ _ _ h => h) (Or.inl ⟨by rfl, ?_⟩) (by assumption) ?_
              rotate_left 1
              · intro w hSw
                obtain ⟨q0, q1, q2, q3, q4, q5, q6, q7, q8, q9, q10, q11⟩ := hSw
                go_simp <;> with_reducible rfl
              simp only [Act.put, List.setIfInBounds_toArray]
              try simp only [List.set_cons_succ]
              try simp only [List.set_cons_zero]
              refine wpAnyH_ready (rs := [10]) (by kernel_rfl) (by simp) ?_
              refine AllReadyH.cons rfl (fun KK hKK => ?_) AllReadyH.nil
              go_simp
              obtain ⟨Y, hY, cY, oY, zY, _⟩ := put6 (x0 := .int .i64 (nextK K' r).t) (x1 := .int .i64 (nextK K' r).v) (x2 := .int .i64 (nextK K' r).si) (x3 := .int .i64 (nextK K' r).st) (x4 := .string (nextK K' r).sd) (x5 := .slice a3 (nextK K' r).e.length cap3) k6
              simp only [hY]
              have BWY : Only (fun k => some k = vk.ownBlock) wr Y := BWw3.then oY (fun k hk h => by have := BWD.size; omega)
              refine hKK.out _ _ (HSF.out _ BWY) (fun hHeld2 => ?_)
              clear hKK KK hHeld
              have hHeld := hHeld2
              clear hHeld2
              refine take1s (i := 11) (d := some 12) (v := ?_) rfl rfl (by kernel_rfl) (by kernel_rfl) (by kernel_rfl) (fun _ _ _ h => h) (Or.inl ⟨by rfl, ?_⟩) (by assumption) ?_
              rotate_left 1
              · intro w hSw
                obtain ⟨q0, q1, q2, q3, q4, q5, q6, q7, q8, q9, q10, q11⟩ := hSw
                go_simp <;> with_reducible rfl
              simp only [Act.put, List.setIfInBounds_toArray]
              try simp only [List.set_cons_succ]
              try simp only [List.set_cons_zero]
              refine wpAnyH_done (by kernel_rfl) ?_ _
              have HOY := Hid.intro (HO3.out.only oY (fun k hk h => (HLT.out k hk).2 h))
              have HXK : Hid (¬ D.heap.size = kb ∧ D.heap.size < Y.heap.size ∧ kb < Y.heap.size) := ⟨by have := BWD.size; have := HV.out; omega, by omega, by have := BWY.size; have := HV.out; omega⟩
              go_wp2_with fail
              go_meet
              case rel =>
                exact ⟨D.heap.size, _, rfl, rfl, cY, HXK.out.1, HXK.out.2.1, HOY.out, fun k hk => (HLT.out k hk).1, BWY⟩
          case rest =>
          obtain ⟨wa, hwa⟩ : ∃ wa, wa = wc := ⟨_, rfl⟩
          subst hwa
          obtain ⟨xb, v3, rfl, rfl, cY, hxk, zx, oy, ly, BWY⟩ := hcut
          obtain ⟨a3, c3, rfl⟩ := oy.slice
          cases hgo : goB K' r with
          | true =>
            have HNX : Hid (nextK K' r = stepK K' r) := nextK_yes hgo
            have HLZ := Hid.intro (HL.out.step BWY oy ly)
            have dk := (HL.out.k.only BWY (fun h => HNE.out _ h.symm rfl)).cell
            have fk := (HL.out.k.only BWY (fun h => HNE.out _ h.symm rfl)).fro
            have zk : kb < wa.heap.size := Nat.lt_of_lt_of_le kz BWY.size
            have HCI2 := Hid.intro (HSP.out hgo)
            clear HSF HSO oy ly BWY
            go_upto_region 11 with fail
            obtain ⟨Z, hZ⟩ : ∃ Z, (((((wa.setCell ⟨kb, 0, none⟩ (.int .i64 (nextK K' r).t)).setCell ⟨kb, 1, none⟩ (.int .i64 (nextK K' r).v)).setCell ⟨kb, 2, none⟩ (.int .i64 (nextK K' r).si)).setCell ⟨kb, 3, none⟩ (.int .i64 (nextK K' r).st)).setCell ⟨kb, 4, none⟩ (.string (nextK K' r).sd)).setCell ⟨kb, 5, none⟩ (.slice a3 (nextK K' r).e.length c3) = Z := ⟨_, rfl⟩
            have eZ : setC wa kb 0 (kA (nextK K' r) (.slice a3 (nextK K' r).e.length c3)).toList = Z := by rw [← hZ]; rfl
            rw [eZ] at HLZ
            simp only [hZ]
            clear hZ eZ dk fk
            have ds := HLZ.out.s.cell
            have fs := HLZ.out.s.fro
            have zs := HLZ.out.s.hi
            have y6 : Z.cell? ⟨w.heap.size, 6, none⟩ = some (.slice au' m' cu') := by rw [ds]; rfl
            obtain ⟨y0, y1, y2, y3, y4⟩ := HRC.out Z HLZ.out.o
            have HUU := Hid.intro HLZ.out.hu
            have nsu : ¬ some w.heap.size = (Value.slice au' m' cu').ownBlock := fun h => by rcases HUU.out _ h.symm with h1 | h1 <;> omega
            have HNSU := Hid.intro nsu
            clear ds cY nsu
            go_region_law (refine step_R rfl _ _ rfl B (.slice au' m' cu') (S.l ++ L.take j) [r] rfl ((HLZ.out.ru.kept (Below.refl _ _).drew).kept ((Below.refl _ _).alloc (Nat.le_refl _) _)) ⟨Z.heap.size, 0, none⟩ 1 1 rfl rfl (by intro j u hu; simp only [rcF, rcC, List.flatMap_cons, List.flatMap_nil, List.append_nil] at hu; rcases j with _ | _ | _ | _ | _ | j <;> simp at hu <;> subst hu <;> simp [Addr.add, go_sem]) (by have := HMM.out; simp; omega) (by simp; omega) (by simp) ?_; intro g cap' w5 o5 hO5 hloc hg; have HO5 := Hid.intro o5; have HP5 := Hid.intro hO5; have HL5 := Hid.intro hloc; have x5 : w5.cell? ⟨w.heap.size, 6, none⟩ = some (.slice au' m' cu') := (by rw [hO5.cell (by simp; omega) HNSU.out]; first | (rw [World.cell?_drew, World.cell?_alloc_past _ _ _ (by simpa using zs)]; exact y6) | (rw [World.cell?_alloc_past _ _ _ (by simpa using zs)]; exact y6)); have xf : w5.frozen? ⟨w.heap.size, 6, none⟩ = false := (by rw [hO5.frozen (by simp; omega) HNSU.out]; first | (rw [World.frozen?_drew, World.frozen?_alloc_past _ _ _ (by simpa using zs)]; exact fs 6) | (rw [World.frozen?_alloc_past _ _ _ (by simpa using zs)]; exact fs 6)); clear o5 hO5 hloc)
            all_goals
              go_wp2
              go_roundw
              case rel =>
                have hq := HLZ.out.push (g := g) (y' := w5) ((Below.any (by first | exact ((Below.refl _ _).alloc (Nat.le_refl _) _).drew | exact (Below.refl _ _).drew.alloc (Nat.le_refl _) _)).trans HP5.out) HO5.out (HL5.out.imp id (fun h => by simp at h; omega))
                have e9 : (S.l ++ L.take j).length + 1 = S.l.length + j + 1 := by simp; omega
                rw [e9, HNX.out] at hq
                refine ⟨j + 1, stepK K' r, .slice a3 (stepK K' r).e.length c3, .slice (some ⟨g, 0, none⟩) (S.l.length + j + 1) cap', by go_num, by omega, HCI2, ?_⟩
                unfold Hid
                rw [HTK.out, ← List.append_assoc]
                exact hq
              case measure => simp [intOf]; omega
          | false =>
            have HWA := Hid.intro (HL.out.weakO BWY)
            clear HSF oy ly BWY HSP cY
            have HM : Hid (wrN S L n = j) := by unfold Hid; exact HSO.out hgo
            have HLS := Hid.intro (HWA.out)
            have HFA := Hid.intro HLS.out.fin
            have ds := HLS.out.s.cell
            have dr := HLS.out.r.cell
            have fr := HLS.out.r.fro
            have zs := HLS.out.s.hi
            have zr := HLS.out.r.hi
            clear HL HLS
            go_wp2
            refine bodyPost_ret (v := .tuple #[stV ⟨S.k, S.l ++ L.take j⟩ (.slice av S.k.e.length cv) (.slice au' m' cu'), .int .i64 j]) (by simp [results, Try.results44, go_sem, dr]) rfl ?_
            rw [HM.out]
            exact ⟨_, rfl, HFA.out⟩
        · have hm80 : (80 : Int) ≤ (m' : Int) := by omega
          have HM : Hid (wrN S L n = j) := by unfold Hid; exact wr_full HST.out HCI.out (by have := HMM.out; omega)
          have HLS := Hid.intro (HL.out.weak)
          have HFA := Hid.intro HLS.out.fin
          have ds := HLS.out.s.cell
          have dr := HLS.out.r.cell
          have fr := HLS.out.r.fro
          have zs := HLS.out.s.hi
          have zr := HLS.out.r.hi
          clear HL HLS
          go_wp2
          refine bodyPost_ret (v := .tuple #[stV ⟨S.k, S.l ++ L.take j⟩ (.slice av S.k.e.length cv) (.slice au' m' cu'), .int .i64 j]) (by simp [results, Try.results44, go_sem, dr]) rfl ?_
          rw [HM.out]
          exact ⟨_, rfl, HFA.out⟩
      · have hn2 : n ≤ (j : Int) := by omega
        have HM : Hid (wrN S L n = j) := by unfold Hid; exact wr_out HST.out HCI.out (.inl hn)
        have HLS := Hid.intro (HL.out.weak)
        have HFA := Hid.intro HLS.out.fin
        have ds := HLS.out.s.cell
        have dr := HLS.out.r.cell
        have fr := HLS.out.r.fro
        have zs := HLS.out.s.hi
        have zr := HLS.out.r.hi
        clear HL HLS
        go_wp2
        refine bodyPost_ret (v := .tuple #[stV ⟨S.k, S.l ++ L.take j⟩ (.slice av S.k.e.length cv) (.slice au' m' cu'), .int .i64 j]) (by simp [results, Try.results44, go_sem, dr]) rfl ?_
        rw [HM.out]
        exact ⟨_, rfl, HFA.out⟩
    · obtain rfl : j = L.length := by omega
      have HM : Hid (wrN S L n = L.length) := by unfold Hid; exact wr_out HST.out HCI.out (.inr hlt)
      have HLS := Hid.intro (HL.out.weak)
      have HFA := Hid.intro HLS.out.fin
      have ds := HLS.out.s.cell
      have dr := HLS.out.r.cell
      have fr := HLS.out.r.fro
      have zs := HLS.out.s.hi
      have zr := HLS.out.r.hi
      clear HL HLS
      go_wp2
      refine bodyPost_ret (v := .tuple #[stV ⟨S.k, S.l ++ L.take L.length⟩ (.slice av S.k.e.length cv) (.slice au' m' cu'), .int .i64 L.length]) (by simp [results, Try.results44, go_sem, dr]) rfl ?_
      rw [HM.out]
      exact ⟨_, rfl, HFA.out⟩
end Go.Proofs.Ytkilepoimocoeab
