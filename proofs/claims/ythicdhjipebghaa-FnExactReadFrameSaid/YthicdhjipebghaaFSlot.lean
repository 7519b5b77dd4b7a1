/- Slots: how they lie, when a list of them is a frame; SlotOk and FrameOk on both sides. -/
import Derived.Test.YthicdhjipebghaaTCall
import Derived.Test.YthicdhjipebghaaGRow
import Derived.Test.YthicdhjipebghaaPReg
import Derived.Deep.CutRange
import Derived.Deep.CutBlock
import Derived.Deep.RegionWith
import Derived.OwnWalk
import Derived.RegionTactic
namespace Go.Proofs.Ythicdhjipebghaa
open Go.RowKit
set_option linter.unusedVariables false
/-- A slot. -/
structure Sl where
  t : Int
  c : Int
  s : Int
  x : Ca
def slE : Enc Sl := ⟨9, fun a => [.int .i64 a.t, .int .i64 a.c, .int .i64 a.s, .int .i64 a.x.k, .string a.x.p, .string a.x.to, .int .i64 a.x.n, .int .i64 a.x.m, .string a.x.d], ⟨0, 0, 0, ⟨0, ⟨#[]⟩, ⟨#[]⟩, 0, 0, ⟨#[]⟩⟩⟩, fun _ => rfl, by decide, by intro a u hu; simp at hu; rcases hu with rfl | rfl | rfl | rfl | rfl | rfl | rfl | rfl | rfl <;> rfl⟩
abbrev slA (a : Sl) : Array Value := #[.int .i64 a.t, .int .i64 a.c, .int .i64 a.s, .int .i64 a.x.k, .string a.x.p, .string a.x.to, .int .i64 a.x.n, .int .i64 a.x.m, .string a.x.d]
abbrev slV (a : Sl) : Value := .agg (slA a)
/-- The nine cells of a slot. -/
def SlC (w : World) (b o : Nat) (a : Sl) : Prop := w.cell? ⟨b, o, none⟩ = some (.int .i64 a.t) ∧ w.cell? ⟨b, o + 1, none⟩ = some (.int .i64 a.c) ∧ w.cell? ⟨b, o + 2, none⟩ = some (.int .i64 a.s) ∧ w.cell? ⟨b, o + 3, none⟩ = some (.int .i64 a.x.k) ∧ w.cell? ⟨b, o + 4, none⟩ = some (.string a.x.p) ∧ w.cell? ⟨b, o + 5, none⟩ = some (.string a.x.to) ∧ w.cell? ⟨b, o + 6, none⟩ = some (.int .i64 a.x.n) ∧ w.cell? ⟨b, o + 7, none⟩ = some (.int .i64 a.x.m) ∧ w.cell? ⟨b, o + 8, none⟩ = some (.string a.x.d)
theorem SlC.at {B : Nat} {w w' : World} {b o : Nat} {a : Sl} (h : SlC w b o a) (hb : Below B w w') (hB : b < B) : SlC w' b o a := by
  obtain ⟨c0, c1, c2, c3, c4, c5, c6, c7, c8⟩ := h
  exact ⟨atCell hb c0 hB, atCell hb c1 hB, atCell hb c2 hB, atCell hb c3 hB, atCell hb c4 hB, atCell hb c5 hB, atCell hb c6 hB, atCell hb c7 hB, atCell hb c8 hB⟩
theorem slE_cell {w : World} {N : Nat} {v : Value} {L : List Sl} (h : Row slE w N v L) : ∃ a cap, v = .slice a L.length cap ∧ L.length ≤ cap ∧ cap ≤ 9223372036854775807 ∧
    (L ≠ [] → ∃ b off, a = some ⟨b, off, none⟩ ∧ b < N ∧ ∀ j (h : j < L.length), SlC w b (off + j * 9) L[j]) := by
  obtain ⟨a, cap, h0, h1, h2, h3⟩ := h
  refine ⟨a, cap, h0, h1, h2, fun hL => ?_⟩
  obtain ⟨b, off, ha, hb, hc⟩ := h3 hL
  refine ⟨b, off, ha, hb, fun j hj => ⟨?_, ?_, ?_, ?_, ?_, ?_, ?_, ?_, ?_⟩⟩
  · have := hc j hj 0 (by decide)
    simpa [slE] using this
  · have := hc j hj 1 (by decide)
    simpa [slE] using this
  · have := hc j hj 2 (by decide)
    simpa [slE] using this
  · have := hc j hj 3 (by decide)
    simpa [slE] using this
  · have := hc j hj 4 (by decide)
    simpa [slE] using this
  · have := hc j hj 5 (by decide)
    simpa [slE] using this
  · have := hc j hj 6 (by decide)
    simpa [slE] using this
  · have := hc j hj 7 (by decide)
    simpa [slE] using this
  · have := hc j hj 8 (by decide)
    simpa [slE] using this
/-- Is a slot right? -/
def slotB (a : Sl) : Bool := inB a.t 0 2 && (inB a.c 1 3 && (inB a.s 1 1000000 && callB a.x))
/-- Are slots a frame behind one of tenant p, and one of q ahead of that? -/
def frFrom (p q : Int) : List Sl → Bool
  | [] => true
  | a :: l => slotB a && (decide (p ≤ a.t) && (!decide (a.t = q) && frFrom a.t p l))
def frameB (l : List Sl) : Bool := frFrom (-1) (-1) l
/-- The tenant of the slot k ahead of place j. -/
def tAt (l : List Sl) (j k : Nat) : Int := if j < k then -1 else ((l[j - k]?).map Sl.t).getD 0
theorem tAt_one {l : List Sl} {j : Nat} (h : j < l.length) : tAt l (j + 1) 1 = l[j].t := by simp [tAt, List.getElem?_eq_getElem h]
theorem tAt_two {l : List Sl} {j : Nat} : tAt l (j + 1) 2 = tAt l j 1 := by
  simp only [tAt, show j + 1 - 2 = j - 1 by omega]
  by_cases h : j < 1
  · rw [if_pos (by omega), if_pos h]
  · rw [if_neg (by omega), if_neg h]
theorem frFrom_step {l : List Sl} {j : Nat} (h : j < l.length) : frFrom (tAt l j 1) (tAt l j 2) (l.drop j) = (slotB l[j] && (decide (tAt l j 1 ≤ l[j].t) && (!decide (l[j].t = tAt l j 2) && frFrom (tAt l (j + 1) 1) (tAt l (j + 1) 2) (l.drop (j + 1))))) := by
  rw [List.drop_eq_getElem_cons h, frFrom, tAt_one h, tAt_two]
theorem frFrom_end (p q : Int) (l : List Sl) : frFrom p q (l.drop l.length) = true := by
  rw [List.drop_length]; rfl
theorem slotB_t {a : Sl} (h : slotB a = true) : 0 ≤ a.t ∧ a.t ≤ 2 := by
  simp only [slotB, Bool.and_eq_true] at h
  have h1 := h.1
  simpa [inB] using h1
set_option maxRecDepth 100000 in
set_option maxHeartbeats 4000000 in
theorem implSlotOk_any (a : Sl) (w : World) :
    Calls Try.prog 40 #[slV a] w fun e w' => e = .returned (.bool (slotB a)) ∧ Below w.heap.size w w' := by
  obtain ⟨ans, hans⟩ : ∃ ans, slotB a = ans := ⟨_, rfl⟩
  rw [hans]
  have HK : Hid (ans = (inB a.t 0 2 && (inB a.c 1 3 && (inB a.s 1 1000000 && callB a.x)))) := hans.symm
  clear hans
  go_enter Try.func40, Try.ntmps40
  go_upto_region 1 with fail
  obtain ⟨W, hW, bW, zW, c1, f1⟩ := boxed w (slA a) 49
  try simp only [hW]
  have HB := Hid.intro bW
  have hz1 : w.heap.size < W.heap.size := by omega
  clear hW bW f1
  cases hb0 : inB a.t 0 2 with
  | false =>
    have HF : Hid (ans = false) := by unfold Hid; rw [HK.out, hb0]; rfl
    go_wp2_with (go_at_call 32; refine (within_any _ _ _ _).mono ?_; rintro e w9 ⟨rfl, rfl⟩; simp only [hb0])
    go_ret
    exact ⟨ret_bool HF.out.symm, HB.out⟩
  | true =>
    cases hb1 : inB a.c 1 3 with
    | false =>
      have HF : Hid (ans = false) := by unfold Hid; rw [HK.out, hb0, hb1]; rfl
      go_wp2_with (go_at_call 32; refine (within_any _ _ _ _).mono ?_; rintro e w9 ⟨rfl, rfl⟩; simp only [hb0, hb1])
      go_ret
      exact ⟨ret_bool HF.out.symm, HB.out⟩
    | true =>
      cases hb2 : inB a.s 1 1000000 with
      | false =>
        have HF : Hid (ans = false) := by unfold Hid; rw [HK.out, hb0, hb1, hb2]; rfl
        go_wp2_with (go_at_call 32; refine (within_any _ _ _ _).mono ?_; rintro e w9 ⟨rfl, rfl⟩; simp only [hb0, hb1, hb2])
        go_ret
        exact ⟨ret_bool HF.out.symm, HB.out⟩
      | true =>
        have HF : Hid (ans = callB a.x) := by unfold Hid; rw [HK.out, hb0, hb1, hb2]; rfl
        go_wp2_with (first | (go_at_call 32; refine (within_any _ _ _ _).mono ?_; rintro e w9 ⟨rfl, rfl⟩; simp only [hb0, hb1, hb2]) | fail)
        refine (implCallOk_any a.x _).mono ?_
        rintro e w9 ⟨rfl, b9⟩
        have HBY : Hid (Below w.heap.size w w9) := HB.out.trans (b9.mono (by omega))
        clear b9 c1
        go_wp2_with fail
        go_ret
        exact ⟨ret_bool HF.out.symm, HBY.out⟩
set_option maxRecDepth 100000 in
set_option maxHeartbeats 4000000 in
theorem specSlotOk_any (a : Sl) (w : World) :
    Calls Try.prog 53 #[slV a] w fun e w' => e = .returned (.bool (slotB a)) ∧ Below w.heap.size w w' := by
  obtain ⟨ans, hans⟩ : ∃ ans, slotB a = ans := ⟨_, rfl⟩
  rw [hans]
  have HK : Hid (ans = (inB a.t 0 2 && (inB a.c 1 3 && (inB a.s 1 1000000 && callB a.x)))) := hans.symm
  clear hans
  go_enter Try.func53, Try.ntmps53
  go_upto_region 1 with fail
  obtain ⟨W, hW, bW, zW, c1, f1⟩ := boxed w (slA a) 49
  try simp only [hW]
  have HB := Hid.intro bW
  have hz1 : w.heap.size < W.heap.size := by omega
  clear hW bW f1
  cases hb0 : inB a.t 0 2 with
  | false =>
    have HF : Hid (ans = false) := by unfold Hid; rw [HK.out, hb0]; rfl
    go_wp2_with (go_at_call 42; refine (l1In_any _ _ _ _).mono ?_; rintro e w9 ⟨rfl, rfl⟩; simp only [hb0])
    go_ret
    exact ⟨ret_bool HF.out.symm, HB.out⟩
  | true =>
    cases hb1 : inB a.c 1 3 with
    | false =>
      have HF : Hid (ans = false) := by unfold Hid; rw [HK.out, hb0, hb1]; rfl
      go_wp2_with (go_at_call 42; refine (l1In_any _ _ _ _).mono ?_; rintro e w9 ⟨rfl, rfl⟩; simp only [hb0, hb1])
      go_ret
      exact ⟨ret_bool HF.out.symm, HB.out⟩
    | true =>
      cases hb2 : inB a.s 1 1000000 with
      | false =>
        have HF : Hid (ans = false) := by unfold Hid; rw [HK.out, hb0, hb1, hb2]; rfl
        go_wp2_with (go_at_call 42; refine (l1In_any _ _ _ _).mono ?_; rintro e w9 ⟨rfl, rfl⟩; simp only [hb0, hb1, hb2])
        go_ret
        exact ⟨ret_bool HF.out.symm, HB.out⟩
      | true =>
        have HF : Hid (ans = callB a.x) := by unfold Hid; rw [HK.out, hb0, hb1, hb2]; rfl
        go_wp2_with (first | (go_at_call 42; refine (l1In_any _ _ _ _).mono ?_; rintro e w9 ⟨rfl, rfl⟩; simp only [hb0, hb1, hb2]) | fail)
        refine (specCallOk_any a.x _).mono ?_
        rintro e w9 ⟨rfl, b9⟩
        have HBY : Hid (Below w.heap.size w w9) := HB.out.trans (b9.mono (by omega))
        clear b9 c1
        go_wp2_with fail
        go_ret
        exact ⟨ret_bool HF.out.symm, HBY.out⟩
/-- A slot in its box, and two tenants ahead of it. -/
def SlIn (eb : Nat) (x : Sl) (b2 o1 : Nat) (p1 : Int) (o2 : Nat) (p2 : Int) (w' : World) : Prop := w'.cell? ⟨eb, 0, none⟩ = some (.int .i64 x.t) ∧ w'.cell? ⟨eb, 1, none⟩ = some (.int .i64 x.c) ∧ w'.cell? ⟨eb, 2, none⟩ = some (.int .i64 x.s) ∧ w'.cell? ⟨eb, 3, none⟩ = some (.int .i64 x.x.k) ∧ w'.cell? ⟨eb, 4, none⟩ = some (.string x.x.p) ∧ w'.cell? ⟨eb, 5, none⟩ = some (.string x.x.to) ∧ w'.cell? ⟨eb, 6, none⟩ = some (.int .i64 x.x.n) ∧ w'.cell? ⟨eb, 7, none⟩ = some (.int .i64 x.x.m) ∧ w'.cell? ⟨eb, 8, none⟩ = some (.string x.x.d) ∧ w'.cell? ⟨b2, o1, none⟩ = some (.int .i64 p1) ∧ w'.cell? ⟨b2, o2, none⟩ = some (.int .i64 p2)
set_option maxRecDepth 100000 in
set_option maxHeartbeats 40000000 in
theorem implFrameOk_any (L : List Sl) (v : Value) (N : Nat) (w : World) (hN : N ≤ w.heap.size) (hr : Row slE w N v L) :
    Calls Try.prog 23 #[v] w fun e w' => e = .returned (.bool (frameB L)) ∧ Below w.heap.size w w' := by
  obtain ⟨a, cap, rfl, hl, hm, hcells⟩ := slE_cell hr
  have HC := Hid.intro hcells
  clear hcells hr
  obtain ⟨ans, hans⟩ : ∃ ans, frameB L = ans := ⟨_, rfl⟩
  rw [hans]
  have HA : Hid (ans = frFrom (tAt L 0 1) (tAt L 0 2) (L.drop 0)) := hans.symm
  clear hans
  go_enter Try.func23, Try.ntmps23
  go_wp2_with fail
  go_loopw [7] (fun i wr => ∃ (j : Nat), i = .int .i64 j ∧ j ≤ L.length ∧ Hid (ans = frFrom (tAt L j 1) (tAt L j 2) (L.drop j)) ∧ Hid (Below w.heap.size w wr)) (fun i _ => L.length - (intOf i).toNat)
  case atStart => exact ⟨0, rfl, Nat.zero_le _, HA, Below.refl _ _⟩
  case round =>
    obtain ⟨j, rfl, hj, HJ, HBW⟩ := hrel
    have hzr := HBW.out.size
    by_cases hlt : j < L.length
    · obtain ⟨b2, o2, rfl, hb2, hdd⟩ := HC.out (by intro h; rw [h] at hlt; simp at hlt)
      have hd := (hdd j hlt).at HBW.out (by omega)
      have hst := frFrom_step hlt
      have HDD := Hid.intro hdd
      have HP1 : Hid (∀ k, j = k + 1 → ∃ hk : k < L.length, tAt L j 1 = L[k].t) := fun k hk => by subst hk; exact ⟨by omega, tAt_one (by omega)⟩
      have HP2 : Hid (∀ k, j = k + 1 + 1 → ∃ hk : k < L.length, tAt L j 2 = L[k].t) := fun k hk => by subst hk; exact ⟨by omega, by rw [tAt_two, tAt_one (by omega)]⟩
      have HP1z : Hid (j = 0 → tAt L j 1 = -1) := fun h => by subst h; rfl
      have HP2z : Hid (j < 2 → tAt L j 2 = -1) := fun h => if_pos h
      generalize hT1 : tAt L j 1 = T1 at hst HP1 HP1z
      generalize hT2 : tAt L j 2 = T2 at hst HP2 HP2z
      have HJT : Hid (ans = frFrom T1 T2 (L.drop j)) := by unfold Hid; rw [HJ.out, hT1, hT2]
      clear HJ hT1 hT2
      generalize L[j] = x at hd hst
      have D0 := Hid.intro hd.1
      obtain ⟨d0, d1, d2, d3, d4, d5, d6, d7, d8⟩ := hd
      have hjl : (j : Int) < (L.length : Int) := by omega
      have i1 : (0 : Int) ≤ (j : Int) ∧ (j : Int) < (L.length : Int) := by omega
      have HST := Hid.intro hst
      clear hst hdd
      go_upto_region 4 with fail
      obtain ⟨X, hX, bX, zX, cX, fX⟩ := boxed wr (slA x) 49
      simp only [hX]
      have HSG : Hid (∀ y, Below X.heap.size X y → ∀ (o1 : Nat) (p1 : Int) (o3 : Nat) (p2 : Int), wr.cell? ⟨b2, o1, none⟩ = some (.int .i64 p1) → wr.cell? ⟨b2, o3, none⟩ = some (.int .i64 p2) → SlIn wr.heap.size x b2 o1 p1 o3 p2 y) := fun y hy o1 p1 o3 p2 h1 h2 => by
        have h3 := bX.trans (hy.mono (by omega))
        have kX := keepC hy (by omega) cX
        exact ⟨by rw [kX]; rfl, by rw [kX]; rfl, by rw [kX]; rfl, by rw [kX]; rfl, by rw [kX]; rfl, by rw [kX]; rfl, by rw [kX]; rfl, by rw [kX]; rfl, by rw [kX]; rfl, atCell h3 h1 (by omega), atCell h3 h2 (by omega)⟩
      have HBX : Hid (Below w.heap.size w X) := HBW.out.trans (bX.mono hzr)
      have HBXW : Hid (∀ y, Below X.heap.size X y → Below w.heap.size w y) := fun y hy => HBX.out.trans (hy.mono (by have := HBX.out.size; omega))
      clear hX fX d0 d1 d2 d3 d4 d5 d6 d7 d8 cX bX
      cases hb0 : slotB x with
      | false =>
        have HSF : Hid (∀ y, Below X.heap.size X y → SlIn wr.heap.size x b2 (o2 + j * 9) x.t (o2 + j * 9) x.t y) := fun y hy => HSG.out y hy _ _ _ _ D0.out D0.out
        have HFF : Hid (ans = false) := by unfold Hid; rw [HJT.out, HST.out, hb0]; rfl
        refine wp_region_held_drew (S := SlIn wr.heap.size x b2 (o2 + j * 9) x.t (o2 + j * 9) x.t) (by kernel_rfl) (HSF.out _ (Below.refl _ _).drew) (fun hHeld => ?_)
        have BD : Hid (Below X.heap.size X X.drew) := (Below.refl _ _).drew
        generalize X.drew = D at BD hHeld ⊢
        refine take1 (i := 0) (d := some 12) (v := ?_) rfl rfl (by kernel_rfl) (by kernel_rfl) (by kernel_rfl) (fun _ _ _ h => h) (Or.inl ⟨by rfl, ?_⟩) (by assumption) ?_
        rotate_left 1
        · intro w hSw
          obtain ⟨q0, q1, q2, q3, q4, q5, q6, q7, q8, q9, q10⟩ := hSw
          go_simp <;> with_reducible rfl
        simp only [Act.put, List.setIfInBounds_toArray]
        dsimp only [List.set_cons_succ, List.set_cons_zero]
        refine wpAnyH_ready (rs := [1]) (by kernel_rfl) (by simp) ?_
        refine AllReadyH.cons rfl (fun KK hKK => ?_) AllReadyH.nil
        go_simp
        refine (implSlotOk_any x _).mono ?_
        rintro e9 w9 ⟨rfl, b9⟩
        replace BD := Hid.intro (BD.out.trans (b9.mono BD.out.size))
        clear b9
        simp only [hb0]
        go_simp
        refine hKK.out _ _ (HSF.out _ BD.out) (fun hHeld2 => ?_)
        clear hKK KK hHeld
        have hHeld := hHeld2
        clear hHeld2
        refine take1 (i := 2) (d := some 14) (v := ?_) rfl rfl (by kernel_rfl) (by kernel_rfl) (by kernel_rfl) (fun _ _ _ h => h) (Or.inl ⟨by rfl, ?_⟩) (by assumption) ?_
        rotate_left 1
        · intro w hSw
          obtain ⟨q0, q1, q2, q3, q4, q5, q6, q7, q8, q9, q10⟩ := hSw
          go_simp <;> with_reducible rfl
        simp only [Act.put, List.setIfInBounds_toArray]
        dsimp only [List.set_cons_succ, List.set_cons_zero]
        refine take1 (i := 3) (d := some 15) (v := ?_) rfl rfl (by kernel_rfl) (by kernel_rfl) (by kernel_rfl) (fun _ _ _ h => h) (Or.inl ⟨by rfl, ?_⟩) (by assumption) ?_
        rotate_left 1
        · intro w hSw
          obtain ⟨q0, q1, q2, q3, q4, q5, q6, q7, q8, q9, q10⟩ := hSw
          go_simp <;> with_reducible rfl
        simp only [Act.put, List.setIfInBounds_toArray]
        dsimp only [List.set_cons_succ, List.set_cons_zero]
        refine take1 (i := 4) (d := some 16) (v := undef) rfl rfl (by kernel_rfl) (by kernel_rfl) (by kernel_rfl) (fun _ _ _ h => h) (Or.inr ⟨by rfl, rfl⟩) (by assumption) ?_
        simp only [Act.put, List.setIfInBounds_toArray]
        dsimp only [List.set_cons_succ, List.set_cons_zero]
        refine take1 (i := 5) (d := some 17) (v := undef) rfl rfl (by kernel_rfl) (by kernel_rfl) (by kernel_rfl) (fun _ _ _ h => h) (Or.inr ⟨by rfl, rfl⟩) (by assumption) ?_
        simp only [Act.put, List.setIfInBounds_toArray]
        dsimp only [List.set_cons_succ, List.set_cons_zero]
        refine take1 (i := 6) (d := some 18) (v := undef) rfl rfl (by kernel_rfl) (by kernel_rfl) (by kernel_rfl) (fun _ _ _ h => h) (Or.inr ⟨by rfl, rfl⟩) (by assumption) ?_
        simp only [Act.put, List.setIfInBounds_toArray]
        dsimp only [List.set_cons_succ, List.set_cons_zero]
        refine take1 (i := 7) (d := some 19) (v := undef) rfl rfl (by kernel_rfl) (by kernel_rfl) (by kernel_rfl) (fun _ _ _ h => h) (Or.inr ⟨by rfl, rfl⟩) (by assumption) ?_
        simp only [Act.put, List.setIfInBounds_toArray]
        dsimp only [List.set_cons_succ, List.set_cons_zero]
        refine take1 (i := 8) (d := some 20) (v := undef) rfl rfl (by kernel_rfl) (by kernel_rfl) (by kernel_rfl) (fun _ _ _ h => h) (Or.inr ⟨by rfl, rfl⟩) (by assumption) ?_
        simp only [Act.put, List.setIfInBounds_toArray]
        dsimp only [List.set_cons_succ, List.set_cons_zero]
        refine take1 (i := 9) (d := some 21) (v := undef) rfl rfl (by kernel_rfl) (by kernel_rfl) (by kernel_rfl) (fun _ _ _ h => h) (Or.inr ⟨by rfl, rfl⟩) (by assumption) ?_
        simp only [Act.put, List.setIfInBounds_toArray]
        dsimp only [List.set_cons_succ, List.set_cons_zero]
        refine take1 (i := 10) (d := some 22) (v := undef) rfl rfl (by kernel_rfl) (by kernel_rfl) (by kernel_rfl) (fun _ _ _ h => h) (Or.inr ⟨by rfl, rfl⟩) (by assumption) ?_
        simp only [Act.put, List.setIfInBounds_toArray]
        dsimp only [List.set_cons_succ, List.set_cons_zero]
        refine take1 (i := 11) (d := some 23) (v := undef) rfl rfl (by kernel_rfl) (by kernel_rfl) (by kernel_rfl) (fun _ _ _ h => h) (Or.inr ⟨by rfl, rfl⟩) (by assumption) ?_
        simp only [Act.put, List.setIfInBounds_toArray]
        dsimp only [List.set_cons_succ, List.set_cons_zero]
        refine take1 (i := 12) (d := some 24) (v := undef) rfl rfl (by kernel_rfl) (by kernel_rfl) (by kernel_rfl) (fun _ _ _ h => h) (Or.inr ⟨by rfl, rfl⟩) (by assumption) ?_
        simp only [Act.put, List.setIfInBounds_toArray]
        dsimp only [List.set_cons_succ, List.set_cons_zero]
        refine take1 (i := 13) (d := some 25) (v := undef) rfl rfl (by kernel_rfl) (by kernel_rfl) (by kernel_rfl) (fun _ _ _ h => h) (Or.inr ⟨by rfl, rfl⟩) (by assumption) ?_
        simp only [Act.put, List.setIfInBounds_toArray]
        dsimp only [List.set_cons_succ, List.set_cons_zero]
        refine take1 (i := 14) (d := some 26) (v := undef) rfl rfl (by kernel_rfl) (by kernel_rfl) (by kernel_rfl) (fun _ _ _ h => h) (Or.inr ⟨by rfl, rfl⟩) (by assumption) ?_
        simp only [Act.put, List.setIfInBounds_toArray]
        dsimp only [List.set_cons_succ, List.set_cons_zero]
        refine take1 (i := 15) (d := some 27) (v := undef) rfl rfl (by kernel_rfl) (by kernel_rfl) (by kernel_rfl) (fun _ _ _ h => h) (Or.inr ⟨by rfl, rfl⟩) (by assumption) ?_
        simp only [Act.put, List.setIfInBounds_toArray]
        dsimp only [List.set_cons_succ, List.set_cons_zero]
        refine take1 (i := 16) (d := some 28) (v := undef) rfl rfl (by kernel_rfl) (by kernel_rfl) (by kernel_rfl) (fun _ _ _ h => h) (Or.inr ⟨by rfl, rfl⟩) (by assumption) ?_
        simp only [Act.put, List.setIfInBounds_toArray]
        dsimp only [List.set_cons_succ, List.set_cons_zero]
        refine take1 (i := 17) (d := some 29) (v := ?_) rfl rfl (by kernel_rfl) (by kernel_rfl) (by kernel_rfl) (fun _ _ _ h => h) (Or.inl ⟨by rfl, ?_⟩) (by assumption) ?_
        rotate_left 1
        · intro w hSw
          obtain ⟨q0, q1, q2, q3, q4, q5, q6, q7, q8, q9, q10⟩ := hSw
          go_simp <;> with_reducible rfl
        simp only [Act.put, List.setIfInBounds_toArray]
        dsimp only [List.set_cons_succ, List.set_cons_zero]
        refine wpAnyH_done (by kernel_rfl) ?_ _
        go_wp2_with fail
        go_ret
        exact ⟨ret_bool HFF.out.symm, HBXW.out _ BD.out⟩
      | true =>
        have hx := slotB_t hb0
        rcases Nat.eq_zero_or_pos j with hj0 | hj0
        · subst hj0
          have HSF : Hid (∀ y, Below X.heap.size X y → SlIn wr.heap.size x b2 (o2 + 0 * 9) x.t (o2 + 0 * 9) x.t y) := fun y hy => HSG.out y hy _ _ _ _ D0.out D0.out
          have h00 : decide ((0 : Int) < ((0 : Nat) : Int)) = false := by decide
          have h22 : decide ((2 : Int) ≤ ((0 : Nat) : Int)) = false := by decide
          have h22' : decide ((2 : Int) ≤ 0) = false := by decide
          have HFF : Hid (ans = frFrom (tAt L (0 + 1) 1) (tAt L (0 + 1) 2) (L.drop (0 + 1))) := by
            unfold Hid
            rw [HJT.out, HST.out, hb0, HP1z.out rfl, HP2z.out (by omega), decide_eq_true (show (-1 : Int) ≤ x.t by omega), decide_eq_false (show ¬ x.t = (-1 : Int) by omega)]; rfl
          clear hx
          refine wp_region_held_drew (S := SlIn wr.heap.size x b2 (o2 + 0 * 9) x.t (o2 + 0 * 9) x.t) (by kernel_rfl) (HSF.out _ (Below.refl _ _).drew) (fun hHeld => ?_)
          have BD : Hid (Below X.heap.size X X.drew) := (Below.refl _ _).drew
          generalize X.drew = D at BD hHeld ⊢
          refine take1 (i := 0) (d := some 12) (v := ?_) rfl rfl (by kernel_rfl) (by kernel_rfl) (by kernel_rfl) (fun _ _ _ h => h) (Or.inl ⟨by rfl, ?_⟩) (by assumption) ?_
          rotate_left 1
          · intro w hSw
            obtain ⟨q0, q1, q2, q3, q4, q5, q6, q7, q8, q9, q10⟩ := hSw
            go_simp <;> with_reducible rfl
          simp only [Act.put, List.setIfInBounds_toArray]
          dsimp only [List.set_cons_succ, List.set_cons_zero]
          refine wpAnyH_ready (rs := [1]) (by kernel_rfl) (by simp) ?_
          refine AllReadyH.cons rfl (fun KK hKK => ?_) AllReadyH.nil
          go_simp
          refine (implSlotOk_any x _).mono ?_
          rintro e9 w9 ⟨rfl, b9⟩
          replace BD := Hid.intro (BD.out.trans (b9.mono BD.out.size))
          clear b9
          simp only [hb0]
          go_simp
          refine hKK.out _ _ (HSF.out _ BD.out) (fun hHeld2 => ?_)
          clear hKK KK hHeld
          have hHeld := hHeld2
          clear hHeld2
          refine take1 (i := 2) (d := some 14) (v := ?_) rfl rfl (by kernel_rfl) (by kernel_rfl) (by kernel_rfl) (fun _ _ _ h => h) (Or.inl ⟨by rfl, ?_⟩) (by assumption) ?_
          rotate_left 1
          · intro w hSw
            obtain ⟨q0, q1, q2, q3, q4, q5, q6, q7, q8, q9, q10⟩ := hSw
            go_simp <;> with_reducible rfl
          simp only [Act.put, List.setIfInBounds_toArray]
          dsimp only [List.set_cons_succ, List.set_cons_zero]
          refine take1 (i := 3) (d := some 15) (v := ?_) rfl rfl (by kernel_rfl) (by kernel_rfl) (by kernel_rfl) (fun _ _ _ h => h) (Or.inl ⟨by rfl, ?_⟩) (by assumption) ?_
          rotate_left 1
          · intro w hSw
            obtain ⟨q0, q1, q2, q3, q4, q5, q6, q7, q8, q9, q10⟩ := hSw
            go_simp <;> with_reducible rfl
          simp only [Act.put, List.setIfInBounds_toArray]
          dsimp only [List.set_cons_succ, List.set_cons_zero]
          refine take1 (i := 4) (d := some 16) (v := ?_) rfl rfl (by kernel_rfl) (by kernel_rfl) (by kernel_rfl) (fun _ _ _ h => h) (Or.inl ⟨by rfl, ?_⟩) (by assumption) ?_
          rotate_left 1
          · intro w hSw
            obtain ⟨q0, q1, q2, q3, q4, q5, q6, q7, q8, q9, q10⟩ := hSw
            go_simp <;> with_reducible rfl
          simp only [Act.put, List.setIfInBounds_toArray]
          dsimp only [List.set_cons_succ, List.set_cons_zero]
          refine take1 (i := 5) (d := some 17) (v := ?_) rfl rfl (by kernel_rfl) (by kernel_rfl) (by kernel_rfl) (fun _ _ _ h => h) (Or.inl ⟨by rfl, ?_⟩) (by assumption) ?_
          rotate_left 1
          · intro w hSw
            obtain ⟨q0, q1, q2, q3, q4, q5, q6, q7, q8, q9, q10⟩ := hSw
            go_simp <;> with_reducible rfl
          simp only [Act.put, List.setIfInBounds_toArray]
          dsimp only [List.set_cons_succ, List.set_cons_zero]
          try simp only [h00]
          refine take1 (i := 6) (d := some 18) (v := ?_) rfl rfl (by kernel_rfl) (by kernel_rfl) (by kernel_rfl) (fun _ _ _ h => h) (Or.inl ⟨by rfl, ?_⟩) (by assumption) ?_
          rotate_left 1
          · intro w hSw
            obtain ⟨q0, q1, q2, q3, q4, q5, q6, q7, q8, q9, q10⟩ := hSw
            go_simp <;> with_reducible rfl
          simp only [Act.put, List.setIfInBounds_toArray]
          dsimp only [List.set_cons_succ, List.set_cons_zero]
          refine take1 (i := 7) (d := some 19) (v := undef) rfl rfl (by kernel_rfl) (by kernel_rfl) (by kernel_rfl) (fun _ _ _ h => h) (Or.inr ⟨by rfl, rfl⟩) (by assumption) ?_
          simp only [Act.put, List.setIfInBounds_toArray]
          dsimp only [List.set_cons_succ, List.set_cons_zero]
          refine take1 (i := 8) (d := some 20) (v := undef) rfl rfl (by kernel_rfl) (by kernel_rfl) (by kernel_rfl) (fun _ _ _ h => h) (Or.inr ⟨by rfl, rfl⟩) (by assumption) ?_
          simp only [Act.put, List.setIfInBounds_toArray]
          dsimp only [List.set_cons_succ, List.set_cons_zero]
          refine take1 (i := 9) (d := some 21) (v := undef) rfl rfl (by kernel_rfl) (by kernel_rfl) (by kernel_rfl) (fun _ _ _ h => h) (Or.inr ⟨by rfl, rfl⟩) (by assumption) ?_
          simp only [Act.put, List.setIfInBounds_toArray]
          dsimp only [List.set_cons_succ, List.set_cons_zero]
          refine take1 (i := 10) (d := some 22) (v := undef) rfl rfl (by kernel_rfl) (by kernel_rfl) (by kernel_rfl) (fun _ _ _ h => h) (Or.inr ⟨by rfl, rfl⟩) (by assumption) ?_
          simp only [Act.put, List.setIfInBounds_toArray]
          dsimp only [List.set_cons_succ, List.set_cons_zero]
          refine take1 (i := 11) (d := some 23) (v := undef) rfl rfl (by kernel_rfl) (by kernel_rfl) (by kernel_rfl) (fun _ _ _ h => h) (Or.inr ⟨by rfl, rfl⟩) (by assumption) ?_
          simp only [Act.put, List.setIfInBounds_toArray]
          dsimp only [List.set_cons_succ, List.set_cons_zero]
          refine take1 (i := 12) (d := some 24) (v := undef) rfl rfl (by kernel_rfl) (by kernel_rfl) (by kernel_rfl) (fun _ _ _ h => h) (Or.inr ⟨by rfl, rfl⟩) (by assumption) ?_
          simp only [Act.put, List.setIfInBounds_toArray]
          dsimp only [List.set_cons_succ, List.set_cons_zero]
          refine take1 (i := 13) (d := some 25) (v := undef) rfl rfl (by kernel_rfl) (by kernel_rfl) (by kernel_rfl) (fun _ _ _ h => h) (Or.inr ⟨by rfl, rfl⟩) (by assumption) ?_
          simp only [Act.put, List.setIfInBounds_toArray]
          dsimp only [List.set_cons_succ, List.set_cons_zero]
          refine take1 (i := 14) (d := some 26) (v := undef) rfl rfl (by kernel_rfl) (by kernel_rfl) (by kernel_rfl) (fun _ _ _ h => h) (Or.inr ⟨by rfl, rfl⟩) (by assumption) ?_
          simp only [Act.put, List.setIfInBounds_toArray]
          dsimp only [List.set_cons_succ, List.set_cons_zero]
          refine take1 (i := 15) (d := some 27) (v := undef) rfl rfl (by kernel_rfl) (by kernel_rfl) (by kernel_rfl) (fun _ _ _ h => h) (Or.inr ⟨by rfl, rfl⟩) (by assumption) ?_
          simp only [Act.put, List.setIfInBounds_toArray]
          dsimp only [List.set_cons_succ, List.set_cons_zero]
          refine take1 (i := 16) (d := some 28) (v := ?_) rfl rfl (by kernel_rfl) (by kernel_rfl) (by kernel_rfl) (fun _ _ _ h => h) (Or.inl ⟨by rfl, ?_⟩) (by assumption) ?_
          rotate_left 1
          · intro w hSw
            obtain ⟨q0, q1, q2, q3, q4, q5, q6, q7, q8, q9, q10⟩ := hSw
            go_simp <;> with_reducible rfl
          simp only [Act.put, List.setIfInBounds_toArray]
          dsimp only [List.set_cons_succ, List.set_cons_zero]
          refine take1 (i := 17) (d := some 29) (v := ?_) rfl rfl (by kernel_rfl) (by kernel_rfl) (by kernel_rfl) (fun _ _ _ h => h) (Or.inl ⟨by rfl, ?_⟩) (by assumption) ?_
          rotate_left 1
          · intro w hSw
            obtain ⟨q0, q1, q2, q3, q4, q5, q6, q7, q8, q9, q10⟩ := hSw
            go_simp <;> with_reducible rfl
          simp only [Act.put, List.setIfInBounds_toArray]
          dsimp only [List.set_cons_succ, List.set_cons_zero]
          refine wpAnyH_done (by kernel_rfl) ?_ _
          go_upto_region 6 with fail
          refine wp_region_held_drew (S := SlIn wr.heap.size x b2 (o2 + 0 * 9) x.t (o2 + 0 * 9) x.t) (by kernel_rfl) (HSF.out _ BD.out.drew) (fun hHeld => ?_)
          replace BD : Hid (Below X.heap.size X _) := BD.out.drew
          refine take1 (i := 0) (d := some 30) (v := ?_) rfl rfl (by kernel_rfl) (by kernel_rfl) (by kernel_rfl) (fun _ _ _ h => h) (Or.inl ⟨by rfl, ?_⟩) (by assumption) ?_
          rotate_left 1
          · intro w hSw
            obtain ⟨q0, q1, q2, q3, q4, q5, q6, q7, q8, q9, q10⟩ := hSw
            go_simp <;> with_reducible rfl
          simp only [Act.put, List.setIfInBounds_toArray]
          dsimp only [List.set_cons_succ, List.set_cons_zero]
          refine take1 (i := 1) (d := some 31) (v := ?_) rfl rfl (by kernel_rfl) (by kernel_rfl) (by kernel_rfl) (fun _ _ _ h => h) (Or.inl ⟨by rfl, ?_⟩) (by assumption) ?_
          rotate_left 1
          · intro w hSw
            obtain ⟨q0, q1, q2, q3, q4, q5, q6, q7, q8, q9, q10⟩ := hSw
            go_simp <;> with_reducible rfl
          simp only [Act.put, List.setIfInBounds_toArray]
          dsimp only [List.set_cons_succ, List.set_cons_zero]
          try simp only [h22]
          try simp only [h22']
          refine take1 (i := 2) (d := some 32) (v := ?_) rfl rfl (by kernel_rfl) (by kernel_rfl) (by kernel_rfl) (fun _ _ _ h => h) (Or.inl ⟨by rfl, ?_⟩) (by assumption) ?_
          rotate_left 1
          · intro w hSw
            obtain ⟨q0, q1, q2, q3, q4, q5, q6, q7, q8, q9, q10⟩ := hSw
            go_simp <;> with_reducible rfl
          simp only [Act.put, List.setIfInBounds_toArray]
          dsimp only [List.set_cons_succ, List.set_cons_zero]
          refine take1 (i := 3) (d := some 33) (v := undef) rfl rfl (by kernel_rfl) (by kernel_rfl) (by kernel_rfl) (fun _ _ _ h => h) (Or.inr ⟨by rfl, rfl⟩) (by assumption) ?_
          simp only [Act.put, List.setIfInBounds_toArray]
          dsimp only [List.set_cons_succ, List.set_cons_zero]
          refine take1 (i := 4) (d := some 34) (v := undef) rfl rfl (by kernel_rfl) (by kernel_rfl) (by kernel_rfl) (fun _ _ _ h => h) (Or.inr ⟨by rfl, rfl⟩) (by assumption) ?_
          simp only [Act.put, List.setIfInBounds_toArray]
          dsimp only [List.set_cons_succ, List.set_cons_zero]
          refine take1 (i := 5) (d := some 35) (v := undef) rfl rfl (by kernel_rfl) (by kernel_rfl) (by kernel_rfl) (fun _ _ _ h => h) (Or.inr ⟨by rfl, rfl⟩) (by assumption) ?_
          simp only [Act.put, List.setIfInBounds_toArray]
          dsimp only [List.set_cons_succ, List.set_cons_zero]
          refine take1 (i := 6) (d := some 36) (v := undef) rfl rfl (by kernel_rfl) (by kernel_rfl) (by kernel_rfl) (fun _ _ _ h => h) (Or.inr ⟨by rfl, rfl⟩) (by assumption) ?_
          simp only [Act.put, List.setIfInBounds_toArray]
          dsimp only [List.set_cons_succ, List.set_cons_zero]
          refine take1 (i := 7) (d := some 37) (v := undef) rfl rfl (by kernel_rfl) (by kernel_rfl) (by kernel_rfl) (fun _ _ _ h => h) (Or.inr ⟨by rfl, rfl⟩) (by assumption) ?_
          simp only [Act.put, List.setIfInBounds_toArray]
          dsimp only [List.set_cons_succ, List.set_cons_zero]
          refine take1 (i := 8) (d := some 38) (v := undef) rfl rfl (by kernel_rfl) (by kernel_rfl) (by kernel_rfl) (fun _ _ _ h => h) (Or.inr ⟨by rfl, rfl⟩) (by assumption) ?_
          simp only [Act.put, List.setIfInBounds_toArray]
          dsimp only [List.set_cons_succ, List.set_cons_zero]
          refine take1 (i := 9) (d := some 39) (v := undef) rfl rfl (by kernel_rfl) (by kernel_rfl) (by kernel_rfl) (fun _ _ _ h => h) (Or.inr ⟨by rfl, rfl⟩) (by assumption) ?_
          simp only [Act.put, List.setIfInBounds_toArray]
          dsimp only [List.set_cons_succ, List.set_cons_zero]
          refine take1 (i := 10) (d := some 40) (v := undef) rfl rfl (by kernel_rfl) (by kernel_rfl) (by kernel_rfl) (fun _ _ _ h => h) (Or.inr ⟨by rfl, rfl⟩) (by assumption) ?_
          simp only [Act.put, List.setIfInBounds_toArray]
          dsimp only [List.set_cons_succ, List.set_cons_zero]
          refine take1 (i := 11) (d := some 41) (v := undef) rfl rfl (by kernel_rfl) (by kernel_rfl) (by kernel_rfl) (fun _ _ _ h => h) (Or.inr ⟨by rfl, rfl⟩) (by assumption) ?_
          simp only [Act.put, List.setIfInBounds_toArray]
          dsimp only [List.set_cons_succ, List.set_cons_zero]
          refine take1 (i := 12) (d := some 42) (v := ?_) rfl rfl (by kernel_rfl) (by kernel_rfl) (by kernel_rfl) (fun _ _ _ h => h) (Or.inl ⟨by rfl, ?_⟩) (by assumption) ?_
          rotate_left 1
          · intro w hSw
            obtain ⟨q0, q1, q2, q3, q4, q5, q6, q7, q8, q9, q10⟩ := hSw
            go_simp <;> with_reducible rfl
          simp only [Act.put, List.setIfInBounds_toArray]
          dsimp only [List.set_cons_succ, List.set_cons_zero]
          refine wpAnyH_done (by kernel_rfl) ?_ _
          go_wp2_with fail
          go_roundw
          case rel => exact ⟨0 + 1, by go_num, by omega, HFF, HBXW.out _ BD.out⟩
          case measure => simp [intOf]; omega
        · obtain ⟨k, rfl⟩ : ∃ k, j = k + 1 := ⟨j - 1, by omega⟩
          obtain ⟨hk, hT1⟩ := HP1.out k rfl
          have e1 := (HDD.out k hk).1
          generalize L[k].t = p1 at e1 hT1
          subst hT1
          replace e1 := atCell HBW.out e1 (by omega)
          have h00 : decide ((0 : Int) < ((k + 1 : Nat) : Int)) = true := decide_eq_true (by omega)
          have h00' : decide ((0 : Int) < (k : Int) + 1) = true := decide_eq_true (by omega)
          have hsub : IntKind.i64.wrap (((k + 1 : Nat) : Int) - 1) = (k : Int) := by rw [IntKind.wrap_i64]; omega
          have hsub3 : IntKind.i64.wrap (k : Int) = (k : Int) := by rw [IntKind.wrap_i64]; omega
          have hsub2 : IntKind.i64.wrap ((k : Int) + 1 - 1) = (k : Int) := by rw [IntKind.wrap_i64]; omega
          have i2 : (0 : Int) ≤ (k : Int) ∧ (k : Int) < (L.length : Int) := by omega
          by_cases hpx : x.t < T1
          · have hgt : decide (x.t < T1) = true := decide_eq_true hpx
            have HFF : Hid (ans = false) := by unfold Hid; rw [HJT.out, HST.out, hb0, decide_eq_false (show ¬ T1 ≤ x.t by omega)]; rfl
            have HSF : Hid (∀ y, Below X.heap.size X y → SlIn wr.heap.size x b2 (o2 + k * 9) T1 (o2 + k * 9) T1 y) := fun y hy => HSG.out y hy _ _ _ _ e1 e1
            clear hx hpx
            refine wp_region_held_drew (S := SlIn wr.heap.size x b2 (o2 + k * 9) T1 (o2 + k * 9) T1) (by kernel_rfl) (HSF.out _ (Below.refl _ _).drew) (fun hHeld => ?_)
            have BD : Hid (Below X.heap.size X X.drew) := (Below.refl _ _).drew
            generalize X.drew = D at BD hHeld ⊢
            refine take1 (i := 0) (d := some 12) (v := ?_) rfl rfl (by kernel_rfl) (by kernel_rfl) (by kernel_rfl) (fun _ _ _ h => h) (Or.inl ⟨by rfl, ?_⟩) (by assumption) ?_
            rotate_left 1
            · intro w hSw
              obtain ⟨q0, q1, q2, q3, q4, q5, q6, q7, q8, q9, q10⟩ := hSw
              go_simp <;> with_reducible rfl
            simp only [Act.put, List.setIfInBounds_toArray]
            dsimp only [List.set_cons_succ, List.set_cons_zero]
            refine wpAnyH_ready (rs := [1]) (by kernel_rfl) (by simp) ?_
            refine AllReadyH.cons rfl (fun KK hKK => ?_) AllReadyH.nil
            go_simp
            refine (implSlotOk_any x _).mono ?_
            rintro e9 w9 ⟨rfl, b9⟩
            replace BD := Hid.intro (BD.out.trans (b9.mono BD.out.size))
            clear b9
            simp only [hb0]
            go_simp
            refine hKK.out _ _ (HSF.out _ BD.out) (fun hHeld2 => ?_)
            clear hKK KK hHeld
            have hHeld := hHeld2
            clear hHeld2
            refine take1 (i := 2) (d := some 14) (v := ?_) rfl rfl (by kernel_rfl) (by kernel_rfl) (by kernel_rfl) (fun _ _ _ h => h) (Or.inl ⟨by rfl, ?_⟩) (by assumption) ?_
            rotate_left 1
            · intro w hSw
              obtain ⟨q0, q1, q2, q3, q4, q5, q6, q7, q8, q9, q10⟩ := hSw
              go_simp <;> with_reducible rfl
            simp only [Act.put, List.setIfInBounds_toArray]
            dsimp only [List.set_cons_succ, List.set_cons_zero]
            refine take1 (i := 3) (d := some 15) (v := ?_) rfl rfl (by kernel_rfl) (by kernel_rfl) (by kernel_rfl) (fun _ _ _ h => h) (Or.inl ⟨by rfl, ?_⟩) (by assumption) ?_
            rotate_left 1
            · intro w hSw
              obtain ⟨q0, q1, q2, q3, q4, q5, q6, q7, q8, q9, q10⟩ := hSw
              go_simp <;> with_reducible rfl
            simp only [Act.put, List.setIfInBounds_toArray]
            dsimp only [List.set_cons_succ, List.set_cons_zero]
            refine take1 (i := 4) (d := some 16) (v := ?_) rfl rfl (by kernel_rfl) (by kernel_rfl) (by kernel_rfl) (fun _ _ _ h => h) (Or.inl ⟨by rfl, ?_⟩) (by assumption) ?_
            rotate_left 1
            · intro w hSw
              obtain ⟨q0, q1, q2, q3, q4, q5, q6, q7, q8, q9, q10⟩ := hSw
              go_simp <;> with_reducible rfl
            simp only [Act.put, List.setIfInBounds_toArray]
            dsimp only [List.set_cons_succ, List.set_cons_zero]
            refine take1 (i := 5) (d := some 17) (v := ?_) rfl rfl (by kernel_rfl) (by kernel_rfl) (by kernel_rfl) (fun _ _ _ h => h) (Or.inl ⟨by rfl, ?_⟩) (by assumption) ?_
            rotate_left 1
            · intro w hSw
              obtain ⟨q0, q1, q2, q3, q4, q5, q6, q7, q8, q9, q10⟩ := hSw
              go_simp <;> with_reducible rfl
            simp only [Act.put, List.setIfInBounds_toArray]
            dsimp only [List.set_cons_succ, List.set_cons_zero]
            first | simp only [h00] | simp only [h00'] | skip
            refine take1 (i := 6) (d := some 18) (v := ?_) rfl rfl (by kernel_rfl) (by kernel_rfl) (by kernel_rfl) (fun _ _ _ h => h) (Or.inl ⟨by rfl, ?_⟩) (by assumption) ?_
            rotate_left 1
            · intro w hSw
              obtain ⟨q0, q1, q2, q3, q4, q5, q6, q7, q8, q9, q10⟩ := hSw
              go_simp <;> with_reducible rfl
            simp only [Act.put, List.setIfInBounds_toArray]
            dsimp only [List.set_cons_succ, List.set_cons_zero]
            refine take1 (i := 7) (d := some 19) (v := ?_) rfl rfl (by kernel_rfl) (by kernel_rfl) (by kernel_rfl) (fun _ _ _ h => h) (Or.inl ⟨by rfl, ?_⟩) (by assumption) ?_
            rotate_left 1
            · intro w hSw
              obtain ⟨q0, q1, q2, q3, q4, q5, q6, q7, q8, q9, q10⟩ := hSw
              go_simp <;> with_reducible rfl
            simp only [Act.put, List.setIfInBounds_toArray]
            dsimp only [List.set_cons_succ, List.set_cons_zero]
            refine take1 (i := 8) (d := some 20) (v := ?_) rfl rfl (by kernel_rfl) (by kernel_rfl) (by kernel_rfl) (fun _ _ _ h => h) (Or.inl ⟨by rfl, ?_⟩) (by assumption) ?_
            rotate_left 1
            · intro w hSw
              obtain ⟨q0, q1, q2, q3, q4, q5, q6, q7, q8, q9, q10⟩ := hSw
              go_simp <;> with_reducible rfl
            simp only [Act.put, List.setIfInBounds_toArray]
            dsimp only [List.set_cons_succ, List.set_cons_zero]
            refine take1 (i := 9) (d := some 21) (v := ?_) rfl rfl (by kernel_rfl) (by kernel_rfl) (by kernel_rfl) (fun _ _ _ h => h) (Or.inl ⟨by rfl, ?_⟩) (by assumption) ?_
            rotate_left 1
            · intro w hSw
              obtain ⟨q0, q1, q2, q3, q4, q5, q6, q7, q8, q9, q10⟩ := hSw
              go_simp <;> with_reducible rfl
            simp only [Act.put, List.setIfInBounds_toArray]
            dsimp only [List.set_cons_succ, List.set_cons_zero]
            refine take1 (i := 10) (d := some 22) (v := ?_) rfl rfl (by kernel_rfl) (by kernel_rfl) (by kernel_rfl) (fun _ _ _ h => h) (Or.inl ⟨by rfl, ?_⟩) (by assumption) ?_
            rotate_left 1
            · intro w hSw
              obtain ⟨q0, q1, q2, q3, q4, q5, q6, q7, q8, q9, q10⟩ := hSw
              go_simp <;> with_reducible rfl
            simp only [Act.put, List.setIfInBounds_toArray]
            dsimp only [List.set_cons_succ, List.set_cons_zero]
            refine take1 (i := 11) (d := some 23) (v := ?_) rfl rfl (by kernel_rfl) (by kernel_rfl) (by kernel_rfl) (fun _ _ _ h => h) (Or.inl ⟨by rfl, ?_⟩) (by assumption) ?_
            rotate_left 1
            · intro w hSw
              obtain ⟨q0, q1, q2, q3, q4, q5, q6, q7, q8, q9, q10⟩ := hSw
              go_simp <;> with_reducible rfl
            simp only [Act.put, List.setIfInBounds_toArray]
            dsimp only [List.set_cons_succ, List.set_cons_zero]
            first | simp only [hsub3] | simp only [hsub] | simp only [hsub2] | skip
            refine take1 (i := 12) (d := some 24) (v := ?_) rfl rfl (by kernel_rfl) (by kernel_rfl) (by kernel_rfl) (fun _ _ _ h => h) (Or.inl ⟨by rfl, ?_⟩) (by assumption) ?_
            rotate_left 1
            · intro w hSw
              obtain ⟨q0, q1, q2, q3, q4, q5, q6, q7, q8, q9, q10⟩ := hSw
              go_simp <;> with_reducible rfl
            simp only [Act.put, List.setIfInBounds_toArray]
            dsimp only [List.set_cons_succ, List.set_cons_zero]
            refine take1 (i := 13) (d := some 25) (v := ?_) rfl rfl (by kernel_rfl) (by kernel_rfl) (by kernel_rfl) (fun _ _ _ h => h) (Or.inl ⟨by rfl, ?_⟩) (by assumption) ?_
            rotate_left 1
            · intro w hSw
              obtain ⟨q0, q1, q2, q3, q4, q5, q6, q7, q8, q9, q10⟩ := hSw
              go_simp <;> with_reducible rfl
            simp only [Act.put, List.setIfInBounds_toArray]
            dsimp only [List.set_cons_succ, List.set_cons_zero]
            refine take1 (i := 14) (d := some 26) (v := ?_) rfl rfl (by kernel_rfl) (by kernel_rfl) (by kernel_rfl) (fun _ _ _ h => h) (Or.inl ⟨by rfl, ?_⟩) (by assumption) ?_
            rotate_left 1
            · intro w hSw
              obtain ⟨q0, q1, q2, q3, q4, q5, q6, q7, q8, q9, q10⟩ := hSw
              go_simp <;> with_reducible rfl
            simp only [Act.put, List.setIfInBounds_toArray]
            dsimp only [List.set_cons_succ, List.set_cons_zero]
            refine take1 (i := 15) (d := some 27) (v := ?_) rfl rfl (by kernel_rfl) (by kernel_rfl) (by kernel_rfl) (fun _ _ _ h => h) (Or.inl ⟨by rfl, ?_⟩) (by assumption) ?_
            rotate_left 1
            · intro w hSw
              obtain ⟨q0, q1, q2, q3, q4, q5, q6, q7, q8, q9, q10⟩ := hSw
              go_simp <;> with_reducible rfl
            simp only [Act.put, List.setIfInBounds_toArray]
            dsimp only [List.set_cons_succ, List.set_cons_zero]
            try simp only [hgt]
            refine take1 (i := 16) (d := some 28) (v := ?_) rfl rfl (by kernel_rfl) (by kernel_rfl) (by kernel_rfl) (fun _ _ _ h => h) (Or.inl ⟨by rfl, ?_⟩) (by assumption) ?_
            rotate_left 1
            · intro w hSw
              obtain ⟨q0, q1, q2, q3, q4, q5, q6, q7, q8, q9, q10⟩ := hSw
              go_simp <;> with_reducible rfl
            simp only [Act.put, List.setIfInBounds_toArray]
            dsimp only [List.set_cons_succ, List.set_cons_zero]
            refine take1 (i := 17) (d := some 29) (v := ?_) rfl rfl (by kernel_rfl) (by kernel_rfl) (by kernel_rfl) (fun _ _ _ h => h) (Or.inl ⟨by rfl, ?_⟩) (by assumption) ?_
            rotate_left 1
            · intro w hSw
              obtain ⟨q0, q1, q2, q3, q4, q5, q6, q7, q8, q9, q10⟩ := hSw
              go_simp <;> with_reducible rfl
            simp only [Act.put, List.setIfInBounds_toArray]
            dsimp only [List.set_cons_succ, List.set_cons_zero]
            refine wpAnyH_done (by kernel_rfl) ?_ _
            go_wp2_with fail
            go_ret
            exact ⟨ret_bool HFF.out.symm, HBXW.out _ BD.out⟩
          · have hgt : decide (x.t < T1) = false := decide_eq_false hpx
            rcases Nat.eq_zero_or_pos k with hk0 | hk0
            · have HSF : Hid (∀ y, Below X.heap.size X y → SlIn wr.heap.size x b2 (o2 + k * 9) T1 (o2 + k * 9) T1 y) := fun y hy => HSG.out y hy _ _ _ _ e1 e1
              have h22 : decide ((2 : Int) ≤ ((k + 1 : Nat) : Int)) = false := decide_eq_false (by omega)
              have h22' : decide ((2 : Int) ≤ (k : Int) + 1) = false := decide_eq_false (by omega)
              have HFF : Hid (ans = frFrom (tAt L (k + 1 + 1) 1) (tAt L (k + 1 + 1) 2) (L.drop (k + 1 + 1))) := by
                unfold Hid
                rw [HJT.out, HST.out, hb0, HP2z.out (by omega), decide_eq_true (show T1 ≤ x.t by omega), decide_eq_false (show ¬ x.t = (-1 : Int) by omega)]; rfl
              clear hx hpx hk0
              refine wp_region_held_drew (S := SlIn wr.heap.size x b2 (o2 + k * 9) T1 (o2 + k * 9) T1) (by kernel_rfl) (HSF.out _ (Below.refl _ _).drew) (fun hHeld => ?_)
              have BD : Hid (Below X.heap.size X X.drew) := (Below.refl _ _).drew
              generalize X.drew = D at BD hHeld ⊢
              refine take1 (i := 0) (d := some 12) (v := ?_) rfl rfl (by kernel_rfl) (by kernel_rfl) (by kernel_rfl) (fun _ _ _ h => h) (Or.inl ⟨by rfl, ?_⟩) (by assumption) ?_
              rotate_left 1
              · intro w hSw
                obtain ⟨q0, q1, q2, q3, q4, q5, q6, q7, q8, q9, q10⟩ := hSw
                go_simp <;> with_reducible rfl
              simp only [Act.put, List.setIfInBounds_toArray]
              dsimp only [List.set_cons_succ, List.set_cons_zero]
              refine wpAnyH_ready (rs := [1]) (by kernel_rfl) (by simp) ?_
              refine AllReadyH.cons rfl (fun KK hKK => ?_) AllReadyH.nil
              go_simp
              refine (implSlotOk_any x _).mono ?_
              rintro e9 w9 ⟨rfl, b9⟩
              replace BD := Hid.intro (BD.out.trans (b9.mono BD.out.size))
              clear b9
              simp only [hb0]
              go_simp
              refine hKK.out _ _ (HSF.out _ BD.out) (fun hHeld2 => ?_)
              clear hKK KK hHeld
              have hHeld := hHeld2
              clear hHeld2
              refine take1 (i := 2) (d := some 14) (v := ?_) rfl rfl (by kernel_rfl) (by kernel_rfl) (by kernel_rfl) (fun _ _ _ h => h) (Or.inl ⟨by rfl, ?_⟩) (by assumption) ?_
              rotate_left 1
              · intro w hSw
                obtain ⟨q0, q1, q2, q3, q4, q5, q6, q7, q8, q9, q10⟩ := hSw
                go_simp <;> with_reducible rfl
              simp only [Act.put, List.setIfInBounds_toArray]
              dsimp only [List.set_cons_succ, List.set_cons_zero]
              refine take1 (i := 3) (d := some 15) (v := ?_) rfl rfl (by kernel_rfl) (by kernel_rfl) (by kernel_rfl) (fun _ _ _ h => h) (Or.inl ⟨by rfl, ?_⟩) (by assumption) ?_
              rotate_left 1
              · intro w hSw
                obtain ⟨q0, q1, q2, q3, q4, q5, q6, q7, q8, q9, q10⟩ := hSw
                go_simp <;> with_reducible rfl
              simp only [Act.put, List.setIfInBounds_toArray]
              dsimp only [List.set_cons_succ, List.set_cons_zero]
              refine take1 (i := 4) (d := some 16) (v := ?_) rfl rfl (by kernel_rfl) (by kernel_rfl) (by kernel_rfl) (fun _ _ _ h => h) (Or.inl ⟨by rfl, ?_⟩) (by assumption) ?_
              rotate_left 1
              · intro w hSw
                obtain ⟨q0, q1, q2, q3, q4, q5, q6, q7, q8, q9, q10⟩ := hSw
                go_simp <;> with_reducible rfl
              simp only [Act.put, List.setIfInBounds_toArray]
              dsimp only [List.set_cons_succ, List.set_cons_zero]
              refine take1 (i := 5) (d := some 17) (v := ?_) rfl rfl (by kernel_rfl) (by kernel_rfl) (by kernel_rfl) (fun _ _ _ h => h) (Or.inl ⟨by rfl, ?_⟩) (by assumption) ?_
              rotate_left 1
              · intro w hSw
                obtain ⟨q0, q1, q2, q3, q4, q5, q6, q7, q8, q9, q10⟩ := hSw
                go_simp <;> with_reducible rfl
              simp only [Act.put, List.setIfInBounds_toArray]
              dsimp only [List.set_cons_succ, List.set_cons_zero]
              first | simp only [h00] | simp only [h00'] | skip
              refine take1 (i := 6) (d := some 18) (v := ?_) rfl rfl (by kernel_rfl) (by kernel_rfl) (by kernel_rfl) (fun _ _ _ h => h) (Or.inl ⟨by rfl, ?_⟩) (by assumption) ?_
              rotate_left 1
              · intro w hSw
                obtain ⟨q0, q1, q2, q3, q4, q5, q6, q7, q8, q9, q10⟩ := hSw
                go_simp <;> with_reducible rfl
              simp only [Act.put, List.setIfInBounds_toArray]
              dsimp only [List.set_cons_succ, List.set_cons_zero]
              refine take1 (i := 7) (d := some 19) (v := ?_) rfl rfl (by kernel_rfl) (by kernel_rfl) (by kernel_rfl) (fun _ _ _ h => h) (Or.inl ⟨by rfl, ?_⟩) (by assumption) ?_
              rotate_left 1
              · intro w hSw
                obtain ⟨q0, q1, q2, q3, q4, q5, q6, q7, q8, q9, q10⟩ := hSw
                go_simp <;> with_reducible rfl
              simp only [Act.put, List.setIfInBounds_toArray]
              dsimp only [List.set_cons_succ, List.set_cons_zero]
              refine take1 (i := 8) (d := some 20) (v := ?_) rfl rfl (by kernel_rfl) (by kernel_rfl) (by kernel_rfl) (fun _ _ _ h => h) (Or.inl ⟨by rfl, ?_⟩) (by assumption) ?_
              rotate_left 1
              · intro w hSw
                obtain ⟨q0, q1, q2, q3, q4, q5, q6, q7, q8, q9, q10⟩ := hSw
                go_simp <;> with_reducible rfl
              simp only [Act.put, List.setIfInBounds_toArray]
              dsimp only [List.set_cons_succ, List.set_cons_zero]
              refine take1 (i := 9) (d := some 21) (v := ?_) rfl rfl (by kernel_rfl) (by kernel_rfl) (by kernel_rfl) (fun _ _ _ h => h) (Or.inl ⟨by rfl, ?_⟩) (by assumption) ?_
              rotate_left 1
              · intro w hSw
                obtain ⟨q0, q1, q2, q3, q4, q5, q6, q7, q8, q9, q10⟩ := hSw
                go_simp <;> with_reducible rfl
              simp only [Act.put, List.setIfInBounds_toArray]
              dsimp only [List.set_cons_succ, List.set_cons_zero]
              refine take1 (i := 10) (d := some 22) (v := ?_) rfl rfl (by kernel_rfl) (by kernel_rfl) (by kernel_rfl) (fun _ _ _ h => h) (Or.inl ⟨by rfl, ?_⟩) (by assumption) ?_
              rotate_left 1
              · intro w hSw
                obtain ⟨q0, q1, q2, q3, q4, q5, q6, q7, q8, q9, q10⟩ := hSw
                go_simp <;> with_reducible rfl
              simp only [Act.put, List.setIfInBounds_toArray]
              dsimp only [List.set_cons_succ, List.set_cons_zero]
              refine take1 (i := 11) (d := some 23) (v := ?_) rfl rfl (by kernel_rfl) (by kernel_rfl) (by kernel_rfl) (fun _ _ _ h => h) (Or.inl ⟨by rfl, ?_⟩) (by assumption) ?_
              rotate_left 1
              · intro w hSw
                obtain ⟨q0, q1, q2, q3, q4, q5, q6, q7, q8, q9, q10⟩ := hSw
                go_simp <;> with_reducible rfl
              simp only [Act.put, List.setIfInBounds_toArray]
              dsimp only [List.set_cons_succ, List.set_cons_zero]
              first | simp only [hsub3] | simp only [hsub] | simp only [hsub2] | skip
              refine take1 (i := 12) (d := some 24) (v := ?_) rfl rfl (by kernel_rfl) (by kernel_rfl) (by kernel_rfl) (fun _ _ _ h => h) (Or.inl ⟨by rfl, ?_⟩) (by assumption) ?_
              rotate_left 1
              · intro w hSw
                obtain ⟨q0, q1, q2, q3, q4, q5, q6, q7, q8, q9, q10⟩ := hSw
                go_simp <;> with_reducible rfl
              simp only [Act.put, List.setIfInBounds_toArray]
              dsimp only [List.set_cons_succ, List.set_cons_zero]
              refine take1 (i := 13) (d := some 25) (v := ?_) rfl rfl (by kernel_rfl) (by kernel_rfl) (by kernel_rfl) (fun _ _ _ h => h) (Or.inl ⟨by rfl, ?_⟩) (by assumption) ?_
              rotate_left 1
              · intro w hSw
                obtain ⟨q0, q1, q2, q3, q4, q5, q6, q7, q8, q9, q10⟩ := hSw
                go_simp <;> with_reducible rfl
              simp only [Act.put, List.setIfInBounds_toArray]
              dsimp only [List.set_cons_succ, List.set_cons_zero]
              refine take1 (i := 14) (d := some 26) (v := ?_) rfl rfl (by kernel_rfl) (by kernel_rfl) (by kernel_rfl) (fun _ _ _ h => h) (Or.inl ⟨by rfl, ?_⟩) (by assumption) ?_
              rotate_left 1
              · intro w hSw
                obtain ⟨q0, q1, q2, q3, q4, q5, q6, q7, q8, q9, q10⟩ := hSw
                go_simp <;> with_reducible rfl
              simp only [Act.put, List.setIfInBounds_toArray]
              dsimp only [List.set_cons_succ, List.set_cons_zero]
              refine take1 (i := 15) (d := some 27) (v := ?_) rfl rfl (by kernel_rfl) (by kernel_rfl) (by kernel_rfl) (fun _ _ _ h => h) (Or.inl ⟨by rfl, ?_⟩) (by assumption) ?_
              rotate_left 1
              · intro w hSw
                obtain ⟨q0, q1, q2, q3, q4, q5, q6, q7, q8, q9, q10⟩ := hSw
                go_simp <;> with_reducible rfl
              simp only [Act.put, List.setIfInBounds_toArray]
              dsimp only [List.set_cons_succ, List.set_cons_zero]
              try simp only [hgt]
              refine take1 (i := 16) (d := some 28) (v := ?_) rfl rfl (by kernel_rfl) (by kernel_rfl) (by kernel_rfl) (fun _ _ _ h => h) (Or.inl ⟨by rfl, ?_⟩) (by assumption) ?_
              rotate_left 1
              · intro w hSw
                obtain ⟨q0, q1, q2, q3, q4, q5, q6, q7, q8, q9, q10⟩ := hSw
                go_simp <;> with_reducible rfl
              simp only [Act.put, List.setIfInBounds_toArray]
              dsimp only [List.set_cons_succ, List.set_cons_zero]
              refine take1 (i := 17) (d := some 29) (v := ?_) rfl rfl (by kernel_rfl) (by kernel_rfl) (by kernel_rfl) (fun _ _ _ h => h) (Or.inl ⟨by rfl, ?_⟩) (by assumption) ?_
              rotate_left 1
              · intro w hSw
                obtain ⟨q0, q1, q2, q3, q4, q5, q6, q7, q8, q9, q10⟩ := hSw
                go_simp <;> with_reducible rfl
              simp only [Act.put, List.setIfInBounds_toArray]
              dsimp only [List.set_cons_succ, List.set_cons_zero]
              refine wpAnyH_done (by kernel_rfl) ?_ _
              go_upto_region 6 with fail
              refine wp_region_held_drew (S := SlIn wr.heap.size x b2 (o2 + k * 9) T1 (o2 + k * 9) T1) (by kernel_rfl) (HSF.out _ BD.out.drew) (fun hHeld => ?_)
              replace BD : Hid (Below X.heap.size X _) := BD.out.drew
              refine take1 (i := 0) (d := some 30) (v := ?_) rfl rfl (by kernel_rfl) (by kernel_rfl) (by kernel_rfl) (fun _ _ _ h => h) (Or.inl ⟨by rfl, ?_⟩) (by assumption) ?_
              rotate_left 1
              · intro w hSw
                obtain ⟨q0, q1, q2, q3, q4, q5, q6, q7, q8, q9, q10⟩ := hSw
                go_simp <;> with_reducible rfl
              simp only [Act.put, List.setIfInBounds_toArray]
              dsimp only [List.set_cons_succ, List.set_cons_zero]
              refine take1 (i := 1) (d := some 31) (v := ?_) rfl rfl (by kernel_rfl) (by kernel_rfl) (by kernel_rfl) (fun _ _ _ h => h) (Or.inl ⟨by rfl, ?_⟩) (by assumption) ?_
              rotate_left 1
              · intro w hSw
                obtain ⟨q0, q1, q2, q3, q4, q5, q6, q7, q8, q9, q10⟩ := hSw
                go_simp <;> with_reducible rfl
              simp only [Act.put, List.setIfInBounds_toArray]
              dsimp only [List.set_cons_succ, List.set_cons_zero]
              try simp only [h22]
              try simp only [h22']
              refine take1 (i := 2) (d := some 32) (v := ?_) rfl rfl (by kernel_rfl) (by kernel_rfl) (by kernel_rfl) (fun _ _ _ h => h) (Or.inl ⟨by rfl, ?_⟩) (by assumption) ?_
              rotate_left 1
              · intro w hSw
                obtain ⟨q0, q1, q2, q3, q4, q5, q6, q7, q8, q9, q10⟩ := hSw
                go_simp <;> with_reducible rfl
              simp only [Act.put, List.setIfInBounds_toArray]
              dsimp only [List.set_cons_succ, List.set_cons_zero]
              refine take1 (i := 3) (d := some 33) (v := undef) rfl rfl (by kernel_rfl) (by kernel_rfl) (by kernel_rfl) (fun _ _ _ h => h) (Or.inr ⟨by rfl, rfl⟩) (by assumption) ?_
              simp only [Act.put, List.setIfInBounds_toArray]
              dsimp only [List.set_cons_succ, List.set_cons_zero]
              refine take1 (i := 4) (d := some 34) (v := undef) rfl rfl (by kernel_rfl) (by kernel_rfl) (by kernel_rfl) (fun _ _ _ h => h) (Or.inr ⟨by rfl, rfl⟩) (by assumption) ?_
              simp only [Act.put, List.setIfInBounds_toArray]
              dsimp only [List.set_cons_succ, List.set_cons_zero]
              refine take1 (i := 5) (d := some 35) (v := undef) rfl rfl (by kernel_rfl) (by kernel_rfl) (by kernel_rfl) (fun _ _ _ h => h) (Or.inr ⟨by rfl, rfl⟩) (by assumption) ?_
              simp only [Act.put, List.setIfInBounds_toArray]
              dsimp only [List.set_cons_succ, List.set_cons_zero]
              refine take1 (i := 6) (d := some 36) (v := undef) rfl rfl (by kernel_rfl) (by kernel_rfl) (by kernel_rfl) (fun _ _ _ h => h) (Or.inr ⟨by rfl, rfl⟩) (by assumption) ?_
              simp only [Act.put, List.setIfInBounds_toArray]
              dsimp only [List.set_cons_succ, List.set_cons_zero]
              refine take1 (i := 7) (d := some 37) (v := undef) rfl rfl (by kernel_rfl) (by kernel_rfl) (by kernel_rfl) (fun _ _ _ h => h) (Or.inr ⟨by rfl, rfl⟩) (by assumption) ?_
              simp only [Act.put, List.setIfInBounds_toArray]
              dsimp only [List.set_cons_succ, List.set_cons_zero]
              refine take1 (i := 8) (d := some 38) (v := undef) rfl rfl (by kernel_rfl) (by kernel_rfl) (by kernel_rfl) (fun _ _ _ h => h) (Or.inr ⟨by rfl, rfl⟩) (by assumption) ?_
              simp only [Act.put, List.setIfInBounds_toArray]
              dsimp only [List.set_cons_succ, List.set_cons_zero]
              refine take1 (i := 9) (d := some 39) (v := undef) rfl rfl (by kernel_rfl) (by kernel_rfl) (by kernel_rfl) (fun _ _ _ h => h) (Or.inr ⟨by rfl, rfl⟩) (by assumption) ?_
              simp only [Act.put, List.setIfInBounds_toArray]
              dsimp only [List.set_cons_succ, List.set_cons_zero]
              refine take1 (i := 10) (d := some 40) (v := undef) rfl rfl (by kernel_rfl) (by kernel_rfl) (by kernel_rfl) (fun _ _ _ h => h) (Or.inr ⟨by rfl, rfl⟩) (by assumption) ?_
              simp only [Act.put, List.setIfInBounds_toArray]
              dsimp only [List.set_cons_succ, List.set_cons_zero]
              refine take1 (i := 11) (d := some 41) (v := undef) rfl rfl (by kernel_rfl) (by kernel_rfl) (by kernel_rfl) (fun _ _ _ h => h) (Or.inr ⟨by rfl, rfl⟩) (by assumption) ?_
              simp only [Act.put, List.setIfInBounds_toArray]
              dsimp only [List.set_cons_succ, List.set_cons_zero]
              refine take1 (i := 12) (d := some 42) (v := ?_) rfl rfl (by kernel_rfl) (by kernel_rfl) (by kernel_rfl) (fun _ _ _ h => h) (Or.inl ⟨by rfl, ?_⟩) (by assumption) ?_
              rotate_left 1
              · intro w hSw
                obtain ⟨q0, q1, q2, q3, q4, q5, q6, q7, q8, q9, q10⟩ := hSw
                go_simp <;> with_reducible rfl
              simp only [Act.put, List.setIfInBounds_toArray]
              dsimp only [List.set_cons_succ, List.set_cons_zero]
              refine wpAnyH_done (by kernel_rfl) ?_ _
              go_wp2_with fail
              go_roundw
              case rel => exact ⟨k + 1 + 1, by go_num, by omega, HFF, HBXW.out _ BD.out⟩
              case measure => simp [intOf]; omega
            · obtain ⟨m, hkm⟩ : ∃ m, k = m + 1 := ⟨k - 1, by omega⟩
              obtain ⟨hm1, hT2⟩ := HP2.out m (by omega)
              have e2 := (HDD.out m hm1).1
              generalize L[m].t = p2 at e2 hT2
              subst hT2
              replace e2 := atCell HBW.out e2 (by omega)
              have h22 : decide ((2 : Int) ≤ ((k + 1 : Nat) : Int)) = true := decide_eq_true (by omega)
              have h22' : decide ((2 : Int) ≤ (k : Int) + 1) = true := decide_eq_true (by omega)
              have hsub4 : IntKind.i64.wrap (((k + 1 : Nat) : Int) - 2) = (m : Int) := by rw [IntKind.wrap_i64]; omega
              have hsub5 : IntKind.i64.wrap ((k : Int) + 1 - 2) = (m : Int) := by rw [IntKind.wrap_i64]; omega
              have hsub6 : IntKind.i64.wrap (m : Int) = (m : Int) := by rw [IntKind.wrap_i64]; omega
              have i3 : (0 : Int) ≤ (m : Int) ∧ (m : Int) < (L.length : Int) := by omega
              clear hkm hk0
              have HSF : Hid (∀ y, Below X.heap.size X y → SlIn wr.heap.size x b2 (o2 + k * 9) T1 (o2 + m * 9) T2 y) := fun y hy => HSG.out y hy _ _ _ _ e1 e2
              by_cases hq : x.t = T2
              · have hqq : (x.t == T2) = true := by simpa using hq
                have HFF : Hid (ans = false) := by unfold Hid; rw [HJT.out, HST.out, hb0, decide_eq_true (show T1 ≤ x.t by omega), decide_eq_true hq]; rfl
                clear hx hpx hq
                refine wp_region_held_drew (S := SlIn wr.heap.size x b2 (o2 + k * 9) T1 (o2 + m * 9) T2) (by kernel_rfl) (HSF.out _ (Below.refl _ _).drew) (fun hHeld => ?_)
                have BD : Hid (Below X.heap.size X X.drew) := (Below.refl _ _).drew
                generalize X.drew = D at BD hHeld ⊢
                refine take1 (i := 0) (d := some 12) (v := ?_) rfl rfl (by kernel_rfl) (by kernel_rfl) (by kernel_rfl) (fun _ _ _ h => h) (Or.inl ⟨by rfl, ?_⟩) (by assumption) ?_
                rotate_left 1
                · intro w hSw
                  obtain ⟨q0, q1, q2, q3, q4, q5, q6, q7, q8, q9, q10⟩ := hSw
                  go_simp <;> with_reducible rfl
                simp only [Act.put, List.setIfInBounds_toArray]
                dsimp only [List.set_cons_succ, List.set_cons_zero]
                refine wpAnyH_ready (rs := [1]) (by kernel_rfl) (by simp) ?_
                refine AllReadyH.cons rfl (fun KK hKK => ?_) AllReadyH.nil
                go_simp
                refine (implSlotOk_any x _).mono ?_
                rintro e9 w9 ⟨rfl, b9⟩
                replace BD := Hid.intro (BD.out.trans (b9.mono BD.out.size))
                clear b9
                simp only [hb0]
                go_simp
                refine hKK.out _ _ (HSF.out _ BD.out) (fun hHeld2 => ?_)
                clear hKK KK hHeld
                have hHeld := hHeld2
                clear hHeld2
                refine take1 (i := 2) (d := some 14) (v := ?_) rfl rfl (by kernel_rfl) (by kernel_rfl) (by kernel_rfl) (fun _ _ _ h => h) (Or.inl ⟨by rfl, ?_⟩) (by assumption) ?_
                rotate_left 1
                · intro w hSw
                  obtain ⟨q0, q1, q2, q3, q4, q5, q6, q7, q8, q9, q10⟩ := hSw
                  go_simp <;> with_reducible rfl
                simp only [Act.put, List.setIfInBounds_toArray]
                dsimp only [List.set_cons_succ, List.set_cons_zero]
                refine take1 (i := 3) (d := some 15) (v := ?_) rfl rfl (by kernel_rfl) (by kernel_rfl) (by kernel_rfl) (fun _ _ _ h => h) (Or.inl ⟨by rfl, ?_⟩) (by assumption) ?_
                rotate_left 1
                · intro w hSw
                  obtain ⟨q0, q1, q2, q3, q4, q5, q6, q7, q8, q9, q10⟩ := hSw
                  go_simp <;> with_reducible rfl
                simp only [Act.put, List.setIfInBounds_toArray]
                dsimp only [List.set_cons_succ, List.set_cons_zero]
                refine take1 (i := 4) (d := some 16) (v := ?_) rfl rfl (by kernel_rfl) (by kernel_rfl) (by kernel_rfl) (fun _ _ _ h => h) (Or.inl ⟨by rfl, ?_⟩) (by assumption) ?_
                rotate_left 1
                · intro w hSw
                  obtain ⟨q0, q1, q2, q3, q4, q5, q6, q7, q8, q9, q10⟩ := hSw
                  go_simp <;> with_reducible rfl
                simp only [Act.put, List.setIfInBounds_toArray]
                dsimp only [List.set_cons_succ, List.set_cons_zero]
                refine take1 (i := 5) (d := some 17) (v := ?_) rfl rfl (by kernel_rfl) (by kernel_rfl) (by kernel_rfl) (fun _ _ _ h => h) (Or.inl ⟨by rfl, ?_⟩) (by assumption) ?_
                rotate_left 1
                · intro w hSw
                  obtain ⟨q0, q1, q2, q3, q4, q5, q6, q7, q8, q9, q10⟩ := hSw
                  go_simp <;> with_reducible rfl
                simp only [Act.put, List.setIfInBounds_toArray]
                dsimp only [List.set_cons_succ, List.set_cons_zero]
                first | simp only [h00] | simp only [h00'] | skip
                refine take1 (i := 6) (d := some 18) (v := ?_) rfl rfl (by kernel_rfl) (by kernel_rfl) (by kernel_rfl) (fun _ _ _ h => h) (Or.inl ⟨by rfl, ?_⟩) (by assumption) ?_
                rotate_left 1
                · intro w hSw
                  obtain ⟨q0, q1, q2, q3, q4, q5, q6, q7, q8, q9, q10⟩ := hSw
                  go_simp <;> with_reducible rfl
                simp only [Act.put, List.setIfInBounds_toArray]
                dsimp only [List.set_cons_succ, List.set_cons_zero]
                refine take1 (i := 7) (d := some 19) (v := ?_) rfl rfl (by kernel_rfl) (by kernel_rfl) (by kernel_rfl) (fun _ _ _ h => h) (Or.inl ⟨by rfl, ?_⟩) (by assumption) ?_
                rotate_left 1
                · intro w hSw
                  obtain ⟨q0, q1, q2, q3, q4, q5, q6, q7, q8, q9, q10⟩ := hSw
                  go_simp <;> with_reducible rfl
                simp only [Act.put, List.setIfInBounds_toArray]
                dsimp only [List.set_cons_succ, List.set_cons_zero]
                refine take1 (i := 8) (d := some 20) (v := ?_) rfl rfl (by kernel_rfl) (by kernel_rfl) (by kernel_rfl) (fun _ _ _ h => h) (Or.inl ⟨by rfl, ?_⟩) (by assumption) ?_
                rotate_left 1
                · intro w hSw
                  obtain ⟨q0, q1, q2, q3, q4, q5, q6, q7, q8, q9, q10⟩ := hSw
                  go_simp <;> with_reducible rfl
                simp only [Act.put, List.setIfInBounds_toArray]
                dsimp only [List.set_cons_succ, List.set_cons_zero]
                refine take1 (i := 9) (d := some 21) (v := ?_) rfl rfl (by kernel_rfl) (by kernel_rfl) (by kernel_rfl) (fun _ _ _ h => h) (Or.inl ⟨by rfl, ?_⟩) (by assumption) ?_
                rotate_left 1
                · intro w hSw
                  obtain ⟨q0, q1, q2, q3, q4, q5, q6, q7, q8, q9, q10⟩ := hSw
                  go_simp <;> with_reducible rfl
                simp only [Act.put, List.setIfInBounds_toArray]
                dsimp only [List.set_cons_succ, List.set_cons_zero]
                refine take1 (i := 10) (d := some 22) (v := ?_) rfl rfl (by kernel_rfl) (by kernel_rfl) (by kernel_rfl) (fun _ _ _ h => h) (Or.inl ⟨by rfl, ?_⟩) (by assumption) ?_
                rotate_left 1
                · intro w hSw
                  obtain ⟨q0, q1, q2, q3, q4, q5, q6, q7, q8, q9, q10⟩ := hSw
                  go_simp <;> with_reducible rfl
                simp only [Act.put, List.setIfInBounds_toArray]
                dsimp only [List.set_cons_succ, List.set_cons_zero]
                refine take1 (i := 11) (d := some 23) (v := ?_) rfl rfl (by kernel_rfl) (by kernel_rfl) (by kernel_rfl) (fun _ _ _ h => h) (Or.inl ⟨by rfl, ?_⟩) (by assumption) ?_
                rotate_left 1
                · intro w hSw
                  obtain ⟨q0, q1, q2, q3, q4, q5, q6, q7, q8, q9, q10⟩ := hSw
                  go_simp <;> with_reducible rfl
                simp only [Act.put, List.setIfInBounds_toArray]
                dsimp only [List.set_cons_succ, List.set_cons_zero]
                first | simp only [hsub3] | simp only [hsub] | simp only [hsub2] | skip
                refine take1 (i := 12) (d := some 24) (v := ?_) rfl rfl (by kernel_rfl) (by kernel_rfl) (by kernel_rfl) (fun _ _ _ h => h) (Or.inl ⟨by rfl, ?_⟩) (by assumption) ?_
                rotate_left 1
                · intro w hSw
                  obtain ⟨q0, q1, q2, q3, q4, q5, q6, q7, q8, q9, q10⟩ := hSw
                  go_simp <;> with_reducible rfl
                simp only [Act.put, List.setIfInBounds_toArray]
                dsimp only [List.set_cons_succ, List.set_cons_zero]
                refine take1 (i := 13) (d := some 25) (v := ?_) rfl rfl (by kernel_rfl) (by kernel_rfl) (by kernel_rfl) (fun _ _ _ h => h) (Or.inl ⟨by rfl, ?_⟩) (by assumption) ?_
                rotate_left 1
                · intro w hSw
                  obtain ⟨q0, q1, q2, q3, q4, q5, q6, q7, q8, q9, q10⟩ := hSw
                  go_simp <;> with_reducible rfl
                simp only [Act.put, List.setIfInBounds_toArray]
                dsimp only [List.set_cons_succ, List.set_cons_zero]
                refine take1 (i := 14) (d := some 26) (v := ?_) rfl rfl (by kernel_rfl) (by kernel_rfl) (by kernel_rfl) (fun _ _ _ h => h) (Or.inl ⟨by rfl, ?_⟩) (by assumption) ?_
                rotate_left 1
                · intro w hSw
                  obtain ⟨q0, q1, q2, q3, q4, q5, q6, q7, q8, q9, q10⟩ := hSw
                  go_simp <;> with_reducible rfl
                simp only [Act.put, List.setIfInBounds_toArray]
                dsimp only [List.set_cons_succ, List.set_cons_zero]
                refine take1 (i := 15) (d := some 27) (v := ?_) rfl rfl (by kernel_rfl) (by kernel_rfl) (by kernel_rfl) (fun _ _ _ h => h) (Or.inl ⟨by rfl, ?_⟩) (by assumption) ?_
                rotate_left 1
                · intro w hSw
                  obtain ⟨q0, q1, q2, q3, q4, q5, q6, q7, q8, q9, q10⟩ := hSw
                  go_simp <;> with_reducible rfl
                simp only [Act.put, List.setIfInBounds_toArray]
                dsimp only [List.set_cons_succ, List.set_cons_zero]
                try simp only [hgt]
                refine take1 (i := 16) (d := some 28) (v := ?_) rfl rfl (by kernel_rfl) (by kernel_rfl) (by kernel_rfl) (fun _ _ _ h => h) (Or.inl ⟨by rfl, ?_⟩) (by assumption) ?_
                rotate_left 1
                · intro w hSw
                  obtain ⟨q0, q1, q2, q3, q4, q5, q6, q7, q8, q9, q10⟩ := hSw
                  go_simp <;> with_reducible rfl
                simp only [Act.put, List.setIfInBounds_toArray]
                dsimp only [List.set_cons_succ, List.set_cons_zero]
                refine take1 (i := 17) (d := some 29) (v := ?_) rfl rfl (by kernel_rfl) (by kernel_rfl) (by kernel_rfl) (fun _ _ _ h => h) (Or.inl ⟨by rfl, ?_⟩) (by assumption) ?_
                rotate_left 1
                · intro w hSw
                  obtain ⟨q0, q1, q2, q3, q4, q5, q6, q7, q8, q9, q10⟩ := hSw
                  go_simp <;> with_reducible rfl
                simp only [Act.put, List.setIfInBounds_toArray]
                dsimp only [List.set_cons_succ, List.set_cons_zero]
                refine wpAnyH_done (by kernel_rfl) ?_ _
                go_upto_region 6 with fail
                refine wp_region_held_drew (S := SlIn wr.heap.size x b2 (o2 + k * 9) T1 (o2 + m * 9) T2) (by kernel_rfl) (HSF.out _ BD.out.drew) (fun hHeld => ?_)
                replace BD : Hid (Below X.heap.size X _) := BD.out.drew
                refine take1 (i := 0) (d := some 30) (v := ?_) rfl rfl (by kernel_rfl) (by kernel_rfl) (by kernel_rfl) (fun _ _ _ h => h) (Or.inl ⟨by rfl, ?_⟩) (by assumption) ?_
                rotate_left 1
                · intro w hSw
                  obtain ⟨q0, q1, q2, q3, q4, q5, q6, q7, q8, q9, q10⟩ := hSw
                  go_simp <;> with_reducible rfl
                simp only [Act.put, List.setIfInBounds_toArray]
                dsimp only [List.set_cons_succ, List.set_cons_zero]
                refine take1 (i := 1) (d := some 31) (v := ?_) rfl rfl (by kernel_rfl) (by kernel_rfl) (by kernel_rfl) (fun _ _ _ h => h) (Or.inl ⟨by rfl, ?_⟩) (by assumption) ?_
                rotate_left 1
                · intro w hSw
                  obtain ⟨q0, q1, q2, q3, q4, q5, q6, q7, q8, q9, q10⟩ := hSw
                  go_simp <;> with_reducible rfl
                simp only [Act.put, List.setIfInBounds_toArray]
                dsimp only [List.set_cons_succ, List.set_cons_zero]
                try simp only [h22]
                try simp only [h22']
                refine take1 (i := 2) (d := some 32) (v := ?_) rfl rfl (by kernel_rfl) (by kernel_rfl) (by kernel_rfl) (fun _ _ _ h => h) (Or.inl ⟨by rfl, ?_⟩) (by assumption) ?_
                rotate_left 1
                · intro w hSw
                  obtain ⟨q0, q1, q2, q3, q4, q5, q6, q7, q8, q9, q10⟩ := hSw
                  go_simp <;> with_reducible rfl
                simp only [Act.put, List.setIfInBounds_toArray]
                dsimp only [List.set_cons_succ, List.set_cons_zero]
                refine take1 (i := 3) (d := some 33) (v := ?_) rfl rfl (by kernel_rfl) (by kernel_rfl) (by kernel_rfl) (fun _ _ _ h => h) (Or.inl ⟨by rfl, ?_⟩) (by assumption) ?_
                rotate_left 1
                · intro w hSw
                  obtain ⟨q0, q1, q2, q3, q4, q5, q6, q7, q8, q9, q10⟩ := hSw
                  go_simp <;> with_reducible rfl
                simp only [Act.put, List.setIfInBounds_toArray]
                dsimp only [List.set_cons_succ, List.set_cons_zero]
                refine take1 (i := 4) (d := some 34) (v := ?_) rfl rfl (by kernel_rfl) (by kernel_rfl) (by kernel_rfl) (fun _ _ _ h => h) (Or.inl ⟨by rfl, ?_⟩) (by assumption) ?_
                rotate_left 1
                · intro w hSw
                  obtain ⟨q0, q1, q2, q3, q4, q5, q6, q7, q8, q9, q10⟩ := hSw
                  go_simp <;> with_reducible rfl
                simp only [Act.put, List.setIfInBounds_toArray]
                dsimp only [List.set_cons_succ, List.set_cons_zero]
                refine take1 (i := 5) (d := some 35) (v := ?_) rfl rfl (by kernel_rfl) (by kernel_rfl) (by kernel_rfl) (fun _ _ _ h => h) (Or.inl ⟨by rfl, ?_⟩) (by assumption) ?_
                rotate_left 1
                · intro w hSw
                  obtain ⟨q0, q1, q2, q3, q4, q5, q6, q7, q8, q9, q10⟩ := hSw
                  go_simp <;> with_reducible rfl
                simp only [Act.put, List.setIfInBounds_toArray]
                dsimp only [List.set_cons_succ, List.set_cons_zero]
                refine take1 (i := 6) (d := some 36) (v := ?_) rfl rfl (by kernel_rfl) (by kernel_rfl) (by kernel_rfl) (fun _ _ _ h => h) (Or.inl ⟨by rfl, ?_⟩) (by assumption) ?_
                rotate_left 1
                · intro w hSw
                  obtain ⟨q0, q1, q2, q3, q4, q5, q6, q7, q8, q9, q10⟩ := hSw
                  go_simp <;> with_reducible rfl
                simp only [Act.put, List.setIfInBounds_toArray]
                dsimp only [List.set_cons_succ, List.set_cons_zero]
                refine take1 (i := 7) (d := some 37) (v := ?_) rfl rfl (by kernel_rfl) (by kernel_rfl) (by kernel_rfl) (fun _ _ _ h => h) (Or.inl ⟨by rfl, ?_⟩) (by assumption) ?_
                rotate_left 1
                · intro w hSw
                  obtain ⟨q0, q1, q2, q3, q4, q5, q6, q7, q8, q9, q10⟩ := hSw
                  go_simp <;> with_reducible rfl
                simp only [Act.put, List.setIfInBounds_toArray]
                dsimp only [List.set_cons_succ, List.set_cons_zero]
                first | simp only [hsub6] | simp only [hsub4] | simp only [hsub5] | simp only [hsub3] | simp only [hsub] | simp only [hsub2] | skip
                refine take1 (i := 8) (d := some 38) (v := ?_) rfl rfl (by kernel_rfl) (by kernel_rfl) (by kernel_rfl) (fun _ _ _ h => h) (Or.inl ⟨by rfl, ?_⟩) (by assumption) ?_
                rotate_left 1
                · intro w hSw
                  obtain ⟨q0, q1, q2, q3, q4, q5, q6, q7, q8, q9, q10⟩ := hSw
                  go_simp <;> with_reducible rfl
                simp only [Act.put, List.setIfInBounds_toArray]
                dsimp only [List.set_cons_succ, List.set_cons_zero]
                refine take1 (i := 9) (d := some 39) (v := ?_) rfl rfl (by kernel_rfl) (by kernel_rfl) (by kernel_rfl) (fun _ _ _ h => h) (Or.inl ⟨by rfl, ?_⟩) (by assumption) ?_
                rotate_left 1
                · intro w hSw
                  obtain ⟨q0, q1, q2, q3, q4, q5, q6, q7, q8, q9, q10⟩ := hSw
                  go_simp <;> with_reducible rfl
                simp only [Act.put, List.setIfInBounds_toArray]
                dsimp only [List.set_cons_succ, List.set_cons_zero]
                refine take1 (i := 10) (d := some 40) (v := ?_) rfl rfl (by kernel_rfl) (by kernel_rfl) (by kernel_rfl) (fun _ _ _ h => h) (Or.inl ⟨by rfl, ?_⟩) (by assumption) ?_
                rotate_left 1
                · intro w hSw
                  obtain ⟨q0, q1, q2, q3, q4, q5, q6, q7, q8, q9, q10⟩ := hSw
                  go_simp <;> with_reducible rfl
                simp only [Act.put, List.setIfInBounds_toArray]
                dsimp only [List.set_cons_succ, List.set_cons_zero]
                refine take1 (i := 11) (d := some 41) (v := ?_) rfl rfl (by kernel_rfl) (by kernel_rfl) (by kernel_rfl) (fun _ _ _ h => h) (Or.inl ⟨by rfl, ?_⟩) (by assumption) ?_
                rotate_left 1
                · intro w hSw
                  obtain ⟨q0, q1, q2, q3, q4, q5, q6, q7, q8, q9, q10⟩ := hSw
                  go_simp <;> with_reducible rfl
                simp only [Act.put, List.setIfInBounds_toArray]
                dsimp only [List.set_cons_succ, List.set_cons_zero]
                try simp only [hqq]
                refine take1 (i := 12) (d := some 42) (v := ?_) rfl rfl (by kernel_rfl) (by kernel_rfl) (by kernel_rfl) (fun _ _ _ h => h) (Or.inl ⟨by rfl, ?_⟩) (by assumption) ?_
                rotate_left 1
                · intro w hSw
                  obtain ⟨q0, q1, q2, q3, q4, q5, q6, q7, q8, q9, q10⟩ := hSw
                  go_simp <;> with_reducible rfl
                simp only [Act.put, List.setIfInBounds_toArray]
                dsimp only [List.set_cons_succ, List.set_cons_zero]
                refine wpAnyH_done (by kernel_rfl) ?_ _
                go_wp2_with fail
                go_ret
                exact ⟨ret_bool HFF.out.symm, HBXW.out _ BD.out⟩
              · have hqq : (x.t == T2) = false := by simpa using hq
                have HFF : Hid (ans = frFrom (tAt L (k + 1 + 1) 1) (tAt L (k + 1 + 1) 2) (L.drop (k + 1 + 1))) := by
                  unfold Hid
                  rw [HJT.out, HST.out, hb0, decide_eq_true (show T1 ≤ x.t by omega), decide_eq_false hq]; rfl
                clear hx hpx hq
                refine wp_region_held_drew (S := SlIn wr.heap.size x b2 (o2 + k * 9) T1 (o2 + m * 9) T2) (by kernel_rfl) (HSF.out _ (Below.refl _ _).drew) (fun hHeld => ?_)
                have BD : Hid (Below X.heap.size X X.drew) := (Below.refl _ _).drew
                generalize X.drew = D at BD hHeld ⊢
                refine take1 (i := 0) (d := some 12) (v := ?_) rfl rfl (by kernel_rfl) (by kernel_rfl) (by kernel_rfl) (fun _ _ _ h => h) (Or.inl ⟨by rfl, ?_⟩) (by assumption) ?_
                rotate_left 1
                · intro w hSw
                  obtain ⟨q0, q1, q2, q3, q4, q5, q6, q7, q8, q9, q10⟩ := hSw
                  go_simp <;> with_reducible rfl
                simp only [Act.put, List.setIfInBounds_toArray]
                dsimp only [List.set_cons_succ, List.set_cons_zero]
                refine wpAnyH_ready (rs := [1]) (by kernel_rfl) (by simp) ?_
                refine AllReadyH.cons rfl (fun KK hKK => ?_) AllReadyH.nil
                go_simp
                refine (implSlotOk_any x _).mono ?_
                rintro e9 w9 ⟨rfl, b9⟩
                replace BD := Hid.intro (BD.out.trans (b9.mono BD.out.size))
                clear b9
                simp only [hb0]
                go_simp
                refine hKK.out _ _ (HSF.out _ BD.out) (fun hHeld2 => ?_)
                clear hKK KK hHeld
                have hHeld := hHeld2
                clear hHeld2
                refine take1 (i := 2) (d := some 14) (v := ?_) rfl rfl (by kernel_rfl) (by kernel_rfl) (by kernel_rfl) (fun _ _ _ h => h) (Or.inl ⟨by rfl, ?_⟩) (by assumption) ?_
                rotate_left 1
                · intro w hSw
                  obtain ⟨q0, q1, q2, q3, q4, q5, q6, q7, q8, q9, q10⟩ := hSw
                  go_simp <;> with_reducible rfl
                simp only [Act.put, List.setIfInBounds_toArray]
                dsimp only [List.set_cons_succ, List.set_cons_zero]
                refine take1 (i := 3) (d := some 15) (v := ?_) rfl rfl (by kernel_rfl) (by kernel_rfl) (by kernel_rfl) (fun _ _ _ h => h) (Or.inl ⟨by rfl, ?_⟩) (by assumption) ?_
                rotate_left 1
                · intro w hSw
                  obtain ⟨q0, q1, q2, q3, q4, q5, q6, q7, q8, q9, q10⟩ := hSw
                  go_simp <;> with_reducible rfl
                simp only [Act.put, List.setIfInBounds_toArray]
                dsimp only [List.set_cons_succ, List.set_cons_zero]
                refine take1 (i := 4) (d := some 16) (v := ?_) rfl rfl (by kernel_rfl) (by kernel_rfl) (by kernel_rfl) (fun _ _ _ h => h) (Or.inl ⟨by rfl, ?_⟩) (by assumption) ?_
                rotate_left 1
                · intro w hSw
                  obtain ⟨q0, q1, q2, q3, q4, q5, q6, q7, q8, q9, q10⟩ := hSw
                  go_simp <;> with_reducible rfl
                simp only [Act.put, List.setIfInBounds_toArray]
                dsimp only [List.set_cons_succ, List.set_cons_zero]
                refine take1 (i := 5) (d := some 17) (v := ?_) rfl rfl (by kernel_rfl) (by kernel_rfl) (by kernel_rfl) (fun _ _ _ h => h) (Or.inl ⟨by rfl, ?_⟩) (by assumption) ?_
                rotate_left 1
                · intro w hSw
                  obtain ⟨q0, q1, q2, q3, q4, q5, q6, q7, q8, q9, q10⟩ := hSw
                  go_simp <;> with_reducible rfl
                simp only [Act.put, List.setIfInBounds_toArray]
                dsimp only [List.set_cons_succ, List.set_cons_zero]
                first | simp only [h00] | simp only [h00'] | skip
                refine take1 (i := 6) (d := some 18) (v := ?_) rfl rfl (by kernel_rfl) (by kernel_rfl) (by kernel_rfl) (fun _ _ _ h => h) (Or.inl ⟨by rfl, ?_⟩) (by assumption) ?_
                rotate_left 1
                · intro w hSw
                  obtain ⟨q0, q1, q2, q3, q4, q5, q6, q7, q8, q9, q10⟩ := hSw
                  go_simp <;> with_reducible rfl
                simp only [Act.put, List.setIfInBounds_toArray]
                dsimp only [List.set_cons_succ, List.set_cons_zero]
                refine take1 (i := 7) (d := some 19) (v := ?_) rfl rfl (by kernel_rfl) (by kernel_rfl) (by kernel_rfl) (fun _ _ _ h => h) (Or.inl ⟨by rfl, ?_⟩) (by assumption) ?_
                rotate_left 1
                · intro w hSw
                  obtain ⟨q0, q1, q2, q3, q4, q5, q6, q7, q8, q9, q10⟩ := hSw
                  go_simp <;> with_reducible rfl
                simp only [Act.put, List.setIfInBounds_toArray]
                dsimp only [List.set_cons_succ, List.set_cons_zero]
                refine take1 (i := 8) (d := some 20) (v := ?_) rfl rfl (by kernel_rfl) (by kernel_rfl) (by kernel_rfl) (fun _ _ _ h => h) (Or.inl ⟨by rfl, ?_⟩) (by assumption) ?_
                rotate_left 1
                · intro w hSw
                  obtain ⟨q0, q1, q2, q3, q4, q5, q6, q7, q8, q9, q10⟩ := hSw
                  go_simp <;> with_reducible rfl
                simp only [Act.put, List.setIfInBounds_toArray]
                dsimp only [List.set_cons_succ, List.set_cons_zero]
                refine take1 (i := 9) (d := some 21) (v := ?_) rfl rfl (by kernel_rfl) (by kernel_rfl) (by kernel_rfl) (fun _ _ _ h => h) (Or.inl ⟨by rfl, ?_⟩) (by assumption) ?_
                rotate_left 1
                · intro w hSw
                  obtain ⟨q0, q1, q2, q3, q4, q5, q6, q7, q8, q9, q10⟩ := hSw
                  go_simp <;> with_reducible rfl
                simp only [Act.put, List.setIfInBounds_toArray]
                dsimp only [List.set_cons_succ, List.set_cons_zero]
                refine take1 (i := 10) (d := some 22) (v := ?_) rfl rfl (by kernel_rfl) (by kernel_rfl) (by kernel_rfl) (fun _ _ _ h => h) (Or.inl ⟨by rfl, ?_⟩) (by assumption) ?_
                rotate_left 1
                · intro w hSw
                  obtain ⟨q0, q1, q2, q3, q4, q5, q6, q7, q8, q9, q10⟩ := hSw
                  go_simp <;> with_reducible rfl
                simp only [Act.put, List.setIfInBounds_toArray]
                dsimp only [List.set_cons_succ, List.set_cons_zero]
                refine take1 (i := 11) (d := some 23) (v := ?_) rfl rfl (by kernel_rfl) (by kernel_rfl) (by kernel_rfl) (fun _ _ _ h => h) (Or.inl ⟨by rfl, ?_⟩) (by assumption) ?_
                rotate_left 1
                · intro w hSw
                  obtain ⟨q0, q1, q2, q3, q4, q5, q6, q7, q8, q9, q10⟩ := hSw
                  go_simp <;> with_reducible rfl
                simp only [Act.put, List.setIfInBounds_toArray]
                dsimp only [List.set_cons_succ, List.set_cons_zero]
                first | simp only [hsub3] | simp only [hsub] | simp only [hsub2] | skip
                refine take1 (i := 12) (d := some 24) (v := ?_) rfl rfl (by kernel_rfl) (by kernel_rfl) (by kernel_rfl) (fun _ _ _ h => h) (Or.inl ⟨by rfl, ?_⟩) (by assumption) ?_
                rotate_left 1
                · intro w hSw
                  obtain ⟨q0, q1, q2, q3, q4, q5, q6, q7, q8, q9, q10⟩ := hSw
                  go_simp <;> with_reducible rfl
                simp only [Act.put, List.setIfInBounds_toArray]
                dsimp only [List.set_cons_succ, List.set_cons_zero]
                refine take1 (i := 13) (d := some 25) (v := ?_) rfl rfl (by kernel_rfl) (by kernel_rfl) (by kernel_rfl) (fun _ _ _ h => h) (Or.inl ⟨by rfl, ?_⟩) (by assumption) ?_
                rotate_left 1
                · intro w hSw
                  obtain ⟨q0, q1, q2, q3, q4, q5, q6, q7, q8, q9, q10⟩ := hSw
                  go_simp <;> with_reducible rfl
                simp only [Act.put, List.setIfInBounds_toArray]
                dsimp only [List.set_cons_succ, List.set_cons_zero]
                refine take1 (i := 14) (d := some 26) (v := ?_) rfl rfl (by kernel_rfl) (by kernel_rfl) (by kernel_rfl) (fun _ _ _ h => h) (Or.inl ⟨by rfl, ?_⟩) (by assumption) ?_
                rotate_left 1
                · intro w hSw
                  obtain ⟨q0, q1, q2, q3, q4, q5, q6, q7, q8, q9, q10⟩ := hSw
                  go_simp <;> with_reducible rfl
                simp only [Act.put, List.setIfInBounds_toArray]
                dsimp only [List.set_cons_succ, List.set_cons_zero]
                refine take1 (i := 15) (d := some 27) (v := ?_) rfl rfl (by kernel_rfl) (by kernel_rfl) (by kernel_rfl) (fun _ _ _ h => h) (Or.inl ⟨by rfl, ?_⟩) (by assumption) ?_
                rotate_left 1
                · intro w hSw
                  obtain ⟨q0, q1, q2, q3, q4, q5, q6, q7, q8, q9, q10⟩ := hSw
                  go_simp <;> with_reducible rfl
                simp only [Act.put, List.setIfInBounds_toArray]
                dsimp only [List.set_cons_succ, List.set_cons_zero]
                try simp only [hgt]
                refine take1 (i := 16) (d := some 28) (v := ?_) rfl rfl (by kernel_rfl) (by kernel_rfl) (by kernel_rfl) (fun _ _ _ h => h) (Or.inl ⟨by rfl, ?_⟩) (by assumption) ?_
                rotate_left 1
                · intro w hSw
                  obtain ⟨q0, q1, q2, q3, q4, q5, q6, q7, q8, q9, q10⟩ := hSw
                  go_simp <;> with_reducible rfl
                simp only [Act.put, List.setIfInBounds_toArray]
                dsimp only [List.set_cons_succ, List.set_cons_zero]
                refine take1 (i := 17) (d := some 29) (v := ?_) rfl rfl (by kernel_rfl) (by kernel_rfl) (by kernel_rfl) (fun _ _ _ h => h) (Or.inl ⟨by rfl, ?_⟩) (by assumption) ?_
                rotate_left 1
                · intro w hSw
                  obtain ⟨q0, q1, q2, q3, q4, q5, q6, q7, q8, q9, q10⟩ := hSw
                  go_simp <;> with_reducible rfl
                simp only [Act.put, List.setIfInBounds_toArray]
                dsimp only [List.set_cons_succ, List.set_cons_zero]
                refine wpAnyH_done (by kernel_rfl) ?_ _
                go_upto_region 6 with fail
                refine wp_region_held_drew (S := SlIn wr.heap.size x b2 (o2 + k * 9) T1 (o2 + m * 9) T2) (by kernel_rfl) (HSF.out _ BD.out.drew) (fun hHeld => ?_)
                replace BD : Hid (Below X.heap.size X _) := BD.out.drew
                refine take1 (i := 0) (d := some 30) (v := ?_) rfl rfl (by kernel_rfl) (by kernel_rfl) (by kernel_rfl) (fun _ _ _ h => h) (Or.inl ⟨by rfl, ?_⟩) (by assumption) ?_
                rotate_left 1
                · intro w hSw
                  obtain ⟨q0, q1, q2, q3, q4, q5, q6, q7, q8, q9, q10⟩ := hSw
                  go_simp <;> with_reducible rfl
                simp only [Act.put, List.setIfInBounds_toArray]
                dsimp only [List.set_cons_succ, List.set_cons_zero]
                refine take1 (i := 1) (d := some 31) (v := ?_) rfl rfl (by kernel_rfl) (by kernel_rfl) (by kernel_rfl) (fun _ _ _ h => h) (Or.inl ⟨by rfl, ?_⟩) (by assumption) ?_
                rotate_left 1
                · intro w hSw
                  obtain ⟨q0, q1, q2, q3, q4, q5, q6, q7, q8, q9, q10⟩ := hSw
                  go_simp <;> with_reducible rfl
                simp only [Act.put, List.setIfInBounds_toArray]
                dsimp only [List.set_cons_succ, List.set_cons_zero]
                try simp only [h22]
                try simp only [h22']
                refine take1 (i := 2) (d := some 32) (v := ?_) rfl rfl (by kernel_rfl) (by kernel_rfl) (by kernel_rfl) (fun _ _ _ h => h) (Or.inl ⟨by rfl, ?_⟩) (by assumption) ?_
                rotate_left 1
                · intro w hSw
                  obtain ⟨q0, q1, q2, q3, q4, q5, q6, q7, q8, q9, q10⟩ := hSw
                  go_simp <;> with_reducible rfl
                simp only [Act.put, List.setIfInBounds_toArray]
                dsimp only [List.set_cons_succ, List.set_cons_zero]
                refine take1 (i := 3) (d := some 33) (v := ?_) rfl rfl (by kernel_rfl) (by kernel_rfl) (by kernel_rfl) (fun _ _ _ h => h) (Or.inl ⟨by rfl, ?_⟩) (by assumption) ?_
                rotate_left 1
                · intro w hSw
                  obtain ⟨q0, q1, q2, q3, q4, q5, q6, q7, q8, q9, q10⟩ := hSw
                  go_simp <;> with_reducible rfl
                simp only [Act.put, List.setIfInBounds_toArray]
                dsimp only [List.set_cons_succ, List.set_cons_zero]
                refine take1 (i := 4) (d := some 34) (v := ?_) rfl rfl (by kernel_rfl) (by kernel_rfl) (by kernel_rfl) (fun _ _ _ h => h) (Or.inl ⟨by rfl, ?_⟩) (by assumption) ?_
                rotate_left 1
                · intro w hSw
                  obtain ⟨q0, q1, q2, q3, q4, q5, q6, q7, q8, q9, q10⟩ := hSw
                  go_simp <;> with_reducible rfl
                simp only [Act.put, List.setIfInBounds_toArray]
                dsimp only [List.set_cons_succ, List.set_cons_zero]
                refine take1 (i := 5) (d := some 35) (v := ?_) rfl rfl (by kernel_rfl) (by kernel_rfl) (by kernel_rfl) (fun _ _ _ h => h) (Or.inl ⟨by rfl, ?_⟩) (by assumption) ?_
                rotate_left 1
                · intro w hSw
                  obtain ⟨q0, q1, q2, q3, q4, q5, q6, q7, q8, q9, q10⟩ := hSw
                  go_simp <;> with_reducible rfl
                simp only [Act.put, List.setIfInBounds_toArray]
                dsimp only [List.set_cons_succ, List.set_cons_zero]
                refine take1 (i := 6) (d := some 36) (v := ?_) rfl rfl (by kernel_rfl) (by kernel_rfl) (by kernel_rfl) (fun _ _ _ h => h) (Or.inl ⟨by rfl, ?_⟩) (by assumption) ?_
                rotate_left 1
                · intro w hSw
                  obtain ⟨q0, q1, q2, q3, q4, q5, q6, q7, q8, q9, q10⟩ := hSw
                  go_simp <;> with_reducible rfl
                simp only [Act.put, List.setIfInBounds_toArray]
                dsimp only [List.set_cons_succ, List.set_cons_zero]
                refine take1 (i := 7) (d := some 37) (v := ?_) rfl rfl (by kernel_rfl) (by kernel_rfl) (by kernel_rfl) (fun _ _ _ h => h) (Or.inl ⟨by rfl, ?_⟩) (by assumption) ?_
                rotate_left 1
                · intro w hSw
                  obtain ⟨q0, q1, q2, q3, q4, q5, q6, q7, q8, q9, q10⟩ := hSw
                  go_simp <;> with_reducible rfl
                simp only [Act.put, List.setIfInBounds_toArray]
                dsimp only [List.set_cons_succ, List.set_cons_zero]
                first | simp only [hsub6] | simp only [hsub4] | simp only [hsub5] | simp only [hsub3] | simp only [hsub] | simp only [hsub2] | skip
                refine take1 (i := 8) (d := some 38) (v := ?_) rfl rfl (by kernel_rfl) (by kernel_rfl) (by kernel_rfl) (fun _ _ _ h => h) (Or.inl ⟨by rfl, ?_⟩) (by assumption) ?_
                rotate_left 1
                · intro w hSw
                  obtain ⟨q0, q1, q2, q3, q4, q5, q6, q7, q8, q9, q10⟩ := hSw
                  go_simp <;> with_reducible rfl
                simp only [Act.put, List.setIfInBounds_toArray]
                dsimp only [List.set_cons_succ, List.set_cons_zero]
                refine take1 (i := 9) (d := some 39) (v := ?_) rfl rfl (by kernel_rfl) (by kernel_rfl) (by kernel_rfl) (fun _ _ _ h => h) (Or.inl ⟨by rfl, ?_⟩) (by assumption) ?_
                rotate_left 1
                · intro w hSw
                  obtain ⟨q0, q1, q2, q3, q4, q5, q6, q7, q8, q9, q10⟩ := hSw
                  go_simp <;> with_reducible rfl
                simp only [Act.put, List.setIfInBounds_toArray]
                dsimp only [List.set_cons_succ, List.set_cons_zero]
                refine take1 (i := 10) (d := some 40) (v := ?_) rfl rfl (by kernel_rfl) (by kernel_rfl) (by kernel_rfl) (fun _ _ _ h => h) (Or.inl ⟨by rfl, ?_⟩) (by assumption) ?_
                rotate_left 1
                · intro w hSw
                  obtain ⟨q0, q1, q2, q3, q4, q5, q6, q7, q8, q9, q10⟩ := hSw
                  go_simp <;> with_reducible rfl
                simp only [Act.put, List.setIfInBounds_toArray]
                dsimp only [List.set_cons_succ, List.set_cons_zero]
                refine take1 (i := 11) (d := some 41) (v := ?_) rfl rfl (by kernel_rfl) (by kernel_rfl) (by kernel_rfl) (fun _ _ _ h => h) (Or.inl ⟨by rfl, ?_⟩) (by assumption) ?_
                rotate_left 1
                · intro w hSw
                  obtain ⟨q0, q1, q2, q3, q4, q5, q6, q7, q8, q9, q10⟩ := hSw
                  go_simp <;> with_reducible rfl
                simp only [Act.put, List.setIfInBounds_toArray]
                dsimp only [List.set_cons_succ, List.set_cons_zero]
                try simp only [hqq]
                refine take1 (i := 12) (d := some 42) (v := ?_) rfl rfl (by kernel_rfl) (by kernel_rfl) (by kernel_rfl) (fun _ _ _ h => h) (Or.inl ⟨by rfl, ?_⟩) (by assumption) ?_
                rotate_left 1
                · intro w hSw
                  obtain ⟨q0, q1, q2, q3, q4, q5, q6, q7, q8, q9, q10⟩ := hSw
                  go_simp <;> with_reducible rfl
                simp only [Act.put, List.setIfInBounds_toArray]
                dsimp only [List.set_cons_succ, List.set_cons_zero]
                refine wpAnyH_done (by kernel_rfl) ?_ _
                go_wp2_with fail
                go_roundw
                case rel => exact ⟨k + 1 + 1, by go_num, by omega, HFF, HBXW.out _ BD.out⟩
                case measure => simp [intOf]; omega
    · obtain rfl : j = L.length := by omega
      have HFF : Hid (ans = true) := by unfold Hid; rw [HJ.out, frFrom_end]
      go_wp2_with fail
      go_ret
      exact ⟨ret_bool HFF.out.symm, HBW.out⟩
end Go.Proofs.Ythicdhjipebghaa
