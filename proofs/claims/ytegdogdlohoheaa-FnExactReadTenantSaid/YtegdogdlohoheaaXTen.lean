/- Tenants in memory; the laws' helpers over them: how great, copies, equal. -/
import Derived.Test.YtegdogdlohoheaaXLawN
import Derived.Test.YtegdogdlohoheaaTCurVo
import Derived.Test.YtegdogdlohoheaaVImpF
namespace Go.Proofs.Ytegdogdlohoheaa
open Go.RowKit
set_option linter.unusedVariables false
/-- A tenant and where its lists lie. -/
structure Ten where
 nx : Int
 L : List Np
 ua : Option Addr
 uc : Nat
 tk : Int
 A : List Nt
 aa : Option Addr
 ac : Nat
 S : List Se
 sa : Option Addr
 sc : Nat
abbrev Ten.u (t : Ten) : Value := .slice t.ua t.L.length t.uc
abbrev Ten.va (t : Ten) : Value := .slice t.aa t.A.length t.ac
abbrev Ten.vs (t : Ten) : Value := .slice t.sa t.S.length t.sc
abbrev Ten.arr (t : Ten) : Array Value := #[.int .i64 t.nx, .slice t.ua t.L.length t.uc, .int .i64 t.tk, .slice t.aa t.A.length t.ac, .slice t.sa t.S.length t.sc]
abbrev Ten.v (t : Ten) : Value := .agg t.arr
def Ten.key (t : Ten) : Int × List Nd × Int × List Nt × List Se := (t.nx, t.L.map Np.n, t.tk, t.A, t.S)
structure TenR (w : World) (N : Nat) (t : Ten) : Prop where
 vol : VolR w N t.u t.L
 aud : Row ntE w N t.va t.A
 ses : Row seE w N t.vs t.S
theorem TenR.kept {w w' : World} {N : Nat} {t : Ten} (h : TenR w N t) (hb : Below N w w') : TenR w' N t := ⟨h.vol.kept hb, h.aud.kept hb, h.ses.kept hb⟩
theorem TenR.up {w : World} {N N' : Nat} {t : Ten} (h : TenR w N t) (hN : N ≤ N') : TenR w N' t := ⟨h.vol.up hN, h.aud.up hN, h.ses.up hN⟩
theorem TenR.on {w w' : World} {t : Ten} (h : TenR w w.heap.size t) (hb : Below w.heap.size w w') : TenR w' w'.heap.size t := (h.kept hb).up hb.size
structure TenO (w : World) (base : Nat) (t : Ten) : Prop where
 vol : VolO w base t.u t.L
 aud : Own ntE 53 w base t.va t.A
 ses : Own seE 59 w base t.vs t.S
theorem TenO.rowAll {w : World} {base : Nat} {t : Ten} (h : TenO w base t) : TenR w w.heap.size t := ⟨h.vol.rowAll, h.aud.rowAll, h.ses.rowAll⟩
theorem TenO.kept {w w' : World} {base : Nat} {t : Ten} (h : TenO w base t) (hb : Below w.heap.size w w') : TenO w' base t := ⟨h.vol.kept hb, h.aud.kept hb, h.ses.kept hb⟩
theorem TenO.lower {w : World} {base base' : Nat} {t : Ten} (h : TenO w base t) (hb : base' ≤ base) : TenO w base' t := ⟨h.vol.lower hb, h.aud.lower hb, h.ses.lower hb⟩
theorem Blk.put {w : World} {g : Nat} {A : Array Value} (h : Blk w g A) (i : Nat) (hi : i < A.size) (x : Value) : Blk (w.setCell ⟨g, i, none⟩ x) g (A.setIfInBounds i x) := by
 refine ⟨by simpa using h.hi, fun o => ?_, fun o => by rw [World.frozen?_setCell]; exact h.fro o⟩
 by_cases ho : o = i
 ·subst ho
  rw [World.cell?_setCell_same _ _ _ ((h.cell o).trans (Array.getElem?_eq_getElem hi)), Array.getElem?_setIfInBounds_self_of_lt hi]
 ·rw [World.cell?_setCell_other _ _ _ _ (by intro e; cases e; exact ho rfl), h.cell, Array.getElem?_setIfInBounds_ne (by omega)]
/-- What can be said of a tenant's texts. -/
structure TenW (t : Ten) : Prop where
 nod : ∀ p ∈ t.L, NdW p.n
 dat : ∀ e ∈ t.S, e.r.d.size ≤ 9223372036854775807
structure TenL (t : Ten) : Prop where
 l : t.L.length ≤ 1048576
 m : NmL t.L 1048576
 a : t.A.length ≤ 1048576
 s : t.S.length ≤ 1048576
theorem TenW.of_key {t s : Ten} (h : TenW t) (hk : s.key = t.key) : TenW s := by
 simp only [Ten.key, Prod.mk.injEq] at hk
 obtain ⟨_, h1, _, _, h2⟩ := hk
 refine ⟨fun p hp => ?_, by rw [h2]; exact h.dat⟩
 have h3 : p.n ∈ s.L.map Np.n := List.mem_map_of_mem hp
 rw [h1] at h3
 obtain ⟨p', hp', e⟩ := List.mem_map.1 h3
 rw [← e]
 exact h.nod p' hp'
set_option maxHeartbeats 4000000 in
theorem szTenant_any (t : Ten) (N : Nat) (left : Int) (w : World) (hN : N ≤ w.heap.size) (hr : TenR w N t) (hz : TenW t) (h0 : 0 ≤ left) (h1 : left ≤ 1048576) :
  Calls Try.prog 40 #[t.v, .int .i64 left] w fun e w' => (∃ n, e = .returned (.int .i64 n) ∧ Hid (0 ≤ n → TenL t)) ∧ Below w.heap.size w w' := by
 have HR := Hid.intro hr
 have HZ := Hid.intro hz
 clear hr hz
 go_enter Try.func40, Try.ntmps40
 go_wp2_with fail
 obtain ⟨W, hW, bW, zW, c1, f1⟩ := boxed w t.arr 79
 try simp only [hW]
 refine (szVol_any t.nx t.L t.u N left W (by omega) (HR.out.vol.kept (bW.mono hN)) (fun p hp => (HZ.out.nod p hp).1) h0 h1).mono ?_
 rintro e w1 ⟨⟨n1, rfl, hn1, hm1⟩, b1⟩
 have z1 := b1.size
 replace c1 := keepC b1 (by omega) c1
 have HB := Hid.intro (bW.trans (b1.mono (by omega)))
 have HN1 := Hid.intro hn1
 have HM1 := Hid.intro hm1
 have hl1 := hn1.1
 have hg1 := hn1.2.1
 have hz1 : w.heap.size < w1.heap.size := by omega
 clear hW bW b1 f1 hn1 hm1
 by_cases hneg : n1 < 0
 ·go_wp2
  go_ret
  exact ⟨⟨_, rfl, by unfold Hid; intro h; omega⟩, HB.out⟩
 ·go_wp2_with fail
  refine (szNoteS_any t.A t.va N n1 w1 (HR.out.aud.kept (HB.out.mono hN)) (by omega) (by omega)).mono ?_
  rintro e w2 ⟨⟨n2, rfl, hn2⟩, rfl⟩
  have HN2 := Hid.intro hn2
  have hl2 := hn2.1
  have hg2 := hn2.2.1
  clear hn2
  by_cases hneg2 : n2 < 0
  ·go_wp2
   go_ret
   exact ⟨⟨_, rfl, by unfold Hid; intro h; omega⟩, HB.out⟩
  ·go_wp2_with fail
   refine (szSessionS_any t.S t.vs N n2 w1 (by omega) (HR.out.ses.kept (HB.out.mono hN)) HZ.out.dat (by omega) (by omega)).mono ?_
   rintro e w3 ⟨⟨n3, rfl, hn3⟩, b3⟩
   have HB3 := Hid.intro (HB.out.trans (b3.mono (by omega)))
   have HN3 := Hid.intro hn3
   have hl3 := hn3.1
   have hg3 := hn3.2.1
   clear b3 hn3 c1
   by_cases hneg3 : n3 < 0
   ·go_wp2
    go_ret
    exact ⟨⟨_, rfl, by unfold Hid; intro h; omega⟩, HB3.out⟩
   ·have HF : Hid (0 ≤ n3 → TenL t) := fun _ => ⟨by have := HN1.out.2.2 (by omega); omega, HM1.out (by omega), by have := HN2.out.2.2 (by omega); omega, by have := HN3.out.2.2 (by omega); omega⟩
    go_wp2
    go_ret
    exact ⟨⟨_, rfl, HF⟩, HB3.out⟩
set_option maxRecDepth 100000 in
set_option maxHeartbeats 4000000 in
theorem toTenant_any (t : Ten) (N : Nat) (w : World) (hN : N ≤ w.heap.size) (hr : TenR w N t) (hl : TenL t) :
  Calls Try.prog 42 #[t.v] w fun e w' => ∃ t' : Ten, e = .returned t'.v ∧ TenO w' w.heap.size t' ∧ t'.key = t.key ∧ Below w.heap.size w w' := by
 have HR := Hid.intro hr
 have HL := Hid.intro hl
 clear hr hl
 go_enter Try.func42, Try.ntmps42
 go_wp2_with fail
 obtain ⟨W, hW, bW, zW, c1, f1, c2, f2, c3, f3⟩ := boxed3 w t.arr #[.int .i64 0, .slice none 0 0, .int .i64 0, .slice none 0 0, .slice none 0 0] #[.int .i64 0, .slice none 0 0, .int .i64 0, .slice none 0 0, .slice none 0 0] 79 28 28
 simp only [hW]
 refine (toVol_any t.nx t.L t.u N W (by omega) (HR.out.vol.kept (bW.mono hN)) HL.out.l HL.out.m).mono ?_
 rintro e w1 ⟨a1, k1, M, rfl, o1, e1, b1⟩
 have hlM : M.length = t.L.length := by have := congrArg List.length e1; simpa using this
 replace c1 := keepC b1 (by omega) c1
 replace c2 := keepC b1 (by omega) c2
 replace f2 := keepF b1 (by omega) f2
 replace c3 := keepC b1 (by omega) c3
 replace f3 := keepF b1 (by omega) f3
 have z1 := b1.size
 have HZ : Hid (w.heap.size + 1 + 1 < W.heap.size ∧ W.heap.size ≤ w1.heap.size) := by unfold Hid; omega
 have hz1 : w.heap.size + 1 + 1 < w1.heap.size := by omega
 have hB3 : Blk w1 (w.heap.size + 1 + 1) #[.int .i64 0, .slice none 0 0, .int .i64 0, .slice none 0 0, .slice none 0 0] := ⟨hz1, c3, f3⟩
 have hB2 : Blk w1 (w.heap.size + 1) #[.int .i64 0, .slice none 0 0, .int .i64 0, .slice none 0 0, .slice none 0 0] := ⟨by omega, c2, f2⟩
 obtain ⟨V, hV⟩ : ∃ V, ((w1.setCell ⟨w.heap.size + 1 + 1, 0, none⟩ (.int .i64 t.nx)).setCell ⟨w.heap.size + 1 + 1, 1, none⟩ (.slice a1 t.L.length k1)).setCell ⟨w.heap.size + 1 + 1, 2, none⟩ (.int .i64 t.tk) = V := ⟨_, rfl⟩
 have BV : Blk V (w.heap.size + 1 + 1) #[.int .i64 t.nx, .slice a1 t.L.length k1, .int .i64 t.tk, .slice none 0 0, .slice none 0 0] := by
  rw [← hV]
  have := ((hB3.put 0 (by simp) (.int .i64 t.nx)).put 1 (by simp) (.slice a1 t.L.length k1)).put 2 (by simp) (.int .i64 t.tk)
  simpa only [List.setIfInBounds_toArray, List.set_cons_succ, List.set_cons_zero] using this
 have OV : Only (fun k => k = w.heap.size + 1 + 1) w1 V := by
  rw [← hV]
  exact (((Only.refl (fun k => k = w.heap.size + 1 + 1) w1).setCell (p := ⟨w.heap.size + 1 + 1, 0, none⟩) rfl _).setCell (p := ⟨w.heap.size + 1 + 1, 1, none⟩) rfl _).setCell (p := ⟨w.heap.size + 1 + 1, 2, none⟩) rfl _
 have zV : w1.heap.size ≤ V.heap.size := OV.size
 have c1V : ∀ o, V.cell? ⟨w.heap.size, o, none⟩ = t.arr[o]? := fun o => (OV.cell (by omega) (by omega)).trans (c1 o)
 have B2V := Hid.intro (hB2.only OV (by omega))
 have HBV := Hid.intro BV
 have HO1 : Hid (VolO V W.heap.size (.slice a1 t.L.length k1) M) := o1.only OV (fun k hk e => by have := HZ.out; omega)
 have HB : Hid (Below w.heap.size w V) := (bW.trans (b1.mono (by omega))).trans (OV.below (by omega) (fun k hk e => by omega))
 have HE1 := Hid.intro e1
 have HLM := Hid.intro hlM
 have hzV : w.heap.size + 1 + 1 < V.heap.size := by omega
 have HZV : Hid (W.heap.size ≤ V.heap.size) := by have := HZ.out; unfold Hid; omega
 clear hW b1 o1 e1 hlM bW zW f1 hB3 hB2 BV OV zV z1
 go_wp2_with fail
 clear hV c1 c2 c3 f2 f3
 refine (toNoteS_any t.A t.va N V (by omega) (HR.out.aud.kept (HB.out.mono hN)) HL.out.a).mono ?_
 rintro e w2 ⟨v2, rfl, o2, b2⟩
 obtain ⟨a2, k2, rfl⟩ := o2.slice
 have z2 := b2.size
 replace c1V := keepC b2 (by omega) c1V
 have hB3 := HBV.out.kept b2
 replace B2V := Hid.intro (B2V.out.kept b2)
 replace HO1 := Hid.intro (HO1.out.kept b2)
 replace HB := Hid.intro (HB.out.trans (b2.mono (by omega)))
 have c3 := hB3.cell
 have f3 := hB3.fro
 obtain ⟨Y, hY⟩ : ∃ Y, w2.setCell ⟨w.heap.size + 1 + 1, 3, none⟩ (.slice a2 t.A.length k2) = Y := ⟨_, rfl⟩
 have BY : Blk Y (w.heap.size + 1 + 1) #[.int .i64 t.nx, .slice a1 t.L.length k1, .int .i64 t.tk, .slice a2 t.A.length k2, .slice none 0 0] := by
  rw [← hY]
  have := hB3.put 3 (by simp) (.slice a2 t.A.length k2)
  simpa only [List.setIfInBounds_toArray, List.set_cons_succ, List.set_cons_zero] using this
 have OY : Only (fun k => k = w.heap.size + 1 + 1) w2 Y := by
  rw [← hY]
  exact (Only.refl (fun k => k = w.heap.size + 1 + 1) w2).setCell (p := ⟨w.heap.size + 1 + 1, 3, none⟩) rfl _
 have zY : w2.heap.size ≤ Y.heap.size := OY.size
 replace c1V : ∀ o, Y.cell? ⟨w.heap.size, o, none⟩ = t.arr[o]? := fun o => (OY.cell (by omega) (by omega)).trans (c1V o)
 replace B2V := Hid.intro (B2V.out.only OY (by omega))
 replace HBV := Hid.intro BY
 replace HO1 : Hid (VolO Y W.heap.size (.slice a1 t.L.length k1) M) := HO1.out.only OY (fun k hk e => by have := HZ.out; omega)
 have HO2 : Hid (Own ntE 53 Y V.heap.size (.slice a2 t.A.length k2) t.A) := o2.only OY (fun k hk e => by have := (o2.lt k hk).1; omega)
 replace HB : Hid (Below w.heap.size w Y) := HB.out.trans (OY.below (by omega) (fun k hk e => by omega))
 have hzY : w.heap.size + 1 + 1 < Y.heap.size := by omega
 have HZY : Hid (V.heap.size ≤ Y.heap.size) := by unfold Hid; omega
 clear b2 o2 hB3 BY OY zY z2 hzV
 go_wp2_with fail
 clear hY c3 f3
 refine (toSessionS_any t.S t.vs N Y (by omega) (HR.out.ses.kept (HB.out.mono hN)) HL.out.s).mono ?_
 rintro e w3 ⟨v3, rfl, o3, b3⟩
 obtain ⟨a3, k3, rfl⟩ := o3.slice
 have z3 := b3.size
 have hB3 := HBV.out.kept b3
 replace B2V := Hid.intro (B2V.out.kept b3)
 replace HO1 := Hid.intro (HO1.out.kept b3)
 replace HO2 := Hid.intro (HO2.out.kept b3)
 replace HB := Hid.intro (HB.out.trans (b3.mono (by omega)))
 have c3 := hB3.cell
 have f3 := hB3.fro
 obtain ⟨X, hX⟩ : ∃ X, w3.setCell ⟨w.heap.size + 1 + 1, 4, none⟩ (.slice a3 t.S.length k3) = X := ⟨_, rfl⟩
 have BX : Blk X (w.heap.size + 1 + 1) #[.int .i64 t.nx, .slice a1 t.L.length k1, .int .i64 t.tk, .slice a2 t.A.length k2, .slice a3 t.S.length k3] := by
  rw [← hX]
  have := hB3.put 4 (by simp) (.slice a3 t.S.length k3)
  simpa only [List.setIfInBounds_toArray, List.set_cons_succ, List.set_cons_zero] using this
 have OX : Only (fun k => k = w.heap.size + 1 + 1) w3 X := by
  rw [← hX]
  exact (Only.refl (fun k => k = w.heap.size + 1 + 1) w3).setCell (p := ⟨w.heap.size + 1 + 1, 4, none⟩) rfl _
 have zX : w3.heap.size ≤ X.heap.size := OX.size
 replace B2V := B2V.out.only OX (by omega)
 replace HO1 : Hid (VolO X W.heap.size (.slice a1 t.L.length k1) M) := HO1.out.only OX (fun k hk e => by have := HZ.out; omega)
 replace HO2 : Hid (Own ntE 53 X V.heap.size (.slice a2 t.A.length k2) t.A) := HO2.out.only OX (fun k hk e => by have := (HO2.out.lt k hk).1; have := HZ.out; have := HZV.out; omega)
 have HO3 : Hid (Own seE 59 X Y.heap.size (.slice a3 t.S.length k3) t.S) := o3.only OX (fun k hk e => by have := (o3.lt k hk).1; omega)
 replace HB : Hid (Below w.heap.size w X) := HB.out.trans (OX.below (by omega) (fun k hk e => by omega))
 have c2X := B2V.cell
 have f2X := B2V.fro
 have c3X := BX.cell
 have hzX : w.heap.size + 1 + 1 < X.heap.size := by omega
 have HTY : Hid (w.heap.size + 1 < W.heap.size ∧ w.heap.size + 1 < V.heap.size ∧ w.heap.size + 1 < Y.heap.size) := by have := HZ.out; have := HZV.out; have := HZY.out; unfold Hid; omega
 clear b3 o3 hB3 BX OX zX z3 HBV B2V c1V hzY
 go_wp2
 refine bodyPost_ret (v := (⟨t.nx, M, a1, k1, t.tk, t.A, a2, k2, t.S, a3, k3⟩ : Ten).v) (by simp [results, Try.results42, go_sem, c2X, HLM.out]) rfl ⟨⟨t.nx, M, a1, k1, t.tk, t.A, a2, k2, t.S, a3, k3⟩, rfl, ?_, ?_, ?_⟩
 ·have HT := HTY.out
  have ho : ∀ Z : World, Only (fun k => k = w.heap.size + 1) X Z → TenO Z w.heap.size ⟨t.nx, M, a1, k1, t.tk, t.A, a2, k2, t.S, a3, k3⟩ := fun Z hZ => by
   have HO1' := HO1.out
   rw [← HLM.out] at HO1'
   exact ⟨(HO1'.only hZ (fun k hk e => by omega)).lower (by omega), (HO2.out.only hZ (fun k hk e => by have := (HO2.out.lt k hk).1; omega)).lower (by omega), (HO3.out.only hZ (fun k hk e => by have := (HO3.out.lt k hk).1; omega)).lower (by omega)⟩
  refine ho _ ?_
  repeat (refine Only.setCell ?_ (by simp) _)
  exact Only.refl _ _
 ·simp only [Ten.key, HE1.out]
 ·repeat (refine Below.setCell ?_ (by simp <;> omega) _)
  exact HB.out
set_option maxRecDepth 100000 in
set_option maxHeartbeats 4000000 in
theorem eqTenant_any (t s : Ten) (N : Nat) (w : World) (hN : N ≤ w.heap.size) (h1 : TenR w N t) (h2 : TenR w N s) (hk : t.key = s.key) :
  Calls Try.prog 9 #[t.v, s.v] w fun e w' => e = .returned (.bool true) ∧ Below w.heap.size w w' := by
 simp only [Ten.key, Prod.mk.injEq] at hk
 obtain ⟨k0, k1, k2, k3, k4⟩ := hk
 have H1 := Hid.intro h1
 have H2 := Hid.intro h2
 clear h1 h2
 go_enter Try.func9, Try.ntmps9
 go_wp2_with fail
 obtain ⟨W, hW, bW, zW, c1, f1, c2, f2⟩ := boxed2 w t.arr s.arr 28 28
 try simp only [hW]
 have HK3 := Hid.intro k3
 have HK4 := Hid.intro k4
 refine (eqVol_any s.nx t.L s.L t.u s.u N W (by omega) (H1.out.vol.kept (bW.mono hN)) (H2.out.vol.kept (bW.mono hN)) k1).mono ?_
 rintro e w1 ⟨rfl, b1⟩
 replace c1 := keepC b1 (by omega) c1
 replace c2 := keepC b1 (by omega) c2
 have z1 := b1.size
 have HB := Hid.intro (bW.trans (b1.mono (by omega)))
 have hz1 : w.heap.size + 1 < w1.heap.size := by omega
 clear hW bW b1 f1 f2 k1 k3 k4
 go_wp2_with fail
 refine (eqNoteS_any t.A t.va s.va N w1 (by omega) (H1.out.aud.kept (HB.out.mono hN)) (by rw [HK3.out]; exact H2.out.aud.kept (HB.out.mono hN))).mono ?_
 rintro e w2 ⟨rfl, b2⟩
 replace c1 := keepC b2 (by omega) c1
 replace c2 := keepC b2 (by omega) c2
 have z2 := b2.size
 have HB2 := Hid.intro (HB.out.trans (b2.mono (by omega)))
 have hz2 : w.heap.size + 1 < w2.heap.size := by omega
 clear b2
 go_wp2_with fail
 refine (eqSessionS_any t.S t.vs s.vs N w2 (by omega) (H1.out.ses.kept (HB2.out.mono hN)) (by rw [HK4.out]; exact H2.out.ses.kept (HB2.out.mono hN))).mono ?_
 rintro e w3 ⟨rfl, b3⟩
 have HB3 := Hid.intro (HB2.out.trans (b3.mono (by omega)))
 clear b3 c1 c2
 go_wp2
 go_ret
 exact ⟨rfl, HB3.out⟩
end Go.Proofs.Ytegdogdlohoheaa
