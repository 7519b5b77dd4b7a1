/- The law ReadTenant. -/
import Derived.Test.YtpccnoiepmedeaaXSpecRT
import Derived.Test.YtpccnoiepmedeaaXMarkT
import Derived.Test.YtpccnoiepmedeaaTMarkW
import Derived.Test.YtpccnoiepmedeaaTCurP
namespace Go.Proofs.Ytpccnoiepmedeaa
open Go.ChangeShapes Go.WideShapes Go.ChangeAt Go.RowKit
set_option linter.unusedVariables false
/-- What ReadTenant hands back, in one form. -/
def zTen : Ten := ⟨0, [], none, 0, 0, [], none, 0, [], none, 0⟩
def keyT (o : Option (Int × List Nd × Int × List Nt × List Se)) : (Int × List Nd × Int × List Nt × List Se) × Bool := match o with | none => (zTen.key, false) | some x => (x, true)
structure RtO (l : List UInt8) (B : Nat) (w' : World) (t : Ten) (b : Bool) : Prop where
 key : (t.key, b) = keyT (outT l)
 own : ∃ v1, TenM w' B w'.heap.size B v1 t
 gd : Gd t
structure RtS (l : List UInt8) (w' : World) (t : Ten) (b : Bool) : Prop where
 key : (t.key, b) = keyT (outT l)
 row : TenR w' w'.heap.size t
theorem zTen_gd : Gd zTen := ⟨fun i j _ hj => by simp [zTen] at hj, by simp [zTen], by intro p hp; simp [zTen] at hp, by simp [zTen], by simp [zTen]⟩
theorem gd_of {t : Ten} (hb : tenB t.key = true) (hi : Inc t.L) : Gd t := by
 rw [tenB_key] at hb
 obtain ⟨b1, b2, b3, b4, b5, b6⟩ := tenB_of (nx := t.nx) (L := t.L.map Np.n) (tk := t.tk) (A := t.A) (S := t.S) hb
 have hbd := volB_bd b1
 exact ⟨hi, by simpa using hbd.1, fun p hp => hbd.2 p.n (List.mem_map.2 ⟨p, hp, rfl⟩), b3, b5⟩
theorem rtO_of {l : List UInt8} {w w' : World} {e : Ending} (h : RdT l w e w') : (∃ t b, e = .returned (.tuple #[t.v, .bool b]) ∧ RtO l w.heap.size w' t b) ∧ Below w.heap.size w w' := by
 obtain ⟨h, hb⟩ := h
 refine ⟨?_, hb⟩
 have hsz := hb.size
 rcases h with ⟨t, g3, rfl, ho, hv⟩ | ⟨rfl, ho⟩
 ·refine ⟨t, true, rfl, ⟨by rw [ho.out]; rfl, ⟨min g3 w'.heap.size, ?_⟩, gd_of (outT_out ho.out).2 hv.out.inc⟩⟩
  have hv := hv.out
  have hlt := hv.lt
  exact ⟨Nat.le_refl _, by omega, by omega, hv.vol, fun k hk => by have := hv.vt k hk; have := (hv.vol.own.lt k hk).2; omega, fun p hp k hk => by have := hv.vn p hp k hk; have := ((hv.vol.nms p hp).lt k hk).2; omega, hv.aud.lower (by omega), hv.ses.lower (by omega), fun k hk => by have := hv.aud.lt k hk; omega, fun k hk => by have := hv.ses.lt k hk; omega⟩
 ·exact ⟨zTen, false, rfl, ⟨by rw [ho.out]; rfl, ⟨w.heap.size, Nat.le_refl _, Nat.le_refl _, hsz, ⟨Own.nil _ _, fun p hp => by cases hp⟩, fun k hk => by simp [zTen, Value.ownBlock] at hk, fun p hp => by simp [zTen] at hp, Own.nil _ _, Own.nil _ _, fun k hk => by simp [zTen, Value.ownBlock] at hk, fun k hk => by simp [zTen, Value.ownBlock] at hk⟩, zTen_gd⟩⟩
theorem rtS_of {l : List UInt8} {w w' : World} {e : Ending} (h : RdTS l w e w') : (∃ t b, e = .returned (.tuple #[t.v, .bool b]) ∧ RtS l w' t b) ∧ Below w.heap.size w w' := by
 obtain ⟨h, hb⟩ := h
 refine ⟨?_, hb⟩
 rcases h with ⟨t, rfl, ho, hv⟩ | ⟨rfl, ho⟩
 ·exact ⟨t, true, rfl, ⟨by rw [ho.out]; rfl, hv.out.rowAll⟩⟩
 ·exact ⟨zTen, false, rfl, ⟨by rw [ho.out]; rfl, ⟨⟨Row.nil, fun p hp => by simp [zTen] at hp⟩, Row.nil, Row.nil⟩⟩⟩
set_option maxRecDepth 100000 in
set_option maxHeartbeats 8000000 in
theorem readTenant_law (s : ByteArray) (w : World) (hs : s.size ≤ maxLen) :
  Calls Try.prog 3 #[.string s] w fun e w' => e = .returned (.bool true) ∧ Below w.heap.size w w' := by
 unfold maxLen at hs
 by_cases hb : (1048576 : Int) < (s.size : Int)
 ·go_enter Try.func3, Try.ntmps3
  go_wp2
  go_ret
  exact ⟨rfl, Below.refl _ _⟩
 ·go_enter Try.func3, Try.ntmps3
  go_wp2_with fail
  refine (specReadTenant_any s _ (by omega)).mono ?_
  intro e w1 hrd
  obtain ⟨⟨ta, bl, rfl, R1⟩, b1⟩ := rtS_of hrd
  clear hrd
  have HK1 := Hid.intro R1.key
  have HR0 := Hid.intro R1.row
  clear R1
  go_wp2_with fail
  obtain ⟨W2, hW2, bW2, zW2, cW2, fW2⟩ := boxed w1 ta.arr 28
  try simp only [hW2]
  have z1 := b1.size
  have HR1 : Hid (TenR W2 W2.heap.size ta) := HR0.out.on bW2
  have HB := Hid.intro (b1.trans (bW2.mono z1))
  clear hW2 bW2 fW2 b1 HR0
  refine (implReadTenant_any s _ (by omega)).mono ?_
  intro e w3 hrd
  obtain ⟨⟨tb, bl2, rfl, R2⟩, b3⟩ := rtO_of hrd
  clear hrd
  have hkey := R2.key.trans HK1.out.symm
  simp only [Prod.mk.injEq] at hkey
  obtain ⟨hmap, rfl⟩ := hkey
  have HKEY : Hid (tb.key = ta.key) := Hid.intro hmap
  have HM3 : Hid (∃ v1, TenM w3 W2.heap.size w3.heap.size W2.heap.size v1 tb) := R2.own
  have HG : Hid (Gd tb) := R2.gd
  clear R2 hmap
  have c3 := keepC b3 (show w1.heap.size < W2.heap.size by omega) cW2
  replace HR1 := Hid.intro (HR1.out.kept b3)
  replace HB := Hid.intro (HB.out.trans (b3.mono HB.out.size))
  have z3 := b3.size
  clear b3 cW2
  obtain ⟨v1, hM3⟩ := HM3.out
  have HM3 := Hid.intro hM3
  clear hM3
  go_upto_region 5 with fail
  obtain ⟨W4, hW4, bW4, zW4, cW4, fW4⟩ := boxed w3 tb.arr 28
  try simp only [hW4]
  replace c3 := keepC bW4 (by omega) c3
  replace HR1 := Hid.intro (HR1.out.kept (bW4.mono (by omega)))
  replace HM3 := Hid.intro (HM3.out.kept bW4)
  replace HB := Hid.intro (HB.out.trans (bW4.mono HB.out.size))
  clear hW4 bW4 fW4
  have hbb : (bl2 != bl2) = false := by simp
  go_wp2_with fail
  refine (eqTenant_any tb ta W4.heap.size W4 (Nat.le_refl _) HM3.out.own.rowAll (HR1.out.up (by omega)) HKEY.out).mono ?_
  rintro e w5 ⟨rfl, b5⟩
  replace c3 := keepC b5 (by omega) c3
  have c5 := keepC b5 (by omega) cW4
  replace HR1 := Hid.intro (HR1.out.kept (b5.mono (by omega)))
  replace HM3 := Hid.intro (HM3.out.kept b5)
  replace HB := Hid.intro (HB.out.trans (b5.mono HB.out.size))
  have z5 := b5.size
  clear b5 cW4
  go_wp2_with fail
  refine (markTenant_any tb W2.heap.size w3.heap.size W2.heap.size v1 1 w5 (by omega) HM3.out HG.out (by omega) (by omega)).mono ?_
  rintro e w6 ⟨rfl, r6, n6⟩
  replace c3 : ∀ o, w6.cell? ⟨w1.heap.size, o, none⟩ = ta.arr[o]? := fun o => (n6.cell (by omega) (fun h => by omega)).trans (c3 o)
  replace c5 : ∀ o, w6.cell? ⟨w3.heap.size, o, none⟩ = tb.arr[o]? := fun o => (n6.cell (by omega) (fun h => by omega)).trans (c5 o)
  replace HR1 := Hid.intro (HR1.out.kept (n6.below (by omega) (fun k hk h => by omega)))
  replace HB := Hid.intro (HB.out.trans (n6.below HB.out.size (fun k hk h => by have := HB.out.size; omega)))
  have HR6 := Hid.intro r6
  have hbd := (endT_bd (q := 1) HG.out (by omega) (by omega)).2
  generalize hmm : endT 1 tb = mm at hbd ⊢
  have HMM := Hid.intro hmm
  have hm0 : ¬ mm < 0 := by omega
  have hme : (mm != mm) = false := by simp
  have z6 := n6.size
  clear hmm HM3 r6 n6
  go_wp2_with fail
  refine (heldTenant_any tb w6.heap.size 1 w6 (Nat.le_refl _) HR6.out HG.out (by omega) (by omega)).mono ?_
  rintro e w7 ⟨rfl, b7⟩
  rw [HMM.out]
  replace c3 := keepC b7 (by omega) c3
  replace c5 := keepC b7 (by omega) c5
  replace HR1 := Hid.intro (HR1.out.kept (b7.mono (by omega)))
  replace HR6 := Hid.intro (HR6.out.on b7)
  replace HB := Hid.intro (HB.out.trans (b7.mono HB.out.size))
  have z7 := b7.size
  clear b7
  go_wp2_with fail
  refine (implReadTenant_any s _ (by omega)).mono ?_
  intro e w8 hrd
  obtain ⟨⟨tc, bl3, rfl, R3⟩, b8⟩ := rtO_of hrd
  clear hrd
  have hkey := R3.key.trans HK1.out.symm
  simp only [Prod.mk.injEq] at hkey
  obtain ⟨hmap, rfl⟩ := hkey
  have HK8 : Hid (tc.key = ta.key) := Hid.intro hmap
  obtain ⟨v3, hM8⟩ := R3.own
  have HR8 : Hid (TenR w8 w8.heap.size tc) := hM8.own.rowAll
  clear R3 hmap hM8
  replace c3 := keepC b8 (by omega) c3
  replace c5 := keepC b8 (by omega) c5
  replace HR1 := Hid.intro (HR1.out.kept (b8.mono (by omega)))
  replace HR6 := Hid.intro (HR6.out.on b8)
  replace HB := Hid.intro (HB.out.trans (b8.mono HB.out.size))
  have z8 := b8.size
  clear b8
  go_upto_region 16 with fail
  obtain ⟨W9, hW9, bW9, zW9, cW9, fW9⟩ := boxed w8 tc.arr 28
  try simp only [hW9]
  replace c3 := keepC bW9 (by omega) c3
  replace c5 := keepC bW9 (by omega) c5
  replace HR1 := Hid.intro (HR1.out.kept (bW9.mono (by omega)))
  replace HR6 := Hid.intro (HR6.out.on bW9)
  replace HR8 := Hid.intro (HR8.out.on bW9)
  replace HB := Hid.intro (HB.out.trans (bW9.mono HB.out.size))
  clear hW9 bW9 fW9
  go_wp2_with fail
  refine (eqTenant_any tc ta W9.heap.size W9 (Nat.le_refl _) HR8.out (HR1.out.up (by omega)) HK8.out).mono ?_
  rintro e wa ⟨rfl, ba⟩
  replace c5 := keepC ba (by omega) c5
  replace HR6 := Hid.intro (HR6.out.on ba)
  replace HB := Hid.intro (HB.out.trans (ba.mono HB.out.size))
  clear ba HR1 HR8 c3 cW9
  go_wp2_with fail
  refine (heldTenant_any tb wa.heap.size 1 wa (Nat.le_refl _) HR6.out HG.out (by omega) (by omega)).mono ?_
  rintro e wb ⟨rfl, bb⟩
  rw [HMM.out]
  replace HB := Hid.intro (HB.out.trans (bb.mono HB.out.size))
  clear bb c5
  go_wp2
  go_ret
  exact ⟨rfl, HB.out⟩
end Go.Proofs.Ytpccnoiepmedeaa
