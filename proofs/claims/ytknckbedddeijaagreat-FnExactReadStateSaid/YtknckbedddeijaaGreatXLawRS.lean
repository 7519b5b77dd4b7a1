/- The law ReadState. -/
import Derived.Test.YtknckbedddeijaaGreatXSpecRS
import Derived.Test.YtknckbedddeijaaGreatZHeldS
import Derived.Test.YtknckbedddeijaaGreatTCurP
namespace Go.Proofs.YtknckbedddeijaaGreat
open Go.ChangeShapes Go.WideShapes Go.ChangeAt Go.RowKit
set_option linter.unusedVariables false
theorem gd_ofS {t : Ten} (hb : tenB t.key = true) (hi : Inc t.L) : Gd t := by
 rw [tenB_key] at hb
 obtain ⟨b1, b2, b3, b4, b5, b6⟩ := tenB_of (nx := t.nx) (L := t.L.map Np.n) (tk := t.tk) (A := t.A) (S := t.S) hb
 have hbd := volB_bd b1
 exact ⟨hi, by simpa using hbd.1, fun p hp => hbd.2 p.n (List.mem_map.2 ⟨p, hp, rfl⟩), b3, b5⟩
theorem endU_bd {q : Int} {t : Ten} (hg : Gd t) : q ≤ endU q t ∧ endU q t ≤ q + 885 := by
 have hk := kqI_bd (q := q + 1) hg.n t.L.length
 have := hg.l
 have := hg.a
 have := hg.s
 unfold endU
 omega
theorem qAt_bd {q : Int} {L : List Ten} (hg : ∀ x ∈ L, Gd x) (i : Nat) (hi : i ≤ L.length) : q ≤ qAt q L i ∧ qAt q L i ≤ q + 885 * (i : Nat) := by
 induction i with
 | zero => simp [qAt]
 | succ i ih =>
  have h1 := ih (by omega)
  have h2 := endU_bd (q := qAt q L i) (hg _ (List.getElem_mem (show i < L.length by omega)))
  rw [qAt, getD_ten (by omega)]
  omega
theorem qAt_ok {L : List Ten} (hg : ∀ x ∈ L, Gd x) (h3 : L.length ≤ 3) : ∀ i, i < L.length → 1 ≤ qAt 1 L i ∧ qAt 1 L i ≤ 3000 := fun i hi => by
 have := qAt_bd (q := 1) hg i (by omega)
 omega
def keyS (o : Option (List (Int × List Nd × Int × List Nt × List Se))) : List (Int × List Nd × Int × List Nt × List Se) × Bool := match o with | none => ([], false) | some x => (x, true)
structure RsO (l : List UInt8) (B : Nat) (w' : World) (v : Value) (L : List Ten) (b : Bool) : Prop where
 key : (L.map Ten.key, b) = keyS (outS l)
 own : ∃ bb tt v0 v1, StM w' B v L bb tt v0 v1
 len : L.length ≤ 3
 gd : ∀ x ∈ L, Gd x
theorem outS_out {l : List UInt8} {K : List (Int × List Nd × Int × List Nt × List Se)} (h : outS l = some K) : K.length = 3 ∧ K.all tenB = true := by
 rw [outS_is] at h
 obtain ⟨⟨K2, r⟩, h1, h⟩ := bind_out h
 dsimp only at h
 split at h
 ·simp only [Option.some.injEq] at h
  subst h
  exact (stS_out 3 h1).2
 ·cases h
theorem rsO_of {l : List UInt8} {w w' : World} {e : Ending} (h : RdS l w e w') : (∃ v L b, e = .returned (.tuple #[v, .bool b]) ∧ RsO l w.heap.size w' v L b) ∧ Below w.heap.size w w' := by
 obtain ⟨h, hb⟩ := h
 refine ⟨?_, hb⟩
 rcases h with ⟨v, L, bb, tt, v0, v1, rfl, ho, hv, h3, hi⟩ | ⟨rfl, ho⟩
 ·refine ⟨v, L, true, rfl, ⟨by rw [ho.out]; rfl, ⟨bb, tt, v0, v1, hv.out⟩, by omega, fun x hx => gd_ofS ?_ (hi.out x hx)⟩⟩
  have h4 := (outS_out ho.out).2
  rw [List.all_eq_true] at h4
  exact h4 _ (List.mem_map_of_mem hx)
 ·exact ⟨_, [], false, rfl, ⟨by rw [ho.out]; rfl, ⟨fun _ => 0, fun _ => 0, fun _ => 0, fun _ => 0, ⟨Own.nil _ _, fun i hi => by simp at hi, fun i hi => by simp at hi, fun i hi => by simp at hi, fun i j hi => by simp at hi, fun k hk i hi => by simp at hi⟩⟩, by simp, fun x hx => by cases hx⟩⟩
theorem rsS_of {l : List UInt8} {w w' : World} {e : Ending} (h : RdSS l w e w') : (∃ v L b, e = .returned (.tuple #[v, .bool b]) ∧ (L.map Ten.key, b) = keyS (outS l) ∧ StR w' w'.heap.size v L) ∧ Below w.heap.size w w' := by
 obtain ⟨⟨v, L, b, rfl, hr, hk⟩, hb⟩ := h
 refine ⟨⟨v, L, b, rfl, ?_, hr.out.rowAll⟩, hb⟩
 rcases hk.out with ⟨rfl, h1⟩ | ⟨rfl, rfl, h1⟩
 ·rw [h1]; rfl
 ·rw [h1]; rfl
theorem StB_onlyR {w w' : World} {v : Value} {n B : Nat} {b t : Nat → Nat} {L : List Ten} {v0 v1 : Nat → Nat} {base : Nat} {w0 : World} (hs : StM w0 base v L b t v0 v1) (hn : n = L.length) (ho : Only (StB v n b t) w w') (hB : B ≤ base) (hw : B ≤ w.heap.size) : Below B w w' :=
 ho.below hw (fun k hk e => by
  subst hn
  rcases e with e | ⟨i, hi, h1, h2⟩
  ·have := (hs.own.lt k e).1; omega
  ·have := hs.low i hi; omega)
set_option maxRecDepth 100000 in
set_option maxHeartbeats 8000000 in
theorem readState_law (s : ByteArray) (w : World) (hs : s.size ≤ maxLen) :
  Calls Tryz.prog 3 #[.string s] w fun e w' => e = .returned (.bool true) ∧ Below w.heap.size w w' := by
 unfold maxLen at hs
 by_cases hb : (1048576 : Int) < (s.size : Int)
 ·go_enter Tryz.func3, Tryz.ntmps3
  go_wp2
  go_ret
  exact ⟨rfl, Below.refl _ _⟩
 ·go_enter Tryz.func3, Tryz.ntmps3
  go_wp2_with fail
  refine (specReadState_any s _ (by omega)).mono ?_
  intro e w1 hrd
  obtain ⟨⟨va, La, bl, rfl, k1, r1⟩, b1⟩ := rsS_of hrd
  clear hrd
  have HK1 := Hid.intro k1
  have HR1 := Hid.intro r1
  have HB := Hid.intro b1
  have z1 := b1.size
  clear k1 r1 b1
  go_wp2_with fail
  refine (implReadState_any s _ (by omega)).mono ?_
  intro e w3 hrd
  obtain ⟨⟨vb, Lb, bl3, rfl, R3⟩, b3⟩ := rsO_of hrd
  clear hrd
  have hkey := R3.key.trans HK1.out.symm
  simp only [Prod.mk.injEq] at hkey
  obtain ⟨hmap, rfl⟩ := hkey
  have HK : Hid (Lb.map Ten.key = La.map Ten.key) := Hid.intro hmap
  obtain ⟨b, t, v0, v1, hs3⟩ := R3.own
  have HM3 := Hid.intro hs3
  have HG := Hid.intro R3.gd
  have hb3 := R3.len
  have HV1 : Hid (StR w3 w1.heap.size va La) := HR1.out.kept b3
  replace HB := Hid.intro (HB.out.trans (b3.mono z1))
  have z3 := b3.size
  clear R3 b3 HR1 hs3 hmap
  have hbb : (bl3 != bl3) = false := by simp
  go_wp2_with fail
  refine (eqTenantS_any Lb La vb va w3.heap.size w3 (Nat.le_refl _) HM3.out.rowAll (HV1.out.up z3) HK.out).mono ?_
  rintro e w5 ⟨rfl, b5⟩
  replace HM3 := Hid.intro (HM3.out.kept b5)
  replace HV1 := Hid.intro (HV1.out.kept (b5.mono z3))
  replace HB := Hid.intro (HB.out.trans (b5.mono HB.out.size))
  have z5 := b5.size
  clear b5
  go_wp2_with fail
  refine (markTenantS_any Lb vb w1.heap.size b t v0 v1 1 w5 HM3.out HG.out (by omega) (qAt_ok HG.out hb3)).mono ?_
  rintro e w6 ⟨rfl, m6, n6⟩
  replace HV1 := Hid.intro (HV1.out.kept (StB_onlyR HM3.out rfl n6 (Nat.le_refl _) (by omega)))
  replace HB := Hid.intro (HB.out.trans (StB_onlyR HM3.out rfl n6 z1 HB.out.size))
  have HR6 := Hid.intro m6.rowAll
  have z6 := n6.size
  have hqv := qAt_bd (q := 1) HG.out Lb.length (Nat.le_refl _)
  obtain ⟨mm, hmm⟩ : ∃ mm : Int, qAt 1 Lb Lb.length = mm := ⟨_, rfl⟩
  have HMM := Hid.intro hmm
  rw [hmm] at hqv ⊢
  have hm0 : ¬ mm < 0 := by omega
  have hme : (mm != mm) = false := by simp
  have HLN : Hid ((markUL 1 Lb Lb.length).length = Lb.length) := markUL_len _ _ _
  clear m6 n6 hmm HM3
  go_wp2_with fail
  refine (heldTenantS_any Lb (markUL 1 Lb Lb.length) vb w6.heap.size 1 w6 (Nat.le_refl _) HR6.out rfl HG.out (qAt_ok HG.out hb3)).mono ?_
  rintro e w7 ⟨rfl, b7⟩
  rw [HLN.out, HMM.out]
  replace HR6 := Hid.intro (HR6.out.on b7)
  replace HV1 := Hid.intro (HV1.out.kept (b7.mono (by omega)))
  replace HB := Hid.intro (HB.out.trans (b7.mono HB.out.size))
  have z7 := b7.size
  clear b7
  go_wp2_with fail
  refine (implReadState_any s _ (by omega)).mono ?_
  intro e w8 hrd
  obtain ⟨⟨vc, Lc, bl8, rfl, R8⟩, b8⟩ := rsO_of hrd
  clear hrd
  have hkey := R8.key.trans HK1.out.symm
  simp only [Prod.mk.injEq] at hkey
  obtain ⟨hmap, rfl⟩ := hkey
  have HK8 : Hid (Lc.map Ten.key = La.map Ten.key) := Hid.intro hmap
  obtain ⟨b8', t8, x8, y8, hs8⟩ := R8.own
  have HR8 := Hid.intro hs8.rowAll
  replace HR6 := Hid.intro (HR6.out.on b8)
  replace HV1 := Hid.intro (HV1.out.kept (b8.mono (by omega)))
  replace HB := Hid.intro (HB.out.trans (b8.mono HB.out.size))
  have z8 := b8.size
  clear b8 R8 hs8 hmap
  go_wp2_with fail
  refine (eqTenantS_any Lc La vc va w8.heap.size w8 (Nat.le_refl _) HR8.out (HV1.out.up (by omega)) HK8.out).mono ?_
  rintro e wa ⟨rfl, ba⟩
  replace HR6 := Hid.intro (HR6.out.on ba)
  replace HB := Hid.intro (HB.out.trans (ba.mono HB.out.size))
  clear ba HV1 HR8
  go_wp2_with fail
  refine (heldTenantS_any Lb (markUL 1 Lb Lb.length) vb wa.heap.size 1 wa (Nat.le_refl _) HR6.out rfl HG.out (qAt_ok HG.out hb3)).mono ?_
  rintro e wb ⟨rfl, bb⟩
  rw [HLN.out, HMM.out]
  replace HB := Hid.intro (HB.out.trans (bb.mono HB.out.size))
  clear bb
  go_wp2
  go_ret
  exact ⟨rfl, HB.out⟩
end Go.Proofs.YtknckbedddeijaaGreat
