/- States: how they lie, how great, copies, equal. -/
import Derived.Test.YtknckbedddeijaaGreatXTenOkI
import Derived.Test.YtknckbedddeijaaGreatXTenOkS
import Derived.OwnWalk
import Derived.RegionTactic
import Derived.ChangeAlike
namespace Go.Proofs.YtknckbedddeijaaGreat
open Go.RowKit
set_option linter.unusedVariables false
def tnE : Enc Ten := ⟨5, fun t => [.int .i64 t.nx, .slice t.ua t.L.length t.uc, .int .i64 t.tk, .slice t.aa t.A.length t.ac, .slice t.sa t.S.length t.sc], ⟨0, [], none, 0, 0, [], none, 0, [], none, 0⟩, fun _ => rfl, by decide, by intro a u hu; simp at hu; rcases hu with rfl | rfl | rfl | rfl | rfl <;> rfl⟩
/-- The five cells of a tenant. -/
def TnC (w : World) (b o : Nat) (t : Ten) : Prop := w.cell? ⟨b, o, none⟩ = some (.int .i64 t.nx) ∧ w.cell? ⟨b, o + 1, none⟩ = some (.slice t.ua t.L.length t.uc) ∧ w.cell? ⟨b, o + 2, none⟩ = some (.int .i64 t.tk) ∧ w.cell? ⟨b, o + 3, none⟩ = some (.slice t.aa t.A.length t.ac) ∧ w.cell? ⟨b, o + 4, none⟩ = some (.slice t.sa t.S.length t.sc)
theorem TnC.at {B : Nat} {w w' : World} {b o : Nat} {a : Ten} (h : TnC w b o a) (hb : Below B w w') (hB : b < B) : TnC w' b o a := by
 obtain ⟨c0, c1, c2, c3, c4⟩ := h
 exact ⟨atCell hb c0 hB, atCell hb c1 hB, atCell hb c2 hB, atCell hb c3 hB, atCell hb c4 hB⟩
theorem tnE_cell {w : World} {N : Nat} {v : Value} {L : List Ten} (h : Row tnE w N v L) : ∃ a cap, v = .slice a L.length cap ∧ L.length ≤ cap ∧ cap ≤ 9223372036854775807 ∧
  (L ≠ [] → ∃ b off, a = some ⟨b, off, none⟩ ∧ b < N ∧ ∀ j (h : j < L.length), TnC w b (off + j * 5) L[j]) := by
 obtain ⟨a, cap, h0, h1, h2, h3⟩ := h
 refine ⟨a, cap, h0, h1, h2, fun hL => ?_⟩
 obtain ⟨b, off, ha, hb, hc⟩ := h3 hL
 refine ⟨b, off, ha, hb, fun j hj => ⟨?_, ?_, ?_, ?_, ?_⟩⟩
 ·have := hc j hj 0 (by decide)
  simpa [tnE] using this
 ·have := hc j hj 1 (by decide)
  simpa [tnE] using this
 ·have := hc j hj 2 (by decide)
  simpa [tnE] using this
 ·have := hc j hj 3 (by decide)
  simpa [tnE] using this
 ·have := hc j hj 4 (by decide)
  simpa [tnE] using this
/-- A state in memory. -/
structure StR (w : World) (N : Nat) (v : Value) (L : List Ten) : Prop where
 row : Row tnE w N v L
 ten : ∀ t ∈ L, TenR w N t
theorem StR.kept {w w' : World} {N : Nat} {v : Value} {L : List Ten} (h : StR w N v L) (hb : Below N w w') : StR w' N v L := ⟨h.row.kept hb, fun t ht => (h.ten t ht).kept hb⟩
theorem StR.up {w : World} {N N' : Nat} {v : Value} {L : List Ten} (h : StR w N v L) (hN : N ≤ N') : StR w N' v L := ⟨h.row.up hN, fun t ht => (h.ten t ht).up hN⟩
theorem StR.on {w w' : World} {v : Value} {L : List Ten} (h : StR w w.heap.size v L) (hb : Below w.heap.size w w') : StR w' w'.heap.size v L := (h.kept hb).up hb.size
structure StO (w : World) (base : Nat) (v : Value) (L : List Ten) : Prop where
 own : Own tnE 36 w base v L
 ten : ∀ t ∈ L, TenO w base t
theorem StO.rowAll {w : World} {base : Nat} {v : Value} {L : List Ten} (h : StO w base v L) : StR w w.heap.size v L := ⟨h.own.rowAll, fun t ht => (h.ten t ht).rowAll⟩
theorem TenO.only {w w' : World} {base : Nat} {t : Ten} {S : Nat → Prop} (h : TenO w base t) (ho : Only S w w') (hs : ∀ k, base ≤ k → ¬ S k) : TenO w' base t :=
 ⟨h.vol.only ho hs, h.aud.only ho (fun k hk => hs k (h.aud.lt k hk).1), h.ses.only ho (fun k hk => hs k (h.ses.lt k hk).1)⟩
theorem NdW.of_key {L M : List Np} (h : L.map Np.n = M.map Np.n) (hM : ∀ p ∈ M, NdW p.n) : ∀ p ∈ L, NdW p.n := fun p hp => by
 have h1 : p.n ∈ L.map Np.n := List.mem_map_of_mem hp
 rw [h] at h1
 obtain ⟨q, hq, e⟩ := List.mem_map.1 h1
 rw [← e]; exact hM q hq
/-- The first tenants of a copy, with zeros behind. -/
def mixT (M : List Ten) (k : Nat) : List Ten := M ++ List.replicate (k - M.length) tnE.z
theorem mixT_len {M : List Ten} {k : Nat} (h : M.length ≤ k) : (mixT M k).length = k := by simp [mixT]; omega
theorem mixT_nil (k : Nat) : mixT [] k = List.replicate k tnE.z := by simp [mixT]
theorem mixT_all {M : List Ten} {k : Nat} (h : M.length = k) : mixT M k = M := by simp [mixT, h]
theorem mixT_step {M : List Ten} {k : Nat} (h : M.length < k) (p : Ten) : (mixT M k).set M.length p = mixT (M ++ [p]) k := by
 unfold mixT
 obtain ⟨m, hm⟩ : ∃ m, k - M.length = m + 1 := ⟨k - M.length - 1, by omega⟩
 rw [List.set_append_right _ _ (Nat.le_refl _), Nat.sub_self, hm, List.replicate_succ, List.set_cons_zero, List.length_append, List.length_singleton, show k - (M.length + 1) = m by omega, List.append_assoc]
 rfl
/-- So far copied: M, in block g. -/
structure CpT (w : World) (g len : Nat) (M : List Ten) (L : List Ten) : Prop where
 own : Own tnE 36 w g (.slice (some ⟨g, 0, none⟩) len len) (mixT M len)
 ten : ∀ p ∈ M, TenO w (g + 1) p
 le : M.length ≤ len
 same : M.map Ten.key = (L.take M.length).map Ten.key
theorem CpT.kept {w w' : World} {g len : Nat} {M L : List Ten} (h : CpT w g len M L) (hb : Below w.heap.size w w') : CpT w' g len M L := ⟨h.own.kept hb, fun p hp => (h.ten p hp).kept hb, h.le, h.same⟩
theorem CpT.next {w : World} {g len j : Nat} {M L : List Ten} (h : CpT w g len M L) (hj : M.length = j) (hlt : j < len) (hL : len = L.length) (p : Ten) (hp : TenO w (g + 1) p) (hn : p.key = (L[j]'(by omega)).key) :
  CpT (setC w g (j * 5) (tnE.c p)) g len (M ++ [p]) L := by
 subst hj
 have hm := mixT_len h.le
 refine ⟨?_, ?_, by simp; omega, ?_⟩
 ·have := h.own.store hm (show M.length < len by omega) p
  rw [mixT_step hlt] at this
  exact this
 ·intro q hq
  have ho : Only (fun k => k = g) w (setC w g (M.length * 5) (tnE.c p)) := Only.setC (S := fun k => k = g) rfl _ _ (Only.refl _ _)
  have key : TenO w (g + 1) q := by
   rcases List.mem_append.1 hq with hq | hq
   ·exact h.ten q hq
   ·rw [List.mem_singleton.1 hq]; exact hp
  exact key.only ho fun k hk e => by omega
 ·rw [List.map_append, h.same, List.length_append, List.length_singleton, List.take_succ_eq_append_getElem (by omega), List.map_append]
  simp [hn]
theorem infoTn1 : (Tryz.prog.info? 36).map (fun i => (i.zero, i.size, i.bytes)) = some (some (.agg #[.int .i64 0, .slice none 0 0, .int .i64 0, .slice none 0 0, .slice none 0 0]), 5, 88) := by kernel_rfl
theorem infoTn : ∃ i, Tryz.prog.info? 36 = some i ∧ i.zero = some (.agg #[.int .i64 0, .slice none 0 0, .int .i64 0, .slice none 0 0, .slice none 0 0]) ∧ i.size = 5 ∧ i.bytes = 88 := info_parts infoTn1
set_option maxRecDepth 100000 in
set_option maxHeartbeats 4000000 in
theorem eqTenantS_any (L1 L2 : List Ten) (v1 v2 : Value) (N : Nat) (w : World) (hN : N ≤ w.heap.size) (h1 : StR w N v1 L1) (h2 : StR w N v2 L2) (he : L1.map Ten.key = L2.map Ten.key) :
  Calls Tryz.prog 6 #[v1, v2] w fun e w' => e = .returned (.bool true) ∧ Below w.heap.size w w' := by
 obtain ⟨a1, cap1, rfl, l1, m1, hc1⟩ := tnE_cell h1.row
 obtain ⟨a2, cap2, rfl, l2, m2, hc2⟩ := tnE_cell h2.row
 have hlen : L1.length = L2.length := by simpa using congrArg List.length he
 have H1 := Hid.intro hc1
 have H2 := Hid.intro hc2
 have M1 := Hid.intro h1.ten
 have M2 := Hid.intro h2.ten
 have HE := Hid.intro he
 clear hc1 hc2 h1 h2 he
 obtain ⟨m, hL2⟩ : ∃ m, L2.length = m := ⟨_, rfl⟩
 rw [hlen] at l1 ⊢
 rw [hL2] at l1 l2 ⊢
 go_enter Tryz.func6, Tryz.ntmps6
 go_wp2
 go_loopw [5] (fun i wr => ∃ (j : Nat), i = .int .i64 j ∧ j ≤ m ∧ Below w.heap.size w wr) (fun i _ => m - (intOf i).toNat)
 case atStart => exact ⟨0, rfl, Nat.zero_le _, Below.refl _ _⟩
 case round =>
  obtain ⟨j, rfl, hj, hbel⟩ := hrel
  by_cases hlt : j < m
  ·obtain ⟨b1, o1, rfl, hb1, cc1⟩ := H1.out (by intro h; rw [h] at hlen; simp only [List.length_nil] at hlen; omega)
   obtain ⟨b2, o2, rfl, hb2, cc2⟩ := H2.out (by intro h; rw [h] at hL2; simp only [List.length_nil] at hL2; omega)
   have p := cc1 j (by omega)
   have q := cc2 j (by omega)
   have r1 := M1.out _ (List.getElem_mem (show j < L1.length by omega))
   have r2 := M2.out _ (List.getElem_mem (show j < L2.length by omega))
   have hn : L1[j].key = L2[j].key := by
    have : (L1.map Ten.key)[j]? = (L2.map Ten.key)[j]? := by rw [HE.out]
    simpa [List.getElem?_eq_getElem (show j < L1.length by omega), List.getElem?_eq_getElem (show j < L2.length by omega)] using this
   generalize L1[j] = ej at p r1 hn
   generalize L2[j] = ek at q r2 hn
   have hs := hbel.size
   have HC : Hid (∀ w', Below wr.heap.size wr w' → Below w.heap.size w w') := fun w' hb => hbel.trans (hb.mono hs)
   have HR1 := Hid.intro (r1.kept (hbel.mono hN))
   have HR2 := Hid.intro (r2.kept (hbel.mono hN))
   obtain ⟨x0, x1, x2, x3, x4⟩ := p.at hbel (by omega)
   obtain ⟨y0, y1, y2, y3, y4⟩ := q.at hbel (by omega)
   have i1 : (0 : Int) ≤ (j : Int) ∧ (j : Int) < (m : Int) := by omega
   have HJ : Hid (j < m) := hlt
   have HN := Hid.intro hn
   have hjl : (j : Int) < (m : Int) := by omega
   clear cc1 cc2 p q r1 r2 hn
   go_wp2
   go_region_with (go_at_call 15; refine (eqTenant_any ej ek N _ (by simp [go_sem] <;> omega) (by first | exact HR1.out | exact HR1.out.kept (Below.refl _ _).drew | exact HR1.out.kept (Below.refl _ _).drew.drew) (by first | exact HR2.out | exact HR2.out.kept (Below.refl _ _).drew | exact HR2.out.kept (Below.refl _ _).drew.drew) HN.out).mono ?_; rintro e w2 ⟨rfl, b2⟩; have B2 := HC.out w2 (by first | exact b2 | exact ((Below.refl _ _).drew).trans b2 | exact ((Below.refl _ _).drew.drew).trans b2); clear b2)
   all_goals
    clear HC
    go_wp2
    go_roundw
    case rel => exact ⟨j + 1, by go_num, by omega, B2⟩
    case measure => simp [intOf]; omega
  ·obtain rfl : j = m := by omega
   go_wp2
   go_ret
   exact ⟨rfl, hbel⟩
/-- Is each of these tenants right? -/
def allTen (L : List Ten) : Bool := L.all (fun t => tenB t.key)
def stateB (L : List Ten) : Bool := decide (L.length = 3) && allTen L
theorem allTen_step {L : List Ten} {j : Nat} (h : j < L.length) : allTen (L.drop j) = (tenB L[j].key && allTen (L.drop (j + 1))) := by
 rw [List.drop_eq_getElem_cons h]; rfl
theorem allTen_end (L : List Ten) : allTen (L.drop L.length) = true := by rw [List.drop_length]; rfl
theorem allTen_key {L M : List Ten} (h : L.map Ten.key = M.map Ten.key) : allTen L = allTen M := by
 have h1 : ∀ L : List Ten, allTen L = (L.map Ten.key).all tenB := fun L => by unfold allTen; rw [List.all_map]; rfl
 rw [h1, h1, h]
theorem stateB_key {L M : List Ten} (h : L.map Ten.key = M.map Ten.key) : stateB L = stateB M := by
 unfold stateB
 rw [allTen_key h, show L.length = M.length by simpa using congrArg List.length h]
theorem TenW.of_keys {L M : List Ten} (h : L.map Ten.key = M.map Ten.key) (hM : ∀ t ∈ M, TenW t) : ∀ t ∈ L, TenW t := fun p hp => by
 have h1 : p.key ∈ L.map Ten.key := List.mem_map_of_mem hp
 rw [h] at h1
 obtain ⟨q, hq, e⟩ := List.mem_map.1 h1
 exact (hM q hq).of_key e.symm
set_option maxRecDepth 100000 in
set_option maxHeartbeats 4000000 in
theorem implStateOk_any (L : List Ten) (v : Value) (N : Nat) (w : World) (hN : N ≤ w.heap.size) (hr : StR w N v L) (hz : ∀ t ∈ L, TenW t) :
  Calls Tryz.prog 14 #[v] w fun e w' => e = .returned (.bool (stateB L)) ∧ Below w.heap.size w w' := by
 obtain ⟨a, cap, rfl, hl, hm, hcells⟩ := tnE_cell hr.row
 have HC := Hid.intro hcells
 have HZ := Hid.intro hz
 have HT := Hid.intro hr.ten
 obtain ⟨ans, hans⟩ : ∃ ans, stateB L = ans := ⟨_, rfl⟩
 rw [hans]
 have HA := Hid.intro hans
 clear hcells hz hr hans
 by_cases h3 : L.length = 3
 ·have HA0 : Hid (ans = allTen (L.drop 0)) := by unfold Hid; rw [← HA.out, stateB, decide_eq_true h3]; rfl
  have h3i : ((L.length : Int) != 3) = false := by rw [h3]; rfl
  have h3j : ((L.length : Int) == 3) = true := by rw [h3]; rfl
  have H3 := Hid.intro h3
  clear h3
  go_enter Tryz.func14, Tryz.ntmps14
  go_wp2_with fail
  go_loopw [10] (fun i wr => ∃ (j : Nat), i = .int .i64 j ∧ j ≤ L.length ∧ Hid (ans = allTen (L.drop j)) ∧ Hid (Below w.heap.size w wr)) (fun i _ => L.length - (intOf i).toNat)
  case atStart => exact ⟨0, rfl, Nat.zero_le _, HA0, Below.refl _ _⟩
  case round =>
   obtain ⟨j, rfl, hj, HJ, HBW⟩ := hrel
   have hzr := HBW.out.size
   by_cases hlt : j < L.length
   ·obtain ⟨b2, o2, rfl, hb2, hdd⟩ := HC.out (by intro h; rw [h] at hlt; simp at hlt)
    have hd := (hdd j hlt).at HBW.out (by omega)
    have hst := HJ.out.trans (allTen_step hlt)
    have htr := (HT.out _ (List.getElem_mem hlt)).kept (HBW.out.mono hN)
    have htw := HZ.out _ (List.getElem_mem hlt)
    generalize L[j] = ej at hd hst htr htw
    obtain ⟨g0, g1, g2, g3, g4⟩ := hd
    have HST := Hid.intro hst
    have HR := Hid.intro htr
    have HW := Hid.intro htw
    have hjl : (j : Int) < (L.length : Int) := by omega
    have i1 : (0 : Int) ≤ (j : Int) ∧ (j : Int) < (L.length : Int) := by omega
    clear hst htr htw hdd HJ
    go_upto_region 6 with fail
    obtain ⟨X, hX, bX, zX, cX, fX⟩ := boxed wr ej.arr 36
    try simp only [hX]
    have HBX : Hid (Below w.heap.size w X) := HBW.out.trans (bX.mono hzr)
    replace HR := Hid.intro (HR.out.kept (bX.mono (by omega)))
    clear hX fX g0 g1 g2 g3 g4 bX
    go_wp2_with fail
    refine (implTenantOk_any ej N X (by omega) HR.out HW.out).mono ?_
    rintro e w9 ⟨rfl, b9⟩
    have HBY : Hid (Below w.heap.size w w9) := HBX.out.trans (b9.mono (by omega))
    clear b9 cX
    cases hb : tenB ej.key with
    | false =>
     have HF : Hid (ans = false) := by unfold Hid; rw [HST.out, hb]; rfl
     go_wp2_with fail
     go_ret
     exact ⟨ret_bool HF.out.symm, HBY.out⟩
    | true =>
     have HF : Hid (ans = allTen (L.drop (j + 1))) := by unfold Hid; rw [HST.out, hb]; rfl
     go_wp2_with fail
     go_roundw
     case rel => exact ⟨j + 1, by go_num, by omega, HF, HBY⟩
     case measure => simp [intOf]; omega
   ·obtain rfl : j = L.length := by omega
    have HF : Hid (ans = true) := by unfold Hid; rw [HJ.out, allTen_end]
    go_wp2_with fail
    go_ret
    exact ⟨ret_bool HF.out.symm, HBW.out⟩
 ·have HF : Hid (ans = false) := by unfold Hid; rw [← HA.out, stateB, decide_eq_false h3]; rfl
  have h3i : ((L.length : Int) != 3) = true := by simp; omega
  have h3j : ((L.length : Int) == 3) = false := by simp; omega
  clear h3
  go_enter Tryz.func14, Tryz.ntmps14
  go_wp2_with fail
  go_ret
  exact ⟨ret_bool HF.out.symm, Below.refl _ _⟩
set_option maxRecDepth 100000 in
set_option maxHeartbeats 4000000 in
theorem specStateOk_any (L : List Ten) (v : Value) (N : Nat) (w : World) (hN : N ≤ w.heap.size) (hr : StR w N v L) (hz : ∀ t ∈ L, TenW t) :
  Calls Tryz.prog 26 #[v] w fun e w' => e = .returned (.bool (stateB L)) ∧ Below w.heap.size w w' := by
 obtain ⟨a, cap, rfl, hl, hm, hcells⟩ := tnE_cell hr.row
 have HC := Hid.intro hcells
 have HZ := Hid.intro hz
 have HT := Hid.intro hr.ten
 obtain ⟨ans, hans⟩ : ∃ ans, stateB L = ans := ⟨_, rfl⟩
 rw [hans]
 have HA := Hid.intro hans
 clear hcells hz hr hans
 by_cases h3 : L.length = 3
 ·have HA0 : Hid (ans = allTen (L.drop 0)) := by unfold Hid; rw [← HA.out, stateB, decide_eq_true h3]; rfl
  have h3i : ((L.length : Int) != 3) = false := by rw [h3]; rfl
  have h3j : ((L.length : Int) == 3) = true := by rw [h3]; rfl
  have H3 := Hid.intro h3
  clear h3
  go_enter Tryz.func26, Tryz.ntmps26
  go_wp2_with fail
  go_loopw [3] (fun i wr => ∃ (j : Nat), i = .int .i64 j ∧ j ≤ L.length ∧ Hid (ans = allTen (L.drop j)) ∧ Hid (Below w.heap.size w wr)) (fun i _ => L.length - (intOf i).toNat)
  case atStart => exact ⟨0, rfl, Nat.zero_le _, HA0, Below.refl _ _⟩
  case round =>
   obtain ⟨j, rfl, hj, HJ, HBW⟩ := hrel
   have hzr := HBW.out.size
   by_cases hlt : j < L.length
   ·obtain ⟨b2, o2, rfl, hb2, hdd⟩ := HC.out (by intro h; rw [h] at hlt; simp at hlt)
    have hd := (hdd j hlt).at HBW.out (by omega)
    have hst := HJ.out.trans (allTen_step hlt)
    have htr := (HT.out _ (List.getElem_mem hlt)).kept (HBW.out.mono hN)
    have htw := HZ.out _ (List.getElem_mem hlt)
    generalize L[j] = ej at hd hst htr htw
    obtain ⟨g0, g1, g2, g3, g4⟩ := hd
    have HST := Hid.intro hst
    have HR := Hid.intro htr
    have HW := Hid.intro htw
    have hjl : (j : Int) < (L.length : Int) := by omega
    have i1 : (0 : Int) ≤ (j : Int) ∧ (j : Int) < (L.length : Int) := by omega
    clear hst htr htw hdd HJ
    go_wp2_with fail
    refine (specTenantOk_any ej N wr (by omega) HR.out HW.out).mono ?_
    rintro e w9 ⟨rfl, b9⟩
    have HBY : Hid (Below w.heap.size w w9) := HBW.out.trans (b9.mono hzr)
    clear b9 g0 g1 g2 g3 g4
    cases hb : tenB ej.key with
    | false =>
     have HF : Hid (ans = false) := by unfold Hid; rw [HST.out, hb]; rfl
     go_wp2_with fail
     go_ret
     exact ⟨ret_bool HF.out.symm, HBY.out⟩
    | true =>
     have HF : Hid (ans = allTen (L.drop (j + 1))) := by unfold Hid; rw [HST.out, hb]; rfl
     go_wp2_with fail
     go_roundw
     case rel => exact ⟨j + 1, by go_num, by omega, HF, HBY⟩
     case measure => simp [intOf]; omega
   ·obtain rfl : j = L.length := by omega
    have HF : Hid (ans = true) := by unfold Hid; rw [HJ.out, allTen_end]
    go_wp2_with fail
    go_ret
    exact ⟨ret_bool HF.out.symm, HBW.out⟩
 ·have HF : Hid (ans = false) := by unfold Hid; rw [← HA.out, stateB, decide_eq_false h3]; rfl
  have h3i : ((L.length : Int) != 3) = true := by simp; omega
  have h3j : ((L.length : Int) == 3) = false := by simp; omega
  clear h3
  go_enter Tryz.func26, Tryz.ntmps26
  go_wp2_with fail
  go_ret
  exact ⟨ret_bool HF.out.symm, Below.refl _ _⟩
end Go.Proofs.YtknckbedddeijaaGreat
