/- The laws' copy of a volume; two volumes held against each other. -/
import Derived.Test.YtegdogdlohoheaaVLawC
import Derived.Test.YtegdogdlohoheaaGSet
namespace Go.Proofs.Ytegdogdlohoheaa
open Go.RowKit
set_option linter.unusedVariables false
/-- The slice u, of memory from block base on, holds the inodes M. -/
structure VolO (w : World) (base : Nat) (u : Value) (M : List Np) : Prop where
 own : Own ndE 96 w base u M
 nms : ∀ p ∈ M, Own diE 130 w base p.v p.n.names
theorem VolO.rowAll {w : World} {base : Nat} {u : Value} {M : List Np} (h : VolO w base u M) : VolR w w.heap.size u M := ⟨h.own.rowAll, fun p hp => (h.nms p hp).rowAll⟩
theorem VolO.lower {w : World} {base base' : Nat} {u : Value} {M : List Np} (h : VolO w base u M) (hb : base' ≤ base) : VolO w base' u M := ⟨h.own.lower hb, fun p hp => (h.nms p hp).lower hb⟩
theorem VolO.kept {w w' : World} {base : Nat} {u : Value} {M : List Np} (h : VolO w base u M) (hb : Below w.heap.size w w') : VolO w' base u M := ⟨h.own.kept hb, fun p hp => (h.nms p hp).kept hb⟩
theorem VolO.only {w w' : World} {base : Nat} {S : Nat → Prop} {u : Value} {M : List Np} (h : VolO w base u M) (hb : Only S w w') (hv : ∀ k, base ≤ k → ¬ S k) : VolO w' base u M := ⟨h.own.only hb fun k hk => hv k (h.own.lt k hk).1, fun p hp => (h.nms p hp).only hb fun k hk => hv k ((h.nms p hp).lt k hk).1⟩
/-- The first inodes of a copy, with zeros behind. -/
def mixN (M : List Np) (k : Nat) : List Np := M ++ List.replicate (k - M.length) ndE.z
theorem mixN_len {M : List Np} {k : Nat} (h : M.length ≤ k) : (mixN M k).length = k := by simp [mixN]; omega
theorem mixN_nil (k : Nat) : mixN [] k = List.replicate k ndE.z := by simp [mixN]
theorem mixN_all {M : List Np} {k : Nat} (h : M.length = k) : mixN M k = M := by simp [mixN, h]
theorem mixN_step {M : List Np} {k : Nat} (h : M.length < k) (p : Np) : (mixN M k).set M.length p = mixN (M ++ [p]) k := by
 unfold mixN
 obtain ⟨m, hm⟩ : ∃ m, k - M.length = m + 1 := ⟨k - M.length - 1, by omega⟩
 rw [List.set_append_right _ _ (Nat.le_refl _), Nat.sub_self, hm, List.replicate_succ, List.set_cons_zero, List.length_append, List.length_singleton, show k - (M.length + 1) = m by omega, List.append_assoc]
 rfl
/-- So far copied: M, in block g. -/
structure CpI (w : World) (g len : Nat) (M : List Np) (L : List Np) : Prop where
 own : Own ndE 96 w g (.slice (some ⟨g, 0, none⟩) len len) (mixN M len)
 nms : ∀ p ∈ M, Own diE 130 w (g + 1) p.v p.n.names
 le : M.length ≤ len
 same : M.map Np.n = (L.take M.length).map Np.n
theorem CpI.kept {w w' : World} {g len : Nat} {M L : List Np} (h : CpI w g len M L) (hb : Below w.heap.size w w') : CpI w' g len M L := ⟨h.own.kept hb, fun p hp => (h.nms p hp).kept hb, h.le, h.same⟩
theorem CpI.next {w : World} {g len j : Nat} {M L : List Np} (h : CpI w g len M L) (hj : M.length = j) (hlt : j < len) (hL : len = L.length) (p : Np) (hp : Own diE 130 w (g + 1) p.v p.n.names) (hn : p.n = (L[j]'(by omega)).n) :
  CpI (setC w g (j * 9) (ndE.c p)) g len (M ++ [p]) L := by
 subst hj
 have hm := mixN_len h.le
 refine ⟨?_, ?_, by simp; omega, ?_⟩
 ·have := h.own.store hm (show M.length < len by omega) p
  rw [mixN_step hlt] at this
  exact this
 ·intro q hq
  have ho : Only (fun k => k = g) w (setC w g (M.length * 9) (ndE.c p)) := Only.setC (S := fun k => k = g) rfl _ _ (Only.refl _ _)
  have key : Own diE 130 w (g + 1) q.v q.n.names := by
   rcases List.mem_append.1 hq with hq | hq
   ·exact h.nms q hq
   ·rw [List.mem_singleton.1 hq]; exact hp
  exact key.only ho fun k hk e => by have := (key.lt k hk).1; omega
 ·rw [List.map_append, h.same, List.length_append, List.length_singleton, List.take_succ_eq_append_getElem (by omega), List.map_append]
  simp [hn]
set_option maxRecDepth 100000 in
set_option maxHeartbeats 4000000 in
theorem toInodeS_any (L : List Np) (v : Value) (N : Nat) (w : World) (hN : N ≤ w.heap.size) (hr : VolR w N v L) (hl : L.length ≤ 1048576) (hm : NmL L 1048576) :
  Calls Try.prog 108 #[v] w fun e w' => ∃ a cap M, e = .returned (.slice a L.length cap) ∧ VolO w' w.heap.size (.slice a L.length cap) M ∧ M.map Np.n = L.map Np.n ∧ Below w.heap.size w w' := by
 obtain ⟨i0, hi, hz0, hz1, hz2⟩ := infoN
 obtain ⟨a, cap, rfl, hlc, hmx, hcells⟩ := ndE_cell hr.row
 have HC := Hid.intro hcells
 have HL := Hid.intro hl
 have HM := Hid.intro hr.nms
 have HNM := Hid.intro hm
 clear hcells hr hm
 go_enter Try.func108, Try.ntmps108
 go_wp2_with (at_make; refine wpList_make_full _ rfl _ _ 22 rfl w.heap.size 96 i0 (.agg #[.int .i64 0, .int .i64 0, .int .i64 0, .int .i64 0, .int .i64 0, .string ⟨#[]⟩, .slice none 0 0, .int .i64 0, .int .i64 0]) 9 Try.underlying22 hi hz0 hz1 .i64 .i64 _ _ L.length rfl rfl rfl rfl (by rw [hz2]; have := HL.out; omega) (by unfold maxLen; have := HL.out; omega) (Nat.le_refl _) ?_; intro w1 hown hgrow; have HO := Hid.intro hown; have HG := Hid.intro hgrow; clear hown hgrow)
 have O1 : Own ndE 96 w1 w.heap.size (.slice (some ⟨w.heap.size, 0, none⟩) L.length L.length) (mixN [] L.length) := by
  rw [mixN_nil]
  exact Own.mk HO.out (by simp) (ndE.rep (.agg #[.int .i64 0, .int .i64 0, .int .i64 0, .int .i64 0, .int .i64 0, .string ⟨#[]⟩, .slice none 0 0, .int .i64 0, .int .i64 0]) rfl L.length)
 have B1 : Below w.heap.size w w1 := (grown_only HG.out).below (Nat.le_refl _) (fun k _ h => by cases h)
 have HO1 : Hid (CpI w1 w.heap.size L.length [] L) := ⟨O1, by simp, Nat.zero_le _, by simp⟩
 clear O1 HO HG hi hz0 hz1 hz2
 go_loopw [4] (fun i wr => ∃ (j : Nat) (M : List Np), i = .int .i64 j ∧ j ≤ L.length ∧ Hid (M.length = j) ∧ Hid (CpI wr w.heap.size L.length M L) ∧ Below w.heap.size w wr) (fun i _ => L.length - (intOf i).toNat)
 case atStart => exact ⟨0, [], rfl, Nat.zero_le _, rfl, HO1, B1⟩
 case round =>
  obtain ⟨j, M, rfl, hj, HML, HO, hbel⟩ := hrel
  by_cases hlt : j < L.length
  ·obtain ⟨b, off, rfl, hbN, hcc⟩ := HC.out (by intro h; rw [h] at hlt; simp at hlt)
   have hc := hcc j hlt
   have hnm := HM.out _ (List.getElem_mem hlt)
   have hnl := HNM.out _ (List.getElem_mem hlt)
   have hlj : ∀ p : Np, p.n = L[j].n → p.n = L[j].n := fun p h => h
   generalize hej : L[j] = ej at hc hnm hnl hlj
   have hs := hbel.size
   obtain ⟨g0, g1, g2, g3, g4, g5, g6, g7, g8⟩ := hc.kept hbel (by omega)
   have HR := Hid.intro (hnm.kept (hbel.mono hN))
   have HNL := Hid.intro hnl
   have HEJ := Hid.intro hej
   have hzw : w.heap.size < wr.heap.size := (HO.out.own.lt _ rfl).2
   clear hcc hc hnm hnl hlj hej
   go_wp2_with fail
   refine (toInode_any ej.n ej.v N _ (by omega) HR.out (by have := HNL.out; omega)).mono ?_
   rintro e w2 ⟨v', rfl, o2, b2⟩
   obtain ⟨a2, c2, rfl⟩ := o2.slice
   have HO2 := Hid.intro (HO.out.kept b2)
   have hb2 := hbel.trans (b2.mono (by omega))
   have hml := Hid.intro (mixN_len HO2.out.le)
   have hz2 : w.heap.size < w2.heap.size := (HO2.out.own.lt _ rfl).2
   obtain ⟨y0, q0⟩ := HO2.out.own.has hml.out hlt (i := 0) (by decide)
   obtain ⟨y1, q1⟩ := HO2.out.own.has hml.out hlt (i := 1) (by decide)
   obtain ⟨y2, q2⟩ := HO2.out.own.has hml.out hlt (i := 2) (by decide)
   obtain ⟨y3, q3⟩ := HO2.out.own.has hml.out hlt (i := 3) (by decide)
   obtain ⟨y4, q4⟩ := HO2.out.own.has hml.out hlt (i := 4) (by decide)
   obtain ⟨y5, q5⟩ := HO2.out.own.has hml.out hlt (i := 5) (by decide)
   obtain ⟨y6, q6⟩ := HO2.out.own.has hml.out hlt (i := 6) (by decide)
   obtain ⟨y7, q7⟩ := HO2.out.own.has hml.out hlt (i := 7) (by decide)
   obtain ⟨y8, q8⟩ := HO2.out.own.has hml.out hlt (i := 8) (by decide)
   simp only [Nat.add_zero, show ndE.n = 9 from rfl] at q0 q1 q2 q3 q4 q5 q6 q7 q8
   have f0 := HO2.out.own.frozen hml.out
   have HS : Hid (CpI (setC w2 w.heap.size (j * 9) (ndE.c ⟨ej.n, a2, c2⟩)) w.heap.size L.length (M ++ [⟨ej.n, a2, c2⟩]) L) := HO2.out.next HML.out hlt rfl ⟨ej.n, a2, c2⟩ (o2.raise fun k hk => by have := (o2.lt k hk).1; omega) (by rw [HEJ.out])
   have HBS : Hid (Below w.heap.size w (setC w2 w.heap.size (j * 9) (ndE.c ⟨ej.n, a2, c2⟩))) := Below.setC (Nat.le_refl _) _ _ hb2
   have HM2 : Hid ((M ++ [(⟨ej.n, a2, c2⟩ : Np)]).length = j + 1) := by have := HML.out; unfold Hid; simp; omega
   simp only [ndE, setC] at HS HBS
   clear g0 g1 g2 g3 g4 g5 g6 g7 g8 b2 o2 HO HO2 hml
   go_wp2
   go_roundw
   case rel => exact ⟨j + 1, _, by go_num, by omega, HM2, HS, HBS.out⟩
   case measure => simp [intOf]; omega
  ·obtain rfl : j = L.length := by omega
   have HA : Hid (VolO wr w.heap.size (.slice (some ⟨w.heap.size, 0, none⟩) L.length L.length) M ∧ M.map Np.n = L.map Np.n) := by
    have h1 := HO.out.own
    rw [mixN_all HML.out] at h1
    refine ⟨⟨h1, fun p hp => (HO.out.nms p hp).lower (Nat.le_succ _)⟩, ?_⟩
    have h2 := HO.out.same
    rw [HML.out, List.take_length] at h2
    exact h2
   clear HO
   go_wp2
   go_ret
   exact ⟨_, _, M, rfl, HA.out.1, HA.out.2, hbel⟩
set_option maxRecDepth 100000 in
set_option maxHeartbeats 2000000 in
theorem toVol_any (next : Int) (L : List Np) (v : Value) (N : Nat) (w : World) (hN : N ≤ w.heap.size) (hr : VolR w N v L) (hl : L.length ≤ 1048576) (hm : NmL L 1048576) :
  Calls Try.prog 79 #[volV next v] w fun e w' => ∃ a cap M, e = .returned (volV next (.slice a L.length cap)) ∧ VolO w' w.heap.size (.slice a L.length cap) M ∧ M.map Np.n = L.map Np.n ∧ Below w.heap.size w w' := by
 have HR := Hid.intro hr
 have HNM := Hid.intro hm
 clear hr hm
 go_enter Try.func79, Try.ntmps79
 go_wp2_with fail
 obtain ⟨W, hW, bW, zW, c1, f1, c2, f2, c3, f3⟩ := boxed3 w #[.int .i64 next, v] #[.int .i64 0, .slice none 0 0] #[.int .i64 next, .slice none 0 0] 75 24 24
 simp only [hW]
 refine (toInodeS_any L v N W (by omega) (HR.out.kept (bW.mono hN)) hl HNM.out).mono ?_
 rintro e w1 ⟨a', cap', M, rfl, o1, e1, b1⟩
 replace c2 := keepC b1 (by omega) c2
 replace f2 := keepF b1 (by omega) f2
 replace c3 := keepC b1 (by omega) c3
 replace f3 := keepF b1 (by omega) f3
 have z1 := b1.size
 have HO := Hid.intro o1
 have HE := Hid.intro e1
 have HB := Hid.intro (bW.trans (b1.mono (by omega)))
 have HZ := Hid.intro zW
 have hz1 : w.heap.size + 1 + 1 < w1.heap.size := by omega
 clear hW b1 c1 f1 o1 e1 bW zW
 go_wp2
 refine bodyPost_ret (v := volV next (.slice a' L.length cap')) (by simp [results, Try.results79, go_sem, c2]) rfl ⟨_, _, M, rfl, ?_, HE.out, ?_⟩
 ·refine VolO.lower (VolO.only HO.out (S := fun k => k = w.heap.size + 1 ∨ k = w.heap.size + 1 + 1) ?_ ?_) (show w.heap.size ≤ W.heap.size by have := HZ.out; omega)
  ·repeat (refine Only.setCell ?_ (by simp) _)
   exact Only.refl _ _
  ·intro k hk h
   have := HZ.out
   omega
 ·repeat (refine Below.setCell ?_ (by simp <;> omega) _)
  exact HB.out
set_option maxHeartbeats 2000000 in
theorem eqVol_any (next : Int) (L1 L2 : List Np) (v1 v2 : Value) (N : Nat) (w : World) (hN : N ≤ w.heap.size) (h1 : VolR w N v1 L1) (h2 : VolR w N v2 L2) (he : L1.map Np.n = L2.map Np.n) :
  Calls Try.prog 31 #[volV next v1, volV next v2] w fun e w' => e = .returned (.bool true) ∧ Below w.heap.size w w' := by
 have H1 := Hid.intro h1
 have H2 := Hid.intro h2
 clear h1 h2
 go_enter Try.func31, Try.ntmps31
 go_wp2_with fail
 obtain ⟨W, hW, bW, zW, c1, f1, c2, f2⟩ := boxed2 w #[.int .i64 next, v1] #[.int .i64 next, v2] 24 24
 try simp only [hW]
 refine (eqInodeS_any L1 L2 v1 v2 N W (by omega) (H1.out.kept (bW.mono hN)) (H2.out.kept (bW.mono hN)) he).mono ?_
 rintro e w1 ⟨rfl, b1⟩
 have HB := Hid.intro (bW.trans (b1.mono (by omega)))
 clear hW bW b1 c1 c2 f1 f2
 go_wp2
 go_ret
 exact ⟨rfl, HB.out⟩
end Go.Proofs.Ytegdogdlohoheaa
