/- A state that is marked holds its marks. -/
import Derived.Test.YtknckbedddeijaaGreatXWholeSt
namespace Go.Proofs.YtknckbedddeijaaGreat
open Go.RowKit
set_option linter.unusedVariables false
set_option maxRecDepth 100000 in
set_option maxHeartbeats 8000000 in
theorem heldTenantS_any (L P : List Ten) (v : Value) (N : Nat) (q : Int) (w : World) (hN : N ≤ w.heap.size) (hr : StR w N v P) (hP : P = markUL q L L.length) (hg : ∀ x ∈ L, Gd x) (hq : ∀ i, i < L.length → 1 ≤ qAt q L i ∧ qAt q L i ≤ 3000) :
  Calls Tryz.prog 8 #[v, .int .i64 q] w fun e w' => e = .returned (.int .i64 (qAt q L P.length)) ∧ Below w.heap.size w w' := by
 obtain ⟨a, cap, rfl, lc, hm, hcells⟩ := tnE_cell hr.row
 have HC := Hid.intro hcells
 have HT := Hid.intro hr.ten
 have HG := Hid.intro hg
 have HQ := Hid.intro hq
 have hpl : P.length = L.length := by rw [hP, markUL_len]
 have HPL := Hid.intro hpl
 have HPE : Hid (∀ i (h : i < P.length) (h2 : i < L.length), P[i] = mkU (qAt q L i) L[i]) := fun i h h2 => by
  subst hP
  rw [markUL_get q L L.length i h2 h, getD_ten h2]
 clear hcells hr hg hq hP hpl
 go_enter Tryz.func8, Tryz.ntmps8
 go_wp2
 go_loopw [1, 5] (fun x i wr => ∃ (j : Nat), i = .int .i64 j ∧ x = .int .i64 (qAt q L j) ∧ j ≤ P.length ∧ Below w.heap.size w wr) (fun _ i _ => P.length - (intOf i).toNat)
 case atStart => exact ⟨0, rfl, rfl, Nat.zero_le _, Below.refl _ _⟩
 case round =>
  obtain ⟨j, rfl, rfl, hj, hbel⟩ := hrel
  by_cases hlt : j < P.length
  ·obtain ⟨bb, off, rfl, hbN, hcc⟩ := HC.out (by intro h; rw [h] at hlt; simp at hlt)
   have hjL : j < L.length := by have := HPL.out; omega
   have hd := (hcc j hlt).at hbel (by omega)
   have htr := (HT.out _ (List.getElem_mem hlt)).kept (hbel.mono hN)
   have hgd := HG.out L[j] (List.getElem_mem hjL)
   have hqj := HQ.out j hjL
   have hnext : qAt q L (j + 1) = endU (qAt q L j) L[j] := by rw [qAt, getD_ten hjL]
   rw [HPE.out j hlt hjL] at hd htr
   generalize hq0 : qAt q L j = q0 at hqj hnext hd htr ⊢
   generalize L[j] = x at hd htr hgd hnext
   have hkb := kqI_bd (q := q0 + 1) hgd.n x.L.length
   have hl24 := hgd.l
   have ha20 := hgd.a
   have hs3 := hgd.s
   have hvr := htr.vol
   have har := htr.aud
   have hsr := htr.ses
   rw [mkU_u] at hvr
   rw [mkU_va] at har
   rw [mkU_vs] at hsr
   obtain ⟨g0, g1, g2, g3, g4⟩ := hd
   simp only [mkU, markNL_len, markTL_len, markSL_len] at g0 g1 g2 g3 g4 hvr har hsr
   have HK0 : Hid (endU q0 x = kqI (q0 + 1) x.L x.L.length + 1 + 5 * (x.A.length : Nat) + 5 * (x.S.length : Nat)) := rfl
   have hqa := hqj.1
   have hqb := hqj.2
   have HNX := Hid.intro hnext
   have HGD := Hid.intro hgd
   have HV := Hid.intro hvr
   have HA := Hid.intro har
   have HS := Hid.intro hsr
   have HMK : Hid (∀ i (h : i < (markNL (q0 + 1) x.L x.L.length).length), (markNL (q0 + 1) x.L x.L.length)[i] = mkAt (q0 + 1) x.L i) := fun i h => markNL_get (q0 + 1) x.L x.L.length i (by rw [markNL_len] at h; exact h) h
   have HML : Hid ((markNL (q0 + 1) x.L x.L.length).length = x.L.length) := markNL_len _ _ _
   have i1 : (0 : Int) ≤ (j : Int) ∧ (j : Int) < (P.length : Int) := by omega
   have i2 : (j : Int) < (P.length : Int) := by omega
   have hs := hbel.size
   clear hq0 hnext hqj htr hgd hvr har hsr hcc
   obtain ⟨K, hK⟩ : ∃ K, kqI (q0 + 1) x.L x.L.length = K := ⟨_, rfl⟩
   rw [hK] at g2 HA HS HK0 hkb
   have HK := Hid.intro hK
   clear hK
   have HW2 : Hid (∀ w', Below wr.heap.size wr w' → TnC w' bb (off + j * 5) ⟨q0, x.L, x.ua, x.uc, K, x.A, x.aa, x.ac, x.S, x.sa, x.sc⟩) := fun w' hb => TnC.at (B := wr.heap.size) ⟨g0, g1, g2, g3, g4⟩ hb (by omega)
   go_wp2_with fail
   clear g0 g1 g2 g3 g4
   refine (heldN_any (markNL (q0 + 1) x.L x.L.length) x.L x.u N (q0 + 1) wr (by omega) HV.out HMK.out (by rw [HML.out]; exact HGD.out.l) HGD.out.n (by omega) (by omega)).mono ?_
   rintro e w1 ⟨rfl, b1⟩
   rw [HML.out, HK.out]
   have hK0 : ¬ K < 0 := by omega
   obtain ⟨g0, g1, g2, g3, g4⟩ := HW2.out w1 b1
   simp only at g0 g1 g2 g3 g4
   go_wp2_with fail
   clear g0 g1 g2 g3 g4
   refine (heldNoteS_any _ x.va N (K + 1) w1 (by have := b1.size; omega) (HA.out.kept (b1.mono (by omega))) (fun i h => markTL_get (K + 1) x.A x.A.length i (by rw [markTL_len] at h; exact h) h) (by rw [markTL_len]; omega) (by omega) (by omega)).mono ?_
   rintro e w2 ⟨rfl, b2⟩
   rw [markTL_len]
   have B2 : Below wr.heap.size wr w2 := b1.trans (b2.mono b1.size)
   have hK1 : ¬ K + 1 + 5 * (x.A.length : Nat) < 0 := by omega
   obtain ⟨g0, g1, g2, g3, g4⟩ := HW2.out w2 B2
   simp only at g0 g1 g2 g3 g4
   clear b1 b2
   go_wp2_with fail
   clear g0 g1 g2 g3 g4
   refine (heldSessionS_any _ x.vs N (K + 1 + 5 * (x.A.length : Nat)) w2 (by have := B2.size; omega) (HS.out.kept (B2.mono (by omega))) (fun i h => markSL_get (K + 1 + 5 * (x.A.length : Nat)) x.S x.S.length i (by rw [markSL_len] at h; exact h) h) (by rw [markSL_len]; omega) (by omega) (by omega)).mono ?_
   rintro e w3 ⟨rfl, b3⟩
   rw [markSL_len]
   have HB3 : Hid (Below w.heap.size w w3) := hbel.trans ((B2.trans (b3.mono B2.size)).mono hs)
   have hK2 : ¬ K + 1 + 5 * (x.A.length : Nat) + 5 * (x.S.length : Nat) < 0 := by omega
   clear b3 B2 HW2
   go_wp2
   go_roundw
   case rel => exact ⟨j + 1, by go_num, by rw [HNX.out, HK0.out], by omega, HB3.out⟩
   case measure => simp [intOf]; omega
  ·obtain rfl : j = P.length := by omega
   go_wp2
   go_ret
   exact ⟨rfl, hbel⟩
end Go.Proofs.YtknckbedddeijaaGreat
