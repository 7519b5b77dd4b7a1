/- A volume that was marked holds its marks. -/
import Derived.Test.YtpccnoiepmedeaaTMarkV
import Derived.Deep.RegionHeld3
namespace Go.Proofs.Ytpccnoiepmedeaa
open Go.RowKit
set_option linter.unusedVariables false
set_option maxRecDepth 100000 in
set_option maxHeartbeats 8000000 in
theorem heldN_any (P M : List Np) (v : Value) (N : Nat) (q : Int) (w : World) (hN : N ≤ w.heap.size) (hr : VolR w N v P) (hP : ∀ i (h : i < P.length), P[i] = mkAt q M i) (hl : P.length ≤ 24) (hn : ∀ p ∈ M, p.n.names.length ≤ 12) (h1 : 1 ≤ q) (h2 : q ≤ 1000) :
  Calls Try.prog 49 #[v, .int .i64 q] w fun e w' => e = .returned (.int .i64 (kqI q M P.length)) ∧ Below w.heap.size w w' := by
 obtain ⟨a, cap, rfl, lc, hm, hcells⟩ := ndE_cell hr.row
 have HC := Hid.intro hcells
 have HP := Hid.intro hP
 have HR := Hid.intro hr.nms
 have HKB : Hid (∀ j, q ≤ kqI q M j ∧ kqI q M j ≤ q + 32 * j) := fun j => kqI_bd hn j
 have HD : Hid (∀ j, (M.getD j ndE.z).n.names.length ≤ 12) := fun j => getD_names hn j
 clear hcells hP hr hn
 go_enter Try.func49, Try.ntmps49
 go_wp2
 go_loopw [1, 5] (fun x i wr => ∃ (j : Nat) (q0 : Int), i = .int .i64 j ∧ x = .int .i64 q0 ∧ Hid (q0 = kqI q M j) ∧ j ≤ P.length ∧ Hid (Below w.heap.size w wr)) (fun _ i _ => P.length - (intOf i).toNat)
 case atStart => exact ⟨0, q, rfl, rfl, rfl, Nat.zero_le _, Below.refl _ _⟩
 case round =>
  obtain ⟨j, q0, rfl, rfl, HQ, hj, HB⟩ := hrel
  have hkb := HKB.out j
  have hq0 : 1 ≤ q0 ∧ q0 ≤ 1000 + 32 * 24 := by have := HQ.out; omega
  clear hkb
  by_cases hlt : j < P.length
  ·obtain ⟨b, off, rfl, hbN, hcc⟩ := HC.out (by intro h; rw [h] at hlt; simp at hlt)
   have hc := hcc j hlt
   have hrj := HR.out _ (List.getElem_mem hlt)
   have hat : P[j] = mkN q0 (M.getD j ndE.z) := by rw [HP.out j hlt]; unfold mkAt; rw [← HQ.out]
   have hpn := HD.out j
   have hkn : kqI q M (j + 1) = q0 + 8 + 2 * ((M.getD j ndE.z).n.names.length : Nat) := by simp only [kqI]; rw [← HQ.out]
   rw [hat] at hc hrj
   generalize M.getD j ndE.z = p at hc hrj hpn hkn
   have hln := mkN_len q0 p
   obtain ⟨c0, c1, c2, c3, c4, c5, c6, c7, c8⟩ := hc.kept HB.out (by omega)
   have HRJ := Hid.intro (hrj.kept (HB.out.mono hN))
   have HKN := Hid.intro hkn
   have hs := HB.out.size
   have d0 : wr.cell? ⟨b, off + j * 9, none⟩ = some (.int .i64 q0) := c0
   have d1 : wr.cell? ⟨b, off + j * 9 + 1, none⟩ = some (.int .i64 (q0 + 1)) := c1
   have d2 : wr.cell? ⟨b, off + j * 9 + 2, none⟩ = some (.int .i64 (q0 + 1 + 1)) := by rw [c2]; simp only [mkN, Int.add_assoc, Int.reduceAdd]
   have d3 : wr.cell? ⟨b, off + j * 9 + 3, none⟩ = some (.int .i64 (q0 + 1 + 1 + 1)) := by rw [c3]; simp only [mkN, Int.add_assoc, Int.reduceAdd]
   have d4 : wr.cell? ⟨b, off + j * 9 + 4, none⟩ = some (.int .i64 (q0 + 1 + 1 + 1 + 1)) := by rw [c4]; simp only [mkN, Int.add_assoc, Int.reduceAdd]
   have d5 : wr.cell? ⟨b, off + j * 9 + 5, none⟩ = some (.string (markI (q0 + 1 + 1 + 1 + 1 + 1))) := by rw [c5]; simp only [mkN, Int.add_assoc, Int.reduceAdd]
   have d6 : wr.cell? ⟨b, off + j * 9 + 6, none⟩ = some (mkN q0 p).v := c6
   have d7 : wr.cell? ⟨b, off + j * 9 + 7, none⟩ = some (.int .i64 (q0 + 1 + 1 + 1 + 1 + 1 + 1 + 2 * (p.n.names.length : Nat))) := by rw [c7]; simp only [mkN, Int.add_assoc, Int.reduceAdd]
   have d8 : wr.cell? ⟨b, off + j * 9 + 8, none⟩ = some (.int .i64 (q0 + 1 + 1 + 1 + 1 + 1 + 1 + 2 * (p.n.names.length : Nat) + 1)) := by
    rw [c8]
    have e : q0 + 7 + 2 * (p.n.names.length : Nat) = q0 + 1 + 1 + 1 + 1 + 1 + 1 + 2 * (p.n.names.length : Nat) + 1 := by omega
    simp only [mkN, e]
   have HX : Hid (∀ w', Below wr.heap.size wr w' → w'.cell? ⟨b, off + j * 9 + 5, none⟩ = some (.string (markI (q0 + 1 + 1 + 1 + 1 + 1))) ∧ w'.cell? ⟨b, off + j * 9 + 6, none⟩ = some (mkN q0 p).v ∧ w'.cell? ⟨b, off + j * 9 + 7, none⟩ = some (.int .i64 (q0 + 1 + 1 + 1 + 1 + 1 + 1 + 2 * (p.n.names.length : Nat))) ∧ w'.cell? ⟨b, off + j * 9 + 8, none⟩ = some (.int .i64 (q0 + 1 + 1 + 1 + 1 + 1 + 1 + 2 * (p.n.names.length : Nat) + 1))) := fun w' hb => ⟨atCell hb d5 (by omega), atCell hb d6 (by omega), atCell hb d7 (by omega), atCell hb d8 (by omega)⟩
   have i1 : (0 : Int) ≤ (j : Int) ∧ (j : Int) < (P.length : Int) := by omega
   have i2 : (j : Int) < (P.length : Int) := by omega
   clear hcc hc hrj hat hkn c0 c1 c2 c3 c4 c5 c6 c7 c8
   go_upto_region 19 with fail
   clear d0 d1 d2 d3 d4
   go_cut [64] from 6 to 93 (fun s wc => s = .bool false ∧ Below wr.heap.size wr wc)
   case first =>
    clear d6 d7 d8
    go_region_with (go_at_call 48; refine (markText_int _ _ (by omega) (by omega)).mono ?_; rintro e w1 ⟨rfl, b1⟩; have x0 := (HX.out w1 (by first | exact b1 | exact ((Below.refl _ _).drew).trans b1)).1; have B1 : Below wr.heap.size wr w1 := (by first | exact b1 | exact ((Below.refl _ _).drew).trans b1); clear b1)
    all_goals
     clear HX d5
     go_wp2_with fail
     go_meet
     case rel => exact ⟨rfl, B1⟩
   case rest =>
   obtain ⟨rfl, bc⟩ := hcut
   clear d5 d6 d7 d8
   obtain ⟨d5, d6, d7, d8⟩ := HX.out wc bc
   have hbc := bc.size
   have HBC : Hid (Below w.heap.size w wc) := HB.out.trans (bc.mono hs)
   have HRC := Hid.intro (HRJ.out.kept (bc.mono (show N ≤ wr.heap.size by omega)))
   clear HX HB HRJ d5
   go_wp2_with fail
   refine (heldD_any (mkN q0 p).n.names (mkN q0 p).v N (q0 + 1 + 1 + 1 + 1 + 1 + 1) wc (by omega) HRC.out (fun i hi => ?_) (by rw [hln]; omega) (by omega) (by omega)).mono ?_
   ·have e : (mkN q0 p).n.names = markDL (q0 + 1 + 1 + 1 + 1 + 1 + 1) p.n.names p.n.names.length := by
     show markDL (q0 + 6) p.n.names p.n.names.length = _
     rw [show q0 + 6 = q0 + 1 + 1 + 1 + 1 + 1 + 1 by omega]
    simp only [e] at hi ⊢
    exact markDL_get _ _ _ i (by rw [markDL_len] at hi; exact hi) hi
   rintro e w1 ⟨rfl, b1⟩
   rw [hln]
   replace d7 := atCell b1 d7 (by omega)
   replace d8 := atCell b1 d8 (by omega)
   have HBF : Hid (Below w.heap.size w w1) := HBC.out.trans (b1.mono (by omega))
   clear d6 b1 HRC HBC
   go_wp2_with fail
   go_roundw
   case rel => exact ⟨j + 1, q0 + 8 + 2 * (p.n.names.length : Nat), by go_num, by go_num, HKN.out.symm, by omega, HBF⟩
   case measure => simp [intOf]; omega
  ·obtain rfl : j = P.length := by omega
   have hqe : q0 = kqI q M P.length := HQ.out
   go_wp2
   go_ret
   exact ⟨ret_int hqe, HB.out⟩
end Go.Proofs.Ytpccnoiepmedeaa
