/- The laws' helpers over creds and inodes: how great, copies, equal. -/
import Derived.Test.YtmkegmndcbpblaaGreatDoorVLawA
import Derived.Test.YtmkegmndcbpblaaGreatDoorVRow
import Derived.Test.YtmkegmndcbpblaaGreatDoorGSet
import Derived.Deep.RegionWith
import Derived.OwnWalk
import Derived.RegionTactic
import Derived.ChangeAlike
namespace Go.Proofs.YtmkegmndcbpblaaGreatDoor
open Go.RowKit
set_option linter.unusedVariables false
theorem New.slice {α : Type} {E : Enc α} {T : TypeId} {w w' : World} {v : Value} {L : List α} (h : New E T w w' v L) : ∃ a cap, v = .slice a L.length cap := h.own.slice
set_option maxHeartbeats 2000000 in
theorem szInode_any (n : Nd) (v : Value) (N : Nat) (left : Int) (w : World) (hN : N ≤ w.heap.size) (hs : n.data.size ≤ 9223372036854775807) (hr : Row diE w N v n.names) (hz : ∀ e ∈ n.names, e.nm.size ≤ 9223372036854775807) (h0 : 0 ≤ left) (h1 : left ≤ 1048576) :
  Calls Tryz.prog 25 #[ndV n v, .int .i64 left] w fun e w' => (∃ m, e = .returned (.int .i64 m) ∧ SzP left m n.names.length) ∧ Below w.heap.size w w' := by
 have HR := Hid.intro hr
 have HZ := Hid.intro hz
 clear hr hz
 by_cases hb : left - n.data.size < 0
 ·go_enter Tryz.func25, Tryz.ntmps25
  go_wp2
  go_ret
  exact ⟨⟨_, rfl, by unfold SzP; omega⟩, one_below _ _⟩
 ·go_enter Tryz.func25, Tryz.ntmps25
  go_wp2_with fail
  obtain ⟨W, hW, bW, zW, cW, fW⟩ := boxed w (ndA n v) 60
  try simp only [hW]
  refine (szDirentS_any n.names v N _ W (by omega) (HR.out.kept (bW.mono hN)) HZ.out (by omega) (by omega)).mono ?_
  rintro e w1 ⟨⟨m, rfl, hm⟩, b1⟩
  have HB := Hid.intro (bW.trans (b1.mono (by omega)))
  obtain ⟨m1, m2, m3⟩ := hm
  clear hW bW b1 cW fW
  by_cases hneg : m < 0
  ·clear m3
   go_wp2
   go_ret
   exact ⟨⟨_, rfl, by unfold SzP; omega⟩, HB.out⟩
  ·have m4 := m3 (by omega)
   clear m3
   go_wp2
   go_ret
   exact ⟨⟨_, rfl, by unfold SzP; omega⟩, HB.out⟩
set_option maxRecDepth 100000 in
set_option maxHeartbeats 2000000 in
theorem toInode_any (n : Nd) (v : Value) (N : Nat) (w : World) (hN : N ≤ w.heap.size) (hr : Row diE w N v n.names) (hl : n.names.length ≤ 1048576) :
  Calls Tryz.prog 38 #[ndV n v] w fun e w' => ∃ v', e = .returned (ndV n v') ∧ New diE 85 w w' v' n.names := by
 have HR := Hid.intro hr
 clear hr
 go_enter Tryz.func38, Tryz.ntmps38
 go_wp2_with fail
 obtain ⟨W, hW, bW, zW, c1, f1, c2, f2, c3, f3⟩ := boxed3 w (ndA n v) #[.int .i64 0, .int .i64 0, .int .i64 0, .int .i64 0, .int .i64 0, .string ⟨#[]⟩, .slice none 0 0, .int .i64 0, .int .i64 0] #[.int .i64 n.id, .int .i64 n.kind, .int .i64 n.mode, .int .i64 n.uid, .int .i64 n.gid, .string n.data, .slice none 0 0, .int .i64 0, .int .i64 0] 60 64 64
 simp only [hW]
 refine (toDirentS_any n.names v N W (by omega) (HR.out.kept (bW.mono hN)) hl).mono ?_
 rintro e w1 ⟨v', rfl, o1, b1⟩
 obtain ⟨a', cap', rfl⟩ := o1.slice
 replace c1 := keepC b1 (by omega) c1
 replace f1 := keepF b1 (by omega) f1
 replace c2 := keepC b1 (by omega) c2
 replace f2 := keepF b1 (by omega) f2
 replace c3 := keepC b1 (by omega) c3
 replace f3 := keepF b1 (by omega) f3
 have z1 := b1.size
 have HO := Hid.intro o1
 have HB := Hid.intro (bW.trans (b1.mono (by omega)))
 have HZ := Hid.intro zW
 have hz1 : w.heap.size + 1 + 1 < w1.heap.size := by omega
 clear hW b1 o1 bW zW
 go_wp2
 refine bodyPost_ret (v := ndV n (.slice a' n.names.length cap')) (by simp [results, Tryz.results38, go_sem, c2]) rfl ⟨_, rfl, ?_, ?_⟩
 ·refine Own.lower (Own.only HO.out (S := fun k => k = w.heap.size + 1 ∨ k = w.heap.size + 1 + 1) ?_ ?_) (by have := HZ.out; omega)
  ·repeat (refine Only.setCell ?_ (by simp) _)
   exact Only.refl _ _
  ·intro k hk h
   have := (HO.out.lt k hk).1
   have := HZ.out
   omega
 ·repeat (refine Below.setCell ?_ (by simp <;> omega) _)
  exact HB.out
set_option maxHeartbeats 2000000 in
theorem eqInode_any (n : Nd) (v1 v2 : Value) (N : Nat) (w : World) (hN : N ≤ w.heap.size) (h1 : Row diE w N v1 n.names) (h2 : Row diE w N v2 n.names) :
  Calls Tryz.prog 43 #[ndV n v1, ndV n v2] w fun e w' => e = .returned (.bool true) ∧ Below w.heap.size w w' := by
 have H1 := Hid.intro h1
 have H2 := Hid.intro h2
 clear h1 h2
 go_enter Tryz.func43, Tryz.ntmps43
 go_wp2_with fail
 obtain ⟨W, hW, bW, zW, c1, f1, c2, f2⟩ := boxed2 w (ndA n v1) (ndA n v2) 64 64
 try simp only [hW]
 refine (eqDirentS_any n.names v1 v2 N W (by omega) (H1.out.kept (bW.mono hN)) (H2.out.kept (bW.mono hN))).mono ?_
 rintro e w1 ⟨rfl, b1⟩
 replace c1 := keepC b1 (by omega) c1
 replace c2 := keepC b1 (by omega) c2
 have HB := Hid.intro (bW.trans (b1.mono (by omega)))
 clear hW bW b1 f1 f2
 go_wp2
 go_ret
 exact ⟨rfl, HB.out⟩
end Go.Proofs.YtmkegmndcbpblaaGreatDoor
namespace Go.Proofs.YtmkegmndcbpblaaGreatDoor
open Go.RowKit
set_option linter.unusedVariables false
theorem infoN' : (Tryz.prog.info? 64).map (fun i => (i.zero, i.size, i.bytes)) = some (some (.agg #[.int .i64 0, .int .i64 0, .int .i64 0, .int .i64 0, .int .i64 0, .string ⟨#[]⟩, .slice none 0 0, .int .i64 0, .int .i64 0]), 9, 96) := by kernel_rfl
theorem infoN : ∃ i, Tryz.prog.info? 64 = some i ∧ i.zero = some (.agg #[.int .i64 0, .int .i64 0, .int .i64 0, .int .i64 0, .int .i64 0, .string ⟨#[]⟩, .slice none 0 0, .int .i64 0, .int .i64 0]) ∧ i.size = 9 ∧ i.bytes = 96 := info_parts infoN'
/-- So many names and inodes. -/
def sizeL (L : List Nd) : Nat := L.length + (L.map fun n => n.names.length).sum
/-- Of each inode so many names at most. -/
def NmL (L : List Np) (m : Int) : Prop := ∀ p ∈ L, (p.n.names.length : Int) ≤ m
set_option maxRecDepth 100000 in
set_option maxHeartbeats 2000000 in
theorem szInodeS_any (L : List Np) (v : Value) (N : Nat) (left : Int) (w : World) (hN : N ≤ w.heap.size) (hr : VolR w N v L) (hz : ∀ p ∈ L, NdSz p.n) (h0 : 0 ≤ left) (h1 : left ≤ 1048576) :
  Calls Tryz.prog 13 #[v, .int .i64 left] w fun e w' => (∃ n, e = .returned (.int .i64 n) ∧ SzP left n L.length ∧ (0 ≤ n → NmL L 1048576)) ∧ Below w.heap.size w w' := by
 obtain ⟨a, cap, rfl, hl, hm, hcells⟩ := ndE_cell hr.row
 have HC := Hid.intro hcells
 have HZ := Hid.intro hz
 have HM := Hid.intro hr.nms
 clear hcells hz hr
 by_cases hb : left - L.length < 0
 ·go_enter Tryz.func13, Tryz.ntmps13
  go_wp2
  go_ret
  exact ⟨⟨_, rfl, by unfold SzP; omega, fun h => by omega⟩, Below.refl _ _⟩
 ·go_enter Tryz.func13, Tryz.ntmps13
  go_wp2
  go_loopw [1, 5] (fun q i wr => ∃ (j : Nat) (x : Int), i = .int .i64 j ∧ q = .int .i64 x ∧ j ≤ L.length ∧ 0 ≤ x ∧ x ≤ left ∧ Hid (NmL (L.take j) 1048576) ∧ Below w.heap.size w wr) (fun _ i _ => L.length - (intOf i).toNat)
  case atStart => exact ⟨0, _, rfl, rfl, Nat.zero_le _, by omega, by omega, by unfold Hid NmL; simp, Below.refl _ _⟩
  case round =>
   obtain ⟨j, x, rfl, rfl, hj, hx0, hx1, HNM, hbel⟩ := hrel
   by_cases hlt : j < L.length
   ·obtain ⟨b, off, rfl, hbN, hcc⟩ := HC.out (by intro h; rw [h] at hlt; simp at hlt)
    have hc := hcc j hlt
    have hsz := HZ.out _ (List.getElem_mem hlt)
    have hnm := HM.out _ (List.getElem_mem hlt)
    have hst : ∀ m : Int, m ≤ 1048576 → ((L[j].n.names.length : Nat) : Int) ≤ m → NmL (L.take (j + 1)) 1048576 := fun m hm hl p hp => by
     rw [List.take_succ_eq_append_getElem hlt] at hp
     rcases List.mem_append.1 hp with hp | hp
     ·exact HNM.out p hp
     ·rw [List.mem_singleton.1 hp]; omega
    generalize L[j] = ej at hc hsz hnm hst
    have hs := hbel.size
    obtain ⟨g0, g1, g2, g3, g4, g5, g6, g7, g8⟩ := hc.kept hbel (by omega)
    have HS := Hid.intro hsz
    have HR := Hid.intro (hnm.kept (hbel.mono hN))
    have HST := Hid.intro hst
    clear hcc hc hsz hnm hst
    go_wp2_with fail
    refine (szInode_any ej.n ej.v N x _ (by omega) HS.out.1 HR.out HS.out.2 hx0 (by omega)).mono ?_
    rintro e w1 ⟨⟨n, rfl, hn⟩, b1⟩
    have B1 := hbel.trans (b1.mono (by omega))
    have hn1 := hn.1
    have hn2 := hn.2.1
    have HN3 := Hid.intro hn.2.2
    clear g0 g1 g2 g3 g4 g5 g6 g7 g8 b1 hn
    by_cases hneg : n < 0
    ·go_wp2
     go_ret
     exact ⟨⟨_, rfl, by unfold SzP; omega, fun h => by omega⟩, B1⟩
    ·have HN4 := Hid.intro (HST.out x (by omega) (HN3.out (by omega)))
     go_wp2
     go_roundw
     case rel => exact ⟨j + 1, n, by go_num, rfl, by omega, by omega, by omega, HN4, B1⟩
     case measure => simp [intOf]; omega
   ·obtain rfl : j = L.length := by omega
    have HNL := HNM.out
    rw [List.take_length] at HNL
    have HNN := Hid.intro HNL
    clear HNL HNM
    go_wp2
    go_ret
    exact ⟨⟨_, rfl, by unfold SzP; omega, fun _ => HNN.out⟩, hbel⟩
set_option maxHeartbeats 1000000 in
theorem szVol_any (next : Int) (L : List Np) (v : Value) (N : Nat) (left : Int) (w : World) (hN : N ≤ w.heap.size) (hr : VolR w N v L) (hz : ∀ p ∈ L, NdSz p.n) (h0 : 0 ≤ left) (h1 : left ≤ 1048576) :
  Calls Tryz.prog 4 #[volV next v, .int .i64 left] w fun e w' => (∃ n, e = .returned (.int .i64 n) ∧ SzP left n L.length ∧ (0 ≤ n → NmL L 1048576)) ∧ Below w.heap.size w w' := by
 have HR := Hid.intro hr
 have HZ := Hid.intro hz
 clear hr hz
 go_enter Tryz.func4, Tryz.ntmps4
 go_wp2_with fail
 obtain ⟨W, hW, bW, zW, cW, fW⟩ := boxed w #[.int .i64 next, v] 24
 try simp only [hW]
 refine (szInodeS_any L v N _ W (by omega) (HR.out.kept (bW.mono hN)) HZ.out h0 h1).mono ?_
 rintro e w1 ⟨⟨n, rfl, hn, hm⟩, b1⟩
 have HB := Hid.intro (bW.trans (b1.mono (by omega)))
 have n1 := hn.1
 have n2 := hn.2.1
 have HNN := Hid.intro hn
 have HMM := Hid.intro hm
 clear hW cW fW bW b1 hn hm
 by_cases hneg : n < 0
 ·go_wp2
  go_ret
  exact ⟨⟨_, rfl, by unfold SzP; omega, fun h => by omega⟩, HB.out⟩
 ·go_wp2
  go_ret
  exact ⟨⟨_, rfl, HNN.out, HMM.out⟩, HB.out⟩
set_option maxRecDepth 100000 in
set_option maxHeartbeats 4000000 in
theorem eqInodeS_any (L1 L2 : List Np) (v1 v2 : Value) (N : Nat) (w : World) (hN : N ≤ w.heap.size) (h1 : VolR w N v1 L1) (h2 : VolR w N v2 L2) (he : L1.map Np.n = L2.map Np.n) :
  Calls Tryz.prog 23 #[v1, v2] w fun e w' => e = .returned (.bool true) ∧ Below w.heap.size w w' := by
 obtain ⟨a1, cap1, rfl, l1, m1, hc1⟩ := ndE_cell h1.row
 obtain ⟨a2, cap2, rfl, l2, m2, hc2⟩ := ndE_cell h2.row
 have hlen : L1.length = L2.length := by simpa using congrArg List.length he
 have H1 := Hid.intro hc1
 have H2 := Hid.intro hc2
 have M1 := Hid.intro h1.nms
 have M2 := Hid.intro h2.nms
 have HE := Hid.intro he
 clear hc1 hc2 h1 h2 he
 obtain ⟨m, hL2⟩ : ∃ m, L2.length = m := ⟨_, rfl⟩
 rw [hlen] at l1 ⊢
 rw [hL2] at l1 l2 ⊢
 go_enter Tryz.func23, Tryz.ntmps23
 go_wp2
 go_loopw [5] (fun i wr => ∃ (j : Nat), i = .int .i64 j ∧ j ≤ m ∧ Below w.heap.size w wr) (fun i _ => m - (intOf i).toNat)
 case atStart => exact ⟨0, rfl, Nat.zero_le _, Below.refl _ _⟩
 case round =>
  obtain ⟨j, rfl, hj, hbel⟩ := hrel
  by_cases hlt : j < m
  ·obtain ⟨b1, o1, rfl, hb1, cc1⟩ := H1.out (by intro h; rw [h] at hlen; simp only [List.length_nil] at hlen; omega)
   obtain ⟨b2, o2, rfl, hb2, cc2⟩ := H2.out (by intro h; rw [h] at hL2; simp only [List.length_nil] at hL2; omega)
   have p := cc1 j (by omega)
   have q := cc2 j (by omega)
   have r1 := M1.out _ (List.getElem_mem (show j < L1.length by omega))
   have r2 := M2.out _ (List.getElem_mem (show j < L2.length by omega))
   have hn : L1[j].n = L2[j].n := by
    have : (L1.map Np.n)[j]? = (L2.map Np.n)[j]? := by rw [HE.out]
    simpa [List.getElem?_eq_getElem (show j < L1.length by omega), List.getElem?_eq_getElem (show j < L2.length by omega)] using this
   generalize L1[j] = ej at p r1 hn
   generalize L2[j] = ek at q r2 hn
   obtain ⟨nj, aj, cj⟩ := ej
   obtain ⟨nk, ak, ck⟩ := ek
   simp only [Np.v] at p q r1 r2 hn
   subst hn
   have hs := hbel.size
   have HC : Hid (∀ w', Below wr.heap.size wr w' → Below w.heap.size w w') := fun w' hb => hbel.trans (hb.mono hs)
   have HR1 := Hid.intro (r1.kept (hbel.mono hN))
   have HR2 := Hid.intro (r2.kept (hbel.mono hN))
   obtain ⟨x0, x1, x2, x3, x4, x5, x6, x7, x8⟩ := p.kept hbel (by omega)
   obtain ⟨y0, y1, y2, y3, y4, y5, y6, y7, y8⟩ := q.kept hbel (by omega)
   have i1 : (0 : Int) ≤ (j : Int) ∧ (j : Int) < (m : Int) := by omega
   have HJ : Hid (j < m) := hlt
   have hjl : (j : Int) < (m : Int) := by omega
   clear cc1 cc2 p q r1 r2
   go_wp2
   go_region_with (go_at_call 43; refine (eqInode_any nj _ _ N _ (by simp [go_sem] <;> omega) (by first | exact HR1.out | exact HR1.out.kept (Below.refl _ _).drew | exact HR1.out.kept (Below.refl _ _).drew.drew) (by first | exact HR2.out | exact HR2.out.kept (Below.refl _ _).drew | exact HR2.out.kept (Below.refl _ _).drew.drew)).mono ?_; rintro e w2 ⟨rfl, b2⟩; have B2 := HC.out w2 (by first | exact b2 | exact ((Below.refl _ _).drew).trans b2 | exact ((Below.refl _ _).drew.drew).trans b2); clear b2)
   all_goals
    clear HC
    go_wp2
    go_roundw
    case rel => exact ⟨j + 1, by go_num, by omega, B2⟩
    case measure => simp [intOf]; omega
  ·obtain rfl : j = m := by omega
   go_wp2
   go_ret
   exact ⟨rfl, hbel⟩
end Go.Proofs.YtmkegmndcbpblaaGreatDoor
namespace Go.Proofs.YtmkegmndcbpblaaGreatDoor
open Go.RowKit
set_option linter.unusedVariables false
/-- The slice u, of memory from block base on, holds the inodes M. -/
structure VolO (w : World) (base : Nat) (u : Value) (M : List Np) : Prop where
 own : Own ndE 64 w base u M
 nms : ∀ p ∈ M, Own diE 85 w base p.v p.n.names
theorem VolO.rowAll {w : World} {base : Nat} {u : Value} {M : List Np} (h : VolO w base u M) : VolR w w.heap.size u M := ⟨h.own.rowAll, fun p hp => (h.nms p hp).rowAll⟩
theorem VolO.lower {w : World} {base base' : Nat} {u : Value} {M : List Np} (h : VolO w base u M) (hb : base' ≤ base) : VolO w base' u M := ⟨h.own.lower hb, fun p hp => (h.nms p hp).lower hb⟩
theorem VolO.kept {w w' : World} {base : Nat} {u : Value} {M : List Np} (h : VolO w base u M) (hb : Below w.heap.size w w') : VolO w' base u M := ⟨h.own.kept hb, fun p hp => (h.nms p hp).kept hb⟩
theorem VolO.only {w w' : World} {base : Nat} {S : Nat → Prop} {u : Value} {M : List Np} (h : VolO w base u M) (hb : Only S w w') (hv : ∀ k, base ≤ k → ¬ S k) : VolO w' base u M := ⟨h.own.only hb fun k hk => hv k (h.own.lt k hk).1, fun p hp => (h.nms p hp).only hb fun k hk => hv k ((h.nms p hp).lt k hk).1⟩
/-- The first inodes of a copy, with zeros behind. -/
def mixN (M : List Np) (k : Nat) : List Np := M ++ List.replicate (k - M.length) ndE.z
theorem mixN_len {M : List Np} {k : Nat} (h : M.length ≤ k) : (mixN M k).length = k := by simp [mixN]; omega
theorem mixN_nil (k : Nat) : mixN [] k = List.replicate k ndE.z := by simp [mixN]
theorem mixN_all {M : List Np} {k : Nat} (h : M.length = k) : mixN M k = M := by simp [mixN, h]
theorem mixN_step {M : List Np} {k : Nat} (h : M.length < k) (p : Np) : (mixN M k).set M.length p = mixN (M ++ [p]) k := by
 unfold mixN
 obtain ⟨m, hm⟩ : ∃ m, k - M.length = m + 1 := ⟨k - M.length - 1, by omega⟩
 rw [List.set_append_right _ _ (Nat.le_refl _), Nat.sub_self, hm, List.replicate_succ, List.set_cons_zero, List.length_append, List.length_singleton, show k - (M.length + 1) = m by omega, List.append_assoc]
 rfl
/-- So far copied: M, in block g. -/
structure CpI (w : World) (g len : Nat) (M : List Np) (L : List Np) : Prop where
 own : Own ndE 64 w g (.slice (some ⟨g, 0, none⟩) len len) (mixN M len)
 nms : ∀ p ∈ M, Own diE 85 w (g + 1) p.v p.n.names
 le : M.length ≤ len
 same : M.map Np.n = (L.take M.length).map Np.n
theorem CpI.kept {w w' : World} {g len : Nat} {M L : List Np} (h : CpI w g len M L) (hb : Below w.heap.size w w') : CpI w' g len M L := ⟨h.own.kept hb, fun p hp => (h.nms p hp).kept hb, h.le, h.same⟩
theorem CpI.next {w : World} {g len j : Nat} {M L : List Np} (h : CpI w g len M L) (hj : M.length = j) (hlt : j < len) (hL : len = L.length) (p : Np) (hp : Own diE 85 w (g + 1) p.v p.n.names) (hn : p.n = (L[j]'(by omega)).n) :
  CpI (setC w g (j * 9) (ndE.c p)) g len (M ++ [p]) L := by
 subst hj
 have hm := mixN_len h.le
 refine ⟨?_, ?_, by simp; omega, ?_⟩
 ·have := h.own.store hm (show M.length < len by omega) p
  rw [mixN_step hlt] at this
  exact this
 ·intro q hq
  have ho : Only (fun k => k = g) w (setC w g (M.length * 9) (ndE.c p)) := Only.setC (S := fun k => k = g) rfl _ _ (Only.refl _ _)
  have key : Own diE 85 w (g + 1) q.v q.n.names := by
   rcases List.mem_append.1 hq with hq | hq
   ·exact h.nms q hq
   ·rw [List.mem_singleton.1 hq]; exact hp
  exact key.only ho fun k hk e => by have := (key.lt k hk).1; omega
 ·rw [List.map_append, h.same, List.length_append, List.length_singleton, List.take_succ_eq_append_getElem (by omega), List.map_append]
  simp [hn]
set_option maxRecDepth 100000 in
set_option maxHeartbeats 4000000 in
theorem toInodeS_any (L : List Np) (v : Value) (N : Nat) (w : World) (hN : N ≤ w.heap.size) (hr : VolR w N v L) (hl : L.length ≤ 1048576) (hm : NmL L 1048576) :
  Calls Tryz.prog 19 #[v] w fun e w' => ∃ a cap M, e = .returned (.slice a L.length cap) ∧ VolO w' w.heap.size (.slice a L.length cap) M ∧ M.map Np.n = L.map Np.n ∧ Below w.heap.size w w' := by
 obtain ⟨i0, hi, hz0, hz1, hz2⟩ := infoN
 obtain ⟨a, cap, rfl, hlc, hmx, hcells⟩ := ndE_cell hr.row
 have HC := Hid.intro hcells
 have HL := Hid.intro hl
 have HM := Hid.intro hr.nms
 have HNM := Hid.intro hm
 clear hcells hr hm
 go_enter Tryz.func19, Tryz.ntmps19
 go_wp2_with (at_make; refine wpList_make_full _ rfl _ _ 33 rfl w.heap.size 64 i0 (.agg #[.int .i64 0, .int .i64 0, .int .i64 0, .int .i64 0, .int .i64 0, .string ⟨#[]⟩, .slice none 0 0, .int .i64 0, .int .i64 0]) 9 Tryz.underlying33 hi hz0 hz1 .i64 .i64 _ _ L.length rfl rfl rfl rfl (by rw [hz2]; have := HL.out; omega) (by unfold maxLen; have := HL.out; omega) (Nat.le_refl _) ?_; intro w1 hown hgrow; have HO := Hid.intro hown; have HG := Hid.intro hgrow; clear hown hgrow)
 have O1 : Own ndE 64 w1 w.heap.size (.slice (some ⟨w.heap.size, 0, none⟩) L.length L.length) (mixN [] L.length) := by
  rw [mixN_nil]
  exact Own.mk HO.out (by simp) (ndE.rep (.agg #[.int .i64 0, .int .i64 0, .int .i64 0, .int .i64 0, .int .i64 0, .string ⟨#[]⟩, .slice none 0 0, .int .i64 0, .int .i64 0]) rfl L.length)
 have B1 : Below w.heap.size w w1 := (grown_only HG.out).below (Nat.le_refl _) (fun k _ h => by cases h)
 have HO1 : Hid (CpI w1 w.heap.size L.length [] L) := ⟨O1, by simp, Nat.zero_le _, by simp⟩
 clear O1 HO HG hi hz0 hz1 hz2
 go_loopw [4] (fun i wr => ∃ (j : Nat) (M : List Np), i = .int .i64 j ∧ j ≤ L.length ∧ Hid (M.length = j) ∧ Hid (CpI wr w.heap.size L.length M L) ∧ Below w.heap.size w wr) (fun i _ => L.length - (intOf i).toNat)
 case atStart => exact ⟨0, [], rfl, Nat.zero_le _, rfl, HO1, B1⟩
 case round =>
  obtain ⟨j, M, rfl, hj, HML, HO, hbel⟩ := hrel
  by_cases hlt : j < L.length
  ·obtain ⟨b, off, rfl, hbN, hcc⟩ := HC.out (by intro h; rw [h] at hlt; simp at hlt)
   have hc := hcc j hlt
   have hnm := HM.out _ (List.getElem_mem hlt)
   have hnl := HNM.out _ (List.getElem_mem hlt)
   have hlj : ∀ p : Np, p.n = L[j].n → p.n = L[j].n := fun p h => h
   generalize hej : L[j] = ej at hc hnm hnl hlj
   have hs := hbel.size
   obtain ⟨g0, g1, g2, g3, g4, g5, g6, g7, g8⟩ := hc.kept hbel (by omega)
   have HR := Hid.intro (hnm.kept (hbel.mono hN))
   have HNL := Hid.intro hnl
   have HEJ := Hid.intro hej
   have hzw : w.heap.size < wr.heap.size := (HO.out.own.lt _ rfl).2
   clear hcc hc hnm hnl hlj hej
   go_wp2_with fail
   refine (toInode_any ej.n ej.v N _ (by omega) HR.out (by have := HNL.out; omega)).mono ?_
   rintro e w2 ⟨v', rfl, o2, b2⟩
   obtain ⟨a2, c2, rfl⟩ := o2.slice
   have HO2 := Hid.intro (HO.out.kept b2)
   have hb2 := hbel.trans (b2.mono (by omega))
   have hml := Hid.intro (mixN_len HO2.out.le)
   have hz2 : w.heap.size < w2.heap.size := (HO2.out.own.lt _ rfl).2
   obtain ⟨y0, q0⟩ := HO2.out.own.has hml.out hlt (i := 0) (by decide)
   obtain ⟨y1, q1⟩ := HO2.out.own.has hml.out hlt (i := 1) (by decide)
   obtain ⟨y2, q2⟩ := HO2.out.own.has hml.out hlt (i := 2) (by decide)
   obtain ⟨y3, q3⟩ := HO2.out.own.has hml.out hlt (i := 3) (by decide)
   obtain ⟨y4, q4⟩ := HO2.out.own.has hml.out hlt (i := 4) (by decide)
   obtain ⟨y5, q5⟩ := HO2.out.own.has hml.out hlt (i := 5) (by decide)
   obtain ⟨y6, q6⟩ := HO2.out.own.has hml.out hlt (i := 6) (by decide)
   obtain ⟨y7, q7⟩ := HO2.out.own.has hml.out hlt (i := 7) (by decide)
   obtain ⟨y8, q8⟩ := HO2.out.own.has hml.out hlt (i := 8) (by decide)
   simp only [Nat.add_zero, show ndE.n = 9 from rfl] at q0 q1 q2 q3 q4 q5 q6 q7 q8
   have f0 := HO2.out.own.frozen hml.out
   have HS : Hid (CpI (setC w2 w.heap.size (j * 9) (ndE.c ⟨ej.n, a2, c2⟩)) w.heap.size L.length (M ++ [⟨ej.n, a2, c2⟩]) L) := HO2.out.next HML.out hlt rfl ⟨ej.n, a2, c2⟩ (o2.raise fun k hk => by have := (o2.lt k hk).1; omega) (by rw [HEJ.out])
   have HBS : Hid (Below w.heap.size w (setC w2 w.heap.size (j * 9) (ndE.c ⟨ej.n, a2, c2⟩))) := Below.setC (Nat.le_refl _) _ _ hb2
   have HM2 : Hid ((M ++ [(⟨ej.n, a2, c2⟩ : Np)]).length = j + 1) := by have := HML.out; unfold Hid; simp; omega
   simp only [ndE, setC] at HS HBS
   clear g0 g1 g2 g3 g4 g5 g6 g7 g8 b2 o2 HO HO2 hml
   go_wp2
   go_roundw
   case rel => exact ⟨j + 1, _, by go_num, by omega, HM2, HS, HBS.out⟩
   case measure => simp [intOf]; omega
  ·obtain rfl : j = L.length := by omega
   have HA : Hid (VolO wr w.heap.size (.slice (some ⟨w.heap.size, 0, none⟩) L.length L.length) M ∧ M.map Np.n = L.map Np.n) := by
    have h1 := HO.out.own
    rw [mixN_all HML.out] at h1
    refine ⟨⟨h1, fun p hp => (HO.out.nms p hp).lower (Nat.le_succ _)⟩, ?_⟩
    have h2 := HO.out.same
    rw [HML.out, List.take_length] at h2
    exact h2
   clear HO
   go_wp2
   go_ret
   exact ⟨_, _, M, rfl, HA.out.1, HA.out.2, hbel⟩
set_option maxRecDepth 100000 in
set_option maxHeartbeats 2000000 in
theorem toVol_any (next : Int) (L : List Np) (v : Value) (N : Nat) (w : World) (hN : N ≤ w.heap.size) (hr : VolR w N v L) (hl : L.length ≤ 1048576) (hm : NmL L 1048576) :
  Calls Tryz.prog 7 #[volV next v] w fun e w' => ∃ a cap M, e = .returned (volV next (.slice a L.length cap)) ∧ VolO w' w.heap.size (.slice a L.length cap) M ∧ M.map Np.n = L.map Np.n ∧ Below w.heap.size w w' := by
 have HR := Hid.intro hr
 have HNM := Hid.intro hm
 clear hr hm
 go_enter Tryz.func7, Tryz.ntmps7
 go_wp2_with fail
 obtain ⟨W, hW, bW, zW, c1, f1, c2, f2, c3, f3⟩ := boxed3 w #[.int .i64 next, v] #[.int .i64 0, .slice none 0 0] #[.int .i64 next, .slice none 0 0] 24 35 35
 simp only [hW]
 refine (toInodeS_any L v N W (by omega) (HR.out.kept (bW.mono hN)) hl HNM.out).mono ?_
 rintro e w1 ⟨a', cap', M, rfl, o1, e1, b1⟩
 replace c2 := keepC b1 (by omega) c2
 replace f2 := keepF b1 (by omega) f2
 replace c3 := keepC b1 (by omega) c3
 replace f3 := keepF b1 (by omega) f3
 have z1 := b1.size
 have HO := Hid.intro o1
 have HE := Hid.intro e1
 have HB := Hid.intro (bW.trans (b1.mono (by omega)))
 have HZ := Hid.intro zW
 have hz1 : w.heap.size + 1 + 1 < w1.heap.size := by omega
 clear hW b1 c1 f1 o1 e1 bW zW
 go_wp2
 refine bodyPost_ret (v := volV next (.slice a' L.length cap')) (by simp [results, Tryz.results7, go_sem, c2]) rfl ⟨_, _, M, rfl, ?_, HE.out, ?_⟩
 ·refine VolO.lower (VolO.only HO.out (S := fun k => k = w.heap.size + 1 ∨ k = w.heap.size + 1 + 1) ?_ ?_) (show w.heap.size ≤ W.heap.size by have := HZ.out; omega)
  ·repeat (refine Only.setCell ?_ (by simp) _)
   exact Only.refl _ _
  ·intro k hk h
   have := HZ.out
   omega
 ·repeat (refine Below.setCell ?_ (by simp <;> omega) _)
  exact HB.out
set_option maxHeartbeats 2000000 in
theorem eqVol_any (next : Int) (L1 L2 : List Np) (v1 v2 : Value) (N : Nat) (w : World) (hN : N ≤ w.heap.size) (h1 : VolR w N v1 L1) (h2 : VolR w N v2 L2) (he : L1.map Np.n = L2.map Np.n) :
  Calls Tryz.prog 11 #[volV next v1, volV next v2] w fun e w' => e = .returned (.bool true) ∧ Below w.heap.size w w' := by
 have H1 := Hid.intro h1
 have H2 := Hid.intro h2
 clear h1 h2
 go_enter Tryz.func11, Tryz.ntmps11
 go_wp2_with fail
 obtain ⟨W, hW, bW, zW, c1, f1, c2, f2⟩ := boxed2 w #[.int .i64 next, v1] #[.int .i64 next, v2] 35 35
 try simp only [hW]
 refine (eqInodeS_any L1 L2 v1 v2 N W (by omega) (H1.out.kept (bW.mono hN)) (H2.out.kept (bW.mono hN)) he).mono ?_
 rintro e w1 ⟨rfl, b1⟩
 have HB := Hid.intro (bW.trans (b1.mono (by omega)))
 clear hW bW b1 c1 c2 f1 f2
 go_wp2
 go_ret
 exact ⟨rfl, HB.out⟩
end Go.Proofs.YtmkegmndcbpblaaGreatDoor
namespace Go.Proofs.YtmkegmndcbpblaaGreatDoor
open Go.RowKit
set_option linter.unusedVariables false
theorem szIntS_any (L : List Int) (v : Value) (N : Nat) (left : Int) (w : World) (hr : Row intE w N v L) (h0 : 0 ≤ left) (h1 : left ≤ 1048576) :
  Calls Tryz.prog 14 #[v, .int .i64 left] w fun e w' => (∃ n, e = .returned (.int .i64 n) ∧ SzP left n L.length) ∧ w = w' := by
 obtain ⟨a, cap, rfl, hl, hm⟩ := hr.slice
 clear hr
 by_cases hb : left - L.length < 0
 ·go_enter Tryz.func14, Tryz.ntmps14
  go_wp2
  go_ret
  exact ⟨⟨_, rfl, by unfold SzP; omega⟩, rfl⟩
 ·go_enter Tryz.func14, Tryz.ntmps14
  go_wp2
  go_ret
  exact ⟨⟨_, rfl, by unfold SzP; omega⟩, rfl⟩
set_option maxRecDepth 100000 in
set_option maxHeartbeats 2000000 in
theorem toIntS_any (L : List Int) (v : Value) (N : Nat) (w : World) (hN : N ≤ w.heap.size) (hr : Row intE w N v L) (hl : L.length ≤ 1048576) :
  Calls Tryz.prog 20 #[v] w fun e w' => ∃ v', e = .returned v' ∧ New intE 3 w w' v' L := by
 obtain ⟨i0, hi, hz0, hz1, hz2⟩ := infoI
 obtain ⟨a, cap, rfl, hlc, hm, hcells⟩ := intE_cell hr
 have HC := Hid.intro hcells
 have HL := Hid.intro hl
 clear hcells hr
 go_enter Tryz.func20, Tryz.ntmps20
 go_wp2_with (at_make; refine wpList_make_full _ rfl _ _ 25 rfl w.heap.size 3 i0 (.int .i64 0) 1 Tryz.underlying25 hi hz0 hz1 .i64 .i64 _ _ L.length rfl rfl rfl rfl (by rw [hz2]; have := HL.out; omega) (by unfold maxLen; have := HL.out; omega) (Nat.le_refl _) ?_; intro w1 hown hgrow; have HO := Hid.intro hown; have HG := Hid.intro hgrow; clear hown hgrow)
 have O1 : Own intE 3 w1 w.heap.size (.slice (some ⟨w.heap.size, 0, none⟩) L.length L.length) (intE.mix L 0) := by
  rw [intE.mix_zero]
  exact Own.mk HO.out (by simp) (intE.rep (.int .i64 0) rfl L.length)
 have B1 : Below w.heap.size w w1 := (grown_only HG.out).below (Nat.le_refl _) (fun k _ h => by cases h)
 have HO1 := Hid.intro O1
 clear O1 HO HG hi hz0 hz1 hz2
 go_loopw [4] (fun i wr => ∃ (j : Nat), i = .int .i64 j ∧ j ≤ L.length ∧ Hid (Own intE 3 wr w.heap.size (.slice (some ⟨w.heap.size, 0, none⟩) L.length L.length) (intE.mix L j)) ∧ Below w.heap.size w wr) (fun i _ => L.length - (intOf i).toNat)
 case atStart => exact ⟨0, rfl, Nat.zero_le _, HO1, B1⟩
 case round =>
  obtain ⟨j, rfl, hj, HO, hbel⟩ := hrel
  by_cases hlt : j < L.length
  ·obtain ⟨b, off, rfl, hbN, hcc⟩ := HC.out (by intro h; rw [h] at hlt; simp at hlt)
   have c0 := hcc j hlt
   have hst := intE.mix_step L j hlt
   have hml := intE.mix_len L j hj
   generalize L[j] = ej at c0 hst
   have g0 := atCell hbel c0 (by omega)
   have hs := hbel.size
   have HST := Hid.intro hst
   have HML := Hid.intro hml
   clear hcc c0 hst hml
   obtain ⟨y0, q0⟩ := HO.out.has HML.out hlt (i := 0) (by decide)
   simp only [Nat.add_zero, show intE.n = 1 from rfl, Nat.mul_one] at q0
   have f0 := HO.out.frozen HML.out
   have HS : Hid (Own intE 3 (wr.setCell ⟨w.heap.size, j, none⟩ (.int .i64 ej)) w.heap.size (.slice (some ⟨w.heap.size, 0, none⟩) L.length L.length) (intE.mix L (j + 1))) := by
    unfold Hid
    rw [← HST.out]
    have := HO.out.store HML.out hlt ej
    rw [show intE.n = 1 from rfl, Nat.mul_one] at this
    exact this
   have hz2 : w.heap.size < wr.heap.size := by have := (HO.out.lt _ rfl).2; exact this
   clear HO HST HML
   go_wp2
   go_roundw
   case rel => exact ⟨j + 1, by go_num, by omega, HS, hbel.setCell (Nat.le_refl _) _⟩
   case measure => simp [intOf]; omega
  ·obtain rfl : j = L.length := by omega
   have hall := HO.out
   rw [intE.mix_all] at hall
   have HA := Hid.intro hall
   clear hall HO
   go_wp2
   go_ret
   exact ⟨_, rfl, HA.out, hbel⟩
set_option maxRecDepth 100000 in
set_option maxHeartbeats 2000000 in
theorem eqIntS_any (L : List Int) (v1 v2 : Value) (N : Nat) (w : World) (hN : N ≤ w.heap.size) (h1 : Row intE w N v1 L) (h2 : Row intE w N v2 L) :
  Calls Tryz.prog 24 #[v1, v2] w fun e w' => e = .returned (.bool true) ∧ Below w.heap.size w w' := by
 obtain ⟨a1, cap1, rfl, l1, m1, hc1⟩ := intE_cell h1
 obtain ⟨a2, cap2, rfl, l2, m2, hc2⟩ := intE_cell h2
 have H1 := Hid.intro hc1
 have H2 := Hid.intro hc2
 clear hc1 hc2 h1 h2
 go_enter Tryz.func24, Tryz.ntmps24
 go_wp2
 go_loopw [5] (fun i wr => ∃ (j : Nat), i = .int .i64 j ∧ j ≤ L.length ∧ Below w.heap.size w wr) (fun i _ => L.length - (intOf i).toNat)
 case atStart => exact ⟨0, rfl, Nat.zero_le _, Below.refl _ _⟩
 case round =>
  obtain ⟨j, rfl, hj, hbel⟩ := hrel
  by_cases hlt : j < L.length
  ·have hne : L ≠ [] := by intro h; rw [h] at hlt; simp at hlt
   obtain ⟨b1, o1, rfl, hb1, cc1⟩ := H1.out hne
   obtain ⟨b2, o2, rfl, hb2, cc2⟩ := H2.out hne
   have p0 := cc1 j hlt
   have q0 := cc2 j hlt
   generalize L[j] = ej at p0 q0
   have hp0 := atCell hbel p0 (by omega)
   have hq0 := atCell hbel q0 (by omega)
   have i1 : (0 : Int) ≤ (j : Int) ∧ (j : Int) < (L.length : Int) := by omega
   have hjl : (j : Int) < (L.length : Int) := by omega
   have HBB := Hid.intro hbel
   have HJ : Hid (j < L.length) := hlt
   clear cc1 cc2 p0 q0 hne hbel
   go_wp2
   go_region
   all_goals
    go_wp2
    go_roundw
    case rel => exact ⟨j + 1, by go_num, by omega, by first | exact HBB.out | exact HBB.out.drew | exact HBB.out.drew.drew⟩
    case measure => simp [intOf]; omega
  ·obtain rfl : j = L.length := by omega
   go_wp2
   go_ret
   exact ⟨rfl, hbel⟩
end Go.Proofs.YtmkegmndcbpblaaGreatDoor
namespace Go.Proofs.YtmkegmndcbpblaaGreatDoor
open Go.RowKit
set_option linter.unusedVariables false
set_option maxHeartbeats 1000000 in
theorem szCred_any (c : Cr) (v : Value) (N : Nat) (left : Int) (w : World) (hN : N ≤ w.heap.size) (hr : Row intE w N v c.l) (h0 : 0 ≤ left) (h1 : left ≤ 1048576) :
  Calls Tryz.prog 5 #[crV c v, .int .i64 left] w fun e w' => (∃ n, e = .returned (.int .i64 n) ∧ SzP left n c.l.length) ∧ Below w.heap.size w w' := by
 have HR := Hid.intro hr
 clear hr
 go_enter Tryz.func5, Tryz.ntmps5
 go_wp2_with fail
 obtain ⟨W, hW, bW, zW, cW, fW⟩ := boxed w #[.int .i64 c.u, .int .i64 c.g, v] 27
 try simp only [hW]
 refine (szIntS_any c.l v N _ W (HR.out.kept (bW.mono hN)) h0 h1).mono ?_
 rintro e w1 ⟨⟨n, rfl, hn⟩, rfl⟩
 have HB := Hid.intro bW
 have n1 := hn.1
 have n2 := hn.2.1
 have HNN := Hid.intro hn
 clear hW cW fW bW hn
 by_cases hneg : n < 0
 ·go_wp2
  go_ret
  exact ⟨⟨_, rfl, by unfold SzP; omega⟩, HB.out⟩
 ·go_wp2
  go_ret
  exact ⟨⟨_, rfl, HNN.out⟩, HB.out⟩
set_option maxRecDepth 100000 in
set_option maxHeartbeats 2000000 in
theorem toCred_any (c : Cr) (v : Value) (N : Nat) (w : World) (hN : N ≤ w.heap.size) (hr : Row intE w N v c.l) (hl : c.l.length ≤ 1048576) :
  Calls Tryz.prog 8 #[crV c v] w fun e w' => ∃ v', e = .returned (crV c v') ∧ New intE 3 w w' v' c.l := by
 have HR := Hid.intro hr
 clear hr
 go_enter Tryz.func8, Tryz.ntmps8
 go_wp2_with fail
 obtain ⟨W, hW, bW, zW, c1, f1, c2, f2, c3, f3⟩ := boxed3 w #[.int .i64 c.u, .int .i64 c.g, v] #[.int .i64 0, .int .i64 0, .slice none 0 0] #[.int .i64 c.u, .int .i64 c.g, .slice none 0 0] 27 37 37
 simp only [hW]
 refine (toIntS_any c.l v N W (by omega) (HR.out.kept (bW.mono hN)) hl).mono ?_
 rintro e w1 ⟨v', rfl, o1, b1⟩
 obtain ⟨a', cap', rfl⟩ := o1.slice
 replace c2 := keepC b1 (by omega) c2
 replace f2 := keepF b1 (by omega) f2
 replace c3 := keepC b1 (by omega) c3
 replace f3 := keepF b1 (by omega) f3
 have z1 := b1.size
 have HO := Hid.intro o1
 have HB := Hid.intro (bW.trans (b1.mono (by omega)))
 have HZ := Hid.intro zW
 have hz1 : w.heap.size + 1 + 1 < w1.heap.size := by omega
 clear hW b1 c1 f1 o1 bW zW
 go_wp2
 refine bodyPost_ret (v := crV c (.slice a' c.l.length cap')) (by simp [results, Tryz.results8, go_sem, c2]) rfl ⟨_, rfl, ?_, ?_⟩
 ·refine Own.lower (Own.only HO.out (S := fun k => k = w.heap.size + 1 ∨ k = w.heap.size + 1 + 1) ?_ ?_) (by have := HZ.out; omega)
  ·repeat (refine Only.setCell ?_ (by simp) _)
   exact Only.refl _ _
  ·intro k hk h
   have := (HO.out.lt k hk).1
   have := HZ.out
   omega
 ·repeat (refine Below.setCell ?_ (by simp <;> omega) _)
  exact HB.out
set_option maxHeartbeats 2000000 in
theorem eqCred_any (c : Cr) (v1 v2 : Value) (N : Nat) (w : World) (hN : N ≤ w.heap.size) (h1 : Row intE w N v1 c.l) (h2 : Row intE w N v2 c.l) :
  Calls Tryz.prog 12 #[crV c v1, crV c v2] w fun e w' => e = .returned (.bool true) ∧ Below w.heap.size w w' := by
 have H1 := Hid.intro h1
 have H2 := Hid.intro h2
 clear h1 h2
 go_enter Tryz.func12, Tryz.ntmps12
 go_wp2_with fail
 obtain ⟨W, hW, bW, zW, c1, f1, c2, f2⟩ := boxed2 w #[.int .i64 c.u, .int .i64 c.g, v1] #[.int .i64 c.u, .int .i64 c.g, v2] 37 37
 try simp only [hW]
 refine (eqIntS_any c.l v1 v2 N W (by omega) (H1.out.kept (bW.mono hN)) (H2.out.kept (bW.mono hN))).mono ?_
 rintro e w1 ⟨rfl, b1⟩
 have HB := Hid.intro (bW.trans (b1.mono (by omega)))
 clear hW bW b1 c1 c2 f1 f2
 go_wp2
 go_ret
 exact ⟨rfl, HB.out⟩
end Go.Proofs.YtmkegmndcbpblaaGreatDoor
