/- The laws' helpers over volumes: how great, copies, equal. -/
import Derived.Test.YtegdogdlohoheaaVLawB
import Derived.Test.YtegdogdlohoheaaVRow
namespace Go.Proofs.Ytegdogdlohoheaa
open Go.RowKit
set_option linter.unusedVariables false
theorem infoN' : (Try.prog.info? 96).map (fun i => (i.zero, i.size, i.bytes)) = some (some (.agg #[.int .i64 0, .int .i64 0, .int .i64 0, .int .i64 0, .int .i64 0, .string ⟨#[]⟩, .slice none 0 0, .int .i64 0, .int .i64 0]), 9, 96) := by kernel_rfl
theorem infoN : ∃ i, Try.prog.info? 96 = some i ∧ i.zero = some (.agg #[.int .i64 0, .int .i64 0, .int .i64 0, .int .i64 0, .int .i64 0, .string ⟨#[]⟩, .slice none 0 0, .int .i64 0, .int .i64 0]) ∧ i.size = 9 ∧ i.bytes = 96 := info_parts infoN'
/-- So many names and inodes. -/
def sizeL (L : List Nd) : Nat := L.length + (L.map fun n => n.names.length).sum
/-- Of each inode so many names at most. -/
def NmL (L : List Np) (m : Int) : Prop := ∀ p ∈ L, (p.n.names.length : Int) ≤ m
set_option maxRecDepth 100000 in
set_option maxHeartbeats 2000000 in
theorem szInodeS_any (L : List Np) (v : Value) (N : Nat) (left : Int) (w : World) (hN : N ≤ w.heap.size) (hr : VolR w N v L) (hz : ∀ p ∈ L, NdSz p.n) (h0 : 0 ≤ left) (h1 : left ≤ 1048576) :
  Calls Try.prog 101 #[v, .int .i64 left] w fun e w' => (∃ n, e = .returned (.int .i64 n) ∧ SzP left n L.length ∧ (0 ≤ n → NmL L 1048576)) ∧ Below w.heap.size w w' := by
 obtain ⟨a, cap, rfl, hl, hm, hcells⟩ := ndE_cell hr.row
 have HC := Hid.intro hcells
 have HZ := Hid.intro hz
 have HM := Hid.intro hr.nms
 clear hcells hz hr
 by_cases hb : left - L.length < 0
 ·go_enter Try.func101, Try.ntmps101
  go_wp2
  go_ret
  exact ⟨⟨_, rfl, by unfold SzP; omega, fun h => by omega⟩, Below.refl _ _⟩
 ·go_enter Try.func101, Try.ntmps101
  go_wp2
  go_loopw [1, 5] (fun q i wr => ∃ (j : Nat) (x : Int), i = .int .i64 j ∧ q = .int .i64 x ∧ j ≤ L.length ∧ 0 ≤ x ∧ x ≤ left ∧ Hid (NmL (L.take j) 1048576) ∧ Below w.heap.size w wr) (fun _ i _ => L.length - (intOf i).toNat)
  case atStart => exact ⟨0, _, rfl, rfl, Nat.zero_le _, by omega, by omega, by unfold Hid NmL; simp, Below.refl _ _⟩
  case round =>
   obtain ⟨j, x, rfl, rfl, hj, hx0, hx1, HNM, hbel⟩ := hrel
   by_cases hlt : j < L.length
   ·obtain ⟨b, off, rfl, hbN, hcc⟩ := HC.out (by intro h; rw [h] at hlt; simp at hlt)
    have hc := hcc j hlt
    have hsz := HZ.out _ (List.getElem_mem hlt)
    have hnm := HM.out _ (List.getElem_mem hlt)
    have hst : ∀ m : Int, m ≤ 1048576 → ((L[j].n.names.length : Nat) : Int) ≤ m → NmL (L.take (j + 1)) 1048576 := fun m hm hl p hp => by
     rw [List.take_succ_eq_append_getElem hlt] at hp
     rcases List.mem_append.1 hp with hp | hp
     ·exact HNM.out p hp
     ·rw [List.mem_singleton.1 hp]; omega
    generalize L[j] = ej at hc hsz hnm hst
    have hs := hbel.size
    obtain ⟨g0, g1, g2, g3, g4, g5, g6, g7, g8⟩ := hc.kept hbel (by omega)
    have HS := Hid.intro hsz
    have HR := Hid.intro (hnm.kept (hbel.mono hN))
    have HST := Hid.intro hst
    clear hcc hc hsz hnm hst
    go_wp2_with fail
    refine (szInode_any ej.n ej.v N x _ (by omega) HS.out.1 HR.out HS.out.2 hx0 (by omega)).mono ?_
    rintro e w1 ⟨⟨n, rfl, hn⟩, b1⟩
    have B1 := hbel.trans (b1.mono (by omega))
    have hn1 := hn.1
    have hn2 := hn.2.1
    have HN3 := Hid.intro hn.2.2
    clear g0 g1 g2 g3 g4 g5 g6 g7 g8 b1 hn
    by_cases hneg : n < 0
    ·go_wp2
     go_ret
     exact ⟨⟨_, rfl, by unfold SzP; omega, fun h => by omega⟩, B1⟩
    ·have HN4 := Hid.intro (HST.out x (by omega) (HN3.out (by omega)))
     go_wp2
     go_roundw
     case rel => exact ⟨j + 1, n, by go_num, rfl, by omega, by omega, by omega, HN4, B1⟩
     case measure => simp [intOf]; omega
   ·obtain rfl : j = L.length := by omega
    have HNL := HNM.out
    rw [List.take_length] at HNL
    have HNN := Hid.intro HNL
    clear HNL HNM
    go_wp2
    go_ret
    exact ⟨⟨_, rfl, by unfold SzP; omega, fun _ => HNN.out⟩, hbel⟩
set_option maxHeartbeats 1000000 in
theorem szVol_any (next : Int) (L : List Np) (v : Value) (N : Nat) (left : Int) (w : World) (hN : N ≤ w.heap.size) (hr : VolR w N v L) (hz : ∀ p ∈ L, NdSz p.n) (h0 : 0 ≤ left) (h1 : left ≤ 1048576) :
  Calls Try.prog 72 #[volV next v, .int .i64 left] w fun e w' => (∃ n, e = .returned (.int .i64 n) ∧ SzP left n L.length ∧ (0 ≤ n → NmL L 1048576)) ∧ Below w.heap.size w w' := by
 have HR := Hid.intro hr
 have HZ := Hid.intro hz
 clear hr hz
 go_enter Try.func72, Try.ntmps72
 go_wp2_with fail
 obtain ⟨W, hW, bW, zW, cW, fW⟩ := boxed w #[.int .i64 next, v] 75
 try simp only [hW]
 refine (szInodeS_any L v N _ W (by omega) (HR.out.kept (bW.mono hN)) HZ.out h0 h1).mono ?_
 rintro e w1 ⟨⟨n, rfl, hn, hm⟩, b1⟩
 have HB := Hid.intro (bW.trans (b1.mono (by omega)))
 have n1 := hn.1
 have n2 := hn.2.1
 have HNN := Hid.intro hn
 have HMM := Hid.intro hm
 clear hW cW fW bW b1 hn hm
 by_cases hneg : n < 0
 ·go_wp2
  go_ret
  exact ⟨⟨_, rfl, by unfold SzP; omega, fun h => by omega⟩, HB.out⟩
 ·go_wp2
  go_ret
  exact ⟨⟨_, rfl, HNN.out, HMM.out⟩, HB.out⟩
set_option maxRecDepth 100000 in
set_option maxHeartbeats 4000000 in
theorem eqInodeS_any (L1 L2 : List Np) (v1 v2 : Value) (N : Nat) (w : World) (hN : N ≤ w.heap.size) (h1 : VolR w N v1 L1) (h2 : VolR w N v2 L2) (he : L1.map Np.n = L2.map Np.n) :
  Calls Try.prog 68 #[v1, v2] w fun e w' => e = .returned (.bool true) ∧ Below w.heap.size w w' := by
 obtain ⟨a1, cap1, rfl, l1, m1, hc1⟩ := ndE_cell h1.row
 obtain ⟨a2, cap2, rfl, l2, m2, hc2⟩ := ndE_cell h2.row
 have hlen : L1.length = L2.length := by simpa using congrArg List.length he
 have H1 := Hid.intro hc1
 have H2 := Hid.intro hc2
 have M1 := Hid.intro h1.nms
 have M2 := Hid.intro h2.nms
 have HE := Hid.intro he
 clear hc1 hc2 h1 h2 he
 obtain ⟨m, hL2⟩ : ∃ m, L2.length = m := ⟨_, rfl⟩
 rw [hlen] at l1 ⊢
 rw [hL2] at l1 l2 ⊢
 go_enter Try.func68, Try.ntmps68
 go_wp2
 go_loopw [5] (fun i wr => ∃ (j : Nat), i = .int .i64 j ∧ j ≤ m ∧ Below w.heap.size w wr) (fun i _ => m - (intOf i).toNat)
 case atStart => exact ⟨0, rfl, Nat.zero_le _, Below.refl _ _⟩
 case round =>
  obtain ⟨j, rfl, hj, hbel⟩ := hrel
  by_cases hlt : j < m
  ·obtain ⟨b1, o1, rfl, hb1, cc1⟩ := H1.out (by intro h; rw [h] at hlen; simp only [List.length_nil] at hlen; omega)
   obtain ⟨b2, o2, rfl, hb2, cc2⟩ := H2.out (by intro h; rw [h] at hL2; simp only [List.length_nil] at hL2; omega)
   have p := cc1 j (by omega)
   have q := cc2 j (by omega)
   have r1 := M1.out _ (List.getElem_mem (show j < L1.length by omega))
   have r2 := M2.out _ (List.getElem_mem (show j < L2.length by omega))
   have hn : L1[j].n = L2[j].n := by
    have : (L1.map Np.n)[j]? = (L2.map Np.n)[j]? := by rw [HE.out]
    simpa [List.getElem?_eq_getElem (show j < L1.length by omega), List.getElem?_eq_getElem (show j < L2.length by omega)] using this
   generalize L1[j] = ej at p r1 hn
   generalize L2[j] = ek at q r2 hn
   obtain ⟨nj, aj, cj⟩ := ej
   obtain ⟨nk, ak, ck⟩ := ek
   simp only [Np.v] at p q r1 r2 hn
   subst hn
   have hs := hbel.size
   have HC : Hid (∀ w', Below wr.heap.size wr w' → Below w.heap.size w w') := fun w' hb => hbel.trans (hb.mono hs)
   have HR1 := Hid.intro (r1.kept (hbel.mono hN))
   have HR2 := Hid.intro (r2.kept (hbel.mono hN))
   obtain ⟨x0, x1, x2, x3, x4, x5, x6, x7, x8⟩ := p.kept hbel (by omega)
   obtain ⟨y0, y1, y2, y3, y4, y5, y6, y7, y8⟩ := q.kept hbel (by omega)
   have i1 : (0 : Int) ≤ (j : Int) ∧ (j : Int) < (m : Int) := by omega
   have HJ : Hid (j < m) := hlt
   have hjl : (j : Int) < (m : Int) := by omega
   clear cc1 cc2 p q r1 r2
   go_wp2
   go_region_with (go_at_call 99; refine (eqInode_any nj _ _ N _ (by simp [go_sem] <;> omega) (by first | exact HR1.out | exact HR1.out.kept (Below.refl _ _).drew | exact HR1.out.kept (Below.refl _ _).drew.drew) (by first | exact HR2.out | exact HR2.out.kept (Below.refl _ _).drew | exact HR2.out.kept (Below.refl _ _).drew.drew)).mono ?_; rintro e w2 ⟨rfl, b2⟩; have B2 := HC.out w2 (by first | exact b2 | exact ((Below.refl _ _).drew).trans b2 | exact ((Below.refl _ _).drew.drew).trans b2); clear b2)
   all_goals
    clear HC
    go_wp2
    go_roundw
    case rel => exact ⟨j + 1, by go_num, by omega, B2⟩
    case measure => simp [intOf]; omega
  ·obtain rfl : j = m := by omega
   go_wp2
   go_ret
   exact ⟨rfl, hbel⟩
end Go.Proofs.Ytegdogdlohoheaa
