/- The sentence's functions of volumes: names that lead to an inode; targets. -/
import Derived.Test.YtmkegmndcbpblaaGreatDoorVSpecA
namespace Go.Proofs.YtmkegmndcbpblaaGreatDoor
open Go.RowKit
set_option linter.unusedVariables false
set_option maxRecDepth 100000 in
set_option maxHeartbeats 4000000 in
theorem l4Named_any (next : Int) (L : List Np) (u : Value) (N : Nat) (id : Int) (w : World) (hN : N ≤ w.heap.size) (hr : VolR w N u L) (hs : SmN L) :
  Calls Tryz.prog 29 #[volV next u, .int .i64 id] w fun e w' => e = .returned (.int .i64 (namedN (L.map Np.n) id : Nat)) ∧ Below w.heap.size w w' := by
 obtain ⟨a, cap, rfl, hl, hm, hcells⟩ := ndE_cell hr.row
 have HC := Hid.intro hcells
 have HM := Hid.intro hr.nms
 have HS := Hid.intro hs.2
 have hle := hs.1
 clear hcells hr hs
 go_enter Tryz.func29, Tryz.ntmps29
 go_wp2_with fail
 obtain ⟨W, hW, bW, zW, cW, fW⟩ := boxed w #[.int .i64 next, .slice a L.length cap] 35
 try simp only [hW]
 clear hW fW
 go_loopw [5, 6, 7] (fun q i _ wr => ∃ (j : Nat) (x : Nat), i = .int .i64 j ∧ q = .int .i64 x ∧ j ≤ L.length ∧ Hid (x = namedN ((L.take j).map Np.n) id) ∧ x ≤ j * 12 ∧ W = wr) (fun _ i _ _ => L.length - (intOf i).toNat)
 case atStart => exact ⟨0, 0, rfl, rfl, Nat.zero_le _, by unfold Hid; simp [namedN], by omega, rfl⟩
 case round =>
  obtain ⟨j, x, rfl, rfl, hj, HF, hx1, rfl⟩ := hrel
  by_cases hlt : j < L.length
  ·obtain ⟨b, off, rfl, hbN, hcc⟩ := HC.out (by intro h; rw [h] at hlt; simp at hlt)
   have hc := hcc j hlt
   have hst : namedN ((L.take (j + 1)).map Np.n) id = x + idsN L[j].n.names id := by rw [List.take_succ_eq_append_getElem hlt, List.map_append, List.map_singleton, namedN_snoc, ← HF.out]
   have h12 := (HS.out _ (List.getElem_mem hlt)).2
   have hrow := HM.out _ (List.getElem_mem hlt)
   generalize L[j] = ej at hc hst h12 hrow
   have g6 := (hc.kept bW (by omega)).c6
   obtain ⟨a2, cap2, hv2, l2, m2, hdc⟩ := diE_cell (hrow.kept (bW.mono hN))
   rw [hv2] at g6
   have HST := Hid.intro hst
   have HD := Hid.intro hdc
   have hi1 : (0 : Int) ≤ (j : Int) ∧ (j : Int) < (L.length : Int) := by omega
   have hjl : (j : Int) < (L.length : Int) := by omega
   clear hcc hc hst hrow hv2 hdc
   generalize hnn : ej.n.names = nn at *
   clear hnn
   go_wp2
   go_loopw [5, 7] (fun q i wr => ∃ (k : Nat) (y : Nat), i = .int .i64 k ∧ q = .int .i64 y ∧ k ≤ nn.length ∧ Hid (y = x + idsN (nn.take k) id) ∧ y ≤ x + k ∧ W = wr) (fun _ i _ => nn.length - (intOf i).toNat)
   case atStart => exact ⟨0, x, rfl, rfl, Nat.zero_le _, by unfold Hid; simp [idsN], by omega, rfl⟩
   case round =>
    obtain ⟨k, y, rfl, rfl, hk, HY, hy1, rfl⟩ := hrel
    by_cases hkt : k < nn.length
    ·obtain ⟨b2, o2, rfl, hb2, hdd⟩ := HD.out (by intro h; rw [h] at hkt; simp at hkt)
     obtain ⟨d0, d1⟩ := hdd k hkt
     have hsk : x + idsN (nn.take (k + 1)) id = y + if nn[k].id = id then 1 else 0 := by rw [List.take_succ_eq_append_getElem hkt, idsN_snoc, HY.out]; omega
     generalize nn[k] = ek at d0 d1 hsk
     have HSK := Hid.intro hsk
     clear hdd hsk
     by_cases he : ek.id = id
     ·have n1 : (ek.id == id) = true := by simpa using he
      have hs1 := HSK.out
      rw [if_pos he] at hs1
      have HS1 := Hid.intro hs1
      clear he hs1
      go_wp2
      go_roundw
      case rel => exact ⟨k + 1, y + 1, by go_num, by go_num, by omega, HS1.out.symm, by omega, by first | rfl | trivial⟩
      case measure => simp [intOf]; omega
     ·have n1 : (ek.id == id) = false := by simpa using he
      have hs1 := HSK.out
      rw [if_neg he] at hs1
      have HS1 := Hid.intro hs1
      clear he hs1
      go_wp2
      go_roundw
      case rel => exact ⟨k + 1, y, by go_num, rfl, by omega, HS1.out.symm, by omega, by first | rfl | trivial⟩
      case measure => simp [intOf]; omega
    ·obtain rfl : k = nn.length := by omega
     have hy2 : y = namedN ((L.take (j + 1)).map Np.n) id := by rw [HST.out, HY.out, List.take_length]
     have HY2 := Hid.intro hy2
     clear hy2
     go_wp2
     go_roundw
     case rel => exact ⟨j + 1, y, by go_num, rfl, by omega, HY2, by omega, by first | rfl | trivial⟩
     case measure => simp [intOf]; omega
  ·obtain rfl : j = L.length := by omega
   have HE := HF.out
   rw [List.take_length] at HE
   have HE2 := Hid.intro HE
   clear HE
   go_wp2
   go_ret
   exact ⟨by rw [← HE2.out]; rfl, bW⟩
end Go.Proofs.YtmkegmndcbpblaaGreatDoor
