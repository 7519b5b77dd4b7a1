/- The sentence's functions of volumes: targets, what a directory uses, is one over? -/
import Derived.Test.YtmkegmndcbpblaaGreatDoorVSpecB
import Derived.Test.YtmkegmndcbpblaaGreatDoorVBelow
namespace Go.Proofs.YtmkegmndcbpblaaGreatDoor
open Go.RowKit
set_option linter.unusedVariables false
set_option maxRecDepth 100000 in
set_option maxHeartbeats 2000000 in
theorem l4Target_any (s : ByteArray) (w : World) (hs : s.size ≤ 9223372036854775807) :
  Calls Tryz.prog 45 #[.string s] w fun e w' => e = .returned (.bool (pbB s.data.toList)) ∧ w = w' := by
 by_cases h1 : (1 : Int) ≤ s.size ∧ (s.size : Int) ≤ 60
 ·have HI := Hid.intro (inB_true h1)
  have h3 := h1.1
  have h4 := h1.2
  clear h1
  go_enter Tryz.func45, Tryz.ntmps45
  go_wp2_with (go_at_call 26; refine (l1In_any _ _ _ _).mono ?_; rintro e w' ⟨rfl, rfl⟩; rw [HI.out])
  go_loop [3] (fun c => ∃ k : Nat, k ≤ s.size ∧ c = .int .i64 k ∧ Hid (firstOk okB s k)) (fun c => s.size - (intOf c).toNat)
  case atStart => exact ⟨0, Nat.zero_le _, rfl, firstOk_zero _ _⟩
  case round =>
   obtain ⟨k, hk, rfl, HF⟩ := hrel
   by_cases hlt : k < s.size
   ·cases hd : ((s[k].toNat : Int) != 47) with
    | false =>
     have HD := Hid.intro hd
     go_wp2
     go_round
     case rel => exact ⟨k + 1, by omega, by go_num, firstOk_succ HF.out hlt (okB_slash HD.out)⟩
     case measure => simp [intOf]; omega
    | true =>
     have HD := Hid.intro hd
     cases hn : nbI (s[k].toNat : Int) with
     | true =>
      have HN := Hid.intro hn
      go_wp2_with (go_at_call 32; refine (l2Byte_any _ _).mono ?_; rintro e w' ⟨rfl, rfl⟩)
      go_round
      case rel => exact ⟨k + 1, by omega, by go_num, firstOk_succ HF.out hlt (okB_name HN.out)⟩
      case measure => simp [intOf]; omega
     | false =>
      have HN := Hid.intro hn
      go_wp2_with (go_at_call 32; refine (l2Byte_any _ _).mono ?_; rintro e w' ⟨rfl, rfl⟩)
      go_ret
      exact ⟨ret_bool (pbB_bad hlt (okB_no HD.out HN.out)).symm, rfl⟩
   ·obtain rfl : k = s.size := by omega
    go_wp2
    go_ret
    exact ⟨ret_bool (pbB_yes (by omega) (by omega) HF.out).symm, rfl⟩
 ·have HI := Hid.intro (inB_false h1)
  have HP : Hid (pbB s.data.toList = false) := by
   unfold Hid
   by_cases h2 : (s.size : Int) < 1
   ·exact pbB_short (by omega)
   ·exact pbB_long (by omega)
  clear h1
  go_enter Tryz.func45, Tryz.ntmps45
  go_wp2_with (go_at_call 26; refine (l1In_any _ _ _ _).mono ?_; rintro e w' ⟨rfl, rfl⟩; rw [HI.out])
  go_ret
  exact ⟨ret_bool HP.out.symm, rfl⟩
/-- Bytes and inodes of those that are marked. -/
def usB (L : List Nd) (s : List Bool) : Int := ((L.zip s).map fun p => if p.2 = true then (p.1.data.size : Int) else 0).sum
def usI (s : List Bool) : Int := (s.count true : Nat)
theorem usB_snoc (L : List Nd) (s : List Bool) (n : Nd) (b : Bool) (h : L.length = s.length) : usB (L ++ [n]) (s ++ [b]) = usB L s + if b = true then (n.data.size : Int) else 0 := by
 unfold usB
 rw [List.zip_append h]
 simp
theorem usI_snoc (s : List Bool) (b : Bool) : usI (s ++ [b]) = usI s + if b = true then 1 else 0 := by
 unfold usI
 rw [List.count_append]
 cases b <;> simp
set_option maxRecDepth 100000 in
set_option maxHeartbeats 4000000 in
theorem l4Usage_any (next : Int) (L : List Np) (u : Value) (N : Nat) (id : Int) (w : World) (hN : N ≤ w.heap.size) (hr : VolR w N u L) (hs : SmN L) :
  Calls Tryz.prog 47 #[volV next u, .int .i64 id] w fun e w' => e = .returned (.tuple #[.int .i64 (usB (L.map Np.n) (belL (L.map Np.n) id)), .int .i64 (usI (belL (L.map Np.n) id))]) ∧ Below w.heap.size w w' := by
 have HV := Hid.intro hr
 have HSM := Hid.intro hs
 obtain ⟨a, cap, rfl, hl, hm, hcells⟩ := ndE_cell hr.row
 have HC := Hid.intro hcells
 have HS := Hid.intro hs.2
 have hle := hs.1
 clear hcells hr hs
 go_enter Tryz.func47, Tryz.ntmps47
 go_wp2_with fail
 obtain ⟨W, hW, bW, zW, cW, fW⟩ := boxed w #[.int .i64 next, .slice a L.length cap] 35
 try simp only [hW]
 clear hW fW
 refine (l4Below_any next L _ N id W (by omega) (HV.out.kept (bW.mono hN)) HSM.out).mono ?_
 rintro e w1 ⟨v, rfl, o1, b1⟩
 have hbl := belL_len (L.map Np.n) id
 generalize hbe : belL (L.map Np.n) id = s at o1 hbl
 have HBE := Hid.intro hbe
 clear hbe
 rw [List.length_map] at hbl
 obtain ⟨a1, c1, rfl⟩ := o1.slice
 have HR1 := Hid.intro o1.rowAll
 replace cW := keepC b1 (by omega) cW
 have HB := Hid.intro (bW.trans (b1.mono (by omega)))
 have z1 : w.heap.size < w1.heap.size := by have := b1.size; omega
 clear o1 b1 bW
 rw [hbl]
 go_wp2_with fail
 go_loopw [7, 8, 9] (fun q p i wr => ∃ (j : Nat) (x y : Int), i = .int .i64 j ∧ q = .int .i64 x ∧ p = .int .i64 y ∧ j ≤ L.length ∧ Hid (x = usB ((L.take j).map Np.n) (s.take j) ∧ y = usI (s.take j)) ∧ 0 ≤ x ∧ x ≤ j * 64 ∧ 0 ≤ y ∧ y ≤ j ∧ w1 = wr) (fun _ _ i _ => L.length - (intOf i).toNat)
 case atStart => exact ⟨0, 0, 0, rfl, rfl, rfl, Nat.zero_le _, by unfold Hid; simp [usB, usI], by omega, by omega, by omega, by omega, rfl⟩
 case round =>
  obtain ⟨j, x, y, rfl, rfl, rfl, hj, HF, hx0, hx1, hy0, hy1, rfl⟩ := hrel
  by_cases hlt : j < L.length
  ·obtain ⟨b, off, rfl, hbN, hcc⟩ := HC.out (by intro h; rw [h] at hlt; simp at hlt)
   have hc := hcc j hlt
   have hls : j < s.length := by omega
   obtain ⟨a3, c3, hv3, -, -, hrr⟩ := HR1.out
   simp only [Value.slice.injEq] at hv3
   obtain ⟨rfl, -, rfl⟩ := hv3
   obtain ⟨b3, o3, rfl, hb3, hd3⟩ := hrr (by intro h; rw [h] at hls; simp at hls)
   have d3 := hd3 j hls 0 (by decide)
   simp only [boolE, Nat.mul_one, Nat.add_zero, List.getElem?_cons_zero] at d3
   have hst : usB ((L.take (j + 1)).map Np.n) (s.take (j + 1)) = x + (if s[j] = true then (L[j].n.data.size : Int) else 0) ∧ usI (s.take (j + 1)) = y + (if s[j] = true then 1 else 0) := by
    rw [List.take_succ_eq_append_getElem hlt, List.take_succ_eq_append_getElem hls, List.map_append, List.map_singleton, usB_snoc _ _ _ _ (by simp; omega), usI_snoc, HF.out.1, HF.out.2]
    exact ⟨rfl, rfl⟩
   have h64 := (HS.out _ (List.getElem_mem hlt)).1
   generalize L[j] = ej at hc hst h64
   generalize s[j] = sj at d3 hst
   have g5 := (hc.kept HB.out (by omega)).c5
   have hjl : (j : Int) < (L.length : Int) := by omega
   have i1 : (0 : Int) ≤ (j : Int) ∧ (j : Int) < (L.length : Int) := by omega
   clear hcc hc hrr hd3
   cases sj with
   | true =>
    rw [if_pos rfl, if_pos rfl] at hst
    have HST := Hid.intro hst
    clear hst
    go_wp2
    go_roundw
    case rel => exact ⟨j + 1, x + ej.n.data.size, y + 1, by go_num, by go_num, by go_num, by omega, ⟨HST.out.1.symm, HST.out.2.symm⟩, by omega, by omega, by omega, by omega, by first | rfl | trivial⟩
    case measure => simp [intOf]; omega
   | false =>
    simp only [Bool.false_eq_true, if_false, Int.add_zero] at hst
    have HST := Hid.intro hst
    clear hst
    go_wp2
    go_roundw
    case rel => exact ⟨j + 1, x, y, by go_num, rfl, rfl, by omega, ⟨HST.out.1.symm, HST.out.2.symm⟩, by omega, by omega, by omega, by omega, by first | rfl | trivial⟩
    case measure => simp [intOf]; omega
  ·obtain rfl : j = L.length := by omega
   have he := HF.out
   rw [List.take_length, ← hbl, List.take_length] at he
   have HE := Hid.intro he
   clear he
   go_wp2
   go_ret2
   exact ⟨by rw [HBE.out, ← HE.out.1, ← HE.out.2]; rfl, HB.out⟩
/-- Is a directory over? -/
def ovrB (L : List Nd) (n : Nd) : Bool := decide (n.kind = 2) && ((decide (0 < n.maxb) && decide (n.maxb < usB L (belL L n.id))) || (decide (0 < n.maxi) && decide (n.maxi < usI (belL L n.id))))
def overB (L : List Nd) : Bool := L.any (ovrB L)
theorem overB_yes {L : List Np} {j : Nat} (hj : j < L.length) (h : ovrB (L.map Np.n) L[j].n = true) : overB (L.map Np.n) = true := by
 unfold overB
 rw [List.any_eq_true]
 exact ⟨_, List.mem_map_of_mem (List.getElem_mem hj), h⟩
theorem overB_no {L : List Np} (h : ∀ p ∈ L, ovrB (L.map Np.n) p.n = false) : overB (L.map Np.n) = false := by
 unfold overB
 rw [List.any_eq_false]
 intro n hn
 obtain ⟨p, hp, rfl⟩ := List.mem_map.1 hn
 rw [h p hp]; simp
set_option maxRecDepth 100000 in
set_option maxHeartbeats 8000000 in
theorem l4Over_any (next : Int) (L : List Np) (u : Value) (N : Nat) (w : World) (hN : N ≤ w.heap.size) (hr : VolR w N u L) (hs : SmN L) (hb : ∀ p ∈ L, 0 ≤ p.n.maxb ∧ 0 ≤ p.n.maxi) :
  Calls Tryz.prog 31 #[volV next u] w fun e w' => e = .returned (.bool (overB (L.map Np.n))) ∧ Below w.heap.size w w' := by
 have HV := Hid.intro hr
 have HSM := Hid.intro hs
 obtain ⟨a, cap, rfl, hl, hm, hcells⟩ := ndE_cell hr.row
 have HC := Hid.intro hcells
 have HMB := Hid.intro hb
 have hle := hs.1
 clear hcells hr hs hb
 go_enter Tryz.func31, Tryz.ntmps31
 go_wp2_with fail
 obtain ⟨W, hW, bW, zW, cW, fW⟩ := boxed w #[.int .i64 next, .slice a L.length cap] 35
 try simp only [hW]
 clear hW fW
 have CW0 := Hid.intro cW
 go_loopw [3] (fun i wr => ∃ (j : Nat), i = .int .i64 j ∧ j ≤ L.length ∧ Hid (∀ p ∈ L.take j, ovrB (L.map Np.n) p.n = false) ∧ Hid (Below W.heap.size W wr)) (fun i _ => L.length - (intOf i).toNat)
 case atStart => exact ⟨0, rfl, Nat.zero_le _, by unfold Hid; simp, Below.refl _ _⟩
 case round =>
  obtain ⟨j, rfl, hj, HF, HB⟩ := hrel
  have cW := keepC HB.out (show w.heap.size < W.heap.size by omega) CW0.out
  have HBW := Hid.intro (bW.trans (HB.out.mono (by omega)))
  have hzr := HB.out.size
  by_cases hlt : j < L.length
  ·obtain ⟨b, off, rfl, hbN, hcc⟩ := HC.out (by intro h; rw [h] at hlt; simp at hlt)
   have hc := hcc j hlt
   have hyes := @overB_yes L j hlt
   have hno := @take_step L (fun p => ovrB (L.map Np.n) p.n = false) j hlt HF.out
   have hmb := HMB.out _ (List.getElem_mem hlt)
   generalize L[j] = ej at hc hyes hno hmb
   obtain ⟨g0, g1, g2, g3, g4, g5, g6, g7, g8⟩ := hc.kept HBW.out (by omega)
   have HY := Hid.intro hyes
   have HNO := Hid.intro hno
   have hjl : (j : Int) < (L.length : Int) := by omega
   have i1 : (0 : Int) ≤ (j : Int) ∧ (j : Int) < (L.length : Int) := by omega
   have hm1 := hmb.1
   have hm2 := hmb.2
   clear hcc hc hyes hno hmb
   go_upto_region 5 with fail
   obtain ⟨X, hX, bX, zX, cX, fX⟩ := boxed wr (ndA ej.n ej.v) 64
   have HBX : Hid (Below W.heap.size W X) := HB.out.trans (bX.mono hzr)
   replace cW := keepC bX (by omega) cW
   simp only [hX]
   clear hX fX bX g0 g1 g2 g3 g4 g5 g6 g7 g8
   by_cases hk : ej.n.kind = 2
   ·have n1 : (ej.n.kind != 2) = false := by simp [hk]
    have HK := Hid.intro hk
    clear hk
    by_cases hz : ej.n.maxb = 0 ∧ ej.n.maxi = 0
    ·have q1 : (ej.n.maxb == 0) = true := by simp [hz.1]
     have q2 : (ej.n.maxi == 0) = true := by simp [hz.2]
     have HE := Hid.intro (HNO.out (by simp [ovrB, hz.1, hz.2]))
     clear hz
     go_wp2
     go_roundw
     case rel => exact ⟨j + 1, by go_num, by omega, HE, HBX⟩
     case measure => simp [intOf]; omega
    ·have hq : ((ej.n.maxb == 0) = false) ∨ ((ej.n.maxb == 0) = true ∧ (ej.n.maxi == 0) = false) := by
      by_cases h0 : ej.n.maxb = 0
      ·exact .inr ⟨by simp [h0], by have : ¬ ej.n.maxi = 0 := fun h => hz ⟨h0, h⟩; simpa using this⟩
      ·exact .inl (by simpa using h0)
     have hpos : 0 < ej.n.maxb ∨ 0 < ej.n.maxi := by omega
     clear hz
     rcases hq with q1 | ⟨q1, q2⟩
     all_goals
      go_wp2_with fail
      refine (l4Usage_any next L _ N ej.n.id X (by omega) (HV.out.kept (bW.trans (HBX.out.mono (by omega)) |>.mono hN)) HSM.out).mono ?_
      rintro e w2 ⟨rfl, b2⟩
      generalize hub : usB (L.map Np.n) (belL (L.map Np.n) ej.n.id) = ub
      generalize hui : usI (belL (L.map Np.n) ej.n.id) = ui
      have HU := Hid.intro (And.intro hub hui)
      have HBX2 := Hid.intro (HBX.out.trans (b2.mono (by omega)))
      have HB2 := Hid.intro (bW.trans (HBX2.out.mono (by omega)))
      have cX2 := keepC b2 (by omega) cX
      clear hub hui b2 cW cX
      by_cases p1 : 0 < ej.n.maxb
      ·by_cases p2 : ej.n.maxb < ub
       ·skip
        go_wp2
        go_ret
        exact ⟨ret_bool (HY.out (by simp [ovrB, HK.out, HU.out.1, HU.out.2, *])).symm, HB2.out⟩
       ·by_cases p3 : 0 < ej.n.maxi
        ·by_cases p4 : ej.n.maxi < ui
         ·skip
          go_wp2
          go_ret
          exact ⟨ret_bool (HY.out (by simp [ovrB, HK.out, HU.out.1, HU.out.2, *])).symm, HB2.out⟩
         ·skip
          go_wp2
          go_roundw
          case rel => exact ⟨j + 1, by go_num, by omega, HNO.out (by simp [ovrB, HK.out, HU.out.1, HU.out.2, *]), HBX2⟩
          case measure => simp [intOf]; omega
        ·skip
         go_wp2
         go_roundw
         case rel => exact ⟨j + 1, by go_num, by omega, HNO.out (by simp [ovrB, HK.out, HU.out.1, HU.out.2, *]), HBX2⟩
         case measure => simp [intOf]; omega
      ·have p3 : 0 < ej.n.maxi := by omega
       by_cases p4 : ej.n.maxi < ui
       ·skip
        go_wp2
        go_ret
        exact ⟨ret_bool (HY.out (by simp [ovrB, HK.out, HU.out.1, HU.out.2, *])).symm, HB2.out⟩
       ·skip
        go_wp2
        go_roundw
        case rel => exact ⟨j + 1, by go_num, by omega, HNO.out (by simp [ovrB, HK.out, HU.out.1, HU.out.2, *]), HBX2⟩
        case measure => simp [intOf]; omega
   ·have n1 : (ej.n.kind != 2) = true := by simpa using hk
    have HE := Hid.intro (HNO.out (by simp [ovrB, hk]))
    clear hk
    go_wp2
    go_roundw
    case rel => exact ⟨j + 1, by go_num, by omega, HE, HBX⟩
    case measure => simp [intOf]; omega
  ·obtain rfl : j = L.length := by omega
   have HE : Hid (overB (L.map Np.n) = false) := overB_no (by have := HF.out; rwa [List.take_length] at this)
   go_wp2
   go_ret
   exact ⟨ret_bool HE.out.symm, HBW.out⟩
end Go.Proofs.YtmkegmndcbpblaaGreatDoor
