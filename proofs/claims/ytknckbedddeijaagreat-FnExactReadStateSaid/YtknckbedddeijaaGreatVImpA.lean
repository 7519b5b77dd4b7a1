/- The program's small functions of volumes: numbers, an inode alone, a directory by its number. -/
import Derived.Test.YtknckbedddeijaaGreatVSpecE
import Derived.Test.YtknckbedddeijaaGreatVMap
namespace Go.Proofs.YtknckbedddeijaaGreat
open Go.RowKit
set_option linter.unusedVariables false
/-- The numbers grow from m on, below next. -/
def idsL (next : Int) : Int → List Nd → Bool
 | _, [] => true
 | m, n :: l => inB n.id m (next - 1) && idsL next (n.id + 1) l
theorem indB_ids (M : List Nd) (next : Int) (l : List Nd) : ∀ (p : Option Int) (m : Int), 1 ≤ m → (p = none ∧ m = 1 ∨ p = some (m - 1)) → indB M next p l = (idsL next m l && l.all (nodeB M)) := by
 induction l with
 | nil => intro p m _ _; rfl
 | cons n l ih =>
  intro p m hm hp
  rw [indB, idsL, List.all_cons]
  have h1 : (inB n.id 1 (next - 1) && (p.map fun q => decide (q < n.id)).getD true) = inB n.id m (next - 1) := by
   rcases hp with ⟨rfl, rfl⟩ | rfl
   ·simp
   ·rw [Bool.eq_iff_iff]
    simp only [Option.map_some, Option.getD_some, inB, Bool.and_eq_true, decide_eq_true_eq]
    omega
  rw [h1]
  by_cases h2 : inB n.id m (next - 1) = true
  ·have h3 : 1 ≤ n.id + 1 := by
    simp only [inB, Bool.and_eq_true, decide_eq_true_eq] at h2
    omega
   rw [ih (some n.id) (n.id + 1) h3 (.inr (by simp)), h2]
   cases nodeB M n <;> cases idsL next (n.id + 1) l <;> simp
  ·simp only [Bool.not_eq_true] at h2
   rw [h2]; simp
/-- What idsOk tells. -/
def headI (L : List Nd) : Bool := (L.head?.map fun n => decide (n.id = 1)).getD false
def idsB (next : Int) (L : List Nd) : Bool := inB next 2 100000 && inB L.length 1 24 && headI L && idsL next 1 L
theorem idsL_drop {L : List Np} {next m : Int} {j : Nat} (h : j < L.length) : idsL next m ((L.drop j).map Np.n) = (inB L[j].n.id m (next - 1) && idsL next (L[j].n.id + 1) ((L.drop (j + 1)).map Np.n)) := by
 rw [List.drop_eq_getElem_cons h, List.map_cons, idsL]
set_option maxRecDepth 100000 in
set_option maxHeartbeats 4000000 in
theorem idsOk_any (next : Int) (L : List Np) (u : Value) (N : Nat) (w : World) (hN : N ≤ w.heap.size) (hr : VolR w N u L) :
  Calls Tryz.prog 79 #[volV next u] w fun e w' => e = .returned (.bool (idsB next (L.map Np.n))) ∧ Below w.heap.size w w' := by
 obtain ⟨a, cap, rfl, hl, hm, hcells⟩ := ndE_cell hr.row
 have HC := Hid.intro hcells
 obtain ⟨LN, hLN⟩ : ∃ LN, L.map Np.n = LN := ⟨_, rfl⟩
 rw [hLN]
 have hlen : LN.length = L.length := by rw [← hLN]; simp
 have HLN := Hid.intro hLN
 clear hcells hr hLN
 go_enter Tryz.func79, Tryz.ntmps79
 go_upto_region 1 with fail
 obtain ⟨W, hW, bW, zW, cW, fW⟩ := boxed w #[.int .i64 next, .slice a L.length cap] 32
 try simp only [hW]
 clear hW fW
 have CW0 := Hid.intro cW
 cases hb1 : inB next 2 100000 with
 | false =>
  go_wp2_with (go_at_call 52; refine (within_any _ _ _ _).mono ?_; rintro e w' ⟨rfl, rfl⟩; simp only [hb1])
  go_ret
  exact ⟨ret_bool (by rw [idsB, hb1]; rfl), bW⟩
 | true =>
  have hnx : 2 ≤ next ∧ next ≤ 100000 := by simpa [inB] using hb1
  have hnx1 := hnx.1
  have hnx2 := hnx.2
  clear hnx
  cases hb2 : inB (L.length : Int) 1 24 with
  | false =>
   go_wp2_with (go_at_call 52; refine (within_any _ _ _ _).mono ?_; rintro e w' ⟨rfl, rfl⟩; simp only [hb1, hb2])
   go_ret
   exact ⟨ret_bool (by rw [idsB, hlen, hb1, hb2]; rfl), bW⟩
  | true =>
   have hle : 1 ≤ (L.length : Int) ∧ (L.length : Int) ≤ 24 := by simpa [inB] using hb2
   have hle1 := hle.1
   have hle2 := hle.2
   clear hle
   have h0 : 0 < L.length := by omega
   obtain ⟨b, off, rfl, hbN, hcc⟩ := HC.out (by intro h; rw [h] at h0; simp at h0)
   have HCC := Hid.intro hcc
   have hc0 := hcc 0 h0
   have hhd : headI LN = decide (L[0].n.id = 1) := by
    rw [← HLN.out, headI, List.head?_map, List.head?_eq_getElem?, List.getElem?_eq_getElem h0]
    rfl
   generalize L[0] = e0 at hc0 hhd
   obtain ⟨g0, -, -, -, -, -, -, -, -⟩ := hc0.kept bW (by omega)
   have i0 : (0 : Int) ≤ 0 ∧ (0 : Int) < (L.length : Int) := by omega
   have HVB : Hid (idsB next LN = (headI LN && idsL next 1 LN)) := by unfold Hid; rw [idsB, hlen, hb1, hb2]; rfl
   simp only [Nat.zero_mul, Nat.add_zero] at g0
   clear hcc hc0
   by_cases e1 : e0.n.id = 1
   ·have t1 : (e0.n.id != 1) = false := by simp [e1]
    have HVC : Hid (idsB next LN = idsL next 1 LN) := by unfold Hid; rw [HVB.out, hhd, e1]; rfl
    clear hhd e1 HVB
    go_wp2_with (go_at_call 52; refine (within_any _ _ _ _).mono ?_; rintro e w' ⟨rfl, rfl⟩; simp only [hb1, hb2])
    clear g0 t1 cW
    go_loopw [3, 28] (fun q i wr => ∃ (j : Nat) (x : Int), i = .int .i64 j ∧ q = .int .i64 x ∧ j ≤ L.length ∧ 1 ≤ x ∧ x ≤ 100000 ∧ Hid (idsB next LN = idsL next x ((L.drop j).map Np.n)) ∧ Hid (Below W.heap.size W wr)) (fun _ i _ => L.length - (intOf i).toNat)
    case atStart => exact ⟨0, 1, rfl, rfl, Nat.zero_le _, by omega, by omega, by unfold Hid; rw [HVC.out, List.drop_zero, HLN.out], Below.refl _ _⟩
    case round =>
     obtain ⟨j, x, rfl, rfl, hj, hx1, hx2, HJ, HBJ⟩ := hrel
     have hzr := HBJ.out.size
     have cW := keepC HBJ.out (show w.heap.size < W.heap.size by omega) CW0.out
     have HBW := Hid.intro (bW.trans (HBJ.out.mono (by omega)))
     by_cases hlt : j < L.length
     ·have hc := HCC.out j hlt
      have hst := @idsL_drop L next x j hlt
      generalize L[j] = ej at hc hst
      obtain ⟨g0, g1, g2, g3, g4, g5, g6, g7, g8⟩ := hc.kept HBW.out (by omega)
      have hjl : (j : Int) < (L.length : Int) := by omega
      have i1 : (0 : Int) ≤ (j : Int) ∧ (j : Int) < (L.length : Int) := by omega
      have HST := Hid.intro hst
      clear hst hc
      go_upto_region 7 with fail
      obtain ⟨X, hX, bX, zX, cX, fX⟩ := boxed wr (ndA ej.n ej.v) 76
      simp only [hX]
      have HBX : Hid (Below W.heap.size W X) := HBJ.out.trans (bX.mono hzr)
      replace cW := keepC bX (by omega) cW
      clear hX fX g0 g1 g2 g3 g4 g5 g6 g7 g8 bX
      cases hin : inB ej.n.id x (next - 1) with
      | false =>
       have HFF : Hid (idsB next LN = false) := by unfold Hid; rw [HJ.out, HST.out, hin]; rfl
       go_wp2_with (go_at_call 52; refine (within_any _ _ _ _).mono ?_; rintro e w' ⟨rfl, rfl⟩; simp only [hin])
       go_ret
       exact ⟨ret_bool HFF.out.symm, bW.trans (HBX.out.mono (by omega))⟩
      | true =>
       have hid : x ≤ ej.n.id ∧ ej.n.id ≤ next - 1 := by simpa [inB] using hin
       have hid1 := hid.1
       have hid2 := hid.2
       clear hid
       have HFF : Hid (idsB next LN = idsL next (ej.n.id + 1) ((L.drop (j + 1)).map Np.n)) := by unfold Hid; rw [HJ.out, HST.out, hin]; rfl
       go_wp2_with (go_at_call 52; refine (within_any _ _ _ _).mono ?_; rintro e w' ⟨rfl, rfl⟩; simp only [hin])
       go_roundw
       case rel => exact ⟨j + 1, ej.n.id + 1, by go_num, by go_num, by omega, by omega, by omega, HFF, HBX⟩
       case measure => simp [intOf]; omega
     ·obtain rfl : j = L.length := by omega
      have hj2 := HJ.out
      rw [List.drop_length, List.map_nil, idsL] at hj2
      have HJ2 := Hid.intro hj2
      clear hj2
      go_wp2
      go_ret
      exact ⟨ret_bool HJ2.out.symm, HBW.out⟩
   ·have t1 : (e0.n.id != 1) = true := by simpa using e1
    have HVC : Hid (idsB next LN = false) := by unfold Hid; rw [HVB.out, hhd, decide_eq_false e1]; simp
    clear hhd e1 HVB
    go_wp2_with (go_at_call 52; refine (within_any _ _ _ _).mono ?_; rintro e w' ⟨rfl, rfl⟩; simp only [hb1, hb2])
    go_ret
    exact ⟨ret_bool HVC.out.symm, bW⟩
set_option maxHeartbeats 1000000 in
theorem holdsNone_any (n : Nd) (v : Value) (b o : Nat) (w : World) (hc : NdAt w b o n v) (hr : ∃ a cap, v = .slice a n.names.length cap) :
  Calls Tryz.prog 99 #[.pointer (some ⟨b, o, none⟩)] w fun e w' => e = .returned (.bool (plainB n)) ∧ w = w' := by
 obtain ⟨a, cap, rfl⟩ := hr
 obtain ⟨g0, g1, g2, g3, g4, g5, g6, g7, g8⟩ := hc
 by_cases e1 : n.names.length = 0
 ·have t1 : ((n.names.length : Int) == 0) = true := by simp [e1]
  by_cases e2 : n.maxb = 0
  ·have t2 : (n.maxb == 0) = true := by simp [e2]
   by_cases e3 : n.maxi = 0
   ·have t3 : (n.maxi == 0) = true := by simp [e3]
    have HP : Hid (plainB n = true) := by unfold Hid; simp [plainB, e1, e2, e3]
    clear e1 e2 e3
    go_enter Tryz.func99, Tryz.ntmps99
    go_wp2
    go_ret
    exact ⟨ret_bool HP.out.symm, rfl⟩
   ·have t3 : (n.maxi == 0) = false := by simpa using e3
    have HP : Hid (plainB n = false) := by unfold Hid; simp [plainB, e3]
    clear e1 e2 e3
    go_enter Tryz.func99, Tryz.ntmps99
    go_wp2
    go_ret
    exact ⟨ret_bool HP.out.symm, rfl⟩
  ·have t2 : (n.maxb == 0) = false := by simpa using e2
   have HP : Hid (plainB n = false) := by unfold Hid; simp [plainB, e2]
   clear e1 e2
   go_enter Tryz.func99, Tryz.ntmps99
   go_wp2
   go_ret
   exact ⟨ret_bool HP.out.symm, rfl⟩
 ·have t1 : ((n.names.length : Int) == 0) = false := by rw [beq_eq_false_iff_ne]; omega
  have HP : Hid (plainB n = false) := by unfold Hid; simp [plainB, e1]
  clear e1
  go_enter Tryz.func99, Tryz.ntmps99
  go_wp2
  go_ret
  exact ⟨ret_bool HP.out.symm, rfl⟩
/-- The inode alone is right. -/
def aloneB (n : Nd) : Bool := inB n.mode 0 2047 && inB n.uid 0 1000 && inB n.gid 0 1000 &&
 (if n.kind = 1 then decide (n.data.size ≤ 64) && plainB n
  else if n.kind = 3 then pbB n.data.data.toList && decide (n.mode = 511) && plainB n
  else if n.kind = 2 then (n.data.toList == []) && decide (n.names.length ≤ 12) && inB n.maxb 0 400 && inB n.maxi 0 24
  else false)
theorem nodeB_alone (L : List Nd) (n : Nd) : nodeB L n = (aloneB n && nmsB L none n.names) := by
 unfold nodeB aloneB
 rw [Bool.and_assoc (inB n.mode 0 2047 && inB n.uid 0 1000 && inB n.gid 0 1000)]
 congr 1
 have hp : plainB n = true → nmsB L none n.names = true := fun h => by
  simp only [plainB, Bool.and_eq_true, decide_eq_true_eq] at h
  rw [List.eq_nil_of_length_eq_zero h.1.1]
  rfl
 split
 ·cases h : plainB n with
  | false => simp
  | true => rw [hp h]; simp
 ·split
  ·cases h : plainB n with
   | false => simp
   | true => rw [hp h]; simp
  ·split
   ·rfl
   ·rfl
set_option maxRecDepth 100000 in
set_option maxHeartbeats 4000000 in
theorem inodeOk_any (n : Nd) (v : Value) (b o : Nat) (w : World) (hc : NdAt w b o n v) (hr : ∃ a cap, v = .slice a n.names.length cap) (hz1 : n.data.size ≤ 9223372036854775807) :
  Calls Tryz.prog 90 #[.pointer (some ⟨b, o, none⟩)] w fun e w' => e = .returned (.bool (aloneB n)) ∧ w = w' := by
 have HC := Hid.intro hc
 have HR := Hid.intro hr
 obtain ⟨a, cap, rfl⟩ := hr
 obtain ⟨g0, g1, g2, g3, g4, g5, g6, g7, g8⟩ := hc
 cases hb1 : inB n.mode 0 2047 with
 | false =>
  go_enter Tryz.func90, Tryz.ntmps90
  go_wp2_with (go_at_call 52; refine (within_any _ _ _ _).mono ?_; rintro e w' ⟨rfl, rfl⟩; simp only [hb1])
  go_ret
  exact ⟨ret_bool (by rw [aloneB, hb1]; rfl), rfl⟩
 | true =>
  cases hb2 : inB n.uid 0 1000 with
  | false =>
   go_enter Tryz.func90, Tryz.ntmps90
   go_wp2_with (go_at_call 52; refine (within_any _ _ _ _).mono ?_; rintro e w' ⟨rfl, rfl⟩; simp only [hb1, hb2])
   go_ret
   exact ⟨ret_bool (by rw [aloneB, hb1, hb2]; rfl), rfl⟩
  | true =>
   cases hb3 : inB n.gid 0 1000 with
   | false =>
    go_enter Tryz.func90, Tryz.ntmps90
    go_wp2_with (go_at_call 52; refine (within_any _ _ _ _).mono ?_; rintro e w' ⟨rfl, rfl⟩; simp only [hb1, hb2, hb3])
    go_ret
    exact ⟨ret_bool (by rw [aloneB, hb1, hb2, hb3]; rfl), rfl⟩
   | true =>
    have HB3 : Hid (aloneB n = (if n.kind = 1 then decide (n.data.size ≤ 64) && plainB n else if n.kind = 3 then pbB n.data.data.toList && decide (n.mode = 511) && plainB n else if n.kind = 2 then (n.data.toList == []) && decide (n.names.length ≤ 12) && inB n.maxb 0 400 && inB n.maxi 0 24 else false)) := by unfold Hid; rw [aloneB, hb1, hb2, hb3]; rfl
    go_enter Tryz.func90, Tryz.ntmps90
    go_upto_region 3 with (go_at_call 52; refine (within_any _ _ _ _).mono ?_; rintro e w' ⟨rfl, rfl⟩; simp only [hb1, hb2, hb3])
    by_cases hk1 : n.kind = 1
    ·have k1 : (n.kind == 1) = true := by simpa using hk1
     have HK := HB3.out
     rw [if_pos hk1] at HK
     have HK1 := Hid.intro HK
     clear hk1 HK HB3
     by_cases h64 : (n.data.size : Int) ≤ 64
     ·have HD := Hid.intro (decide_eq_true (show n.data.size ≤ 64 by omega))
      go_wp2_with (go_at_call 99; refine (holdsNone_any n _ b o _ HC.out HR.out).mono ?_; rintro e w' ⟨rfl, rfl⟩)
      go_ret
      exact ⟨ret_bool (by rw [HK1.out, HD.out]; simp), rfl⟩
     ·have HD := Hid.intro (decide_eq_false (show ¬ n.data.size ≤ 64 by omega))
      go_wp2_with fail
      go_ret
      exact ⟨ret_bool (by rw [HK1.out, HD.out]; rfl), rfl⟩
    ·have k1 : (n.kind == 1) = false := by simpa using hk1
     by_cases hk3 : n.kind = 3
     ·have k3 : (n.kind == 3) = true := by simpa using hk3
      have HK := HB3.out
      rw [if_neg hk1, if_pos hk3] at HK
      have HK1 := Hid.intro HK
      clear hk1 hk3 HK HB3
      cases hq : pbB n.data.data.toList with
      | true =>
       by_cases h5 : n.mode = 511
       ·have t5 : (n.mode == 511) = true := by simpa using h5
        have H5 := Hid.intro h5
        clear h5
        go_wp2_with (first | (go_at_call 100; refine (pathBytes_any _ _ hz1).mono ?_; rintro e w' ⟨rfl, rfl⟩; simp only [hq]) | (go_at_call 99; refine (holdsNone_any n _ b o _ HC.out HR.out).mono ?_; rintro e w' ⟨rfl, rfl⟩))
        go_ret
        exact ⟨ret_bool (by rw [HK1.out, hq, H5.out]; simp), rfl⟩
       ·have t5 : (n.mode == 511) = false := by simpa using h5
        have H5 := Hid.intro h5
        clear h5
        go_wp2_with (go_at_call 100; refine (pathBytes_any _ _ hz1).mono ?_; rintro e w' ⟨rfl, rfl⟩; simp only [hq])
        go_ret
        exact ⟨ret_bool (by rw [HK1.out, hq, decide_eq_false H5.out]; rfl), rfl⟩
      | false =>
       go_wp2_with (go_at_call 100; refine (pathBytes_any _ _ hz1).mono ?_; rintro e w' ⟨rfl, rfl⟩; simp only [hq])
       go_ret
       exact ⟨ret_bool (by rw [HK1.out, hq]; rfl), rfl⟩
     ·have k3 : (n.kind == 3) = false := by simpa using hk3
      by_cases hk2 : n.kind = 2
      ·have k2 : (n.kind == 2) = true := by simpa using hk2
       have HK := HB3.out
       rw [if_neg hk1, if_neg hk3, if_pos hk2] at HK
       have HK1 := Hid.intro HK
       clear hk1 hk3 hk2 HK HB3
       cases d1 : (n.data.toList == []) with
       | false =>
        go_wp2_with fail
        go_ret
        exact ⟨ret_bool (by rw [HK1.out, d1]; rfl), rfl⟩
       | true =>
        by_cases d2 : (n.names.length : Int) ≤ 12
        ·have HD := Hid.intro (decide_eq_true (show n.names.length ≤ 12 by omega))
         cases d3 : inB n.maxb 0 400 with
         | false =>
          go_wp2_with (go_at_call 52; refine (within_any _ _ _ _).mono ?_; rintro e w' ⟨rfl, rfl⟩; simp only [d3])
          go_ret
          exact ⟨ret_bool (by rw [HK1.out, d3]; simp), rfl⟩
         | true =>
          cases d4 : inB n.maxi 0 24 with
          | false =>
           go_wp2_with (go_at_call 52; refine (within_any _ _ _ _).mono ?_; rintro e w' ⟨rfl, rfl⟩; simp only [d3, d4])
           go_ret
           exact ⟨ret_bool (by rw [HK1.out, d4]; simp), rfl⟩
          | true =>
           go_wp2_with (go_at_call 52; refine (within_any _ _ _ _).mono ?_; rintro e w' ⟨rfl, rfl⟩; simp only [d3, d4])
           go_ret
           exact ⟨ret_bool (by rw [HK1.out, d1, d3, d4, HD.out]; rfl), rfl⟩
        ·have HD := Hid.intro (decide_eq_false (show ¬ n.names.length ≤ 12 by omega))
         go_wp2_with fail
         go_ret
         exact ⟨ret_bool (by rw [HK1.out, HD.out]; simp), rfl⟩
      ·have k2 : (n.kind == 2) = false := by simpa using hk2
       have HK := HB3.out
       rw [if_neg hk1, if_neg hk3, if_neg hk2] at HK
       have HK1 := Hid.intro HK
       clear hk1 hk3 hk2 HK HB3
       go_wp2_with fail
       go_ret
       exact ⟨ret_bool HK1.out.symm, rfl⟩
end Go.Proofs.YtknckbedddeijaaGreat
