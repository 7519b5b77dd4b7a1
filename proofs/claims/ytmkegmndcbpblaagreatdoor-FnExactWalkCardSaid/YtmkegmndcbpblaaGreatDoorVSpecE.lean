/- VolOk (the sentence). -/
import Derived.Test.YtmkegmndcbpblaaGreatDoorVSpecD
import Derived.Deep.RegionHeld3
namespace Go.Proofs.YtmkegmndcbpblaaGreatDoor
open Go.RowKit
set_option linter.unusedVariables false
/-- The inodes from one on are right; the number ahead of them is p. -/
def indB (L : List Nd) (next : Int) : Option Int → List Nd → Bool
 | _, [] => true
 | p, n :: l => inB n.id 1 (next - 1) && (p.map fun q => decide (q < n.id)).getD true && nodeB L n && indB L next (some n.id) l
def aheadI (l : List Nd) (j : Nat) : Option Int := if j = 0 then none else (l[j - 1]?).map Nd.id
theorem aheadI_succ {L : List Np} {j : Nat} (h : j < L.length) : aheadI (L.map Np.n) (j + 1) = some L[j].n.id := by simp [aheadI, List.getElem?_eq_getElem h]
theorem indB_drop {M : List Nd} {L : List Np} {next : Int} {j : Nat} (h : j < L.length) : indB M next (aheadI (L.map Np.n) j) ((L.map Np.n).drop j) = (inB L[j].n.id 1 (next - 1) && ((aheadI (L.map Np.n) j).map fun q => decide (q < L[j].n.id)).getD true && nodeB M L[j].n && indB M next (aheadI (L.map Np.n) (j + 1)) ((L.map Np.n).drop (j + 1))) := by
 have hl : j < (L.map Np.n).length := by simpa using h
 rw [List.drop_eq_getElem_cons hl, indB, aheadI_succ h]
 simp
instance (s : List Bool) (i : Nat) : Decidable (isT s i) := inferInstanceAs (Decidable (_ = _))
/-- The inode at place i hangs on the root, a directory by one name. -/
def whI (L : List Nd) (s : List Bool) (i : Nat) : Bool := decide (isT s i) && !((L[i]?.map fun n => decide (n.kind = 2) && !decide (namedN L n.id = 1)).getD false)
def wholeB (L : List Nd) : Bool := (List.range L.length).all fun i => decide (i = 0) || whI L (belL L 1) i
def headB (L : List Nd) : Bool := (L.head?.map fun n => decide (n.id = 1) && decide (n.kind = 2)).getD false
/-- Is the volume right? -/
def volB (next : Int) (L : List Nd) : Bool := inB next 2 100000 && inB L.length 1 24 && headB L && indB L next none L && wholeB L && decide (bytesN L ≤ 400) && !overB L
theorem indB_mem {M : List Nd} {next : Int} (l : List Nd) : ∀ {p : Option Int}, indB M next p l = true → ∀ n ∈ l, nodeB M n = true := by
 induction l with
 | nil => intro p _ n hn; cases hn
 | cons a l ih =>
  intro p h n hn
  rw [indB] at h
  simp only [Bool.and_eq_true] at h
  rcases List.mem_cons.1 hn with rfl | hn
  ·exact h.1.2
  ·exact ih h.2 n hn
theorem pbB_le {s : ByteArray} (h : pbB s.data.toList = true) : s.size ≤ 60 := by
 by_cases h2 : s.size ≤ 60
 ·exact h2
 ·rw [pbB_long (by omega)] at h; cases h
theorem nodeB_small {M : List Nd} {n : Nd} (h : nodeB M n = true) : (n.data.size ≤ 64 ∧ n.names.length ≤ 12) ∧ 0 ≤ n.maxb ∧ 0 ≤ n.maxi := by
 unfold nodeB at h
 rw [Bool.and_eq_true] at h
 have h2 := h.2
 clear h
 split at h2
 ·simp only [plainB, Bool.and_eq_true, decide_eq_true_eq] at h2
  obtain ⟨⟨⟨a, b⟩, c⟩, d⟩ := h2
  exact ⟨⟨d, by omega⟩, by omega, by omega⟩
 ·split at h2
  ·simp only [plainB, Bool.and_eq_true, decide_eq_true_eq] at h2
   obtain ⟨⟨⟨⟨a, b⟩, c⟩, d⟩, e⟩ := h2
   have := pbB_le d
   exact ⟨⟨by omega, by omega⟩, by omega, by omega⟩
  ·split at h2
   ·simp only [inB, Bool.and_eq_true, decide_eq_true_eq] at h2
    obtain ⟨⟨⟨⟨a, b⟩, c⟩, d⟩, e⟩ := h2
    have ha : n.data.size = 0 := by
     have : n.data.toList = [] := by simpa using a
     rw [toList_data] at this
     have h3 := size_data n.data
     rw [this] at h3
     simpa using h3.symm
    exact ⟨⟨by omega, b⟩, c.1, d.1⟩
   ·cases h2
theorem wholeB_yes {L : List Nd} (h : ∀ i, 1 ≤ i → i < L.length → whI L (belL L 1) i = true) : wholeB L = true := by
 unfold wholeB
 rw [List.all_eq_true]
 intro i hi
 rw [List.mem_range] at hi
 rcases Nat.eq_zero_or_pos i with h0 | h0
 ·simp [h0]
 ·rw [h i h0 hi]; simp
theorem wholeB_no {L : List Nd} {i : Nat} (h1 : 1 ≤ i) (h2 : i < L.length) (h : whI L (belL L 1) i = false) : wholeB L = false := by
 unfold wholeB
 rw [List.all_eq_false]
 exact ⟨i, List.mem_range.2 h2, by rw [h, decide_eq_false (by omega)]; simp⟩
theorem whI_at {L : List Np} {s : List Bool} {i : Nat} (hi : i < L.length) (hs : i < s.length) : whI (L.map Np.n) s i = (s[i] && !(decide (L[i].n.kind = 2) && !decide (namedN (L.map Np.n) L[i].n.id = 1))) := by
 have h0 : isT s i ↔ s[i] = true := by unfold isT; rw [List.getElem?_eq_getElem hs]; simp
 have h1 : decide (isT s i) = s[i] := by cases hb : s[i] <;> simp [h0, hb]
 unfold whI
 rw [h1, List.getElem?_map, List.getElem?_eq_getElem hi]
 simp
def SVw (vb : Nat) (next : Int) (u : Value) (b op : Nat) (n : Nd) (sb so : Nat) (x : Bool) (w' : World) : Prop := w'.cell? ⟨vb, 0, none⟩ = some (.int .i64 next) ∧ w'.cell? ⟨vb, 1, none⟩ = some u ∧ w'.cell? ⟨b, op, none⟩ = some (.int .i64 n.id) ∧ w'.cell? ⟨b, op + 1, none⟩ = some (.int .i64 n.kind) ∧ w'.cell? ⟨sb, so, none⟩ = some (.bool x)
def SVo (xb vb : Nat) (n : Nd) (v : Value) (next : Int) (u : Value) (b op : Nat) (pid : Int) (w' : World) : Prop := w'.cell? ⟨xb, 0, none⟩ = some (.int .i64 n.id) ∧ w'.cell? ⟨xb, 1, none⟩ = some (.int .i64 n.kind) ∧ w'.cell? ⟨xb, 2, none⟩ = some (.int .i64 n.mode) ∧ w'.cell? ⟨xb, 3, none⟩ = some (.int .i64 n.uid) ∧ w'.cell? ⟨xb, 4, none⟩ = some (.int .i64 n.gid) ∧ w'.cell? ⟨xb, 5, none⟩ = some (.string n.data) ∧ w'.cell? ⟨xb, 6, none⟩ = some v ∧ w'.cell? ⟨xb, 7, none⟩ = some (.int .i64 n.maxb) ∧ w'.cell? ⟨xb, 8, none⟩ = some (.int .i64 n.maxi) ∧ w'.cell? ⟨vb, 0, none⟩ = some (.int .i64 next) ∧ w'.cell? ⟨vb, 1, none⟩ = some u ∧ w'.cell? ⟨b, op, none⟩ = some (.int .i64 pid)
set_option maxRecDepth 100000 in
set_option maxHeartbeats 40000000 in
theorem specVolOk_any (next : Int) (L : List Np) (u : Value) (N : Nat) (w : World) (hN : N ≤ w.heap.size) (hr : VolR w N u L) (hz : ∀ p ∈ L, NdSz p.n) :
  Calls Tryz.prog 15 #[volV next u] w fun e w' => e = .returned (.bool (volB next (L.map Np.n))) ∧ Below w.heap.size w w' := by
 have HV := Hid.intro hr
 have HZ := Hid.intro hz
 obtain ⟨a, cap, rfl, hl, hm, hcells⟩ := ndE_cell hr.row
 have HC := Hid.intro hcells
 have HM := Hid.intro hr.nms
 obtain ⟨LN, hLN⟩ : ∃ LN, L.map Np.n = LN := ⟨_, rfl⟩
 rw [hLN]
 have hlen : LN.length = L.length := by rw [← hLN]; simp
 have HLN := Hid.intro hLN
 clear hcells hr hz hLN
 go_enter Tryz.func15, Tryz.ntmps15
 go_upto_region 1 with fail
 obtain ⟨W, hW, bW, zW, cW, fW⟩ := boxed w #[.int .i64 next, .slice a L.length cap] 35
 try simp only [hW]
 clear hW fW
 have CW0 := Hid.intro cW
 cases hb1 : inB next 2 100000 with
 | false =>
  go_wp2_with (go_at_call 26; refine (l1In_any _ _ _ _).mono ?_; rintro e w' ⟨rfl, rfl⟩; simp only [hb1])
  go_ret
  exact ⟨ret_bool (by rw [volB, hb1]; rfl), bW⟩
 | true =>
  have hnx : 2 ≤ next ∧ next ≤ 100000 := by simpa [inB] using hb1
  have hnx1 := hnx.1
  have hnx2 := hnx.2
  clear hnx
  cases hb2 : inB (L.length : Int) 1 24 with
  | false =>
   go_wp2_with (go_at_call 26; refine (l1In_any _ _ _ _).mono ?_; rintro e w' ⟨rfl, rfl⟩; simp only [hb1, hb2])
   go_ret
   exact ⟨ret_bool (by rw [volB, hlen, hb1, hb2]; rfl), bW⟩
  | true =>
   have hle : 1 ≤ (L.length : Int) ∧ (L.length : Int) ≤ 24 := by simpa [inB] using hb2
   have hle1 := hle.1
   have hle2 := hle.2
   clear hle
   have h0 : 0 < L.length := by omega
   obtain ⟨b, off, rfl, hbN, hcc⟩ := HC.out (by intro h; rw [h] at h0; simp at h0)
   have HCC := Hid.intro hcc
   have hc0 := hcc 0 h0
   have hhd : headB LN = (decide (L[0].n.id = 1) && decide (L[0].n.kind = 2)) := by
    rw [← HLN.out, headB, List.head?_map, List.head?_eq_getElem?, List.getElem?_eq_getElem h0]
    rfl
   generalize L[0] = e0 at hc0 hhd
   obtain ⟨g0, g1, -, -, -, -, -, -, -⟩ := hc0.kept bW (by omega)
   have i0 : (0 : Int) ≤ 0 ∧ (0 : Int) < (L.length : Int) := by omega
   have HVB : Hid (volB next LN = (headB LN && indB LN next none LN && wholeB LN && decide (bytesN LN ≤ 400) && !overB LN)) := by unfold Hid; rw [volB, hlen, hb1, hb2]; rfl
   simp only [Nat.zero_mul, Nat.add_zero] at g0 g1
   clear hcc hc0
   by_cases e1 : e0.n.id = 1
   ·have t1 : (e0.n.id != 1) = false := by simp [e1]
    by_cases e2 : e0.n.kind = 2
    ·have t2 : (e0.n.kind != 2) = false := by simp [e2]
     have HVC : Hid (volB next LN = (indB LN next none LN && wholeB LN && decide (bytesN LN ≤ 400) && !overB LN)) := by unfold Hid; rw [HVB.out, hhd, e1, e2]; rfl
     clear hhd e1 e2 HVB
     go_wp2_with (go_at_call 26; refine (l1In_any _ _ _ _).mono ?_; rintro e w' ⟨rfl, rfl⟩; simp only [hb1, hb2])
     clear g0 g1 t1 t2 cW
     go_loopw [3] (fun i wr => ∃ (j : Nat), i = .int .i64 j ∧ j ≤ L.length ∧ Hid (indB LN next none LN = indB LN next (aheadI LN j) (LN.drop j)) ∧ Hid (Below W.heap.size W wr)) (fun i _ => L.length - (intOf i).toNat)
     case atStart => exact ⟨0, rfl, Nat.zero_le _, rfl, Below.refl _ _⟩
     case round =>
      obtain ⟨j, rfl, hj, HJ, HBJ⟩ := hrel
      have hzr := HBJ.out.size
      have cW := keepC HBJ.out (show w.heap.size < W.heap.size by omega) CW0.out
      have HBW := Hid.intro (bW.trans (HBJ.out.mono (by omega)))
      by_cases hlt : j < L.length
      ·have hc := HCC.out j hlt
       have hrow := HM.out _ (List.getElem_mem hlt)
       have hsz := HZ.out _ (List.getElem_mem hlt)
       have hst : indB LN next (aheadI LN j) (LN.drop j) = (inB L[j].n.id 1 (next - 1) && ((aheadI LN j).map fun q => decide (q < L[j].n.id)).getD true && nodeB LN L[j].n && indB LN next (aheadI LN (j + 1)) (LN.drop (j + 1))) := by
        rw [← HLN.out]
        exact indB_drop hlt
       generalize L[j] = ej at hc hrow hsz hst
       obtain ⟨g0, g1, g2, g3, g4, g5, g6, g7, g8⟩ := hc.kept HBW.out (by omega)
       have hjl : (j : Int) < (L.length : Int) := by omega
       have i1 : (0 : Int) ≤ (j : Int) ∧ (j : Int) < (L.length : Int) := by omega
       have HST := Hid.intro hst
       have D0 := Hid.intro g0
       clear hst hc
       go_upto_region 7 with fail
       obtain ⟨X, hX, bX, zX, cX, fX⟩ := boxed wr (ndA ej.n ej.v) 64
       simp only [hX]
       have HSG : Hid (∀ y, Below X.heap.size X y → ∀ (op : Nat) (pid : Int), wr.cell? ⟨b, op, none⟩ = some (.int .i64 pid) → SVo wr.heap.size w.heap.size ej.n ej.v next (.slice (some ⟨b, off, none⟩) L.length cap) b op pid y) := fun y hy op pid hp => by
        have h1 := bX.trans (hy.mono (by omega))
        have k1 := keepC h1 (by omega) cW
        have kX := keepC hy (by omega) cX
        exact ⟨by rw [kX]; rfl, by rw [kX]; rfl, by rw [kX]; rfl, by rw [kX]; rfl, by rw [kX]; rfl, by rw [kX]; rfl, by rw [kX]; rfl, by rw [kX]; rfl, by rw [kX]; rfl, by rw [k1]; rfl, by rw [k1]; rfl, atCell h1 hp (by omega)⟩
       have HBX : Hid (Below W.heap.size W X) := HBJ.out.trans (bX.mono hzr)
       have HND : Hid (∀ y, Below X.heap.size X y → Calls Tryz.prog 27 #[volV next (.slice (some ⟨b, off, none⟩) L.length cap), ndV ej.n ej.v] y fun e w' => e = .returned (.bool (nodeB LN ej.n)) ∧ Below y.heap.size y w') := fun y hy => by
        have h1 := bW.trans ((HBX.out.trans (hy.mono (by omega))).mono (by omega))
        rw [← HLN.out]
        exact l4InodeOk_any next L _ ej.n ej.v N y (by have := h1.size; omega) (HV.out.kept (h1.mono hN)) (hrow.kept (h1.mono hN)) hsz
       have hsb : IntKind.i64.wrap (next - 1) = next - 1 := by rw [IntKind.wrap_i64]; omega
       clear hX fX g0 g1 g2 g3 g4 g5 g6 g7 g8 cX bX cW hrow hsz
       go_cut [74] from 34 to 74 (fun s wc => s = .bool (!(inB ej.n.id 1 (next - 1) && ((aheadI LN j).map fun q => decide (q < ej.n.id)).getD true && nodeB LN ej.n)) ∧ Hid (Below X.heap.size X wc))
       case first =>
        cases hin : inB ej.n.id 1 (next - 1) with
        | false =>
         have HSF : Hid (∀ y, Below X.heap.size X y → SVo wr.heap.size w.heap.size ej.n ej.v next (.slice (some ⟨b, off, none⟩) L.length cap) b (off + j * 9) ej.n.id y) := fun y hy => HSG.out y hy _ _ D0.out
         have HW : Hid ((inB ej.n.id 1 (next - 1) && ((aheadI LN j).map fun q => decide (q < ej.n.id)).getD true && nodeB LN ej.n) = false) := by unfold Hid; rw [hin]; rfl
         refine wp_region_held_drew (S := SVo wr.heap.size w.heap.size ej.n ej.v next (.slice (some ⟨b, off, none⟩) L.length cap) b (off + j * 9) ej.n.id) (by kernel_rfl) (HSF.out _ (Below.refl _ _).drew) (fun hHeld => ?_)
         have BD : Hid (Below X.heap.size X X.drew) := (Below.refl _ _).drew
         generalize X.drew = D at BD hHeld ⊢
         refine tkk 0 46 (v := ?_) ?_ ?_
         rotate_left 1
         ·intro w hSw
          obtain ⟨q0, q1, q2, q3, q4, q5, q6, q7, q8, q9, q10, q11⟩ := hSw
          go_simp <;> with_reducible rfl
         simp only [Act.put, List.setIfInBounds_toArray]
         dsimp only [List.set_cons_succ, List.set_cons_zero]
         refine tkk 1 47 (v := ?_) ?_ ?_
         rotate_left 1
         ·intro w hSw
          obtain ⟨q0, q1, q2, q3, q4, q5, q6, q7, q8, q9, q10, q11⟩ := hSw
          go_simp <;> with_reducible rfl
         simp only [Act.put, List.setIfInBounds_toArray]
         dsimp only [List.set_cons_succ, List.set_cons_zero]
         refine tkk 2 48 (v := ?_) ?_ ?_
         rotate_left 1
         ·intro w hSw
          obtain ⟨q0, q1, q2, q3, q4, q5, q6, q7, q8, q9, q10, q11⟩ := hSw
          go_simp <;> with_reducible rfl
         simp only [Act.put, List.setIfInBounds_toArray]
         dsimp only [List.set_cons_succ, List.set_cons_zero]
         refine tkk 3 49 (v := ?_) ?_ ?_
         rotate_left 1
         ·intro w hSw
          obtain ⟨q0, q1, q2, q3, q4, q5, q6, q7, q8, q9, q10, q11⟩ := hSw
          go_simp <;> with_reducible rfl
         simp only [Act.put, List.setIfInBounds_toArray]
         dsimp only [List.set_cons_succ, List.set_cons_zero]
         refine tkk 4 50 (v := ?_) ?_ ?_
         rotate_left 1
         ·intro w hSw
          obtain ⟨q0, q1, q2, q3, q4, q5, q6, q7, q8, q9, q10, q11⟩ := hSw
          go_simp <;> with_reducible rfl
         simp only [Act.put, List.setIfInBounds_toArray]
         dsimp only [List.set_cons_succ, List.set_cons_zero]
         try simp only [hsb]
         refine wpAnyH_ready (rs := [5]) (by kernel_rfl) (by simp) ?_
         refine AllReadyH.cons rfl (fun KK hKK => ?_) AllReadyH.nil
         go_simp
         refine (l1In_any _ _ _ _).mono ?_
         rintro e9 w9 ⟨rfl, rfl⟩
         simp only [hin]
         go_simp
         refine hKK.out _ _ (HSF.out _ BD.out) (fun hHeld2 => ?_)
         clear hKK KK hHeld
         have hHeld := hHeld2
         clear hHeld2
         refine tkk 6 52 (v := ?_) ?_ ?_
         rotate_left 1
         ·intro w hSw
          obtain ⟨q0, q1, q2, q3, q4, q5, q6, q7, q8, q9, q10, q11⟩ := hSw
          go_simp <;> with_reducible rfl
         simp only [Act.put, List.setIfInBounds_toArray]
         dsimp only [List.set_cons_succ, List.set_cons_zero]
         refine tkk 7 53 (v := ?_) ?_ ?_
         rotate_left 1
         ·intro w hSw
          obtain ⟨q0, q1, q2, q3, q4, q5, q6, q7, q8, q9, q10, q11⟩ := hSw
          go_simp <;> with_reducible rfl
         simp only [Act.put, List.setIfInBounds_toArray]
         dsimp only [List.set_cons_succ, List.set_cons_zero]
         refine skk 8 54 ?_
         simp only [Act.put, List.setIfInBounds_toArray]
         dsimp only [List.set_cons_succ, List.set_cons_zero]
         refine skk 9 55 ?_
         simp only [Act.put, List.setIfInBounds_toArray]
         dsimp only [List.set_cons_succ, List.set_cons_zero]
         refine skk 10 56 ?_
         simp only [Act.put, List.setIfInBounds_toArray]
         dsimp only [List.set_cons_succ, List.set_cons_zero]
         refine skk 11 57 ?_
         simp only [Act.put, List.setIfInBounds_toArray]
         dsimp only [List.set_cons_succ, List.set_cons_zero]
         refine skk 12 58 ?_
         simp only [Act.put, List.setIfInBounds_toArray]
         dsimp only [List.set_cons_succ, List.set_cons_zero]
         refine skk 13 59 ?_
         simp only [Act.put, List.setIfInBounds_toArray]
         dsimp only [List.set_cons_succ, List.set_cons_zero]
         refine skk 14 60 ?_
         simp only [Act.put, List.setIfInBounds_toArray]
         dsimp only [List.set_cons_succ, List.set_cons_zero]
         refine skk 15 61 ?_
         simp only [Act.put, List.setIfInBounds_toArray]
         dsimp only [List.set_cons_succ, List.set_cons_zero]
         refine skk 16 62 ?_
         simp only [Act.put, List.setIfInBounds_toArray]
         dsimp only [List.set_cons_succ, List.set_cons_zero]
         refine skk 17 63 ?_
         simp only [Act.put, List.setIfInBounds_toArray]
         dsimp only [List.set_cons_succ, List.set_cons_zero]
         refine skk 18 64 ?_
         simp only [Act.put, List.setIfInBounds_toArray]
         dsimp only [List.set_cons_succ, List.set_cons_zero]
         refine skk 19 65 ?_
         simp only [Act.put, List.setIfInBounds_toArray]
         dsimp only [List.set_cons_succ, List.set_cons_zero]
         refine skk 20 66 ?_
         simp only [Act.put, List.setIfInBounds_toArray]
         dsimp only [List.set_cons_succ, List.set_cons_zero]
         refine skk 21 67 ?_
         simp only [Act.put, List.setIfInBounds_toArray]
         dsimp only [List.set_cons_succ, List.set_cons_zero]
         refine tkk 22 68 (v := ?_) ?_ ?_
         rotate_left 1
         ·intro w hSw
          obtain ⟨q0, q1, q2, q3, q4, q5, q6, q7, q8, q9, q10, q11⟩ := hSw
          go_simp <;> with_reducible rfl
         simp only [Act.put, List.setIfInBounds_toArray]
         dsimp only [List.set_cons_succ, List.set_cons_zero]
         refine tkk 23 69 (v := ?_) ?_ ?_
         rotate_left 1
         ·intro w hSw
          obtain ⟨q0, q1, q2, q3, q4, q5, q6, q7, q8, q9, q10, q11⟩ := hSw
          go_simp <;> with_reducible rfl
         simp only [Act.put, List.setIfInBounds_toArray]
         dsimp only [List.set_cons_succ, List.set_cons_zero]
         refine skk 24 70 ?_
         simp only [Act.put, List.setIfInBounds_toArray]
         dsimp only [List.set_cons_succ, List.set_cons_zero]
         refine skk 25 71 ?_
         simp only [Act.put, List.setIfInBounds_toArray]
         dsimp only [List.set_cons_succ, List.set_cons_zero]
         refine skk 26 72 ?_
         simp only [Act.put, List.setIfInBounds_toArray]
         dsimp only [List.set_cons_succ, List.set_cons_zero]
         refine skk 27 73 ?_
         simp only [Act.put, List.setIfInBounds_toArray]
         dsimp only [List.set_cons_succ, List.set_cons_zero]
         refine tkk 28 74 (v := ?_) ?_ ?_
         rotate_left 1
         ·intro w hSw
          obtain ⟨q0, q1, q2, q3, q4, q5, q6, q7, q8, q9, q10, q11⟩ := hSw
          go_simp <;> with_reducible rfl
         simp only [Act.put, List.setIfInBounds_toArray]
         dsimp only [List.set_cons_succ, List.set_cons_zero]
         refine wpAnyH_done (by kernel_rfl) ?_ _
         go_wp2_with fail
         go_meet
         case rel => exact ⟨by rw [HW.out] <;> rfl, BD⟩
        | true =>
         rcases Nat.eq_zero_or_pos j with hj0 | hj0
         ·subst hj0
          have HSF : Hid (∀ y, Below X.heap.size X y → SVo wr.heap.size w.heap.size ej.n ej.v next (.slice (some ⟨b, off, none⟩) L.length cap) b (off + 0 * 9) ej.n.id y) := fun y hy => HSG.out y hy _ _ D0.out
          have h00 : decide ((0 : Int) < ((0 : Nat) : Int)) = false := by decide
          have HW : Hid ((inB ej.n.id 1 (next - 1) && ((aheadI LN 0).map fun q => decide (q < ej.n.id)).getD true && nodeB LN ej.n) = nodeB LN ej.n) := by unfold Hid; rw [hin]; rfl
          refine wp_region_held_drew (S := SVo wr.heap.size w.heap.size ej.n ej.v next (.slice (some ⟨b, off, none⟩) L.length cap) b (off + 0 * 9) ej.n.id) (by kernel_rfl) (HSF.out _ (Below.refl _ _).drew) (fun hHeld => ?_)
          have BD : Hid (Below X.heap.size X X.drew) := (Below.refl _ _).drew
          generalize X.drew = D at BD hHeld ⊢
          refine tkk 0 46 (v := ?_) ?_ ?_
          rotate_left 1
          ·intro w hSw
           obtain ⟨q0, q1, q2, q3, q4, q5, q6, q7, q8, q9, q10, q11⟩ := hSw
           go_simp <;> with_reducible rfl
          simp only [Act.put, List.setIfInBounds_toArray]
          dsimp only [List.set_cons_succ, List.set_cons_zero]
          refine tkk 1 47 (v := ?_) ?_ ?_
          rotate_left 1
          ·intro w hSw
           obtain ⟨q0, q1, q2, q3, q4, q5, q6, q7, q8, q9, q10, q11⟩ := hSw
           go_simp <;> with_reducible rfl
          simp only [Act.put, List.setIfInBounds_toArray]
          dsimp only [List.set_cons_succ, List.set_cons_zero]
          refine tkk 2 48 (v := ?_) ?_ ?_
          rotate_left 1
          ·intro w hSw
           obtain ⟨q0, q1, q2, q3, q4, q5, q6, q7, q8, q9, q10, q11⟩ := hSw
           go_simp <;> with_reducible rfl
          simp only [Act.put, List.setIfInBounds_toArray]
          dsimp only [List.set_cons_succ, List.set_cons_zero]
          refine tkk 3 49 (v := ?_) ?_ ?_
          rotate_left 1
          ·intro w hSw
           obtain ⟨q0, q1, q2, q3, q4, q5, q6, q7, q8, q9, q10, q11⟩ := hSw
           go_simp <;> with_reducible rfl
          simp only [Act.put, List.setIfInBounds_toArray]
          dsimp only [List.set_cons_succ, List.set_cons_zero]
          refine tkk 4 50 (v := ?_) ?_ ?_
          rotate_left 1
          ·intro w hSw
           obtain ⟨q0, q1, q2, q3, q4, q5, q6, q7, q8, q9, q10, q11⟩ := hSw
           go_simp <;> with_reducible rfl
          simp only [Act.put, List.setIfInBounds_toArray]
          dsimp only [List.set_cons_succ, List.set_cons_zero]
          try simp only [hsb]
          refine wpAnyH_ready (rs := [5]) (by kernel_rfl) (by simp) ?_
          refine AllReadyH.cons rfl (fun KK hKK => ?_) AllReadyH.nil
          go_simp
          refine (l1In_any _ _ _ _).mono ?_
          rintro e9 w9 ⟨rfl, rfl⟩
          simp only [hin]
          go_simp
          refine hKK.out _ _ (HSF.out _ BD.out) (fun hHeld2 => ?_)
          clear hKK KK hHeld
          have hHeld := hHeld2
          clear hHeld2
          refine tkk 6 52 (v := ?_) ?_ ?_
          rotate_left 1
          ·intro w hSw
           obtain ⟨q0, q1, q2, q3, q4, q5, q6, q7, q8, q9, q10, q11⟩ := hSw
           go_simp <;> with_reducible rfl
          simp only [Act.put, List.setIfInBounds_toArray]
          dsimp only [List.set_cons_succ, List.set_cons_zero]
          refine tkk 7 53 (v := ?_) ?_ ?_
          rotate_left 1
          ·intro w hSw
           obtain ⟨q0, q1, q2, q3, q4, q5, q6, q7, q8, q9, q10, q11⟩ := hSw
           go_simp <;> with_reducible rfl
          simp only [Act.put, List.setIfInBounds_toArray]
          dsimp only [List.set_cons_succ, List.set_cons_zero]
          refine tkk 8 54 (v := ?_) ?_ ?_
          rotate_left 1
          ·intro w hSw
           obtain ⟨q0, q1, q2, q3, q4, q5, q6, q7, q8, q9, q10, q11⟩ := hSw
           go_simp <;> with_reducible rfl
          simp only [Act.put, List.setIfInBounds_toArray]
          dsimp only [List.set_cons_succ, List.set_cons_zero]
          refine tkk 9 55 (v := ?_) ?_ ?_
          rotate_left 1
          ·intro w hSw
           obtain ⟨q0, q1, q2, q3, q4, q5, q6, q7, q8, q9, q10, q11⟩ := hSw
           go_simp <;> with_reducible rfl
          simp only [Act.put, List.setIfInBounds_toArray]
          dsimp only [List.set_cons_succ, List.set_cons_zero]
          try simp only [h00]
          refine tkk 10 56 (v := ?_) ?_ ?_
          rotate_left 1
          ·intro w hSw
           obtain ⟨q0, q1, q2, q3, q4, q5, q6, q7, q8, q9, q10, q11⟩ := hSw
           go_simp <;> with_reducible rfl
          simp only [Act.put, List.setIfInBounds_toArray]
          dsimp only [List.set_cons_succ, List.set_cons_zero]
          refine skk 11 57 ?_
          simp only [Act.put, List.setIfInBounds_toArray]
          dsimp only [List.set_cons_succ, List.set_cons_zero]
          refine skk 12 58 ?_
          simp only [Act.put, List.setIfInBounds_toArray]
          dsimp only [List.set_cons_succ, List.set_cons_zero]
          refine skk 13 59 ?_
          simp only [Act.put, List.setIfInBounds_toArray]
          dsimp only [List.set_cons_succ, List.set_cons_zero]
          refine skk 14 60 ?_
          simp only [Act.put, List.setIfInBounds_toArray]
          dsimp only [List.set_cons_succ, List.set_cons_zero]
          refine skk 15 61 ?_
          simp only [Act.put, List.setIfInBounds_toArray]
          dsimp only [List.set_cons_succ, List.set_cons_zero]
          refine skk 16 62 ?_
          simp only [Act.put, List.setIfInBounds_toArray]
          dsimp only [List.set_cons_succ, List.set_cons_zero]
          refine skk 17 63 ?_
          simp only [Act.put, List.setIfInBounds_toArray]
          dsimp only [List.set_cons_succ, List.set_cons_zero]
          refine skk 18 64 ?_
          simp only [Act.put, List.setIfInBounds_toArray]
          dsimp only [List.set_cons_succ, List.set_cons_zero]
          refine skk 19 65 ?_
          simp only [Act.put, List.setIfInBounds_toArray]
          dsimp only [List.set_cons_succ, List.set_cons_zero]
          refine skk 20 66 ?_
          simp only [Act.put, List.setIfInBounds_toArray]
          dsimp only [List.set_cons_succ, List.set_cons_zero]
          refine tkk 21 67 (v := ?_) ?_ ?_
          rotate_left 1
          ·intro w hSw
           obtain ⟨q0, q1, q2, q3, q4, q5, q6, q7, q8, q9, q10, q11⟩ := hSw
           go_simp <;> with_reducible rfl
          simp only [Act.put, List.setIfInBounds_toArray]
          dsimp only [List.set_cons_succ, List.set_cons_zero]
          refine tkk 22 68 (v := ?_) ?_ ?_
          rotate_left 1
          ·intro w hSw
           obtain ⟨q0, q1, q2, q3, q4, q5, q6, q7, q8, q9, q10, q11⟩ := hSw
           go_simp <;> with_reducible rfl
          simp only [Act.put, List.setIfInBounds_toArray]
          dsimp only [List.set_cons_succ, List.set_cons_zero]
          refine tkk 23 69 (v := ?_) ?_ ?_
          rotate_left 1
          ·intro w hSw
           obtain ⟨q0, q1, q2, q3, q4, q5, q6, q7, q8, q9, q10, q11⟩ := hSw
           go_simp <;> with_reducible rfl
          simp only [Act.put, List.setIfInBounds_toArray]
          dsimp only [List.set_cons_succ, List.set_cons_zero]
          refine tkk 24 70 (v := ?_) ?_ ?_
          rotate_left 1
          ·intro w hSw
           obtain ⟨q0, q1, q2, q3, q4, q5, q6, q7, q8, q9, q10, q11⟩ := hSw
           go_simp <;> with_reducible rfl
          simp only [Act.put, List.setIfInBounds_toArray]
          dsimp only [List.set_cons_succ, List.set_cons_zero]
          refine tkk 25 71 (v := ?_) ?_ ?_
          rotate_left 1
          ·intro w hSw
           obtain ⟨q0, q1, q2, q3, q4, q5, q6, q7, q8, q9, q10, q11⟩ := hSw
           go_simp <;> with_reducible rfl
          simp only [Act.put, List.setIfInBounds_toArray]
          dsimp only [List.set_cons_succ, List.set_cons_zero]
          refine wpAnyH_ready (rs := [26]) (by kernel_rfl) (by simp) ?_
          refine AllReadyH.cons rfl (fun KK hKK => ?_) AllReadyH.nil
          go_simp
          refine (HND.out _ BD.out).mono ?_
          rintro e9 w9 ⟨rfl, b9⟩
          have B9 : Hid (Below X.heap.size X w9) := BD.out.trans (b9.mono BD.out.size)
          clear b9
          go_simp
          refine hKK.out _ _ (HSF.out _ B9.out) (fun hHeld2 => ?_)
          clear hKK KK hHeld
          have hHeld := hHeld2
          clear hHeld2
          refine tkk 27 73 (v := ?_) ?_ ?_
          rotate_left 1
          ·intro w hSw
           obtain ⟨q0, q1, q2, q3, q4, q5, q6, q7, q8, q9, q10, q11⟩ := hSw
           go_simp <;> with_reducible rfl
          simp only [Act.put, List.setIfInBounds_toArray]
          dsimp only [List.set_cons_succ, List.set_cons_zero]
          refine tkk 28 74 (v := ?_) ?_ ?_
          rotate_left 1
          ·intro w hSw
           obtain ⟨q0, q1, q2, q3, q4, q5, q6, q7, q8, q9, q10, q11⟩ := hSw
           go_simp <;> with_reducible rfl
          simp only [Act.put, List.setIfInBounds_toArray]
          dsimp only [List.set_cons_succ, List.set_cons_zero]
          refine wpAnyH_done (by kernel_rfl) ?_ _
          go_wp2_with fail
          go_meet
          case rel => exact ⟨by rw [HW.out] <;> rfl, B9⟩
         ·obtain ⟨k, rfl⟩ : ∃ k, j = k + 1 := ⟨j - 1, by omega⟩
          have hk : k < L.length := by omega
          have d2' := (HCC.out k hk).c0
          have hah : aheadI LN (k + 1) = some L[k].n.id := by rw [← HLN.out]; exact aheadI_succ hk
          generalize L[k].n.id = pid at d2' hah
          replace d2' := atCell HBW.out d2' (by omega)
          have HSF : Hid (∀ y, Below X.heap.size X y → SVo wr.heap.size w.heap.size ej.n ej.v next (.slice (some ⟨b, off, none⟩) L.length cap) b (off + k * 9) pid y) := fun y hy => HSG.out y hy _ _ d2'
          have h00 : decide ((0 : Int) < ((k + 1 : Nat) : Int)) = true := decide_eq_true (by omega)
          have hsub : IntKind.i64.wrap (((k + 1 : Nat) : Int) - 1) = (k : Int) := by rw [IntKind.wrap_i64]; omega
          have hsub3 : IntKind.i64.wrap (k : Int) = (k : Int) := by rw [IntKind.wrap_i64]; omega
          have hsub2 : IntKind.i64.wrap ((k : Int) + 1 - 1) = (k : Int) := by rw [IntKind.wrap_i64]; omega
          have h00' : decide ((0 : Int) < (k : Int) + 1) = true := decide_eq_true (by omega)
          have i2 : (0 : Int) ≤ (k : Int) ∧ (k : Int) < (L.length : Int) := by omega
          have HAH := Hid.intro hah
          clear hah d2'
          by_cases hltp : pid < ej.n.id
          ·have hge : decide (ej.n.id ≤ pid) = false := decide_eq_false (by omega)
           have HW : Hid ((inB ej.n.id 1 (next - 1) && ((aheadI LN (k + 1)).map fun q => decide (q < ej.n.id)).getD true && nodeB LN ej.n) = nodeB LN ej.n) := by unfold Hid; rw [HAH.out, hin]; simp [hltp]
           clear hltp
           refine wp_region_held_drew (S := SVo wr.heap.size w.heap.size ej.n ej.v next (.slice (some ⟨b, off, none⟩) L.length cap) b (off + k * 9) pid) (by kernel_rfl) (HSF.out _ (Below.refl _ _).drew) (fun hHeld => ?_)
           have BD : Hid (Below X.heap.size X X.drew) := (Below.refl _ _).drew
           generalize X.drew = D at BD hHeld ⊢
           refine tkk 0 46 (v := ?_) ?_ ?_
           rotate_left 1
           ·intro w hSw
            obtain ⟨q0, q1, q2, q3, q4, q5, q6, q7, q8, q9, q10, q11⟩ := hSw
            go_simp <;> with_reducible rfl
           simp only [Act.put, List.setIfInBounds_toArray]
           dsimp only [List.set_cons_succ, List.set_cons_zero]
           refine tkk 1 47 (v := ?_) ?_ ?_
           rotate_left 1
           ·intro w hSw
            obtain ⟨q0, q1, q2, q3, q4, q5, q6, q7, q8, q9, q10, q11⟩ := hSw
            go_simp <;> with_reducible rfl
           simp only [Act.put, List.setIfInBounds_toArray]
           dsimp only [List.set_cons_succ, List.set_cons_zero]
           refine tkk 2 48 (v := ?_) ?_ ?_
           rotate_left 1
           ·intro w hSw
            obtain ⟨q0, q1, q2, q3, q4, q5, q6, q7, q8, q9, q10, q11⟩ := hSw
            go_simp <;> with_reducible rfl
           simp only [Act.put, List.setIfInBounds_toArray]
           dsimp only [List.set_cons_succ, List.set_cons_zero]
           refine tkk 3 49 (v := ?_) ?_ ?_
           rotate_left 1
           ·intro w hSw
            obtain ⟨q0, q1, q2, q3, q4, q5, q6, q7, q8, q9, q10, q11⟩ := hSw
            go_simp <;> with_reducible rfl
           simp only [Act.put, List.setIfInBounds_toArray]
           dsimp only [List.set_cons_succ, List.set_cons_zero]
           refine tkk 4 50 (v := ?_) ?_ ?_
           rotate_left 1
           ·intro w hSw
            obtain ⟨q0, q1, q2, q3, q4, q5, q6, q7, q8, q9, q10, q11⟩ := hSw
            go_simp <;> with_reducible rfl
           simp only [Act.put, List.setIfInBounds_toArray]
           dsimp only [List.set_cons_succ, List.set_cons_zero]
           try simp only [hsb]
           refine wpAnyH_ready (rs := [5]) (by kernel_rfl) (by simp) ?_
           refine AllReadyH.cons rfl (fun KK hKK => ?_) AllReadyH.nil
           go_simp
           refine (l1In_any _ _ _ _).mono ?_
           rintro e9 w9 ⟨rfl, rfl⟩
           simp only [hin]
           go_simp
           refine hKK.out _ _ (HSF.out _ BD.out) (fun hHeld2 => ?_)
           clear hKK KK hHeld
           have hHeld := hHeld2
           clear hHeld2
           refine tkk 6 52 (v := ?_) ?_ ?_
           rotate_left 1
           ·intro w hSw
            obtain ⟨q0, q1, q2, q3, q4, q5, q6, q7, q8, q9, q10, q11⟩ := hSw
            go_simp <;> with_reducible rfl
           simp only [Act.put, List.setIfInBounds_toArray]
           dsimp only [List.set_cons_succ, List.set_cons_zero]
           refine tkk 7 53 (v := ?_) ?_ ?_
           rotate_left 1
           ·intro w hSw
            obtain ⟨q0, q1, q2, q3, q4, q5, q6, q7, q8, q9, q10, q11⟩ := hSw
            go_simp <;> with_reducible rfl
           simp only [Act.put, List.setIfInBounds_toArray]
           dsimp only [List.set_cons_succ, List.set_cons_zero]
           refine tkk 8 54 (v := ?_) ?_ ?_
           rotate_left 1
           ·intro w hSw
            obtain ⟨q0, q1, q2, q3, q4, q5, q6, q7, q8, q9, q10, q11⟩ := hSw
            go_simp <;> with_reducible rfl
           simp only [Act.put, List.setIfInBounds_toArray]
           dsimp only [List.set_cons_succ, List.set_cons_zero]
           refine tkk 9 55 (v := ?_) ?_ ?_
           rotate_left 1
           ·intro w hSw
            obtain ⟨q0, q1, q2, q3, q4, q5, q6, q7, q8, q9, q10, q11⟩ := hSw
            go_simp <;> with_reducible rfl
           simp only [Act.put, List.setIfInBounds_toArray]
           dsimp only [List.set_cons_succ, List.set_cons_zero]
           first | simp only [h00] | simp only [h00'] | skip
           refine tkk 10 56 (v := ?_) ?_ ?_
           rotate_left 1
           ·intro w hSw
            obtain ⟨q0, q1, q2, q3, q4, q5, q6, q7, q8, q9, q10, q11⟩ := hSw
            go_simp <;> with_reducible rfl
           simp only [Act.put, List.setIfInBounds_toArray]
           dsimp only [List.set_cons_succ, List.set_cons_zero]
           refine tkk 11 57 (v := ?_) ?_ ?_
           rotate_left 1
           ·intro w hSw
            obtain ⟨q0, q1, q2, q3, q4, q5, q6, q7, q8, q9, q10, q11⟩ := hSw
            go_simp <;> with_reducible rfl
           simp only [Act.put, List.setIfInBounds_toArray]
           dsimp only [List.set_cons_succ, List.set_cons_zero]
           refine tkk 12 58 (v := ?_) ?_ ?_
           rotate_left 1
           ·intro w hSw
            obtain ⟨q0, q1, q2, q3, q4, q5, q6, q7, q8, q9, q10, q11⟩ := hSw
            go_simp <;> with_reducible rfl
           simp only [Act.put, List.setIfInBounds_toArray]
           dsimp only [List.set_cons_succ, List.set_cons_zero]
           refine tkk 13 59 (v := ?_) ?_ ?_
           rotate_left 1
           ·intro w hSw
            obtain ⟨q0, q1, q2, q3, q4, q5, q6, q7, q8, q9, q10, q11⟩ := hSw
            go_simp <;> with_reducible rfl
           simp only [Act.put, List.setIfInBounds_toArray]
           dsimp only [List.set_cons_succ, List.set_cons_zero]
           refine tkk 14 60 (v := ?_) ?_ ?_
           rotate_left 1
           ·intro w hSw
            obtain ⟨q0, q1, q2, q3, q4, q5, q6, q7, q8, q9, q10, q11⟩ := hSw
            go_simp <;> with_reducible rfl
           simp only [Act.put, List.setIfInBounds_toArray]
           dsimp only [List.set_cons_succ, List.set_cons_zero]
           first | simp only [hsub3] | simp only [hsub] | simp only [hsub2] | skip
           refine tkk 15 61 (v := ?_) ?_ ?_
           rotate_left 1
           ·intro w hSw
            obtain ⟨q0, q1, q2, q3, q4, q5, q6, q7, q8, q9, q10, q11⟩ := hSw
            go_simp <;> with_reducible rfl
           simp only [Act.put, List.setIfInBounds_toArray]
           dsimp only [List.set_cons_succ, List.set_cons_zero]
           refine tkk 16 62 (v := ?_) ?_ ?_
           rotate_left 1
           ·intro w hSw
            obtain ⟨q0, q1, q2, q3, q4, q5, q6, q7, q8, q9, q10, q11⟩ := hSw
            go_simp <;> with_reducible rfl
           simp only [Act.put, List.setIfInBounds_toArray]
           dsimp only [List.set_cons_succ, List.set_cons_zero]
           refine tkk 17 63 (v := ?_) ?_ ?_
           rotate_left 1
           ·intro w hSw
            obtain ⟨q0, q1, q2, q3, q4, q5, q6, q7, q8, q9, q10, q11⟩ := hSw
            go_simp <;> with_reducible rfl
           simp only [Act.put, List.setIfInBounds_toArray]
           dsimp only [List.set_cons_succ, List.set_cons_zero]
           refine tkk 18 64 (v := ?_) ?_ ?_
           rotate_left 1
           ·intro w hSw
            obtain ⟨q0, q1, q2, q3, q4, q5, q6, q7, q8, q9, q10, q11⟩ := hSw
            go_simp <;> with_reducible rfl
           simp only [Act.put, List.setIfInBounds_toArray]
           dsimp only [List.set_cons_succ, List.set_cons_zero]
           refine tkk 19 65 (v := ?_) ?_ ?_
           rotate_left 1
           ·intro w hSw
            obtain ⟨q0, q1, q2, q3, q4, q5, q6, q7, q8, q9, q10, q11⟩ := hSw
            go_simp <;> with_reducible rfl
           simp only [Act.put, List.setIfInBounds_toArray]
           dsimp only [List.set_cons_succ, List.set_cons_zero]
           refine tkk 20 66 (v := ?_) ?_ ?_
           rotate_left 1
           ·intro w hSw
            obtain ⟨q0, q1, q2, q3, q4, q5, q6, q7, q8, q9, q10, q11⟩ := hSw
            go_simp <;> with_reducible rfl
           simp only [Act.put, List.setIfInBounds_toArray]
           dsimp only [List.set_cons_succ, List.set_cons_zero]
           try simp only [hge]
           refine tkk 21 67 (v := ?_) ?_ ?_
           rotate_left 1
           ·intro w hSw
            obtain ⟨q0, q1, q2, q3, q4, q5, q6, q7, q8, q9, q10, q11⟩ := hSw
            go_simp <;> with_reducible rfl
           simp only [Act.put, List.setIfInBounds_toArray]
           dsimp only [List.set_cons_succ, List.set_cons_zero]
           refine tkk 22 68 (v := ?_) ?_ ?_
           rotate_left 1
           ·intro w hSw
            obtain ⟨q0, q1, q2, q3, q4, q5, q6, q7, q8, q9, q10, q11⟩ := hSw
            go_simp <;> with_reducible rfl
           simp only [Act.put, List.setIfInBounds_toArray]
           dsimp only [List.set_cons_succ, List.set_cons_zero]
           refine tkk 23 69 (v := ?_) ?_ ?_
           rotate_left 1
           ·intro w hSw
            obtain ⟨q0, q1, q2, q3, q4, q5, q6, q7, q8, q9, q10, q11⟩ := hSw
            go_simp <;> with_reducible rfl
           simp only [Act.put, List.setIfInBounds_toArray]
           dsimp only [List.set_cons_succ, List.set_cons_zero]
           refine tkk 24 70 (v := ?_) ?_ ?_
           rotate_left 1
           ·intro w hSw
            obtain ⟨q0, q1, q2, q3, q4, q5, q6, q7, q8, q9, q10, q11⟩ := hSw
            go_simp <;> with_reducible rfl
           simp only [Act.put, List.setIfInBounds_toArray]
           dsimp only [List.set_cons_succ, List.set_cons_zero]
           refine tkk 25 71 (v := ?_) ?_ ?_
           rotate_left 1
           ·intro w hSw
            obtain ⟨q0, q1, q2, q3, q4, q5, q6, q7, q8, q9, q10, q11⟩ := hSw
            go_simp <;> with_reducible rfl
           simp only [Act.put, List.setIfInBounds_toArray]
           dsimp only [List.set_cons_succ, List.set_cons_zero]
           refine wpAnyH_ready (rs := [26]) (by kernel_rfl) (by simp) ?_
           refine AllReadyH.cons rfl (fun KK hKK => ?_) AllReadyH.nil
           go_simp
           refine (HND.out _ BD.out).mono ?_
           rintro e9 w9 ⟨rfl, b9⟩
           have B9 : Hid (Below X.heap.size X w9) := BD.out.trans (b9.mono BD.out.size)
           clear b9
           go_simp
           refine hKK.out _ _ (HSF.out _ B9.out) (fun hHeld2 => ?_)
           clear hKK KK hHeld
           have hHeld := hHeld2
           clear hHeld2
           refine tkk 27 73 (v := ?_) ?_ ?_
           rotate_left 1
           ·intro w hSw
            obtain ⟨q0, q1, q2, q3, q4, q5, q6, q7, q8, q9, q10, q11⟩ := hSw
            go_simp <;> with_reducible rfl
           simp only [Act.put, List.setIfInBounds_toArray]
           dsimp only [List.set_cons_succ, List.set_cons_zero]
           refine tkk 28 74 (v := ?_) ?_ ?_
           rotate_left 1
           ·intro w hSw
            obtain ⟨q0, q1, q2, q3, q4, q5, q6, q7, q8, q9, q10, q11⟩ := hSw
            go_simp <;> with_reducible rfl
           simp only [Act.put, List.setIfInBounds_toArray]
           dsimp only [List.set_cons_succ, List.set_cons_zero]
           refine wpAnyH_done (by kernel_rfl) ?_ _
           go_wp2_with fail
           go_meet
           case rel => exact ⟨by rw [HW.out] <;> rfl, B9⟩
          ·have hge : decide (ej.n.id ≤ pid) = true := decide_eq_true (by omega)
           have HW : Hid ((inB ej.n.id 1 (next - 1) && ((aheadI LN (k + 1)).map fun q => decide (q < ej.n.id)).getD true && nodeB LN ej.n) = false) := by unfold Hid; rw [HAH.out, hin]; simp [hltp]
           clear hltp
           refine wp_region_held_drew (S := SVo wr.heap.size w.heap.size ej.n ej.v next (.slice (some ⟨b, off, none⟩) L.length cap) b (off + k * 9) pid) (by kernel_rfl) (HSF.out _ (Below.refl _ _).drew) (fun hHeld => ?_)
           have BD : Hid (Below X.heap.size X X.drew) := (Below.refl _ _).drew
           generalize X.drew = D at BD hHeld ⊢
           refine tkk 0 46 (v := ?_) ?_ ?_
           rotate_left 1
           ·intro w hSw
            obtain ⟨q0, q1, q2, q3, q4, q5, q6, q7, q8, q9, q10, q11⟩ := hSw
            go_simp <;> with_reducible rfl
           simp only [Act.put, List.setIfInBounds_toArray]
           dsimp only [List.set_cons_succ, List.set_cons_zero]
           refine tkk 1 47 (v := ?_) ?_ ?_
           rotate_left 1
           ·intro w hSw
            obtain ⟨q0, q1, q2, q3, q4, q5, q6, q7, q8, q9, q10, q11⟩ := hSw
            go_simp <;> with_reducible rfl
           simp only [Act.put, List.setIfInBounds_toArray]
           dsimp only [List.set_cons_succ, List.set_cons_zero]
           refine tkk 2 48 (v := ?_) ?_ ?_
           rotate_left 1
           ·intro w hSw
            obtain ⟨q0, q1, q2, q3, q4, q5, q6, q7, q8, q9, q10, q11⟩ := hSw
            go_simp <;> with_reducible rfl
           simp only [Act.put, List.setIfInBounds_toArray]
           dsimp only [List.set_cons_succ, List.set_cons_zero]
           refine tkk 3 49 (v := ?_) ?_ ?_
           rotate_left 1
           ·intro w hSw
            obtain ⟨q0, q1, q2, q3, q4, q5, q6, q7, q8, q9, q10, q11⟩ := hSw
            go_simp <;> with_reducible rfl
           simp only [Act.put, List.setIfInBounds_toArray]
           dsimp only [List.set_cons_succ, List.set_cons_zero]
           refine tkk 4 50 (v := ?_) ?_ ?_
           rotate_left 1
           ·intro w hSw
            obtain ⟨q0, q1, q2, q3, q4, q5, q6, q7, q8, q9, q10, q11⟩ := hSw
            go_simp <;> with_reducible rfl
           simp only [Act.put, List.setIfInBounds_toArray]
           dsimp only [List.set_cons_succ, List.set_cons_zero]
           try simp only [hsb]
           refine wpAnyH_ready (rs := [5]) (by kernel_rfl) (by simp) ?_
           refine AllReadyH.cons rfl (fun KK hKK => ?_) AllReadyH.nil
           go_simp
           refine (l1In_any _ _ _ _).mono ?_
           rintro e9 w9 ⟨rfl, rfl⟩
           simp only [hin]
           go_simp
           refine hKK.out _ _ (HSF.out _ BD.out) (fun hHeld2 => ?_)
           clear hKK KK hHeld
           have hHeld := hHeld2
           clear hHeld2
           refine tkk 6 52 (v := ?_) ?_ ?_
           rotate_left 1
           ·intro w hSw
            obtain ⟨q0, q1, q2, q3, q4, q5, q6, q7, q8, q9, q10, q11⟩ := hSw
            go_simp <;> with_reducible rfl
           simp only [Act.put, List.setIfInBounds_toArray]
           dsimp only [List.set_cons_succ, List.set_cons_zero]
           refine tkk 7 53 (v := ?_) ?_ ?_
           rotate_left 1
           ·intro w hSw
            obtain ⟨q0, q1, q2, q3, q4, q5, q6, q7, q8, q9, q10, q11⟩ := hSw
            go_simp <;> with_reducible rfl
           simp only [Act.put, List.setIfInBounds_toArray]
           dsimp only [List.set_cons_succ, List.set_cons_zero]
           refine tkk 8 54 (v := ?_) ?_ ?_
           rotate_left 1
           ·intro w hSw
            obtain ⟨q0, q1, q2, q3, q4, q5, q6, q7, q8, q9, q10, q11⟩ := hSw
            go_simp <;> with_reducible rfl
           simp only [Act.put, List.setIfInBounds_toArray]
           dsimp only [List.set_cons_succ, List.set_cons_zero]
           refine tkk 9 55 (v := ?_) ?_ ?_
           rotate_left 1
           ·intro w hSw
            obtain ⟨q0, q1, q2, q3, q4, q5, q6, q7, q8, q9, q10, q11⟩ := hSw
            go_simp <;> with_reducible rfl
           simp only [Act.put, List.setIfInBounds_toArray]
           dsimp only [List.set_cons_succ, List.set_cons_zero]
           first | simp only [h00] | simp only [h00'] | skip
           refine tkk 10 56 (v := ?_) ?_ ?_
           rotate_left 1
           ·intro w hSw
            obtain ⟨q0, q1, q2, q3, q4, q5, q6, q7, q8, q9, q10, q11⟩ := hSw
            go_simp <;> with_reducible rfl
           simp only [Act.put, List.setIfInBounds_toArray]
           dsimp only [List.set_cons_succ, List.set_cons_zero]
           refine tkk 11 57 (v := ?_) ?_ ?_
           rotate_left 1
           ·intro w hSw
            obtain ⟨q0, q1, q2, q3, q4, q5, q6, q7, q8, q9, q10, q11⟩ := hSw
            go_simp <;> with_reducible rfl
           simp only [Act.put, List.setIfInBounds_toArray]
           dsimp only [List.set_cons_succ, List.set_cons_zero]
           refine tkk 12 58 (v := ?_) ?_ ?_
           rotate_left 1
           ·intro w hSw
            obtain ⟨q0, q1, q2, q3, q4, q5, q6, q7, q8, q9, q10, q11⟩ := hSw
            go_simp <;> with_reducible rfl
           simp only [Act.put, List.setIfInBounds_toArray]
           dsimp only [List.set_cons_succ, List.set_cons_zero]
           refine tkk 13 59 (v := ?_) ?_ ?_
           rotate_left 1
           ·intro w hSw
            obtain ⟨q0, q1, q2, q3, q4, q5, q6, q7, q8, q9, q10, q11⟩ := hSw
            go_simp <;> with_reducible rfl
           simp only [Act.put, List.setIfInBounds_toArray]
           dsimp only [List.set_cons_succ, List.set_cons_zero]
           refine tkk 14 60 (v := ?_) ?_ ?_
           rotate_left 1
           ·intro w hSw
            obtain ⟨q0, q1, q2, q3, q4, q5, q6, q7, q8, q9, q10, q11⟩ := hSw
            go_simp <;> with_reducible rfl
           simp only [Act.put, List.setIfInBounds_toArray]
           dsimp only [List.set_cons_succ, List.set_cons_zero]
           first | simp only [hsub3] | simp only [hsub] | simp only [hsub2] | skip
           refine tkk 15 61 (v := ?_) ?_ ?_
           rotate_left 1
           ·intro w hSw
            obtain ⟨q0, q1, q2, q3, q4, q5, q6, q7, q8, q9, q10, q11⟩ := hSw
            go_simp <;> with_reducible rfl
           simp only [Act.put, List.setIfInBounds_toArray]
           dsimp only [List.set_cons_succ, List.set_cons_zero]
           refine tkk 16 62 (v := ?_) ?_ ?_
           rotate_left 1
           ·intro w hSw
            obtain ⟨q0, q1, q2, q3, q4, q5, q6, q7, q8, q9, q10, q11⟩ := hSw
            go_simp <;> with_reducible rfl
           simp only [Act.put, List.setIfInBounds_toArray]
           dsimp only [List.set_cons_succ, List.set_cons_zero]
           refine tkk 17 63 (v := ?_) ?_ ?_
           rotate_left 1
           ·intro w hSw
            obtain ⟨q0, q1, q2, q3, q4, q5, q6, q7, q8, q9, q10, q11⟩ := hSw
            go_simp <;> with_reducible rfl
           simp only [Act.put, List.setIfInBounds_toArray]
           dsimp only [List.set_cons_succ, List.set_cons_zero]
           refine tkk 18 64 (v := ?_) ?_ ?_
           rotate_left 1
           ·intro w hSw
            obtain ⟨q0, q1, q2, q3, q4, q5, q6, q7, q8, q9, q10, q11⟩ := hSw
            go_simp <;> with_reducible rfl
           simp only [Act.put, List.setIfInBounds_toArray]
           dsimp only [List.set_cons_succ, List.set_cons_zero]
           refine tkk 19 65 (v := ?_) ?_ ?_
           rotate_left 1
           ·intro w hSw
            obtain ⟨q0, q1, q2, q3, q4, q5, q6, q7, q8, q9, q10, q11⟩ := hSw
            go_simp <;> with_reducible rfl
           simp only [Act.put, List.setIfInBounds_toArray]
           dsimp only [List.set_cons_succ, List.set_cons_zero]
           refine tkk 20 66 (v := ?_) ?_ ?_
           rotate_left 1
           ·intro w hSw
            obtain ⟨q0, q1, q2, q3, q4, q5, q6, q7, q8, q9, q10, q11⟩ := hSw
            go_simp <;> with_reducible rfl
           simp only [Act.put, List.setIfInBounds_toArray]
           dsimp only [List.set_cons_succ, List.set_cons_zero]
           try simp only [hge]
           refine tkk 21 67 (v := ?_) ?_ ?_
           rotate_left 1
           ·intro w hSw
            obtain ⟨q0, q1, q2, q3, q4, q5, q6, q7, q8, q9, q10, q11⟩ := hSw
            go_simp <;> with_reducible rfl
           simp only [Act.put, List.setIfInBounds_toArray]
           dsimp only [List.set_cons_succ, List.set_cons_zero]
           refine tkk 22 68 (v := ?_) ?_ ?_
           rotate_left 1
           ·intro w hSw
            obtain ⟨q0, q1, q2, q3, q4, q5, q6, q7, q8, q9, q10, q11⟩ := hSw
            go_simp <;> with_reducible rfl
           simp only [Act.put, List.setIfInBounds_toArray]
           dsimp only [List.set_cons_succ, List.set_cons_zero]
           refine tkk 23 69 (v := ?_) ?_ ?_
           rotate_left 1
           ·intro w hSw
            obtain ⟨q0, q1, q2, q3, q4, q5, q6, q7, q8, q9, q10, q11⟩ := hSw
            go_simp <;> with_reducible rfl
           simp only [Act.put, List.setIfInBounds_toArray]
           dsimp only [List.set_cons_succ, List.set_cons_zero]
           refine skk 24 70 ?_
           simp only [Act.put, List.setIfInBounds_toArray]
           dsimp only [List.set_cons_succ, List.set_cons_zero]
           refine skk 25 71 ?_
           simp only [Act.put, List.setIfInBounds_toArray]
           dsimp only [List.set_cons_succ, List.set_cons_zero]
           refine skk 26 72 ?_
           simp only [Act.put, List.setIfInBounds_toArray]
           dsimp only [List.set_cons_succ, List.set_cons_zero]
           refine skk 27 73 ?_
           simp only [Act.put, List.setIfInBounds_toArray]
           dsimp only [List.set_cons_succ, List.set_cons_zero]
           refine tkk 28 74 (v := ?_) ?_ ?_
           rotate_left 1
           ·intro w hSw
            obtain ⟨q0, q1, q2, q3, q4, q5, q6, q7, q8, q9, q10, q11⟩ := hSw
            go_simp <;> with_reducible rfl
           simp only [Act.put, List.setIfInBounds_toArray]
           dsimp only [List.set_cons_succ, List.set_cons_zero]
           refine wpAnyH_done (by kernel_rfl) ?_ _
           go_wp2_with fail
           go_meet
           case rel => exact ⟨by rw [HW.out] <;> rfl, BD⟩
       case rest =>
       obtain ⟨rfl, HBC⟩ := hcut
       have HBF : Hid (Below W.heap.size W wc) := HBX.out.trans (HBC.out.mono (by omega))
       cases hall : (inB ej.n.id 1 (next - 1) && ((aheadI LN j).map fun q => decide (q < ej.n.id)).getD true && nodeB LN ej.n) with
       | false =>
        have HFF : Hid (volB next LN = false) := by unfold Hid; rw [HVC.out, HJ.out, HST.out, hall]; rfl
        go_wp2_with fail
        go_ret
        exact ⟨ret_bool HFF.out.symm, bW.trans (HBF.out.mono (by omega))⟩
       | true =>
        have HFF : Hid (indB LN next none LN = indB LN next (aheadI LN (j + 1)) (LN.drop (j + 1))) := by unfold Hid; rw [HJ.out, HST.out, hall]; rfl
        go_wp2_with fail
        go_roundw
        case rel => exact ⟨j + 1, by go_num, by omega, HFF, HBF⟩
        case measure => simp [intOf]; omega
      ·obtain rfl : j = L.length := by omega
       have hall : indB LN next none LN = true := by
        have := HJ.out
        rw [← hlen, List.drop_length, indB] at this
        exact this
       have hsm := indB_mem LN hall
       have HSM : Hid (SmN L) := ⟨by omega, fun p hp => (nodeB_small (hsm p.n (by rw [← HLN.out]; exact List.mem_map_of_mem hp))).1⟩
       have HMB : Hid (∀ p ∈ L, 0 ≤ p.n.maxb ∧ 0 ≤ p.n.maxi) := fun p hp => (nodeB_small (hsm p.n (by rw [← HLN.out]; exact List.mem_map_of_mem hp))).2
       have HVD : Hid (volB next LN = (wholeB LN && decide (bytesN LN ≤ 400) && !overB LN)) := by unfold Hid; rw [HVC.out, hall]; rfl
       clear hall hsm HVC HJ
       obtain ⟨wo, rfl⟩ : ∃ wo : World, wo = wr := ⟨_, rfl⟩
       go_upto_region 9 with fail
       go_upto_region 10 with (go_at_call 28; refine (l4Below_any next L _ N 1 _ (by omega) (HV.out.kept (HBW.out.mono hN)) HSM.out).mono ?_; rw [HLN.out]; rintro e w2 ⟨v2, rfl, o2, b2⟩; obtain ⟨a2, c2, rfl⟩ := o2.slice; have HO2 := Hid.intro o2; have HB2 := Hid.intro b2; clear o2 b2)
       have HBW2 := Hid.intro (HBJ.out.trans (HB2.out.mono hzr))
       have hsl : (belL LN 1).length = L.length := by rw [belL_len, hlen]
       obtain ⟨s, hs⟩ : ∃ s, belL LN 1 = s := ⟨_, rfl⟩
       rw [hs] at HO2 hsl ⊢
       have HSS := Hid.intro hs
       have HR2 := Hid.intro HO2.out.rowAll
       rw [hsl] at HR2 ⊢
       have hz2 := HBW2.out.size
       clear hs HO2 HB2 cW
       go_wp2_with fail
       go_loopw [6] (fun i wr => ∃ (j : Nat), i = .int .i64 j ∧ 1 ≤ j ∧ j ≤ L.length ∧ Hid (∀ i', 1 ≤ i' → i' < j → whI LN s i' = true) ∧ Hid (Below w2.heap.size w2 wr)) (fun i _ => L.length - (intOf i).toNat)
       case atStart => exact ⟨1, rfl, by omega, by omega, fun i' h1 h2 => by omega, Below.refl _ _⟩
       case round =>
        obtain ⟨j, rfl, hj1, hj, HJ, HB3⟩ := hrel
        have HBJ3 := Hid.intro (HBW2.out.trans (HB3.out.mono (by omega)))
        have HBW3 := Hid.intro (bW.trans (HBJ3.out.mono (by omega)))
        have hz3 := HBJ3.out.size
        have cW := keepC HBJ3.out (show w.heap.size < W.heap.size by omega) CW0.out
        by_cases hlt : j < L.length
        ·have hc := HCC.out j hlt
         have hls : j < s.length := by omega
         have hwh : whI LN s j = (s[j] && !(decide (L[j].n.kind = 2) && !decide (namedN LN L[j].n.id = 1))) := by
          have := whI_at (s := s) hlt hls
          rw [HLN.out] at this
          exact this
         obtain ⟨a3, c3, hv3, -, -, hrr⟩ := HR2.out
         rw [hsl] at hv3
         simp only [Value.slice.injEq, true_and] at hv3
         obtain ⟨rfl, rfl⟩ := hv3
         obtain ⟨sb, so, rfl, hb3, hd3⟩ := hrr (by intro h; rw [h] at hls; simp at hls)
         have d3 := hd3 j hls 0 (by decide)
         simp only [boolE, Nat.mul_one, Nat.add_zero, List.getElem?_cons_zero] at d3
         generalize L[j] = ej at hc hwh
         generalize s[j] = xin at d3 hwh
         have d4 := atCell HB3.out d3 hb3
         have hca := hc.kept HBW3.out (by omega)
         have hjl : (j : Int) < (L.length : Int) := by omega
         have i1 : (0 : Int) ≤ (j : Int) ∧ (j : Int) < (L.length : Int) := by omega
         have HWH := Hid.intro hwh
         have HSF : Hid (∀ y, Below wr.heap.size wr y → SVw w.heap.size next (.slice (some ⟨b, off, none⟩) L.length cap) b (off + j * 9) ej.n sb (so + j) xin y) := fun y hy => by
          have hz4 := HB3.out.size
          have k1 := keepC hy (by omega) cW
          have hcb := hca.kept hy (by omega)
          exact ⟨by rw [k1]; rfl, by rw [k1]; rfl, hcb.c0, hcb.c1, atCell hy d4 (by omega)⟩
         have HNM : Hid (∀ y, Below wr.heap.size wr y → Calls Tryz.prog 29 #[volV next (.slice (some ⟨b, off, none⟩) L.length cap), .int .i64 ej.n.id] y fun e w' => e = .returned (.int .i64 (namedN LN ej.n.id : Nat)) ∧ Below y.heap.size y w') := fun y hy => by
          have h1 := HBW3.out.trans (hy.mono (by omega))
          rw [← HLN.out]
          exact l4Named_any next L _ N ej.n.id y (by have := h1.size; omega) (HV.out.kept (h1.mono hN)) HSM.out
         clear hwh hrr hd3 d3 d4 hca hc
         go_upto_region 13 with fail
         clear cW
         go_cut [108] from 77 to 108 (fun s wc => s = .bool (!(xin && !(decide (ej.n.kind = 2) && !decide (namedN LN ej.n.id = 1)))) ∧ Hid (Below wr.heap.size wr wc))
         case first =>
          cases xin with
          | false =>
           have HW : Hid ((false && !(decide (ej.n.kind = 2) && !decide (namedN LN ej.n.id = 1))) = false) := rfl
           refine wp_region_held_drew (S := SVw w.heap.size next (.slice (some ⟨b, off, none⟩) L.length cap) b (off + j * 9) ej.n sb (so + j) false) (by kernel_rfl) (HSF.out _ (Below.refl _ _).drew) (fun hHeld => ?_)
           have BD : Hid (Below wr.heap.size wr wr.drew) := (Below.refl _ _).drew
           generalize wr.drew = D at BD hHeld ⊢
           refine tkk 0 84 (v := ?_) ?_ ?_
           rotate_left 1
           ·intro w hSw
            obtain ⟨q0, q1, q2, q3, q4⟩ := hSw
            go_simp <;> with_reducible rfl
           simp only [Act.put, List.setIfInBounds_toArray]
           dsimp only [List.set_cons_succ, List.set_cons_zero]
           refine tkk 1 85 (v := ?_) ?_ ?_
           rotate_left 1
           ·intro w hSw
            obtain ⟨q0, q1, q2, q3, q4⟩ := hSw
            go_simp <;> with_reducible rfl
           simp only [Act.put, List.setIfInBounds_toArray]
           dsimp only [List.set_cons_succ, List.set_cons_zero]
           refine tkk 2 86 (v := ?_) ?_ ?_
           rotate_left 1
           ·intro w hSw
            obtain ⟨q0, q1, q2, q3, q4⟩ := hSw
            go_simp <;> with_reducible rfl
           simp only [Act.put, List.setIfInBounds_toArray]
           dsimp only [List.set_cons_succ, List.set_cons_zero]
           refine tkk 3 87 (v := ?_) ?_ ?_
           rotate_left 1
           ·intro w hSw
            obtain ⟨q0, q1, q2, q3, q4⟩ := hSw
            go_simp <;> with_reducible rfl
           simp only [Act.put, List.setIfInBounds_toArray]
           dsimp only [List.set_cons_succ, List.set_cons_zero]
           refine tkk 4 88 (v := ?_) ?_ ?_
           rotate_left 1
           ·intro w hSw
            obtain ⟨q0, q1, q2, q3, q4⟩ := hSw
            go_simp <;> with_reducible rfl
           simp only [Act.put, List.setIfInBounds_toArray]
           dsimp only [List.set_cons_succ, List.set_cons_zero]
           refine tkk 5 89 (v := ?_) ?_ ?_
           rotate_left 1
           ·intro w hSw
            obtain ⟨q0, q1, q2, q3, q4⟩ := hSw
            go_simp <;> with_reducible rfl
           simp only [Act.put, List.setIfInBounds_toArray]
           dsimp only [List.set_cons_succ, List.set_cons_zero]
           refine skk 6 90 ?_
           simp only [Act.put, List.setIfInBounds_toArray]
           dsimp only [List.set_cons_succ, List.set_cons_zero]
           refine skk 7 91 ?_
           simp only [Act.put, List.setIfInBounds_toArray]
           dsimp only [List.set_cons_succ, List.set_cons_zero]
           refine skk 8 92 ?_
           simp only [Act.put, List.setIfInBounds_toArray]
           dsimp only [List.set_cons_succ, List.set_cons_zero]
           refine skk 9 93 ?_
           simp only [Act.put, List.setIfInBounds_toArray]
           dsimp only [List.set_cons_succ, List.set_cons_zero]
           refine skk 10 94 ?_
           simp only [Act.put, List.setIfInBounds_toArray]
           dsimp only [List.set_cons_succ, List.set_cons_zero]
           refine skk 11 95 ?_
           simp only [Act.put, List.setIfInBounds_toArray]
           dsimp only [List.set_cons_succ, List.set_cons_zero]
           refine skk 12 96 ?_
           simp only [Act.put, List.setIfInBounds_toArray]
           dsimp only [List.set_cons_succ, List.set_cons_zero]
           refine skk 13 97 ?_
           simp only [Act.put, List.setIfInBounds_toArray]
           dsimp only [List.set_cons_succ, List.set_cons_zero]
           refine skk 14 98 ?_
           simp only [Act.put, List.setIfInBounds_toArray]
           dsimp only [List.set_cons_succ, List.set_cons_zero]
           refine skk 15 99 ?_
           simp only [Act.put, List.setIfInBounds_toArray]
           dsimp only [List.set_cons_succ, List.set_cons_zero]
           refine skk 16 100 ?_
           simp only [Act.put, List.setIfInBounds_toArray]
           dsimp only [List.set_cons_succ, List.set_cons_zero]
           refine skk 17 101 ?_
           simp only [Act.put, List.setIfInBounds_toArray]
           dsimp only [List.set_cons_succ, List.set_cons_zero]
           refine skk 18 102 ?_
           simp only [Act.put, List.setIfInBounds_toArray]
           dsimp only [List.set_cons_succ, List.set_cons_zero]
           refine skk 19 103 ?_
           simp only [Act.put, List.setIfInBounds_toArray]
           dsimp only [List.set_cons_succ, List.set_cons_zero]
           refine skk 20 104 ?_
           simp only [Act.put, List.setIfInBounds_toArray]
           dsimp only [List.set_cons_succ, List.set_cons_zero]
           refine skk 21 105 ?_
           simp only [Act.put, List.setIfInBounds_toArray]
           dsimp only [List.set_cons_succ, List.set_cons_zero]
           refine skk 22 106 ?_
           simp only [Act.put, List.setIfInBounds_toArray]
           dsimp only [List.set_cons_succ, List.set_cons_zero]
           refine skk 23 107 ?_
           simp only [Act.put, List.setIfInBounds_toArray]
           dsimp only [List.set_cons_succ, List.set_cons_zero]
           refine tkk 24 108 (v := ?_) ?_ ?_
           rotate_left 1
           ·intro w hSw
            obtain ⟨q0, q1, q2, q3, q4⟩ := hSw
            go_simp <;> with_reducible rfl
           simp only [Act.put, List.setIfInBounds_toArray]
           dsimp only [List.set_cons_succ, List.set_cons_zero]
           refine wpAnyH_done (by kernel_rfl) ?_ _
           go_wp2_with fail
           go_meet
           case rel => exact ⟨by rw [HW.out] <;> rfl, BD⟩
          | true =>
           by_cases hk2 : ej.n.kind = 2
           ·have k2 : (ej.n.kind == 2) = true := by simpa using hk2
            have HW : Hid ((true && !(decide (ej.n.kind = 2) && !decide (namedN LN ej.n.id = 1))) = !((namedN LN ej.n.id : Int) != 1)) := by unfold Hid; rw [decide_eq_true hk2]; by_cases h : namedN LN ej.n.id = 1 <;> simp [h]; omega
            clear hk2
            refine wp_region_held_drew (S := SVw w.heap.size next (.slice (some ⟨b, off, none⟩) L.length cap) b (off + j * 9) ej.n sb (so + j) true) (by kernel_rfl) (HSF.out _ (Below.refl _ _).drew) (fun hHeld => ?_)
            have BD : Hid (Below wr.heap.size wr wr.drew) := (Below.refl _ _).drew
            generalize wr.drew = D at BD hHeld ⊢
            refine tkk 0 84 (v := ?_) ?_ ?_
            rotate_left 1
            ·intro w hSw
             obtain ⟨q0, q1, q2, q3, q4⟩ := hSw
             go_simp <;> with_reducible rfl
            simp only [Act.put, List.setIfInBounds_toArray]
            dsimp only [List.set_cons_succ, List.set_cons_zero]
            refine tkk 1 85 (v := ?_) ?_ ?_
            rotate_left 1
            ·intro w hSw
             obtain ⟨q0, q1, q2, q3, q4⟩ := hSw
             go_simp <;> with_reducible rfl
            simp only [Act.put, List.setIfInBounds_toArray]
            dsimp only [List.set_cons_succ, List.set_cons_zero]
            refine tkk 2 86 (v := ?_) ?_ ?_
            rotate_left 1
            ·intro w hSw
             obtain ⟨q0, q1, q2, q3, q4⟩ := hSw
             go_simp <;> with_reducible rfl
            simp only [Act.put, List.setIfInBounds_toArray]
            dsimp only [List.set_cons_succ, List.set_cons_zero]
            refine tkk 3 87 (v := ?_) ?_ ?_
            rotate_left 1
            ·intro w hSw
             obtain ⟨q0, q1, q2, q3, q4⟩ := hSw
             go_simp <;> with_reducible rfl
            simp only [Act.put, List.setIfInBounds_toArray]
            dsimp only [List.set_cons_succ, List.set_cons_zero]
            refine tkk 4 88 (v := ?_) ?_ ?_
            rotate_left 1
            ·intro w hSw
             obtain ⟨q0, q1, q2, q3, q4⟩ := hSw
             go_simp <;> with_reducible rfl
            simp only [Act.put, List.setIfInBounds_toArray]
            dsimp only [List.set_cons_succ, List.set_cons_zero]
            refine tkk 5 89 (v := ?_) ?_ ?_
            rotate_left 1
            ·intro w hSw
             obtain ⟨q0, q1, q2, q3, q4⟩ := hSw
             go_simp <;> with_reducible rfl
            simp only [Act.put, List.setIfInBounds_toArray]
            dsimp only [List.set_cons_succ, List.set_cons_zero]
            refine tkk 6 90 (v := ?_) ?_ ?_
            rotate_left 1
            ·intro w hSw
             obtain ⟨q0, q1, q2, q3, q4⟩ := hSw
             go_simp <;> with_reducible rfl
            simp only [Act.put, List.setIfInBounds_toArray]
            dsimp only [List.set_cons_succ, List.set_cons_zero]
            refine tkk 7 91 (v := ?_) ?_ ?_
            rotate_left 1
            ·intro w hSw
             obtain ⟨q0, q1, q2, q3, q4⟩ := hSw
             go_simp <;> with_reducible rfl
            simp only [Act.put, List.setIfInBounds_toArray]
            dsimp only [List.set_cons_succ, List.set_cons_zero]
            refine tkk 8 92 (v := ?_) ?_ ?_
            rotate_left 1
            ·intro w hSw
             obtain ⟨q0, q1, q2, q3, q4⟩ := hSw
             go_simp <;> with_reducible rfl
            simp only [Act.put, List.setIfInBounds_toArray]
            dsimp only [List.set_cons_succ, List.set_cons_zero]
            refine tkk 9 93 (v := ?_) ?_ ?_
            rotate_left 1
            ·intro w hSw
             obtain ⟨q0, q1, q2, q3, q4⟩ := hSw
             go_simp <;> with_reducible rfl
            simp only [Act.put, List.setIfInBounds_toArray]
            dsimp only [List.set_cons_succ, List.set_cons_zero]
            refine tkk 10 94 (v := ?_) ?_ ?_
            rotate_left 1
            ·intro w hSw
             obtain ⟨q0, q1, q2, q3, q4⟩ := hSw
             go_simp <;> with_reducible rfl
            simp only [Act.put, List.setIfInBounds_toArray]
            dsimp only [List.set_cons_succ, List.set_cons_zero]
            refine tkk 11 95 (v := ?_) ?_ ?_
            rotate_left 1
            ·intro w hSw
             obtain ⟨q0, q1, q2, q3, q4⟩ := hSw
             go_simp <;> with_reducible rfl
            simp only [Act.put, List.setIfInBounds_toArray]
            dsimp only [List.set_cons_succ, List.set_cons_zero]
            refine tkk 12 96 (v := ?_) ?_ ?_
            rotate_left 1
            ·intro w hSw
             obtain ⟨q0, q1, q2, q3, q4⟩ := hSw
             go_simp <;> with_reducible rfl
            simp only [Act.put, List.setIfInBounds_toArray]
            dsimp only [List.set_cons_succ, List.set_cons_zero]
            try simp only [k2]
            refine tkk 13 97 (v := ?_) ?_ ?_
            rotate_left 1
            ·intro w hSw
             obtain ⟨q0, q1, q2, q3, q4⟩ := hSw
             go_simp <;> with_reducible rfl
            simp only [Act.put, List.setIfInBounds_toArray]
            dsimp only [List.set_cons_succ, List.set_cons_zero]
            refine tkk 14 98 (v := ?_) ?_ ?_
            rotate_left 1
            ·intro w hSw
             obtain ⟨q0, q1, q2, q3, q4⟩ := hSw
             go_simp <;> with_reducible rfl
            simp only [Act.put, List.setIfInBounds_toArray]
            dsimp only [List.set_cons_succ, List.set_cons_zero]
            refine tkk 15 99 (v := ?_) ?_ ?_
            rotate_left 1
            ·intro w hSw
             obtain ⟨q0, q1, q2, q3, q4⟩ := hSw
             go_simp <;> with_reducible rfl
            simp only [Act.put, List.setIfInBounds_toArray]
            dsimp only [List.set_cons_succ, List.set_cons_zero]
            refine tkk 16 100 (v := ?_) ?_ ?_
            rotate_left 1
            ·intro w hSw
             obtain ⟨q0, q1, q2, q3, q4⟩ := hSw
             go_simp <;> with_reducible rfl
            simp only [Act.put, List.setIfInBounds_toArray]
            dsimp only [List.set_cons_succ, List.set_cons_zero]
            refine tkk 17 101 (v := ?_) ?_ ?_
            rotate_left 1
            ·intro w hSw
             obtain ⟨q0, q1, q2, q3, q4⟩ := hSw
             go_simp <;> with_reducible rfl
            simp only [Act.put, List.setIfInBounds_toArray]
            dsimp only [List.set_cons_succ, List.set_cons_zero]
            refine tkk 18 102 (v := ?_) ?_ ?_
            rotate_left 1
            ·intro w hSw
             obtain ⟨q0, q1, q2, q3, q4⟩ := hSw
             go_simp <;> with_reducible rfl
            simp only [Act.put, List.setIfInBounds_toArray]
            dsimp only [List.set_cons_succ, List.set_cons_zero]
            refine tkk 19 103 (v := ?_) ?_ ?_
            rotate_left 1
            ·intro w hSw
             obtain ⟨q0, q1, q2, q3, q4⟩ := hSw
             go_simp <;> with_reducible rfl
            simp only [Act.put, List.setIfInBounds_toArray]
            dsimp only [List.set_cons_succ, List.set_cons_zero]
            refine tkk 20 104 (v := ?_) ?_ ?_
            rotate_left 1
            ·intro w hSw
             obtain ⟨q0, q1, q2, q3, q4⟩ := hSw
             go_simp <;> with_reducible rfl
            simp only [Act.put, List.setIfInBounds_toArray]
            dsimp only [List.set_cons_succ, List.set_cons_zero]
            refine wpAnyH_ready (rs := [21]) (by kernel_rfl) (by simp) ?_
            refine AllReadyH.cons rfl (fun KK hKK => ?_) AllReadyH.nil
            go_simp
            refine (HNM.out _ BD.out).mono ?_
            rintro e9 w9 ⟨rfl, b9⟩
            have B9 : Hid (Below wr.heap.size wr w9) := BD.out.trans (b9.mono BD.out.size)
            clear b9
            go_simp
            refine hKK.out _ _ (HSF.out _ B9.out) (fun hHeld2 => ?_)
            clear hKK KK hHeld
            have hHeld := hHeld2
            clear hHeld2
            refine tkk 22 106 (v := ?_) ?_ ?_
            rotate_left 1
            ·intro w hSw
             obtain ⟨q0, q1, q2, q3, q4⟩ := hSw
             go_simp <;> with_reducible rfl
            simp only [Act.put, List.setIfInBounds_toArray]
            dsimp only [List.set_cons_succ, List.set_cons_zero]
            refine tkk 23 107 (v := ?_) ?_ ?_
            rotate_left 1
            ·intro w hSw
             obtain ⟨q0, q1, q2, q3, q4⟩ := hSw
             go_simp <;> with_reducible rfl
            simp only [Act.put, List.setIfInBounds_toArray]
            dsimp only [List.set_cons_succ, List.set_cons_zero]
            refine tkk 24 108 (v := ?_) ?_ ?_
            rotate_left 1
            ·intro w hSw
             obtain ⟨q0, q1, q2, q3, q4⟩ := hSw
             go_simp <;> with_reducible rfl
            simp only [Act.put, List.setIfInBounds_toArray]
            dsimp only [List.set_cons_succ, List.set_cons_zero]
            refine wpAnyH_done (by kernel_rfl) ?_ _
            go_wp2_with fail
            go_meet
            case rel => exact ⟨by rw [HW.out, Bool.not_not] <;> rfl, B9⟩
           ·have k2 : (ej.n.kind == 2) = false := by simpa using hk2
            have HW : Hid ((true && !(decide (ej.n.kind = 2) && !decide (namedN LN ej.n.id = 1))) = true) := by unfold Hid; rw [decide_eq_false hk2]; rfl
            clear hk2
            refine wp_region_held_drew (S := SVw w.heap.size next (.slice (some ⟨b, off, none⟩) L.length cap) b (off + j * 9) ej.n sb (so + j) true) (by kernel_rfl) (HSF.out _ (Below.refl _ _).drew) (fun hHeld => ?_)
            have BD : Hid (Below wr.heap.size wr wr.drew) := (Below.refl _ _).drew
            generalize wr.drew = D at BD hHeld ⊢
            refine tkk 0 84 (v := ?_) ?_ ?_
            rotate_left 1
            ·intro w hSw
             obtain ⟨q0, q1, q2, q3, q4⟩ := hSw
             go_simp <;> with_reducible rfl
            simp only [Act.put, List.setIfInBounds_toArray]
            dsimp only [List.set_cons_succ, List.set_cons_zero]
            refine tkk 1 85 (v := ?_) ?_ ?_
            rotate_left 1
            ·intro w hSw
             obtain ⟨q0, q1, q2, q3, q4⟩ := hSw
             go_simp <;> with_reducible rfl
            simp only [Act.put, List.setIfInBounds_toArray]
            dsimp only [List.set_cons_succ, List.set_cons_zero]
            refine tkk 2 86 (v := ?_) ?_ ?_
            rotate_left 1
            ·intro w hSw
             obtain ⟨q0, q1, q2, q3, q4⟩ := hSw
             go_simp <;> with_reducible rfl
            simp only [Act.put, List.setIfInBounds_toArray]
            dsimp only [List.set_cons_succ, List.set_cons_zero]
            refine tkk 3 87 (v := ?_) ?_ ?_
            rotate_left 1
            ·intro w hSw
             obtain ⟨q0, q1, q2, q3, q4⟩ := hSw
             go_simp <;> with_reducible rfl
            simp only [Act.put, List.setIfInBounds_toArray]
            dsimp only [List.set_cons_succ, List.set_cons_zero]
            refine tkk 4 88 (v := ?_) ?_ ?_
            rotate_left 1
            ·intro w hSw
             obtain ⟨q0, q1, q2, q3, q4⟩ := hSw
             go_simp <;> with_reducible rfl
            simp only [Act.put, List.setIfInBounds_toArray]
            dsimp only [List.set_cons_succ, List.set_cons_zero]
            refine tkk 5 89 (v := ?_) ?_ ?_
            rotate_left 1
            ·intro w hSw
             obtain ⟨q0, q1, q2, q3, q4⟩ := hSw
             go_simp <;> with_reducible rfl
            simp only [Act.put, List.setIfInBounds_toArray]
            dsimp only [List.set_cons_succ, List.set_cons_zero]
            refine tkk 6 90 (v := ?_) ?_ ?_
            rotate_left 1
            ·intro w hSw
             obtain ⟨q0, q1, q2, q3, q4⟩ := hSw
             go_simp <;> with_reducible rfl
            simp only [Act.put, List.setIfInBounds_toArray]
            dsimp only [List.set_cons_succ, List.set_cons_zero]
            refine tkk 7 91 (v := ?_) ?_ ?_
            rotate_left 1
            ·intro w hSw
             obtain ⟨q0, q1, q2, q3, q4⟩ := hSw
             go_simp <;> with_reducible rfl
            simp only [Act.put, List.setIfInBounds_toArray]
            dsimp only [List.set_cons_succ, List.set_cons_zero]
            refine tkk 8 92 (v := ?_) ?_ ?_
            rotate_left 1
            ·intro w hSw
             obtain ⟨q0, q1, q2, q3, q4⟩ := hSw
             go_simp <;> with_reducible rfl
            simp only [Act.put, List.setIfInBounds_toArray]
            dsimp only [List.set_cons_succ, List.set_cons_zero]
            refine tkk 9 93 (v := ?_) ?_ ?_
            rotate_left 1
            ·intro w hSw
             obtain ⟨q0, q1, q2, q3, q4⟩ := hSw
             go_simp <;> with_reducible rfl
            simp only [Act.put, List.setIfInBounds_toArray]
            dsimp only [List.set_cons_succ, List.set_cons_zero]
            refine tkk 10 94 (v := ?_) ?_ ?_
            rotate_left 1
            ·intro w hSw
             obtain ⟨q0, q1, q2, q3, q4⟩ := hSw
             go_simp <;> with_reducible rfl
            simp only [Act.put, List.setIfInBounds_toArray]
            dsimp only [List.set_cons_succ, List.set_cons_zero]
            refine tkk 11 95 (v := ?_) ?_ ?_
            rotate_left 1
            ·intro w hSw
             obtain ⟨q0, q1, q2, q3, q4⟩ := hSw
             go_simp <;> with_reducible rfl
            simp only [Act.put, List.setIfInBounds_toArray]
            dsimp only [List.set_cons_succ, List.set_cons_zero]
            refine tkk 12 96 (v := ?_) ?_ ?_
            rotate_left 1
            ·intro w hSw
             obtain ⟨q0, q1, q2, q3, q4⟩ := hSw
             go_simp <;> with_reducible rfl
            simp only [Act.put, List.setIfInBounds_toArray]
            dsimp only [List.set_cons_succ, List.set_cons_zero]
            try simp only [k2]
            refine tkk 13 97 (v := ?_) ?_ ?_
            rotate_left 1
            ·intro w hSw
             obtain ⟨q0, q1, q2, q3, q4⟩ := hSw
             go_simp <;> with_reducible rfl
            simp only [Act.put, List.setIfInBounds_toArray]
            dsimp only [List.set_cons_succ, List.set_cons_zero]
            refine skk 14 98 ?_
            simp only [Act.put, List.setIfInBounds_toArray]
            dsimp only [List.set_cons_succ, List.set_cons_zero]
            refine skk 15 99 ?_
            simp only [Act.put, List.setIfInBounds_toArray]
            dsimp only [List.set_cons_succ, List.set_cons_zero]
            refine skk 16 100 ?_
            simp only [Act.put, List.setIfInBounds_toArray]
            dsimp only [List.set_cons_succ, List.set_cons_zero]
            refine skk 17 101 ?_
            simp only [Act.put, List.setIfInBounds_toArray]
            dsimp only [List.set_cons_succ, List.set_cons_zero]
            refine skk 18 102 ?_
            simp only [Act.put, List.setIfInBounds_toArray]
            dsimp only [List.set_cons_succ, List.set_cons_zero]
            refine skk 19 103 ?_
            simp only [Act.put, List.setIfInBounds_toArray]
            dsimp only [List.set_cons_succ, List.set_cons_zero]
            refine skk 20 104 ?_
            simp only [Act.put, List.setIfInBounds_toArray]
            dsimp only [List.set_cons_succ, List.set_cons_zero]
            refine skk 21 105 ?_
            simp only [Act.put, List.setIfInBounds_toArray]
            dsimp only [List.set_cons_succ, List.set_cons_zero]
            refine skk 22 106 ?_
            simp only [Act.put, List.setIfInBounds_toArray]
            dsimp only [List.set_cons_succ, List.set_cons_zero]
            refine tkk 23 107 (v := ?_) ?_ ?_
            rotate_left 1
            ·intro w hSw
             obtain ⟨q0, q1, q2, q3, q4⟩ := hSw
             go_simp <;> with_reducible rfl
            simp only [Act.put, List.setIfInBounds_toArray]
            dsimp only [List.set_cons_succ, List.set_cons_zero]
            refine tkk 24 108 (v := ?_) ?_ ?_
            rotate_left 1
            ·intro w hSw
             obtain ⟨q0, q1, q2, q3, q4⟩ := hSw
             go_simp <;> with_reducible rfl
            simp only [Act.put, List.setIfInBounds_toArray]
            dsimp only [List.set_cons_succ, List.set_cons_zero]
            refine wpAnyH_done (by kernel_rfl) ?_ _
            go_wp2_with fail
            go_meet
            case rel => exact ⟨by rw [HW.out] <;> rfl, BD⟩
         case rest =>
         obtain ⟨rfl, HBC⟩ := hcut
         have HBF : Hid (Below w2.heap.size w2 wc) := HB3.out.trans (HBC.out.mono HB3.out.size)
         cases hall : (xin && !(decide (ej.n.kind = 2) && !decide (namedN LN ej.n.id = 1))) with
         | false =>
          have HFF : Hid (volB next LN = false) := by unfold Hid; rw [HVD.out, wholeB_no hj1 (by rw [hlen]; exact hlt) (by rw [HSS.out, HWH.out, hall])]; rfl
          go_wp2_with fail
          go_ret
          exact ⟨ret_bool HFF.out.symm, bW.trans ((HBW2.out.trans (HBF.out.mono (by omega))).mono (by omega))⟩
         | true =>
          have HFF : Hid (∀ i', 1 ≤ i' → i' < j + 1 → whI LN s i' = true) := fun i' h1 h2 => by
           by_cases h3 : i' = j
           ·rw [h3, HWH.out, hall]
           ·exact HJ.out i' h1 (by omega)
          go_wp2_with fail
          go_roundw
          case rel => exact ⟨j + 1, by go_num, by omega, by omega, HFF, HBF⟩
          case measure => simp [intOf]; omega
        ·obtain rfl : j = L.length := by omega
         have HVE : Hid (volB next LN = (decide (bytesN LN ≤ 400) && !overB LN)) := by unfold Hid; rw [HVD.out, wholeB_yes (by rw [HSS.out, hlen]; exact HJ.out)]; rfl
         clear HVD HJ
         go_wp2_with fail
         refine (l4Bytes_any next L _ N wr (by omega) (HV.out.kept (HBW3.out.mono hN)) HSM.out).mono ?_
         rw [HLN.out]
         rintro e w4 ⟨rfl, b4⟩
         have HBW4 := Hid.intro (HBW3.out.trans (b4.mono (by omega)))
         replace cW := keepC b4 (by omega) cW
         have z4 := b4.size
         clear b4
         by_cases hby : bytesN LN ≤ 400
         ·have hbd : decide (bytesN LN ≤ 400) = true := decide_eq_true hby
          have HVF : Hid (volB next LN = !overB LN) := by unfold Hid; rw [HVE.out, hbd]; rfl
          clear hby
          go_wp2_with fail
          refine (l4Over_any next L _ N w4 (by omega) (HV.out.kept (HBW4.out.mono hN)) HSM.out HMB.out).mono ?_
          rw [HLN.out]
          rintro e w5 ⟨rfl, b5⟩
          have HBW5 := Hid.intro (HBW4.out.trans (b5.mono (by omega)))
          clear b5 cW
          go_wp2_with fail
          go_ret
          exact ⟨ret_bool (by rw [HVF.out]), HBW5.out⟩
         ·have hbd : decide (bytesN LN ≤ 400) = false := decide_eq_false hby
          have HVF : Hid (volB next LN = false) := by unfold Hid; rw [HVE.out, hbd]; rfl
          clear hby
          go_wp2_with fail
          go_ret
          exact ⟨ret_bool HVF.out.symm, HBW4.out⟩
    ·have t2 : (e0.n.kind != 2) = true := by simpa using e2
     have HVC : Hid (volB next LN = false) := by unfold Hid; rw [HVB.out, hhd, decide_eq_false e2]; simp
     clear hhd e1 e2 HVB
     go_wp2_with (go_at_call 26; refine (l1In_any _ _ _ _).mono ?_; rintro e w' ⟨rfl, rfl⟩; simp only [hb1, hb2])
     go_ret
     exact ⟨ret_bool HVC.out.symm, bW⟩
   ·have t1 : (e0.n.id != 1) = true := by simpa using e1
    have HVC : Hid (volB next LN = false) := by unfold Hid; rw [HVB.out, hhd, decide_eq_false e1]; simp
    clear hhd e1 HVB
    go_wp2_with (go_at_call 26; refine (l1In_any _ _ _ _).mono ?_; rintro e w' ⟨rfl, rfl⟩; simp only [hb1, hb2])
    go_ret
    exact ⟨ret_bool HVC.out.symm, bW⟩
end Go.Proofs.YtmkegmndcbpblaaGreatDoor
