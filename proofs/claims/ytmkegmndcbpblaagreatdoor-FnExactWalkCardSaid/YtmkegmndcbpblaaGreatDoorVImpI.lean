/- right: the tree of a right volume. -/
import Derived.Test.YtmkegmndcbpblaaGreatDoorVImpH
import Derived.Deep.RegionHeld3
namespace Go.Proofs.YtmkegmndcbpblaaGreatDoor
open Go.RowKit Go.Maps
set_option linter.unusedVariables false
theorem idsL_out (next : Int) (l : List Nd) : ∀ {m : Int}, idsL next m l = true → (∀ n ∈ l, m ≤ n.id ∧ n.id ≤ next - 1) ∧ l.Pairwise (fun a b => a.id < b.id) := by
 induction l with
 | nil => intro m _; simp
 | cons n l ih =>
  intro m h
  rw [idsL, Bool.and_eq_true] at h
  have h1 := ih h.2
  have h2 : m ≤ n.id ∧ n.id ≤ next - 1 := by simpa [inB] using h.1
  refine ⟨fun k hk => ?_, List.pairwise_cons.2 ⟨fun k hk => ?_, h1.2⟩⟩
  ·rcases List.mem_cons.1 hk with rfl | hk
   ·exact h2
   ·have := h1.1 k hk
    omega
  ·have := (h1.1 k hk).1
   omega
theorem ids_of {next : Int} {L : List Nd} (h : idsL next 1 L = true) (hn : next ≤ 100000) : IdsD L := by
 obtain ⟨h1, h2⟩ := idsL_out next L h
 refine ⟨fun n hn => wf_i (by have := h1 n hn; omega) (by have := h1 n hn; omega), fun x hx => atN_some.2 ⟨hx, rfl, fun j hj e => ?_⟩⟩
 have := List.pairwise_iff_getElem.1 h2 j x (by omega) hx hj
 omega
def firstT (n j : Nat) : List Bool := List.replicate j true ++ List.replicate (n - j) false
theorem firstT_len {n j : Nat} (h : j ≤ n) : (firstT n j).length = n := by simp [firstT]; omega
theorem firstT_zero (n : Nat) : firstT n 0 = List.replicate n false := by simp [firstT]
theorem firstT_all (L : List Nd) : firstT L.length L.length = allT L := by simp [firstT, allT]
theorem firstT_isT {n j x : Nat} : isT (firstT n j) x ↔ x < j := by
 unfold isT firstT
 rw [List.getElem?_append]
 by_cases h : x < j
 ·simp [h]
 ·simp only [List.length_replicate, h, if_false, iff_false]
  rw [List.getElem?_replicate]
  split <;> simp
theorem firstT_set {n j : Nat} (h : j < n) : (firstT n j).set j true = firstT n (j + 1) := by
 refine Sub.anti ⟨by rw [List.length_set, firstT_len (by omega), firstT_len (by omega)], fun x hx => ?_⟩ ⟨by rw [List.length_set, firstT_len (by omega), firstT_len (by omega)], fun x hx => ?_⟩
 ·rcases isT_set.1 hx with ⟨rfl, _⟩ | hx
  ·exact firstT_isT.2 (by omega)
  ·exact firstT_isT.2 (by have := firstT_isT.1 hx; omega)
 ·have := firstT_isT.1 hx
  by_cases e : j = x
  ·exact isT_set.2 (.inl ⟨e, by rw [firstT_len (by omega)]; exact h⟩)
  ·exact isT_set.2 (.inr (firstT_isT.2 (by omega)))
theorem FS_zero (L : List Nd) (n : Nat) : FS L (firstT n 0) = fun _ => none := by
 funext id
 cases h : FS L (firstT n 0) id with
 | none => rfl
 | some y => have := firstT_isT.1 (FS_some.1 h).2; omega
/-- What right tells. -/
def rightB (next : Int) (L : List Nd) : Bool := idsB next L && eachB L && wholeI L && !fullB L
theorem nms_mem {M : List Nd} (l : List Di) : ∀ {p : Option ByteArray}, nmsB M p l = true → ∀ e ∈ l, ¬ e.id = 1 ∧ (atN M e.id).isSome = true := by
 induction l with
 | nil => intro p _ e he; cases he
 | cons d l ih =>
  intro p h e he
  rw [nmsB] at h
  simp only [Bool.and_eq_true, Bool.not_eq_true', decide_eq_false_iff_not] at h
  rcases List.mem_cons.1 he with rfl | he
  ·exact ⟨h.1.1.2, h.1.2⟩
  ·exact ih h.2 e he
theorem each_node {L : List Np} (h : eachB (L.map Np.n) = true) : ∀ p ∈ L, nodeB (L.map Np.n) p.n = true := by
 intro p hp
 unfold eachB at h
 rw [Bool.and_eq_true, List.all_eq_true] at h
 obtain ⟨i, hi, rfl⟩ := List.getElem_of_mem hp
 have := h.1 i (List.mem_range.2 (by simpa using hi))
 unfold nodeA at this
 rw [map_get hi] at this
 exact this
theorem node_names {M : List Nd} {n : Nd} (h : nodeB M n = true) : ∀ e ∈ n.names, ¬ e.id = 1 ∧ (atN M e.id).isSome = true := by
 rw [nodeB_alone, Bool.and_eq_true] at h
 exact nms_mem n.names h.2
theorem each_leads {L : List Np} (hw : ∀ p ∈ L, NdW p.n) (h : eachB (L.map Np.n) = true) : Leads L := fun p hp e he => ⟨(hw p hp).2 e he, Option.isSome_iff_exists.1 (node_names (each_node h p hp) e he).2⟩
def SRi (vb : Nat) (u : Value) (b op : Nat) (id : Int) (w' : World) : Prop := w'.cell? ⟨vb, 1, none⟩ = some u ∧ w'.cell? ⟨b, op, none⟩ = some (.int .i64 id)
set_option maxRecDepth 100000 in
set_option maxHeartbeats 8000000 in
theorem right_any (next : Int) (L : List Np) (u : Value) (N : Nat) (w : World) (hN : N ≤ w.heap.size) (hr : VolR w N u L) (hw : ∀ p ∈ L, NdW p.n) :
  Calls Tryz.prog 39 #[volV next u] w fun e w' => ∃ m, e = .returned (.tuple #[.map m, .bool (rightB next (L.map Np.n))]) ∧ (rightB next (L.map Np.n) = true → ∃ tb b off, m = some tb ∧ TC w' tb b off N L) ∧ (rightB next (L.map Np.n) = false → m = none) ∧ Below w.heap.size w w' := by
 have HV := Hid.intro hr
 have HW := Hid.intro hw
 obtain ⟨a, cap, rfl, hl, hm, hcells⟩ := ndE_cell hr.row
 have HC := Hid.intro hcells
 have HM := Hid.intro hr.nms
 have HRB : Hid (∀ next, rightB next (L.map Np.n) = (idsB next (L.map Np.n) && eachB (L.map Np.n) && wholeI (L.map Np.n) && !fullB (L.map Np.n))) := fun _ => rfl
 clear hcells hr hw
 go_enter Tryz.func39, Tryz.ntmps39
 go_upto_region 1 with fail
 obtain ⟨W, hW, bW, zW, cW, fW⟩ := boxed w #[.int .i64 next, .slice a L.length cap] 35
 try simp only [hW]
 clear hW fW
 have HW0 := Hid.intro bW
 have hzw : w.heap.size < W.heap.size := by omega
 clear zW bW
 cases hib : idsB next (L.map Np.n) with
 | false =>
  go_wp2_with (go_at_call 50; refine (idsOk_any next L _ N W (by omega) (HV.out.kept (HW0.out.mono hN))).mono ?_; rintro e w1 ⟨rfl, b1⟩; have HB1 := Hid.intro b1; clear b1; simp only [hib])
  go_ret2
  exact ⟨none, by rw [HRB.out, hib]; rfl, fun h => (by rw [HRB.out, hib] at h; cases h), fun _ => rfl, HW0.out.trans (HB1.out.mono (by omega))⟩
 | true =>
  have hid : inB next 2 100000 = true ∧ inB ((L.map Np.n).length) 1 24 = true ∧ headI (L.map Np.n) = true ∧ idsL next 1 (L.map Np.n) = true := by
   unfold idsB at hib
   simp only [Bool.and_eq_true] at hib
   exact ⟨hib.1.1.1, hib.1.1.2, hib.1.2, hib.2⟩
  obtain ⟨i1, i2, i3, i4⟩ := hid
  have hnx : 2 ≤ next ∧ next ≤ 100000 := by simpa [inB] using i1
  have hlw : 1 ≤ L.length ∧ L.length ≤ 24 := by
   have : (1 : Int) ≤ (L.length : Int) ∧ (L.length : Int) ≤ 24 := by simpa [inB] using i2
   omega
  have h0 : 0 < L.length := by omega
  have hl24 := hlw.2
  have HI0 := Hid.intro (ids_of i4 hnx.2)
  have h1 : L[0].n.id = 1 := by
   unfold headI at i3
   rw [List.head?_map, List.head?_eq_getElem?, List.getElem?_eq_getElem h0] at i3
   simpa using i3
  have HH1 := Hid.intro h1
  obtain ⟨b, off, rfl, hbN, hcc⟩ := HC.out (by intro h; rw [h] at h0; simp at h0)
  have HCC := Hid.intro hcc
  clear i1 i2 i3 i4 hnx hlw h1 hcc
  go_upto_region 3 with (go_at_call 50; refine (idsOk_any next L _ N W (by omega) (HV.out.kept (HW0.out.mono hN))).mono ?_; rintro e w0 ⟨rfl, b1⟩; have HB1 := Hid.intro b1; clear b1; simp only [hib])
  have hz0 := HB1.out.size
  replace cW := keepC HB1.out hzw cW
  replace HW0 := Hid.intro (HW0.out.trans (HB1.out.mono (by omega)))
  clear HB1
  have hmk := make_tree
  go_upto_region 4 with fail
  have hT0 := TM.made w0 b off
  have b1 := (Below.refl w0.heap.size w0).alloc (Nat.le_refl _) (.map #[] 0)
  have z1 : w0.heap.size < (w0.alloc (.map #[] 0)).heap.size := by simp
  generalize w0.alloc (.map #[] 0) = w9 at hT0 b1 z1 ⊢
  obtain ⟨w1, hw1⟩ : ∃ w1 : World, w1 = w0 := ⟨_, rfl⟩
  rw [← hw1] at hT0 b1 z1 hz0 cW HW0 ⊢
  have HT0 := Hid.intro hT0
  have HB9 := Hid.intro b1
  have cW0' := cW
  replace cW := keepC b1 (by omega) cW
  have CW1 := Hid.intro cW0'
  have CW0 := Hid.intro cW
  clear hT0 b1 hmk hw1
  obtain ⟨LN, hLN⟩ : ∃ LN, L.map Np.n = LN := ⟨_, rfl⟩
  have HLN := Hid.intro hLN
  have HLEN : Hid (LN.length = L.length) := by unfold Hid; rw [← hLN]; simp
  have HI : Hid (IdsD LN) := by unfold Hid; rw [← hLN]; exact HI0.out
  clear hLN
  go_wp2_with fail
  clear cW
  go_loopw [16] (fun i wr => ∃ (j : Nat), i = .int .i64 j ∧ j ≤ L.length ∧ Hid (TM wr w1.heap.size b off (FS LN (firstT LN.length j)) j j) ∧ Hid (Below w1.heap.size w1 wr)) (fun i _ => L.length - (intOf i).toNat)
  case atStart => exact ⟨0, rfl, Nat.zero_le _, by unfold Hid; rw [FS_zero]; exact HT0.out, HB9⟩
  case round =>
   obtain ⟨j, rfl, hj, HTJ, HBJ⟩ := hrel
   have hzr := HTJ.out.lt
   have HBW := Hid.intro (HW0.out.trans (HBJ.out.mono (by omega)))
   have HCV : Hid (∀ y, Below w1.heap.size w1 y → ∀ o, y.cell? ⟨w.heap.size, o, none⟩ = #[.int .i64 next, .slice (some ⟨b, off, none⟩) L.length cap][o]?) := fun y hy => keepC hy (by omega) CW1.out
   by_cases hlt : j < L.length
   ·have hc := HCC.out j hlt
    have HJL : Hid (j < LN.length) := by unfold Hid; rw [HLEN.out]; exact hlt
    have hej : LN[j]'HJL.out = L[j].n := by
     have := map_get hlt
     rw [HLN.out, List.getElem?_eq_getElem HJL.out] at this
     exact Option.some.inj this
    have hwf := HI.out.wf _ (List.getElem_mem HJL.out)
    have hfn : FS LN (firstT LN.length j) (LN[j]'HJL.out).id = none := by
     cases h : FS LN (firstT LN.length j) (LN[j]'HJL.out).id with
     | none => rfl
     | some y =>
      have h2 := FS_some.1 h
      rw [HI.out.at_ j HJL.out] at h2
      cases h2.1
      have := firstT_isT.1 h2.2
      omega
    rw [hej] at hwf hfn
    generalize L[j] = ej at hc hej hwf hfn
    have HEJ : Hid ((LN[j]'HJL.out).id = ej.n.id) := by unfold Hid; rw [hej]
    have HFN := Hid.intro hfn
    have HSF : Hid (∀ y, Only (fun k => k = w1.heap.size) wr y → SRi w.heap.size (.slice (some ⟨b, off, none⟩) L.length cap) b (off + j * 9) ej.n.id y) := fun y hy => by
     have h1 := HBJ.out.trans (hy.below HBJ.out.size (fun k hk e => by omega))
     have h2 := HW0.out.trans (h1.mono (by omega))
     exact ⟨by rw [HCV.out y h1]; rfl, (hc.kept h2 (by omega)).c0⟩
    have hjl : (j : Int) < (L.length : Int) := by omega
    have ij : (0 : Int) ≤ (j : Int) ∧ (j : Int) < (L.length : Int) := by omega
    clear hc hej hfn HCV
    go_upto_region 7 with fail
    refine wp_region_held_drew (S := SRi w.heap.size (.slice (some ⟨b, off, none⟩) L.length cap) b (off + j * 9) ej.n.id) (by kernel_rfl) (HSF.out _ (Only.refl _ _).drew) (fun hHeld => ?_)
    have BD : Hid (Only (fun k => k = w1.heap.size) wr wr.drew) := (Only.refl _ _).drew
    have hTD : TM wr.drew w1.heap.size b off (FS LN (firstT LN.length j)) j j := HTJ.out
    generalize wr.drew = D at BD hHeld hTD ⊢
    refine tkk 0 19 (v := ?_) ?_ ?_
    rotate_left 1
    ·intro w hSw
     obtain ⟨q0, q1⟩ := hSw
     go_simp <;> with_reducible rfl
    simp only [Act.put, List.setIfInBounds_toArray]
    dsimp only [List.set_cons_succ, List.set_cons_zero]
    refine tkk 1 20 (v := ?_) ?_ ?_
    rotate_left 1
    ·intro w hSw
     obtain ⟨q0, q1⟩ := hSw
     go_simp <;> with_reducible rfl
    simp only [Act.put, List.setIfInBounds_toArray]
    dsimp only [List.set_cons_succ, List.set_cons_zero]
    refine tkk 2 21 (v := ?_) ?_ ?_
    rotate_left 1
    ·intro w hSw
     obtain ⟨q0, q1⟩ := hSw
     go_simp <;> with_reducible rfl
    simp only [Act.put, List.setIfInBounds_toArray]
    dsimp only [List.set_cons_succ, List.set_cons_zero]
    refine tkk 3 22 (v := ?_) ?_ ?_
    rotate_left 1
    ·intro w hSw
     obtain ⟨q0, q1⟩ := hSw
     go_simp <;> with_reducible rfl
    simp only [Act.put, List.setIfInBounds_toArray]
    dsimp only [List.set_cons_succ, List.set_cons_zero]
    refine tkk 4 23 (v := ?_) ?_ ?_
    rotate_left 1
    ·intro w hSw
     obtain ⟨q0, q1⟩ := hSw
     go_simp <;> with_reducible rfl
    simp only [Act.put, List.setIfInBounds_toArray]
    dsimp only [List.set_cons_succ, List.set_cons_zero]
    refine tkk 5 24 (v := ?_) ?_ ?_
    rotate_left 1
    ·intro w hSw
     obtain ⟨q0, q1⟩ := hSw
     go_simp <;> with_reducible rfl
    simp only [Act.put, List.setIfInBounds_toArray]
    dsimp only [List.set_cons_succ, List.set_cons_zero]
    refine tkk 6 25 (v := ?_) ?_ ?_
    rotate_left 1
    ·intro w hSw
     obtain ⟨q0, q1⟩ := hSw
     go_simp <;> with_reducible rfl
    simp only [Act.put, List.setIfInBounds_toArray]
    dsimp only [List.set_cons_succ, List.set_cons_zero]
    refine tkk 7 26 (v := ?_) ?_ ?_
    rotate_left 1
    ·intro w hSw
     obtain ⟨q0, q1⟩ := hSw
     go_simp <;> with_reducible rfl
    simp only [Act.put, List.setIfInBounds_toArray]
    dsimp only [List.set_cons_succ, List.set_cons_zero]
    refine tkk 8 27 (v := ?_) ?_ ?_
    rotate_left 1
    ·intro w hSw
     obtain ⟨q0, q1⟩ := hSw
     go_simp <;> with_reducible rfl
    simp only [Act.put, List.setIfInBounds_toArray]
    dsimp only [List.set_cons_succ, List.set_cons_zero]
    refine tkk 9 28 (v := ?_) ?_ ?_
    rotate_left 1
    ·intro w hSw
     obtain ⟨q0, q1⟩ := hSw
     go_simp <;> with_reducible rfl
    simp only [Act.put, List.setIfInBounds_toArray]
    dsimp only [List.set_cons_succ, List.set_cons_zero]
    refine tkk 10 29 (v := ?_) ?_ ?_
    rotate_left 1
    ·intro w hSw
     obtain ⟨q0, q1⟩ := hSw
     go_simp <;> with_reducible rfl
    simp only [Act.put, List.setIfInBounds_toArray]
    dsimp only [List.set_cons_succ, List.set_cons_zero]
    refine wpAnyH_ready (rs := [11]) (by kernel_rfl) (by simp) ?_
    refine AllReadyH.cons rfl (fun KK hKK => ?_) AllReadyH.nil
    obtain ⟨Y, hY, hTY, hOY⟩ := hTD.put (j := j) (by unfold maxLen; omega) hwf (by rw [HFN.out]; rfl)
    have HTY : Hid (TM Y w1.heap.size b off (FS LN (firstT LN.length (j + 1))) (j + 1) (j + 1)) := by
     unfold Hid
     rw [← firstT_set HJL.out, ← FS_set HI.out HJL.out (firstT_len (Nat.le_of_lt HJL.out)), HEJ.out]
     exact hTY
    have HOY : Hid (Only (fun k => k = w1.heap.size) wr Y) := BD.out.trans hOY
    clear hTY hOY hTD
    go_simp
    refine hKK.out _ _ (HSF.out _ HOY.out) (fun hHeld2 => ?_)
    clear hKK KK hHeld hHeld2 hY
    refine wpAnyH_done (by kernel_rfl) ?_ _
    have HBY : Hid (Below w1.heap.size w1 Y) := HBJ.out.trans (HOY.out.below HBJ.out.size (fun k hk e => by omega))
    go_wp2_with fail
    go_roundw
    case rel => exact ⟨j + 1, by go_num, by omega, HTY, HBY⟩
    case measure => simp [intOf]; omega
   ·obtain rfl : j = L.length := by omega
    have HTC : Hid (TC wr w1.heap.size b off N L) := by
     have h2 := HTJ.out
     refine ⟨?_, fun j hj => (HCC.out j hj).kept HBW.out (by omega), fun p hp => (HM.out p hp).kept (HBW.out.mono hN), hbN, by omega⟩
     rw [HLN.out]
     rw [← HLEN.out, firstT_all] at h2
     rw [← HLEN.out]
     exact h2
    clear HCV
    have HRB2 : Hid (rightB next (L.map Np.n) = (eachB (L.map Np.n) && wholeI (L.map Np.n) && !fullB (L.map Np.n))) := by unfold Hid; rw [HRB.out, hib]; rfl
    cases heb : eachB (L.map Np.n) with
    | false =>
     have HFF : Hid (rightB next (L.map Np.n) = false) := by unfold Hid; rw [HRB2.out, heb]; rfl
     go_wp2_with (go_at_call 51; refine (eachOk_any L w1.heap.size b off N HI0.out HW.out wr HTC.out).mono ?_; rintro e w2 ⟨rfl, b2⟩; have HB2 := Hid.intro b2; clear b2; simp only [heb])
     go_ret2
     exact ⟨none, by rw [HFF.out]; rfl, fun h => (by rw [HFF.out] at h; cases h), fun _ => rfl, HBW.out.trans (HB2.out.mono HBW.out.size)⟩
    | true =>
     have HLD := Hid.intro (each_leads HW.out heb)
     have HSM : Hid (∀ p ∈ L, p.n.data.size ≤ 64 ∧ p.n.names.length ≤ 12) := fun p hp => (nodeB_small (each_node heb p hp)).1
     cases hwb : wholeI (L.map Np.n) with
     | false =>
      have HFF : Hid (rightB next (L.map Np.n) = false) := by unfold Hid; rw [HRB2.out, heb, hwb]; rfl
      go_wp2_with (first | (go_at_call 51; refine (eachOk_any L w1.heap.size b off N HI0.out HW.out wr HTC.out).mono ?_; rintro e w2 ⟨rfl, b2⟩; have HB2 := Hid.intro b2; have HTC2 := Hid.intro (HTC.out.kept b2 HTC.out.lt); clear b2; simp only [heb]) | (go_at_call 52; refine (whole_any L w1.heap.size b off N HI0.out HLD.out hl24 (fun p hp => ⟨(HW.out p hp).2, (HSM.out p hp).2⟩) h0 HH1.out w2 HTC2.out).mono ?_; rintro e w3 ⟨rfl, b3⟩; have HB3 := Hid.intro b3; clear b3; simp only [hwb]))
      go_ret2
      exact ⟨none, by rw [HFF.out]; rfl, fun h => (by rw [HFF.out] at h; cases h), fun _ => rfl, (HBW.out.trans (HB2.out.mono HBW.out.size)).trans (HB3.out.mono (Nat.le_trans HBW.out.size HB2.out.size))⟩
     | true =>
      cases hhb : hvB (L.map Np.n) with
      | true =>
       have HFF : Hid (rightB next (L.map Np.n) = false) := by unfold Hid; rw [HRB2.out, heb, hwb, fullB_two, hhb, Bool.or_true]; rfl
       go_wp2_with (first | (go_at_call 51; refine (eachOk_any L w1.heap.size b off N HI0.out HW.out wr HTC.out).mono ?_; rintro e w2 ⟨rfl, b2⟩; have HB2 := Hid.intro b2; have HTC2 := Hid.intro (HTC.out.kept b2 HTC.out.lt); clear b2; simp only [heb]) | (go_at_call 52; refine (whole_any L w1.heap.size b off N HI0.out HLD.out hl24 (fun p hp => ⟨(HW.out p hp).2, (HSM.out p hp).2⟩) h0 HH1.out w2 HTC2.out).mono ?_; rintro e w3 ⟨rfl, b3⟩; have HB3 := Hid.intro b3; have HTC3 := Hid.intro (HTC2.out.kept b3 HTC2.out.lt); clear b3; simp only [hwb]) | (go_at_call 53; refine (heavy_any L w1.heap.size b off N HI0.out HLD.out hl24 (fun p hp => (HSM.out p hp).1) h0 HH1.out w3 HTC3.out).mono ?_; rintro e w4 ⟨rfl, b4⟩; have HB4 := Hid.intro b4; have HTC4 := Hid.intro (HTC3.out.kept b4 HTC3.out.lt); clear b4; simp only [hhb]))
       go_ret2
       exact ⟨none, by rw [HFF.out]; rfl, fun h => (by rw [HFF.out] at h; cases h), fun _ => rfl, ((HBW.out.trans (HB2.out.mono HBW.out.size)).trans (HB3.out.mono (Nat.le_trans HBW.out.size HB2.out.size))).trans (HB4.out.mono (Nat.le_trans HBW.out.size (Nat.le_trans HB2.out.size HB3.out.size)))⟩
      | false =>
       cases hab : anyB (L.map Np.n) with
       | true =>
        have HFF : Hid (rightB next (L.map Np.n) = false) := by unfold Hid; rw [HRB2.out, heb, hwb, fullB_two, hab]; rfl
        go_wp2_with (first | (go_at_call 51; refine (eachOk_any L w1.heap.size b off N HI0.out HW.out wr HTC.out).mono ?_; rintro e w2 ⟨rfl, b2⟩; have HB2 := Hid.intro b2; have HTC2 := Hid.intro (HTC.out.kept b2 HTC.out.lt); clear b2; simp only [heb]) | (go_at_call 52; refine (whole_any L w1.heap.size b off N HI0.out HLD.out hl24 (fun p hp => ⟨(HW.out p hp).2, (HSM.out p hp).2⟩) h0 HH1.out w2 HTC2.out).mono ?_; rintro e w3 ⟨rfl, b3⟩; have HB3 := Hid.intro b3; have HTC3 := Hid.intro (HTC2.out.kept b3 HTC2.out.lt); clear b3; simp only [hwb]) | (go_at_call 53; refine (heavy_any L w1.heap.size b off N HI0.out HLD.out hl24 (fun p hp => (HSM.out p hp).1) h0 HH1.out w3 HTC3.out).mono ?_; rintro e w4 ⟨rfl, b4⟩; have HB4 := Hid.intro b4; have HTC4 := Hid.intro (HTC3.out.kept b4 HTC3.out.lt); clear b4; simp only [hhb]) | (go_at_call 54; refine (anyOver_any L w1.heap.size b off N HI0.out HLD.out hl24 (fun p hp => (HSM.out p hp).1) h0 HH1.out w4 HTC4.out).mono ?_; rintro e w5 ⟨rfl, b5⟩; have HB5 := Hid.intro b5; have HTC5 := Hid.intro (HTC4.out.kept b5 HTC4.out.lt); clear b5; simp only [hab]))
        go_ret2
        exact ⟨none, by rw [HFF.out]; rfl, fun h => (by rw [HFF.out] at h; cases h), fun _ => rfl, (((HBW.out.trans (HB2.out.mono HBW.out.size)).trans (HB3.out.mono (Nat.le_trans HBW.out.size HB2.out.size))).trans (HB4.out.mono (Nat.le_trans HBW.out.size (Nat.le_trans HB2.out.size HB3.out.size)))).trans (HB5.out.mono (Nat.le_trans HBW.out.size (Nat.le_trans HB2.out.size (Nat.le_trans HB3.out.size HB4.out.size))))⟩
       | false =>
        have HFF : Hid (rightB next (L.map Np.n) = true) := by unfold Hid; rw [HRB2.out, heb, hwb, fullB_two, hhb, hab]; rfl
        go_wp2_with (first | (go_at_call 51; refine (eachOk_any L w1.heap.size b off N HI0.out HW.out wr HTC.out).mono ?_; rintro e w2 ⟨rfl, b2⟩; have HB2 := Hid.intro b2; have HTC2 := Hid.intro (HTC.out.kept b2 HTC.out.lt); clear b2; simp only [heb]) | (go_at_call 52; refine (whole_any L w1.heap.size b off N HI0.out HLD.out hl24 (fun p hp => ⟨(HW.out p hp).2, (HSM.out p hp).2⟩) h0 HH1.out w2 HTC2.out).mono ?_; rintro e w3 ⟨rfl, b3⟩; have HB3 := Hid.intro b3; have HTC3 := Hid.intro (HTC2.out.kept b3 HTC2.out.lt); clear b3; simp only [hwb]) | (go_at_call 53; refine (heavy_any L w1.heap.size b off N HI0.out HLD.out hl24 (fun p hp => (HSM.out p hp).1) h0 HH1.out w3 HTC3.out).mono ?_; rintro e w4 ⟨rfl, b4⟩; have HB4 := Hid.intro b4; have HTC4 := Hid.intro (HTC3.out.kept b4 HTC3.out.lt); clear b4; simp only [hhb]) | (go_at_call 54; refine (anyOver_any L w1.heap.size b off N HI0.out HLD.out hl24 (fun p hp => (HSM.out p hp).1) h0 HH1.out w4 HTC4.out).mono ?_; rintro e w5 ⟨rfl, b5⟩; have HB5 := Hid.intro b5; have HTC5 := Hid.intro (HTC4.out.kept b5 HTC4.out.lt); clear b5; simp only [hab]))
        go_ret2
        exact ⟨some w1.heap.size, by rw [HFF.out]; rfl, fun _ => ⟨_, b, off, rfl, HTC5.out⟩, fun h => (by rw [HFF.out] at h; cases h), (((HBW.out.trans (HB2.out.mono HBW.out.size)).trans (HB3.out.mono (Nat.le_trans HBW.out.size HB2.out.size))).trans (HB4.out.mono (Nat.le_trans HBW.out.size (Nat.le_trans HB2.out.size HB3.out.size)))).trans (HB5.out.mono (Nat.le_trans HBW.out.size (Nat.le_trans HB2.out.size (Nat.le_trans HB3.out.size HB4.out.size))))⟩
end Go.Proofs.YtmkegmndcbpblaaGreatDoor
