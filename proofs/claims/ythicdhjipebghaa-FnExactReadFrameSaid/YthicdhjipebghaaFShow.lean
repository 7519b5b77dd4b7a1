/- What is shown of a frame; ShowFrame on both sides. -/
import Derived.Test.YthicdhjipebghaaFSlotS
import Derived.Test.YthicdhjipebghaaTCallShow
import Derived.Test.YthicdhjipebghaaTCallIff
import Derived.Test.YthicdhjipebghaaPReg
import Derived.Deep.Cut
namespace Go.Proofs.Ythicdhjipebghaa
open Go.RowKit
set_option linter.unusedVariables false
def slotL (a : Sl) : List UInt8 := varsL [a.t.toNat, a.c.toNat, a.s.toNat] ++ (varL (shC a.x).size ++ (shC a.x).data.toList)
def slotsL (l : List Sl) : List UInt8 := l.flatMap slotL
/-- What is shown of a right frame, as bytes. -/
def frameL (l : List Sl) : List UInt8 := 102 :: slotsL l
/-- What is shown of a frame. -/
def shF (l : List Sl) : ByteArray := if frameB l then ⟨(frameL l).toArray⟩ else ByteArray.empty
theorem shF_yes {l : List Sl} (h : frameB l = true) : shF l = ⟨(frameL l).toArray⟩ := if_pos h
theorem shF_no {l : List Sl} (h : frameB l = false) : shF l = ByteArray.empty := by simp [shF, h]
/-- The bounds of a right slot. -/
structure SlB (a : Sl) : Prop where
  t : 0 ≤ a.t ∧ a.t ≤ 2
  c : 0 ≤ a.c ∧ a.c ≤ 3
  s : 0 ≤ a.s ∧ a.s ≤ 1000000
  x : callP a.x
theorem slB_of {a : Sl} (h : slotB a = true) : SlB a := by
  simp only [slotB, Bool.and_eq_true] at h
  obtain ⟨h1, h2, h3, h4⟩ := h
  have h1 : 0 ≤ a.t ∧ a.t ≤ 2 := by simpa [inB] using h1
  have h2 : 1 ≤ a.c ∧ a.c ≤ 3 := by simpa [inB] using h2
  have h3 : 1 ≤ a.s ∧ a.s ≤ 1000000 := by simpa [inB] using h3
  exact ⟨h1, by omega, by omega, (callB_iff _).1 h4⟩
theorem frFrom_mem {p q : Int} (l : List Sl) (h : frFrom p q l = true) : ∀ a ∈ l, SlB a := by
  induction l generalizing p q with
  | nil => intro a ha; cases ha
  | cons a l ih =>
    simp only [frFrom, Bool.and_eq_true] at h
    obtain ⟨h1, _, _, h4⟩ := h
    intro b hb
    rcases List.mem_cons.1 hb with rfl | hb
    · exact slB_of h1
    · exact ih h4 b hb
theorem frFrom_len {p q : Int} (l : List Sl) (h : frFrom p q l = true) (h1 : -1 ≤ p) (h2 : p ≤ 2) (h3 : q ≤ p) : (l.length : Int) ≤ 2 * (2 - p) + (if p = -1 then 0 else if q = p then 0 else 1) := by
  induction l generalizing p q with
  | nil => simp only [List.length_nil]; split <;> (try split) <;> omega
  | cons a l ih =>
    simp only [frFrom, Bool.and_eq_true, decide_eq_true_eq, Bool.not_eq_true', decide_eq_false_iff_not] at h
    obtain ⟨k1, k2, k3, k4⟩ := h
    have ht := (slB_of k1).t
    have := ih k4 (by omega) (by omega) k2
    rw [List.length_cons, Int.natCast_add, Int.natCast_one]
    rw [if_neg (show ¬ a.t = -1 by omega)] at this
    by_cases e : p = a.t
    · rw [if_pos e] at this
      rw [if_neg (show ¬ p = -1 by omega), if_neg (show ¬ q = p by omega)]
      omega
    · rw [if_neg e] at this
      split <;> (try split) <;> omega
theorem frameB_len {l : List Sl} (h : frameB l = true) : l.length ≤ 6 := by
  have := frFrom_len l h (by omega) (by omega) (by omega)
  simp at this
  omega
theorem shC_le {c : Ca} (h : callP c) : (shC c).size ≤ 226 := by
  rw [shC_yes h]
  obtain ⟨⟨_, h2, h3, h4, _, _⟩, _, _⟩ := h
  have a1 := varS_le c.k.toNat
  have a2 := piece_le c.p
  have a3 := piece_le c.to
  have a4 := varS_le (foldN c.n)
  have a5 := varS_le (foldN c.m)
  have a6 := piece_le c.d
  simp only [ByteArray.size_append]
  omega
theorem slotL_le {a : Sl} (h : SlB a) : (slotL a).length ≤ 254 := by
  have h1 := varsL_le [a.t.toNat, a.c.toNat, a.s.toNat]
  have h2 := shC_le h.x
  have h3 := varL_le (shC a.x).size
  have h4 : (shC a.x).data.toList.length = (shC a.x).size := by simp
  simp only [slotL, List.length_append, List.length_cons, List.length_nil] at h1 ⊢
  omega
theorem slotsL_le (l : List Sl) (h : ∀ a ∈ l, SlB a) : (slotsL l).length ≤ 254 * l.length := by
  induction l with
  | nil => simp [slotsL]
  | cons a l ih =>
    have h1 := slotL_le (h a (by simp))
    have h2 := ih (fun b hb => h b (by simp [hb]))
    simp only [slotsL, List.flatMap_cons, List.length_append, List.length_cons] at h2 ⊢
    omega
theorem slotsL_snoc (l : List Sl) (j : Nat) (h : j < l.length) : slotsL (l.take j) ++ slotL l[j] = slotsL (l.take (j + 1)) := by
  rw [List.take_succ_eq_append_getElem h]
  simp only [slotsL, List.flatMap_append, List.flatMap_cons, List.flatMap_nil, List.append_nil]
theorem shF_le {l : List Sl} (h : frameB l = true) : (shF l).size ≤ 1525 := by
  rw [shF_yes h]
  have h1 := slotsL_le l (frFrom_mem l h)
  have h2 := frameB_len h
  have e : (⟨(frameL l).toArray⟩ : ByteArray).size = (frameL l).length := rfl
  rw [e, frameL, List.length_cons]
  omega
theorem piece_toListF (s : ByteArray) : (piece s).data.toList = varL s.size ++ s.data.toList := by
  unfold piece
  rw [ba_app, varS_list]
theorem ba_sizeF (l : List UInt8) : (⟨l.toArray⟩ : ByteArray).size = l.length := rfl
theorem ba_listF (l : List UInt8) : (⟨l.toArray⟩ : ByteArray).data.toList = l := rfl
def SSl (t c s : Nat) (x : Ca) (b : Nat) (w' : World) : Prop := w'.cell? ⟨b, 0, none⟩ = some (.int .i64 t) ∧ w'.cell? ⟨b, 1, none⟩ = some (.int .i64 c) ∧ w'.cell? ⟨b, 2, none⟩ = some (.int .i64 s) ∧ w'.cell? ⟨b, 3, none⟩ = some (.int .i64 x.k) ∧ w'.cell? ⟨b, 4, none⟩ = some (.string x.p) ∧ w'.cell? ⟨b, 5, none⟩ = some (.string x.to) ∧ w'.cell? ⟨b, 6, none⟩ = some (.int .i64 x.n) ∧ w'.cell? ⟨b, 7, none⟩ = some (.int .i64 x.m) ∧ w'.cell? ⟨b, 8, none⟩ = some (.string x.d)
set_option maxRecDepth 100000 in
set_option maxHeartbeats 8000000 in
theorem specSlotShow_any (t c s : Nat) (x : Ca) (w : World) (ht : t ≤ 1000000) (hcc : c ≤ 1000000) (hss : s ≤ 1000000) (hx : (shC x).size ≤ 226) :
    Calls Try.prog 36 #[slV ⟨(t : Nat), (c : Nat), (s : Nat), x⟩] w fun e w' => e = .returned (.string (varS t ++ varS c ++ varS s ++ piece (shC x))) ∧ Below w.heap.size w w' := by
  go_enter Try.func36, Try.ntmps36
  go_upto_region 1 with fail
  obtain ⟨W, hW, bW, zW, cW, fW⟩ := boxed w #[.int .i64 (t : Nat), .int .i64 (c : Nat), .int .i64 (s : Nat), .int .i64 x.k, .string x.p, .string x.to, .int .i64 x.n, .int .i64 x.m, .string x.d] 49
  try simp only [hW]
  have hlt : w.heap.size < W.heap.size := by omega
  have HC : Hid (∀ w', Below W.heap.size W w' → SSl t c s x w.heap.size w') := fun w' hb => by
    have k := keepC hb hlt cW
    exact ⟨k 0, k 1, k 2, k 3, k 4, k 5, k 6, k 7, k 8⟩
  have BW := bW
  have v0 := piece_le (shC x)
  have v1 := varS_le t
  have v2 := varS_le c
  have v3 := varS_le s
  clear hW bW zW cW fW
  refine wp_region_held_drew (S := SSl t c s x w.heap.size) (by kernel_rfl) (HC.out _ (Below.refl _ _).drew) (fun hHeld => ?_)
  have BQD : Below W.heap.size W W.drew := (Below.refl _ _).drew
  generalize W.drew = D at BQD hHeld ⊢
  refine take1 (i := 0) (d := some 3) (v := ?_) rfl rfl (by kernel_rfl) (by kernel_rfl) (by kernel_rfl) (fun _ _ _ h => h) (Or.inl ⟨by rfl, ?_⟩) (by assumption) ?_
  rotate_left 1
  · intro w hSw
    obtain ⟨s0, s1, s2, s3, s4, s5, s6, s7, s8⟩ := hSw
    go_simp <;> with_reducible rfl
  simp only [Act.put, List.setIfInBounds_toArray]
  try simp only [List.set_cons_succ]
  try simp only [List.set_cons_zero]
  refine take1 (i := 1) (d := some 4) (v := ?_) rfl rfl (by kernel_rfl) (by kernel_rfl) (by kernel_rfl) (fun _ _ _ h => h) (Or.inl ⟨by rfl, ?_⟩) (by assumption) ?_
  rotate_left 1
  · intro w hSw
    obtain ⟨s0, s1, s2, s3, s4, s5, s6, s7, s8⟩ := hSw
    go_simp <;> with_reducible rfl
  simp only [Act.put, List.setIfInBounds_toArray]
  try simp only [List.set_cons_succ]
  try simp only [List.set_cons_zero]
  refine take1 (i := 3) (d := some 6) (v := ?_) rfl rfl (by kernel_rfl) (by kernel_rfl) (by kernel_rfl) (fun _ _ _ h => h) (Or.inl ⟨by rfl, ?_⟩) (by assumption) ?_
  rotate_left 1
  · intro w hSw
    obtain ⟨s0, s1, s2, s3, s4, s5, s6, s7, s8⟩ := hSw
    go_simp <;> with_reducible rfl
  simp only [Act.put, List.setIfInBounds_toArray]
  try simp only [List.set_cons_succ]
  try simp only [List.set_cons_zero]
  refine take1 (i := 4) (d := some 7) (v := ?_) rfl rfl (by kernel_rfl) (by kernel_rfl) (by kernel_rfl) (fun _ _ _ h => h) (Or.inl ⟨by rfl, ?_⟩) (by assumption) ?_
  rotate_left 1
  · intro w hSw
    obtain ⟨s0, s1, s2, s3, s4, s5, s6, s7, s8⟩ := hSw
    go_simp <;> with_reducible rfl
  simp only [Act.put, List.setIfInBounds_toArray]
  try simp only [List.set_cons_succ]
  try simp only [List.set_cons_zero]
  refine take1 (i := 7) (d := some 10) (v := ?_) rfl rfl (by kernel_rfl) (by kernel_rfl) (by kernel_rfl) (fun _ _ _ h => h) (Or.inl ⟨by rfl, ?_⟩) (by assumption) ?_
  rotate_left 1
  · intro w hSw
    obtain ⟨s0, s1, s2, s3, s4, s5, s6, s7, s8⟩ := hSw
    go_simp <;> with_reducible rfl
  simp only [Act.put, List.setIfInBounds_toArray]
  try simp only [List.set_cons_succ]
  try simp only [List.set_cons_zero]
  refine take1 (i := 8) (d := some 11) (v := ?_) rfl rfl (by kernel_rfl) (by kernel_rfl) (by kernel_rfl) (fun _ _ _ h => h) (Or.inl ⟨by rfl, ?_⟩) (by assumption) ?_
  rotate_left 1
  · intro w hSw
    obtain ⟨s0, s1, s2, s3, s4, s5, s6, s7, s8⟩ := hSw
    go_simp <;> with_reducible rfl
  simp only [Act.put, List.setIfInBounds_toArray]
  try simp only [List.set_cons_succ]
  try simp only [List.set_cons_zero]
  refine take1 (i := 11) (d := some 14) (v := ?_) rfl rfl (by kernel_rfl) (by kernel_rfl) (by kernel_rfl) (fun _ _ _ h => h) (Or.inl ⟨by rfl, ?_⟩) (by assumption) ?_
  rotate_left 1
  · intro w hSw
    obtain ⟨s0, s1, s2, s3, s4, s5, s6, s7, s8⟩ := hSw
    go_simp <;> with_reducible rfl
  simp only [Act.put, List.setIfInBounds_toArray]
  try simp only [List.set_cons_succ]
  try simp only [List.set_cons_zero]
  refine take1 (i := 12) (d := some 15) (v := ?_) rfl rfl (by kernel_rfl) (by kernel_rfl) (by kernel_rfl) (fun _ _ _ h => h) (Or.inl ⟨by rfl, ?_⟩) (by assumption) ?_
  rotate_left 1
  · intro w hSw
    obtain ⟨s0, s1, s2, s3, s4, s5, s6, s7, s8⟩ := hSw
    go_simp <;> with_reducible rfl
  simp only [Act.put, List.setIfInBounds_toArray]
  try simp only [List.set_cons_succ]
  try simp only [List.set_cons_zero]
  refine wpAnyH_ready (rs := [2]) (by kernel_rfl) (by simp) ?_
  refine AllReadyH.cons rfl (fun KK hKK => ?_) AllReadyH.nil
  go_simp
  refine (specVar_yes t _ (by omega)).mono ?_
  rintro e q1 ⟨rfl, b9⟩
  have BQq1 : Below W.heap.size W q1 := stepB BQD b9
  clear b9 BQD
  go_simp
  refine hKK.out _ _ (HC.out _ BQq1) (fun hHeld2 => ?_)
  clear hKK KK hHeld
  have hHeld := hHeld2
  clear hHeld2
  refine wpAnyH_ready (rs := [5]) (by kernel_rfl) (by simp) ?_
  refine AllReadyH.cons rfl (fun KK hKK => ?_) AllReadyH.nil
  go_simp
  refine (specVar_yes c _ (by omega)).mono ?_
  rintro e q2 ⟨rfl, b9⟩
  have BQq2 : Below W.heap.size W q2 := stepB BQq1 b9
  clear b9 BQq1
  go_simp
  refine hKK.out _ _ (HC.out _ BQq2) (fun hHeld2 => ?_)
  clear hKK KK hHeld
  have hHeld := hHeld2
  clear hHeld2
  refine take1 (i := 6) (d := some 9) (v := .string (varS t ++ varS c)) rfl rfl (by kernel_rfl) (by kernel_rfl) (by kernel_rfl) (fun _ _ _ h => h) (Or.inl ⟨by rfl, ?_⟩) (by assumption) ?_
  · intro w hSw
    go_simp
    omega
  simp only [Act.put, List.setIfInBounds_toArray]
  try simp only [List.set_cons_succ]
  try simp only [List.set_cons_zero]
  refine wpAnyH_ready (rs := [9]) (by kernel_rfl) (by simp) ?_
  refine AllReadyH.cons rfl (fun KK hKK => ?_) AllReadyH.nil
  go_simp
  refine (specVar_yes s _ (by omega)).mono ?_
  rintro e q3 ⟨rfl, b9⟩
  have BQq3 : Below W.heap.size W q3 := stepB BQq2 b9
  clear b9 BQq2
  go_simp
  refine hKK.out _ _ (HC.out _ BQq3) (fun hHeld2 => ?_)
  clear hKK KK hHeld
  have hHeld := hHeld2
  clear hHeld2
  refine take1 (i := 10) (d := some 13) (v := .string (varS t ++ varS c ++ varS s)) rfl rfl (by kernel_rfl) (by kernel_rfl) (by kernel_rfl) (fun _ _ _ h => h) (Or.inl ⟨by rfl, ?_⟩) (by assumption) ?_
  · intro w hSw
    go_simp
    omega
  simp only [Act.put, List.setIfInBounds_toArray]
  try simp only [List.set_cons_succ]
  try simp only [List.set_cons_zero]
  refine wpAnyH_ready (rs := [13]) (by kernel_rfl) (by simp) ?_
  refine AllReadyH.cons rfl (fun KK hKK => ?_) AllReadyH.nil
  go_simp
  refine (specShowCall_any x q3).mono ?_
  rintro e q4 ⟨rfl, b9⟩
  have BQq4 : Below W.heap.size W q4 := stepB BQq3 b9
  clear b9 BQq3
  go_simp
  refine hKK.out _ _ (HC.out _ BQq4) (fun hHeld2 => ?_)
  clear hKK KK hHeld
  have hHeld := hHeld2
  clear hHeld2
  refine wpAnyH_ready (rs := [14]) (by kernel_rfl) (by simp) ?_
  refine AllReadyH.cons rfl (fun KK hKK => ?_) AllReadyH.nil
  go_simp
  refine (specPiece_any (shC x) _ (by omega)).mono ?_
  rintro e q5 ⟨rfl, b9⟩
  have BQq5 : Below W.heap.size W q5 := stepB BQq4 b9
  clear b9 BQq4
  go_simp
  refine hKK.out _ _ (HC.out _ BQq5) (fun hHeld2 => ?_)
  clear hKK KK hHeld
  have hHeld := hHeld2
  clear hHeld2
  refine take1 (i := 15) (d := some 18) (v := .string (varS t ++ varS c ++ varS s ++ piece (shC x))) rfl rfl (by kernel_rfl) (by kernel_rfl) (by kernel_rfl) (fun _ _ _ h => h) (Or.inl ⟨by rfl, ?_⟩) (by assumption) ?_
  · intro w hSw
    go_simp
    omega
  simp only [Act.put, List.setIfInBounds_toArray]
  try simp only [List.set_cons_succ]
  try simp only [List.set_cons_zero]
  refine take1 (i := 16) (d := some 2) (v := ?_) rfl rfl (by kernel_rfl) (by kernel_rfl) (by kernel_rfl) (fun _ _ _ h => h) (Or.inl ⟨by rfl, ?_⟩) (by assumption) ?_
  rotate_left 1
  · intro w hSw
    obtain ⟨s0, s1, s2, s3, s4, s5, s6, s7, s8⟩ := hSw
    go_simp <;> with_reducible rfl
  simp only [Act.put, List.setIfInBounds_toArray]
  try simp only [List.set_cons_succ]
  try simp only [List.set_cons_zero]
  refine wpAnyH_done (by kernel_rfl) ?_ _
  clear HC hHeld
  have HB := Hid.intro (BW.trans (BQq5.mono BW.size))
  clear BQq5 v0 v1 v2 v3
  go_wp2_with fail
  go_ret
  exact ⟨rfl, HB.out⟩
set_option maxRecDepth 100000 in
set_option maxHeartbeats 8000000 in
theorem specShowFrame_any (L : List Sl) (v : Value) (N : Nat) (w : World) (hN : N ≤ w.heap.size) (hr : Row slE w N v L) :
    Calls Try.prog 20 #[v] w fun e w' => e = .returned (.string (shF L)) ∧ Below w.heap.size w w' := by
  have HR := Hid.intro hr
  cases hv : frameB L with
  | false =>
    rw [shF_no hv]
    go_enter Try.func20, Try.ntmps20
    go_wp2_with fail
    refine (specFrameOk_any L v N w hN hr).mono ?_
    rw [hv]
    rintro e w1 ⟨rfl, b1⟩
    go_wp2
    go_ret
    exact ⟨rfl, b1⟩
  | true =>
    rw [shF_yes hv]
    have HSB := Hid.intro (frFrom_mem L hv)
    have h6 := frameB_len hv
    go_enter Try.func20, Try.ntmps20
    go_wp2_with fail
    refine (specFrameOk_any L v N w hN hr).mono ?_
    rw [hv]
    rintro e w1 ⟨rfl, b1⟩
    have z1 := b1.size
    obtain ⟨a, cap, rfl, hl, hm, hcells⟩ := slE_cell (HR.out.kept (b1.mono hN))
    have HCA := Hid.intro hcells
    have BW := Hid.intro b1
    clear hcells hl hm b1 hr hv HR
    go_wp2_with fail
    go_loopw [3, 4] (fun x i wr => ∃ (j : Nat) (s : ByteArray), i = .int .i64 j ∧ x = .string s ∧ j ≤ L.length ∧ s.size ≤ 1 + 254 * j ∧ Hid (s.data.toList = 102 :: slotsL (L.take j)) ∧ Hid (Below w1.heap.size w1 wr)) (fun _ i _ => L.length - (intOf i).toNat)
    case atStart => exact ⟨0, ⟨#[102]⟩, rfl, rfl, Nat.zero_le _, (by decide), by unfold Hid; simp [slotsL], Below.refl _ _⟩
    case round =>
      obtain ⟨j, s, rfl, rfl, hj, hsj, HP, HB⟩ := hrel
      have hzr := HB.out.size
      by_cases hlt : j < L.length
      · obtain ⟨b, off, rfl, hbN, hcc⟩ := HCA.out (fun h => by rw [h] at hlt; simp at hlt)
        have hd := (hcc j hlt).at HB.out (by omega)
        have hst := slotsL_snoc L j hlt
        have hnb := HSB.out L[j] (List.getElem_mem hlt)
        generalize L[j] = x at hd hst hnb
        obtain ⟨t, c, sr, x⟩ := x
        obtain ⟨⟨t0, t1⟩, ⟨c0, c1⟩, ⟨s0, s1⟩, hxp⟩ := hnb
        simp only at t0 t1 c0 c1 s0 s1 hxp hst
        obtain ⟨t, rfl⟩ := Int.eq_ofNat_of_zero_le t0
        obtain ⟨c, rfl⟩ := Int.eq_ofNat_of_zero_le c0
        obtain ⟨sr, rfl⟩ := Int.eq_ofNat_of_zero_le s0
        have hst2 : slotsL (L.take j) ++ (varsL [t, c, sr] ++ (varL (shC x).size ++ (shC x).data.toList)) = slotsL (L.take (j + 1)) := by simpa [slotL] using hst
        have HS := Hid.intro hst2
        have hx := shC_le hxp
        obtain ⟨d0, d1, d2, d3, d4, d5, d6, d7, d8⟩ := hd
        have hjl : (j : Int) < (L.length : Int) := by omega
        have i1' : (0 : Int) ≤ (j : Int) ∧ (j : Int) < (L.length : Int) := by omega
        clear hst hst2 hcc t0 c0 s0 hxp
        go_wp2_with fail
        refine (specSlotShow_any t c sr x wr (by omega) (by omega) (by omega) hx).mono ?_
        rintro e w2 ⟨rfl, b2⟩
        have v0 := piece_le (shC x)
        have v1 := varS_le t
        have v2 := varS_le c
        have v3 := varS_le sr
        replace HB := Hid.intro (HB.out.trans (b2.mono hzr))
        have hq : (varS t ++ varS c ++ varS sr ++ piece (shC x)).size ≤ 254 := by simp only [ByteArray.size_append]; omega
        have HQ : Hid ((s ++ (varS t ++ varS c ++ varS sr ++ piece (shC x))).data.toList = 102 :: slotsL (L.take (j + 1))) := by
          unfold Hid
          rw [ba_app, HP.out, ← HS.out]
          simp only [ba_app, varS_list, piece_toListF, varsL, List.flatMap_cons, List.flatMap_nil, List.append_nil, List.append_assoc, List.cons_append]
        clear b2 v0 v1 v2 v3 d0 d1 d2 d3 d4 d5 d6 d7 d8 HS HP hx
        generalize varS t ++ varS c ++ varS sr ++ piece (shC x) = u at hq HQ ⊢
        have hsz : (s.size : Int) + (u.size : Int) ≤ 281474976710656 := by omega
        have hsz2 : s.size + u.size ≤ 281474976710656 := by omega
        have hsz3 : (s ++ u).size ≤ 1 + 254 * (j + 1) := by simp only [ByteArray.size_append]; omega
        go_wp2
        go_roundw
        case rel => exact ⟨j + 1, s ++ u, by go_num, rfl, by omega, hsz3, HQ, HB⟩
        case measure => simp [intOf]; omega
      · obtain rfl : j = L.length := by omega
        have HF : Hid (s = ⟨(frameL L).toArray⟩) := by
          have h := HP.out
          rw [List.take_length] at h
          unfold Hid
          rw [frameL, ← h, ba_of]
        replace HB := Hid.intro (BW.out.trans (HB.out.mono z1))
        go_wp2_with fail
        go_ret
        exact ⟨by rw [HF.out]; rfl, HB.out⟩
end Go.Proofs.Ythicdhjipebghaa
