/- A note shown by the program. -/
import Derived.Test.YtkmhednmgoolgabDoorNAudI
import Derived.Test.YtkmhednmgoolgabDoorNShowM
import Derived.Test.YtkmhednmgoolgabDoorNSmall
import Derived.Test.YtkmhednmgoolgabDoorPReg
import Derived.Test.YtkmhednmgoolgabDoorShelf
import Derived.Deep.CutRange
import Derived.Deep.CutBlock
namespace Go.Proofs.YtkmhednmgoolgabDoor
open Go.RowKit
set_option linter.unusedVariables false
theorem join_any (b n c : Nat) (xs : List ByteArray) (sep : ByteArray) (w : World) (hn : xs.length = n) (hcells : ∀ (j : Nat) x, xs[j]? = some x → w.cell? ⟨b, j, none⟩ = some (.string x)) (hb : b < w.heap.size) (hN : xs.length ≤ 140737488355328) (hcap : xs.length ≤ c) (hlen : (Lib.join (xs.map (·.data.toList)) sep.data.toList).length ≤ 140737488355328) :
    Calls Tryd.prog 15 #[.slice (some ⟨b, 0, none⟩) n c, .string sep] w fun e w' => e = .returned (.string ⟨(Lib.join (xs.map (·.data.toList)) sep.data.toList).toArray⟩) ∧ Below w.heap.size w w' := by
  subst hn
  exact sh_strings_Join b 0 c xs sep w (fun j x hx => by rw [Nat.zero_add]; exact hcells j x hx) hb hN hcap hlen
theorem cells5 {w : World} {b : Nat} {a0 a1 a2 a3 a4 : ByteArray} (h : ∀ o, w.cell? ⟨b, o, none⟩ = (#[.string a0, .string a1, .string a2, .string a3, .string a4] : Array Value)[o]?) : ∀ (j : Nat) x, [a0, a1, a2, a3, a4][j]? = some x → w.cell? ⟨b, j, none⟩ = some (.string x) := by
  intro j x hx
  rw [h j]
  match j, hx with
  | 0, hx => simp at hx; subst hx; rfl
  | 1, hx => simp at hx; subst hx; rfl
  | 2, hx => simp at hx; subst hx; rfl
  | 3, hx => simp at hx; subst hx; rfl
  | 4, hx => simp at hx; subst hx; rfl
  | n + 5, hx => simp at hx
theorem join_note (x : Nt) : Lib.join ([decS x.i, decS x.c, decS x.s, decS x.k, decS x.d].map (·.data.toList)) (⟨#[46]⟩ : ByteArray).data.toList = noteL x := by
  simp [Lib.join_cons, Lib.joinTail, noteL, decS]
def N5b (b : Nat) (x : Nt) (w' : World) : Prop := w'.cell? ⟨b, 0, none⟩ = some (.int .i64 x.i) ∧ w'.cell? ⟨b, 1, none⟩ = some (.int .i64 x.c) ∧ w'.cell? ⟨b, 2, none⟩ = some (.int .i64 x.s) ∧ w'.cell? ⟨b, 3, none⟩ = some (.int .i64 x.k) ∧ w'.cell? ⟨b, 4, none⟩ = some (.int .i64 x.d)
set_option maxRecDepth 100000 in
set_option maxHeartbeats 4000000 in
theorem showNote_any (x : Nt) (w : World) (hx : 1 ≤ x.i ∧ x.i ≤ 100000 ∧ 1 ≤ x.c ∧ x.c ≤ 3 ∧ 1 ≤ x.s ∧ x.s ≤ 1000000 ∧ 1 ≤ x.k ∧ x.k ≤ 22 ∧ 0 ≤ x.d ∧ x.d ≤ 200) (ht : ∀ w', Below w.heap.size w w' → tabOk w') :
    Calls Tryd.prog 14 #[ntV x] w fun e w' => e = .returned (.string (noteS x)) ∧ Below w.heap.size w w' := by
  have HT := Hid.intro ht
  clear ht
  obtain ⟨x1, x2, x3, x4, x5, x6, x7, x8, x9, x10⟩ := hx
  go_enter Tryd.func14, Tryd.ntmps14
  go_upto_region 1 with fail
  obtain ⟨W, hW, bW, zW, cW, fW⟩ := boxed w (ntA x) 32
  try simp only [hW]
  have HW := Hid.intro bW
  have HC : Hid (∀ w', Below W.heap.size W w' → N5b w.heap.size x w') := fun w' hb => by
    have k := keepC hb (by omega) cW
    exact ⟨by rw [k]; rfl, by rw [k]; rfl, by rw [k]; rfl, by rw [k]; rfl, by rw [k]; rfl⟩
  clear hW bW cW fW
  refine wp_region_held_drew (S := N5b w.heap.size x) (by kernel_rfl) (HC.out _ (Below.refl _ _).drew) (fun hHeld => ?_)
  have BQD : Below W.heap.size W W.drew := (Below.refl _ _).drew
  generalize W.drew = D at BQD hHeld ⊢
  refine take1 (i := 0) (d := some 3) (v := ?_) rfl rfl (by kernel_rfl) (by kernel_rfl) (by kernel_rfl) (fun _ _ _ h => h) (Or.inl ⟨by rfl, ?_⟩) (by assumption) ?_
  rotate_left 1
  · intro w hSw
    obtain ⟨q0, q1, q2, q3, q4⟩ := hSw
    go_simp <;> with_reducible rfl
  simp only [Act.put, List.setIfInBounds_toArray]
  dsimp only [List.set_cons_succ, List.set_cons_zero]
  refine take1 (i := 1) (d := some 4) (v := ?_) rfl rfl (by kernel_rfl) (by kernel_rfl) (by kernel_rfl) (fun _ _ _ h => h) (Or.inl ⟨by rfl, ?_⟩) (by assumption) ?_
  rotate_left 1
  · intro w hSw
    obtain ⟨q0, q1, q2, q3, q4⟩ := hSw
    go_simp <;> with_reducible rfl
  simp only [Act.put, List.setIfInBounds_toArray]
  dsimp only [List.set_cons_succ, List.set_cons_zero]
  refine take1 (i := 3) (d := some 6) (v := ?_) rfl rfl (by kernel_rfl) (by kernel_rfl) (by kernel_rfl) (fun _ _ _ h => h) (Or.inl ⟨by rfl, ?_⟩) (by assumption) ?_
  rotate_left 1
  · intro w hSw
    obtain ⟨q0, q1, q2, q3, q4⟩ := hSw
    go_simp <;> with_reducible rfl
  simp only [Act.put, List.setIfInBounds_toArray]
  dsimp only [List.set_cons_succ, List.set_cons_zero]
  refine take1 (i := 4) (d := some 7) (v := ?_) rfl rfl (by kernel_rfl) (by kernel_rfl) (by kernel_rfl) (fun _ _ _ h => h) (Or.inl ⟨by rfl, ?_⟩) (by assumption) ?_
  rotate_left 1
  · intro w hSw
    obtain ⟨q0, q1, q2, q3, q4⟩ := hSw
    go_simp <;> with_reducible rfl
  simp only [Act.put, List.setIfInBounds_toArray]
  dsimp only [List.set_cons_succ, List.set_cons_zero]
  refine take1 (i := 6) (d := some 9) (v := ?_) rfl rfl (by kernel_rfl) (by kernel_rfl) (by kernel_rfl) (fun _ _ _ h => h) (Or.inl ⟨by rfl, ?_⟩) (by assumption) ?_
  rotate_left 1
  · intro w hSw
    obtain ⟨q0, q1, q2, q3, q4⟩ := hSw
    go_simp <;> with_reducible rfl
  simp only [Act.put, List.setIfInBounds_toArray]
  dsimp only [List.set_cons_succ, List.set_cons_zero]
  refine take1 (i := 7) (d := some 10) (v := ?_) rfl rfl (by kernel_rfl) (by kernel_rfl) (by kernel_rfl) (fun _ _ _ h => h) (Or.inl ⟨by rfl, ?_⟩) (by assumption) ?_
  rotate_left 1
  · intro w hSw
    obtain ⟨q0, q1, q2, q3, q4⟩ := hSw
    go_simp <;> with_reducible rfl
  simp only [Act.put, List.setIfInBounds_toArray]
  dsimp only [List.set_cons_succ, List.set_cons_zero]
  refine take1 (i := 9) (d := some 12) (v := ?_) rfl rfl (by kernel_rfl) (by kernel_rfl) (by kernel_rfl) (fun _ _ _ h => h) (Or.inl ⟨by rfl, ?_⟩) (by assumption) ?_
  rotate_left 1
  · intro w hSw
    obtain ⟨q0, q1, q2, q3, q4⟩ := hSw
    go_simp <;> with_reducible rfl
  simp only [Act.put, List.setIfInBounds_toArray]
  dsimp only [List.set_cons_succ, List.set_cons_zero]
  refine take1 (i := 10) (d := some 13) (v := ?_) rfl rfl (by kernel_rfl) (by kernel_rfl) (by kernel_rfl) (fun _ _ _ h => h) (Or.inl ⟨by rfl, ?_⟩) (by assumption) ?_
  rotate_left 1
  · intro w hSw
    obtain ⟨q0, q1, q2, q3, q4⟩ := hSw
    go_simp <;> with_reducible rfl
  simp only [Act.put, List.setIfInBounds_toArray]
  dsimp only [List.set_cons_succ, List.set_cons_zero]
  refine take1 (i := 12) (d := some 15) (v := ?_) rfl rfl (by kernel_rfl) (by kernel_rfl) (by kernel_rfl) (fun _ _ _ h => h) (Or.inl ⟨by rfl, ?_⟩) (by assumption) ?_
  rotate_left 1
  · intro w hSw
    obtain ⟨q0, q1, q2, q3, q4⟩ := hSw
    go_simp <;> with_reducible rfl
  simp only [Act.put, List.setIfInBounds_toArray]
  dsimp only [List.set_cons_succ, List.set_cons_zero]
  refine take1 (i := 13) (d := some 16) (v := ?_) rfl rfl (by kernel_rfl) (by kernel_rfl) (by kernel_rfl) (fun _ _ _ h => h) (Or.inl ⟨by rfl, ?_⟩) (by assumption) ?_
  rotate_left 1
  · intro w hSw
    obtain ⟨q0, q1, q2, q3, q4⟩ := hSw
    go_simp <;> with_reducible rfl
  simp only [Act.put, List.setIfInBounds_toArray]
  dsimp only [List.set_cons_succ, List.set_cons_zero]
  refine wpAnyH_ready (rs := [2]) (by kernel_rfl) (by simp) ?_
  refine AllReadyH.cons rfl (fun KK hKK => ?_) AllReadyH.nil
  go_simp
  refine (implDec_any x.i (by omega) (by omega) _ (HT.out _ (HW.out.trans (BQD.mono HW.out.size)))).mono ?_
  rintro e z0 ⟨rfl, b9⟩
  have BQz0 : Below W.heap.size W z0 := BQD.trans (b9.mono BQD.size)
  clear b9 BQD
  go_simp
  refine hKK.out _ _ (HC.out _ BQz0) (fun hHeld2 => ?_)
  clear hKK KK hHeld
  have hHeld := hHeld2
  clear hHeld2
  refine wpAnyH_ready (rs := [5]) (by kernel_rfl) (by simp) ?_
  refine AllReadyH.cons rfl (fun KK hKK => ?_) AllReadyH.nil
  go_simp
  refine (implDec_any x.c (by omega) (by omega) _ (HT.out _ (HW.out.trans (BQz0.mono HW.out.size)))).mono ?_
  rintro e z1 ⟨rfl, b9⟩
  have BQz1 : Below W.heap.size W z1 := BQz0.trans (b9.mono BQz0.size)
  clear b9 BQz0
  go_simp
  refine hKK.out _ _ (HC.out _ BQz1) (fun hHeld2 => ?_)
  clear hKK KK hHeld
  have hHeld := hHeld2
  clear hHeld2
  refine wpAnyH_ready (rs := [8]) (by kernel_rfl) (by simp) ?_
  refine AllReadyH.cons rfl (fun KK hKK => ?_) AllReadyH.nil
  go_simp
  refine (implDec_any x.s (by omega) (by omega) _ (HT.out _ (HW.out.trans (BQz1.mono HW.out.size)))).mono ?_
  rintro e z2 ⟨rfl, b9⟩
  have BQz2 : Below W.heap.size W z2 := BQz1.trans (b9.mono BQz1.size)
  clear b9 BQz1
  go_simp
  refine hKK.out _ _ (HC.out _ BQz2) (fun hHeld2 => ?_)
  clear hKK KK hHeld
  have hHeld := hHeld2
  clear hHeld2
  refine wpAnyH_ready (rs := [11]) (by kernel_rfl) (by simp) ?_
  refine AllReadyH.cons rfl (fun KK hKK => ?_) AllReadyH.nil
  go_simp
  refine (implDec_any x.k (by omega) (by omega) _ (HT.out _ (HW.out.trans (BQz2.mono HW.out.size)))).mono ?_
  rintro e z3 ⟨rfl, b9⟩
  have BQz3 : Below W.heap.size W z3 := BQz2.trans (b9.mono BQz2.size)
  clear b9 BQz2
  go_simp
  refine hKK.out _ _ (HC.out _ BQz3) (fun hHeld2 => ?_)
  clear hKK KK hHeld
  have hHeld := hHeld2
  clear hHeld2
  refine wpAnyH_ready (rs := [14]) (by kernel_rfl) (by simp) ?_
  refine AllReadyH.cons rfl (fun KK hKK => ?_) AllReadyH.nil
  go_simp
  refine (implDec_any x.d (by omega) (by omega) _ (HT.out _ (HW.out.trans (BQz3.mono HW.out.size)))).mono ?_
  rintro e z4 ⟨rfl, b9⟩
  have BQz4 : Below W.heap.size W z4 := BQz3.trans (b9.mono BQz3.size)
  clear b9 BQz3
  go_simp
  refine hKK.out _ _ (HC.out _ BQz4) (fun hHeld2 => ?_)
  clear hKK KK hHeld
  have hHeld := hHeld2
  clear hHeld2
  refine wpAnyH_ready (rs := [15]) (by kernel_rfl) (by simp) ?_
  refine AllReadyH.cons rfl (fun KK hKK => ?_) AllReadyH.nil
  go_simp
  obtain ⟨Y, hY, bY, zY, cY, fY⟩ := boxed z4 #[.string (decS x.i), .string (decS x.c), .string (decS x.s), .string (decS x.k), .string (decS x.d)] 9
  try simp only [hY]
  have BQY : Below W.heap.size W Y := BQz4.trans (bY.mono BQz4.size)
  clear BQz4 hY bY fY
  refine hKK.out _ _ (HC.out _ BQY) (fun hHeld2 => ?_)
  clear hKK KK hHeld
  have hHeld := hHeld2
  clear hHeld2
  refine wpAnyH_ready (rs := [16]) (by kernel_rfl) (by simp) ?_
  refine AllReadyH.cons rfl (fun KK hKK => ?_) AllReadyH.nil
  go_simp
  refine (join_any z4.heap.size 5 5 [decS x.i, decS x.c, decS x.s, decS x.k, decS x.d] ⟨#[46]⟩ Y rfl (cells5 cY) (by omega) (by simp) (by simp) (by rw [join_note]; have := noteL_size x; omega)).mono ?_
  rintro e Z ⟨rfl, bZ⟩
  have BQZ : Below W.heap.size W Z := BQY.trans (bZ.mono BQY.size)
  clear BQY bZ cY zY
  go_simp
  refine hKK.out _ _ (HC.out _ BQZ) (fun hHeld2 => ?_)
  clear hKK KK hHeld
  have hHeld := hHeld2
  clear hHeld2
  refine wpAnyH_ready (rs := [17]) (by kernel_rfl) (by simp) ?_
  refine AllReadyH.cons rfl (fun KK hKK => ?_) AllReadyH.nil
  go_simp
  refine hKK.out _ _ (HC.out _ BQZ) (fun hHeld2 => ?_)
  clear hKK KK hHeld
  have hHeld := hHeld2
  clear hHeld2
  refine wpAnyH_done (by kernel_rfl) ?_ _
  go_wp2_with fail
  go_ret
  exact ⟨ret_str (congrArg (fun l : List UInt8 => (⟨l.toArray⟩ : ByteArray)) (join_note x)), HW.out.trans (BQZ.mono HW.out.size)⟩
end Go.Proofs.YtkmhednmgoolgabDoor
