/- The program's ShowMsg. -/
import Derived.Test.YtdnngbdkmdphoaaEShow
namespace Go.Proofs.Ytdnngbdkmdphoaa
open Go.RowKit
set_option linter.unusedVariables false
theorem Kept8.trans {b : Nat} {x y z : World} (h : Kept8 b x y) (k : Kept8 b y z) : Kept8 b x z := fun n cs T fr hn hT hc => k n cs T fr hn hT (h n cs T fr hn hT hc)
def catB (ps : List ByteArray) : List UInt8 := ps.flatMap (fun s => s.data.toList)
theorem catB_snoc (l : List ByteArray) (j : Nat) (h : j < l.length) : catB (l.take j) ++ (l[j]).data.toList = catB (l.take (j + 1)) := by
  rw [List.take_succ_eq_append_getElem h]
  simp only [catB, List.flatMap_append, List.flatMap_cons, List.flatMap_nil, List.append_nil]
theorem catB_take_le (l : List ByteArray) (j : Nat) : (catB (l.take j)).length ≤ (catB l).length := by
  have h : catB l = catB (l.take j) ++ catB (l.drop j) := by
    rw [catB, catB, catB, ← List.flatMap_append, List.take_append_drop]
  rw [h, List.length_append]
  omega
theorem cells_at {w : World} {b : Nat} {A : Array Value} {T : TypeId} {fr : Nat × Nat} (h : w.heap[b]? = some (.cells A T fr)) : ∀ o, w.cell? ⟨b, o, none⟩ = A[o]? := fun o => by rw [Lib.cell_of_heap h]
theorem heap_lt {w : World} {g : Nat} {o : Obj} (h : w.heap[g]? = some o) : g < w.heap.size := by
  rcases Nat.lt_or_ge g w.heap.size with h' | h'
  · exact h'
  · simp [Array.getElem?_eq_none h'] at h
theorem hy_keep {w w' : World} {g : Nat} {o : Obj} (h : w.heap[g]? = some o) (hb : Below w.heap.size w w') : w'.heap[g]? = some o := (hb.block _ (heap_lt h)).trans h
set_option maxRecDepth 100000 in
set_option maxHeartbeats 2000000 in
theorem writeParts_any (B b g n : Nat) (l : List UInt8) (ps : List ByteArray) (fr : Nat × Nat) (w : World) (h : BldAt B b l w) (hn : ps.length = n) (hn1 : n ≤ 100) (hp : w.heap[g]? = some (.cells (ps.map Value.string).toArray 9 fr)) (hne : g ≠ b) (hlen : l.length + (catB ps).length ≤ 140737488355328) (hBw : B ≤ w.heap.size) :
    Calls Try.prog 33 #[.pointer (some ⟨b, 0, none⟩), .slice (some ⟨g, 0, none⟩) n n] w fun e w' => e = .returned (.tuple #[]) ∧ BldAt B b (l ++ catB ps) w' ∧ Below B w w' ∧ Kept8 b w w' := by
  subst hn
  have HP := Hid.intro hp
  have HH := Hid.intro h
  clear hp h
  go_enter Try.func33, Try.ntmps33
  go_wp2
  go_loopw [8] (fun i wr => ∃ j : Nat, i = .int .i64 j ∧ j ≤ ps.length ∧ Hid (BldAt B b (l ++ catB (ps.take j)) wr) ∧ Hid (Below B w wr) ∧ Hid (Kept8 b w wr)) (fun i _ => ps.length - (intOf i).toNat)
  case atStart => exact ⟨0, rfl, Nat.zero_le _, by unfold Hid; simpa [catB] using HH.out, Below.refl _ _, fun _ _ _ _ _ _ h => h⟩
  case round =>
    obtain ⟨j, rfl, hj, HL, HB, HK⟩ := hrel
    have hbs := HB.out.size
    by_cases hlt : j < ps.length
    · have hlt' : (j : Int) < (ps.length : Int) := by omega
      have i1 : (0 : Int) ≤ (j : Int) ∧ (j : Int) < (ps.length : Int) := by omega
      have hcell : wr.cell? ⟨g, j, none⟩ = some (.string ps[j]) := by
        rw [Lib.cell_of_heap (HK.out _ _ _ _ hne (by decide) HP.out)]
        simp [hlt]
      have hst := catB_snoc ps j hlt
      have htk := catB_take_le ps (j + 1)
      rw [← hst, List.length_append] at htk
      have h3 : (ps[j]).data.toList.length = (ps[j]).size := by simp
      generalize ps[j] = x at hcell hst htk h3
      have HS := Hid.intro hst
      clear hst
      go_wp2_with fail
      refine (bldWriteK_any B b _ x _ HL.out (by rw [List.length_append]; omega) (by omega)).mono ?_
      rintro e w2 ⟨rfl, h2, b2, k2⟩
      rw [List.append_assoc, HS.out] at h2
      have H2 : Hid (BldAt B b (l ++ catB (ps.take (j + 1))) w2) := h2
      have HB2 := Hid.intro (HB.out.trans b2)
      have HK2 := Hid.intro (HK.out.trans k2)
      clear h2 b2 k2 hcell
      go_wp2
      go_roundw
      case rel => exact ⟨j + 1, by go_num, by omega, H2, HB2, HK2⟩
      case measure => simp [intOf]; omega
    · obtain rfl : j = ps.length := by omega
      rw [List.take_length] at HL
      go_wp2
      go_end0
      exact ⟨rfl, HL.out, HB.out, HK.out⟩
theorem vars9_any (g0 : Nat) (w : World) (L : List Nat) (h9 : L.length = 9) (hg : g0 < w.heap.size) (hx : ∀ x ∈ L, x ≤ 1000000) (hc : ∀ o, w.cell? ⟨g0, o, none⟩ = (L.map (fun x => Value.int .i64 (x : Nat)))[o]?) :
    Calls Try.prog 34 #[.slice (some ⟨g0, 0, none⟩) 9 9] w fun e' w' => e' = .returned (.string ⟨(varsL L).toArray⟩) ∧ Below w.heap.size w w' := by
  have := vars_any g0 0 9 L w (by omega) hg (fun j h => by have := hx L[j] (List.getElem_mem h); omega) (by omega) (fun j h => by rw [Nat.zero_add, hc]; simp [h])
  rw [h9] at this
  exact this
set_option maxRecDepth 100000 in
set_option maxHeartbeats 8000000 in
theorem implShowMsg_any (a : Ms) (v : Value) (N : Nat) (w : World) (hN : N ≤ w.heap.size) (hr : Row enE w N v a.es) (hlen : a.es.length ≤ 1000000000000) :
    Calls Try.prog 12 #[msV a v] w fun e w' => e = .returned (.string (shMs a)) ∧ Below w.heap.size w w' := by
  have HR := Hid.intro hr
  have HLE := Hid.intro hlen
  clear hr hlen
  cases hv : msgB a with
  | false =>
    rw [shMs_no hv]
    go_enter Try.func12, Try.ntmps12
    go_wp2_with fail
    obtain ⟨W, hW, bW, zW, c1, f1⟩ := boxed w (msA a v) 29
    simp only [hW]
    refine (implMsgOk_any a v N W (by omega) (HR.out.kept (bW.mono hN)) HLE.out).mono ?_
    rw [hv]
    rintro e w1 ⟨rfl, b1⟩
    have HB := Hid.intro (bW.trans (b1.mono (by omega)))
    clear hW bW b1 f1 c1
    go_wp2
    go_ret
    exact ⟨rfl, HB.out⟩
  | true =>
    rw [shMs_yes hv]
    have hb := msB_of ((msgB_iff a).1 hv)
    obtain ⟨k, f, g, m, i, j, c, y, es, d⟩ := a
    obtain ⟨⟨k0, k1⟩, ⟨f0, f1⟩, ⟨g0, g1⟩, ⟨m0, m1⟩, ⟨i0, i1⟩, ⟨j0, j1⟩, ⟨c0, c1⟩, n1, d1, he⟩ := hb
    simp only at k0 k1 f0 f1 g0 g1 m0 m1 i0 i1 j0 j1 c0 c1 n1 d1 he
    obtain ⟨k, rfl⟩ := Int.eq_ofNat_of_zero_le (show 0 ≤ k by omega)
    obtain ⟨f, rfl⟩ := Int.eq_ofNat_of_zero_le f0
    obtain ⟨g, rfl⟩ := Int.eq_ofNat_of_zero_le g0
    obtain ⟨m, rfl⟩ := Int.eq_ofNat_of_zero_le (show 0 ≤ m by omega)
    obtain ⟨i, rfl⟩ := Int.eq_ofNat_of_zero_le i0
    obtain ⟨j, rfl⟩ := Int.eq_ofNat_of_zero_le j0
    obtain ⟨c, rfl⟩ := Int.eq_ofNat_of_zero_le c0
    have HE := Hid.intro he
    have HV := Hid.intro hv
    clear he hv
    go_enter Try.func12, Try.ntmps12
    go_wp2_with fail
    obtain ⟨W, hW, bW, zW, cW, fW⟩ := boxed w (msA ⟨(k : Nat), (f : Nat), (g : Nat), (m : Nat), (i : Nat), (j : Nat), (c : Nat), y, es, d⟩ v) 29
    simp only [hW]
    have HO := implMsgOk_any ⟨(k : Nat), (f : Nat), (g : Nat), (m : Nat), (i : Nat), (j : Nat), (c : Nat), y, es, d⟩ v N W (by omega) (HR.out.kept (bW.mono hN)) HLE.out
    rw [HV.out] at HO
    refine HO.mono ?_
    clear HO
    rintro e w1 ⟨rfl, b1⟩
    have z1 := b1.size
    have BW := Hid.intro (bW.trans (b1.mono (by omega)))
    have cM := keepC b1 (by omega) cW
    have hlt : w.heap.size < w1.heap.size := by omega
    obtain ⟨ea, cap, hve, hl, hm, hcells⟩ := enE_cell (HR.out.kept (BW.out.mono hN))
    have HCA := Hid.intro hcells
    try simp only at hve hl
    subst hve
    clear hW bW zW cW fW b1 hcells HR
    go_upto_region 4 with fail
    have HL := Hid.intro (bld_fresh w1)
    have BB : Below w1.heap.size w1 (w1.alloc (.cells #[.pointer none, .slice none 0 0] 53)) := one_below _ _
    have hUlt : w1.heap.size < (w1.alloc (.cells #[.pointer none, .slice none 0 0] 53)).heap.size := by simp
    generalize w1.alloc (.cells #[.pointer none, .slice none 0 0] 53) = U at HL BB hUlt ⊢
    have HCM : Hid (∀ w', Below w1.heap.size U w' → (∀ o, w'.cell? ⟨w.heap.size, o, none⟩ = (msA ⟨(k : Nat), (f : Nat), (g : Nat), (m : Nat), (i : Nat), (j : Nat), (c : Nat), y, es, d⟩ (.slice ea es.length cap))[o]?) ∧ True) := fun w' hb => ⟨keepC (BB.trans hb) hlt cM, trivial⟩
    have BBU := Hid.intro BB
    have hzU := BB.size
    clear cM BB
    refine wp_region_held_drew (S := fun sw => (∀ o, sw.cell? ⟨w.heap.size, o, none⟩ = (msA ⟨(k : Nat), (f : Nat), (g : Nat), (m : Nat), (i : Nat), (j : Nat), (c : Nat), y, es, d⟩ (.slice ea es.length cap))[o]?) ∧ True) (by kernel_rfl) (HCM.out _ (Below.refl _ _).drew) (fun hHeld => ?_)
    have BD : Hid (Below w1.heap.size U U.drew) := (Below.refl _ _).drew
    replace HL := Hid.intro (bld_kept HL.out (Below.refl _ _).drew)
    generalize U.drew = D at BD hHeld HL ⊢
    refine take1 (i := 0) (d := some 9) (v := ?_) rfl rfl (by kernel_rfl) (by kernel_rfl) (by kernel_rfl) (fun _ _ _ h => h) (Or.inl ⟨by rfl, ?_⟩) (by assumption) ?_
    rotate_left 1
    · intro w hSw
      obtain ⟨q0, q1⟩ := hSw
      go_simp <;> with_reducible rfl
    simp only [Act.put, List.setIfInBounds_toArray]
    dsimp only [List.set_cons_succ, List.set_cons_zero]
    refine take1 (i := 1) (d := some 10) (v := ?_) rfl rfl (by kernel_rfl) (by kernel_rfl) (by kernel_rfl) (fun _ _ _ h => h) (Or.inl ⟨by rfl, ?_⟩) (by assumption) ?_
    rotate_left 1
    · intro w hSw
      obtain ⟨q0, q1⟩ := hSw
      go_simp <;> with_reducible rfl
    simp only [Act.put, List.setIfInBounds_toArray]
    dsimp only [List.set_cons_succ, List.set_cons_zero]
    refine take1 (i := 2) (d := some 11) (v := ?_) rfl rfl (by kernel_rfl) (by kernel_rfl) (by kernel_rfl) (fun _ _ _ h => h) (Or.inl ⟨by rfl, ?_⟩) (by assumption) ?_
    rotate_left 1
    · intro w hSw
      obtain ⟨q0, q1⟩ := hSw
      go_simp <;> with_reducible rfl
    simp only [Act.put, List.setIfInBounds_toArray]
    dsimp only [List.set_cons_succ, List.set_cons_zero]
    refine take1 (i := 3) (d := some 12) (v := ?_) rfl rfl (by kernel_rfl) (by kernel_rfl) (by kernel_rfl) (fun _ _ _ h => h) (Or.inl ⟨by rfl, ?_⟩) (by assumption) ?_
    rotate_left 1
    · intro w hSw
      obtain ⟨q0, q1⟩ := hSw
      go_simp <;> with_reducible rfl
    simp only [Act.put, List.setIfInBounds_toArray]
    dsimp only [List.set_cons_succ, List.set_cons_zero]
    refine take1 (i := 4) (d := some 13) (v := ?_) rfl rfl (by kernel_rfl) (by kernel_rfl) (by kernel_rfl) (fun _ _ _ h => h) (Or.inl ⟨by rfl, ?_⟩) (by assumption) ?_
    rotate_left 1
    · intro w hSw
      obtain ⟨q0, q1⟩ := hSw
      go_simp <;> with_reducible rfl
    simp only [Act.put, List.setIfInBounds_toArray]
    dsimp only [List.set_cons_succ, List.set_cons_zero]
    refine take1 (i := 5) (d := some 14) (v := ?_) rfl rfl (by kernel_rfl) (by kernel_rfl) (by kernel_rfl) (fun _ _ _ h => h) (Or.inl ⟨by rfl, ?_⟩) (by assumption) ?_
    rotate_left 1
    · intro w hSw
      obtain ⟨q0, q1⟩ := hSw
      go_simp <;> with_reducible rfl
    simp only [Act.put, List.setIfInBounds_toArray]
    dsimp only [List.set_cons_succ, List.set_cons_zero]
    refine take1 (i := 6) (d := some 15) (v := ?_) rfl rfl (by kernel_rfl) (by kernel_rfl) (by kernel_rfl) (fun _ _ _ h => h) (Or.inl ⟨by rfl, ?_⟩) (by assumption) ?_
    rotate_left 1
    · intro w hSw
      obtain ⟨q0, q1⟩ := hSw
      go_simp <;> with_reducible rfl
    simp only [Act.put, List.setIfInBounds_toArray]
    dsimp only [List.set_cons_succ, List.set_cons_zero]
    refine take1 (i := 7) (d := some 16) (v := ?_) rfl rfl (by kernel_rfl) (by kernel_rfl) (by kernel_rfl) (fun _ _ _ h => h) (Or.inl ⟨by rfl, ?_⟩) (by assumption) ?_
    rotate_left 1
    · intro w hSw
      obtain ⟨q0, q1⟩ := hSw
      go_simp <;> with_reducible rfl
    simp only [Act.put, List.setIfInBounds_toArray]
    dsimp only [List.set_cons_succ, List.set_cons_zero]
    refine take1 (i := 8) (d := some 17) (v := ?_) rfl rfl (by kernel_rfl) (by kernel_rfl) (by kernel_rfl) (fun _ _ _ h => h) (Or.inl ⟨by rfl, ?_⟩) (by assumption) ?_
    rotate_left 1
    · intro w hSw
      obtain ⟨q0, q1⟩ := hSw
      go_simp <;> with_reducible rfl
    simp only [Act.put, List.setIfInBounds_toArray]
    dsimp only [List.set_cons_succ, List.set_cons_zero]
    refine take1 (i := 9) (d := some 18) (v := ?_) rfl rfl (by kernel_rfl) (by kernel_rfl) (by kernel_rfl) (fun _ _ _ h => h) (Or.inl ⟨by rfl, ?_⟩) (by assumption) ?_
    rotate_left 1
    · intro w hSw
      obtain ⟨q0, q1⟩ := hSw
      go_simp <;> with_reducible rfl
    simp only [Act.put, List.setIfInBounds_toArray]
    dsimp only [List.set_cons_succ, List.set_cons_zero]
    refine take1 (i := 10) (d := some 19) (v := ?_) rfl rfl (by kernel_rfl) (by kernel_rfl) (by kernel_rfl) (fun _ _ _ h => h) (Or.inl ⟨by rfl, ?_⟩) (by assumption) ?_
    rotate_left 1
    · intro w hSw
      obtain ⟨q0, q1⟩ := hSw
      go_simp <;> with_reducible rfl
    simp only [Act.put, List.setIfInBounds_toArray]
    dsimp only [List.set_cons_succ, List.set_cons_zero]
    refine take1 (i := 11) (d := some 20) (v := ?_) rfl rfl (by kernel_rfl) (by kernel_rfl) (by kernel_rfl) (fun _ _ _ h => h) (Or.inl ⟨by rfl, ?_⟩) (by assumption) ?_
    rotate_left 1
    · intro w hSw
      obtain ⟨q0, q1⟩ := hSw
      go_simp <;> with_reducible rfl
    simp only [Act.put, List.setIfInBounds_toArray]
    dsimp only [List.set_cons_succ, List.set_cons_zero]
    refine take1 (i := 12) (d := some 21) (v := ?_) rfl rfl (by kernel_rfl) (by kernel_rfl) (by kernel_rfl) (fun _ _ _ h => h) (Or.inl ⟨by rfl, ?_⟩) (by assumption) ?_
    rotate_left 1
    · intro w hSw
      obtain ⟨q0, q1⟩ := hSw
      go_simp <;> with_reducible rfl
    simp only [Act.put, List.setIfInBounds_toArray]
    dsimp only [List.set_cons_succ, List.set_cons_zero]
    refine take1 (i := 13) (d := some 22) (v := ?_) rfl rfl (by kernel_rfl) (by kernel_rfl) (by kernel_rfl) (fun _ _ _ h => h) (Or.inl ⟨by rfl, ?_⟩) (by assumption) ?_
    rotate_left 1
    · intro w hSw
      obtain ⟨q0, q1⟩ := hSw
      go_simp <;> with_reducible rfl
    simp only [Act.put, List.setIfInBounds_toArray]
    dsimp only [List.set_cons_succ, List.set_cons_zero]
    refine take1 (i := 14) (d := some 23) (v := ?_) rfl rfl (by kernel_rfl) (by kernel_rfl) (by kernel_rfl) (fun _ _ _ h => h) (Or.inl ⟨by rfl, ?_⟩) (by assumption) ?_
    rotate_left 1
    · intro w hSw
      obtain ⟨q0, q1⟩ := hSw
      go_simp <;> with_reducible rfl
    simp only [Act.put, List.setIfInBounds_toArray]
    dsimp only [List.set_cons_succ, List.set_cons_zero]
    refine take1 (i := 15) (d := some 24) (v := ?_) rfl rfl (by kernel_rfl) (by kernel_rfl) (by kernel_rfl) (fun _ _ _ h => h) (Or.inl ⟨by rfl, ?_⟩) (by assumption) ?_
    rotate_left 1
    · intro w hSw
      obtain ⟨q0, q1⟩ := hSw
      go_simp <;> with_reducible rfl
    simp only [Act.put, List.setIfInBounds_toArray]
    dsimp only [List.set_cons_succ, List.set_cons_zero]
    refine take1 (i := 17) (d := some 26) (v := ?_) rfl rfl (by kernel_rfl) (by kernel_rfl) (by kernel_rfl) (fun _ _ _ h => h) (Or.inl ⟨by rfl, ?_⟩) (by assumption) ?_
    rotate_left 1
    · intro w hSw
      obtain ⟨q0, q1⟩ := hSw
      go_simp <;> with_reducible rfl
    simp only [Act.put, List.setIfInBounds_toArray]
    dsimp only [List.set_cons_succ, List.set_cons_zero]
    refine take1 (i := 18) (d := some 27) (v := ?_) rfl rfl (by kernel_rfl) (by kernel_rfl) (by kernel_rfl) (fun _ _ _ h => h) (Or.inl ⟨by rfl, ?_⟩) (by assumption) ?_
    rotate_left 1
    · intro w hSw
      obtain ⟨q0, q1⟩ := hSw
      go_simp <;> with_reducible rfl
    simp only [Act.put, List.setIfInBounds_toArray]
    dsimp only [List.set_cons_succ, List.set_cons_zero]
    refine take1 (i := 19) (d := some 28) (v := ?_) rfl rfl (by kernel_rfl) (by kernel_rfl) (by kernel_rfl) (fun _ _ _ h => h) (Or.inl ⟨by rfl, ?_⟩) (by assumption) ?_
    rotate_left 1
    · intro w hSw
      obtain ⟨q0, q1⟩ := hSw
      go_simp <;> with_reducible rfl
    simp only [Act.put, List.setIfInBounds_toArray]
    dsimp only [List.set_cons_succ, List.set_cons_zero]
    refine wpAnyH_ready (rs := [16]) (by kernel_rfl) (by simp) ?_
    refine AllReadyH.cons rfl (fun KK hKK => ?_) AllReadyH.nil
    go_simp
    refine (oneOf_any y _).mono ?_
    rintro e wq ⟨rfl, rfl⟩
    go_simp
    refine hKK.out _ _ (HCM.out _ BD.out) (fun hHeld2 => ?_)
    clear hKK KK hHeld
    have hHeld := hHeld2
    clear hHeld2
    refine wpAnyH_ready (rs := [20]) (by kernel_rfl) (by simp) ?_
    refine AllReadyH.cons rfl (fun KK hKK => ?_) AllReadyH.nil
    go_simp
    have BM : Hid (Below w1.heap.size U (D.alloc (.cells #[.int .i64 (k : Nat), .int .i64 (f : Nat), .int .i64 (g : Nat), .int .i64 (m : Nat), .int .i64 (i : Nat), .int .i64 (j : Nat), .int .i64 (c : Nat), .int .i64 (bi y : Nat), .int .i64 (es.length : Nat)] 3))) := BD.out.alloc (by have := BD.out.size; omega) _
    have cL : ∀ o, (D.alloc (.cells #[.int .i64 (k : Nat), .int .i64 (f : Nat), .int .i64 (g : Nat), .int .i64 (m : Nat), .int .i64 (i : Nat), .int .i64 (j : Nat), .int .i64 (c : Nat), .int .i64 (bi y : Nat), .int .i64 (es.length : Nat)] 3)).cell? ⟨D.heap.size, o, none⟩ = ([k, f, g, m, i, j, c, bi y, es.length].map (fun x => Value.int .i64 (x : Nat)))[o]? := fun o => by rw [World.cell?_alloc_at _ _ _ _ rfl]; simp
    have zL : D.heap.size < (D.alloc (.cells #[.int .i64 (k : Nat), .int .i64 (f : Nat), .int .i64 (g : Nat), .int .i64 (m : Nat), .int .i64 (i : Nat), .int .i64 (j : Nat), .int .i64 (c : Nat), .int .i64 (bi y : Nat), .int .i64 (es.length : Nat)] 3)).heap.size := by simp
    replace HL := Hid.intro (bld_kept HL.out (one_below D (.cells #[.int .i64 (k : Nat), .int .i64 (f : Nat), .int .i64 (g : Nat), .int .i64 (m : Nat), .int .i64 (i : Nat), .int .i64 (j : Nat), .int .i64 (c : Nat), .int .i64 (bi y : Nat), .int .i64 (es.length : Nat)] 3)))
    generalize D.alloc (.cells #[.int .i64 (k : Nat), .int .i64 (f : Nat), .int .i64 (g : Nat), .int .i64 (m : Nat), .int .i64 (i : Nat), .int .i64 (j : Nat), .int .i64 (c : Nat), .int .i64 (bi y : Nat), .int .i64 (es.length : Nat)] 3) = M at BM cL zL HL ⊢
    refine hKK.out _ _ (HCM.out _ BM.out) (fun hHeld2 => ?_)
    clear hKK KK hHeld
    have hHeld := hHeld2
    clear hHeld2
    refine wpAnyH_ready (rs := [21]) (by kernel_rfl) (by simp) ?_
    refine AllReadyH.cons rfl (fun KK hKK => ?_) AllReadyH.nil
    go_simp
    have hbi : bi y ≤ 1 := by cases y <;> decide
    refine (vars9_any D.heap.size M [k, f, g, m, i, j, c, bi y, es.length] rfl zL (by intro x hx; simp only [List.mem_cons, List.not_mem_nil, or_false] at hx; omega) cL).mono ?_
    rintro e E ⟨rfl, bE⟩
    have BE : Hid (Below w1.heap.size U E) := BM.out.trans (bE.mono (by have := BM.out.size; omega))
    replace HL := Hid.intro (bld_kept HL.out bE)
    clear bE cL
    have hvl : (varsL [k, f, g, m, i, j, c, bi y, es.length]).length ≤ 63 := varsL_le [k, f, g, m, i, j, c, bi y, es.length]
    have HX : Hid (varsL [k, f, g, m, i, j, c, bi y, es.length] = varsL (mNums ⟨(k : Nat), (f : Nat), (g : Nat), (m : Nat), (i : Nat), (j : Nat), (c : Nat), y, es, d⟩)) := rfl
    generalize varsL [k, f, g, m, i, j, c, bi y, es.length] = X at hvl HX ⊢
    go_simp
    refine hKK.out _ _ (HCM.out _ BE.out) (fun hHeld2 => ?_)
    clear hKK KK hHeld
    have hHeld := hHeld2
    clear hHeld2
    refine wpAnyH_ready (rs := [22]) (by kernel_rfl) (by simp) ?_
    refine AllReadyH.cons rfl (fun KK hKK => ?_) AllReadyH.nil
    go_simp
    have BF : Hid (Below w1.heap.size U (E.alloc (.cells #[.string ⟨#[109]⟩, .string ⟨X.toArray⟩] 9))) := BE.out.alloc (by have := BE.out.size; omega) _
    have hP : (E.alloc (.cells #[.string ⟨#[109]⟩, .string ⟨X.toArray⟩] 9)).heap[E.heap.size]? = some (.cells (([⟨#[109]⟩, ⟨X.toArray⟩] : List ByteArray).map Value.string).toArray 9 (0, 0)) := heap_alloc_new E _
    replace HL := Hid.intro (bld_kept HL.out (one_below E (.cells #[.string ⟨#[109]⟩, .string ⟨X.toArray⟩] 9)))
    have hE1 := BE.out.size
    generalize E.alloc (.cells #[.string ⟨#[109]⟩, .string ⟨X.toArray⟩] 9) = F at BF hP HL ⊢
    refine hKK.out _ _ (HCM.out _ BF.out) (fun hHeld2 => ?_)
    clear hKK KK hHeld
    have hHeld := hHeld2
    clear hHeld2
    refine wpAnyH_ready (rs := [23]) (by kernel_rfl) (by simp) ?_
    refine AllReadyH.cons rfl (fun KK hKK => ?_) AllReadyH.nil
    go_simp
    refine (writeParts_any w1.heap.size w1.heap.size E.heap.size 2 [] [⟨#[109]⟩, ⟨X.toArray⟩] (0, 0) F HL.out rfl (by decide) hP (by omega) (by simp [catB]; omega) (by have := BF.out.size; omega)).mono ?_
    rintro e G ⟨rfl, hl2, b2, _⟩
    have BG : Hid (Below w1.heap.size U G) := BF.out.trans b2
    have HL2 : Hid (BldAt w1.heap.size w1.heap.size (109 :: X) G) := by unfold Hid; simpa [catB] using hl2
    clear hl2 b2 hP HL
    go_simp
    refine hKK.out _ _ (HCM.out _ BG.out) (fun hHeld2 => ?_)
    clear hKK KK hHeld
    have hHeld := hHeld2
    clear hHeld2
    refine wpAnyH_done (by kernel_rfl) ?_ _
    clear hHeld
    have hzG := BG.out.size
    have qM := (HCM.out _ BG.out).1
    go_wp2_with fail
    clear qM
    go_loopw [36] (fun q wr => ∃ n : Nat, q = .int .i64 n ∧ n ≤ es.length ∧ Hid (BldAt w1.heap.size w1.heap.size (109 :: X ++ ensL (es.take n)) wr) ∧ Hid (Below w1.heap.size U wr)) (fun q _ => es.length - (intOf q).toNat)
    case atStart => exact ⟨0, rfl, Nat.zero_le _, by unfold Hid; simpa [ensL] using HL2.out, BG⟩
    case round =>
      obtain ⟨n, rfl, hn, HL, HB2⟩ := hrel
      have hzr := HB2.out.size
      by_cases hlt2 : n < es.length
      · obtain ⟨b, off, rfl, hbN, hcc⟩ := HCA.out (fun h => by rw [h] at hlt2; simp at hlt2)
        obtain ⟨p0, p1⟩ := hcc n hlt2
        have hst := ensL_snoc es n hlt2
        have hnb := HE.out es[n] (List.getElem_mem hlt2)
        have htk := ensL_le (es.take n) (fun e he => (HE.out e (List.mem_of_mem_take he)).2)
        have htl : (es.take n).length ≤ 4 := by simp; omega
        generalize es[n] = x at p0 p1 hst hnb
        obtain ⟨t, xd⟩ := x
        obtain ⟨⟨t0, t1⟩, hxd⟩ := hnb
        simp only at t0 t1 hxd p0 p1
        obtain ⟨t, rfl⟩ := Int.eq_ofNat_of_zero_le t0
        have HSN : Hid (ensL (es.take n) ++ (varL t ++ (varL xd.size ++ xd.data.toList)) = ensL (es.take (n + 1))) := by
          unfold Hid
          simpa [enL] using hst
        replace p0 := atCell (BBU.out.trans HB2.out) p0 (by omega)
        replace p1 := atCell (BBU.out.trans HB2.out) p1 (by omega)
        have hjl : (n : Int) < (es.length : Int) := by omega
        have i1' : (0 : Int) ≤ (n : Int) ∧ (n : Int) < (es.length : Int) := by omega
        clear hst hcc t0
        go_upto_region 8 with fail
        obtain ⟨Y, hY, bY, zY, cY, fY⟩ := boxed wr #[.int .i64 (t : Nat), .string xd] 49
        simp only [hY]
        have HY : Hid (Y.heap[wr.heap.size]? = some (.cells #[.int .i64 (t : Nat), .string xd] 49 (0, 0))) := by
          unfold Hid
          rw [← hY]
          exact heap_alloc_new wr _
        have hne : wr.heap.size ≠ w1.heap.size := by omega
        replace HL := Hid.intro (bld_kept HL.out bY)
        replace HB2 := Hid.intro (HB2.out.trans (bY.mono (by omega)))
        clear hY bY fY cY p0 p1
        refine wp_region_held_drew (S := fun sw => (∀ o, sw.cell? ⟨wr.heap.size, o, none⟩ = (#[.int .i64 (t : Nat), .string xd] : Array Value)[o]?) ∧ True) (by kernel_rfl) ⟨cells_at (hy_keep HY.out (Below.refl _ _).drew), trivial⟩ (fun hHeld => ?_)
        replace HB2 := Hid.intro (HB2.out.drew)
        replace HL := Hid.intro (bld_kept HL.out (Below.refl _ _).drew)
        replace HY := Hid.intro (hy_keep HY.out (Below.refl _ _).drew)
        have zD : wr.heap.size < Y.drew.heap.size := heap_lt HY.out
        generalize Y.drew = D at HB2 hHeld HL HY zD ⊢
        refine take1 (i := 0) (d := some 40) (v := ?_) rfl rfl (by kernel_rfl) (by kernel_rfl) (by kernel_rfl) (fun _ _ _ h => h) (Or.inl ⟨by rfl, ?_⟩) (by assumption) ?_
        rotate_left 1
        · intro w hSw
          obtain ⟨q0, q1⟩ := hSw
          go_simp <;> with_reducible rfl
        simp only [Act.put, List.setIfInBounds_toArray]
        dsimp only [List.set_cons_succ, List.set_cons_zero]
        refine take1 (i := 1) (d := some 41) (v := ?_) rfl rfl (by kernel_rfl) (by kernel_rfl) (by kernel_rfl) (fun _ _ _ h => h) (Or.inl ⟨by rfl, ?_⟩) (by assumption) ?_
        rotate_left 1
        · intro w hSw
          obtain ⟨q0, q1⟩ := hSw
          go_simp <;> with_reducible rfl
        simp only [Act.put, List.setIfInBounds_toArray]
        dsimp only [List.set_cons_succ, List.set_cons_zero]
        refine take1 (i := 3) (d := some 43) (v := ?_) rfl rfl (by kernel_rfl) (by kernel_rfl) (by kernel_rfl) (fun _ _ _ h => h) (Or.inl ⟨by rfl, ?_⟩) (by assumption) ?_
        rotate_left 1
        · intro w hSw
          obtain ⟨q0, q1⟩ := hSw
          go_simp <;> with_reducible rfl
        simp only [Act.put, List.setIfInBounds_toArray]
        dsimp only [List.set_cons_succ, List.set_cons_zero]
        refine take1 (i := 4) (d := some 44) (v := ?_) rfl rfl (by kernel_rfl) (by kernel_rfl) (by kernel_rfl) (fun _ _ _ h => h) (Or.inl ⟨by rfl, ?_⟩) (by assumption) ?_
        rotate_left 1
        · intro w hSw
          obtain ⟨q0, q1⟩ := hSw
          go_simp <;> with_reducible rfl
        simp only [Act.put, List.setIfInBounds_toArray]
        dsimp only [List.set_cons_succ, List.set_cons_zero]
        refine wpAnyH_ready (rs := [2]) (by kernel_rfl) (by simp) ?_
        refine AllReadyH.cons rfl (fun KK hKK => ?_) AllReadyH.nil
        go_simp
        refine (implVar_yes t _ (by omega)).mono ?_
        rintro e E1 ⟨rfl, b9⟩
        replace HB2 := Hid.intro (HB2.out.trans (b9.mono (by omega)))
        replace HL := Hid.intro (bld_kept HL.out b9)
        replace HY := Hid.intro (hy_keep HY.out b9)
        have zE : wr.heap.size < E1.heap.size := heap_lt HY.out
        clear b9
        go_simp
        refine hKK.out _ _ ⟨cells_at HY.out, trivial⟩ (fun hHeld2 => ?_)
        clear hKK KK hHeld
        have hHeld := hHeld2
        clear hHeld2
        refine wpAnyH_ready (rs := [5]) (by kernel_rfl) (by simp) ?_
        refine AllReadyH.cons rfl (fun KK hKK => ?_) AllReadyH.nil
        go_simp
        refine (implPiece_any xd _ (by omega)).mono ?_
        rintro e E2 ⟨rfl, b9⟩
        replace HB2 := Hid.intro (HB2.out.trans (b9.mono (by omega)))
        replace HL := Hid.intro (bld_kept HL.out b9)
        replace HY := Hid.intro (hy_keep HY.out b9)
        have zE2 : wr.heap.size < E2.heap.size := heap_lt HY.out
        clear b9
        go_simp
        refine hKK.out _ _ ⟨cells_at HY.out, trivial⟩ (fun hHeld2 => ?_)
        clear hKK KK hHeld
        have hHeld := hHeld2
        clear hHeld2
        refine wpAnyH_ready (rs := [6]) (by kernel_rfl) (by simp) ?_
        refine AllReadyH.cons rfl (fun KK hKK => ?_) AllReadyH.nil
        go_simp
        have hP : (E2.alloc (.cells #[.string (varS t), .string (piece xd)] 9)).heap[E2.heap.size]? = some (.cells (([varS t, piece xd] : List ByteArray).map Value.string).toArray 9 (0, 0)) := heap_alloc_new E2 _
        replace HB2 := Hid.intro (HB2.out.alloc (by omega) (.cells #[.string (varS t), .string (piece xd)] 9))
        replace HL := Hid.intro (bld_kept HL.out (one_below E2 (.cells #[.string (varS t), .string (piece xd)] 9)))
        replace HY := Hid.intro (hy_keep HY.out (one_below E2 (.cells #[.string (varS t), .string (piece xd)] 9)))
        have zE3 : E2.heap.size < (E2.alloc (.cells #[.string (varS t), .string (piece xd)] 9)).heap.size := by simp
        generalize E2.alloc (.cells #[.string (varS t), .string (piece xd)] 9) = E3 at HB2 hP HL HY zE3 ⊢
        refine hKK.out _ _ ⟨cells_at HY.out, trivial⟩ (fun hHeld2 => ?_)
        clear hKK KK hHeld
        have hHeld := hHeld2
        clear hHeld2
        refine wpAnyH_ready (rs := [7]) (by kernel_rfl) (by simp) ?_
        refine AllReadyH.cons rfl (fun KK hKK => ?_) AllReadyH.nil
        go_simp
        have hct : catB [varS t, piece xd] = varL t ++ (varL xd.size ++ xd.data.toList) := by
          simp only [catB, List.flatMap_cons, List.flatMap_nil, List.append_nil]
          rw [piece, ba_appE]
          rfl
        have hsz : (catB [varS t, piece xd]).length ≤ 1700 := by
          have a1 := varL_le t
          have a2 := varL_le xd.size
          have a3 : xd.data.toList.length = xd.size := by simp
          rw [hct]
          simp only [List.length_append]
          omega
        refine (writeParts_any w1.heap.size w1.heap.size E2.heap.size 2 _ [varS t, piece xd] (0, 0) E3 HL.out rfl (by decide) hP (by omega) (by simp only [List.cons_append, List.length_cons, List.length_append]; omega) (by omega)).mono ?_
        rintro e E4 ⟨rfl, hl2, b2, hk8⟩
        replace HB2 := Hid.intro (HB2.out.trans b2)
        replace HY := Hid.intro (hk8 _ _ _ _ hne (by decide) HY.out)
        have HL4 : Hid (BldAt w1.heap.size w1.heap.size (109 :: X ++ ensL (es.take (n + 1))) E4) := by
          rw [hct, List.append_assoc, HSN.out] at hl2
          exact hl2
        clear hl2 b2 hk8 hP HL hsz hct HSN
        go_simp
        refine hKK.out _ _ ⟨cells_at HY.out, trivial⟩ (fun hHeld2 => ?_)
        clear hKK KK hHeld
        have hHeld := hHeld2
        clear hHeld2
        refine wpAnyH_done (by kernel_rfl) ?_ _
        clear hHeld
        go_wp2
        go_roundw
        case rel => exact ⟨n + 1, by go_num, by omega, HL4, HB2⟩
        case measure => simp [intOf]; omega
      · obtain rfl : n = es.length := by omega
        rw [List.take_length] at HL
        have qM := (HCM.out _ HB2.out).1
        have hel := ensL_le es (fun e he => (HE.out e he).2)
        go_wp2_with fail
        clear qM
        have hP : (wr.alloc (.cells #[.string d] 9)).heap[wr.heap.size]? = some (.cells (([d] : List ByteArray).map Value.string).toArray 9 (0, 0)) := heap_alloc_new wr _
        replace HB2 := Hid.intro (HB2.out.alloc (by omega) (.cells #[.string d] 9))
        replace HL := Hid.intro (bld_kept HL.out (one_below wr (.cells #[.string d] 9)))
        have zE3 : wr.heap.size < (wr.alloc (.cells #[.string d] 9)).heap.size := by simp
        generalize wr.alloc (.cells #[.string d] 9) = E3 at HB2 hP HL zE3 ⊢
        have hct : catB [d] = d.data.toList := by simp [catB]
        have hdl : d.data.toList.length = d.size := by simp
        refine (writeParts_any w1.heap.size w1.heap.size wr.heap.size 1 _ [d] (0, 0) E3 HL.out rfl (by decide) hP (by omega) (by rw [hct]; simp only [List.cons_append, List.length_cons, List.length_append]; omega) (by omega)).mono ?_
        rintro e E4 ⟨rfl, hl2, b2, _⟩
        replace HB2 := Hid.intro (HB2.out.trans b2)
        rw [hct] at hl2
        have HL4 := Hid.intro hl2
        have zE4 := b2.size
        clear hl2 b2 hP HL
        go_wp2_with fail
        refine (bldString_any w1.heap.size w1.heap.size _ _ HL4.out (by omega)).mono ?_
        rintro e E5 ⟨rfl, b5⟩
        have HBE : Hid (Below w.heap.size w E5) := (BW.out.trans ((BBU.out.trans (HB2.out.trans b5)).mono (by omega)))
        clear b5
        go_wp2
        go_ret
        refine ⟨ret_str ?_, HBE.out⟩
        have hx := HX.out
        rw [hx]
        simp only [msgL]
end Go.Proofs.Ytdnngbdkmdphoaa
