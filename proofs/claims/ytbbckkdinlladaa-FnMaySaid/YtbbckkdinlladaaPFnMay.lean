/- FnMay. -/
import Derived.Test.YtbbckkdinlladaaPDrawM
import Derived.Test.YtbbckkdinlladaaPMayS
import Derived.Test.YtbbckkdinlladaaPVar
import Derived.Deep.RegionHeld3
import Derived.Deep.Cut
namespace Go.Proofs.Ytbbckkdinlladaa
open Go.RowKit
set_option linter.unusedVariables false
theorem mul_and8 : (List.range 8).all (fun x => (List.range 8).all fun y => (((1 * x) &&& (1 * y)) == 1 * (x &&& y)) && (((8 * x) &&& (8 * y)) == 8 * (x &&& y)) && (((64 * x) &&& (64 * y)) == 64 * (x &&& y)) && (((x &&& y) != x) || (x % 2 == 0) || (y % 2 == 1))) = true := by kernel_rfl
theorem mul_and (f x y : Nat) (hf : f = 1 ∨ f = 8 ∨ f = 64) (hx : x < 8) (hy : y < 8) : (f * x) &&& (f * y) = f * (x &&& y) := by
  have h := List.all_eq_true.1 (List.all_eq_true.1 mul_and8 x (by simpa using hx)) y (by simpa using hy)
  simp only [Bool.and_eq_true, beq_iff_eq] at h
  rcases hf with rfl | rfl | rfl
  · exact h.1.1.1
  · exact h.1.1.2
  · exact h.1.2
theorem odd_of (x y : Nat) (hx : x < 8) (hy : y < 8) (h : x &&& y = x) (h2 : y % 2 = 0) : x % 2 = 0 := by
  have h' := List.all_eq_true.1 (List.all_eq_true.1 mul_and8 x (by simpa using hx)) y (by simpa using hy)
  simp only [Bool.and_eq_true, Bool.or_eq_true, beq_iff_eq, bne_iff_ne] at h'
  rcases h'.2 with (h3 | h3) | h3
  · exact absurd h h3
  · exact h3
  · omega
theorem bitB_mono (f : Nat) (m : Int) (x y : Nat) (hf : f = 1 ∨ f = 8 ∨ f = 64) (hx : x < 8) (hy : y < 8) (hxy : x &&& y = x) (h : bitB (f : Int) m (y : Int) = true) : bitB (f : Int) m (x : Int) = true := by
  rw [bitB_nat f m y hf hy, beq_iff_eq] at h
  rw [bitB_nat f m x hf hx, beq_iff_eq]
  have e : f * x = (f * y) &&& (f * x) := by rw [Nat.and_comm, mul_and f x y hf hx hy, hxy]
  rw [e, ← Nat.and_assoc, h]
theorem fromB_nat (c : Cr) (uid gid : Int) : ∃ f : Nat, fromB c uid gid = (f : Int) ∧ (f = 1 ∨ f = 8 ∨ f = 64) := by
  rcases from_three c uid gid with h | h | h
  · exact ⟨1, h, .inl rfl⟩
  · exact ⟨8, h, .inr (.inl rfl)⟩
  · exact ⟨64, h, .inr (.inr rfl)⟩
theorem mayB_mono (c : Cr) (n : Nd) (want x : Int) (h : mayB c n want = true) (h0 : 0 ≤ x) (h7 : x ≤ 7) (hb : (bits .and .i64 x want == x) = true) : mayB c n x = true := by
  unfold mayB at h ⊢
  simp only [Bool.and_eq_true] at h ⊢
  obtain ⟨⟨hc, hw⟩, h⟩ := h
  obtain ⟨w0, w7⟩ := inB_of hw
  refine ⟨⟨hc, inB_true ⟨h0, h7⟩⟩, ?_⟩
  obtain ⟨a, rfl⟩ := Int.eq_ofNat_of_zero_le h0
  obtain ⟨b, rfl⟩ := Int.eq_ofNat_of_zero_le w0
  have hab : a &&& b = a := by
    have := bitsLow (a : Int) b (by omega)
    rw [beq_iff_eq, this, show ((a : Int) % 1024).toNat = a by omega] at hb
    exact_mod_cast hb
  split at h
  · rename_i hu
    rw [if_pos hu]
    unfold rootB at h ⊢
    simp only [Bool.or_eq_true, decide_eq_true_eq] at h ⊢
    rcases h with (h | h) | h
    · left; left
      have := odd_of a b (by omega) (by omega) hab (by omega)
      omega
    · exact .inl (.inr h)
    · exact .inr h
  · rename_i hu
    rw [if_neg hu]
    obtain ⟨f, hf, hf3⟩ := fromB_nat c n.uid n.gid
    rw [hf] at h ⊢
    exact bitB_mono f n.mode a b hf3 (by omega) (by omega) hab h
theorem mayB_zero (c : Cr) (n : Nd) (hc : credB c = true) : mayB c n 0 = true := by
  unfold mayB
  rw [hc, show inB 0 0 7 = true from rfl]
  simp only [Bool.true_and]
  split
  · simp [rootB]
  · obtain ⟨f, hf, hf3⟩ := fromB_nat c n.uid n.gid
    rw [hf]
    have := bitB_nat f n.mode 0 hf3 (by omega)
    rw [show ((0 : Nat) : Int) = 0 from rfl] at this
    rw [this]
    simp
theorem mayB_root6 (n : Nd) : mayB ⟨0, 0, []⟩ n 6 = true := by simp [mayB, credB, uidB, inB, rootB]
theorem mayB_root7 (n : Nd) (h : n.kind ≠ 1) : mayB ⟨0, 0, []⟩ n 7 = true := by simp [mayB, credB, uidB, inB, rootB, h]
theorem mayB_own (c : Cr) (n : Nd) (want : Int) (hc : credB c = true) (h0 : 0 ≤ want) (h7 : want ≤ 7) (hu : c.u ≠ 0) (hn : c.u = n.uid) : (bits .and .i64 (bits .and .i64 (n.mode / 64) 7) want == want) = mayB c n want := by
  rw [bitB64 _ _ h0 h7]
  unfold mayB
  rw [hc, inB_true ⟨h0, h7⟩, if_neg hu, fromB, if_pos hn]
  simp
theorem root_any (w : World) : Calls Try.prog 12 #[] w fun e w' => e = .returned (crV ⟨0, 0, []⟩ (.slice none 0 0)) ∧ Below w.heap.size w w' := by
  go_enter Try.func12, Try.ntmps12
  go_wp2
  exact bodyPost_ret (v := crV ⟨0, 0, []⟩ (.slice none 0 0)) (by simp [results, Try.results12, go_sem]) rfl ⟨rfl, by first | exact one_below _ _ | exact Below.refl _ _⟩
theorem big_no (a : Option Addr) (len cap : Nat) (w : World) (hl : (len : Int) ≤ 1048576) :
    Calls Try.prog 8 #[.slice a len cap] w fun e w' => e = .returned (.bool false) ∧ w = w' := by
  go_enter Try.func8, Try.ntmps8
  go_wp2
  go_ret
  exact ⟨by first | (simp; done) | (simp; omega), rfl⟩
theorem big_yes (a : Option Addr) (len cap : Nat) (w : World) (hl : ¬ (len : Int) ≤ 1048576) (hm : len ≤ 9223372036854775807) :
    Calls Try.prog 8 #[.slice a len cap] w fun e w' => e = .returned (.bool true) ∧ w = w' := by
  go_enter Try.func8, Try.ntmps8
  go_wp2
  go_ret
  exact ⟨by first | (simp; done) | (simp; omega), rfl⟩
set_option maxRecDepth 100000 in
set_option maxHeartbeats 4000000 in
theorem fnMay_law (zs : List Int) (len cap : Nat) (a : Option Addr) (w : World) (hm : len ≤ 9223372036854775807) (hr : RowOk w w.heap.size a len zs) :
    Calls Try.prog 3 #[.slice a len cap] w fun e w' => e = .returned (.bool true) ∧ Below w.heap.size w w' := by
  have HR := Hid.intro hr
  clear hr
  by_cases hl : (len : Int) ≤ 1048576
  · go_enter Try.func3, Try.ntmps3
    go_wp2_with (go_at_call 8; refine (big_no _ _ _ _ hl).mono ?_; rintro e w' ⟨rfl, rfl⟩)
    refine (drawMay_any zs len w.heap.size cap a w (by omega) (Nat.le_refl _) HR.out).mono ?_
    rintro e w1 ⟨c, v, n, x, rfl, r1, hnn, x0, x8, b1⟩
    obtain ⟨av, cv, rfl, _, _⟩ := r1.slice
    have HB := Hid.intro b1
    have HRR := Hid.intro r1
    clear b1 r1 HR
    go_upto_region 4 with fail
    obtain ⟨U, hU, bU, zU, k1, f1, k2, f2⟩ := boxed2 w1 #[.int .i64 c.u, .int .i64 c.g, .slice av c.l.length cv] (ndA n (.slice none 0 0)) 26 29
    try simp only [hU]
    have HV : Hid (VC U w1.heap.size c (.slice av c.l.length cv)) := ⟨by omega, k1, HRR.out.on bU⟩
    have HI : Hid (Blk U (w1.heap.size + 1) (ndA n (.slice none 0 0))) := ⟨by omega, k2, f2⟩
    replace HB := Hid.intro (HB.out.trans (bU.mono HB.out.size))
    clear hU bU zU k1 f1 k2 f2 HRR
    generalize hb1 : w1.heap.size = b1 at *
    generalize hb2 : b1 + 1 = b2 at *
    clear hb1 hb2
    have kv := HV.out.cell
    have ki := HI.out.cell
    go_wp2_with fail
    refine (implMay_any c _ _ n x U.heap.size U (Nat.le_refl _) HV.out.row).mono ?_
    rintro e w2 ⟨rfl, b2_⟩
    replace HV := Hid.intro (HV.out.kept b2_)
    replace HI := Hid.intro (HI.out.kept b2_)
    replace HB := Hid.intro (HB.out.trans (b2_.mono HB.out.size))
    clear b2_ kv ki
    by_cases hx0 : x < 0
    · have hf : mayB c n x = false := by simp [mayB, inB_false (show ¬ (0 ≤ x ∧ x ≤ 7) by omega)]
      rw [hf]
      go_wp2
      go_ret
      exact ⟨rfl, HB.out⟩
    · by_cases hx7 : 7 < x
      · have hf : mayB c n x = false := by simp [mayB, inB_false (show ¬ (0 ≤ x ∧ x ≤ 7) by omega)]
        rw [hf]
        go_wp2
        go_ret
        exact ⟨rfl, HB.out⟩
      · have kv := HV.out.cell
        go_wp2_with fail
        refine (specCredOk_any c _ w2.heap.size w2 (Nat.le_refl _) HV.out.row).mono ?_
        rintro e w3 ⟨rfl, b3⟩
        replace HV := Hid.intro (HV.out.kept b3)
        replace HI := Hid.intro (HI.out.kept b3)
        replace HB := Hid.intro (HB.out.trans (b3.mono HB.out.size))
        clear b3 kv
        cases hc : credB c with
        | false =>
          have hf : mayB c n x = false := by simp [mayB, hc]
          rw [hf]
          go_wp2
          go_ret
          exact ⟨rfl, HB.out⟩
        | true =>
          go_wp2
          go_loopw [7] (fun i wr => ∃ (j : Nat), i = .int .i64 j ∧ j ≤ 8 ∧ Hid (VC wr b1 c (.slice av c.l.length cv)) ∧ Hid (Blk wr b2 (ndA n (.slice none 0 0))) ∧ Hid (Below w.heap.size w wr)) (fun i _ => 8 - (intOf i).toNat)
          case atStart => exact ⟨0, rfl, by omega, HV, HI, HB⟩
          case round =>
            clear HV HI HB
            obtain ⟨j, rfl, hj, HV, HI, HB⟩ := hrel
            by_cases hlt : (j : Int) < 8
            · cases his : mayB c n x with
              | false =>
                go_wp2
                go_roundw
                case rel => exact ⟨j + 1, by go_num, by omega, HV, HI, HB⟩
                case measure => simp [intOf]; omega
              | true =>
                cases hbb : (bits .and .i64 (j : Int) x == (j : Int)) with
                | false =>
                  go_wp2
                  go_roundw
                  case rel => exact ⟨j + 1, by go_num, by omega, HV, HI, HB⟩
                  case measure => simp [intOf]; omega
                | true =>
                  have hmj := mayB_mono c n x j his (by omega) (by omega) hbb
                  have kv := HV.out.cell
                  have ki := HI.out.cell
                  have HMJ := Hid.intro hmj
                  clear hmj
                  go_wp2_with fail
                  refine (implMay_any c _ _ n j wr.heap.size wr (Nat.le_refl _) HV.out.row).mono ?_
                  rintro e w4 ⟨rfl, b4⟩
                  replace HV := Hid.intro (HV.out.kept b4)
                  replace HI := Hid.intro (HI.out.kept b4)
                  replace HB := Hid.intro (HB.out.trans (b4.mono HB.out.size))
                  clear b4 kv ki
                  rw [HMJ.out]
                  go_wp2
                  go_roundw
                  case rel => exact ⟨j + 1, by go_num, by omega, HV, HI, HB⟩
                  case measure => simp [intOf]; omega
            · obtain rfl : j = 8 := by omega
              clear hlt
              obtain ⟨cur, hcur⟩ : ∃ cur, cur = wr := ⟨_, rfl⟩
              subst hcur
              have kv := HV.out.cell
              have ki := HI.out.cell
              have HS : Hid (∀ u', Below cur.heap.size cur u' → (fun u => (∀ o, u.cell? ⟨b1, o, none⟩ = (#[.int .i64 c.u, .int .i64 c.g, .slice av c.l.length cv] : Array Value)[o]?) ∧ (∀ o, u.cell? ⟨b2, o, none⟩ = (ndA n (.slice none 0 0))[o]?)) u') := fun u' hb => ⟨(HV.out.kept hb).cell, (HI.out.kept hb).cell⟩
              by_cases hun : c.u = n.uid
              · have hb1 : (c.u == n.uid) = true := by simpa using hun
                by_cases hu0 : c.u = 0
                · have hb2 : (c.u == 0) = true := by simpa using hu0
                  have hb3 : (c.u != 0) = false := by simp [hu0]
                  clear hun hu0
                  go_upto_region 14 with fail
                  clear kv ki
                  by_cases hk : n.kind = 1
                  · have hkb : (n.kind == 1) = true := by simpa using hk
                    clear hk
                    refine wp_region_held_drew (S := fun u => (∀ o, u.cell? ⟨b1, o, none⟩ = (#[.int .i64 c.u, .int .i64 c.g, .slice av c.l.length cv] : Array Value)[o]?) ∧ (∀ o, u.cell? ⟨b2, o, none⟩ = (ndA n (.slice none 0 0))[o]?)) (by kernel_rfl) (HS.out _ (Below.refl _ _).drew) (fun hHeld => ?_)
                    have BD : Below cur.heap.size cur cur.drew := (Below.refl _ _).drew
                    generalize cur.drew = D at BD hHeld ⊢
                    refine take1 (i := 1) (d := some 75) (v := ?_) rfl rfl (by kernel_rfl) (by kernel_rfl) (by kernel_rfl) (fun _ _ _ h => h) (Or.inl ⟨by rfl, ?_⟩) (by assumption) ?_
                    rotate_left 1
                    · intro w hSw
                      obtain ⟨q0, q1⟩ := hSw
                      go_simp <;> with_reducible rfl
                    simp only [Act.put, List.setIfInBounds_toArray]
                    try simp only [List.set_cons_succ]
                    try simp only [List.set_cons_zero]
                    refine wpAnyH_ready (rs := [0]) (by kernel_rfl) (by simp) ?_
                    refine AllReadyH.cons rfl (fun KK hKK => ?_) AllReadyH.nil
                    go_simp
                    refine (root_any D).mono ?_
                    rintro e y0 ⟨rfl, by0⟩
                    have By0 : Below cur.heap.size cur y0 := BD.trans (by0.mono BD.size)
                    clear by0
                    go_simp
                    refine hKK.out _ _ (HS.out _ By0) (fun hHeld2 => ?_)
                    clear hKK KK hHeld
                    have hHeld := hHeld2
                    clear hHeld2
                    refine wpAnyH_ready (rs := [2]) (by kernel_rfl) (by simp) ?_
                    refine AllReadyH.cons rfl (fun KK hKK => ?_) AllReadyH.nil
                    go_simp
                    refine (implMay_any ⟨0, 0, []⟩ (.slice none 0 0) (.slice none 0 0) n 6 y0.heap.size y0 (Nat.le_refl _) Row.nil).mono ?_
                    rintro e y1 ⟨rfl, by1⟩
                    rw [mayB_root6 n]
                    have By1 : Below cur.heap.size cur y1 := By0.trans (by1.mono By0.size)
                    clear by1
                    go_simp
                    refine hKK.out _ _ (HS.out _ By1) (fun hHeld2 => ?_)
                    clear hKK KK hHeld
                    have hHeld := hHeld2
                    clear hHeld2
                    refine take1 (i := 3) (d := some 77) (v := ?_) rfl rfl (by kernel_rfl) (by kernel_rfl) (by kernel_rfl) (fun _ _ _ h => h) (Or.inl ⟨by rfl, ?_⟩) (by assumption) ?_
                    rotate_left 1
                    · intro w hSw
                      obtain ⟨q0, q1⟩ := hSw
                      go_simp <;> with_reducible rfl
                    simp only [Act.put, List.setIfInBounds_toArray]
                    try simp only [List.set_cons_succ]
                    try simp only [List.set_cons_zero]
                    refine take1 (i := 4) (d := some 78) (v := ?_) rfl rfl (by kernel_rfl) (by kernel_rfl) (by kernel_rfl) (fun _ _ _ h => h) (Or.inl ⟨by rfl, ?_⟩) (by assumption) ?_
                    rotate_left 1
                    · intro w hSw
                      obtain ⟨q0, q1⟩ := hSw
                      go_simp <;> with_reducible rfl
                    simp only [Act.put, List.setIfInBounds_toArray]
                    try simp only [List.set_cons_succ]
                    try simp only [List.set_cons_zero]
                    refine take1 (i := 5) (d := some 79) (v := ?_) rfl rfl (by kernel_rfl) (by kernel_rfl) (by kernel_rfl) (fun _ _ _ h => h) (Or.inl ⟨by rfl, ?_⟩) (by assumption) ?_
                    rotate_left 1
                    · intro w hSw
                      obtain ⟨q0, q1⟩ := hSw
                      go_simp <;> with_reducible rfl
                    simp only [Act.put, List.setIfInBounds_toArray]
                    try simp only [List.set_cons_succ]
                    try simp only [List.set_cons_zero]
                    refine take1 (i := 6) (d := some 80) (v := ?_) rfl rfl (by kernel_rfl) (by kernel_rfl) (by kernel_rfl) (fun _ _ _ h => h) (Or.inl ⟨by rfl, ?_⟩) (by assumption) ?_
                    rotate_left 1
                    · intro w hSw
                      obtain ⟨q0, q1⟩ := hSw
                      go_simp <;> with_reducible rfl
                    simp only [Act.put, List.setIfInBounds_toArray]
                    try simp only [List.set_cons_succ]
                    try simp only [List.set_cons_zero]
                    refine take1 (i := 7) (d := some 81) (v := ?_) rfl rfl (by kernel_rfl) (by kernel_rfl) (by kernel_rfl) (fun _ _ _ h => h) (Or.inl ⟨by rfl, ?_⟩) (by assumption) ?_
                    rotate_left 1
                    · intro w hSw
                      obtain ⟨q0, q1⟩ := hSw
                      go_simp <;> with_reducible rfl
                    simp only [Act.put, List.setIfInBounds_toArray]
                    try simp only [List.set_cons_succ]
                    try simp only [List.set_cons_zero]
                    refine take1 (i := 8) (d := some 82) (v := undef) rfl rfl (by kernel_rfl) (by kernel_rfl) (by kernel_rfl) (fun _ _ _ h => h) (Or.inr ⟨by rfl, rfl⟩) (by assumption) ?_
                    simp only [Act.put, List.setIfInBounds_toArray]
                    try simp only [List.set_cons_succ]
                    try simp only [List.set_cons_zero]
                    refine take1 (i := 9) (d := some 83) (v := undef) rfl rfl (by kernel_rfl) (by kernel_rfl) (by kernel_rfl) (fun _ _ _ h => h) (Or.inr ⟨by rfl, rfl⟩) (by assumption) ?_
                    simp only [Act.put, List.setIfInBounds_toArray]
                    try simp only [List.set_cons_succ]
                    try simp only [List.set_cons_zero]
                    refine take1 (i := 10) (d := some 84) (v := undef) rfl rfl (by kernel_rfl) (by kernel_rfl) (by kernel_rfl) (fun _ _ _ h => h) (Or.inr ⟨by rfl, rfl⟩) (by assumption) ?_
                    simp only [Act.put, List.setIfInBounds_toArray]
                    try simp only [List.set_cons_succ]
                    try simp only [List.set_cons_zero]
                    refine take1 (i := 11) (d := some 85) (v := ?_) rfl rfl (by kernel_rfl) (by kernel_rfl) (by kernel_rfl) (fun _ _ _ h => h) (Or.inl ⟨by rfl, ?_⟩) (by assumption) ?_
                    rotate_left 1
                    · intro w hSw
                      obtain ⟨q0, q1⟩ := hSw
                      go_simp <;> with_reducible rfl
                    simp only [Act.put, List.setIfInBounds_toArray]
                    try simp only [List.set_cons_succ]
                    try simp only [List.set_cons_zero]
                    refine take1 (i := 12) (d := some 86) (v := ?_) rfl rfl (by kernel_rfl) (by kernel_rfl) (by kernel_rfl) (fun _ _ _ h => h) (Or.inl ⟨by rfl, ?_⟩) (by assumption) ?_
                    rotate_left 1
                    · intro w hSw
                      obtain ⟨q0, q1⟩ := hSw
                      go_simp <;> with_reducible rfl
                    simp only [Act.put, List.setIfInBounds_toArray]
                    try simp only [List.set_cons_succ]
                    try simp only [List.set_cons_zero]
                    refine take1 (i := 13) (d := some 87) (v := ?_) rfl rfl (by kernel_rfl) (by kernel_rfl) (by kernel_rfl) (fun _ _ _ h => h) (Or.inl ⟨by rfl, ?_⟩) (by assumption) ?_
                    rotate_left 1
                    · intro w hSw
                      obtain ⟨q0, q1⟩ := hSw
                      go_simp <;> with_reducible rfl
                    simp only [Act.put, List.setIfInBounds_toArray]
                    try simp only [List.set_cons_succ]
                    try simp only [List.set_cons_zero]
                    refine take1 (i := 14) (d := some 88) (v := ?_) rfl rfl (by kernel_rfl) (by kernel_rfl) (by kernel_rfl) (fun _ _ _ h => h) (Or.inl ⟨by rfl, ?_⟩) (by assumption) ?_
                    rotate_left 1
                    · intro w hSw
                      obtain ⟨q0, q1⟩ := hSw
                      go_simp <;> with_reducible rfl
                    simp only [Act.put, List.setIfInBounds_toArray]
                    try simp only [List.set_cons_succ]
                    try simp only [List.set_cons_zero]
                    refine take1 (i := 15) (d := some 89) (v := ?_) rfl rfl (by kernel_rfl) (by kernel_rfl) (by kernel_rfl) (fun _ _ _ h => h) (Or.inl ⟨by rfl, ?_⟩) (by assumption) ?_
                    rotate_left 1
                    · intro w hSw
                      obtain ⟨q0, q1⟩ := hSw
                      go_simp <;> with_reducible rfl
                    simp only [Act.put, List.setIfInBounds_toArray]
                    try simp only [List.set_cons_succ]
                    try simp only [List.set_cons_zero]
                    refine wpAnyH_ready (rs := [16]) (by kernel_rfl) (by simp) ?_
                    refine AllReadyH.cons rfl (fun KK hKK => ?_) AllReadyH.nil
                    go_simp
                    refine (implMay_any c (.slice av c.l.length cv) (.slice none 0 0) n 0 y1.heap.size y1 (Nat.le_refl _) (HV.out.kept By1).row).mono ?_
                    rintro e y4 ⟨rfl, by4⟩
                    rw [mayB_zero c n hc]
                    have By4 : Below cur.heap.size cur y4 := By1.trans (by4.mono By1.size)
                    clear by4
                    go_simp
                    refine hKK.out _ _ (HS.out _ By4) (fun hHeld2 => ?_)
                    clear hKK KK hHeld
                    have hHeld := hHeld2
                    clear hHeld2
                    refine take1 (i := 17) (d := some 91) (v := ?_) rfl rfl (by kernel_rfl) (by kernel_rfl) (by kernel_rfl) (fun _ _ _ h => h) (Or.inl ⟨by rfl, ?_⟩) (by assumption) ?_
                    rotate_left 1
                    · intro w hSw
                      obtain ⟨q0, q1⟩ := hSw
                      go_simp <;> with_reducible rfl
                    simp only [Act.put, List.setIfInBounds_toArray]
                    try simp only [List.set_cons_succ]
                    try simp only [List.set_cons_zero]
                    refine take1 (i := 18) (d := some 2) (v := ?_) rfl rfl (by kernel_rfl) (by kernel_rfl) (by kernel_rfl) (fun _ _ _ h => h) (Or.inl ⟨by rfl, ?_⟩) (by assumption) ?_
                    rotate_left 1
                    · intro w hSw
                      obtain ⟨q0, q1⟩ := hSw
                      go_simp <;> with_reducible rfl
                    simp only [Act.put, List.setIfInBounds_toArray]
                    try simp only [List.set_cons_succ]
                    try simp only [List.set_cons_zero]
                    refine wpAnyH_done (by kernel_rfl) ?_ _
                    clear hHeld HS
                    go_wp2
                    go_ret
                    exact ⟨rfl, HB.out.trans (By4.mono HB.out.size)⟩
                  · have hkb : (n.kind == 1) = false := by simpa using hk
                    have HK := Hid.intro hk
                    clear hk
                    refine wp_region_held_drew (S := fun u => (∀ o, u.cell? ⟨b1, o, none⟩ = (#[.int .i64 c.u, .int .i64 c.g, .slice av c.l.length cv] : Array Value)[o]?) ∧ (∀ o, u.cell? ⟨b2, o, none⟩ = (ndA n (.slice none 0 0))[o]?)) (by kernel_rfl) (HS.out _ (Below.refl _ _).drew) (fun hHeld => ?_)
                    have BD : Below cur.heap.size cur cur.drew := (Below.refl _ _).drew
                    generalize cur.drew = D at BD hHeld ⊢
                    refine take1 (i := 1) (d := some 75) (v := ?_) rfl rfl (by kernel_rfl) (by kernel_rfl) (by kernel_rfl) (fun _ _ _ h => h) (Or.inl ⟨by rfl, ?_⟩) (by assumption) ?_
                    rotate_left 1
                    · intro w hSw
                      obtain ⟨q0, q1⟩ := hSw
                      go_simp <;> with_reducible rfl
                    simp only [Act.put, List.setIfInBounds_toArray]
                    try simp only [List.set_cons_succ]
                    try simp only [List.set_cons_zero]
                    refine wpAnyH_ready (rs := [0]) (by kernel_rfl) (by simp) ?_
                    refine AllReadyH.cons rfl (fun KK hKK => ?_) AllReadyH.nil
                    go_simp
                    refine (root_any D).mono ?_
                    rintro e y0 ⟨rfl, by0⟩
                    have By0 : Below cur.heap.size cur y0 := BD.trans (by0.mono BD.size)
                    clear by0
                    go_simp
                    refine hKK.out _ _ (HS.out _ By0) (fun hHeld2 => ?_)
                    clear hKK KK hHeld
                    have hHeld := hHeld2
                    clear hHeld2
                    refine wpAnyH_ready (rs := [2]) (by kernel_rfl) (by simp) ?_
                    refine AllReadyH.cons rfl (fun KK hKK => ?_) AllReadyH.nil
                    go_simp
                    refine (implMay_any ⟨0, 0, []⟩ (.slice none 0 0) (.slice none 0 0) n 6 y0.heap.size y0 (Nat.le_refl _) Row.nil).mono ?_
                    rintro e y1 ⟨rfl, by1⟩
                    rw [mayB_root6 n]
                    have By1 : Below cur.heap.size cur y1 := By0.trans (by1.mono By0.size)
                    clear by1
                    go_simp
                    refine hKK.out _ _ (HS.out _ By1) (fun hHeld2 => ?_)
                    clear hKK KK hHeld
                    have hHeld := hHeld2
                    clear hHeld2
                    refine take1 (i := 3) (d := some 77) (v := ?_) rfl rfl (by kernel_rfl) (by kernel_rfl) (by kernel_rfl) (fun _ _ _ h => h) (Or.inl ⟨by rfl, ?_⟩) (by assumption) ?_
                    rotate_left 1
                    · intro w hSw
                      obtain ⟨q0, q1⟩ := hSw
                      go_simp <;> with_reducible rfl
                    simp only [Act.put, List.setIfInBounds_toArray]
                    try simp only [List.set_cons_succ]
                    try simp only [List.set_cons_zero]
                    refine take1 (i := 4) (d := some 78) (v := ?_) rfl rfl (by kernel_rfl) (by kernel_rfl) (by kernel_rfl) (fun _ _ _ h => h) (Or.inl ⟨by rfl, ?_⟩) (by assumption) ?_
                    rotate_left 1
                    · intro w hSw
                      obtain ⟨q0, q1⟩ := hSw
                      go_simp <;> with_reducible rfl
                    simp only [Act.put, List.setIfInBounds_toArray]
                    try simp only [List.set_cons_succ]
                    try simp only [List.set_cons_zero]
                    refine take1 (i := 5) (d := some 79) (v := ?_) rfl rfl (by kernel_rfl) (by kernel_rfl) (by kernel_rfl) (fun _ _ _ h => h) (Or.inl ⟨by rfl, ?_⟩) (by assumption) ?_
                    rotate_left 1
                    · intro w hSw
                      obtain ⟨q0, q1⟩ := hSw
                      go_simp <;> with_reducible rfl
                    simp only [Act.put, List.setIfInBounds_toArray]
                    try simp only [List.set_cons_succ]
                    try simp only [List.set_cons_zero]
                    refine take1 (i := 6) (d := some 80) (v := ?_) rfl rfl (by kernel_rfl) (by kernel_rfl) (by kernel_rfl) (fun _ _ _ h => h) (Or.inl ⟨by rfl, ?_⟩) (by assumption) ?_
                    rotate_left 1
                    · intro w hSw
                      obtain ⟨q0, q1⟩ := hSw
                      go_simp <;> with_reducible rfl
                    simp only [Act.put, List.setIfInBounds_toArray]
                    try simp only [List.set_cons_succ]
                    try simp only [List.set_cons_zero]
                    refine take1 (i := 7) (d := some 81) (v := ?_) rfl rfl (by kernel_rfl) (by kernel_rfl) (by kernel_rfl) (fun _ _ _ h => h) (Or.inl ⟨by rfl, ?_⟩) (by assumption) ?_
                    rotate_left 1
                    · intro w hSw
                      obtain ⟨q0, q1⟩ := hSw
                      go_simp <;> with_reducible rfl
                    simp only [Act.put, List.setIfInBounds_toArray]
                    try simp only [List.set_cons_succ]
                    try simp only [List.set_cons_zero]
                    refine take1 (i := 9) (d := some 83) (v := ?_) rfl rfl (by kernel_rfl) (by kernel_rfl) (by kernel_rfl) (fun _ _ _ h => h) (Or.inl ⟨by rfl, ?_⟩) (by assumption) ?_
                    rotate_left 1
                    · intro w hSw
                      obtain ⟨q0, q1⟩ := hSw
                      go_simp <;> with_reducible rfl
                    simp only [Act.put, List.setIfInBounds_toArray]
                    try simp only [List.set_cons_succ]
                    try simp only [List.set_cons_zero]
                    refine wpAnyH_ready (rs := [8]) (by kernel_rfl) (by simp) ?_
                    refine AllReadyH.cons rfl (fun KK hKK => ?_) AllReadyH.nil
                    go_simp
                    refine (root_any y1).mono ?_
                    rintro e y2 ⟨rfl, by2⟩
                    have By2 : Below cur.heap.size cur y2 := By1.trans (by2.mono By1.size)
                    clear by2
                    go_simp
                    refine hKK.out _ _ (HS.out _ By2) (fun hHeld2 => ?_)
                    clear hKK KK hHeld
                    have hHeld := hHeld2
                    clear hHeld2
                    refine wpAnyH_ready (rs := [10]) (by kernel_rfl) (by simp) ?_
                    refine AllReadyH.cons rfl (fun KK hKK => ?_) AllReadyH.nil
                    go_simp
                    refine (implMay_any ⟨0, 0, []⟩ (.slice none 0 0) (.slice none 0 0) n 7 y2.heap.size y2 (Nat.le_refl _) Row.nil).mono ?_
                    rintro e y3 ⟨rfl, by3⟩
                    rw [mayB_root7 n HK.out]
                    have By3 : Below cur.heap.size cur y3 := By2.trans (by3.mono By2.size)
                    clear by3
                    go_simp
                    refine hKK.out _ _ (HS.out _ By3) (fun hHeld2 => ?_)
                    clear hKK KK hHeld
                    have hHeld := hHeld2
                    clear hHeld2
                    refine take1 (i := 11) (d := some 85) (v := ?_) rfl rfl (by kernel_rfl) (by kernel_rfl) (by kernel_rfl) (fun _ _ _ h => h) (Or.inl ⟨by rfl, ?_⟩) (by assumption) ?_
                    rotate_left 1
                    · intro w hSw
                      obtain ⟨q0, q1⟩ := hSw
                      go_simp <;> with_reducible rfl
                    simp only [Act.put, List.setIfInBounds_toArray]
                    try simp only [List.set_cons_succ]
                    try simp only [List.set_cons_zero]
                    refine take1 (i := 12) (d := some 86) (v := ?_) rfl rfl (by kernel_rfl) (by kernel_rfl) (by kernel_rfl) (fun _ _ _ h => h) (Or.inl ⟨by rfl, ?_⟩) (by assumption) ?_
                    rotate_left 1
                    · intro w hSw
                      obtain ⟨q0, q1⟩ := hSw
                      go_simp <;> with_reducible rfl
                    simp only [Act.put, List.setIfInBounds_toArray]
                    try simp only [List.set_cons_succ]
                    try simp only [List.set_cons_zero]
                    refine take1 (i := 13) (d := some 87) (v := ?_) rfl rfl (by kernel_rfl) (by kernel_rfl) (by kernel_rfl) (fun _ _ _ h => h) (Or.inl ⟨by rfl, ?_⟩) (by assumption) ?_
                    rotate_left 1
                    · intro w hSw
                      obtain ⟨q0, q1⟩ := hSw
                      go_simp <;> with_reducible rfl
                    simp only [Act.put, List.setIfInBounds_toArray]
                    try simp only [List.set_cons_succ]
                    try simp only [List.set_cons_zero]
                    refine take1 (i := 14) (d := some 88) (v := ?_) rfl rfl (by kernel_rfl) (by kernel_rfl) (by kernel_rfl) (fun _ _ _ h => h) (Or.inl ⟨by rfl, ?_⟩) (by assumption) ?_
                    rotate_left 1
                    · intro w hSw
                      obtain ⟨q0, q1⟩ := hSw
                      go_simp <;> with_reducible rfl
                    simp only [Act.put, List.setIfInBounds_toArray]
                    try simp only [List.set_cons_succ]
                    try simp only [List.set_cons_zero]
                    refine take1 (i := 15) (d := some 89) (v := ?_) rfl rfl (by kernel_rfl) (by kernel_rfl) (by kernel_rfl) (fun _ _ _ h => h) (Or.inl ⟨by rfl, ?_⟩) (by assumption) ?_
                    rotate_left 1
                    · intro w hSw
                      obtain ⟨q0, q1⟩ := hSw
                      go_simp <;> with_reducible rfl
                    simp only [Act.put, List.setIfInBounds_toArray]
                    try simp only [List.set_cons_succ]
                    try simp only [List.set_cons_zero]
                    refine wpAnyH_ready (rs := [16]) (by kernel_rfl) (by simp) ?_
                    refine AllReadyH.cons rfl (fun KK hKK => ?_) AllReadyH.nil
                    go_simp
                    refine (implMay_any c (.slice av c.l.length cv) (.slice none 0 0) n 0 y3.heap.size y3 (Nat.le_refl _) (HV.out.kept By3).row).mono ?_
                    rintro e y4 ⟨rfl, by4⟩
                    rw [mayB_zero c n hc]
                    have By4 : Below cur.heap.size cur y4 := By3.trans (by4.mono By3.size)
                    clear by4
                    go_simp
                    refine hKK.out _ _ (HS.out _ By4) (fun hHeld2 => ?_)
                    clear hKK KK hHeld
                    have hHeld := hHeld2
                    clear hHeld2
                    refine take1 (i := 17) (d := some 91) (v := ?_) rfl rfl (by kernel_rfl) (by kernel_rfl) (by kernel_rfl) (fun _ _ _ h => h) (Or.inl ⟨by rfl, ?_⟩) (by assumption) ?_
                    rotate_left 1
                    · intro w hSw
                      obtain ⟨q0, q1⟩ := hSw
                      go_simp <;> with_reducible rfl
                    simp only [Act.put, List.setIfInBounds_toArray]
                    try simp only [List.set_cons_succ]
                    try simp only [List.set_cons_zero]
                    refine take1 (i := 18) (d := some 2) (v := ?_) rfl rfl (by kernel_rfl) (by kernel_rfl) (by kernel_rfl) (fun _ _ _ h => h) (Or.inl ⟨by rfl, ?_⟩) (by assumption) ?_
                    rotate_left 1
                    · intro w hSw
                      obtain ⟨q0, q1⟩ := hSw
                      go_simp <;> with_reducible rfl
                    simp only [Act.put, List.setIfInBounds_toArray]
                    try simp only [List.set_cons_succ]
                    try simp only [List.set_cons_zero]
                    refine wpAnyH_done (by kernel_rfl) ?_ _
                    clear hHeld HS
                    go_wp2
                    go_ret
                    exact ⟨rfl, HB.out.trans (By4.mono HB.out.size)⟩
                · have hb2 : (c.u == 0) = false := by simpa using hu0
                  have hb3 : (c.u != 0) = true := by simpa using hu0
                  have hown := mayB_own c n x hc (by omega) (by omega) hu0 hun
                  clear hun hu0
                  go_upto_region 14 with fail
                  clear kv ki
                  by_cases hk : n.kind = 1
                  · have hkb : (n.kind == 1) = true := by simpa using hk
                    clear hk
                    refine wp_region_held_drew (S := fun u => (∀ o, u.cell? ⟨b1, o, none⟩ = (#[.int .i64 c.u, .int .i64 c.g, .slice av c.l.length cv] : Array Value)[o]?) ∧ (∀ o, u.cell? ⟨b2, o, none⟩ = (ndA n (.slice none 0 0))[o]?)) (by kernel_rfl) (HS.out _ (Below.refl _ _).drew) (fun hHeld => ?_)
                    have BD : Below cur.heap.size cur cur.drew := (Below.refl _ _).drew
                    generalize cur.drew = D at BD hHeld ⊢
                    refine take1 (i := 1) (d := some 75) (v := ?_) rfl rfl (by kernel_rfl) (by kernel_rfl) (by kernel_rfl) (fun _ _ _ h => h) (Or.inl ⟨by rfl, ?_⟩) (by assumption) ?_
                    rotate_left 1
                    · intro w hSw
                      obtain ⟨q0, q1⟩ := hSw
                      go_simp <;> with_reducible rfl
                    simp only [Act.put, List.setIfInBounds_toArray]
                    try simp only [List.set_cons_succ]
                    try simp only [List.set_cons_zero]
                    refine wpAnyH_ready (rs := [0]) (by kernel_rfl) (by simp) ?_
                    refine AllReadyH.cons rfl (fun KK hKK => ?_) AllReadyH.nil
                    go_simp
                    refine (root_any D).mono ?_
                    rintro e y0 ⟨rfl, by0⟩
                    have By0 : Below cur.heap.size cur y0 := BD.trans (by0.mono BD.size)
                    clear by0
                    go_simp
                    refine hKK.out _ _ (HS.out _ By0) (fun hHeld2 => ?_)
                    clear hKK KK hHeld
                    have hHeld := hHeld2
                    clear hHeld2
                    refine wpAnyH_ready (rs := [2]) (by kernel_rfl) (by simp) ?_
                    refine AllReadyH.cons rfl (fun KK hKK => ?_) AllReadyH.nil
                    go_simp
                    refine (implMay_any ⟨0, 0, []⟩ (.slice none 0 0) (.slice none 0 0) n 6 y0.heap.size y0 (Nat.le_refl _) Row.nil).mono ?_
                    rintro e y1 ⟨rfl, by1⟩
                    rw [mayB_root6 n]
                    have By1 : Below cur.heap.size cur y1 := By0.trans (by1.mono By0.size)
                    clear by1
                    go_simp
                    refine hKK.out _ _ (HS.out _ By1) (fun hHeld2 => ?_)
                    clear hKK KK hHeld
                    have hHeld := hHeld2
                    clear hHeld2
                    refine take1 (i := 3) (d := some 77) (v := ?_) rfl rfl (by kernel_rfl) (by kernel_rfl) (by kernel_rfl) (fun _ _ _ h => h) (Or.inl ⟨by rfl, ?_⟩) (by assumption) ?_
                    rotate_left 1
                    · intro w hSw
                      obtain ⟨q0, q1⟩ := hSw
                      go_simp <;> with_reducible rfl
                    simp only [Act.put, List.setIfInBounds_toArray]
                    try simp only [List.set_cons_succ]
                    try simp only [List.set_cons_zero]
                    refine take1 (i := 4) (d := some 78) (v := ?_) rfl rfl (by kernel_rfl) (by kernel_rfl) (by kernel_rfl) (fun _ _ _ h => h) (Or.inl ⟨by rfl, ?_⟩) (by assumption) ?_
                    rotate_left 1
                    · intro w hSw
                      obtain ⟨q0, q1⟩ := hSw
                      go_simp <;> with_reducible rfl
                    simp only [Act.put, List.setIfInBounds_toArray]
                    try simp only [List.set_cons_succ]
                    try simp only [List.set_cons_zero]
                    refine take1 (i := 5) (d := some 79) (v := ?_) rfl rfl (by kernel_rfl) (by kernel_rfl) (by kernel_rfl) (fun _ _ _ h => h) (Or.inl ⟨by rfl, ?_⟩) (by assumption) ?_
                    rotate_left 1
                    · intro w hSw
                      obtain ⟨q0, q1⟩ := hSw
                      go_simp <;> with_reducible rfl
                    simp only [Act.put, List.setIfInBounds_toArray]
                    try simp only [List.set_cons_succ]
                    try simp only [List.set_cons_zero]
                    refine take1 (i := 6) (d := some 80) (v := ?_) rfl rfl (by kernel_rfl) (by kernel_rfl) (by kernel_rfl) (fun _ _ _ h => h) (Or.inl ⟨by rfl, ?_⟩) (by assumption) ?_
                    rotate_left 1
                    · intro w hSw
                      obtain ⟨q0, q1⟩ := hSw
                      go_simp <;> with_reducible rfl
                    simp only [Act.put, List.setIfInBounds_toArray]
                    try simp only [List.set_cons_succ]
                    try simp only [List.set_cons_zero]
                    refine take1 (i := 7) (d := some 81) (v := ?_) rfl rfl (by kernel_rfl) (by kernel_rfl) (by kernel_rfl) (fun _ _ _ h => h) (Or.inl ⟨by rfl, ?_⟩) (by assumption) ?_
                    rotate_left 1
                    · intro w hSw
                      obtain ⟨q0, q1⟩ := hSw
                      go_simp <;> with_reducible rfl
                    simp only [Act.put, List.setIfInBounds_toArray]
                    try simp only [List.set_cons_succ]
                    try simp only [List.set_cons_zero]
                    refine take1 (i := 8) (d := some 82) (v := undef) rfl rfl (by kernel_rfl) (by kernel_rfl) (by kernel_rfl) (fun _ _ _ h => h) (Or.inr ⟨by rfl, rfl⟩) (by assumption) ?_
                    simp only [Act.put, List.setIfInBounds_toArray]
                    try simp only [List.set_cons_succ]
                    try simp only [List.set_cons_zero]
                    refine take1 (i := 9) (d := some 83) (v := undef) rfl rfl (by kernel_rfl) (by kernel_rfl) (by kernel_rfl) (fun _ _ _ h => h) (Or.inr ⟨by rfl, rfl⟩) (by assumption) ?_
                    simp only [Act.put, List.setIfInBounds_toArray]
                    try simp only [List.set_cons_succ]
                    try simp only [List.set_cons_zero]
                    refine take1 (i := 10) (d := some 84) (v := undef) rfl rfl (by kernel_rfl) (by kernel_rfl) (by kernel_rfl) (fun _ _ _ h => h) (Or.inr ⟨by rfl, rfl⟩) (by assumption) ?_
                    simp only [Act.put, List.setIfInBounds_toArray]
                    try simp only [List.set_cons_succ]
                    try simp only [List.set_cons_zero]
                    refine take1 (i := 11) (d := some 85) (v := ?_) rfl rfl (by kernel_rfl) (by kernel_rfl) (by kernel_rfl) (fun _ _ _ h => h) (Or.inl ⟨by rfl, ?_⟩) (by assumption) ?_
                    rotate_left 1
                    · intro w hSw
                      obtain ⟨q0, q1⟩ := hSw
                      go_simp <;> with_reducible rfl
                    simp only [Act.put, List.setIfInBounds_toArray]
                    try simp only [List.set_cons_succ]
                    try simp only [List.set_cons_zero]
                    refine take1 (i := 12) (d := some 86) (v := ?_) rfl rfl (by kernel_rfl) (by kernel_rfl) (by kernel_rfl) (fun _ _ _ h => h) (Or.inl ⟨by rfl, ?_⟩) (by assumption) ?_
                    rotate_left 1
                    · intro w hSw
                      obtain ⟨q0, q1⟩ := hSw
                      go_simp <;> with_reducible rfl
                    simp only [Act.put, List.setIfInBounds_toArray]
                    try simp only [List.set_cons_succ]
                    try simp only [List.set_cons_zero]
                    refine take1 (i := 13) (d := some 87) (v := ?_) rfl rfl (by kernel_rfl) (by kernel_rfl) (by kernel_rfl) (fun _ _ _ h => h) (Or.inl ⟨by rfl, ?_⟩) (by assumption) ?_
                    rotate_left 1
                    · intro w hSw
                      obtain ⟨q0, q1⟩ := hSw
                      go_simp <;> with_reducible rfl
                    simp only [Act.put, List.setIfInBounds_toArray]
                    try simp only [List.set_cons_succ]
                    try simp only [List.set_cons_zero]
                    refine take1 (i := 14) (d := some 88) (v := ?_) rfl rfl (by kernel_rfl) (by kernel_rfl) (by kernel_rfl) (fun _ _ _ h => h) (Or.inl ⟨by rfl, ?_⟩) (by assumption) ?_
                    rotate_left 1
                    · intro w hSw
                      obtain ⟨q0, q1⟩ := hSw
                      go_simp <;> with_reducible rfl
                    simp only [Act.put, List.setIfInBounds_toArray]
                    try simp only [List.set_cons_succ]
                    try simp only [List.set_cons_zero]
                    refine take1 (i := 15) (d := some 89) (v := ?_) rfl rfl (by kernel_rfl) (by kernel_rfl) (by kernel_rfl) (fun _ _ _ h => h) (Or.inl ⟨by rfl, ?_⟩) (by assumption) ?_
                    rotate_left 1
                    · intro w hSw
                      obtain ⟨q0, q1⟩ := hSw
                      go_simp <;> with_reducible rfl
                    simp only [Act.put, List.setIfInBounds_toArray]
                    try simp only [List.set_cons_succ]
                    try simp only [List.set_cons_zero]
                    refine wpAnyH_ready (rs := [16]) (by kernel_rfl) (by simp) ?_
                    refine AllReadyH.cons rfl (fun KK hKK => ?_) AllReadyH.nil
                    go_simp
                    refine (implMay_any c (.slice av c.l.length cv) (.slice none 0 0) n 0 y1.heap.size y1 (Nat.le_refl _) (HV.out.kept By1).row).mono ?_
                    rintro e y4 ⟨rfl, by4⟩
                    rw [mayB_zero c n hc]
                    have By4 : Below cur.heap.size cur y4 := By1.trans (by4.mono By1.size)
                    clear by4
                    go_simp
                    refine hKK.out _ _ (HS.out _ By4) (fun hHeld2 => ?_)
                    clear hKK KK hHeld
                    have hHeld := hHeld2
                    clear hHeld2
                    refine take1 (i := 17) (d := some 91) (v := ?_) rfl rfl (by kernel_rfl) (by kernel_rfl) (by kernel_rfl) (fun _ _ _ h => h) (Or.inl ⟨by rfl, ?_⟩) (by assumption) ?_
                    rotate_left 1
                    · intro w hSw
                      obtain ⟨q0, q1⟩ := hSw
                      go_simp <;> with_reducible rfl
                    simp only [Act.put, List.setIfInBounds_toArray]
                    try simp only [List.set_cons_succ]
                    try simp only [List.set_cons_zero]
                    refine take1 (i := 18) (d := some 2) (v := ?_) rfl rfl (by kernel_rfl) (by kernel_rfl) (by kernel_rfl) (fun _ _ _ h => h) (Or.inl ⟨by rfl, ?_⟩) (by assumption) ?_
                    rotate_left 1
                    · intro w hSw
                      obtain ⟨q0, q1⟩ := hSw
                      go_simp <;> with_reducible rfl
                    simp only [Act.put, List.setIfInBounds_toArray]
                    try simp only [List.set_cons_succ]
                    try simp only [List.set_cons_zero]
                    refine wpAnyH_done (by kernel_rfl) ?_ _
                    clear hHeld HS
                    go_wp2
                    go_ret
                    exact ⟨rfl, HB.out.trans (By4.mono HB.out.size)⟩
                  · have hkb : (n.kind == 1) = false := by simpa using hk
                    have HK := Hid.intro hk
                    clear hk
                    refine wp_region_held_drew (S := fun u => (∀ o, u.cell? ⟨b1, o, none⟩ = (#[.int .i64 c.u, .int .i64 c.g, .slice av c.l.length cv] : Array Value)[o]?) ∧ (∀ o, u.cell? ⟨b2, o, none⟩ = (ndA n (.slice none 0 0))[o]?)) (by kernel_rfl) (HS.out _ (Below.refl _ _).drew) (fun hHeld => ?_)
                    have BD : Below cur.heap.size cur cur.drew := (Below.refl _ _).drew
                    generalize cur.drew = D at BD hHeld ⊢
                    refine take1 (i := 1) (d := some 75) (v := ?_) rfl rfl (by kernel_rfl) (by kernel_rfl) (by kernel_rfl) (fun _ _ _ h => h) (Or.inl ⟨by rfl, ?_⟩) (by assumption) ?_
                    rotate_left 1
                    · intro w hSw
                      obtain ⟨q0, q1⟩ := hSw
                      go_simp <;> with_reducible rfl
                    simp only [Act.put, List.setIfInBounds_toArray]
                    try simp only [List.set_cons_succ]
                    try simp only [List.set_cons_zero]
                    refine wpAnyH_ready (rs := [0]) (by kernel_rfl) (by simp) ?_
                    refine AllReadyH.cons rfl (fun KK hKK => ?_) AllReadyH.nil
                    go_simp
                    refine (root_any D).mono ?_
                    rintro e y0 ⟨rfl, by0⟩
                    have By0 : Below cur.heap.size cur y0 := BD.trans (by0.mono BD.size)
                    clear by0
                    go_simp
                    refine hKK.out _ _ (HS.out _ By0) (fun hHeld2 => ?_)
                    clear hKK KK hHeld
                    have hHeld := hHeld2
                    clear hHeld2
                    refine wpAnyH_ready (rs := [2]) (by kernel_rfl) (by simp) ?_
                    refine AllReadyH.cons rfl (fun KK hKK => ?_) AllReadyH.nil
                    go_simp
                    refine (implMay_any ⟨0, 0, []⟩ (.slice none 0 0) (.slice none 0 0) n 6 y0.heap.size y0 (Nat.le_refl _) Row.nil).mono ?_
                    rintro e y1 ⟨rfl, by1⟩
                    rw [mayB_root6 n]
                    have By1 : Below cur.heap.size cur y1 := By0.trans (by1.mono By0.size)
                    clear by1
                    go_simp
                    refine hKK.out _ _ (HS.out _ By1) (fun hHeld2 => ?_)
                    clear hKK KK hHeld
                    have hHeld := hHeld2
                    clear hHeld2
                    refine take1 (i := 3) (d := some 77) (v := ?_) rfl rfl (by kernel_rfl) (by kernel_rfl) (by kernel_rfl) (fun _ _ _ h => h) (Or.inl ⟨by rfl, ?_⟩) (by assumption) ?_
                    rotate_left 1
                    · intro w hSw
                      obtain ⟨q0, q1⟩ := hSw
                      go_simp <;> with_reducible rfl
                    simp only [Act.put, List.setIfInBounds_toArray]
                    try simp only [List.set_cons_succ]
                    try simp only [List.set_cons_zero]
                    refine take1 (i := 4) (d := some 78) (v := ?_) rfl rfl (by kernel_rfl) (by kernel_rfl) (by kernel_rfl) (fun _ _ _ h => h) (Or.inl ⟨by rfl, ?_⟩) (by assumption) ?_
                    rotate_left 1
                    · intro w hSw
                      obtain ⟨q0, q1⟩ := hSw
                      go_simp <;> with_reducible rfl
                    simp only [Act.put, List.setIfInBounds_toArray]
                    try simp only [List.set_cons_succ]
                    try simp only [List.set_cons_zero]
                    refine take1 (i := 5) (d := some 79) (v := ?_) rfl rfl (by kernel_rfl) (by kernel_rfl) (by kernel_rfl) (fun _ _ _ h => h) (Or.inl ⟨by rfl, ?_⟩) (by assumption) ?_
                    rotate_left 1
                    · intro w hSw
                      obtain ⟨q0, q1⟩ := hSw
                      go_simp <;> with_reducible rfl
                    simp only [Act.put, List.setIfInBounds_toArray]
                    try simp only [List.set_cons_succ]
                    try simp only [List.set_cons_zero]
                    refine take1 (i := 6) (d := some 80) (v := ?_) rfl rfl (by kernel_rfl) (by kernel_rfl) (by kernel_rfl) (fun _ _ _ h => h) (Or.inl ⟨by rfl, ?_⟩) (by assumption) ?_
                    rotate_left 1
                    · intro w hSw
                      obtain ⟨q0, q1⟩ := hSw
                      go_simp <;> with_reducible rfl
                    simp only [Act.put, List.setIfInBounds_toArray]
                    try simp only [List.set_cons_succ]
                    try simp only [List.set_cons_zero]
                    refine take1 (i := 7) (d := some 81) (v := ?_) rfl rfl (by kernel_rfl) (by kernel_rfl) (by kernel_rfl) (fun _ _ _ h => h) (Or.inl ⟨by rfl, ?_⟩) (by assumption) ?_
                    rotate_left 1
                    · intro w hSw
                      obtain ⟨q0, q1⟩ := hSw
                      go_simp <;> with_reducible rfl
                    simp only [Act.put, List.setIfInBounds_toArray]
                    try simp only [List.set_cons_succ]
                    try simp only [List.set_cons_zero]
                    refine take1 (i := 9) (d := some 83) (v := ?_) rfl rfl (by kernel_rfl) (by kernel_rfl) (by kernel_rfl) (fun _ _ _ h => h) (Or.inl ⟨by rfl, ?_⟩) (by assumption) ?_
                    rotate_left 1
                    · intro w hSw
                      obtain ⟨q0, q1⟩ := hSw
                      go_simp <;> with_reducible rfl
                    simp only [Act.put, List.setIfInBounds_toArray]
                    try simp only [List.set_cons_succ]
                    try simp only [List.set_cons_zero]
                    refine wpAnyH_ready (rs := [8]) (by kernel_rfl) (by simp) ?_
                    refine AllReadyH.cons rfl (fun KK hKK => ?_) AllReadyH.nil
                    go_simp
                    refine (root_any y1).mono ?_
                    rintro e y2 ⟨rfl, by2⟩
                    have By2 : Below cur.heap.size cur y2 := By1.trans (by2.mono By1.size)
                    clear by2
                    go_simp
                    refine hKK.out _ _ (HS.out _ By2) (fun hHeld2 => ?_)
                    clear hKK KK hHeld
                    have hHeld := hHeld2
                    clear hHeld2
                    refine wpAnyH_ready (rs := [10]) (by kernel_rfl) (by simp) ?_
                    refine AllReadyH.cons rfl (fun KK hKK => ?_) AllReadyH.nil
                    go_simp
                    refine (implMay_any ⟨0, 0, []⟩ (.slice none 0 0) (.slice none 0 0) n 7 y2.heap.size y2 (Nat.le_refl _) Row.nil).mono ?_
                    rintro e y3 ⟨rfl, by3⟩
                    rw [mayB_root7 n HK.out]
                    have By3 : Below cur.heap.size cur y3 := By2.trans (by3.mono By2.size)
                    clear by3
                    go_simp
                    refine hKK.out _ _ (HS.out _ By3) (fun hHeld2 => ?_)
                    clear hKK KK hHeld
                    have hHeld := hHeld2
                    clear hHeld2
                    refine take1 (i := 11) (d := some 85) (v := ?_) rfl rfl (by kernel_rfl) (by kernel_rfl) (by kernel_rfl) (fun _ _ _ h => h) (Or.inl ⟨by rfl, ?_⟩) (by assumption) ?_
                    rotate_left 1
                    · intro w hSw
                      obtain ⟨q0, q1⟩ := hSw
                      go_simp <;> with_reducible rfl
                    simp only [Act.put, List.setIfInBounds_toArray]
                    try simp only [List.set_cons_succ]
                    try simp only [List.set_cons_zero]
                    refine take1 (i := 12) (d := some 86) (v := ?_) rfl rfl (by kernel_rfl) (by kernel_rfl) (by kernel_rfl) (fun _ _ _ h => h) (Or.inl ⟨by rfl, ?_⟩) (by assumption) ?_
                    rotate_left 1
                    · intro w hSw
                      obtain ⟨q0, q1⟩ := hSw
                      go_simp <;> with_reducible rfl
                    simp only [Act.put, List.setIfInBounds_toArray]
                    try simp only [List.set_cons_succ]
                    try simp only [List.set_cons_zero]
                    refine take1 (i := 13) (d := some 87) (v := ?_) rfl rfl (by kernel_rfl) (by kernel_rfl) (by kernel_rfl) (fun _ _ _ h => h) (Or.inl ⟨by rfl, ?_⟩) (by assumption) ?_
                    rotate_left 1
                    · intro w hSw
                      obtain ⟨q0, q1⟩ := hSw
                      go_simp <;> with_reducible rfl
                    simp only [Act.put, List.setIfInBounds_toArray]
                    try simp only [List.set_cons_succ]
                    try simp only [List.set_cons_zero]
                    refine take1 (i := 14) (d := some 88) (v := ?_) rfl rfl (by kernel_rfl) (by kernel_rfl) (by kernel_rfl) (fun _ _ _ h => h) (Or.inl ⟨by rfl, ?_⟩) (by assumption) ?_
                    rotate_left 1
                    · intro w hSw
                      obtain ⟨q0, q1⟩ := hSw
                      go_simp <;> with_reducible rfl
                    simp only [Act.put, List.setIfInBounds_toArray]
                    try simp only [List.set_cons_succ]
                    try simp only [List.set_cons_zero]
                    refine take1 (i := 15) (d := some 89) (v := ?_) rfl rfl (by kernel_rfl) (by kernel_rfl) (by kernel_rfl) (fun _ _ _ h => h) (Or.inl ⟨by rfl, ?_⟩) (by assumption) ?_
                    rotate_left 1
                    · intro w hSw
                      obtain ⟨q0, q1⟩ := hSw
                      go_simp <;> with_reducible rfl
                    simp only [Act.put, List.setIfInBounds_toArray]
                    try simp only [List.set_cons_succ]
                    try simp only [List.set_cons_zero]
                    refine wpAnyH_ready (rs := [16]) (by kernel_rfl) (by simp) ?_
                    refine AllReadyH.cons rfl (fun KK hKK => ?_) AllReadyH.nil
                    go_simp
                    refine (implMay_any c (.slice av c.l.length cv) (.slice none 0 0) n 0 y3.heap.size y3 (Nat.le_refl _) (HV.out.kept By3).row).mono ?_
                    rintro e y4 ⟨rfl, by4⟩
                    rw [mayB_zero c n hc]
                    have By4 : Below cur.heap.size cur y4 := By3.trans (by4.mono By3.size)
                    clear by4
                    go_simp
                    refine hKK.out _ _ (HS.out _ By4) (fun hHeld2 => ?_)
                    clear hKK KK hHeld
                    have hHeld := hHeld2
                    clear hHeld2
                    refine take1 (i := 17) (d := some 91) (v := ?_) rfl rfl (by kernel_rfl) (by kernel_rfl) (by kernel_rfl) (fun _ _ _ h => h) (Or.inl ⟨by rfl, ?_⟩) (by assumption) ?_
                    rotate_left 1
                    · intro w hSw
                      obtain ⟨q0, q1⟩ := hSw
                      go_simp <;> with_reducible rfl
                    simp only [Act.put, List.setIfInBounds_toArray]
                    try simp only [List.set_cons_succ]
                    try simp only [List.set_cons_zero]
                    refine take1 (i := 18) (d := some 2) (v := ?_) rfl rfl (by kernel_rfl) (by kernel_rfl) (by kernel_rfl) (fun _ _ _ h => h) (Or.inl ⟨by rfl, ?_⟩) (by assumption) ?_
                    rotate_left 1
                    · intro w hSw
                      obtain ⟨q0, q1⟩ := hSw
                      go_simp <;> with_reducible rfl
                    simp only [Act.put, List.setIfInBounds_toArray]
                    try simp only [List.set_cons_succ]
                    try simp only [List.set_cons_zero]
                    refine wpAnyH_done (by kernel_rfl) ?_ _
                    clear hHeld HS
                    go_wp2
                    go_ret
                    exact ⟨rfl, HB.out.trans (By4.mono HB.out.size)⟩
              · have hb1 : (c.u == n.uid) = false := by simpa using hun
                clear hun
                go_upto_region 14 with fail
                clear kv ki
                by_cases hk : n.kind = 1
                · have hkb : (n.kind == 1) = true := by simpa using hk
                  clear hk
                  refine wp_region_held_drew (S := fun u => (∀ o, u.cell? ⟨b1, o, none⟩ = (#[.int .i64 c.u, .int .i64 c.g, .slice av c.l.length cv] : Array Value)[o]?) ∧ (∀ o, u.cell? ⟨b2, o, none⟩ = (ndA n (.slice none 0 0))[o]?)) (by kernel_rfl) (HS.out _ (Below.refl _ _).drew) (fun hHeld => ?_)
                  have BD : Below cur.heap.size cur cur.drew := (Below.refl _ _).drew
                  generalize cur.drew = D at BD hHeld ⊢
                  refine take1 (i := 1) (d := some 75) (v := ?_) rfl rfl (by kernel_rfl) (by kernel_rfl) (by kernel_rfl) (fun _ _ _ h => h) (Or.inl ⟨by rfl, ?_⟩) (by assumption) ?_
                  rotate_left 1
                  · intro w hSw
                    obtain ⟨q0, q1⟩ := hSw
                    go_simp <;> with_reducible rfl
                  simp only [Act.put, List.setIfInBounds_toArray]
                  try simp only [List.set_cons_succ]
                  try simp only [List.set_cons_zero]
                  refine wpAnyH_ready (rs := [0]) (by kernel_rfl) (by simp) ?_
                  refine AllReadyH.cons rfl (fun KK hKK => ?_) AllReadyH.nil
                  go_simp
                  refine (root_any D).mono ?_
                  rintro e y0 ⟨rfl, by0⟩
                  have By0 : Below cur.heap.size cur y0 := BD.trans (by0.mono BD.size)
                  clear by0
                  go_simp
                  refine hKK.out _ _ (HS.out _ By0) (fun hHeld2 => ?_)
                  clear hKK KK hHeld
                  have hHeld := hHeld2
                  clear hHeld2
                  refine wpAnyH_ready (rs := [2]) (by kernel_rfl) (by simp) ?_
                  refine AllReadyH.cons rfl (fun KK hKK => ?_) AllReadyH.nil
                  go_simp
                  refine (implMay_any ⟨0, 0, []⟩ (.slice none 0 0) (.slice none 0 0) n 6 y0.heap.size y0 (Nat.le_refl _) Row.nil).mono ?_
                  rintro e y1 ⟨rfl, by1⟩
                  rw [mayB_root6 n]
                  have By1 : Below cur.heap.size cur y1 := By0.trans (by1.mono By0.size)
                  clear by1
                  go_simp
                  refine hKK.out _ _ (HS.out _ By1) (fun hHeld2 => ?_)
                  clear hKK KK hHeld
                  have hHeld := hHeld2
                  clear hHeld2
                  refine take1 (i := 3) (d := some 77) (v := ?_) rfl rfl (by kernel_rfl) (by kernel_rfl) (by kernel_rfl) (fun _ _ _ h => h) (Or.inl ⟨by rfl, ?_⟩) (by assumption) ?_
                  rotate_left 1
                  · intro w hSw
                    obtain ⟨q0, q1⟩ := hSw
                    go_simp <;> with_reducible rfl
                  simp only [Act.put, List.setIfInBounds_toArray]
                  try simp only [List.set_cons_succ]
                  try simp only [List.set_cons_zero]
                  refine take1 (i := 4) (d := some 78) (v := ?_) rfl rfl (by kernel_rfl) (by kernel_rfl) (by kernel_rfl) (fun _ _ _ h => h) (Or.inl ⟨by rfl, ?_⟩) (by assumption) ?_
                  rotate_left 1
                  · intro w hSw
                    obtain ⟨q0, q1⟩ := hSw
                    go_simp <;> with_reducible rfl
                  simp only [Act.put, List.setIfInBounds_toArray]
                  try simp only [List.set_cons_succ]
                  try simp only [List.set_cons_zero]
                  refine take1 (i := 5) (d := some 79) (v := ?_) rfl rfl (by kernel_rfl) (by kernel_rfl) (by kernel_rfl) (fun _ _ _ h => h) (Or.inl ⟨by rfl, ?_⟩) (by assumption) ?_
                  rotate_left 1
                  · intro w hSw
                    obtain ⟨q0, q1⟩ := hSw
                    go_simp <;> with_reducible rfl
                  simp only [Act.put, List.setIfInBounds_toArray]
                  try simp only [List.set_cons_succ]
                  try simp only [List.set_cons_zero]
                  refine take1 (i := 6) (d := some 80) (v := ?_) rfl rfl (by kernel_rfl) (by kernel_rfl) (by kernel_rfl) (fun _ _ _ h => h) (Or.inl ⟨by rfl, ?_⟩) (by assumption) ?_
                  rotate_left 1
                  · intro w hSw
                    obtain ⟨q0, q1⟩ := hSw
                    go_simp <;> with_reducible rfl
                  simp only [Act.put, List.setIfInBounds_toArray]
                  try simp only [List.set_cons_succ]
                  try simp only [List.set_cons_zero]
                  refine take1 (i := 7) (d := some 81) (v := ?_) rfl rfl (by kernel_rfl) (by kernel_rfl) (by kernel_rfl) (fun _ _ _ h => h) (Or.inl ⟨by rfl, ?_⟩) (by assumption) ?_
                  rotate_left 1
                  · intro w hSw
                    obtain ⟨q0, q1⟩ := hSw
                    go_simp <;> with_reducible rfl
                  simp only [Act.put, List.setIfInBounds_toArray]
                  try simp only [List.set_cons_succ]
                  try simp only [List.set_cons_zero]
                  refine take1 (i := 8) (d := some 82) (v := undef) rfl rfl (by kernel_rfl) (by kernel_rfl) (by kernel_rfl) (fun _ _ _ h => h) (Or.inr ⟨by rfl, rfl⟩) (by assumption) ?_
                  simp only [Act.put, List.setIfInBounds_toArray]
                  try simp only [List.set_cons_succ]
                  try simp only [List.set_cons_zero]
                  refine take1 (i := 9) (d := some 83) (v := undef) rfl rfl (by kernel_rfl) (by kernel_rfl) (by kernel_rfl) (fun _ _ _ h => h) (Or.inr ⟨by rfl, rfl⟩) (by assumption) ?_
                  simp only [Act.put, List.setIfInBounds_toArray]
                  try simp only [List.set_cons_succ]
                  try simp only [List.set_cons_zero]
                  refine take1 (i := 10) (d := some 84) (v := undef) rfl rfl (by kernel_rfl) (by kernel_rfl) (by kernel_rfl) (fun _ _ _ h => h) (Or.inr ⟨by rfl, rfl⟩) (by assumption) ?_
                  simp only [Act.put, List.setIfInBounds_toArray]
                  try simp only [List.set_cons_succ]
                  try simp only [List.set_cons_zero]
                  refine take1 (i := 11) (d := some 85) (v := ?_) rfl rfl (by kernel_rfl) (by kernel_rfl) (by kernel_rfl) (fun _ _ _ h => h) (Or.inl ⟨by rfl, ?_⟩) (by assumption) ?_
                  rotate_left 1
                  · intro w hSw
                    obtain ⟨q0, q1⟩ := hSw
                    go_simp <;> with_reducible rfl
                  simp only [Act.put, List.setIfInBounds_toArray]
                  try simp only [List.set_cons_succ]
                  try simp only [List.set_cons_zero]
                  refine take1 (i := 12) (d := some 86) (v := ?_) rfl rfl (by kernel_rfl) (by kernel_rfl) (by kernel_rfl) (fun _ _ _ h => h) (Or.inl ⟨by rfl, ?_⟩) (by assumption) ?_
                  rotate_left 1
                  · intro w hSw
                    obtain ⟨q0, q1⟩ := hSw
                    go_simp <;> with_reducible rfl
                  simp only [Act.put, List.setIfInBounds_toArray]
                  try simp only [List.set_cons_succ]
                  try simp only [List.set_cons_zero]
                  refine take1 (i := 13) (d := some 87) (v := ?_) rfl rfl (by kernel_rfl) (by kernel_rfl) (by kernel_rfl) (fun _ _ _ h => h) (Or.inl ⟨by rfl, ?_⟩) (by assumption) ?_
                  rotate_left 1
                  · intro w hSw
                    obtain ⟨q0, q1⟩ := hSw
                    go_simp <;> with_reducible rfl
                  simp only [Act.put, List.setIfInBounds_toArray]
                  try simp only [List.set_cons_succ]
                  try simp only [List.set_cons_zero]
                  refine take1 (i := 14) (d := some 88) (v := ?_) rfl rfl (by kernel_rfl) (by kernel_rfl) (by kernel_rfl) (fun _ _ _ h => h) (Or.inl ⟨by rfl, ?_⟩) (by assumption) ?_
                  rotate_left 1
                  · intro w hSw
                    obtain ⟨q0, q1⟩ := hSw
                    go_simp <;> with_reducible rfl
                  simp only [Act.put, List.setIfInBounds_toArray]
                  try simp only [List.set_cons_succ]
                  try simp only [List.set_cons_zero]
                  refine take1 (i := 15) (d := some 89) (v := ?_) rfl rfl (by kernel_rfl) (by kernel_rfl) (by kernel_rfl) (fun _ _ _ h => h) (Or.inl ⟨by rfl, ?_⟩) (by assumption) ?_
                  rotate_left 1
                  · intro w hSw
                    obtain ⟨q0, q1⟩ := hSw
                    go_simp <;> with_reducible rfl
                  simp only [Act.put, List.setIfInBounds_toArray]
                  try simp only [List.set_cons_succ]
                  try simp only [List.set_cons_zero]
                  refine wpAnyH_ready (rs := [16]) (by kernel_rfl) (by simp) ?_
                  refine AllReadyH.cons rfl (fun KK hKK => ?_) AllReadyH.nil
                  go_simp
                  refine (implMay_any c (.slice av c.l.length cv) (.slice none 0 0) n 0 y1.heap.size y1 (Nat.le_refl _) (HV.out.kept By1).row).mono ?_
                  rintro e y4 ⟨rfl, by4⟩
                  rw [mayB_zero c n hc]
                  have By4 : Below cur.heap.size cur y4 := By1.trans (by4.mono By1.size)
                  clear by4
                  go_simp
                  refine hKK.out _ _ (HS.out _ By4) (fun hHeld2 => ?_)
                  clear hKK KK hHeld
                  have hHeld := hHeld2
                  clear hHeld2
                  refine take1 (i := 17) (d := some 91) (v := ?_) rfl rfl (by kernel_rfl) (by kernel_rfl) (by kernel_rfl) (fun _ _ _ h => h) (Or.inl ⟨by rfl, ?_⟩) (by assumption) ?_
                  rotate_left 1
                  · intro w hSw
                    obtain ⟨q0, q1⟩ := hSw
                    go_simp <;> with_reducible rfl
                  simp only [Act.put, List.setIfInBounds_toArray]
                  try simp only [List.set_cons_succ]
                  try simp only [List.set_cons_zero]
                  refine take1 (i := 18) (d := some 2) (v := ?_) rfl rfl (by kernel_rfl) (by kernel_rfl) (by kernel_rfl) (fun _ _ _ h => h) (Or.inl ⟨by rfl, ?_⟩) (by assumption) ?_
                  rotate_left 1
                  · intro w hSw
                    obtain ⟨q0, q1⟩ := hSw
                    go_simp <;> with_reducible rfl
                  simp only [Act.put, List.setIfInBounds_toArray]
                  try simp only [List.set_cons_succ]
                  try simp only [List.set_cons_zero]
                  refine wpAnyH_done (by kernel_rfl) ?_ _
                  clear hHeld HS
                  go_wp2
                  go_ret
                  exact ⟨rfl, HB.out.trans (By4.mono HB.out.size)⟩
                · have hkb : (n.kind == 1) = false := by simpa using hk
                  have HK := Hid.intro hk
                  clear hk
                  refine wp_region_held_drew (S := fun u => (∀ o, u.cell? ⟨b1, o, none⟩ = (#[.int .i64 c.u, .int .i64 c.g, .slice av c.l.length cv] : Array Value)[o]?) ∧ (∀ o, u.cell? ⟨b2, o, none⟩ = (ndA n (.slice none 0 0))[o]?)) (by kernel_rfl) (HS.out _ (Below.refl _ _).drew) (fun hHeld => ?_)
                  have BD : Below cur.heap.size cur cur.drew := (Below.refl _ _).drew
                  generalize cur.drew = D at BD hHeld ⊢
                  refine take1 (i := 1) (d := some 75) (v := ?_) rfl rfl (by kernel_rfl) (by kernel_rfl) (by kernel_rfl) (fun _ _ _ h => h) (Or.inl ⟨by rfl, ?_⟩) (by assumption) ?_
                  rotate_left 1
                  · intro w hSw
                    obtain ⟨q0, q1⟩ := hSw
                    go_simp <;> with_reducible rfl
                  simp only [Act.put, List.setIfInBounds_toArray]
                  try simp only [List.set_cons_succ]
                  try simp only [List.set_cons_zero]
                  refine wpAnyH_ready (rs := [0]) (by kernel_rfl) (by simp) ?_
                  refine AllReadyH.cons rfl (fun KK hKK => ?_) AllReadyH.nil
                  go_simp
                  refine (root_any D).mono ?_
                  rintro e y0 ⟨rfl, by0⟩
                  have By0 : Below cur.heap.size cur y0 := BD.trans (by0.mono BD.size)
                  clear by0
                  go_simp
                  refine hKK.out _ _ (HS.out _ By0) (fun hHeld2 => ?_)
                  clear hKK KK hHeld
                  have hHeld := hHeld2
                  clear hHeld2
                  refine wpAnyH_ready (rs := [2]) (by kernel_rfl) (by simp) ?_
                  refine AllReadyH.cons rfl (fun KK hKK => ?_) AllReadyH.nil
                  go_simp
                  refine (implMay_any ⟨0, 0, []⟩ (.slice none 0 0) (.slice none 0 0) n 6 y0.heap.size y0 (Nat.le_refl _) Row.nil).mono ?_
                  rintro e y1 ⟨rfl, by1⟩
                  rw [mayB_root6 n]
                  have By1 : Below cur.heap.size cur y1 := By0.trans (by1.mono By0.size)
                  clear by1
                  go_simp
                  refine hKK.out _ _ (HS.out _ By1) (fun hHeld2 => ?_)
                  clear hKK KK hHeld
                  have hHeld := hHeld2
                  clear hHeld2
                  refine take1 (i := 3) (d := some 77) (v := ?_) rfl rfl (by kernel_rfl) (by kernel_rfl) (by kernel_rfl) (fun _ _ _ h => h) (Or.inl ⟨by rfl, ?_⟩) (by assumption) ?_
                  rotate_left 1
                  · intro w hSw
                    obtain ⟨q0, q1⟩ := hSw
                    go_simp <;> with_reducible rfl
                  simp only [Act.put, List.setIfInBounds_toArray]
                  try simp only [List.set_cons_succ]
                  try simp only [List.set_cons_zero]
                  refine take1 (i := 4) (d := some 78) (v := ?_) rfl rfl (by kernel_rfl) (by kernel_rfl) (by kernel_rfl) (fun _ _ _ h => h) (Or.inl ⟨by rfl, ?_⟩) (by assumption) ?_
                  rotate_left 1
                  · intro w hSw
                    obtain ⟨q0, q1⟩ := hSw
                    go_simp <;> with_reducible rfl
                  simp only [Act.put, List.setIfInBounds_toArray]
                  try simp only [List.set_cons_succ]
                  try simp only [List.set_cons_zero]
                  refine take1 (i := 5) (d := some 79) (v := ?_) rfl rfl (by kernel_rfl) (by kernel_rfl) (by kernel_rfl) (fun _ _ _ h => h) (Or.inl ⟨by rfl, ?_⟩) (by assumption) ?_
                  rotate_left 1
                  · intro w hSw
                    obtain ⟨q0, q1⟩ := hSw
                    go_simp <;> with_reducible rfl
                  simp only [Act.put, List.setIfInBounds_toArray]
                  try simp only [List.set_cons_succ]
                  try simp only [List.set_cons_zero]
                  refine take1 (i := 6) (d := some 80) (v := ?_) rfl rfl (by kernel_rfl) (by kernel_rfl) (by kernel_rfl) (fun _ _ _ h => h) (Or.inl ⟨by rfl, ?_⟩) (by assumption) ?_
                  rotate_left 1
                  · intro w hSw
                    obtain ⟨q0, q1⟩ := hSw
                    go_simp <;> with_reducible rfl
                  simp only [Act.put, List.setIfInBounds_toArray]
                  try simp only [List.set_cons_succ]
                  try simp only [List.set_cons_zero]
                  refine take1 (i := 7) (d := some 81) (v := ?_) rfl rfl (by kernel_rfl) (by kernel_rfl) (by kernel_rfl) (fun _ _ _ h => h) (Or.inl ⟨by rfl, ?_⟩) (by assumption) ?_
                  rotate_left 1
                  · intro w hSw
                    obtain ⟨q0, q1⟩ := hSw
                    go_simp <;> with_reducible rfl
                  simp only [Act.put, List.setIfInBounds_toArray]
                  try simp only [List.set_cons_succ]
                  try simp only [List.set_cons_zero]
                  refine take1 (i := 9) (d := some 83) (v := ?_) rfl rfl (by kernel_rfl) (by kernel_rfl) (by kernel_rfl) (fun _ _ _ h => h) (Or.inl ⟨by rfl, ?_⟩) (by assumption) ?_
                  rotate_left 1
                  · intro w hSw
                    obtain ⟨q0, q1⟩ := hSw
                    go_simp <;> with_reducible rfl
                  simp only [Act.put, List.setIfInBounds_toArray]
                  try simp only [List.set_cons_succ]
                  try simp only [List.set_cons_zero]
                  refine wpAnyH_ready (rs := [8]) (by kernel_rfl) (by simp) ?_
                  refine AllReadyH.cons rfl (fun KK hKK => ?_) AllReadyH.nil
                  go_simp
                  refine (root_any y1).mono ?_
                  rintro e y2 ⟨rfl, by2⟩
                  have By2 : Below cur.heap.size cur y2 := By1.trans (by2.mono By1.size)
                  clear by2
                  go_simp
                  refine hKK.out _ _ (HS.out _ By2) (fun hHeld2 => ?_)
                  clear hKK KK hHeld
                  have hHeld := hHeld2
                  clear hHeld2
                  refine wpAnyH_ready (rs := [10]) (by kernel_rfl) (by simp) ?_
                  refine AllReadyH.cons rfl (fun KK hKK => ?_) AllReadyH.nil
                  go_simp
                  refine (implMay_any ⟨0, 0, []⟩ (.slice none 0 0) (.slice none 0 0) n 7 y2.heap.size y2 (Nat.le_refl _) Row.nil).mono ?_
                  rintro e y3 ⟨rfl, by3⟩
                  rw [mayB_root7 n HK.out]
                  have By3 : Below cur.heap.size cur y3 := By2.trans (by3.mono By2.size)
                  clear by3
                  go_simp
                  refine hKK.out _ _ (HS.out _ By3) (fun hHeld2 => ?_)
                  clear hKK KK hHeld
                  have hHeld := hHeld2
                  clear hHeld2
                  refine take1 (i := 11) (d := some 85) (v := ?_) rfl rfl (by kernel_rfl) (by kernel_rfl) (by kernel_rfl) (fun _ _ _ h => h) (Or.inl ⟨by rfl, ?_⟩) (by assumption) ?_
                  rotate_left 1
                  · intro w hSw
                    obtain ⟨q0, q1⟩ := hSw
                    go_simp <;> with_reducible rfl
                  simp only [Act.put, List.setIfInBounds_toArray]
                  try simp only [List.set_cons_succ]
                  try simp only [List.set_cons_zero]
                  refine take1 (i := 12) (d := some 86) (v := ?_) rfl rfl (by kernel_rfl) (by kernel_rfl) (by kernel_rfl) (fun _ _ _ h => h) (Or.inl ⟨by rfl, ?_⟩) (by assumption) ?_
                  rotate_left 1
                  · intro w hSw
                    obtain ⟨q0, q1⟩ := hSw
                    go_simp <;> with_reducible rfl
                  simp only [Act.put, List.setIfInBounds_toArray]
                  try simp only [List.set_cons_succ]
                  try simp only [List.set_cons_zero]
                  refine take1 (i := 13) (d := some 87) (v := ?_) rfl rfl (by kernel_rfl) (by kernel_rfl) (by kernel_rfl) (fun _ _ _ h => h) (Or.inl ⟨by rfl, ?_⟩) (by assumption) ?_
                  rotate_left 1
                  · intro w hSw
                    obtain ⟨q0, q1⟩ := hSw
                    go_simp <;> with_reducible rfl
                  simp only [Act.put, List.setIfInBounds_toArray]
                  try simp only [List.set_cons_succ]
                  try simp only [List.set_cons_zero]
                  refine take1 (i := 14) (d := some 88) (v := ?_) rfl rfl (by kernel_rfl) (by kernel_rfl) (by kernel_rfl) (fun _ _ _ h => h) (Or.inl ⟨by rfl, ?_⟩) (by assumption) ?_
                  rotate_left 1
                  · intro w hSw
                    obtain ⟨q0, q1⟩ := hSw
                    go_simp <;> with_reducible rfl
                  simp only [Act.put, List.setIfInBounds_toArray]
                  try simp only [List.set_cons_succ]
                  try simp only [List.set_cons_zero]
                  refine take1 (i := 15) (d := some 89) (v := ?_) rfl rfl (by kernel_rfl) (by kernel_rfl) (by kernel_rfl) (fun _ _ _ h => h) (Or.inl ⟨by rfl, ?_⟩) (by assumption) ?_
                  rotate_left 1
                  · intro w hSw
                    obtain ⟨q0, q1⟩ := hSw
                    go_simp <;> with_reducible rfl
                  simp only [Act.put, List.setIfInBounds_toArray]
                  try simp only [List.set_cons_succ]
                  try simp only [List.set_cons_zero]
                  refine wpAnyH_ready (rs := [16]) (by kernel_rfl) (by simp) ?_
                  refine AllReadyH.cons rfl (fun KK hKK => ?_) AllReadyH.nil
                  go_simp
                  refine (implMay_any c (.slice av c.l.length cv) (.slice none 0 0) n 0 y3.heap.size y3 (Nat.le_refl _) (HV.out.kept By3).row).mono ?_
                  rintro e y4 ⟨rfl, by4⟩
                  rw [mayB_zero c n hc]
                  have By4 : Below cur.heap.size cur y4 := By3.trans (by4.mono By3.size)
                  clear by4
                  go_simp
                  refine hKK.out _ _ (HS.out _ By4) (fun hHeld2 => ?_)
                  clear hKK KK hHeld
                  have hHeld := hHeld2
                  clear hHeld2
                  refine take1 (i := 17) (d := some 91) (v := ?_) rfl rfl (by kernel_rfl) (by kernel_rfl) (by kernel_rfl) (fun _ _ _ h => h) (Or.inl ⟨by rfl, ?_⟩) (by assumption) ?_
                  rotate_left 1
                  · intro w hSw
                    obtain ⟨q0, q1⟩ := hSw
                    go_simp <;> with_reducible rfl
                  simp only [Act.put, List.setIfInBounds_toArray]
                  try simp only [List.set_cons_succ]
                  try simp only [List.set_cons_zero]
                  refine take1 (i := 18) (d := some 2) (v := ?_) rfl rfl (by kernel_rfl) (by kernel_rfl) (by kernel_rfl) (fun _ _ _ h => h) (Or.inl ⟨by rfl, ?_⟩) (by assumption) ?_
                  rotate_left 1
                  · intro w hSw
                    obtain ⟨q0, q1⟩ := hSw
                    go_simp <;> with_reducible rfl
                  simp only [Act.put, List.setIfInBounds_toArray]
                  try simp only [List.set_cons_succ]
                  try simp only [List.set_cons_zero]
                  refine wpAnyH_done (by kernel_rfl) ?_ _
                  clear hHeld HS
                  go_wp2
                  go_ret
                  exact ⟨rfl, HB.out.trans (By4.mono HB.out.size)⟩
  · go_enter Try.func3, Try.ntmps3
    go_wp2_with (go_at_call 8; refine (big_yes _ _ _ _ hl hm).mono ?_; rintro e w' ⟨rfl, rfl⟩)
    go_ret
    exact ⟨rfl, Below.refl _ _⟩
end Go.Proofs.Ytbbckkdinlladaa
