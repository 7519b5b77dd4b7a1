/- The sentence's ShowAudit. -/
import Derived.Test.YtkmhednmgoolgabDoorNAudS
import Derived.Test.YtkmhednmgoolgabDoorNDec
import Derived.Test.YtkmhednmgoolgabDoorNShowM
namespace Go.Proofs.YtkmhednmgoolgabDoor
open Go.RowKit
set_option linter.unusedVariables false
def N5 (b op : Nat) (x : Nt) (w' : World) : Prop := w'.cell? ⟨b, op, none⟩ = some (.int .i64 x.i) ∧ w'.cell? ⟨b, op + 1, none⟩ = some (.int .i64 x.c) ∧ w'.cell? ⟨b, op + 2, none⟩ = some (.int .i64 x.s) ∧ w'.cell? ⟨b, op + 3, none⟩ = some (.int .i64 x.k) ∧ w'.cell? ⟨b, op + 4, none⟩ = some (.int .i64 x.d)
theorem note_sum (s : ByteArray) (x : Nt) : (((((((((s ++ decS x.i) ++ ⟨#[46]⟩) ++ decS x.c) ++ ⟨#[46]⟩) ++ decS x.s) ++ ⟨#[46]⟩) ++ decS x.k) ++ ⟨#[46]⟩) ++ decS x.d) = s ++ noteS x := by
  apply ba_ext
  simp [noteS, noteL, decS, ByteArray.data_append]
set_option maxRecDepth 100000 in
set_option maxHeartbeats 8000000 in
theorem specShowAudit_any (L : List Nt) (v : Value) (fr : Int) (N : Nat) (w : World) (hN : N ≤ w.heap.size) (hr : Row ntE w N v L) (hlo : -9223372036854775808 ≤ fr) (hhi : fr ≤ 9223372036854775807) :
    Calls Tryd.prog 5 #[v, .int .i64 fr] w fun e w' => e = .returned (.string (showS L fr)) ∧ Below w.heap.size w w' := by
  obtain ⟨a, cap, rfl, hl, hm, hcells⟩ := ntE_cell hr
  have HC0 := Hid.intro hcells
  have HR := Hid.intro hr
  clear hcells hr
  cases hA : auditB L with
  | false =>
    have hS := showS_no (.inl hA) (fr := fr)
    rw [hS]
    go_enter Tryd.func5, Tryd.ntmps5
    go_wp2_with fail
    refine (specAuditOk_any L _ N w hN HR.out).mono ?_
    rintro e w1 ⟨rfl, b1⟩
    simp only [hA]
    go_wp2
    go_ret
    exact ⟨rfl, b1⟩
  | true =>
    by_cases hneg : fr < 0
    · have hS := showS_no (.inr hneg) (L := L)
      rw [hS]
      go_enter Tryd.func5, Tryd.ntmps5
      go_wp2_with fail
      refine (specAuditOk_any L _ N w hN HR.out).mono ?_
      rintro e w1 ⟨rfl, b1⟩
      simp only [hA]
      go_wp2
      go_ret
      exact ⟨rfl, b1⟩
    · obtain ⟨f, rfl⟩ := Int.eq_ofNat_of_zero_le (show 0 ≤ fr by omega)
      have HS := Hid.intro (showS_yes hA f)
      have HE := Hid.intro (audit_each hA)
      have h20 := audit_len hA
      go_enter Tryd.func5, Tryd.ntmps5
      go_wp2_with fail
      refine (specAuditOk_any L _ N w hN HR.out).mono ?_
      rintro e w1 ⟨rfl, b1⟩
      have HB1 := Hid.intro b1
      clear b1
      simp only [hA]
      go_wp2_with fail
      go_loopw [5, 6] (fun sv i wr => ∃ (p : Nat), i = .int .i64 (p : Nat) ∧ sv = .string (accS L f p) ∧ f ≤ p ∧ p ≤ f + 6 ∧ (p = f ∨ p ≤ L.length) ∧ Hid (Below w.heap.size w wr)) (fun _ i _ => f + 7 - (intOf i).toNat)
      case atStart => exact ⟨f, rfl, by rw [acc_zero], Nat.le_refl _, by omega, .inl rfl, HB1⟩
      case round =>
        obtain ⟨p, rfl, rfl, hfp, hp6, hpl, HBW⟩ := hrel
        have hzr := HBW.out.size
        by_cases hlt : p < L.length
        · have hlt' : (p : Int) < (L.length : Int) := by omega
          by_cases h6 : p < f + 6
          · have h6' : (p : Int) < (f : Int) + 6 := by omega
            obtain ⟨b2, o2, rfl, hb2, hdd⟩ := HC0.out (by intro h; rw [h] at hlt; simp at hlt)
            obtain ⟨c0, c1, c2, c3, c4⟩ := hdd p hlt
            have hx := HE.out L[p] (List.getElem_mem hlt)
            have hac := acc_step hlt hfp
            have hsz := acc_size HE.out f p hp6
            generalize L[p] = x at c0 c1 c2 c3 c4 hx hac
            replace c0 := atCell HBW.out c0 (by omega)
            replace c1 := atCell HBW.out c1 (by omega)
            replace c2 := atCell HBW.out c2 (by omega)
            replace c3 := atCell HBW.out c3 (by omega)
            replace c4 := atCell HBW.out c4 (by omega)
            have i1 : (0 : Int) ≤ (p : Int) ∧ (p : Int) < (L.length : Int) := by omega
            have HC : Hid (∀ w', Below wr.heap.size wr w' → N5 b2 (o2 + p * 5) x w') := fun w' hb => ⟨atCell hb c0 (by omega), atCell hb c1 (by omega), atCell hb c2 (by omega), atCell hb c3 (by omega), atCell hb c4 (by omega)⟩
            have HAC := Hid.intro hac
            obtain ⟨x1, x2, x3, x4, x5, x6, x7, x8, x9, x10⟩ := hx
            have s1 := decS_size x.i
            have s2 := decS_size x.c
            have s3 := decS_size x.s
            have s4 := decS_size x.k
            have s5 := decS_size x.d
            clear c0 c1 c2 c3 c4 hdd hac
            by_cases hfe : p = f
            · subst hfe
              have hpf : ¬ (p : Int) < (p : Int) := by omega
              have HA2 : Hid (accS L p (p + 1) = accS L p p ++ noteS x) := by have := HAC.out; rw [if_pos rfl] at this; exact this
              go_upto_region 9 with fail
              generalize hsv : accS L p p = s at hsz ⊢
              have HSV := Hid.intro hsv
              clear hsv
              refine wp_region_held_drew (S := N5 b2 (o2 + p * 5) x) (by kernel_rfl) (HC.out _ (Below.refl _ _).drew) (fun hHeld => ?_)
              have BQD : Below wr.heap.size wr wr.drew := (Below.refl _ _).drew
              generalize wr.drew = D at BQD hHeld ⊢
              refine take1 (i := 0) (d := some 32) (v := ?_) rfl rfl (by kernel_rfl) (by kernel_rfl) (by kernel_rfl) (fun _ _ _ h => h) (Or.inl ⟨by rfl, ?_⟩) (by assumption) ?_
              rotate_left 1
              · intro w hSw
                obtain ⟨q0, q1, q2, q3, q4⟩ := hSw
                go_simp <;> with_reducible rfl
              simp only [Act.put, List.setIfInBounds_toArray]
              dsimp only [List.set_cons_succ, List.set_cons_zero]
              refine take1 (i := 1) (d := some 33) (v := ?_) rfl rfl (by kernel_rfl) (by kernel_rfl) (by kernel_rfl) (fun _ _ _ h => h) (Or.inl ⟨by rfl, ?_⟩) (by assumption) ?_
              rotate_left 1
              · intro w hSw
                obtain ⟨q0, q1, q2, q3, q4⟩ := hSw
                go_simp <;> with_reducible rfl
              simp only [Act.put, List.setIfInBounds_toArray]
              dsimp only [List.set_cons_succ, List.set_cons_zero]
              refine take1 (i := 2) (d := some 34) (v := ?_) rfl rfl (by kernel_rfl) (by kernel_rfl) (by kernel_rfl) (fun _ _ _ h => h) (Or.inl ⟨by rfl, ?_⟩) (by assumption) ?_
              rotate_left 1
              · intro w hSw
                obtain ⟨q0, q1, q2, q3, q4⟩ := hSw
                go_simp <;> with_reducible rfl
              simp only [Act.put, List.setIfInBounds_toArray]
              dsimp only [List.set_cons_succ, List.set_cons_zero]
              refine take1 (i := 3) (d := some 35) (v := ?_) rfl rfl (by kernel_rfl) (by kernel_rfl) (by kernel_rfl) (fun _ _ _ h => h) (Or.inl ⟨by rfl, ?_⟩) (by assumption) ?_
              rotate_left 1
              · intro w hSw
                obtain ⟨q0, q1, q2, q3, q4⟩ := hSw
                go_simp <;> with_reducible rfl
              simp only [Act.put, List.setIfInBounds_toArray]
              dsimp only [List.set_cons_succ, List.set_cons_zero]
              refine take1 (i := 4) (d := some 36) (v := ?_) rfl rfl (by kernel_rfl) (by kernel_rfl) (by kernel_rfl) (fun _ _ _ h => h) (Or.inl ⟨by rfl, ?_⟩) (by assumption) ?_
              rotate_left 1
              · intro w hSw
                obtain ⟨q0, q1, q2, q3, q4⟩ := hSw
                go_simp <;> with_reducible rfl
              simp only [Act.put, List.setIfInBounds_toArray]
              dsimp only [List.set_cons_succ, List.set_cons_zero]
              refine take1 (i := 5) (d := some 37) (v := ?_) rfl rfl (by kernel_rfl) (by kernel_rfl) (by kernel_rfl) (fun _ _ _ h => h) (Or.inl ⟨by rfl, ?_⟩) (by assumption) ?_
              rotate_left 1
              · intro w hSw
                obtain ⟨q0, q1, q2, q3, q4⟩ := hSw
                go_simp <;> with_reducible rfl
              simp only [Act.put, List.setIfInBounds_toArray]
              dsimp only [List.set_cons_succ, List.set_cons_zero]
              refine take1 (i := 9) (d := some 41) (v := ?_) rfl rfl (by kernel_rfl) (by kernel_rfl) (by kernel_rfl) (fun _ _ _ h => h) (Or.inl ⟨by rfl, ?_⟩) (by assumption) ?_
              rotate_left 1
              · intro w hSw
                obtain ⟨q0, q1, q2, q3, q4⟩ := hSw
                go_simp <;> with_reducible rfl
              simp only [Act.put, List.setIfInBounds_toArray]
              dsimp only [List.set_cons_succ, List.set_cons_zero]
              refine take1 (i := 10) (d := some 42) (v := ?_) rfl rfl (by kernel_rfl) (by kernel_rfl) (by kernel_rfl) (fun _ _ _ h => h) (Or.inl ⟨by rfl, ?_⟩) (by assumption) ?_
              rotate_left 1
              · intro w hSw
                obtain ⟨q0, q1, q2, q3, q4⟩ := hSw
                go_simp <;> with_reducible rfl
              simp only [Act.put, List.setIfInBounds_toArray]
              dsimp only [List.set_cons_succ, List.set_cons_zero]
              refine take1 (i := 11) (d := some 43) (v := ?_) rfl rfl (by kernel_rfl) (by kernel_rfl) (by kernel_rfl) (fun _ _ _ h => h) (Or.inl ⟨by rfl, ?_⟩) (by assumption) ?_
              rotate_left 1
              · intro w hSw
                obtain ⟨q0, q1, q2, q3, q4⟩ := hSw
                go_simp <;> with_reducible rfl
              simp only [Act.put, List.setIfInBounds_toArray]
              dsimp only [List.set_cons_succ, List.set_cons_zero]
              refine take1 (i := 12) (d := some 44) (v := ?_) rfl rfl (by kernel_rfl) (by kernel_rfl) (by kernel_rfl) (fun _ _ _ h => h) (Or.inl ⟨by rfl, ?_⟩) (by assumption) ?_
              rotate_left 1
              · intro w hSw
                obtain ⟨q0, q1, q2, q3, q4⟩ := hSw
                go_simp <;> with_reducible rfl
              simp only [Act.put, List.setIfInBounds_toArray]
              dsimp only [List.set_cons_succ, List.set_cons_zero]
              refine take1 (i := 13) (d := some 45) (v := ?_) rfl rfl (by kernel_rfl) (by kernel_rfl) (by kernel_rfl) (fun _ _ _ h => h) (Or.inl ⟨by rfl, ?_⟩) (by assumption) ?_
              rotate_left 1
              · intro w hSw
                obtain ⟨q0, q1, q2, q3, q4⟩ := hSw
                go_simp <;> with_reducible rfl
              simp only [Act.put, List.setIfInBounds_toArray]
              dsimp only [List.set_cons_succ, List.set_cons_zero]
              refine take1 (i := 17) (d := some 49) (v := ?_) rfl rfl (by kernel_rfl) (by kernel_rfl) (by kernel_rfl) (fun _ _ _ h => h) (Or.inl ⟨by rfl, ?_⟩) (by assumption) ?_
              rotate_left 1
              · intro w hSw
                obtain ⟨q0, q1, q2, q3, q4⟩ := hSw
                go_simp <;> with_reducible rfl
              simp only [Act.put, List.setIfInBounds_toArray]
              dsimp only [List.set_cons_succ, List.set_cons_zero]
              refine take1 (i := 18) (d := some 50) (v := ?_) rfl rfl (by kernel_rfl) (by kernel_rfl) (by kernel_rfl) (fun _ _ _ h => h) (Or.inl ⟨by rfl, ?_⟩) (by assumption) ?_
              rotate_left 1
              · intro w hSw
                obtain ⟨q0, q1, q2, q3, q4⟩ := hSw
                go_simp <;> with_reducible rfl
              simp only [Act.put, List.setIfInBounds_toArray]
              dsimp only [List.set_cons_succ, List.set_cons_zero]
              refine take1 (i := 19) (d := some 51) (v := ?_) rfl rfl (by kernel_rfl) (by kernel_rfl) (by kernel_rfl) (fun _ _ _ h => h) (Or.inl ⟨by rfl, ?_⟩) (by assumption) ?_
              rotate_left 1
              · intro w hSw
                obtain ⟨q0, q1, q2, q3, q4⟩ := hSw
                go_simp <;> with_reducible rfl
              simp only [Act.put, List.setIfInBounds_toArray]
              dsimp only [List.set_cons_succ, List.set_cons_zero]
              refine take1 (i := 20) (d := some 52) (v := ?_) rfl rfl (by kernel_rfl) (by kernel_rfl) (by kernel_rfl) (fun _ _ _ h => h) (Or.inl ⟨by rfl, ?_⟩) (by assumption) ?_
              rotate_left 1
              · intro w hSw
                obtain ⟨q0, q1, q2, q3, q4⟩ := hSw
                go_simp <;> with_reducible rfl
              simp only [Act.put, List.setIfInBounds_toArray]
              dsimp only [List.set_cons_succ, List.set_cons_zero]
              refine take1 (i := 21) (d := some 53) (v := ?_) rfl rfl (by kernel_rfl) (by kernel_rfl) (by kernel_rfl) (fun _ _ _ h => h) (Or.inl ⟨by rfl, ?_⟩) (by assumption) ?_
              rotate_left 1
              · intro w hSw
                obtain ⟨q0, q1, q2, q3, q4⟩ := hSw
                go_simp <;> with_reducible rfl
              simp only [Act.put, List.setIfInBounds_toArray]
              dsimp only [List.set_cons_succ, List.set_cons_zero]
              refine take1 (i := 25) (d := some 57) (v := ?_) rfl rfl (by kernel_rfl) (by kernel_rfl) (by kernel_rfl) (fun _ _ _ h => h) (Or.inl ⟨by rfl, ?_⟩) (by assumption) ?_
              rotate_left 1
              · intro w hSw
                obtain ⟨q0, q1, q2, q3, q4⟩ := hSw
                go_simp <;> with_reducible rfl
              simp only [Act.put, List.setIfInBounds_toArray]
              dsimp only [List.set_cons_succ, List.set_cons_zero]
              refine take1 (i := 26) (d := some 58) (v := ?_) rfl rfl (by kernel_rfl) (by kernel_rfl) (by kernel_rfl) (fun _ _ _ h => h) (Or.inl ⟨by rfl, ?_⟩) (by assumption) ?_
              rotate_left 1
              · intro w hSw
                obtain ⟨q0, q1, q2, q3, q4⟩ := hSw
                go_simp <;> with_reducible rfl
              simp only [Act.put, List.setIfInBounds_toArray]
              dsimp only [List.set_cons_succ, List.set_cons_zero]
              refine take1 (i := 27) (d := some 59) (v := ?_) rfl rfl (by kernel_rfl) (by kernel_rfl) (by kernel_rfl) (fun _ _ _ h => h) (Or.inl ⟨by rfl, ?_⟩) (by assumption) ?_
              rotate_left 1
              · intro w hSw
                obtain ⟨q0, q1, q2, q3, q4⟩ := hSw
                go_simp <;> with_reducible rfl
              simp only [Act.put, List.setIfInBounds_toArray]
              dsimp only [List.set_cons_succ, List.set_cons_zero]
              refine take1 (i := 28) (d := some 60) (v := ?_) rfl rfl (by kernel_rfl) (by kernel_rfl) (by kernel_rfl) (fun _ _ _ h => h) (Or.inl ⟨by rfl, ?_⟩) (by assumption) ?_
              rotate_left 1
              · intro w hSw
                obtain ⟨q0, q1, q2, q3, q4⟩ := hSw
                go_simp <;> with_reducible rfl
              simp only [Act.put, List.setIfInBounds_toArray]
              dsimp only [List.set_cons_succ, List.set_cons_zero]
              refine take1 (i := 29) (d := some 61) (v := ?_) rfl rfl (by kernel_rfl) (by kernel_rfl) (by kernel_rfl) (fun _ _ _ h => h) (Or.inl ⟨by rfl, ?_⟩) (by assumption) ?_
              rotate_left 1
              · intro w hSw
                obtain ⟨q0, q1, q2, q3, q4⟩ := hSw
                go_simp <;> with_reducible rfl
              simp only [Act.put, List.setIfInBounds_toArray]
              dsimp only [List.set_cons_succ, List.set_cons_zero]
              refine take1 (i := 33) (d := some 65) (v := ?_) rfl rfl (by kernel_rfl) (by kernel_rfl) (by kernel_rfl) (fun _ _ _ h => h) (Or.inl ⟨by rfl, ?_⟩) (by assumption) ?_
              rotate_left 1
              · intro w hSw
                obtain ⟨q0, q1, q2, q3, q4⟩ := hSw
                go_simp <;> with_reducible rfl
              simp only [Act.put, List.setIfInBounds_toArray]
              dsimp only [List.set_cons_succ, List.set_cons_zero]
              refine take1 (i := 34) (d := some 66) (v := ?_) rfl rfl (by kernel_rfl) (by kernel_rfl) (by kernel_rfl) (fun _ _ _ h => h) (Or.inl ⟨by rfl, ?_⟩) (by assumption) ?_
              rotate_left 1
              · intro w hSw
                obtain ⟨q0, q1, q2, q3, q4⟩ := hSw
                go_simp <;> with_reducible rfl
              simp only [Act.put, List.setIfInBounds_toArray]
              dsimp only [List.set_cons_succ, List.set_cons_zero]
              refine take1 (i := 35) (d := some 67) (v := ?_) rfl rfl (by kernel_rfl) (by kernel_rfl) (by kernel_rfl) (fun _ _ _ h => h) (Or.inl ⟨by rfl, ?_⟩) (by assumption) ?_
              rotate_left 1
              · intro w hSw
                obtain ⟨q0, q1, q2, q3, q4⟩ := hSw
                go_simp <;> with_reducible rfl
              simp only [Act.put, List.setIfInBounds_toArray]
              dsimp only [List.set_cons_succ, List.set_cons_zero]
              refine take1 (i := 36) (d := some 68) (v := ?_) rfl rfl (by kernel_rfl) (by kernel_rfl) (by kernel_rfl) (fun _ _ _ h => h) (Or.inl ⟨by rfl, ?_⟩) (by assumption) ?_
              rotate_left 1
              · intro w hSw
                obtain ⟨q0, q1, q2, q3, q4⟩ := hSw
                go_simp <;> with_reducible rfl
              simp only [Act.put, List.setIfInBounds_toArray]
              dsimp only [List.set_cons_succ, List.set_cons_zero]
              refine take1 (i := 37) (d := some 69) (v := ?_) rfl rfl (by kernel_rfl) (by kernel_rfl) (by kernel_rfl) (fun _ _ _ h => h) (Or.inl ⟨by rfl, ?_⟩) (by assumption) ?_
              rotate_left 1
              · intro w hSw
                obtain ⟨q0, q1, q2, q3, q4⟩ := hSw
                go_simp <;> with_reducible rfl
              simp only [Act.put, List.setIfInBounds_toArray]
              dsimp only [List.set_cons_succ, List.set_cons_zero]
              refine wpAnyH_ready (rs := [6]) (by kernel_rfl) (by simp) ?_
              refine AllReadyH.cons rfl (fun KK hKK => ?_) AllReadyH.nil
              go_simp
              refine (specDec_any x.i _ (by omega) (by omega)).mono ?_
              rintro e zq1 ⟨rfl, b9⟩
              have BQzq1 : Below wr.heap.size wr zq1 := BQD.trans (b9.mono BQD.size)
              clear b9 BQD
              go_simp
              refine hKK.out _ _ (HC.out _ BQzq1) (fun hHeld2 => ?_)
              clear hKK KK hHeld
              have hHeld := hHeld2
              clear hHeld2
              refine take1 (i := 7) (d := some 39) (v := .string ((s ++ decS x.i))) rfl rfl (by kernel_rfl) (by kernel_rfl) (by kernel_rfl) (fun _ _ _ h => h) (Or.inl ⟨by rfl, ?_⟩) (by assumption) ?_
              · intro w hSw
                go_simp
                omega
              simp only [Act.put, List.setIfInBounds_toArray]
              dsimp only [List.set_cons_succ, List.set_cons_zero]
              refine take1 (i := 8) (d := some 40) (v := .string (((s ++ decS x.i) ++ ⟨#[46]⟩))) rfl rfl (by kernel_rfl) (by kernel_rfl) (by kernel_rfl) (fun _ _ _ h => h) (Or.inl ⟨by rfl, ?_⟩) (by assumption) ?_
              · intro w hSw
                go_simp
                omega
              simp only [Act.put, List.setIfInBounds_toArray]
              dsimp only [List.set_cons_succ, List.set_cons_zero]
              refine wpAnyH_ready (rs := [14]) (by kernel_rfl) (by simp) ?_
              refine AllReadyH.cons rfl (fun KK hKK => ?_) AllReadyH.nil
              go_simp
              refine (specDec_any x.c _ (by omega) (by omega)).mono ?_
              rintro e zq2 ⟨rfl, b9⟩
              have BQzq2 : Below wr.heap.size wr zq2 := BQzq1.trans (b9.mono BQzq1.size)
              clear b9 BQzq1
              go_simp
              refine hKK.out _ _ (HC.out _ BQzq2) (fun hHeld2 => ?_)
              clear hKK KK hHeld
              have hHeld := hHeld2
              clear hHeld2
              refine take1 (i := 15) (d := some 47) (v := .string ((((s ++ decS x.i) ++ ⟨#[46]⟩) ++ decS x.c))) rfl rfl (by kernel_rfl) (by kernel_rfl) (by kernel_rfl) (fun _ _ _ h => h) (Or.inl ⟨by rfl, ?_⟩) (by assumption) ?_
              · intro w hSw
                go_simp
                omega
              simp only [Act.put, List.setIfInBounds_toArray]
              dsimp only [List.set_cons_succ, List.set_cons_zero]
              refine take1 (i := 16) (d := some 48) (v := .string (((((s ++ decS x.i) ++ ⟨#[46]⟩) ++ decS x.c) ++ ⟨#[46]⟩))) rfl rfl (by kernel_rfl) (by kernel_rfl) (by kernel_rfl) (fun _ _ _ h => h) (Or.inl ⟨by rfl, ?_⟩) (by assumption) ?_
              · intro w hSw
                go_simp
                omega
              simp only [Act.put, List.setIfInBounds_toArray]
              dsimp only [List.set_cons_succ, List.set_cons_zero]
              refine wpAnyH_ready (rs := [22]) (by kernel_rfl) (by simp) ?_
              refine AllReadyH.cons rfl (fun KK hKK => ?_) AllReadyH.nil
              go_simp
              refine (specDec_any x.s _ (by omega) (by omega)).mono ?_
              rintro e zq3 ⟨rfl, b9⟩
              have BQzq3 : Below wr.heap.size wr zq3 := BQzq2.trans (b9.mono BQzq2.size)
              clear b9 BQzq2
              go_simp
              refine hKK.out _ _ (HC.out _ BQzq3) (fun hHeld2 => ?_)
              clear hKK KK hHeld
              have hHeld := hHeld2
              clear hHeld2
              refine take1 (i := 23) (d := some 55) (v := .string ((((((s ++ decS x.i) ++ ⟨#[46]⟩) ++ decS x.c) ++ ⟨#[46]⟩) ++ decS x.s))) rfl rfl (by kernel_rfl) (by kernel_rfl) (by kernel_rfl) (fun _ _ _ h => h) (Or.inl ⟨by rfl, ?_⟩) (by assumption) ?_
              · intro w hSw
                go_simp
                omega
              simp only [Act.put, List.setIfInBounds_toArray]
              dsimp only [List.set_cons_succ, List.set_cons_zero]
              refine take1 (i := 24) (d := some 56) (v := .string (((((((s ++ decS x.i) ++ ⟨#[46]⟩) ++ decS x.c) ++ ⟨#[46]⟩) ++ decS x.s) ++ ⟨#[46]⟩))) rfl rfl (by kernel_rfl) (by kernel_rfl) (by kernel_rfl) (fun _ _ _ h => h) (Or.inl ⟨by rfl, ?_⟩) (by assumption) ?_
              · intro w hSw
                go_simp
                omega
              simp only [Act.put, List.setIfInBounds_toArray]
              dsimp only [List.set_cons_succ, List.set_cons_zero]
              refine wpAnyH_ready (rs := [30]) (by kernel_rfl) (by simp) ?_
              refine AllReadyH.cons rfl (fun KK hKK => ?_) AllReadyH.nil
              go_simp
              refine (specDec_any x.k _ (by omega) (by omega)).mono ?_
              rintro e zq4 ⟨rfl, b9⟩
              have BQzq4 : Below wr.heap.size wr zq4 := BQzq3.trans (b9.mono BQzq3.size)
              clear b9 BQzq3
              go_simp
              refine hKK.out _ _ (HC.out _ BQzq4) (fun hHeld2 => ?_)
              clear hKK KK hHeld
              have hHeld := hHeld2
              clear hHeld2
              refine take1 (i := 31) (d := some 63) (v := .string ((((((((s ++ decS x.i) ++ ⟨#[46]⟩) ++ decS x.c) ++ ⟨#[46]⟩) ++ decS x.s) ++ ⟨#[46]⟩) ++ decS x.k))) rfl rfl (by kernel_rfl) (by kernel_rfl) (by kernel_rfl) (fun _ _ _ h => h) (Or.inl ⟨by rfl, ?_⟩) (by assumption) ?_
              · intro w hSw
                go_simp
                omega
              simp only [Act.put, List.setIfInBounds_toArray]
              dsimp only [List.set_cons_succ, List.set_cons_zero]
              refine take1 (i := 32) (d := some 64) (v := .string (((((((((s ++ decS x.i) ++ ⟨#[46]⟩) ++ decS x.c) ++ ⟨#[46]⟩) ++ decS x.s) ++ ⟨#[46]⟩) ++ decS x.k) ++ ⟨#[46]⟩))) rfl rfl (by kernel_rfl) (by kernel_rfl) (by kernel_rfl) (fun _ _ _ h => h) (Or.inl ⟨by rfl, ?_⟩) (by assumption) ?_
              · intro w hSw
                go_simp
                omega
              simp only [Act.put, List.setIfInBounds_toArray]
              dsimp only [List.set_cons_succ, List.set_cons_zero]
              refine wpAnyH_ready (rs := [38]) (by kernel_rfl) (by simp) ?_
              refine AllReadyH.cons rfl (fun KK hKK => ?_) AllReadyH.nil
              go_simp
              refine (specDec_any x.d _ (by omega) (by omega)).mono ?_
              rintro e zq5 ⟨rfl, b9⟩
              have BQzq5 : Below wr.heap.size wr zq5 := BQzq4.trans (b9.mono BQzq4.size)
              clear b9 BQzq4
              go_simp
              refine hKK.out _ _ (HC.out _ BQzq5) (fun hHeld2 => ?_)
              clear hKK KK hHeld
              have hHeld := hHeld2
              clear hHeld2
              refine take1 (i := 39) (d := some 71) (v := .string ((((((((((s ++ decS x.i) ++ ⟨#[46]⟩) ++ decS x.c) ++ ⟨#[46]⟩) ++ decS x.s) ++ ⟨#[46]⟩) ++ decS x.k) ++ ⟨#[46]⟩) ++ decS x.d))) rfl rfl (by kernel_rfl) (by kernel_rfl) (by kernel_rfl) (fun _ _ _ h => h) (Or.inl ⟨by rfl, ?_⟩) (by assumption) ?_
              · intro w hSw
                go_simp
                omega
              simp only [Act.put, List.setIfInBounds_toArray]
              dsimp only [List.set_cons_succ, List.set_cons_zero]
              refine take1 (i := 40) (d := some 5) (v := ?_) rfl rfl (by kernel_rfl) (by kernel_rfl) (by kernel_rfl) (fun _ _ _ h => h) (Or.inl ⟨by rfl, ?_⟩) (by assumption) ?_
              rotate_left 1
              · intro w hSw
                obtain ⟨q0, q1, q2, q3, q4⟩ := hSw
                go_simp <;> with_reducible rfl
              simp only [Act.put, List.setIfInBounds_toArray]
              dsimp only [List.set_cons_succ, List.set_cons_zero]
              refine wpAnyH_done (by kernel_rfl) ?_ _
              have HBF : Hid (Below w.heap.size w zq5) := HBW.out.trans (BQzq5.mono hzr)
              rw [note_sum]
              clear BQzq5 hHeld
              go_wp2_with fail
              go_roundw
              case rel => exact ⟨p + 1, by go_num, by rw [HA2.out, HSV.out], by omega, by omega, by omega, HBF⟩
              case measure => simp [intOf] <;> omega
            · have hpf : (f : Int) < (p : Int) := by omega
              have HA2 : Hid (accS L f (p + 1) = (accS L f p ++ ⟨#[32]⟩) ++ noteS x) := by have := HAC.out; rw [if_neg hfe] at this; exact this
              have hsz0 := hsz
              replace hsz : (accS L f p ++ ⟨#[32]⟩).size ≤ 1001 := by rw [ByteArray.size_append]; have : (⟨#[32]⟩ : ByteArray).size = 1 := rfl; omega
              go_upto_region 9 with fail
              generalize hsv : accS L f p ++ ⟨#[32]⟩ = s at hsz ⊢
              have HSV := Hid.intro hsv
              clear hsv
              refine wp_region_held_drew (S := N5 b2 (o2 + p * 5) x) (by kernel_rfl) (HC.out _ (Below.refl _ _).drew) (fun hHeld => ?_)
              have BQD : Below wr.heap.size wr wr.drew := (Below.refl _ _).drew
              generalize wr.drew = D at BQD hHeld ⊢
              refine take1 (i := 0) (d := some 32) (v := ?_) rfl rfl (by kernel_rfl) (by kernel_rfl) (by kernel_rfl) (fun _ _ _ h => h) (Or.inl ⟨by rfl, ?_⟩) (by assumption) ?_
              rotate_left 1
              · intro w hSw
                obtain ⟨q0, q1, q2, q3, q4⟩ := hSw
                go_simp <;> with_reducible rfl
              simp only [Act.put, List.setIfInBounds_toArray]
              dsimp only [List.set_cons_succ, List.set_cons_zero]
              refine take1 (i := 1) (d := some 33) (v := ?_) rfl rfl (by kernel_rfl) (by kernel_rfl) (by kernel_rfl) (fun _ _ _ h => h) (Or.inl ⟨by rfl, ?_⟩) (by assumption) ?_
              rotate_left 1
              · intro w hSw
                obtain ⟨q0, q1, q2, q3, q4⟩ := hSw
                go_simp <;> with_reducible rfl
              simp only [Act.put, List.setIfInBounds_toArray]
              dsimp only [List.set_cons_succ, List.set_cons_zero]
              refine take1 (i := 2) (d := some 34) (v := ?_) rfl rfl (by kernel_rfl) (by kernel_rfl) (by kernel_rfl) (fun _ _ _ h => h) (Or.inl ⟨by rfl, ?_⟩) (by assumption) ?_
              rotate_left 1
              · intro w hSw
                obtain ⟨q0, q1, q2, q3, q4⟩ := hSw
                go_simp <;> with_reducible rfl
              simp only [Act.put, List.setIfInBounds_toArray]
              dsimp only [List.set_cons_succ, List.set_cons_zero]
              refine take1 (i := 3) (d := some 35) (v := ?_) rfl rfl (by kernel_rfl) (by kernel_rfl) (by kernel_rfl) (fun _ _ _ h => h) (Or.inl ⟨by rfl, ?_⟩) (by assumption) ?_
              rotate_left 1
              · intro w hSw
                obtain ⟨q0, q1, q2, q3, q4⟩ := hSw
                go_simp <;> with_reducible rfl
              simp only [Act.put, List.setIfInBounds_toArray]
              dsimp only [List.set_cons_succ, List.set_cons_zero]
              refine take1 (i := 4) (d := some 36) (v := ?_) rfl rfl (by kernel_rfl) (by kernel_rfl) (by kernel_rfl) (fun _ _ _ h => h) (Or.inl ⟨by rfl, ?_⟩) (by assumption) ?_
              rotate_left 1
              · intro w hSw
                obtain ⟨q0, q1, q2, q3, q4⟩ := hSw
                go_simp <;> with_reducible rfl
              simp only [Act.put, List.setIfInBounds_toArray]
              dsimp only [List.set_cons_succ, List.set_cons_zero]
              refine take1 (i := 5) (d := some 37) (v := ?_) rfl rfl (by kernel_rfl) (by kernel_rfl) (by kernel_rfl) (fun _ _ _ h => h) (Or.inl ⟨by rfl, ?_⟩) (by assumption) ?_
              rotate_left 1
              · intro w hSw
                obtain ⟨q0, q1, q2, q3, q4⟩ := hSw
                go_simp <;> with_reducible rfl
              simp only [Act.put, List.setIfInBounds_toArray]
              dsimp only [List.set_cons_succ, List.set_cons_zero]
              refine take1 (i := 9) (d := some 41) (v := ?_) rfl rfl (by kernel_rfl) (by kernel_rfl) (by kernel_rfl) (fun _ _ _ h => h) (Or.inl ⟨by rfl, ?_⟩) (by assumption) ?_
              rotate_left 1
              · intro w hSw
                obtain ⟨q0, q1, q2, q3, q4⟩ := hSw
                go_simp <;> with_reducible rfl
              simp only [Act.put, List.setIfInBounds_toArray]
              dsimp only [List.set_cons_succ, List.set_cons_zero]
              refine take1 (i := 10) (d := some 42) (v := ?_) rfl rfl (by kernel_rfl) (by kernel_rfl) (by kernel_rfl) (fun _ _ _ h => h) (Or.inl ⟨by rfl, ?_⟩) (by assumption) ?_
              rotate_left 1
              · intro w hSw
                obtain ⟨q0, q1, q2, q3, q4⟩ := hSw
                go_simp <;> with_reducible rfl
              simp only [Act.put, List.setIfInBounds_toArray]
              dsimp only [List.set_cons_succ, List.set_cons_zero]
              refine take1 (i := 11) (d := some 43) (v := ?_) rfl rfl (by kernel_rfl) (by kernel_rfl) (by kernel_rfl) (fun _ _ _ h => h) (Or.inl ⟨by rfl, ?_⟩) (by assumption) ?_
              rotate_left 1
              · intro w hSw
                obtain ⟨q0, q1, q2, q3, q4⟩ := hSw
                go_simp <;> with_reducible rfl
              simp only [Act.put, List.setIfInBounds_toArray]
              dsimp only [List.set_cons_succ, List.set_cons_zero]
              refine take1 (i := 12) (d := some 44) (v := ?_) rfl rfl (by kernel_rfl) (by kernel_rfl) (by kernel_rfl) (fun _ _ _ h => h) (Or.inl ⟨by rfl, ?_⟩) (by assumption) ?_
              rotate_left 1
              · intro w hSw
                obtain ⟨q0, q1, q2, q3, q4⟩ := hSw
                go_simp <;> with_reducible rfl
              simp only [Act.put, List.setIfInBounds_toArray]
              dsimp only [List.set_cons_succ, List.set_cons_zero]
              refine take1 (i := 13) (d := some 45) (v := ?_) rfl rfl (by kernel_rfl) (by kernel_rfl) (by kernel_rfl) (fun _ _ _ h => h) (Or.inl ⟨by rfl, ?_⟩) (by assumption) ?_
              rotate_left 1
              · intro w hSw
                obtain ⟨q0, q1, q2, q3, q4⟩ := hSw
                go_simp <;> with_reducible rfl
              simp only [Act.put, List.setIfInBounds_toArray]
              dsimp only [List.set_cons_succ, List.set_cons_zero]
              refine take1 (i := 17) (d := some 49) (v := ?_) rfl rfl (by kernel_rfl) (by kernel_rfl) (by kernel_rfl) (fun _ _ _ h => h) (Or.inl ⟨by rfl, ?_⟩) (by assumption) ?_
              rotate_left 1
              · intro w hSw
                obtain ⟨q0, q1, q2, q3, q4⟩ := hSw
                go_simp <;> with_reducible rfl
              simp only [Act.put, List.setIfInBounds_toArray]
              dsimp only [List.set_cons_succ, List.set_cons_zero]
              refine take1 (i := 18) (d := some 50) (v := ?_) rfl rfl (by kernel_rfl) (by kernel_rfl) (by kernel_rfl) (fun _ _ _ h => h) (Or.inl ⟨by rfl, ?_⟩) (by assumption) ?_
              rotate_left 1
              · intro w hSw
                obtain ⟨q0, q1, q2, q3, q4⟩ := hSw
                go_simp <;> with_reducible rfl
              simp only [Act.put, List.setIfInBounds_toArray]
              dsimp only [List.set_cons_succ, List.set_cons_zero]
              refine take1 (i := 19) (d := some 51) (v := ?_) rfl rfl (by kernel_rfl) (by kernel_rfl) (by kernel_rfl) (fun _ _ _ h => h) (Or.inl ⟨by rfl, ?_⟩) (by assumption) ?_
              rotate_left 1
              · intro w hSw
                obtain ⟨q0, q1, q2, q3, q4⟩ := hSw
                go_simp <;> with_reducible rfl
              simp only [Act.put, List.setIfInBounds_toArray]
              dsimp only [List.set_cons_succ, List.set_cons_zero]
              refine take1 (i := 20) (d := some 52) (v := ?_) rfl rfl (by kernel_rfl) (by kernel_rfl) (by kernel_rfl) (fun _ _ _ h => h) (Or.inl ⟨by rfl, ?_⟩) (by assumption) ?_
              rotate_left 1
              · intro w hSw
                obtain ⟨q0, q1, q2, q3, q4⟩ := hSw
                go_simp <;> with_reducible rfl
              simp only [Act.put, List.setIfInBounds_toArray]
              dsimp only [List.set_cons_succ, List.set_cons_zero]
              refine take1 (i := 21) (d := some 53) (v := ?_) rfl rfl (by kernel_rfl) (by kernel_rfl) (by kernel_rfl) (fun _ _ _ h => h) (Or.inl ⟨by rfl, ?_⟩) (by assumption) ?_
              rotate_left 1
              · intro w hSw
                obtain ⟨q0, q1, q2, q3, q4⟩ := hSw
                go_simp <;> with_reducible rfl
              simp only [Act.put, List.setIfInBounds_toArray]
              dsimp only [List.set_cons_succ, List.set_cons_zero]
              refine take1 (i := 25) (d := some 57) (v := ?_) rfl rfl (by kernel_rfl) (by kernel_rfl) (by kernel_rfl) (fun _ _ _ h => h) (Or.inl ⟨by rfl, ?_⟩) (by assumption) ?_
              rotate_left 1
              · intro w hSw
                obtain ⟨q0, q1, q2, q3, q4⟩ := hSw
                go_simp <;> with_reducible rfl
              simp only [Act.put, List.setIfInBounds_toArray]
              dsimp only [List.set_cons_succ, List.set_cons_zero]
              refine take1 (i := 26) (d := some 58) (v := ?_) rfl rfl (by kernel_rfl) (by kernel_rfl) (by kernel_rfl) (fun _ _ _ h => h) (Or.inl ⟨by rfl, ?_⟩) (by assumption) ?_
              rotate_left 1
              · intro w hSw
                obtain ⟨q0, q1, q2, q3, q4⟩ := hSw
                go_simp <;> with_reducible rfl
              simp only [Act.put, List.setIfInBounds_toArray]
              dsimp only [List.set_cons_succ, List.set_cons_zero]
              refine take1 (i := 27) (d := some 59) (v := ?_) rfl rfl (by kernel_rfl) (by kernel_rfl) (by kernel_rfl) (fun _ _ _ h => h) (Or.inl ⟨by rfl, ?_⟩) (by assumption) ?_
              rotate_left 1
              · intro w hSw
                obtain ⟨q0, q1, q2, q3, q4⟩ := hSw
                go_simp <;> with_reducible rfl
              simp only [Act.put, List.setIfInBounds_toArray]
              dsimp only [List.set_cons_succ, List.set_cons_zero]
              refine take1 (i := 28) (d := some 60) (v := ?_) rfl rfl (by kernel_rfl) (by kernel_rfl) (by kernel_rfl) (fun _ _ _ h => h) (Or.inl ⟨by rfl, ?_⟩) (by assumption) ?_
              rotate_left 1
              · intro w hSw
                obtain ⟨q0, q1, q2, q3, q4⟩ := hSw
                go_simp <;> with_reducible rfl
              simp only [Act.put, List.setIfInBounds_toArray]
              dsimp only [List.set_cons_succ, List.set_cons_zero]
              refine take1 (i := 29) (d := some 61) (v := ?_) rfl rfl (by kernel_rfl) (by kernel_rfl) (by kernel_rfl) (fun _ _ _ h => h) (Or.inl ⟨by rfl, ?_⟩) (by assumption) ?_
              rotate_left 1
              · intro w hSw
                obtain ⟨q0, q1, q2, q3, q4⟩ := hSw
                go_simp <;> with_reducible rfl
              simp only [Act.put, List.setIfInBounds_toArray]
              dsimp only [List.set_cons_succ, List.set_cons_zero]
              refine take1 (i := 33) (d := some 65) (v := ?_) rfl rfl (by kernel_rfl) (by kernel_rfl) (by kernel_rfl) (fun _ _ _ h => h) (Or.inl ⟨by rfl, ?_⟩) (by assumption) ?_
              rotate_left 1
              · intro w hSw
                obtain ⟨q0, q1, q2, q3, q4⟩ := hSw
                go_simp <;> with_reducible rfl
              simp only [Act.put, List.setIfInBounds_toArray]
              dsimp only [List.set_cons_succ, List.set_cons_zero]
              refine take1 (i := 34) (d := some 66) (v := ?_) rfl rfl (by kernel_rfl) (by kernel_rfl) (by kernel_rfl) (fun _ _ _ h => h) (Or.inl ⟨by rfl, ?_⟩) (by assumption) ?_
              rotate_left 1
              · intro w hSw
                obtain ⟨q0, q1, q2, q3, q4⟩ := hSw
                go_simp <;> with_reducible rfl
              simp only [Act.put, List.setIfInBounds_toArray]
              dsimp only [List.set_cons_succ, List.set_cons_zero]
              refine take1 (i := 35) (d := some 67) (v := ?_) rfl rfl (by kernel_rfl) (by kernel_rfl) (by kernel_rfl) (fun _ _ _ h => h) (Or.inl ⟨by rfl, ?_⟩) (by assumption) ?_
              rotate_left 1
              · intro w hSw
                obtain ⟨q0, q1, q2, q3, q4⟩ := hSw
                go_simp <;> with_reducible rfl
              simp only [Act.put, List.setIfInBounds_toArray]
              dsimp only [List.set_cons_succ, List.set_cons_zero]
              refine take1 (i := 36) (d := some 68) (v := ?_) rfl rfl (by kernel_rfl) (by kernel_rfl) (by kernel_rfl) (fun _ _ _ h => h) (Or.inl ⟨by rfl, ?_⟩) (by assumption) ?_
              rotate_left 1
              · intro w hSw
                obtain ⟨q0, q1, q2, q3, q4⟩ := hSw
                go_simp <;> with_reducible rfl
              simp only [Act.put, List.setIfInBounds_toArray]
              dsimp only [List.set_cons_succ, List.set_cons_zero]
              refine take1 (i := 37) (d := some 69) (v := ?_) rfl rfl (by kernel_rfl) (by kernel_rfl) (by kernel_rfl) (fun _ _ _ h => h) (Or.inl ⟨by rfl, ?_⟩) (by assumption) ?_
              rotate_left 1
              · intro w hSw
                obtain ⟨q0, q1, q2, q3, q4⟩ := hSw
                go_simp <;> with_reducible rfl
              simp only [Act.put, List.setIfInBounds_toArray]
              dsimp only [List.set_cons_succ, List.set_cons_zero]
              refine wpAnyH_ready (rs := [6]) (by kernel_rfl) (by simp) ?_
              refine AllReadyH.cons rfl (fun KK hKK => ?_) AllReadyH.nil
              go_simp
              refine (specDec_any x.i _ (by omega) (by omega)).mono ?_
              rintro e zq1 ⟨rfl, b9⟩
              have BQzq1 : Below wr.heap.size wr zq1 := BQD.trans (b9.mono BQD.size)
              clear b9 BQD
              go_simp
              refine hKK.out _ _ (HC.out _ BQzq1) (fun hHeld2 => ?_)
              clear hKK KK hHeld
              have hHeld := hHeld2
              clear hHeld2
              refine take1 (i := 7) (d := some 39) (v := .string ((s ++ decS x.i))) rfl rfl (by kernel_rfl) (by kernel_rfl) (by kernel_rfl) (fun _ _ _ h => h) (Or.inl ⟨by rfl, ?_⟩) (by assumption) ?_
              · intro w hSw
                go_simp
                omega
              simp only [Act.put, List.setIfInBounds_toArray]
              dsimp only [List.set_cons_succ, List.set_cons_zero]
              refine take1 (i := 8) (d := some 40) (v := .string (((s ++ decS x.i) ++ ⟨#[46]⟩))) rfl rfl (by kernel_rfl) (by kernel_rfl) (by kernel_rfl) (fun _ _ _ h => h) (Or.inl ⟨by rfl, ?_⟩) (by assumption) ?_
              · intro w hSw
                go_simp
                omega
              simp only [Act.put, List.setIfInBounds_toArray]
              dsimp only [List.set_cons_succ, List.set_cons_zero]
              refine wpAnyH_ready (rs := [14]) (by kernel_rfl) (by simp) ?_
              refine AllReadyH.cons rfl (fun KK hKK => ?_) AllReadyH.nil
              go_simp
              refine (specDec_any x.c _ (by omega) (by omega)).mono ?_
              rintro e zq2 ⟨rfl, b9⟩
              have BQzq2 : Below wr.heap.size wr zq2 := BQzq1.trans (b9.mono BQzq1.size)
              clear b9 BQzq1
              go_simp
              refine hKK.out _ _ (HC.out _ BQzq2) (fun hHeld2 => ?_)
              clear hKK KK hHeld
              have hHeld := hHeld2
              clear hHeld2
              refine take1 (i := 15) (d := some 47) (v := .string ((((s ++ decS x.i) ++ ⟨#[46]⟩) ++ decS x.c))) rfl rfl (by kernel_rfl) (by kernel_rfl) (by kernel_rfl) (fun _ _ _ h => h) (Or.inl ⟨by rfl, ?_⟩) (by assumption) ?_
              · intro w hSw
                go_simp
                omega
              simp only [Act.put, List.setIfInBounds_toArray]
              dsimp only [List.set_cons_succ, List.set_cons_zero]
              refine take1 (i := 16) (d := some 48) (v := .string (((((s ++ decS x.i) ++ ⟨#[46]⟩) ++ decS x.c) ++ ⟨#[46]⟩))) rfl rfl (by kernel_rfl) (by kernel_rfl) (by kernel_rfl) (fun _ _ _ h => h) (Or.inl ⟨by rfl, ?_⟩) (by assumption) ?_
              · intro w hSw
                go_simp
                omega
              simp only [Act.put, List.setIfInBounds_toArray]
              dsimp only [List.set_cons_succ, List.set_cons_zero]
              refine wpAnyH_ready (rs := [22]) (by kernel_rfl) (by simp) ?_
              refine AllReadyH.cons rfl (fun KK hKK => ?_) AllReadyH.nil
              go_simp
              refine (specDec_any x.s _ (by omega) (by omega)).mono ?_
              rintro e zq3 ⟨rfl, b9⟩
              have BQzq3 : Below wr.heap.size wr zq3 := BQzq2.trans (b9.mono BQzq2.size)
              clear b9 BQzq2
              go_simp
              refine hKK.out _ _ (HC.out _ BQzq3) (fun hHeld2 => ?_)
              clear hKK KK hHeld
              have hHeld := hHeld2
              clear hHeld2
              refine take1 (i := 23) (d := some 55) (v := .string ((((((s ++ decS x.i) ++ ⟨#[46]⟩) ++ decS x.c) ++ ⟨#[46]⟩) ++ decS x.s))) rfl rfl (by kernel_rfl) (by kernel_rfl) (by kernel_rfl) (fun _ _ _ h => h) (Or.inl ⟨by rfl, ?_⟩) (by assumption) ?_
              · intro w hSw
                go_simp
                omega
              simp only [Act.put, List.setIfInBounds_toArray]
              dsimp only [List.set_cons_succ, List.set_cons_zero]
              refine take1 (i := 24) (d := some 56) (v := .string (((((((s ++ decS x.i) ++ ⟨#[46]⟩) ++ decS x.c) ++ ⟨#[46]⟩) ++ decS x.s) ++ ⟨#[46]⟩))) rfl rfl (by kernel_rfl) (by kernel_rfl) (by kernel_rfl) (fun _ _ _ h => h) (Or.inl ⟨by rfl, ?_⟩) (by assumption) ?_
              · intro w hSw
                go_simp
                omega
              simp only [Act.put, List.setIfInBounds_toArray]
              dsimp only [List.set_cons_succ, List.set_cons_zero]
              refine wpAnyH_ready (rs := [30]) (by kernel_rfl) (by simp) ?_
              refine AllReadyH.cons rfl (fun KK hKK => ?_) AllReadyH.nil
              go_simp
              refine (specDec_any x.k _ (by omega) (by omega)).mono ?_
              rintro e zq4 ⟨rfl, b9⟩
              have BQzq4 : Below wr.heap.size wr zq4 := BQzq3.trans (b9.mono BQzq3.size)
              clear b9 BQzq3
              go_simp
              refine hKK.out _ _ (HC.out _ BQzq4) (fun hHeld2 => ?_)
              clear hKK KK hHeld
              have hHeld := hHeld2
              clear hHeld2
              refine take1 (i := 31) (d := some 63) (v := .string ((((((((s ++ decS x.i) ++ ⟨#[46]⟩) ++ decS x.c) ++ ⟨#[46]⟩) ++ decS x.s) ++ ⟨#[46]⟩) ++ decS x.k))) rfl rfl (by kernel_rfl) (by kernel_rfl) (by kernel_rfl) (fun _ _ _ h => h) (Or.inl ⟨by rfl, ?_⟩) (by assumption) ?_
              · intro w hSw
                go_simp
                omega
              simp only [Act.put, List.setIfInBounds_toArray]
              dsimp only [List.set_cons_succ, List.set_cons_zero]
              refine take1 (i := 32) (d := some 64) (v := .string (((((((((s ++ decS x.i) ++ ⟨#[46]⟩) ++ decS x.c) ++ ⟨#[46]⟩) ++ decS x.s) ++ ⟨#[46]⟩) ++ decS x.k) ++ ⟨#[46]⟩))) rfl rfl (by kernel_rfl) (by kernel_rfl) (by kernel_rfl) (fun _ _ _ h => h) (Or.inl ⟨by rfl, ?_⟩) (by assumption) ?_
              · intro w hSw
                go_simp
                omega
              simp only [Act.put, List.setIfInBounds_toArray]
              dsimp only [List.set_cons_succ, List.set_cons_zero]
              refine wpAnyH_ready (rs := [38]) (by kernel_rfl) (by simp) ?_
              refine AllReadyH.cons rfl (fun KK hKK => ?_) AllReadyH.nil
              go_simp
              refine (specDec_any x.d _ (by omega) (by omega)).mono ?_
              rintro e zq5 ⟨rfl, b9⟩
              have BQzq5 : Below wr.heap.size wr zq5 := BQzq4.trans (b9.mono BQzq4.size)
              clear b9 BQzq4
              go_simp
              refine hKK.out _ _ (HC.out _ BQzq5) (fun hHeld2 => ?_)
              clear hKK KK hHeld
              have hHeld := hHeld2
              clear hHeld2
              refine take1 (i := 39) (d := some 71) (v := .string ((((((((((s ++ decS x.i) ++ ⟨#[46]⟩) ++ decS x.c) ++ ⟨#[46]⟩) ++ decS x.s) ++ ⟨#[46]⟩) ++ decS x.k) ++ ⟨#[46]⟩) ++ decS x.d))) rfl rfl (by kernel_rfl) (by kernel_rfl) (by kernel_rfl) (fun _ _ _ h => h) (Or.inl ⟨by rfl, ?_⟩) (by assumption) ?_
              · intro w hSw
                go_simp
                omega
              simp only [Act.put, List.setIfInBounds_toArray]
              dsimp only [List.set_cons_succ, List.set_cons_zero]
              refine take1 (i := 40) (d := some 5) (v := ?_) rfl rfl (by kernel_rfl) (by kernel_rfl) (by kernel_rfl) (fun _ _ _ h => h) (Or.inl ⟨by rfl, ?_⟩) (by assumption) ?_
              rotate_left 1
              · intro w hSw
                obtain ⟨q0, q1, q2, q3, q4⟩ := hSw
                go_simp <;> with_reducible rfl
              simp only [Act.put, List.setIfInBounds_toArray]
              dsimp only [List.set_cons_succ, List.set_cons_zero]
              refine wpAnyH_done (by kernel_rfl) ?_ _
              have HBF : Hid (Below w.heap.size w zq5) := HBW.out.trans (BQzq5.mono hzr)
              rw [note_sum]
              clear BQzq5 hHeld
              go_wp2_with fail
              go_roundw
              case rel => exact ⟨p + 1, by go_num, by rw [HA2.out, HSV.out], by omega, by omega, by omega, HBF⟩
              case measure => simp [intOf] <;> omega
          · have h6' : ¬ (p : Int) < (f : Int) + 6 := by omega
            have hE : accS L f p = showS L (f : Nat) := by rw [HS.out, acc_end (by omega) (by omega)]
            go_wp2_with fail
            go_ret
            first | exact ⟨rfl, HBW.out⟩ | exact ⟨ret_str hE, HBW.out⟩
        · have hlt' : ¬ (p : Int) < (L.length : Int) := by omega
          have hE : accS L f p = showS L (f : Nat) := by rw [HS.out, acc_end (by omega) (by omega)]
          go_wp2_with fail
          go_ret
          first | exact ⟨rfl, HBW.out⟩ | exact ⟨ret_str hE, HBW.out⟩
end Go.Proofs.YtkmhednmgoolgabDoor
